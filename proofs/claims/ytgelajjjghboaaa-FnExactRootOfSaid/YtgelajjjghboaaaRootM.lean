/-
  Plain mathematics of roots: a word that is its own turn by n letters, n a divisor of its length, is its first n letters again and again; and the other way round. No program is named here.
-/
import Derived.Test.YtgelajjjghboaaaNeckM
import Derived.Lib.Bytealg
import Derived.Shelf.Strings.Repeat
namespace Go.Proofs.Ytgelajjjghboaaa

theorem rep_snoc (l : List UInt8) : ∀ k, Lib.repeatL l k ++ l = l ++ Lib.repeatL l k
  | 0 => by simp [Lib.repeatL]
  | k + 1 => by
    show (l ++ Lib.repeatL l k) ++ l = l ++ (l ++ Lib.repeatL l k)
    rw [List.append_assoc, rep_snoc l k]
theorem rep_length (l : List UInt8) : ∀ k, (Lib.repeatL l k).length = l.length * k
  | 0 => by simp [Lib.repeatL]
  | k + 1 => by
    show (l ++ Lib.repeatL l k).length = _
    rw [List.length_append, rep_length l k, Nat.mul_add]; omega
/-- does a list come to itself when n of its first members are moved to its end, n a divisor of its length? -/
def perL (l : List UInt8) (n : Nat) : Prop := n ∣ l.length ∧ l.drop n ++ l.take n = l
theorem turned_take {l : List UInt8} {n : Nat} (h : l.drop n ++ l.take n = l) : ∀ q, q * n ≤ l.length → l.take (q * n) = Lib.repeatL (l.take n) q
  | 0, _ => by simp [Lib.repeatL]
  | q + 1, hq => by
    have hq' : q * n + n ≤ l.length := by rw [Nat.add_mul] at hq; omega
    have e1 : l.take ((q + 1) * n) = l.take n ++ (l.drop n).take (q * n) := by
      rw [Nat.add_mul, Nat.one_mul, Nat.add_comm, List.take_add]
    have e2 : (l.drop n).take (q * n) = l.take (q * n) := by
      have e3 : l.take (q * n) = (l.drop n ++ l.take n).take (q * n) := by rw [h]
      rw [e3, List.take_append_of_le_length (by rw [List.length_drop]; omega)]
    rw [e1, e2, turned_take h q (by omega)]
    rfl
theorem per_rep {l : List UInt8} {n : Nat} (h1 : 1 ≤ n) (hn : n ≤ l.length) : perL l n ↔ Lib.repeatL (l.take n) (l.length / n) = l := by
  constructor
  · rintro ⟨hd, ht⟩
    have e := turned_take ht (l.length / n) (by rw [Nat.div_mul_cancel hd]; exact Nat.le_refl _)
    rw [Nat.div_mul_cancel hd, List.take_length] at e
    exact e.symm
  · intro h
    have hq : 1 ≤ l.length / n := (Nat.one_le_div_iff (by omega)).2 hn
    have hl : (l.take n).length = n := by rw [List.length_take]; omega
    obtain ⟨q, hqe⟩ : ∃ q, l.length / n = q + 1 := ⟨l.length / n - 1, by omega⟩
    rw [hqe] at h
    have e := rep_length (l.take n) (q + 1)
    rw [h, hl] at e
    refine ⟨⟨q + 1, e⟩, ?_⟩
    have h' : l.take n ++ Lib.repeatL (l.take n) q = l := h
    have hdrop : l.drop n = Lib.repeatL (l.take n) q := by
      have : (l.take n ++ Lib.repeatL (l.take n) q).drop n = l.drop n := by rw [h']
      rw [← this, List.drop_append_of_le_length (by omega), List.drop_eq_nil_of_le (by omega), List.nil_append]
    rw [hdrop, rep_snoc]
    exact h'
/-- the same of a text -/
def perS (s : ByteArray) (n : Nat) : Prop := n ∣ s.size ∧ rotS s n = s
theorem rotS_list (s : ByteArray) (n : Nat) : (rotS s n).data.toList = s.data.toList.drop n ++ s.data.toList.take n := by
  have h : s.data.toList.length = s.size := by simp
  simp only [rotS, ByteArray.data_append, Array.toList_append, ByteArray.data_extract, Array.toList_extract, List.extract_eq_take_drop]
  congr 1
  rw [List.take_of_length_le (by rw [List.length_drop, h]; omega)]
theorem bytes_eq {a b : ByteArray} : a = b ↔ a.data.toList = b.data.toList := by
  constructor
  · rintro rfl; rfl
  · intro h
    exact ByteArray.ext (Array.ext' h)
theorem perS_rep {s : ByteArray} {n : Nat} (h1 : 1 ≤ n) (hn : n ≤ s.size) : perS s n ↔ (⟨(Lib.repeatL (s.extract 0 n).data.toList (s.size / n)).toArray⟩ : ByteArray) = s := by
  have hl : s.data.toList.length = s.size := by simp
  have e := per_rep (l := s.data.toList) h1 (by omega)
  rw [hl] at e
  have e2 : (s.extract 0 n).data.toList = s.data.toList.take n := by
    simp [ByteArray.data_extract, Array.toList_extract, List.extract_eq_take_drop]
  rw [bytes_eq, e2]
  show perS s n ↔ Lib.repeatL (s.data.toList.take n) (s.size / n) = s.data.toList
  rw [← e]
  unfold perS perL
  rw [bytes_eq, rotS_list, hl]
/-- the least number of letters of which this is so -/
def IsRoot (s : ByteArray) (n : Nat) : Prop := 1 ≤ n ∧ n ≤ s.size ∧ perS s n ∧ ∀ j, 1 ≤ j → j < n → ¬ perS s j
theorem perS_all {s : ByteArray} (_ : 0 < s.size) : perS s s.size := by
  refine ⟨Nat.dvd_refl _, ?_⟩
  simp [rotS]
theorem least (p : Nat → Prop) : ∀ (f a m : Nat), m = a + f → p m → ∃ n, a ≤ n ∧ n ≤ m ∧ p n ∧ ∀ j, a ≤ j → j < n → ¬ p j
  | 0, a, m, e, h => ⟨m, by omega, Nat.le_refl _, h, fun j h1 h2 => by omega⟩
  | f + 1, a, m, e, h => by
    by_cases ha : p a
    · exact ⟨a, Nat.le_refl _, by omega, ha, fun j h1 h2 => by omega⟩
    · obtain ⟨n, h1, h2, h3, h4⟩ := least p f (a + 1) m (by omega) h
      exact ⟨n, by omega, h2, h3, fun j hj1 hj2 => by
        by_cases hj : j = a
        · subst hj; exact ha
        · exact h4 j (by omega) hj2⟩
theorem root_is {s : ByteArray} (h : 0 < s.size) : ∃ n, IsRoot s n := by
  obtain ⟨n, h1, h2, h3, h4⟩ := least (perS s) (s.size - 1) 1 s.size (by omega) (perS_all h)
  exact ⟨n, h1, h2, h3, h4⟩
end Go.Proofs.Ytgelajjjghboaaa
