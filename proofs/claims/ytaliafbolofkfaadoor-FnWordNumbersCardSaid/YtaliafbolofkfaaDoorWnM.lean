/-
  Numbers of words: the number of the word of a number is that number; the words of a length stand in a row of consecutive numbers. Plain mathematics.
-/
import Derived.Test.YtaliafbolofkfaaDoorWoNS
import Derived.Test.YtaliafbolofkfaaDoorNumW
namespace Go.Proofs.YtaliafbolofkfaaDoor

theorem wordS_acc (d : Int) : ∀ (n : Nat) (r : Int) (acc : ByteArray), wordS d n r acc = wordS d n r ByteArray.empty ++ acc
  | 0, r, acc => by simp [wordS]
  | n + 1, r, acc => by
    show wordS d n (r / d) (letW (r % d) ++ acc) = wordS d n (r / d) (letW (r % d) ++ ByteArray.empty) ++ acc
    rw [wordS_acc d n (r / d) (letW (r % d) ++ acc), wordS_acc d n (r / d) (letW (r % d) ++ ByteArray.empty), ByteArray.append_empty, ByteArray.append_assoc]
theorem snoc_list (s : ByteArray) (x : Int) : (s ++ letW x).data.toList = s.data.toList ++ [UInt8.ofNat (48 + x).toNat] := by
  simp [letW, ByteArray.data_append]
theorem letter_nat {x : Int} (h0 : 0 ≤ x) (h1 : x ≤ 2) : ((UInt8.ofNat (48 + x).toNat).toNat : Int) = 48 + x := by
  rw [UInt8.toNat_ofNat']; omega
theorem num_letter (d : Int) (s : ByteArray) {x : Int} (h0 : 0 ≤ x) (h1 : x ≤ 2) : numW d (s ++ letW x).data.toList = numW d s.data.toList * d + x + 1 := by
  rw [snoc_list, numW_snoc, letter_nat h0 h1]; omega
theorem word_letter {d : Int} (s : ByteArray) {x : Int} (h0 : 0 ≤ x) (h1 : x ≤ 2) (hx : x < d) (h : wordB d s.data.toList = true) : wordB d (s ++ letW x).data.toList = true := by
  rw [snoc_list, wordB_snoc, h, letB_yes (by rw [letter_nat h0 h1]; omega) (by rw [letter_nat h0 h1]; omega)]; rfl
theorem word_num {d : Int} (hd : 1 ≤ d ∧ d ≤ 3) : ∀ (n : Nat) (r : Int), 0 ≤ r → r < d ^ n → numW d (wordS d n r ByteArray.empty).data.toList = offs d n + r ∧ wordB d (wordS d n r ByteArray.empty).data.toList = true
  | 0, r, h0, h1 => by
    have hr : r = 0 := by simp at h1; omega
    subst hr
    exact ⟨rfl, rfl⟩
  | n + 1, r, h0, h1 => by
    have m0 : 0 ≤ r % d := Int.emod_nonneg _ (by omega)
    have m1 : r % d < d := Int.emod_lt_of_pos _ (by omega)
    obtain ⟨a, b⟩ := word_num hd n (r / d) (Int.ediv_nonneg h0 (by omega)) (by rw [Int.pow_succ] at h1; exact Int.ediv_lt_of_lt_mul (by omega) h1)
    have e : wordS d (n + 1) r ByteArray.empty = wordS d n (r / d) ByteArray.empty ++ letW (r % d) := by
      show wordS d n (r / d) (letW (r % d) ++ ByteArray.empty) = _
      rw [wordS_acc, ByteArray.append_empty]
    have hs := offs_step (d := d) n
    have hq := Int.mul_ediv_add_emod r d
    refine ⟨?_, ?_⟩
    · rw [e, num_letter d _ m0 (by omega), a, Int.add_mul, Int.mul_comm (offs d n), Int.mul_comm (r / d)]
      omega
    · rw [e]; exact word_letter _ m0 (by omega) m1 b
theorem offs_split (d k : Int) (h0 : 0 ≤ k) : ∀ N, k < offs d N → ∃ (n : Nat) (r : Int), n < N ∧ 0 ≤ r ∧ r < d ^ n ∧ k = offs d n + r
  | 0, h => by simp [offs] at h; omega
  | N + 1, h => by
    by_cases hN : k < offs d N
    · obtain ⟨n, r, a, b⟩ := offs_split d k h0 N hN
      exact ⟨n, r, by omega, b⟩
    · have e : offs d (N + 1) = offs d N + d ^ N := rfl
      exact ⟨N, k - offs d N, by omega, by omega, by omega, by omega⟩

/-- the words of the list have consecutive numbers, from `x` on -/
def chkN (d : Int) : Int → List ByteArray → Bool
  | _, [] => true
  | x, s :: r => decide (s.size ≤ 5) && wordB d s.data.toList && decide (numW d s.data.toList = x) && chkN d (x + 1) r
theorem chk_at (d : Int) : ∀ (l : List ByteArray) (x : Int), chkN d x l = true → ∀ k (h : k < l.length), l[k].size ≤ 5 ∧ wordB d l[k].data.toList = true ∧ numW d l[k].data.toList = x + k
  | [], _, _, k, h => by simp at h
  | s :: r, x, hc, k, h => by
    simp only [chkN, Bool.and_eq_true, decide_eq_true_eq] at hc
    cases k with
    | zero => exact ⟨hc.1.1.1, hc.1.1.2, by simpa using hc.1.2⟩
    | succ k =>
      have ih := chk_at d r (x + 1) hc.2 k (by simpa using h)
      refine ⟨ih.1, ih.2.1, ?_⟩
      have := ih.2.2
      simp only [List.getElem_cons_succ]
      omega
theorem chk_all : ([1, 2, 3].all fun d : Nat => [0, 1, 2, 3, 4, 5].all fun n : Nat => chkN d (offs d n) (wordsL d n)) = true := by decide +kernel
theorem chk_words {d n : Nat} (hd : 1 ≤ d ∧ d ≤ 3) (hn : n ≤ 5) : chkN d (offs d n) (wordsL d n) = true :=
  List.all_eq_true.1 (List.all_eq_true.1 chk_all d (by simp; omega)) n (by simp; omega)
end Go.Proofs.YtaliafbolofkfaaDoor
