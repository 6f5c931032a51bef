/-
  Plain mathematics of cuts and factors of words. No program is named here.
  Contracts of CutOf, of the program and of its model.
-/
import Derived.Test.YtgcjpenlcokgjaaGreatDoorLyn
import Derived.Test.YtgcjpenlcokgjaaGreatDoorNeck
import Derived.Test.YtgcjpenlcokgjaaGreatDoorMapV
namespace Go.Proofs.YtgcjpenlcokgjaaGreatDoor

theorem least_nat (p : Nat → Prop) : ∀ (f a m : Nat), m = a + f → p m → ∃ n, a ≤ n ∧ n ≤ m ∧ p n ∧ ∀ j, a ≤ j → j < n → ¬ p j
  | 0, a, m, e, h => ⟨m, by omega, Nat.le_refl _, h, fun j h1 h2 => by omega⟩
  | f + 1, a, m, e, h => by
    by_cases ha : p a
    · exact ⟨a, Nat.le_refl _, by omega, ha, fun j h1 h2 => by omega⟩
    · obtain ⟨n, h1, h2, h3, h4⟩ := least_nat p f (a + 1) m (by omega) h
      exact ⟨n, by omega, h2, h3, fun j hj1 hj2 => by
        by_cases hj : j = a
        · subst hj; exact ha
        · exact h4 j (by omega) hj2⟩
theorem most_nat (p : Nat → Prop) : ∀ (m : Nat), 1 ≤ m → p 1 → ∃ n, 1 ≤ n ∧ n ≤ m ∧ p n ∧ ∀ j, n < j → j ≤ m → ¬ p j
  | 0, h, _ => by omega
  | m + 1, h, h1 => by
    by_cases hm : p (m + 1)
    · exact ⟨m + 1, h, Nat.le_refl _, hm, fun j h1 h2 => by omega⟩
    · by_cases h0 : m = 0
      · subst h0; exact absurd h1 hm
      · obtain ⟨n, a1, a2, a3, a4⟩ := most_nat p m (by omega) h1
        exact ⟨n, a1, by omega, a3, fun j hj1 hj2 => by
          by_cases hj : j = m + 1
          · subst hj; exact hm
          · exact a4 j hj1 (by omega)⟩
/-- where a word of at least two letters is cut -/
def IsCut (s : ByteArray) (i : Nat) : Prop := 1 ≤ i ∧ i < s.size ∧ lynB (endS s i) = true ∧ ∀ j, 1 ≤ j → j < i → lynB (endS s j) = false
theorem cut_is {s : ByteArray} (h : 2 ≤ s.size) : ∃ i, IsCut s i := by
  obtain ⟨n, h1, h2, h3, h4⟩ := least_nat (fun i => lynB (endS s i) = true) (s.size - 2) 1 (s.size - 1) (by omega) (lynB_letter (by rw [endS_size]; omega))
  exact ⟨n, h1, by omega, h3, fun j a b => Bool.eq_false_iff.2 (h4 j a b)⟩
/-- how many letters the first factor has -/
def IsPre (s : ByteArray) (n : Nat) : Prop := 1 ≤ n ∧ n ≤ s.size ∧ lynB (s.extract 0 n) = true ∧ ∀ j, n < j → j ≤ s.size → lynB (s.extract 0 j) = false
theorem pre_is {s : ByteArray} (h : 1 ≤ s.size) : ∃ n, IsPre s n := by
  obtain ⟨n, h1, h2, h3, h4⟩ := most_nat (fun i => lynB (s.extract 0 i) = true) s.size h (lynB_letter (by rw [ByteArray.size_extract]; omega))
  exact ⟨n, h1, h2, h3, fun j a b => Bool.eq_false_iff.2 (h4 j a b)⟩
/-- the factors of a word -/
inductive Facts : ByteArray → List ByteArray → Prop
  | done (s : ByteArray) : s.size = 0 → Facts s []
  | more (s : ByteArray) (n : Nat) (fs : List ByteArray) : IsPre s n → Facts (endS s n) fs → Facts s (s.extract 0 n :: fs)
theorem facts_is : ∀ (k : Nat) (s : ByteArray), s.size ≤ k → ∃ fs, Facts s fs ∧ fs.length ≤ s.size
  | 0, s, h => ⟨[], .done s (by omega), by simp⟩
  | k + 1, s, h => by
    by_cases h0 : s.size = 0
    · exact ⟨[], .done s h0, by simp⟩
    · obtain ⟨n, hn⟩ := pre_is (s := s) (by omega)
      have hn1 := hn.1
      have hn2 := hn.2.1
      obtain ⟨fs, h1, h2⟩ := facts_is k (endS s n) (by rw [endS_size]; omega)
      rw [endS_size] at h2
      exact ⟨_, .more s n fs hn h1, by simp only [List.length_cons]; omega⟩
theorem Facts.len : ∀ {s : ByteArray} {fs : List ByteArray}, Facts s fs → fs.length ≤ s.size
  | _, _, .done s h => by simp
  | _, _, .more s n fs h1 h2 => by
    have e := h2.len
    rw [endS_size] at e
    have a := h1.1
    have b := h1.2.1
    simp only [List.length_cons]
    omega
end Go.Proofs.YtgcjpenlcokgjaaGreatDoor

namespace Go.Proofs.YtgcjpenlcokgjaaGreatDoor
open Go.RowKit

theorem below_dN2 {B : Nat} {a w : World} (h : Below B a w) (n : Nat) : Below B a (w.drewN n) := ⟨h.os, h.tape, h.output, h.size, h.block⟩

theorem aheadOf_c (s : ByteArray) (i : Nat) (hi : IsCut s i) (hs : s.size ≤ 1048576) (w : World) :
    Calls Tryz.prog 77 #[.string s] w fun e w' => e = .returned (.tuple #[.string (s.extract 0 i), .string (s.extract i s.size)]) ∧ Below w.heap.size w w' := by
  have HI := Lib.hid hi
  have hi1 := hi.1
  have hi2 := hi.2.1
  clear hi
  go_enter Tryz.func77, Tryz.ntmps77
  go_wp2_with fail
  go_loop [4] (fun vi => ∃ k : Nat, 1 ≤ k ∧ k ≤ i ∧ vi = .int .i64 k) (fun vi => s.size - (intOf vi).toNat)
  case atStart => exact ⟨1, Nat.le_refl _, hi1, rfl⟩
  case round =>
    obtain ⟨k, hk1, hk, rfl⟩ := hrel
    have hz : (s.extract k s.size).size ≤ maxLen := by simp only [ByteArray.size_extract]; unfold maxLen; omega
    by_cases hp : k = i
    · have HB : Hid (lynB (s.extract k s.size) = true) := Lib.hid (by rw [hp]; exact HI.out.2.2.1)
      subst hp
      go_wp2_with (first | (go_at_call 70; refine (isLyndon_c _ hz _).mono ?_; rw [HB.out]; rintro e w' ⟨rfl, rfl⟩) | fail)
      go_quiet (fail)
      go_wp2
      go_ret2
      exact ⟨rfl, below_dN2 (Below.refl _ _) _⟩
    · have HB : Hid (lynB (s.extract k s.size) = false) := Lib.hid (HI.out.2.2.2 k hk1 (by omega))
      go_wp2_with (go_at_call 70; refine (isLyndon_c _ hz _).mono ?_; rw [HB.out]; rintro e w' ⟨rfl, rfl⟩)
      go_round
      case rel => exact ⟨k + 1, by omega, by omega, by go_num⟩
      case measure => simp [intOf]; omega

theorem copied_c (s : ByteArray) (hs : s.size ≤ 1048576) (w : World) :
    Calls Tryz.prog 116 #[.string s] w fun e w' => e = .returned (.string s) ∧ Below w.heap.size w w' := by
  go_enter Tryz.func116, Tryz.ntmps116
  go_wp2_with fail
  refine (cloneS_c s hs _).mono ?_
  rintro e w' ⟨rfl, hb⟩
  go_wp2
  go_ret
  exact ⟨rfl, hb⟩

theorem two_owned (w : World) (a b : ByteArray) : OwnS (w.alloc (.cells #[.string a, .string b] 9)) w.heap.size (.slice (some ⟨w.heap.size, 0, none⟩) 2 2) [a, b] :=
  ⟨rfl, .inr ⟨w.heap.size, 2, #[.string a, .string b], rfl, Nat.le_refl _, heap_alloc_new w _, Nat.le_refl _, by unfold maxLen; omega, rfl, rfl⟩⟩
theorem two_new (w : World) (a b : ByteArray) (B : Nat) (hB : B ≤ w.heap.size) : NewS B (w.alloc (.cells #[.string a, .string b] 9)).heap.size (w.alloc (.cells #[.string a, .string b] 9)) (some ⟨w.heap.size, 0, none⟩) [a, b] := by
  obtain ⟨a', c', he, hle, hN⟩ := (two_owned w a b).newS
  injection he with e1 e2 e3
  subst e1
  exact hN.mono hB (Nat.le_refl _)
end Go.Proofs.YtgcjpenlcokgjaaGreatDoor
