/-
  Contracts of WordsOf, of the program and of its model: both return the same words and code.
-/
import Derived.Test.YtahkahmhagoacaaDoorWds
namespace Go.Proofs.YtahkahmhagoacaaDoor
open Go.RowKit

section
variable (d n : Int) (w : World)
theorem iWordsOf_1 (h : inB d 1 3 = false) : Calls Tryd.prog 55 #[.int .i64 d, .int .i64 n] w (StrPost [] 2 w) := by
  have H := Lib.hid h
  clear h
  go_enter Tryd.func55, Tryd.ntmps55
  go_wp2_with (go_at_call 37; refine (isBetween_c _ _ _ _).mono ?_; rw [H.out]; rintro e w' ⟨rfl, rfl⟩)
  go_ret2
  exact ⟨none, 0, rfl, Below.refl _ _, .inl rfl⟩
theorem iWordsOf_2 (h : inB d 1 3 = true) (h2 : inB n 0 5 = false) : Calls Tryd.prog 55 #[.int .i64 d, .int .i64 n] w (StrPost [] 2 w) := by
  have H := Lib.hid h
  have H2 := Lib.hid h2
  clear h h2
  go_enter Tryd.func55, Tryd.ntmps55
  go_wp2_with (first | (go_at_call 37; refine (isBetween_c _ _ _ _).mono ?_; (first | rw [H.out] | rw [H2.out]); rintro e w' ⟨rfl, rfl⟩))
  go_ret2
  exact ⟨none, 0, rfl, Below.refl _ _, .inl rfl⟩
end
set_option maxHeartbeats 2000000 in
theorem iWordsOf_3 (D N : Nat) (w : World) (hD : 1 ≤ D ∧ D ≤ 3) (hN : N ≤ 5) : Calls Tryd.prog 55 #[.int .i64 D, .int .i64 N] w (StrPost (wordsL D N) 0 w) := by
  have H := Lib.hid (inB_yes (n := (D : Int)) (lo := 1) (hi := 3) (by omega))
  have H2 := Lib.hid (inB_yes (n := (N : Int)) (lo := 0) (hi := 5) (by omega))
  go_enter Tryd.func55, Tryd.ntmps55
  go_wp2_with (first | (go_at_call 37; refine (isBetween_c _ _ _ _).mono ?_; (first | rw [H.out] | rw [H2.out]); rintro e w' ⟨rfl, rfl⟩) | fail)
  go_loopw [6, 17] (fun v vk wr => ∃ (k : Nat) (a : Option Addr) (l c : Nat), k ≤ N ∧ vk = .int .i64 k ∧ v = .slice a l c ∧ l = (wordsL D k).length ∧ NewS w.heap.size wr.heap.size wr a (wordsL D k) ∧ Below w.heap.size w wr) (fun _ vk _ => N - (intOf vk).toNat)
  case atStart => exact ⟨0, _, 1, 1, Nat.zero_le _, rfl, rfl, rfl, (OwnS.one w ByteArray.empty).at_.2, below1 _ _⟩
  case round =>
    obtain ⟨k, a, l, c, hk, rfl, rfl, hl, hNw, hB⟩ := hrel
    have HNw := Lib.hid hNw
    have HB := Lib.hid hB
    have hz := hB.size
    have hfew := wordsL_few (d := D) (n := k) hD.2 (by omega)
    subst hl
    clear hNw hB
    by_cases hlt : k < N
    · go_wp2_with fail
      refine (withNextLetter_c D hD a c (wordsL D k) (by omega) (fun s hs => by have := wordsL_size D k s hs; omega) _ HNw.out.row).mono ?_
      rintro e w1 ⟨a1, c1, rfl, hb1, hN1⟩
      have HB1 := Lib.hid (HB.out.trans (hb1.mono hz))
      have HN1 := Lib.hid (hN1.mono hz (Nat.le_refl _))
      clear hb1 hN1
      go_wp2
      go_roundw
      case rel => exact ⟨k + 1, a1, _, c1, by omega, by go_num, rfl, rfl, HN1.out, HB1.out⟩
      case measure => simp [intOf]; omega
    · obtain rfl : k = N := by omega
      have hkk : ¬ (k : Int) < (k : Int) := by omega
      go_wp2
      go_ret2
      exact ⟨a, c, rfl, HB.out, HNw.out⟩
end Go.Proofs.YtahkahmhagoacaaDoor
