/-
  Contracts of the program's LyndonWords: the ways out ahead of the list.
-/
import Derived.Test.YtolbgdgoambliaaLwS
namespace Go.Proofs.Ytolbgdgoambliaa
open Go.RowKit

theorem iLyndonWords_1 (d n : Int) (h : inB d 1 3 = false ∨ inB n 1 8 = false) (w : World) : Calls Try.prog 14 #[.int .i64 d, .int .i64 n] w (StrPost [] 2 w) := by
  cases h1 : inB d 1 3 with
  | false =>
    have H1 := Lib.hid h1
    clear h h1
    go_enter Try.func14, Try.ntmps14
    go_wp2_with (first | (go_at_call 37; refine (isBetween_c _ _ _ _).mono ?_; rw [H1.out]; rintro e w' ⟨rfl, rfl⟩))
    go_ret2
    exact ⟨none, 0, rfl, below1 _ _, .inl rfl⟩
  | true =>
    have H1 := Lib.hid h1
    have H2 := Lib.hid (h.resolve_left (by rw [h1]; simp))
    clear h h1
    go_enter Try.func14, Try.ntmps14
    go_wp2_with (first | (go_at_call 37; refine (isBetween_c _ _ _ _).mono ?_; (first | rw [H1.out] | rw [H2.out]); rintro e w' ⟨rfl, rfl⟩))
    go_ret2
    exact ⟨none, 0, rfl, below1 _ _, .inl rfl⟩
theorem iLyndonWords_2 (d : Int) (n : Nat) (hd : 1 ≤ d ∧ d ≤ 3) (h1 : 1 ≤ n) (hn : n ≤ 8) (hc : ap d 20 n / n > 400) (w : World) : Calls Try.prog 14 #[.int .i64 d, .int .i64 n] w (StrPost [] 3 w) := by
  have H1 := Lib.hid (inB_yes (n := d) (lo := 1) (hi := 3) hd)
  have H2 := Lib.hid (inB_yes (n := (n : Int)) (lo := 1) (hi := 8) (by omega))
  have HC := Lib.hid (iCountLyndon_2 d n hd h1 (by omega))
  obtain ⟨x, hx⟩ : ∃ x, ap d 20 n / n = x := ⟨_, rfl⟩
  rw [hx] at hc HC
  clear hx
  go_enter Try.func14, Try.ntmps14
  go_wp2_with (first | (go_at_call 37; refine (isBetween_c _ _ _ _).mono ?_; (first | rw [H1.out] | rw [H2.out]); rintro e w' ⟨rfl, rfl⟩) | fail)
  refine (HC.out _).mono ?_
  rintro e w1 ⟨rfl, hb⟩
  have HB := Lib.hid ((below1 w (.cells #[.int .i64 n] 2)).trans (hb.mono (by simp)))
  clear hb
  go_wp2
  go_ret2
  exact ⟨none, 0, rfl, HB.out, .inl rfl⟩
end Go.Proofs.Ytolbgdgoambliaa
