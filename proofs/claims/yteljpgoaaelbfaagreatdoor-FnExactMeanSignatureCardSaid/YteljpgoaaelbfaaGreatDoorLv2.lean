/-
  The model's test for letters and levels of chapter 2.
-/
import Derived.Test.YteljpgoaaelbfaaGreatDoorImpIs
namespace Go.Proofs.YteljpgoaaelbfaaGreatDoor
open Go.RowKit

theorem l02Level_c (L V : Int) (w : World) :
    Calls Tryz.prog 41 #[.int .i64 L, .int .i64 V] w fun e w' => e = .returned (.bool (shapeB L V)) ∧ w = w' := by
  cases h1 : inB L 1 3 with
  | false =>
    have Hs := Lib.hid (shape_1 (V := V) h1)
    have H1 := Lib.hid h1
    clear h1
    go_enter Tryz.func41, Tryz.ntmps41
    go_wp2_with (go_at_call 15; refine (l01In_c _ _ _ _).mono ?_; rw [H1.out]; rintro e w' ⟨rfl, rfl⟩)
    go_ret
    exact ⟨ret_bool Hs.out.symm, rfl⟩
  | true =>
    cases h2 : inB V 1 5 with
    | false =>
      have Hs := Lib.hid (shape_2 (L := L) h2)
      have H1 := Lib.hid h1
      have H2 := Lib.hid h2
      clear h1 h2
      go_enter Tryz.func41, Tryz.ntmps41
      go_wp2_with (go_at_call 15; refine (l01In_c _ _ _ _).mono ?_; (first | rw [H1.out] | rw [H2.out]); rintro e w' ⟨rfl, rfl⟩)
      go_ret
      exact ⟨ret_bool Hs.out.symm, rfl⟩
    | true =>
      have H1 := Lib.hid h1
      have H2 := Lib.hid h2
      by_cases h3 : L < 3
      · have Hs := Lib.hid (shape_4 h1 h2 (.inl h3))
        clear h1 h2
        go_enter Tryz.func41, Tryz.ntmps41
        go_wp2_with (go_at_call 15; refine (l01In_c _ _ _ _).mono ?_; (first | rw [H1.out] | rw [H2.out]); rintro e w' ⟨rfl, rfl⟩)
        go_ret
        exact ⟨ret_bool Hs.out.symm, rfl⟩
      · by_cases h4 : V < 5
        · have Hs := Lib.hid (shape_4 h1 h2 (.inr (by omega)))
          clear h1 h2
          go_enter Tryz.func41, Tryz.ntmps41
          go_wp2_with (go_at_call 15; refine (l01In_c _ _ _ _).mono ?_; (first | rw [H1.out] | rw [H2.out]); rintro e w' ⟨rfl, rfl⟩)
          go_ret
          exact ⟨ret_bool Hs.out.symm, rfl⟩
        · have Hs := Lib.hid (shape_3 h3 (show ¬ V ≤ 4 by omega))
          clear h1 h2
          go_enter Tryz.func41, Tryz.ntmps41
          go_wp2_with (go_at_call 15; refine (l01In_c _ _ _ _).mono ?_; (first | rw [H1.out] | rw [H2.out]); rintro e w' ⟨rfl, rfl⟩)
          go_ret
          exact ⟨ret_bool (by rw [Hs.out]; simp; omega), rfl⟩
end Go.Proofs.YteljpgoaaelbfaaGreatDoor
