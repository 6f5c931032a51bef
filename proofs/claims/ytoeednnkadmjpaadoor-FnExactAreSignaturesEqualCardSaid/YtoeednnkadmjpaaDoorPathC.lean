/-
  Contracts of the check of one path and a level, of the program and of its model.
-/
import Derived.Test.YtoeednnkadmjpaaDoorIsPath
import Derived.Test.YtoeednnkadmjpaaDoorUnitS
import Derived.Laws.Rows
import Derived.LoopN
namespace Go.Proofs.YtoeednnkadmjpaaDoor
open Go.RowKit

/-- the error of a path and a level -/
def codeP (L V : Int) (ps : List (List Int)) : Int := if pathB L ps = true then (if shapeB L V = true then 0 else 2) else 1
theorem codeP_1 {L V : Int} {ps : List (List Int)} (h : pathB L ps = false) : codeP L V ps = 1 := by simp [codeP, h]
theorem codeP_2 {L V : Int} {ps : List (List Int)} (h : pathB L ps = true) (h2 : shapeB L V = false) : codeP L V ps = 2 := by simp [codeP, h, h2]
theorem codeP_0 {L V : Int} {ps : List (List Int)} (h : pathB L ps = true) (h2 : shapeB L V = true) : codeP L V ps = 0 := by simp [codeP, h, h2]
set_option maxHeartbeats 2000000 in
theorem l04Code1_c (lo hi : Nat) (L V : Int) (a : Option Addr) (cap : Nat) (ps : List (List Int)) (hl : ps.length ≤ 1048576) (hs : flat ps ≤ 1048576) (c cc : Nat) (w : World) (hr : PRow lo hi w a ps) (hc : w.cell? ⟨c, 0, none⟩ = some (.slice a ps.length cap)) :
    Calls Tryd.prog 65 #[.int .i64 L, .int .i64 V, .slice (some ⟨c, 0, none⟩) 1 cc] w fun e w' => e = .returned (.int .i64 (codeP L V ps)) ∧ Below w.heap.size w w' := by
  have HI := Lib.hid (l04Is_c lo hi L a cap ps hl hs w hr)
  have HL := Lib.hid (l02Level_c L V w)
  cases h1 : pathB L ps with
  | false =>
    have HE := Lib.hid (codeP_1 (V := V) h1)
    rw [h1] at HI
    clear hl hs hr h1
    go_enter Tryd.func65, Tryd.ntmps65
    go_wp2
    refine wp_loop_rounds 2 ?_
    rw [rounds_succ]
    go_wp2_with (first | (go_at_call 107; refine HI.out.mono ?_; rintro e w' ⟨rfl, rfl⟩) | fail)
    rw [HE.out]
    go_ret
    exact ⟨rfl, Below.refl _ _⟩
  | true =>
    rw [h1] at HI
    cases h2 : shapeB L V with
    | false =>
      have HE := Lib.hid (codeP_2 h1 h2)
      rw [h2] at HL
      clear hl hs hr h1 h2
      go_enter Tryd.func65, Tryd.ntmps65
      go_wp2
      refine wp_loop_rounds 2 ?_
      rw [rounds_succ]
      go_wp2_with (first | (go_at_call 107; refine HI.out.mono ?_; rintro e w' ⟨rfl, rfl⟩) | fail)
      rw [rounds_succ]
      go_wp2_with (first | (go_at_call 35; refine HL.out.mono ?_; rintro e w' ⟨rfl, rfl⟩) | fail)
      rw [HE.out]
      go_ret
      exact ⟨rfl, Below.refl _ _⟩
    | true =>
      have HE := Lib.hid (codeP_0 h1 h2)
      rw [h2] at HL
      clear hl hs hr h1 h2
      go_enter Tryd.func65, Tryd.ntmps65
      go_wp2
      refine wp_loop_rounds 2 ?_
      rw [rounds_succ]
      go_wp2_with (first | (go_at_call 107; refine HI.out.mono ?_; rintro e w' ⟨rfl, rfl⟩) | fail)
      rw [rounds_succ]
      go_wp2_with (first | (go_at_call 35; refine HL.out.mono ?_; rintro e w' ⟨rfl, rfl⟩) | fail)
      rw [HE.out]
      go_ret
      exact ⟨rfl, Below.refl _ _⟩
set_option maxHeartbeats 2000000 in
theorem checkPaths1_c (lo hi : Nat) (L V : Int) (a : Option Addr) (cap : Nat) (ps : List (List Int)) (hl : ps.length ≤ 1048576) (hs : flat ps ≤ 1048576) (c cc : Nat) (w : World) (hr : PRow lo hi w a ps) (hc : w.cell? ⟨c, 0, none⟩ = some (.slice a ps.length cap)) :
    Calls Tryd.prog 69 #[.int .i64 L, .int .i64 V, .slice (some ⟨c, 0, none⟩) 1 cc] w fun e w' => e = .returned (.int .i64 (codeP L V ps)) ∧ Below w.heap.size w w' := by
  have HI := Lib.hid (iIsPath_c lo hi L a cap ps hl hs w hr)
  have HL := Lib.hid (isShape_c L V w)
  cases h1 : pathB L ps with
  | false =>
    have HE := Lib.hid (codeP_1 (V := V) h1)
    rw [h1] at HI
    clear hl hs hr h1
    go_enter Tryd.func69, Tryd.ntmps69
    go_wp2
    refine wp_loop_rounds 2 ?_
    rw [rounds_succ]
    go_wp2_with (first | (go_at_call 110; refine HI.out.mono ?_; rintro e w' ⟨rfl, rfl⟩) | fail)
    rw [HE.out]
    go_ret
    exact ⟨rfl, Below.refl _ _⟩
  | true =>
    rw [h1] at HI
    cases h2 : shapeB L V with
    | false =>
      have HE := Lib.hid (codeP_2 h1 h2)
      rw [h2] at HL
      clear hl hs hr h1 h2
      go_enter Tryd.func69, Tryd.ntmps69
      go_wp2
      refine wp_loop_rounds 2 ?_
      rw [rounds_succ]
      go_wp2_with (first | (go_at_call 110; refine HI.out.mono ?_; rintro e w' ⟨rfl, rfl⟩) | fail)
      rw [rounds_succ]
      go_wp2_with (first | (go_at_call 37; refine HL.out.mono ?_; rintro e w' ⟨rfl, rfl⟩) | fail)
      rw [HE.out]
      go_ret
      exact ⟨rfl, Below.refl _ _⟩
    | true =>
      have HE := Lib.hid (codeP_0 h1 h2)
      rw [h2] at HL
      clear hl hs hr h1 h2
      go_enter Tryd.func69, Tryd.ntmps69
      go_wp2
      refine wp_loop_rounds 2 ?_
      rw [rounds_succ]
      go_wp2_with (first | (go_at_call 110; refine HI.out.mono ?_; rintro e w' ⟨rfl, rfl⟩) | fail)
      rw [rounds_succ]
      go_wp2_with (first | (go_at_call 37; refine HL.out.mono ?_; rintro e w' ⟨rfl, rfl⟩) | fail)
      rw [HE.out]
      go_ret
      exact ⟨rfl, Below.refl _ _⟩
end Go.Proofs.YtoeednnkadmjpaaDoor
