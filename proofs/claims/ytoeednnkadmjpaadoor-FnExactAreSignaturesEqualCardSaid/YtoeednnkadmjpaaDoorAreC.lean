/-
  Contracts of the check of two paths and a level, of the program and of its model; terms compared one by one.
-/
import Derived.Test.YtoeednnkadmjpaaDoorPathC
namespace Go.Proofs.YtoeednnkadmjpaaDoor
open Go.RowKit

/-- the error of two paths and a level -/
def codeP2 (L V : Int) (ps qs : List (List Int)) : Int := if pathB L ps = true then codeP L V qs else 1
theorem codeP2_1 {L V : Int} {ps qs : List (List Int)} (h : pathB L ps = false) : codeP2 L V ps qs = 1 := by simp [codeP2, h]
theorem codeP2_2 {L V : Int} {ps qs : List (List Int)} (h : pathB L ps = true) (h2 : pathB L qs = false) : codeP2 L V ps qs = 1 := by simp [codeP2, h, codeP_1 h2]
theorem codeP2_3 {L V : Int} {ps qs : List (List Int)} (h : pathB L ps = true) (h2 : pathB L qs = true) (h3 : shapeB L V = false) : codeP2 L V ps qs = 2 := by simp [codeP2, h, codeP_2 h2 h3]
theorem codeP2_0 {L V : Int} {ps qs : List (List Int)} (h : pathB L ps = true) (h2 : pathB L qs = true) (h3 : shapeB L V = true) : codeP2 L V ps qs = 0 := by simp [codeP2, h, codeP_0 h2 h3]
set_option maxHeartbeats 2000000 in
theorem l04Code2_c (lo hi lo2 hi2 : Nat) (L V : Int) (a b : Option Addr) (ca cb : Nat) (ps qs : List (List Int)) (hl : ps.length ≤ 1048576) (hs : flat ps ≤ 1048576) (hl2 : qs.length ≤ 1048576) (hs2 : flat qs ≤ 1048576) (c cc : Nat) (w : World) (hr : PRow lo hi w a ps) (hr2 : PRow lo2 hi2 w b qs)
    (hc : w.cell? ⟨c, 0, none⟩ = some (.slice a ps.length ca)) (hc2 : w.cell? ⟨c, 1, none⟩ = some (.slice b qs.length cb)) :
    Calls Tryd.prog 65 #[.int .i64 L, .int .i64 V, .slice (some ⟨c, 0, none⟩) 2 cc] w fun e w' => e = .returned (.int .i64 (codeP2 L V ps qs)) ∧ Below w.heap.size w w' := by
  have H1 := Lib.hid (l04Is_c lo hi L a ca ps hl hs w hr)
  have H2 := Lib.hid (l04Is_c lo2 hi2 L b cb qs hl2 hs2 w hr2)
  have HL := Lib.hid (l02Level_c L V w)
  cases h1 : pathB L ps with
  | false =>
    have HE := Lib.hid (codeP2_1 (V := V) (qs := qs) h1)
    rw [h1] at H1
    clear hl hs hr h1 hl2 hs2 hr2
    go_enter Tryd.func65, Tryd.ntmps65
    go_wp2
    refine wp_loop_rounds 3 ?_
    rw [rounds_succ]
    go_wp2_with (first | (go_at_call 107; with_reducible refine H1.out.mono ?_; rintro e w' ⟨rfl, rfl⟩) | (go_at_call 107; with_reducible refine H2.out.mono ?_; rintro e w' ⟨rfl, rfl⟩) | fail)
    rw [HE.out]
    go_ret
    exact ⟨rfl, Below.refl _ _⟩
  | true =>
    rw [h1] at H1
    cases h2 : pathB L qs with
    | false =>
      have HE := Lib.hid (codeP2_2 (V := V) h1 h2)
      rw [h2] at H2
      clear hl hs hr h1 hl2 hs2 hr2 h2
      go_enter Tryd.func65, Tryd.ntmps65
      go_wp2
      refine wp_loop_rounds 3 ?_
      rw [rounds_succ]
      go_wp2_with (first | (go_at_call 107; with_reducible refine H1.out.mono ?_; rintro e w' ⟨rfl, rfl⟩) | (go_at_call 107; with_reducible refine H2.out.mono ?_; rintro e w' ⟨rfl, rfl⟩) | fail)
      rw [rounds_succ]
      go_wp2_with (first | (go_at_call 107; with_reducible refine H1.out.mono ?_; rintro e w' ⟨rfl, rfl⟩) | (go_at_call 107; with_reducible refine H2.out.mono ?_; rintro e w' ⟨rfl, rfl⟩) | fail)
      rw [HE.out]
      go_ret
      exact ⟨rfl, Below.refl _ _⟩
    | true =>
      rw [h2] at H2
      cases h3 : shapeB L V with
      | false =>
        have HE := Lib.hid (codeP2_3 h1 h2 h3)
        rw [h3] at HL
        clear hl hs hr h1 hl2 hs2 hr2 h2 h3
        go_enter Tryd.func65, Tryd.ntmps65
        go_wp2
        refine wp_loop_rounds 3 ?_
        rw [rounds_succ]
        go_wp2_with (first | (go_at_call 107; with_reducible refine H1.out.mono ?_; rintro e w' ⟨rfl, rfl⟩) | (go_at_call 107; with_reducible refine H2.out.mono ?_; rintro e w' ⟨rfl, rfl⟩) | fail)
        rw [rounds_succ]
        go_wp2_with (first | (go_at_call 107; with_reducible refine H1.out.mono ?_; rintro e w' ⟨rfl, rfl⟩) | (go_at_call 107; with_reducible refine H2.out.mono ?_; rintro e w' ⟨rfl, rfl⟩) | fail)
        rw [rounds_succ]
        go_wp2_with (first | (go_at_call 107; with_reducible refine H1.out.mono ?_; rintro e w' ⟨rfl, rfl⟩) | (go_at_call 107; with_reducible refine H2.out.mono ?_; rintro e w' ⟨rfl, rfl⟩) | (go_at_call 35; refine HL.out.mono ?_; rintro e w' ⟨rfl, rfl⟩) | fail)
        rw [HE.out]
        go_ret
        exact ⟨rfl, Below.refl _ _⟩
      | true =>
        have HE := Lib.hid (codeP2_0 h1 h2 h3)
        rw [h3] at HL
        clear hl hs hr h1 hl2 hs2 hr2 h2 h3
        go_enter Tryd.func65, Tryd.ntmps65
        go_wp2
        refine wp_loop_rounds 3 ?_
        rw [rounds_succ]
        go_wp2_with (first | (go_at_call 107; with_reducible refine H1.out.mono ?_; rintro e w' ⟨rfl, rfl⟩) | (go_at_call 107; with_reducible refine H2.out.mono ?_; rintro e w' ⟨rfl, rfl⟩) | fail)
        rw [rounds_succ]
        go_wp2_with (first | (go_at_call 107; with_reducible refine H1.out.mono ?_; rintro e w' ⟨rfl, rfl⟩) | (go_at_call 107; with_reducible refine H2.out.mono ?_; rintro e w' ⟨rfl, rfl⟩) | fail)
        rw [rounds_succ]
        go_wp2_with (first | (go_at_call 107; with_reducible refine H1.out.mono ?_; rintro e w' ⟨rfl, rfl⟩) | (go_at_call 107; with_reducible refine H2.out.mono ?_; rintro e w' ⟨rfl, rfl⟩) | (go_at_call 35; refine HL.out.mono ?_; rintro e w' ⟨rfl, rfl⟩) | fail)
        rw [HE.out]
        go_ret
        exact ⟨rfl, Below.refl _ _⟩
set_option maxHeartbeats 2000000 in
theorem checkPaths2_c (lo hi lo2 hi2 : Nat) (L V : Int) (a b : Option Addr) (ca cb : Nat) (ps qs : List (List Int)) (hl : ps.length ≤ 1048576) (hs : flat ps ≤ 1048576) (hl2 : qs.length ≤ 1048576) (hs2 : flat qs ≤ 1048576) (c cc : Nat) (w : World) (hr : PRow lo hi w a ps) (hr2 : PRow lo2 hi2 w b qs)
    (hc : w.cell? ⟨c, 0, none⟩ = some (.slice a ps.length ca)) (hc2 : w.cell? ⟨c, 1, none⟩ = some (.slice b qs.length cb)) :
    Calls Tryd.prog 69 #[.int .i64 L, .int .i64 V, .slice (some ⟨c, 0, none⟩) 2 cc] w fun e w' => e = .returned (.int .i64 (codeP2 L V ps qs)) ∧ Below w.heap.size w w' := by
  have H1 := Lib.hid (iIsPath_c lo hi L a ca ps hl hs w hr)
  have H2 := Lib.hid (iIsPath_c lo2 hi2 L b cb qs hl2 hs2 w hr2)
  have HL := Lib.hid (isShape_c L V w)
  cases h1 : pathB L ps with
  | false =>
    have HE := Lib.hid (codeP2_1 (V := V) (qs := qs) h1)
    rw [h1] at H1
    clear hl hs hr h1 hl2 hs2 hr2
    go_enter Tryd.func69, Tryd.ntmps69
    go_wp2
    refine wp_loop_rounds 3 ?_
    rw [rounds_succ]
    go_wp2_with (first | (go_at_call 110; with_reducible refine H1.out.mono ?_; rintro e w' ⟨rfl, rfl⟩) | (go_at_call 110; with_reducible refine H2.out.mono ?_; rintro e w' ⟨rfl, rfl⟩) | fail)
    rw [HE.out]
    go_ret
    exact ⟨rfl, Below.refl _ _⟩
  | true =>
    rw [h1] at H1
    cases h2 : pathB L qs with
    | false =>
      have HE := Lib.hid (codeP2_2 (V := V) h1 h2)
      rw [h2] at H2
      clear hl hs hr h1 hl2 hs2 hr2 h2
      go_enter Tryd.func69, Tryd.ntmps69
      go_wp2
      refine wp_loop_rounds 3 ?_
      rw [rounds_succ]
      go_wp2_with (first | (go_at_call 110; with_reducible refine H1.out.mono ?_; rintro e w' ⟨rfl, rfl⟩) | (go_at_call 110; with_reducible refine H2.out.mono ?_; rintro e w' ⟨rfl, rfl⟩) | fail)
      rw [rounds_succ]
      go_wp2_with (first | (go_at_call 110; with_reducible refine H1.out.mono ?_; rintro e w' ⟨rfl, rfl⟩) | (go_at_call 110; with_reducible refine H2.out.mono ?_; rintro e w' ⟨rfl, rfl⟩) | fail)
      rw [HE.out]
      go_ret
      exact ⟨rfl, Below.refl _ _⟩
    | true =>
      rw [h2] at H2
      cases h3 : shapeB L V with
      | false =>
        have HE := Lib.hid (codeP2_3 h1 h2 h3)
        rw [h3] at HL
        clear hl hs hr h1 hl2 hs2 hr2 h2 h3
        go_enter Tryd.func69, Tryd.ntmps69
        go_wp2
        refine wp_loop_rounds 3 ?_
        rw [rounds_succ]
        go_wp2_with (first | (go_at_call 110; with_reducible refine H1.out.mono ?_; rintro e w' ⟨rfl, rfl⟩) | (go_at_call 110; with_reducible refine H2.out.mono ?_; rintro e w' ⟨rfl, rfl⟩) | fail)
        rw [rounds_succ]
        go_wp2_with (first | (go_at_call 110; with_reducible refine H1.out.mono ?_; rintro e w' ⟨rfl, rfl⟩) | (go_at_call 110; with_reducible refine H2.out.mono ?_; rintro e w' ⟨rfl, rfl⟩) | fail)
        rw [rounds_succ]
        go_wp2_with (first | (go_at_call 110; with_reducible refine H1.out.mono ?_; rintro e w' ⟨rfl, rfl⟩) | (go_at_call 110; with_reducible refine H2.out.mono ?_; rintro e w' ⟨rfl, rfl⟩) | (go_at_call 37; refine HL.out.mono ?_; rintro e w' ⟨rfl, rfl⟩) | fail)
        rw [HE.out]
        go_ret
        exact ⟨rfl, Below.refl _ _⟩
      | true =>
        have HE := Lib.hid (codeP2_0 h1 h2 h3)
        rw [h3] at HL
        clear hl hs hr h1 hl2 hs2 hr2 h2 h3
        go_enter Tryd.func69, Tryd.ntmps69
        go_wp2
        refine wp_loop_rounds 3 ?_
        rw [rounds_succ]
        go_wp2_with (first | (go_at_call 110; with_reducible refine H1.out.mono ?_; rintro e w' ⟨rfl, rfl⟩) | (go_at_call 110; with_reducible refine H2.out.mono ?_; rintro e w' ⟨rfl, rfl⟩) | fail)
        rw [rounds_succ]
        go_wp2_with (first | (go_at_call 110; with_reducible refine H1.out.mono ?_; rintro e w' ⟨rfl, rfl⟩) | (go_at_call 110; with_reducible refine H2.out.mono ?_; rintro e w' ⟨rfl, rfl⟩) | fail)
        rw [rounds_succ]
        go_wp2_with (first | (go_at_call 110; with_reducible refine H1.out.mono ?_; rintro e w' ⟨rfl, rfl⟩) | (go_at_call 110; with_reducible refine H2.out.mono ?_; rintro e w' ⟨rfl, rfl⟩) | (go_at_call 37; refine HL.out.mono ?_; rintro e w' ⟨rfl, rfl⟩) | fail)
        rw [HE.out]
        go_ret
        exact ⟨rfl, Below.refl _ _⟩
end Go.Proofs.YtoeednnkadmjpaaDoor
