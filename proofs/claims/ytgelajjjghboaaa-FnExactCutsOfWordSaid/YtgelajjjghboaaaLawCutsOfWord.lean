/-
  'FnExactCutsOfWord' returns true at every input for which the two functions' contracts stand: the program's CutsOfWord and its model's return the same rows of words and code, in memory of its own.
-/
import Derived.Test.YtgelajjjghboaaaCutsW
namespace Go.Proofs.Ytgelajjjghboaaa
open Go.RowKit

set_option maxRecDepth 100000 in
set_option maxHeartbeats 8000000 in
theorem law_CutsOfWord (d : Int) (s : ByteArray) (hsm : s.size ≤ 1048576) (w : World) (c' : Int) (qs' : List (List ByteArray)) (hq1 : qs'.length ≤ 1048576) (hq2 : flatS qs' ≤ 1048576)
    (hS : ∀ W : World, Calls Try.prog 28 #[.int .i64 d, .string s] W (CutsPost qs' c' W))
    (hI : ∀ W : World, Calls Try.prog 29 #[.int .i64 d, .string s] W (CutsPost qs' c' W)) :
    Calls Try.prog 10 #[.int .i64 d, .string s] w fun e w' => e = .returned (.bool true) ∧ Below w.heap.size w w' := by
  have hsm2 : ¬ (1048576 : Int) < (s.size : Int) := by omega
  have HSp := Lib.hid hS
  have HIm := Lib.hid hI
  clear hS hI
  go_enter Try.func10, Try.ntmps10
  go_wp2_with fail
  refine (HSp.out _).mono ?_
  rintro e w1 ⟨aw, cw, rfl, hb1, hN1⟩
  have hz1 := hb1.size
  have B1 := Lib.hid hb1
  have K1 := Lib.hid hN1
  clear hb1 hN1
  go_wp2_with fail
  refine (HIm.out _).mono ?_
  rintro e w2 ⟨ag, cg, rfl, hb2, hN2⟩
  have hz2 := hb2.size
  have K2 := Lib.hid (K1.out.below hb2 (Nat.le_refl _))
  have B2 := Lib.hid (B1.out.trans (hb2.mono hz1))
  have G2 := Lib.hid hN2
  clear hb2 hN2 K1 B1
  go_wp2_with fail
  refine (eqStringSS_row _ _ _ _ ag aw _ _ qs' hq1 hq2 _ G2.out.row K2.out.row (Nat.le_refl _) hz2).mono ?_
  rintro e w3 ⟨rfl, hb3⟩
  have hz3 := hb3.size
  have K3 := Lib.hid (K2.out.below hb3 hz2)
  have G3 := Lib.hid (G2.out.below hb3 (Nat.le_refl _))
  have B3 := Lib.hid (B2.out.trans (hb3.mono (by omega)))
  clear hb3 K2 G2 B2
  go_wp2_with fail
  refine (markStringSS_row w1.heap.size w2.heap.size ag _ qs' 1 (by omega) (by omega) hq1 _ G3.out).mono ?_
  rintro e w4 ⟨rfl, hO4, hN4⟩
  have hz4 := hO4.size
  have K4 := Lib.hid (K3.out.outside hO4 (by omega))
  have B4 := Lib.hid (B3.out.trans (hO4.below (B := w.heap.size) (by omega) (by omega)))
  have M4 := Lib.hid hN4
  clear hO4 hN4 K3 G3 B3
  have hk4 : (0 : Int) ≤ 1 + (flatS qs' : Int) := by omega
  go_wp2_with fail
  refine (heldStringSS_row w1.heap.size w2.heap.size ag _ qs' 1 (by omega) (by omega) hq1 _ M4.out).mono ?_
  rintro e w5 ⟨rfl, hb5⟩
  have hz5 := hb5.size
  have K5 := Lib.hid (K4.out.below hb5 (by omega))
  have M5 := Lib.hid (M4.out.below hb5 (by omega))
  have B5 := Lib.hid (B4.out.trans (hb5.mono (by omega)))
  clear hb5 K4 M4 B4
  go_wp2_with fail
  refine (HIm.out _).mono ?_
  rintro e w6 ⟨ah, ch, rfl, hb6, hN6⟩
  have hz6 := hb6.size
  have K6 := Lib.hid (K5.out.below hb6 (by omega))
  have M6 := Lib.hid (M5.out.below hb6 (by omega))
  have B6 := Lib.hid (B5.out.trans (hb6.mono (by omega)))
  have H6 := Lib.hid hN6
  clear hb6 hN6 K5 M5 B5
  go_wp2_with fail
  refine (eqStringSS_row _ _ _ _ ah aw _ _ qs' hq1 hq2 _ H6.out.row K6.out.row (Nat.le_refl _) (by omega)).mono ?_
  rintro e w7 ⟨rfl, hb7⟩
  have hz7 := hb7.size
  have M7 := Lib.hid (M6.out.below hb7 (by omega))
  have B7 := Lib.hid (B6.out.trans (hb7.mono (by omega)))
  clear hb7 K6 M6 B6 H6
  go_wp2_with fail
  refine (heldStringSS_row w1.heap.size w2.heap.size ag _ qs' 1 (by omega) (by omega) hq1 _ M7.out).mono ?_
  rintro e w8 ⟨rfl, hb8⟩
  have B8 := Lib.hid (B7.out.trans (hb8.mono (by omega)))
  clear hb8
  go_wp2
  go_ret
  exact ⟨rfl, B8.out⟩
end Go.Proofs.Ytgelajjjghboaaa
