/-
  'FnExactFactorsOf' returns true at every input for which the two functions' contracts stand: the program's FactorsOf and its model's return the same words and code, in memory of its own.
-/
import Derived.Test.YtgelajjjghboaaaWordsOf
namespace Go.Proofs.Ytgelajjjghboaaa
open Go.RowKit

set_option maxRecDepth 100000 in
set_option maxHeartbeats 4000000 in
theorem law_FactorsOf (d : Int) (s : ByteArray) (hsm : s.size ≤ 1048576) (w : World) (c' : Int) (ss' : List ByteArray) (hl' : ss'.length ≤ 1048576)
    (hS : ∀ W : World, Calls Try.prog 24 #[.int .i64 d, .string s] W (StrPost ss' c' W))
    (hI : ∀ W : World, Calls Try.prog 25 #[.int .i64 d, .string s] W (StrPost ss' c' W)) :
    Calls Try.prog 8 #[.int .i64 d, .string s] w fun e w' => e = .returned (.bool true) ∧ Below w.heap.size w w' := by
  have hsm2 : ¬ (1048576 : Int) < (s.size : Int) := by omega
  have HSp := Lib.hid hS
  have HIm := Lib.hid hI
  clear hS hI
  go_enter Try.func8, Try.ntmps8
  go_wp2_with fail
  refine (HSp.out _).mono ?_
  rintro e w1 ⟨aw, cw, rfl, hb1, hN1⟩
  have hz01 := hb1.size
  have B1 := Lib.hid hb1
  have K1 := Lib.hid hN1.rowB
  clear hb1 hN1
  go_wp2_with fail
  refine (HIm.out _).mono ?_
  rintro e w2 ⟨ag, cg, rfl, hb2, hN2⟩
  have hz12 := hb2.size
  have K2 := Lib.hid (K1.out.below hb2 (Nat.le_refl _))
  have B2 := Lib.hid (B1.out.trans (hb2.mono hz01))
  have G2 := Lib.hid hN2
  clear hb2 hN2 K1 B1
  go_wp2_with fail
  refine (eqStringS_row ag aw cg cw ss' hl' _ G2.out.row (K2.out.row hz12)).mono ?_
  rintro e w3 ⟨rfl, hb3⟩
  have hz23 := hb3.size
  have K3 := Lib.hid (K2.out.below hb3 hz12)
  have G3 := Lib.hid (G2.out.below hb3 (Nat.le_refl _))
  have B3 := Lib.hid (B2.out.trans (hb3.mono (by omega)))
  clear hb3 K2 G2 B2
  go_wp2_with fail
  refine (markStringS_row w1.heap.size w2.heap.size ag _ ss' 1 (by omega) (by omega) _ G3.out).mono ?_
  rintro e w4 ⟨r4, rfl, hG4, hr4, hN4⟩
  have hz34 := hG4.size
  have K4 := Lib.hid (K3.out.grown hG4 (by omega) (fun g h => (hr4 g h).1))
  have B4 := Lib.hid (B3.out.trans (below_of_grown hG4 (fun g h => by have := (hr4 g h).1; omega) (by omega)))
  have M4 := Lib.hid hN4
  clear hG4 hr4 hN4 K3 G3 B3
  have hk4 : (0 : Int) ≤ 1 + (ss'.length : Int) := by omega
  go_wp2_with fail
  refine (heldStringS_row w1.heap.size w2.heap.size ag _ ss' 1 (by omega) (by omega) _ M4.out).mono ?_
  rintro e w5 ⟨rfl, hb5⟩
  have hz45 := hb5.size
  have K5 := Lib.hid (K4.out.below hb5 (by omega))
  have M5 := Lib.hid (M4.out.below hb5 (by omega))
  have B5 := Lib.hid (B4.out.trans (hb5.mono (by omega)))
  clear hb5 K4 M4 B4
  go_wp2_with fail
  refine (HIm.out _).mono ?_
  rintro e w6 ⟨ah, ch, rfl, hb6, hN6⟩
  have hz56 := hb6.size
  have K6 := Lib.hid (K5.out.below hb6 (by omega))
  have M6 := Lib.hid (M5.out.below hb6 (by omega))
  have B6 := Lib.hid (B5.out.trans (hb6.mono (by omega)))
  have H6 := Lib.hid hN6
  clear hb6 hN6 K5 M5 B5
  go_wp2_with fail
  refine (eqStringS_row ah aw ch cw ss' hl' _ H6.out.row (K6.out.row (by omega))).mono ?_
  rintro e w7 ⟨rfl, hb7⟩
  have hz67 := hb7.size
  have M7 := Lib.hid (M6.out.below hb7 (by omega))
  have B7 := Lib.hid (B6.out.trans (hb7.mono (by omega)))
  clear hb7 K6 M6 B6 H6
  go_wp2_with fail
  refine (heldStringS_row w1.heap.size w2.heap.size ag _ ss' 1 (by omega) (by omega) _ M7.out).mono ?_
  rintro e w8 ⟨rfl, hb8⟩
  have B8 := Lib.hid (B7.out.trans (hb8.mono (by omega)))
  clear hb8
  go_wp2
  go_ret
  exact ⟨rfl, B8.out⟩
end Go.Proofs.Ytgelajjjghboaaa
