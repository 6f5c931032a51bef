/-
  'FnExactAreSignaturesEqual' returns true at every input for which the two functions' contracts stand: the program's AreSignaturesEqual and its model's return the same bool and code.
-/
import Derived.Test.YtoeednnkadmjpaaDoorPaths
namespace Go.Proofs.YtoeednnkadmjpaaDoor
open Go.RowKit

set_option maxRecDepth 100000 in
set_option maxHeartbeats 8000000 in
theorem law_AreSignaturesEqual (n0 n1 : Int) (a2 : Option Addr) (cap2 : Nat) (ps2 : List (List Int)) (hl2 : ps2.length ≤ maxLen) (hs2 : ∀ i (h : i < ps2.length), (ps2[i]).length ≤ maxLen) (a3 : Option Addr) (cap3 : Nat) (ps3 : List (List Int)) (hl3 : ps3.length ≤ maxLen) (hs3 : ∀ i (h : i < ps3.length), (ps3[i]).length ≤ maxLen) (w : World) (hr2 : PRow 0 w.heap.size w a2 ps2) (hr3 : PRow 0 w.heap.size w a3 ps3) (z' : Bool) (c' : Int)
    (hS : ∀ (W : World) (b2 : Option Addr) (k2 : Nat) (b3 : Option Addr) (k3 : Nat), ps2.length ≤ 1048576 → flat ps2 ≤ 1048576 → ps3.length ≤ 1048576 → flat ps3 ≤ 1048576 → PRow 0 W.heap.size W b2 ps2 → PRow 0 W.heap.size W b3 ps3 → Calls Tryd.prog 29 #[.int .i64 n0, .int .i64 n1, .slice b2 ps2.length k2, .slice b3 ps3.length k3] W (fun e w' => e = .returned (.tuple #[.bool z', .int .i64 c']) ∧ Below W.heap.size W w'))
    (hI : ∀ (W : World) (b2 : Option Addr) (k2 : Nat) (b3 : Option Addr) (k3 : Nat), ps2.length ≤ 1048576 → flat ps2 ≤ 1048576 → ps3.length ≤ 1048576 → flat ps3 ≤ 1048576 → PRow 0 W.heap.size W b2 ps2 → PRow 0 W.heap.size W b3 ps3 → Calls Tryd.prog 31 #[.int .i64 n0, .int .i64 n1, .slice b2 ps2.length k2, .slice b3 ps3.length k3] W (fun e w' => e = .returned (.tuple #[.bool z', .int .i64 c']) ∧ Below W.heap.size W w'))
    : Calls Tryd.prog 9 #[.int .i64 n0, .int .i64 n1, .slice a2 ps2.length cap2, .slice a3 ps3.length cap3] w fun e w' => e = .returned (.bool true) ∧ Below w.heap.size w w' := by
  have HSp := Lib.hid hS
  have HIm := Lib.hid hI
  have HS2 := Lib.hid hs2
  have HS3 := Lib.hid hs3
  have R2_0 := Lib.hid hr2
  have R3_0 := Lib.hid hr3
  clear hS hI hs2 hr2 hs3 hr3
  go_enter Tryd.func9, Tryd.ntmps9
  go_wp2_with fail
  refine (szInt64SS_c 0 w.heap.size a2 cap2 ps2 hl2 HS2.out 1048576 (by omega) _ R2_0.out (by omega)).mono ?_
  rintro e w1 ⟨he, hb1⟩
  have hz1 := hb1.size
  have R2_1 := Lib.hid (R2_0.out.below hb1 (by omega))
  have R3_1 := Lib.hid (R3_0.out.below hb1 (by omega))
  have B1 := Lib.hid ((hb1))
  rcases he with rfl | ⟨r2, hr2_0, hr2_1, rfl⟩
  · go_wp2
    go_ret
    exact ⟨rfl, B1.out⟩
  have hl2_2 : ps2.length ≤ 1048576 := by omega
  have hs2_2 : flat ps2 ≤ 1048576 := by omega
  have hrr2 : r2 ≤ 1048576 := by omega
  clear hr2_1 hb1
  go_wp2_with fail
  refine (szInt64SS_c 0 w.heap.size a3 cap3 ps3 hl3 HS3.out r2 (by omega) _ R3_1.out (by omega)).mono ?_
  rintro e w2 ⟨he, hb2⟩
  have hz2 := hb2.size
  have R2_2 := Lib.hid (R2_1.out.below hb2 (by omega))
  have R3_2 := Lib.hid (R3_1.out.below hb2 (by omega))
  have B2 := Lib.hid (B1.out.trans (hb2.mono (by omega)))
  rcases he with rfl | ⟨r3, hr3_0, hr3_1, rfl⟩
  · go_wp2
    go_ret
    exact ⟨rfl, B2.out⟩
  have hl2_3 : ps3.length ≤ 1048576 := by omega
  have hs2_3 : flat ps3 ≤ 1048576 := by omega
  have hrr3 : r3 ≤ 1048576 := by omega
  clear hr3_1 hb2
  go_wp2_with fail
  refine (toInt64SS_c 0 w.heap.size a2 cap2 ps2 hl2_2 hs2_2 _ R2_2.out (by omega)).mono ?_
  rintro e w3 ⟨xs2, rfl, hb3, hN3⟩
  have hz3 := hb3.size
  have R2_3 := Lib.hid (R2_2.out.below hb3 (by omega))
  have R3_3 := Lib.hid (R3_2.out.below hb3 (by omega))
  have B3 := Lib.hid (B2.out.trans (hb3.mono (by omega)))
  have Ns2_3 := Lib.hid hN3
  clear hb3 hN3
  go_wp2_with fail
  refine (toInt64SS_c 0 w.heap.size a3 cap3 ps3 hl2_3 hs2_3 _ R3_3.out (by omega)).mono ?_
  rintro e w4 ⟨xs3, rfl, hb4, hN4⟩
  have hz4 := hb4.size
  have R2_4 := Lib.hid (R2_3.out.below hb4 (by omega))
  have R3_4 := Lib.hid (R3_3.out.below hb4 (by omega))
  have Ns2_4 := Lib.hid (Ns2_3.out.below hb4 (by omega))
  have B4 := Lib.hid (B3.out.trans (hb4.mono (by omega)))
  have Ns3_4 := Lib.hid hN4
  clear hb4 hN4
  go_wp2_with fail
  refine (HSp.out _ _ _ _ _ hl2_2 hs2_2 hl2_3 hs2_3 (Ns2_4.out.row.mono (by omega) (by omega)) (Ns3_4.out.row.mono (by omega) (by omega))).mono ?_
  rintro e w5 ⟨rfl, hb5⟩
  have hz5 := hb5.size
  have R2_5 := Lib.hid (R2_4.out.below hb5 (by omega))
  have R3_5 := Lib.hid (R3_4.out.below hb5 (by omega))
  have Ns2_5 := Lib.hid (Ns2_4.out.below hb5 (by omega))
  have Ns3_5 := Lib.hid (Ns3_4.out.below hb5 (by omega))
  have B5 := Lib.hid (B4.out.trans (hb5.mono (by omega)))
  clear hb5
  go_wp2_with fail
  refine (toInt64SS_c 0 w.heap.size a2 cap2 ps2 hl2_2 hs2_2 _ R2_5.out (by omega)).mono ?_
  rintro e w6 ⟨xx2, rfl, hb6, hN6⟩
  have hz6 := hb6.size
  have R2_6 := Lib.hid (R2_5.out.below hb6 (by omega))
  have R3_6 := Lib.hid (R3_5.out.below hb6 (by omega))
  have B6 := Lib.hid (B5.out.trans (hb6.mono (by omega)))
  have Nx2_6 := Lib.hid hN6
  clear hb6 hN6
  go_wp2_with fail
  refine (toInt64SS_c 0 w.heap.size a3 cap3 ps3 hl2_3 hs2_3 _ R3_6.out (by omega)).mono ?_
  rintro e w7 ⟨xx3, rfl, hb7, hN7⟩
  have hz7 := hb7.size
  have R2_7 := Lib.hid (R2_6.out.below hb7 (by omega))
  have R3_7 := Lib.hid (R3_6.out.below hb7 (by omega))
  have Nx2_7 := Lib.hid (Nx2_6.out.below hb7 (by omega))
  have B7 := Lib.hid (B6.out.trans (hb7.mono (by omega)))
  have Nx3_7 := Lib.hid hN7
  clear hb7 hN7
  go_wp2_with fail
  refine (HIm.out _ _ _ _ _ hl2_2 hs2_2 hl2_3 hs2_3 (Nx2_7.out.row.mono (by omega) (by omega)) (Nx3_7.out.row.mono (by omega) (by omega))).mono ?_
  rintro e w8 ⟨rfl, hb8⟩
  have hz8 := hb8.size
  have R2_8 := Lib.hid (R2_7.out.below hb8 (by omega))
  have R3_8 := Lib.hid (R3_7.out.below hb8 (by omega))
  have Nx2_8 := Lib.hid (Nx2_7.out.below hb8 (by omega))
  have Nx3_8 := Lib.hid (Nx3_7.out.below hb8 (by omega))
  have B8 := Lib.hid (B7.out.trans (hb8.mono (by omega)))
  clear hb8
  go_wp2_with fail
  refine (toInt64SS_c 0 w.heap.size a2 cap2 ps2 hl2_2 hs2_2 _ R2_8.out (by omega)).mono ?_
  rintro e w9 ⟨xy2, rfl, hb9, hN9⟩
  have hz9 := hb9.size
  have R2_9 := Lib.hid (R2_8.out.below hb9 (by omega))
  have R3_9 := Lib.hid (R3_8.out.below hb9 (by omega))
  have Nx2_9 := Lib.hid (Nx2_8.out.below hb9 (by omega))
  have Nx3_9 := Lib.hid (Nx3_8.out.below hb9 (by omega))
  have B9 := Lib.hid (B8.out.trans (hb9.mono (by omega)))
  have Ny2_9 := Lib.hid hN9
  clear hb9 hN9
  go_wp2_with fail
  refine (eqInt64SS_row _ _ _ _ xx2 xy2 _ _ ps2 hl2_2 hs2_2 _ Nx2_9.out.row Ny2_9.out.row (by omega) (by omega)).mono ?_
  rintro e w10 ⟨rfl, hb10⟩
  have hz10 := hb10.size
  have R2_10 := Lib.hid (R2_9.out.below hb10 (by omega))
  have R3_10 := Lib.hid (R3_9.out.below hb10 (by omega))
  have Nx2_10 := Lib.hid (Nx2_9.out.below hb10 (by omega))
  have Nx3_10 := Lib.hid (Nx3_9.out.below hb10 (by omega))
  have B10 := Lib.hid (B9.out.trans (hb10.mono (by omega)))
  clear hb10
  go_wp2_with fail
  refine (toInt64SS_c 0 w.heap.size a3 cap3 ps3 hl2_3 hs2_3 _ R3_10.out (by omega)).mono ?_
  rintro e w11 ⟨xy3, rfl, hb11, hN11⟩
  have hz11 := hb11.size
  have R2_11 := Lib.hid (R2_10.out.below hb11 (by omega))
  have R3_11 := Lib.hid (R3_10.out.below hb11 (by omega))
  have Nx2_11 := Lib.hid (Nx2_10.out.below hb11 (by omega))
  have Nx3_11 := Lib.hid (Nx3_10.out.below hb11 (by omega))
  have B11 := Lib.hid (B10.out.trans (hb11.mono (by omega)))
  have Ny3_11 := Lib.hid hN11
  clear hb11 hN11
  go_wp2_with fail
  refine (eqInt64SS_row _ _ _ _ xx3 xy3 _ _ ps3 hl2_3 hs2_3 _ Nx3_11.out.row Ny3_11.out.row (by omega) (by omega)).mono ?_
  rintro e w12 ⟨rfl, hb12⟩
  have hz12 := hb12.size
  have R2_12 := Lib.hid (R2_11.out.below hb12 (by omega))
  have R3_12 := Lib.hid (R3_11.out.below hb12 (by omega))
  have Nx2_12 := Lib.hid (Nx2_11.out.below hb12 (by omega))
  have Nx3_12 := Lib.hid (Nx3_11.out.below hb12 (by omega))
  have B12 := Lib.hid (B11.out.trans (hb12.mono (by omega)))
  clear hb12
  go_wp2
  go_ret
  exact ⟨rfl, B12.out⟩
end Go.Proofs.YtoeednnkadmjpaaDoor
