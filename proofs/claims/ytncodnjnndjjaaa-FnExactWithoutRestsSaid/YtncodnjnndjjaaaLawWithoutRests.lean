/-
  'FnExactWithoutRests' returns true at every input for which the two functions' contracts stand: the program's WithoutRests and its model's return the same path and code, in memory of its own.
-/
import Derived.Test.YtncodnjnndjjaaaPathRes
namespace Go.Proofs.Ytncodnjnndjjaaa
open Go.RowKit

set_option maxRecDepth 100000 in
set_option maxHeartbeats 8000000 in
theorem law_WithoutRests (n0 : Int) (a1 : Option Addr) (cap1 : Nat) (ps1 : List (List Int)) (hl1 : ps1.length ≤ maxLen) (hs1 : ∀ i (h : i < ps1.length), (ps1[i]).length ≤ maxLen) (w : World) (hr1 : PRow 0 w.heap.size w a1 ps1) (qs' : List (List Int)) (c' : Int) (hq1 : qs'.length ≤ 1048576) (hq2 : flat qs' ≤ 1048576)
    (hS : ∀ (W : World) (b1 : Option Addr) (k1 : Nat), ps1.length ≤ 1048576 → flat ps1 ≤ 1048576 → PRow 0 W.heap.size W b1 ps1 → Calls Try.prog 27 #[.int .i64 n0, .slice b1 ps1.length k1] W (PathPost qs' c' W))
    (hI : ∀ (W : World) (b1 : Option Addr) (k1 : Nat), ps1.length ≤ 1048576 → flat ps1 ≤ 1048576 → PRow 0 W.heap.size W b1 ps1 → Calls Try.prog 28 #[.int .i64 n0, .slice b1 ps1.length k1] W (PathPost qs' c' W))
    : Calls Try.prog 7 #[.int .i64 n0, .slice a1 ps1.length cap1] w fun e w' => e = .returned (.bool true) ∧ Below w.heap.size w w' := by
  have HSp := Lib.hid hS
  have HIm := Lib.hid hI
  have HS1 := Lib.hid hs1
  have R1_0 := Lib.hid hr1
  clear hS hI hs1 hr1
  go_enter Try.func7, Try.ntmps7
  go_wp2_with fail
  refine (szInt64SS_c 0 w.heap.size a1 cap1 ps1 hl1 HS1.out 1048576 (by omega) _ R1_0.out (by omega)).mono ?_
  rintro e w1 ⟨he, hb1⟩
  have hz1 := hb1.size
  have R1_1 := Lib.hid (R1_0.out.below hb1 (by omega))
  have B1 := Lib.hid ((hb1))
  rcases he with rfl | ⟨r1, hr1_0, hr1_1, rfl⟩
  · go_wp2
    go_ret
    exact ⟨rfl, B1.out⟩
  have hl2_1 : ps1.length ≤ 1048576 := by omega
  have hs2_1 : flat ps1 ≤ 1048576 := by omega
  have hrr1 : r1 ≤ 1048576 := by omega
  clear hr1_1 hb1
  go_wp2_with fail
  refine (toInt64SS_c 0 w.heap.size a1 cap1 ps1 hl2_1 hs2_1 _ R1_1.out (by omega)).mono ?_
  rintro e w2 ⟨xs1, rfl, hb2, hN2⟩
  have hz2 := hb2.size
  have R1_2 := Lib.hid (R1_1.out.below hb2 (by omega))
  have B2 := Lib.hid (B1.out.trans (hb2.mono (by omega)))
  have Ns1_2 := Lib.hid hN2
  clear hb2 hN2
  go_wp2_with fail
  refine (HSp.out _ _ _ hl2_1 hs2_1 (Ns1_2.out.row.mono (by omega) (by omega))).mono ?_
  rintro e w3 ⟨xw, cw, rfl, hb3, hN3⟩
  have hz3 := hb3.size
  have R1_3 := Lib.hid (R1_2.out.below hb3 (by omega))
  have Ns1_3 := Lib.hid (Ns1_2.out.below hb3 (by omega))
  have B3 := Lib.hid (B2.out.trans (hb3.mono (by omega)))
  have Nw_3 := Lib.hid hN3
  clear hb3 hN3
  go_wp2_with fail
  refine (toInt64SS_c 0 w.heap.size a1 cap1 ps1 hl2_1 hs2_1 _ R1_3.out (by omega)).mono ?_
  rintro e w4 ⟨xx1, rfl, hb4, hN4⟩
  have hz4 := hb4.size
  have R1_4 := Lib.hid (R1_3.out.below hb4 (by omega))
  have Nw_4 := Lib.hid (Nw_3.out.below hb4 (by omega))
  have B4 := Lib.hid (B3.out.trans (hb4.mono (by omega)))
  have Nx1_4 := Lib.hid hN4
  clear hb4 hN4
  go_wp2_with fail
  refine (HIm.out _ _ _ hl2_1 hs2_1 (Nx1_4.out.row.mono (by omega) (by omega))).mono ?_
  rintro e w5 ⟨xg, cg, rfl, hb5, hN5⟩
  have hz5 := hb5.size
  have R1_5 := Lib.hid (R1_4.out.below hb5 (by omega))
  have Nw_5 := Lib.hid (Nw_4.out.below hb5 (by omega))
  have Nx1_5 := Lib.hid (Nx1_4.out.below hb5 (by omega))
  have B5 := Lib.hid (B4.out.trans (hb5.mono (by omega)))
  have Ng_5 := Lib.hid hN5
  clear hb5 hN5
  go_wp2_with fail
  refine (eqInt64SS_row _ _ _ _ xg xw _ _ qs' hq1 hq2 _ Ng_5.out.row Nw_5.out.row (by omega) (by omega)).mono ?_
  rintro e w6 ⟨rfl, hb6⟩
  have hz6 := hb6.size
  have R1_6 := Lib.hid (R1_5.out.below hb6 (by omega))
  have Nw_6 := Lib.hid (Nw_5.out.below hb6 (by omega))
  have Nx1_6 := Lib.hid (Nx1_5.out.below hb6 (by omega))
  have Ng_6 := Lib.hid (Ng_5.out.below hb6 (by omega))
  have B6 := Lib.hid (B5.out.trans (hb6.mono (by omega)))
  clear hb6
  go_wp2_with fail
  refine (toInt64SS_c 0 w.heap.size a1 cap1 ps1 hl2_1 hs2_1 _ R1_6.out (by omega)).mono ?_
  rintro e w7 ⟨xy1, rfl, hb7, hN7⟩
  have hz7 := hb7.size
  have R1_7 := Lib.hid (R1_6.out.below hb7 (by omega))
  have Nw_7 := Lib.hid (Nw_6.out.below hb7 (by omega))
  have Nx1_7 := Lib.hid (Nx1_6.out.below hb7 (by omega))
  have Ng_7 := Lib.hid (Ng_6.out.below hb7 (by omega))
  have B7 := Lib.hid (B6.out.trans (hb7.mono (by omega)))
  have Ny1_7 := Lib.hid hN7
  clear hb7 hN7
  go_wp2_with fail
  refine (eqInt64SS_row _ _ _ _ xx1 xy1 _ _ ps1 hl2_1 hs2_1 _ Nx1_7.out.row Ny1_7.out.row (by omega) (by omega)).mono ?_
  rintro e w8 ⟨rfl, hb8⟩
  have hz8 := hb8.size
  have R1_8 := Lib.hid (R1_7.out.below hb8 (by omega))
  have Nw_8 := Lib.hid (Nw_7.out.below hb8 (by omega))
  have Nx1_8 := Lib.hid (Nx1_7.out.below hb8 (by omega))
  have Ng_8 := Lib.hid (Ng_7.out.below hb8 (by omega))
  have B8 := Lib.hid (B7.out.trans (hb8.mono (by omega)))
  clear hb8
  go_wp2_with fail
  refine (markInt64SS_row w3.heap.size w4.heap.size xx1 _ ps1 (1) (by omega) (by omega) hl2_1 _ Nx1_8.out).mono ?_
  rintro e w9 ⟨rfl, hO9, hN9⟩
  have hz9 := hO9.size
  have R1_9 := Lib.hid (R1_8.out.outside hO9 (by omega) (by omega))
  have Nw_9 := Lib.hid (Nw_8.out.outside hO9 (by omega))
  have Ng_9 := Lib.hid (Ng_8.out.outside hO9 (by omega))
  have B9 := Lib.hid (B8.out.trans (hO9.below (B := w.heap.size) (by omega) (by omega)))
  clear hO9 hN9
  have hk9 : (0 : Int) ≤ 1 + (flat ps1 : Int) := by omega
  go_wp2_with fail
  refine (eqInt64SS_row _ _ _ _ xg xw _ _ qs' hq1 hq2 _ Ng_9.out.row Nw_9.out.row (by omega) (by omega)).mono ?_
  rintro e w10 ⟨rfl, hb10⟩
  have hz10 := hb10.size
  have R1_10 := Lib.hid (R1_9.out.below hb10 (by omega))
  have Nw_10 := Lib.hid (Nw_9.out.below hb10 (by omega))
  have Ng_10 := Lib.hid (Ng_9.out.below hb10 (by omega))
  have B10 := Lib.hid (B9.out.trans (hb10.mono (by omega)))
  clear hb10
  go_wp2_with fail
  refine (markInt64SS_row w4.heap.size w5.heap.size xg _ qs' 1 (by omega) (by omega) hq1 _ Ng_10.out).mono ?_
  rintro e w11 ⟨rfl, hO11, hN11⟩
  have hz11 := hO11.size
  have R1_11 := Lib.hid (R1_10.out.outside hO11 (by omega) (by omega))
  have Nw_11 := Lib.hid (Nw_10.out.outside hO11 (by omega))
  have B11 := Lib.hid (B10.out.trans (hO11.below (B := w.heap.size) (by omega) (by omega)))
  have M_11 := Lib.hid hN11
  clear hO11 hN11
  have hm11 : (0 : Int) ≤ 1 + (flat qs' : Int) := by omega
  go_wp2_with fail
  refine (heldInt64SS_row w4.heap.size w5.heap.size xg _ qs' 1 (by omega) (by omega) hq1 _ M_11.out).mono ?_
  rintro e w12 ⟨rfl, hb12⟩
  have hz12 := hb12.size
  have R1_12 := Lib.hid (R1_11.out.below hb12 (by omega))
  have Nw_12 := Lib.hid (Nw_11.out.below hb12 (by omega))
  have M_12 := Lib.hid (M_11.out.below hb12 (by omega))
  have B12 := Lib.hid (B11.out.trans (hb12.mono (by omega)))
  clear hb12
  go_wp2_with fail
  refine (toInt64SS_c 0 w.heap.size a1 cap1 ps1 hl2_1 hs2_1 _ R1_12.out (by omega)).mono ?_
  rintro e w13 ⟨xz1, rfl, hb13, hN13⟩
  have hz13 := hb13.size
  have R1_13 := Lib.hid (R1_12.out.below hb13 (by omega))
  have Nw_13 := Lib.hid (Nw_12.out.below hb13 (by omega))
  have M_13 := Lib.hid (M_12.out.below hb13 (by omega))
  have B13 := Lib.hid (B12.out.trans (hb13.mono (by omega)))
  have Nz1_13 := Lib.hid hN13
  clear hb13 hN13
  go_wp2_with fail
  refine (HIm.out _ _ _ hl2_1 hs2_1 (Nz1_13.out.row.mono (by omega) (by omega))).mono ?_
  rintro e w14 ⟨xh, ch, rfl, hb14, hN14⟩
  have hz14 := hb14.size
  have R1_14 := Lib.hid (R1_13.out.below hb14 (by omega))
  have Nw_14 := Lib.hid (Nw_13.out.below hb14 (by omega))
  have M_14 := Lib.hid (M_13.out.below hb14 (by omega))
  have Nz1_14 := Lib.hid (Nz1_13.out.below hb14 (by omega))
  have B14 := Lib.hid (B13.out.trans (hb14.mono (by omega)))
  have Nh_14 := Lib.hid hN14
  clear hb14 hN14
  go_wp2_with fail
  refine (eqInt64SS_row _ _ _ _ xh xw _ _ qs' hq1 hq2 _ Nh_14.out.row Nw_14.out.row (by omega) (by omega)).mono ?_
  rintro e w15 ⟨rfl, hb15⟩
  have hz15 := hb15.size
  have R1_15 := Lib.hid (R1_14.out.below hb15 (by omega))
  have Nw_15 := Lib.hid (Nw_14.out.below hb15 (by omega))
  have M_15 := Lib.hid (M_14.out.below hb15 (by omega))
  have Nz1_15 := Lib.hid (Nz1_14.out.below hb15 (by omega))
  have Nh_15 := Lib.hid (Nh_14.out.below hb15 (by omega))
  have B15 := Lib.hid (B14.out.trans (hb15.mono (by omega)))
  clear hb15
  go_wp2_with fail
  refine (heldInt64SS_row w4.heap.size w5.heap.size xg _ qs' 1 (by omega) (by omega) hq1 _ M_15.out).mono ?_
  rintro e w16 ⟨rfl, hb16⟩
  have hz16 := hb16.size
  have R1_16 := Lib.hid (R1_15.out.below hb16 (by omega))
  have Nw_16 := Lib.hid (Nw_15.out.below hb16 (by omega))
  have M_16 := Lib.hid (M_15.out.below hb16 (by omega))
  have Nz1_16 := Lib.hid (Nz1_15.out.below hb16 (by omega))
  have Nh_16 := Lib.hid (Nh_15.out.below hb16 (by omega))
  have B16 := Lib.hid (B15.out.trans (hb16.mono (by omega)))
  clear hb16
  go_wp2
  go_ret
  exact ⟨rfl, B16.out⟩
end Go.Proofs.Ytncodnjnndjjaaa
