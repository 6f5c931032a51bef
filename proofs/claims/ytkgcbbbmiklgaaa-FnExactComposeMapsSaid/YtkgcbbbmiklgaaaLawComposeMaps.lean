/-
  'FnExactComposeMaps' returns true at every input for which the two functions' contracts stand: the program's ComposeMaps and its model's return the same path and code, in memory of its own.
-/
import Derived.Test.YtkgcbbbmiklgaaaPathRes
namespace Go.Proofs.Ytkgcbbbmiklgaaa
open Go.RowKit

set_option maxRecDepth 100000 in
set_option maxHeartbeats 8000000 in
theorem law_ComposeMaps (n0 n1 n2 : Int) (a3 : Option Addr) (cap3 : Nat) (ps3 : List (List Int)) (hl3 : ps3.length ≤ maxLen) (hs3 : ∀ i (h : i < ps3.length), (ps3[i]).length ≤ maxLen) (a4 : Option Addr) (cap4 : Nat) (ps4 : List (List Int)) (hl4 : ps4.length ≤ maxLen) (hs4 : ∀ i (h : i < ps4.length), (ps4[i]).length ≤ maxLen) (w : World) (hr3 : PRow 0 w.heap.size w a3 ps3) (hr4 : PRow 0 w.heap.size w a4 ps4) (qs' : List (List Int)) (c' : Int) (hq1 : qs'.length ≤ 1048576) (hq2 : flat qs' ≤ 1048576)
    (hS : ∀ (W : World) (b3 : Option Addr) (k3 : Nat) (b4 : Option Addr) (k4 : Nat), ps3.length ≤ 1048576 → flat ps3 ≤ 1048576 → ps4.length ≤ 1048576 → flat ps4 ≤ 1048576 → PRow 0 W.heap.size W b3 ps3 → PRow 0 W.heap.size W b4 ps4 → Calls Try.prog 24 #[.int .i64 n0, .int .i64 n1, .int .i64 n2, .slice b3 ps3.length k3, .slice b4 ps4.length k4] W (PathPost qs' c' W))
    (hI : ∀ (W : World) (b3 : Option Addr) (k3 : Nat) (b4 : Option Addr) (k4 : Nat), ps3.length ≤ 1048576 → flat ps3 ≤ 1048576 → ps4.length ≤ 1048576 → flat ps4 ≤ 1048576 → PRow 0 W.heap.size W b3 ps3 → PRow 0 W.heap.size W b4 ps4 → Calls Try.prog 25 #[.int .i64 n0, .int .i64 n1, .int .i64 n2, .slice b3 ps3.length k3, .slice b4 ps4.length k4] W (PathPost qs' c' W))
    : Calls Try.prog 6 #[.int .i64 n0, .int .i64 n1, .int .i64 n2, .slice a3 ps3.length cap3, .slice a4 ps4.length cap4] w fun e w' => e = .returned (.bool true) ∧ Below w.heap.size w w' := by
  have HSp := Lib.hid hS
  have HIm := Lib.hid hI
  have HS3 := Lib.hid hs3
  have HS4 := Lib.hid hs4
  have R3_0 := Lib.hid hr3
  have R4_0 := Lib.hid hr4
  clear hS hI hs3 hr3 hs4 hr4
  go_enter Try.func6, Try.ntmps6
  go_wp2_with fail
  refine (szInt64SS_c 0 w.heap.size a3 cap3 ps3 hl3 HS3.out 1048576 (by omega) _ R3_0.out (by omega)).mono ?_
  rintro e w1 ⟨he, hb1⟩
  have hz1 := hb1.size
  have R3_1 := Lib.hid (R3_0.out.below hb1 (by omega))
  have R4_1 := Lib.hid (R4_0.out.below hb1 (by omega))
  have B1 := Lib.hid ((hb1))
  rcases he with rfl | ⟨r3, hr3_0, hr3_1, rfl⟩
  · go_wp2
    go_ret
    exact ⟨rfl, B1.out⟩
  have hl2_3 : ps3.length ≤ 1048576 := by omega
  have hs2_3 : flat ps3 ≤ 1048576 := by omega
  have hrr3 : r3 ≤ 1048576 := by omega
  clear hr3_1 hb1
  go_wp2_with fail
  refine (szInt64SS_c 0 w.heap.size a4 cap4 ps4 hl4 HS4.out r3 (by omega) _ R4_1.out (by omega)).mono ?_
  rintro e w2 ⟨he, hb2⟩
  have hz2 := hb2.size
  have R3_2 := Lib.hid (R3_1.out.below hb2 (by omega))
  have R4_2 := Lib.hid (R4_1.out.below hb2 (by omega))
  have B2 := Lib.hid (B1.out.trans (hb2.mono (by omega)))
  rcases he with rfl | ⟨r4, hr4_0, hr4_1, rfl⟩
  · go_wp2
    go_ret
    exact ⟨rfl, B2.out⟩
  have hl2_4 : ps4.length ≤ 1048576 := by omega
  have hs2_4 : flat ps4 ≤ 1048576 := by omega
  have hrr4 : r4 ≤ 1048576 := by omega
  clear hr4_1 hb2
  go_wp2_with fail
  refine (toInt64SS_c 0 w.heap.size a3 cap3 ps3 hl2_3 hs2_3 _ R3_2.out (by omega)).mono ?_
  rintro e w3 ⟨xs3, rfl, hb3, hN3⟩
  have hz3 := hb3.size
  have R3_3 := Lib.hid (R3_2.out.below hb3 (by omega))
  have R4_3 := Lib.hid (R4_2.out.below hb3 (by omega))
  have B3 := Lib.hid (B2.out.trans (hb3.mono (by omega)))
  have Ns3_3 := Lib.hid hN3
  clear hb3 hN3
  go_wp2_with fail
  refine (toInt64SS_c 0 w.heap.size a4 cap4 ps4 hl2_4 hs2_4 _ R4_3.out (by omega)).mono ?_
  rintro e w4 ⟨xs4, rfl, hb4, hN4⟩
  have hz4 := hb4.size
  have R3_4 := Lib.hid (R3_3.out.below hb4 (by omega))
  have R4_4 := Lib.hid (R4_3.out.below hb4 (by omega))
  have Ns3_4 := Lib.hid (Ns3_3.out.below hb4 (by omega))
  have B4 := Lib.hid (B3.out.trans (hb4.mono (by omega)))
  have Ns4_4 := Lib.hid hN4
  clear hb4 hN4
  go_wp2_with fail
  refine (HSp.out _ _ _ _ _ hl2_3 hs2_3 hl2_4 hs2_4 (Ns3_4.out.row.mono (by omega) (by omega)) (Ns4_4.out.row.mono (by omega) (by omega))).mono ?_
  rintro e w5 ⟨xw, cw, rfl, hb5, hN5⟩
  have hz5 := hb5.size
  have R3_5 := Lib.hid (R3_4.out.below hb5 (by omega))
  have R4_5 := Lib.hid (R4_4.out.below hb5 (by omega))
  have Ns3_5 := Lib.hid (Ns3_4.out.below hb5 (by omega))
  have Ns4_5 := Lib.hid (Ns4_4.out.below hb5 (by omega))
  have B5 := Lib.hid (B4.out.trans (hb5.mono (by omega)))
  have Nw_5 := Lib.hid hN5
  clear hb5 hN5
  go_wp2_with fail
  refine (toInt64SS_c 0 w.heap.size a3 cap3 ps3 hl2_3 hs2_3 _ R3_5.out (by omega)).mono ?_
  rintro e w6 ⟨xx3, rfl, hb6, hN6⟩
  have hz6 := hb6.size
  have R3_6 := Lib.hid (R3_5.out.below hb6 (by omega))
  have R4_6 := Lib.hid (R4_5.out.below hb6 (by omega))
  have Nw_6 := Lib.hid (Nw_5.out.below hb6 (by omega))
  have B6 := Lib.hid (B5.out.trans (hb6.mono (by omega)))
  have Nx3_6 := Lib.hid hN6
  clear hb6 hN6
  go_wp2_with fail
  refine (toInt64SS_c 0 w.heap.size a4 cap4 ps4 hl2_4 hs2_4 _ R4_6.out (by omega)).mono ?_
  rintro e w7 ⟨xx4, rfl, hb7, hN7⟩
  have hz7 := hb7.size
  have R3_7 := Lib.hid (R3_6.out.below hb7 (by omega))
  have R4_7 := Lib.hid (R4_6.out.below hb7 (by omega))
  have Nw_7 := Lib.hid (Nw_6.out.below hb7 (by omega))
  have Nx3_7 := Lib.hid (Nx3_6.out.below hb7 (by omega))
  have B7 := Lib.hid (B6.out.trans (hb7.mono (by omega)))
  have Nx4_7 := Lib.hid hN7
  clear hb7 hN7
  go_wp2_with fail
  refine (HIm.out _ _ _ _ _ hl2_3 hs2_3 hl2_4 hs2_4 (Nx3_7.out.row.mono (by omega) (by omega)) (Nx4_7.out.row.mono (by omega) (by omega))).mono ?_
  rintro e w8 ⟨xg, cg, rfl, hb8, hN8⟩
  have hz8 := hb8.size
  have R3_8 := Lib.hid (R3_7.out.below hb8 (by omega))
  have R4_8 := Lib.hid (R4_7.out.below hb8 (by omega))
  have Nw_8 := Lib.hid (Nw_7.out.below hb8 (by omega))
  have Nx3_8 := Lib.hid (Nx3_7.out.below hb8 (by omega))
  have Nx4_8 := Lib.hid (Nx4_7.out.below hb8 (by omega))
  have B8 := Lib.hid (B7.out.trans (hb8.mono (by omega)))
  have Ng_8 := Lib.hid hN8
  clear hb8 hN8
  go_wp2_with fail
  refine (eqInt64SS_row _ _ _ _ xg xw _ _ qs' hq1 hq2 _ Ng_8.out.row Nw_8.out.row (by omega) (by omega)).mono ?_
  rintro e w9 ⟨rfl, hb9⟩
  have hz9 := hb9.size
  have R3_9 := Lib.hid (R3_8.out.below hb9 (by omega))
  have R4_9 := Lib.hid (R4_8.out.below hb9 (by omega))
  have Nw_9 := Lib.hid (Nw_8.out.below hb9 (by omega))
  have Nx3_9 := Lib.hid (Nx3_8.out.below hb9 (by omega))
  have Nx4_9 := Lib.hid (Nx4_8.out.below hb9 (by omega))
  have Ng_9 := Lib.hid (Ng_8.out.below hb9 (by omega))
  have B9 := Lib.hid (B8.out.trans (hb9.mono (by omega)))
  clear hb9
  go_wp2_with fail
  refine (toInt64SS_c 0 w.heap.size a3 cap3 ps3 hl2_3 hs2_3 _ R3_9.out (by omega)).mono ?_
  rintro e w10 ⟨xy3, rfl, hb10, hN10⟩
  have hz10 := hb10.size
  have R3_10 := Lib.hid (R3_9.out.below hb10 (by omega))
  have R4_10 := Lib.hid (R4_9.out.below hb10 (by omega))
  have Nw_10 := Lib.hid (Nw_9.out.below hb10 (by omega))
  have Nx3_10 := Lib.hid (Nx3_9.out.below hb10 (by omega))
  have Nx4_10 := Lib.hid (Nx4_9.out.below hb10 (by omega))
  have Ng_10 := Lib.hid (Ng_9.out.below hb10 (by omega))
  have B10 := Lib.hid (B9.out.trans (hb10.mono (by omega)))
  have Ny3_10 := Lib.hid hN10
  clear hb10 hN10
  go_wp2_with fail
  refine (eqInt64SS_row _ _ _ _ xx3 xy3 _ _ ps3 hl2_3 hs2_3 _ Nx3_10.out.row Ny3_10.out.row (by omega) (by omega)).mono ?_
  rintro e w11 ⟨rfl, hb11⟩
  have hz11 := hb11.size
  have R3_11 := Lib.hid (R3_10.out.below hb11 (by omega))
  have R4_11 := Lib.hid (R4_10.out.below hb11 (by omega))
  have Nw_11 := Lib.hid (Nw_10.out.below hb11 (by omega))
  have Nx3_11 := Lib.hid (Nx3_10.out.below hb11 (by omega))
  have Nx4_11 := Lib.hid (Nx4_10.out.below hb11 (by omega))
  have Ng_11 := Lib.hid (Ng_10.out.below hb11 (by omega))
  have B11 := Lib.hid (B10.out.trans (hb11.mono (by omega)))
  clear hb11
  go_wp2_with fail
  refine (toInt64SS_c 0 w.heap.size a4 cap4 ps4 hl2_4 hs2_4 _ R4_11.out (by omega)).mono ?_
  rintro e w12 ⟨xy4, rfl, hb12, hN12⟩
  have hz12 := hb12.size
  have R3_12 := Lib.hid (R3_11.out.below hb12 (by omega))
  have R4_12 := Lib.hid (R4_11.out.below hb12 (by omega))
  have Nw_12 := Lib.hid (Nw_11.out.below hb12 (by omega))
  have Nx3_12 := Lib.hid (Nx3_11.out.below hb12 (by omega))
  have Nx4_12 := Lib.hid (Nx4_11.out.below hb12 (by omega))
  have Ng_12 := Lib.hid (Ng_11.out.below hb12 (by omega))
  have B12 := Lib.hid (B11.out.trans (hb12.mono (by omega)))
  have Ny4_12 := Lib.hid hN12
  clear hb12 hN12
  go_wp2_with fail
  refine (eqInt64SS_row _ _ _ _ xx4 xy4 _ _ ps4 hl2_4 hs2_4 _ Nx4_12.out.row Ny4_12.out.row (by omega) (by omega)).mono ?_
  rintro e w13 ⟨rfl, hb13⟩
  have hz13 := hb13.size
  have R3_13 := Lib.hid (R3_12.out.below hb13 (by omega))
  have R4_13 := Lib.hid (R4_12.out.below hb13 (by omega))
  have Nw_13 := Lib.hid (Nw_12.out.below hb13 (by omega))
  have Nx3_13 := Lib.hid (Nx3_12.out.below hb13 (by omega))
  have Nx4_13 := Lib.hid (Nx4_12.out.below hb13 (by omega))
  have Ng_13 := Lib.hid (Ng_12.out.below hb13 (by omega))
  have B13 := Lib.hid (B12.out.trans (hb13.mono (by omega)))
  clear hb13
  go_wp2_with fail
  refine (markInt64SS_row w5.heap.size w6.heap.size xx3 _ ps3 (1) (by omega) (by omega) hl2_3 _ Nx3_13.out).mono ?_
  rintro e w14 ⟨rfl, hO14, hN14⟩
  have hz14 := hO14.size
  have R3_14 := Lib.hid (R3_13.out.outside hO14 (by omega) (by omega))
  have R4_14 := Lib.hid (R4_13.out.outside hO14 (by omega) (by omega))
  have Nw_14 := Lib.hid (Nw_13.out.outside hO14 (by omega))
  have Nx4_14 := Lib.hid (Nx4_13.out.outside hO14 (by omega))
  have Ng_14 := Lib.hid (Ng_13.out.outside hO14 (by omega))
  have B14 := Lib.hid (B13.out.trans (hO14.below (B := w.heap.size) (by omega) (by omega)))
  clear hO14 hN14
  have hk14 : (0 : Int) ≤ 1 + (flat ps3 : Int) := by omega
  go_wp2_with fail
  refine (markInt64SS_row w6.heap.size w7.heap.size xx4 _ ps4 (1 + (flat ps3 : Int)) (by omega) (by omega) hl2_4 _ Nx4_14.out).mono ?_
  rintro e w15 ⟨rfl, hO15, hN15⟩
  have hz15 := hO15.size
  have R3_15 := Lib.hid (R3_14.out.outside hO15 (by omega) (by omega))
  have R4_15 := Lib.hid (R4_14.out.outside hO15 (by omega) (by omega))
  have Nw_15 := Lib.hid (Nw_14.out.outside hO15 (by omega))
  have Ng_15 := Lib.hid (Ng_14.out.outside hO15 (by omega))
  have B15 := Lib.hid (B14.out.trans (hO15.below (B := w.heap.size) (by omega) (by omega)))
  clear hO15 hN15
  have hk15 : (0 : Int) ≤ 1 + (flat ps3 : Int) + (flat ps4 : Int) := by omega
  go_wp2_with fail
  refine (eqInt64SS_row _ _ _ _ xg xw _ _ qs' hq1 hq2 _ Ng_15.out.row Nw_15.out.row (by omega) (by omega)).mono ?_
  rintro e w16 ⟨rfl, hb16⟩
  have hz16 := hb16.size
  have R3_16 := Lib.hid (R3_15.out.below hb16 (by omega))
  have R4_16 := Lib.hid (R4_15.out.below hb16 (by omega))
  have Nw_16 := Lib.hid (Nw_15.out.below hb16 (by omega))
  have Ng_16 := Lib.hid (Ng_15.out.below hb16 (by omega))
  have B16 := Lib.hid (B15.out.trans (hb16.mono (by omega)))
  clear hb16
  go_wp2_with fail
  refine (markInt64SS_row w7.heap.size w8.heap.size xg _ qs' 1 (by omega) (by omega) hq1 _ Ng_16.out).mono ?_
  rintro e w17 ⟨rfl, hO17, hN17⟩
  have hz17 := hO17.size
  have R3_17 := Lib.hid (R3_16.out.outside hO17 (by omega) (by omega))
  have R4_17 := Lib.hid (R4_16.out.outside hO17 (by omega) (by omega))
  have Nw_17 := Lib.hid (Nw_16.out.outside hO17 (by omega))
  have B17 := Lib.hid (B16.out.trans (hO17.below (B := w.heap.size) (by omega) (by omega)))
  have M_17 := Lib.hid hN17
  clear hO17 hN17
  have hm17 : (0 : Int) ≤ 1 + (flat qs' : Int) := by omega
  go_wp2_with fail
  refine (heldInt64SS_row w7.heap.size w8.heap.size xg _ qs' 1 (by omega) (by omega) hq1 _ M_17.out).mono ?_
  rintro e w18 ⟨rfl, hb18⟩
  have hz18 := hb18.size
  have R3_18 := Lib.hid (R3_17.out.below hb18 (by omega))
  have R4_18 := Lib.hid (R4_17.out.below hb18 (by omega))
  have Nw_18 := Lib.hid (Nw_17.out.below hb18 (by omega))
  have M_18 := Lib.hid (M_17.out.below hb18 (by omega))
  have B18 := Lib.hid (B17.out.trans (hb18.mono (by omega)))
  clear hb18
  go_wp2_with fail
  refine (toInt64SS_c 0 w.heap.size a3 cap3 ps3 hl2_3 hs2_3 _ R3_18.out (by omega)).mono ?_
  rintro e w19 ⟨xz3, rfl, hb19, hN19⟩
  have hz19 := hb19.size
  have R3_19 := Lib.hid (R3_18.out.below hb19 (by omega))
  have R4_19 := Lib.hid (R4_18.out.below hb19 (by omega))
  have Nw_19 := Lib.hid (Nw_18.out.below hb19 (by omega))
  have M_19 := Lib.hid (M_18.out.below hb19 (by omega))
  have B19 := Lib.hid (B18.out.trans (hb19.mono (by omega)))
  have Nz3_19 := Lib.hid hN19
  clear hb19 hN19
  go_wp2_with fail
  refine (toInt64SS_c 0 w.heap.size a4 cap4 ps4 hl2_4 hs2_4 _ R4_19.out (by omega)).mono ?_
  rintro e w20 ⟨xz4, rfl, hb20, hN20⟩
  have hz20 := hb20.size
  have R3_20 := Lib.hid (R3_19.out.below hb20 (by omega))
  have R4_20 := Lib.hid (R4_19.out.below hb20 (by omega))
  have Nw_20 := Lib.hid (Nw_19.out.below hb20 (by omega))
  have M_20 := Lib.hid (M_19.out.below hb20 (by omega))
  have Nz3_20 := Lib.hid (Nz3_19.out.below hb20 (by omega))
  have B20 := Lib.hid (B19.out.trans (hb20.mono (by omega)))
  have Nz4_20 := Lib.hid hN20
  clear hb20 hN20
  go_wp2_with fail
  refine (HIm.out _ _ _ _ _ hl2_3 hs2_3 hl2_4 hs2_4 (Nz3_20.out.row.mono (by omega) (by omega)) (Nz4_20.out.row.mono (by omega) (by omega))).mono ?_
  rintro e w21 ⟨xh, ch, rfl, hb21, hN21⟩
  have hz21 := hb21.size
  have R3_21 := Lib.hid (R3_20.out.below hb21 (by omega))
  have R4_21 := Lib.hid (R4_20.out.below hb21 (by omega))
  have Nw_21 := Lib.hid (Nw_20.out.below hb21 (by omega))
  have M_21 := Lib.hid (M_20.out.below hb21 (by omega))
  have Nz3_21 := Lib.hid (Nz3_20.out.below hb21 (by omega))
  have Nz4_21 := Lib.hid (Nz4_20.out.below hb21 (by omega))
  have B21 := Lib.hid (B20.out.trans (hb21.mono (by omega)))
  have Nh_21 := Lib.hid hN21
  clear hb21 hN21
  go_wp2_with fail
  refine (eqInt64SS_row _ _ _ _ xh xw _ _ qs' hq1 hq2 _ Nh_21.out.row Nw_21.out.row (by omega) (by omega)).mono ?_
  rintro e w22 ⟨rfl, hb22⟩
  have hz22 := hb22.size
  have R3_22 := Lib.hid (R3_21.out.below hb22 (by omega))
  have R4_22 := Lib.hid (R4_21.out.below hb22 (by omega))
  have Nw_22 := Lib.hid (Nw_21.out.below hb22 (by omega))
  have M_22 := Lib.hid (M_21.out.below hb22 (by omega))
  have Nz3_22 := Lib.hid (Nz3_21.out.below hb22 (by omega))
  have Nz4_22 := Lib.hid (Nz4_21.out.below hb22 (by omega))
  have Nh_22 := Lib.hid (Nh_21.out.below hb22 (by omega))
  have B22 := Lib.hid (B21.out.trans (hb22.mono (by omega)))
  clear hb22
  go_wp2_with fail
  refine (heldInt64SS_row w7.heap.size w8.heap.size xg _ qs' 1 (by omega) (by omega) hq1 _ M_22.out).mono ?_
  rintro e w23 ⟨rfl, hb23⟩
  have hz23 := hb23.size
  have R3_23 := Lib.hid (R3_22.out.below hb23 (by omega))
  have R4_23 := Lib.hid (R4_22.out.below hb23 (by omega))
  have Nw_23 := Lib.hid (Nw_22.out.below hb23 (by omega))
  have M_23 := Lib.hid (M_22.out.below hb23 (by omega))
  have Nz3_23 := Lib.hid (Nz3_22.out.below hb23 (by omega))
  have Nz4_23 := Lib.hid (Nz4_22.out.below hb23 (by omega))
  have Nh_23 := Lib.hid (Nh_22.out.below hb23 (by omega))
  have B23 := Lib.hid (B22.out.trans (hb23.mono (by omega)))
  clear hb23
  go_wp2
  go_ret
  exact ⟨rfl, B23.out⟩
end Go.Proofs.Ytkgcbbbmiklgaaa
