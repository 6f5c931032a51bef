/-
  'FnExactJoinPaths' returns true at every input for which the two functions' contracts stand: the program's JoinPaths and its model's return the same path and code, in memory of its own.
-/
import Derived.Test.YtkgcbbbmiklgaaaPathRes
namespace Go.Proofs.Ytkgcbbbmiklgaaa
open Go.RowKit

set_option maxRecDepth 100000 in
set_option maxHeartbeats 8000000 in
theorem law_JoinPaths (n0 : Int) (a1 : Option Addr) (cap1 : Nat) (ps1 : List (List Int)) (hl1 : ps1.length ≤ maxLen) (hs1 : ∀ i (h : i < ps1.length), (ps1[i]).length ≤ maxLen) (a2 : Option Addr) (cap2 : Nat) (ps2 : List (List Int)) (hl2 : ps2.length ≤ maxLen) (hs2 : ∀ i (h : i < ps2.length), (ps2[i]).length ≤ maxLen) (w : World) (hr1 : PRow 0 w.heap.size w a1 ps1) (hr2 : PRow 0 w.heap.size w a2 ps2) (qs' : List (List Int)) (c' : Int) (hq1 : qs'.length ≤ 1048576) (hq2 : flat qs' ≤ 1048576)
    (hS : ∀ (W : World) (b1 : Option Addr) (k1 : Nat) (b2 : Option Addr) (k2 : Nat), ps1.length ≤ 1048576 → flat ps1 ≤ 1048576 → ps2.length ≤ 1048576 → flat ps2 ≤ 1048576 → PRow 0 W.heap.size W b1 ps1 → PRow 0 W.heap.size W b2 ps2 → Calls Try.prog 35 #[.int .i64 n0, .slice b1 ps1.length k1, .slice b2 ps2.length k2] W (PathPost qs' c' W))
    (hI : ∀ (W : World) (b1 : Option Addr) (k1 : Nat) (b2 : Option Addr) (k2 : Nat), ps1.length ≤ 1048576 → flat ps1 ≤ 1048576 → ps2.length ≤ 1048576 → flat ps2 ≤ 1048576 → PRow 0 W.heap.size W b1 ps1 → PRow 0 W.heap.size W b2 ps2 → Calls Try.prog 36 #[.int .i64 n0, .slice b1 ps1.length k1, .slice b2 ps2.length k2] W (PathPost qs' c' W))
    : Calls Try.prog 10 #[.int .i64 n0, .slice a1 ps1.length cap1, .slice a2 ps2.length cap2] w fun e w' => e = .returned (.bool true) ∧ Below w.heap.size w w' := by
  have HSp := Lib.hid hS
  have HIm := Lib.hid hI
  have HS1 := Lib.hid hs1
  have HS2 := Lib.hid hs2
  have R1_0 := Lib.hid hr1
  have R2_0 := Lib.hid hr2
  clear hS hI hs1 hr1 hs2 hr2
  go_enter Try.func10, Try.ntmps10
  go_wp2_with fail
  refine (szInt64SS_c 0 w.heap.size a1 cap1 ps1 hl1 HS1.out 1048576 (by omega) _ R1_0.out (by omega)).mono ?_
  rintro e w1 ⟨he, hb1⟩
  have hz1 := hb1.size
  have R1_1 := Lib.hid (R1_0.out.below hb1 (by omega))
  have R2_1 := Lib.hid (R2_0.out.below hb1 (by omega))
  have B1 := Lib.hid ((hb1))
  rcases he with rfl | ⟨r1, hr1_0, hr1_1, rfl⟩
  · go_wp2
    go_ret
    exact ⟨rfl, B1.out⟩
  have hl2_1 : ps1.length ≤ 1048576 := by omega
  have hs2_1 : flat ps1 ≤ 1048576 := by omega
  have hrr1 : r1 ≤ 1048576 := by omega
  clear hr1_1 hb1
  go_wp2_with fail
  refine (szInt64SS_c 0 w.heap.size a2 cap2 ps2 hl2 HS2.out r1 (by omega) _ R2_1.out (by omega)).mono ?_
  rintro e w2 ⟨he, hb2⟩
  have hz2 := hb2.size
  have R1_2 := Lib.hid (R1_1.out.below hb2 (by omega))
  have R2_2 := Lib.hid (R2_1.out.below hb2 (by omega))
  have B2 := Lib.hid (B1.out.trans (hb2.mono (by omega)))
  rcases he with rfl | ⟨r2, hr2_0, hr2_1, rfl⟩
  · go_wp2
    go_ret
    exact ⟨rfl, B2.out⟩
  have hl2_2 : ps2.length ≤ 1048576 := by omega
  have hs2_2 : flat ps2 ≤ 1048576 := by omega
  have hrr2 : r2 ≤ 1048576 := by omega
  clear hr2_1 hb2
  go_wp2_with fail
  refine (toInt64SS_c 0 w.heap.size a1 cap1 ps1 hl2_1 hs2_1 _ R1_2.out (by omega)).mono ?_
  rintro e w3 ⟨xs1, rfl, hb3, hN3⟩
  have hz3 := hb3.size
  have R1_3 := Lib.hid (R1_2.out.below hb3 (by omega))
  have R2_3 := Lib.hid (R2_2.out.below hb3 (by omega))
  have B3 := Lib.hid (B2.out.trans (hb3.mono (by omega)))
  have Ns1_3 := Lib.hid hN3
  clear hb3 hN3
  go_wp2_with fail
  refine (toInt64SS_c 0 w.heap.size a2 cap2 ps2 hl2_2 hs2_2 _ R2_3.out (by omega)).mono ?_
  rintro e w4 ⟨xs2, rfl, hb4, hN4⟩
  have hz4 := hb4.size
  have R1_4 := Lib.hid (R1_3.out.below hb4 (by omega))
  have R2_4 := Lib.hid (R2_3.out.below hb4 (by omega))
  have Ns1_4 := Lib.hid (Ns1_3.out.below hb4 (by omega))
  have B4 := Lib.hid (B3.out.trans (hb4.mono (by omega)))
  have Ns2_4 := Lib.hid hN4
  clear hb4 hN4
  go_wp2_with fail
  refine (HSp.out _ _ _ _ _ hl2_1 hs2_1 hl2_2 hs2_2 (Ns1_4.out.row.mono (by omega) (by omega)) (Ns2_4.out.row.mono (by omega) (by omega))).mono ?_
  rintro e w5 ⟨xw, cw, rfl, hb5, hN5⟩
  have hz5 := hb5.size
  have R1_5 := Lib.hid (R1_4.out.below hb5 (by omega))
  have R2_5 := Lib.hid (R2_4.out.below hb5 (by omega))
  have Ns1_5 := Lib.hid (Ns1_4.out.below hb5 (by omega))
  have Ns2_5 := Lib.hid (Ns2_4.out.below hb5 (by omega))
  have B5 := Lib.hid (B4.out.trans (hb5.mono (by omega)))
  have Nw_5 := Lib.hid hN5
  clear hb5 hN5
  go_wp2_with fail
  refine (toInt64SS_c 0 w.heap.size a1 cap1 ps1 hl2_1 hs2_1 _ R1_5.out (by omega)).mono ?_
  rintro e w6 ⟨xx1, rfl, hb6, hN6⟩
  have hz6 := hb6.size
  have R1_6 := Lib.hid (R1_5.out.below hb6 (by omega))
  have R2_6 := Lib.hid (R2_5.out.below hb6 (by omega))
  have Nw_6 := Lib.hid (Nw_5.out.below hb6 (by omega))
  have B6 := Lib.hid (B5.out.trans (hb6.mono (by omega)))
  have Nx1_6 := Lib.hid hN6
  clear hb6 hN6
  go_wp2_with fail
  refine (toInt64SS_c 0 w.heap.size a2 cap2 ps2 hl2_2 hs2_2 _ R2_6.out (by omega)).mono ?_
  rintro e w7 ⟨xx2, rfl, hb7, hN7⟩
  have hz7 := hb7.size
  have R1_7 := Lib.hid (R1_6.out.below hb7 (by omega))
  have R2_7 := Lib.hid (R2_6.out.below hb7 (by omega))
  have Nw_7 := Lib.hid (Nw_6.out.below hb7 (by omega))
  have Nx1_7 := Lib.hid (Nx1_6.out.below hb7 (by omega))
  have B7 := Lib.hid (B6.out.trans (hb7.mono (by omega)))
  have Nx2_7 := Lib.hid hN7
  clear hb7 hN7
  go_wp2_with fail
  refine (HIm.out _ _ _ _ _ hl2_1 hs2_1 hl2_2 hs2_2 (Nx1_7.out.row.mono (by omega) (by omega)) (Nx2_7.out.row.mono (by omega) (by omega))).mono ?_
  rintro e w8 ⟨xg, cg, rfl, hb8, hN8⟩
  have hz8 := hb8.size
  have R1_8 := Lib.hid (R1_7.out.below hb8 (by omega))
  have R2_8 := Lib.hid (R2_7.out.below hb8 (by omega))
  have Nw_8 := Lib.hid (Nw_7.out.below hb8 (by omega))
  have Nx1_8 := Lib.hid (Nx1_7.out.below hb8 (by omega))
  have Nx2_8 := Lib.hid (Nx2_7.out.below hb8 (by omega))
  have B8 := Lib.hid (B7.out.trans (hb8.mono (by omega)))
  have Ng_8 := Lib.hid hN8
  clear hb8 hN8
  go_wp2_with fail
  refine (eqInt64SS_row _ _ _ _ xg xw _ _ qs' hq1 hq2 _ Ng_8.out.row Nw_8.out.row (by omega) (by omega)).mono ?_
  rintro e w9 ⟨rfl, hb9⟩
  have hz9 := hb9.size
  have R1_9 := Lib.hid (R1_8.out.below hb9 (by omega))
  have R2_9 := Lib.hid (R2_8.out.below hb9 (by omega))
  have Nw_9 := Lib.hid (Nw_8.out.below hb9 (by omega))
  have Nx1_9 := Lib.hid (Nx1_8.out.below hb9 (by omega))
  have Nx2_9 := Lib.hid (Nx2_8.out.below hb9 (by omega))
  have Ng_9 := Lib.hid (Ng_8.out.below hb9 (by omega))
  have B9 := Lib.hid (B8.out.trans (hb9.mono (by omega)))
  clear hb9
  go_wp2_with fail
  refine (toInt64SS_c 0 w.heap.size a1 cap1 ps1 hl2_1 hs2_1 _ R1_9.out (by omega)).mono ?_
  rintro e w10 ⟨xy1, rfl, hb10, hN10⟩
  have hz10 := hb10.size
  have R1_10 := Lib.hid (R1_9.out.below hb10 (by omega))
  have R2_10 := Lib.hid (R2_9.out.below hb10 (by omega))
  have Nw_10 := Lib.hid (Nw_9.out.below hb10 (by omega))
  have Nx1_10 := Lib.hid (Nx1_9.out.below hb10 (by omega))
  have Nx2_10 := Lib.hid (Nx2_9.out.below hb10 (by omega))
  have Ng_10 := Lib.hid (Ng_9.out.below hb10 (by omega))
  have B10 := Lib.hid (B9.out.trans (hb10.mono (by omega)))
  have Ny1_10 := Lib.hid hN10
  clear hb10 hN10
  go_wp2_with fail
  refine (eqInt64SS_row _ _ _ _ xx1 xy1 _ _ ps1 hl2_1 hs2_1 _ Nx1_10.out.row Ny1_10.out.row (by omega) (by omega)).mono ?_
  rintro e w11 ⟨rfl, hb11⟩
  have hz11 := hb11.size
  have R1_11 := Lib.hid (R1_10.out.below hb11 (by omega))
  have R2_11 := Lib.hid (R2_10.out.below hb11 (by omega))
  have Nw_11 := Lib.hid (Nw_10.out.below hb11 (by omega))
  have Nx1_11 := Lib.hid (Nx1_10.out.below hb11 (by omega))
  have Nx2_11 := Lib.hid (Nx2_10.out.below hb11 (by omega))
  have Ng_11 := Lib.hid (Ng_10.out.below hb11 (by omega))
  have B11 := Lib.hid (B10.out.trans (hb11.mono (by omega)))
  clear hb11
  go_wp2_with fail
  refine (toInt64SS_c 0 w.heap.size a2 cap2 ps2 hl2_2 hs2_2 _ R2_11.out (by omega)).mono ?_
  rintro e w12 ⟨xy2, rfl, hb12, hN12⟩
  have hz12 := hb12.size
  have R1_12 := Lib.hid (R1_11.out.below hb12 (by omega))
  have R2_12 := Lib.hid (R2_11.out.below hb12 (by omega))
  have Nw_12 := Lib.hid (Nw_11.out.below hb12 (by omega))
  have Nx1_12 := Lib.hid (Nx1_11.out.below hb12 (by omega))
  have Nx2_12 := Lib.hid (Nx2_11.out.below hb12 (by omega))
  have Ng_12 := Lib.hid (Ng_11.out.below hb12 (by omega))
  have B12 := Lib.hid (B11.out.trans (hb12.mono (by omega)))
  have Ny2_12 := Lib.hid hN12
  clear hb12 hN12
  go_wp2_with fail
  refine (eqInt64SS_row _ _ _ _ xx2 xy2 _ _ ps2 hl2_2 hs2_2 _ Nx2_12.out.row Ny2_12.out.row (by omega) (by omega)).mono ?_
  rintro e w13 ⟨rfl, hb13⟩
  have hz13 := hb13.size
  have R1_13 := Lib.hid (R1_12.out.below hb13 (by omega))
  have R2_13 := Lib.hid (R2_12.out.below hb13 (by omega))
  have Nw_13 := Lib.hid (Nw_12.out.below hb13 (by omega))
  have Nx1_13 := Lib.hid (Nx1_12.out.below hb13 (by omega))
  have Nx2_13 := Lib.hid (Nx2_12.out.below hb13 (by omega))
  have Ng_13 := Lib.hid (Ng_12.out.below hb13 (by omega))
  have B13 := Lib.hid (B12.out.trans (hb13.mono (by omega)))
  clear hb13
  go_wp2_with fail
  refine (markInt64SS_row w5.heap.size w6.heap.size xx1 _ ps1 (1) (by omega) (by omega) hl2_1 _ Nx1_13.out).mono ?_
  rintro e w14 ⟨rfl, hO14, hN14⟩
  have hz14 := hO14.size
  have R1_14 := Lib.hid (R1_13.out.outside hO14 (by omega) (by omega))
  have R2_14 := Lib.hid (R2_13.out.outside hO14 (by omega) (by omega))
  have Nw_14 := Lib.hid (Nw_13.out.outside hO14 (by omega))
  have Nx2_14 := Lib.hid (Nx2_13.out.outside hO14 (by omega))
  have Ng_14 := Lib.hid (Ng_13.out.outside hO14 (by omega))
  have B14 := Lib.hid (B13.out.trans (hO14.below (B := w.heap.size) (by omega) (by omega)))
  clear hO14 hN14
  have hk14 : (0 : Int) ≤ 1 + (flat ps1 : Int) := by omega
  go_wp2_with fail
  refine (markInt64SS_row w6.heap.size w7.heap.size xx2 _ ps2 (1 + (flat ps1 : Int)) (by omega) (by omega) hl2_2 _ Nx2_14.out).mono ?_
  rintro e w15 ⟨rfl, hO15, hN15⟩
  have hz15 := hO15.size
  have R1_15 := Lib.hid (R1_14.out.outside hO15 (by omega) (by omega))
  have R2_15 := Lib.hid (R2_14.out.outside hO15 (by omega) (by omega))
  have Nw_15 := Lib.hid (Nw_14.out.outside hO15 (by omega))
  have Ng_15 := Lib.hid (Ng_14.out.outside hO15 (by omega))
  have B15 := Lib.hid (B14.out.trans (hO15.below (B := w.heap.size) (by omega) (by omega)))
  clear hO15 hN15
  have hk15 : (0 : Int) ≤ 1 + (flat ps1 : Int) + (flat ps2 : Int) := by omega
  go_wp2_with fail
  refine (eqInt64SS_row _ _ _ _ xg xw _ _ qs' hq1 hq2 _ Ng_15.out.row Nw_15.out.row (by omega) (by omega)).mono ?_
  rintro e w16 ⟨rfl, hb16⟩
  have hz16 := hb16.size
  have R1_16 := Lib.hid (R1_15.out.below hb16 (by omega))
  have R2_16 := Lib.hid (R2_15.out.below hb16 (by omega))
  have Nw_16 := Lib.hid (Nw_15.out.below hb16 (by omega))
  have Ng_16 := Lib.hid (Ng_15.out.below hb16 (by omega))
  have B16 := Lib.hid (B15.out.trans (hb16.mono (by omega)))
  clear hb16
  go_wp2_with fail
  refine (markInt64SS_row w7.heap.size w8.heap.size xg _ qs' 1 (by omega) (by omega) hq1 _ Ng_16.out).mono ?_
  rintro e w17 ⟨rfl, hO17, hN17⟩
  have hz17 := hO17.size
  have R1_17 := Lib.hid (R1_16.out.outside hO17 (by omega) (by omega))
  have R2_17 := Lib.hid (R2_16.out.outside hO17 (by omega) (by omega))
  have Nw_17 := Lib.hid (Nw_16.out.outside hO17 (by omega))
  have B17 := Lib.hid (B16.out.trans (hO17.below (B := w.heap.size) (by omega) (by omega)))
  have M_17 := Lib.hid hN17
  clear hO17 hN17
  have hm17 : (0 : Int) ≤ 1 + (flat qs' : Int) := by omega
  go_wp2_with fail
  refine (heldInt64SS_row w7.heap.size w8.heap.size xg _ qs' 1 (by omega) (by omega) hq1 _ M_17.out).mono ?_
  rintro e w18 ⟨rfl, hb18⟩
  have hz18 := hb18.size
  have R1_18 := Lib.hid (R1_17.out.below hb18 (by omega))
  have R2_18 := Lib.hid (R2_17.out.below hb18 (by omega))
  have Nw_18 := Lib.hid (Nw_17.out.below hb18 (by omega))
  have M_18 := Lib.hid (M_17.out.below hb18 (by omega))
  have B18 := Lib.hid (B17.out.trans (hb18.mono (by omega)))
  clear hb18
  go_wp2_with fail
  refine (toInt64SS_c 0 w.heap.size a1 cap1 ps1 hl2_1 hs2_1 _ R1_18.out (by omega)).mono ?_
  rintro e w19 ⟨xz1, rfl, hb19, hN19⟩
  have hz19 := hb19.size
  have R1_19 := Lib.hid (R1_18.out.below hb19 (by omega))
  have R2_19 := Lib.hid (R2_18.out.below hb19 (by omega))
  have Nw_19 := Lib.hid (Nw_18.out.below hb19 (by omega))
  have M_19 := Lib.hid (M_18.out.below hb19 (by omega))
  have B19 := Lib.hid (B18.out.trans (hb19.mono (by omega)))
  have Nz1_19 := Lib.hid hN19
  clear hb19 hN19
  go_wp2_with fail
  refine (toInt64SS_c 0 w.heap.size a2 cap2 ps2 hl2_2 hs2_2 _ R2_19.out (by omega)).mono ?_
  rintro e w20 ⟨xz2, rfl, hb20, hN20⟩
  have hz20 := hb20.size
  have R1_20 := Lib.hid (R1_19.out.below hb20 (by omega))
  have R2_20 := Lib.hid (R2_19.out.below hb20 (by omega))
  have Nw_20 := Lib.hid (Nw_19.out.below hb20 (by omega))
  have M_20 := Lib.hid (M_19.out.below hb20 (by omega))
  have Nz1_20 := Lib.hid (Nz1_19.out.below hb20 (by omega))
  have B20 := Lib.hid (B19.out.trans (hb20.mono (by omega)))
  have Nz2_20 := Lib.hid hN20
  clear hb20 hN20
  go_wp2_with fail
  refine (HIm.out _ _ _ _ _ hl2_1 hs2_1 hl2_2 hs2_2 (Nz1_20.out.row.mono (by omega) (by omega)) (Nz2_20.out.row.mono (by omega) (by omega))).mono ?_
  rintro e w21 ⟨xh, ch, rfl, hb21, hN21⟩
  have hz21 := hb21.size
  have R1_21 := Lib.hid (R1_20.out.below hb21 (by omega))
  have R2_21 := Lib.hid (R2_20.out.below hb21 (by omega))
  have Nw_21 := Lib.hid (Nw_20.out.below hb21 (by omega))
  have M_21 := Lib.hid (M_20.out.below hb21 (by omega))
  have Nz1_21 := Lib.hid (Nz1_20.out.below hb21 (by omega))
  have Nz2_21 := Lib.hid (Nz2_20.out.below hb21 (by omega))
  have B21 := Lib.hid (B20.out.trans (hb21.mono (by omega)))
  have Nh_21 := Lib.hid hN21
  clear hb21 hN21
  go_wp2_with fail
  refine (eqInt64SS_row _ _ _ _ xh xw _ _ qs' hq1 hq2 _ Nh_21.out.row Nw_21.out.row (by omega) (by omega)).mono ?_
  rintro e w22 ⟨rfl, hb22⟩
  have hz22 := hb22.size
  have R1_22 := Lib.hid (R1_21.out.below hb22 (by omega))
  have R2_22 := Lib.hid (R2_21.out.below hb22 (by omega))
  have Nw_22 := Lib.hid (Nw_21.out.below hb22 (by omega))
  have M_22 := Lib.hid (M_21.out.below hb22 (by omega))
  have Nz1_22 := Lib.hid (Nz1_21.out.below hb22 (by omega))
  have Nz2_22 := Lib.hid (Nz2_21.out.below hb22 (by omega))
  have Nh_22 := Lib.hid (Nh_21.out.below hb22 (by omega))
  have B22 := Lib.hid (B21.out.trans (hb22.mono (by omega)))
  clear hb22
  go_wp2_with fail
  refine (heldInt64SS_row w7.heap.size w8.heap.size xg _ qs' 1 (by omega) (by omega) hq1 _ M_22.out).mono ?_
  rintro e w23 ⟨rfl, hb23⟩
  have hz23 := hb23.size
  have R1_23 := Lib.hid (R1_22.out.below hb23 (by omega))
  have R2_23 := Lib.hid (R2_22.out.below hb23 (by omega))
  have Nw_23 := Lib.hid (Nw_22.out.below hb23 (by omega))
  have M_23 := Lib.hid (M_22.out.below hb23 (by omega))
  have Nz1_23 := Lib.hid (Nz1_22.out.below hb23 (by omega))
  have Nz2_23 := Lib.hid (Nz2_22.out.below hb23 (by omega))
  have Nh_23 := Lib.hid (Nh_22.out.below hb23 (by omega))
  have B23 := Lib.hid (B22.out.trans (hb23.mono (by omega)))
  clear hb23
  go_wp2
  go_ret
  exact ⟨rfl, B23.out⟩
end Go.Proofs.Ytkgcbbbmiklgaaa
