/-
  'FnExactTransposeMap' returns true at every input for which the two functions' contracts stand: the program's TransposeMap and its model's return the same path and code, in memory of its own.
-/
import Derived.Test.YtkgcbbbmiklgaaaPathRes
namespace Go.Proofs.Ytkgcbbbmiklgaaa
open Go.RowKit

set_option maxRecDepth 100000 in
set_option maxHeartbeats 8000000 in
theorem law_TransposeMap (n0 n1 : Int) (a2 : Option Addr) (cap2 : Nat) (ps2 : List (List Int)) (hl2 : ps2.length ≤ maxLen) (hs2 : ∀ i (h : i < ps2.length), (ps2[i]).length ≤ maxLen) (w : World) (hr2 : PRow 0 w.heap.size w a2 ps2) (qs' : List (List Int)) (c' : Int) (hq1 : qs'.length ≤ 1048576) (hq2 : flat qs' ≤ 1048576)
    (hS : ∀ (W : World) (b2 : Option Addr) (k2 : Nat), ps2.length ≤ 1048576 → flat ps2 ≤ 1048576 → PRow 0 W.heap.size W b2 ps2 → Calls Try.prog 18 #[.int .i64 n0, .int .i64 n1, .slice b2 ps2.length k2] W (PathPost qs' c' W))
    (hI : ∀ (W : World) (b2 : Option Addr) (k2 : Nat), ps2.length ≤ 1048576 → flat ps2 ≤ 1048576 → PRow 0 W.heap.size W b2 ps2 → Calls Try.prog 19 #[.int .i64 n0, .int .i64 n1, .slice b2 ps2.length k2] W (PathPost qs' c' W))
    : Calls Try.prog 4 #[.int .i64 n0, .int .i64 n1, .slice a2 ps2.length cap2] w fun e w' => e = .returned (.bool true) ∧ Below w.heap.size w w' := by
  have HSp := Lib.hid hS
  have HIm := Lib.hid hI
  have HS2 := Lib.hid hs2
  have R2_0 := Lib.hid hr2
  clear hS hI hs2 hr2
  go_enter Try.func4, Try.ntmps4
  go_wp2_with fail
  refine (szInt64SS_c 0 w.heap.size a2 cap2 ps2 hl2 HS2.out 1048576 (by omega) _ R2_0.out (by omega)).mono ?_
  rintro e w1 ⟨he, hb1⟩
  have hz1 := hb1.size
  have R2_1 := Lib.hid (R2_0.out.below hb1 (by omega))
  have B1 := Lib.hid ((hb1))
  rcases he with rfl | ⟨r2, hr2_0, hr2_1, rfl⟩
  · go_wp2
    go_ret
    exact ⟨rfl, B1.out⟩
  have hl2_2 : ps2.length ≤ 1048576 := by omega
  have hs2_2 : flat ps2 ≤ 1048576 := by omega
  have hrr2 : r2 ≤ 1048576 := by omega
  clear hr2_1 hb1
  go_wp2_with fail
  refine (toInt64SS_c 0 w.heap.size a2 cap2 ps2 hl2_2 hs2_2 _ R2_1.out (by omega)).mono ?_
  rintro e w2 ⟨xs2, rfl, hb2, hN2⟩
  have hz2 := hb2.size
  have R2_2 := Lib.hid (R2_1.out.below hb2 (by omega))
  have B2 := Lib.hid (B1.out.trans (hb2.mono (by omega)))
  have Ns2_2 := Lib.hid hN2
  clear hb2 hN2
  go_wp2_with fail
  refine (HSp.out _ _ _ hl2_2 hs2_2 (Ns2_2.out.row.mono (by omega) (by omega))).mono ?_
  rintro e w3 ⟨xw, cw, rfl, hb3, hN3⟩
  have hz3 := hb3.size
  have R2_3 := Lib.hid (R2_2.out.below hb3 (by omega))
  have Ns2_3 := Lib.hid (Ns2_2.out.below hb3 (by omega))
  have B3 := Lib.hid (B2.out.trans (hb3.mono (by omega)))
  have Nw_3 := Lib.hid hN3
  clear hb3 hN3
  go_wp2_with fail
  refine (toInt64SS_c 0 w.heap.size a2 cap2 ps2 hl2_2 hs2_2 _ R2_3.out (by omega)).mono ?_
  rintro e w4 ⟨xx2, rfl, hb4, hN4⟩
  have hz4 := hb4.size
  have R2_4 := Lib.hid (R2_3.out.below hb4 (by omega))
  have Nw_4 := Lib.hid (Nw_3.out.below hb4 (by omega))
  have B4 := Lib.hid (B3.out.trans (hb4.mono (by omega)))
  have Nx2_4 := Lib.hid hN4
  clear hb4 hN4
  go_wp2_with fail
  refine (HIm.out _ _ _ hl2_2 hs2_2 (Nx2_4.out.row.mono (by omega) (by omega))).mono ?_
  rintro e w5 ⟨xg, cg, rfl, hb5, hN5⟩
  have hz5 := hb5.size
  have R2_5 := Lib.hid (R2_4.out.below hb5 (by omega))
  have Nw_5 := Lib.hid (Nw_4.out.below hb5 (by omega))
  have Nx2_5 := Lib.hid (Nx2_4.out.below hb5 (by omega))
  have B5 := Lib.hid (B4.out.trans (hb5.mono (by omega)))
  have Ng_5 := Lib.hid hN5
  clear hb5 hN5
  go_wp2_with fail
  refine (eqInt64SS_row _ _ _ _ xg xw _ _ qs' hq1 hq2 _ Ng_5.out.row Nw_5.out.row (by omega) (by omega)).mono ?_
  rintro e w6 ⟨rfl, hb6⟩
  have hz6 := hb6.size
  have R2_6 := Lib.hid (R2_5.out.below hb6 (by omega))
  have Nw_6 := Lib.hid (Nw_5.out.below hb6 (by omega))
  have Nx2_6 := Lib.hid (Nx2_5.out.below hb6 (by omega))
  have Ng_6 := Lib.hid (Ng_5.out.below hb6 (by omega))
  have B6 := Lib.hid (B5.out.trans (hb6.mono (by omega)))
  clear hb6
  go_wp2_with fail
  refine (toInt64SS_c 0 w.heap.size a2 cap2 ps2 hl2_2 hs2_2 _ R2_6.out (by omega)).mono ?_
  rintro e w7 ⟨xy2, rfl, hb7, hN7⟩
  have hz7 := hb7.size
  have R2_7 := Lib.hid (R2_6.out.below hb7 (by omega))
  have Nw_7 := Lib.hid (Nw_6.out.below hb7 (by omega))
  have Nx2_7 := Lib.hid (Nx2_6.out.below hb7 (by omega))
  have Ng_7 := Lib.hid (Ng_6.out.below hb7 (by omega))
  have B7 := Lib.hid (B6.out.trans (hb7.mono (by omega)))
  have Ny2_7 := Lib.hid hN7
  clear hb7 hN7
  go_wp2_with fail
  refine (eqInt64SS_row _ _ _ _ xx2 xy2 _ _ ps2 hl2_2 hs2_2 _ Nx2_7.out.row Ny2_7.out.row (by omega) (by omega)).mono ?_
  rintro e w8 ⟨rfl, hb8⟩
  have hz8 := hb8.size
  have R2_8 := Lib.hid (R2_7.out.below hb8 (by omega))
  have Nw_8 := Lib.hid (Nw_7.out.below hb8 (by omega))
  have Nx2_8 := Lib.hid (Nx2_7.out.below hb8 (by omega))
  have Ng_8 := Lib.hid (Ng_7.out.below hb8 (by omega))
  have B8 := Lib.hid (B7.out.trans (hb8.mono (by omega)))
  clear hb8
  go_wp2_with fail
  refine (markInt64SS_row w3.heap.size w4.heap.size xx2 _ ps2 (1) (by omega) (by omega) hl2_2 _ Nx2_8.out).mono ?_
  rintro e w9 ⟨rfl, hO9, hN9⟩
  have hz9 := hO9.size
  have R2_9 := Lib.hid (R2_8.out.outside hO9 (by omega) (by omega))
  have Nw_9 := Lib.hid (Nw_8.out.outside hO9 (by omega))
  have Ng_9 := Lib.hid (Ng_8.out.outside hO9 (by omega))
  have B9 := Lib.hid (B8.out.trans (hO9.below (B := w.heap.size) (by omega) (by omega)))
  clear hO9 hN9
  have hk9 : (0 : Int) ≤ 1 + (flat ps2 : Int) := by omega
  go_wp2_with fail
  refine (eqInt64SS_row _ _ _ _ xg xw _ _ qs' hq1 hq2 _ Ng_9.out.row Nw_9.out.row (by omega) (by omega)).mono ?_
  rintro e w10 ⟨rfl, hb10⟩
  have hz10 := hb10.size
  have R2_10 := Lib.hid (R2_9.out.below hb10 (by omega))
  have Nw_10 := Lib.hid (Nw_9.out.below hb10 (by omega))
  have Ng_10 := Lib.hid (Ng_9.out.below hb10 (by omega))
  have B10 := Lib.hid (B9.out.trans (hb10.mono (by omega)))
  clear hb10
  go_wp2_with fail
  refine (markInt64SS_row w4.heap.size w5.heap.size xg _ qs' 1 (by omega) (by omega) hq1 _ Ng_10.out).mono ?_
  rintro e w11 ⟨rfl, hO11, hN11⟩
  have hz11 := hO11.size
  have R2_11 := Lib.hid (R2_10.out.outside hO11 (by omega) (by omega))
  have Nw_11 := Lib.hid (Nw_10.out.outside hO11 (by omega))
  have B11 := Lib.hid (B10.out.trans (hO11.below (B := w.heap.size) (by omega) (by omega)))
  have M_11 := Lib.hid hN11
  clear hO11 hN11
  have hm11 : (0 : Int) ≤ 1 + (flat qs' : Int) := by omega
  go_wp2_with fail
  refine (heldInt64SS_row w4.heap.size w5.heap.size xg _ qs' 1 (by omega) (by omega) hq1 _ M_11.out).mono ?_
  rintro e w12 ⟨rfl, hb12⟩
  have hz12 := hb12.size
  have R2_12 := Lib.hid (R2_11.out.below hb12 (by omega))
  have Nw_12 := Lib.hid (Nw_11.out.below hb12 (by omega))
  have M_12 := Lib.hid (M_11.out.below hb12 (by omega))
  have B12 := Lib.hid (B11.out.trans (hb12.mono (by omega)))
  clear hb12
  go_wp2_with fail
  refine (toInt64SS_c 0 w.heap.size a2 cap2 ps2 hl2_2 hs2_2 _ R2_12.out (by omega)).mono ?_
  rintro e w13 ⟨xz2, rfl, hb13, hN13⟩
  have hz13 := hb13.size
  have R2_13 := Lib.hid (R2_12.out.below hb13 (by omega))
  have Nw_13 := Lib.hid (Nw_12.out.below hb13 (by omega))
  have M_13 := Lib.hid (M_12.out.below hb13 (by omega))
  have B13 := Lib.hid (B12.out.trans (hb13.mono (by omega)))
  have Nz2_13 := Lib.hid hN13
  clear hb13 hN13
  go_wp2_with fail
  refine (HIm.out _ _ _ hl2_2 hs2_2 (Nz2_13.out.row.mono (by omega) (by omega))).mono ?_
  rintro e w14 ⟨xh, ch, rfl, hb14, hN14⟩
  have hz14 := hb14.size
  have R2_14 := Lib.hid (R2_13.out.below hb14 (by omega))
  have Nw_14 := Lib.hid (Nw_13.out.below hb14 (by omega))
  have M_14 := Lib.hid (M_13.out.below hb14 (by omega))
  have Nz2_14 := Lib.hid (Nz2_13.out.below hb14 (by omega))
  have B14 := Lib.hid (B13.out.trans (hb14.mono (by omega)))
  have Nh_14 := Lib.hid hN14
  clear hb14 hN14
  go_wp2_with fail
  refine (eqInt64SS_row _ _ _ _ xh xw _ _ qs' hq1 hq2 _ Nh_14.out.row Nw_14.out.row (by omega) (by omega)).mono ?_
  rintro e w15 ⟨rfl, hb15⟩
  have hz15 := hb15.size
  have R2_15 := Lib.hid (R2_14.out.below hb15 (by omega))
  have Nw_15 := Lib.hid (Nw_14.out.below hb15 (by omega))
  have M_15 := Lib.hid (M_14.out.below hb15 (by omega))
  have Nz2_15 := Lib.hid (Nz2_14.out.below hb15 (by omega))
  have Nh_15 := Lib.hid (Nh_14.out.below hb15 (by omega))
  have B15 := Lib.hid (B14.out.trans (hb15.mono (by omega)))
  clear hb15
  go_wp2_with fail
  refine (heldInt64SS_row w4.heap.size w5.heap.size xg _ qs' 1 (by omega) (by omega) hq1 _ M_15.out).mono ?_
  rintro e w16 ⟨rfl, hb16⟩
  have hz16 := hb16.size
  have R2_16 := Lib.hid (R2_15.out.below hb16 (by omega))
  have Nw_16 := Lib.hid (Nw_15.out.below hb16 (by omega))
  have M_16 := Lib.hid (M_15.out.below hb16 (by omega))
  have Nz2_16 := Lib.hid (Nz2_15.out.below hb16 (by omega))
  have Nh_16 := Lib.hid (Nh_15.out.below hb16 (by omega))
  have B16 := Lib.hid (B15.out.trans (hb16.mono (by omega)))
  clear hb16
  go_wp2
  go_ret
  exact ⟨rfl, B16.out⟩
end Go.Proofs.Ytkgcbbbmiklgaaa
