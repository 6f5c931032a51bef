/-
  'FnExactTableCommutator' returns true at every input for which the two functions' contracts stand: the program's TableCommutator and its model's return the same list of lists and code, in memory of its own, and the tables read as before.
-/
import Derived.Test.YtngpnbdndkddlaaDoorPwS
namespace Go.Proofs.YtngpnbdndkddlaaDoor
open Go.RowKit

set_option maxRecDepth 100000 in
set_option maxHeartbeats 8000000 in
theorem law_TableCommutator (n0 : Int) (n2 : Int) (n3 : Int) (a : Option Addr) (cap : Nat) (ts : Tabs) (hl : ts.length ≤ maxLen) (hs : ∀ i (h : i < ts.length), (ts[i]).length ≤ maxLen ∧ ∀ j (h2 : j < (ts[i]).length), ((ts[i])[j]).length ≤ maxLen) (w : World) (hr : TRow 0 w.heap.size w a ts) (ps' : List (List Int)) (c' : Int) (hl' : ps'.length ≤ 1048576) (hf' : flat ps' ≤ 1048576)
    (hS : ∀ (W : World) (b : Option Addr) (k : Nat), ts.length ≤ 1048576 → sz3 ts ≤ 1048576 → TRow 0 W.heap.size W b ts → Calls Tryd.prog 20 #[.int .i64 n0, .slice b ts.length k, .int .i64 n2, .int .i64 n3] W (TblPost ps' c' W))
    (hI : ∀ (W : World) (b : Option Addr) (k : Nat), ts.length ≤ 1048576 → sz3 ts ≤ 1048576 → TRow 0 W.heap.size W b ts → Calls Tryd.prog 21 #[.int .i64 n0, .slice b ts.length k, .int .i64 n2, .int .i64 n3] W (GridsPost ps' c' W))
    : Calls Tryd.prog 5 #[.int .i64 n0, .slice a ts.length cap, .int .i64 n2, .int .i64 n3] w fun e w' => e = .returned (.bool true) ∧ Below w.heap.size w w' := by
  have HSp := Lib.hid hS
  have HIm := Lib.hid hI
  have R_0 := Lib.hid hr
  have HS := Lib.hid hs
  clear hS hI hs hr
  go_enter Tryd.func5, Tryd.ntmps5
  go_wp2_with fail
  refine (szInt64SSS_c 0 w.heap.size a cap ts hl HS.out 1048576 (by omega) _ R_0.out (by omega)).mono ?_
  rintro e w1 ⟨he, hb1⟩
  have hz1 := hb1.size
  have R_1 := Lib.hid (R_0.out.below hb1 (by omega))
  have B1 := Lib.hid ((hb1))
  rcases he with rfl | ⟨r, hr0, hr1, rfl⟩
  · go_wp2
    go_ret
    exact ⟨rfl, B1.out⟩
  have hl2 : ts.length ≤ 1048576 := by omega
  have hs2 : sz3 ts ≤ 1048576 := by omega
  have hff := flat3_sz3 ts
  clear hr1 hb1
  go_wp2_with fail
  refine (toInt64SSS_c 0 w.heap.size a cap ts hl2 hs2 _ R_1.out (by omega)).mono ?_
  rintro e w2 ⟨xs, rfl, hb2, hN2⟩
  have hz2 := hb2.size
  have R_2 := Lib.hid (R_1.out.below hb2 (by omega))
  have B2 := Lib.hid (B1.out.trans (hb2.mono (by omega)))
  have Ns_2 := Lib.hid hN2
  clear hb2 hN2
  go_wp2_with fail
  refine (HSp.out _ _ _ hl2 hs2 (Ns_2.out.row.mono (by omega) (by omega))).mono ?_
  rintro e w3 ⟨xw, cw, rfl, hb3, hN3⟩
  clear Ns_2
  have hz3 := hb3.size
  have R_3 := Lib.hid (R_2.out.below hb3 (by omega))
  have B3 := Lib.hid (B2.out.trans (hb3.mono (by omega)))
  have K_3 := Lib.hid hN3
  clear hb3 hN3 HSp
  go_wp2_with fail
  refine (toInt64SSS_c 0 w.heap.size a cap ts hl2 hs2 _ R_3.out (by omega)).mono ?_
  rintro e w4 ⟨xx, rfl, hb4, hN4⟩
  have hz4 := hb4.size
  have R_4 := Lib.hid (R_3.out.below hb4 (by omega))
  have K_4 := Lib.hid (K_3.out.below hb4 (by omega))
  have B4 := Lib.hid (B3.out.trans (hb4.mono (by omega)))
  have Nx_4 := Lib.hid hN4
  clear hb4 hN4
  go_wp2_with fail
  refine (HIm.out _ _ _ hl2 hs2 (Nx_4.out.row.mono (by omega) (by omega))).mono ?_
  rintro e w5 ⟨xg, cg, rfl, hb5, hN5⟩
  have hz5 := hb5.size
  have R_5 := Lib.hid (R_4.out.below hb5 (by omega))
  have K_5 := Lib.hid (K_4.out.below hb5 (by omega))
  have Nx_5 := Lib.hid (Nx_4.out.below hb5 (by omega))
  have B5 := Lib.hid (B4.out.trans (hb5.mono (by omega)))
  have G_5 := Lib.hid hN5
  clear hb5 hN5
  go_wp2_with fail
  refine (eqInt64SS_row _ _ _ _ xg xw _ _ ps' hl' hf' _ G_5.out.row K_5.out (by omega) (by omega)).mono ?_
  rintro e w6 ⟨rfl, hb6⟩
  have hz6 := hb6.size
  have R_6 := Lib.hid (R_5.out.below hb6 (by omega))
  have K_6 := Lib.hid (K_5.out.below hb6 (by omega))
  have Nx_6 := Lib.hid (Nx_5.out.below hb6 (by omega))
  have G_6 := Lib.hid (G_5.out.below hb6 (by omega))
  have B6 := Lib.hid (B5.out.trans (hb6.mono (by omega)))
  clear hb6
  go_wp2_with fail
  refine (toInt64SSS_c 0 w.heap.size a cap ts hl2 hs2 _ R_6.out (by omega)).mono ?_
  rintro e w7 ⟨xy, rfl, hb7, hN7⟩
  have hz7 := hb7.size
  have R_7 := Lib.hid (R_6.out.below hb7 (by omega))
  have K_7 := Lib.hid (K_6.out.below hb7 (by omega))
  have Nx_7 := Lib.hid (Nx_6.out.below hb7 (by omega))
  have G_7 := Lib.hid (G_6.out.below hb7 (by omega))
  have B7 := Lib.hid (B6.out.trans (hb7.mono (by omega)))
  have Ny_7 := Lib.hid hN7
  clear hb7 hN7
  go_wp2_with fail
  refine (eqInt64SSS_row _ _ _ _ xx xy _ _ ts hl2 hs2 _ Nx_7.out.row Ny_7.out.row (by omega) (by omega)).mono ?_
  rintro e w8 ⟨rfl, hb8⟩
  clear Ny_7
  have hz8 := hb8.size
  have R_8 := Lib.hid (R_7.out.below hb8 (by omega))
  have K_8 := Lib.hid (K_7.out.below hb8 (by omega))
  have Nx_8 := Lib.hid (Nx_7.out.below hb8 (by omega))
  have G_8 := Lib.hid (G_7.out.below hb8 (by omega))
  have B8 := Lib.hid (B7.out.trans (hb8.mono (by omega)))
  clear hb8
  go_wp2_with fail
  refine (markInt64SSS_row (w3.heap.size) (w4.heap.size) xx _ ts 1 (by omega) (by omega) hl2 hs2 _ Nx_8.out).mono ?_
  rintro e w9 ⟨rfl, hO9, hN9⟩
  clear Nx_8
  have hz9 := hO9.size
  have R_9 := Lib.hid (R_8.out.outside hO9 (by omega) (by omega))
  have K_9 := Lib.hid (K_8.out.outside hO9 (by omega) (by omega))
  have G_9 := Lib.hid (G_8.out.outside hO9 (by omega))
  have B9 := Lib.hid (B8.out.trans (hO9.below (B := w.heap.size) (by omega) (by omega)))
  clear hO9 hN9
  have hkk : (0 : Int) ≤ 1 + (flat3 ts : Int) := by omega
  go_wp2_with fail
  refine (eqInt64SS_row _ _ _ _ xg xw _ _ ps' hl' hf' _ G_9.out.row K_9.out (by omega) (by omega)).mono ?_
  rintro e w10 ⟨rfl, hb10⟩
  have hz10 := hb10.size
  have R_10 := Lib.hid (R_9.out.below hb10 (by omega))
  have K_10 := Lib.hid (K_9.out.below hb10 (by omega))
  have G_10 := Lib.hid (G_9.out.below hb10 (by omega))
  have B10 := Lib.hid (B9.out.trans (hb10.mono (by omega)))
  clear hb10
  go_wp2_with fail
  refine (markInt64SS_any (w4.heap.size) (w5.heap.size) xg _ ps' 1 (by omega) (by omega) hl' _ G_10.out).mono ?_
  rintro e w11 ⟨rfl, hO11, hN11⟩
  clear G_10
  have hz11 := hO11.size
  have R_11 := Lib.hid (R_10.out.outside hO11 (by omega) (by omega))
  have K_11 := Lib.hid (K_10.out.outside hO11 (by omega) (by omega))
  have B11 := Lib.hid (B10.out.trans (hO11.below (B := w.heap.size) (by omega) (by omega)))
  have M_11 := Lib.hid hN11
  clear hO11 hN11
  have hmm : (0 : Int) ≤ 1 + (flat ps' : Int) := by omega
  go_wp2_with fail
  refine (heldInt64SS_r (w4.heap.size) (w5.heap.size) xg _ ps' 1 (by omega) (by omega) hl' _ M_11.out.row (by omega)).mono ?_
  rintro e w12 ⟨rfl, hb12⟩
  have hz12 := hb12.size
  have R_12 := Lib.hid (R_11.out.below hb12 (by omega))
  have K_12 := Lib.hid (K_11.out.below hb12 (by omega))
  have M_12 := Lib.hid (M_11.out.below hb12 (by omega))
  have B12 := Lib.hid (B11.out.trans (hb12.mono (by omega)))
  clear hb12
  go_wp2_with fail
  refine (toInt64SSS_c 0 w.heap.size a cap ts hl2 hs2 _ R_12.out (by omega)).mono ?_
  rintro e w13 ⟨xz, rfl, hb13, hN13⟩
  have hz13 := hb13.size
  have R_13 := Lib.hid (R_12.out.below hb13 (by omega))
  have K_13 := Lib.hid (K_12.out.below hb13 (by omega))
  have M_13 := Lib.hid (M_12.out.below hb13 (by omega))
  have B13 := Lib.hid (B12.out.trans (hb13.mono (by omega)))
  have Nz_13 := Lib.hid hN13
  clear hb13 hN13
  go_wp2_with fail
  refine (HIm.out _ _ _ hl2 hs2 (Nz_13.out.row.mono (by omega) (by omega))).mono ?_
  rintro e w14 ⟨xh, ch, rfl, hb14, hN14⟩
  clear Nz_13
  have hz14 := hb14.size
  have R_14 := Lib.hid (R_13.out.below hb14 (by omega))
  have K_14 := Lib.hid (K_13.out.below hb14 (by omega))
  have M_14 := Lib.hid (M_13.out.below hb14 (by omega))
  have B14 := Lib.hid (B13.out.trans (hb14.mono (by omega)))
  have H_14 := Lib.hid hN14.row
  clear hb14 hN14 HIm
  go_wp2_with fail
  refine (eqInt64SS_row _ _ _ _ xh xw _ _ ps' hl' hf' _ H_14.out K_14.out (by omega) (by omega)).mono ?_
  rintro e w15 ⟨rfl, hb15⟩
  have hz15 := hb15.size
  have R_15 := Lib.hid (R_14.out.below hb15 (by omega))
  have K_15 := Lib.hid (K_14.out.below hb15 (by omega))
  have M_15 := Lib.hid (M_14.out.below hb15 (by omega))
  have H_15 := Lib.hid (H_14.out.below hb15 (by omega))
  have B15 := Lib.hid (B14.out.trans (hb15.mono (by omega)))
  clear hb15
  go_wp2_with fail
  refine (heldInt64SS_r (w4.heap.size) (w5.heap.size) xg _ ps' 1 (by omega) (by omega) hl' _ M_15.out.row (by omega)).mono ?_
  rintro e w16 ⟨rfl, hb16⟩
  have hz16 := hb16.size
  have R_16 := Lib.hid (R_15.out.below hb16 (by omega))
  have K_16 := Lib.hid (K_15.out.below hb16 (by omega))
  have M_16 := Lib.hid (M_15.out.below hb16 (by omega))
  have H_16 := Lib.hid (H_15.out.below hb16 (by omega))
  have B16 := Lib.hid (B15.out.trans (hb16.mono (by omega)))
  clear hb16
  go_wp2
  go_ret
  exact ⟨rfl, B16.out⟩
end Go.Proofs.YtngpnbdndkddlaaDoor
