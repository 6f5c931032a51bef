/-
  'FnExactMeanSignature' returns true at every input for which the two functions' contracts stand: the program's MeanSignature and its model's return the same series and code, in memory of its own, and the argument reads as before.
-/
import Derived.Test.YteljpgoaaelbfaaGreatDoorSerP
namespace Go.Proofs.YteljpgoaaelbfaaGreatDoor
open Go.RowKit

set_option maxRecDepth 100000 in
set_option maxHeartbeats 8000000 in
theorem law_MeanSignature (n0 : Int) (n1 : Int) (n3 : Int) (a : Option Addr) (cap : Nat) (ps : List (List Int)) (hl : ps.length ≤ maxLen) (hs : ∀ i (h : i < ps.length), (ps[i]).length ≤ maxLen) (w : World) (hr : PRow 0 w.heap.size w a ps)
    (L' V' c' : Int) (ts' : List Tm) (hl' : ts'.length ≤ 1048576)
    (hS : ∀ (W : World) (b : Option Addr) (k : Nat), ps.length ≤ 1048576 → flat ps ≤ 1048576 → PRow 0 W.heap.size W b ps → Calls Tryz.prog 5 #[.int .i64 n0, .int .i64 n1, .slice b ps.length k, .int .i64 n3] W (SerPost L' V' ts' c' W))
    (hI : ∀ (W : World) (b : Option Addr) (k : Nat), ps.length ≤ 1048576 → flat ps ≤ 1048576 → PRow 0 W.heap.size W b ps → Calls Tryz.prog 7 #[.int .i64 n0, .int .i64 n1, .slice b ps.length k, .int .i64 n3] W (SerPost L' V' ts' c' W))
    : Calls Tryz.prog 3 #[.int .i64 n0, .int .i64 n1, .slice a ps.length cap, .int .i64 n3] w fun e w' => e = .returned (.bool true) ∧ Below w.heap.size w w' := by
  have HSp := Lib.hid hS
  have HIm := Lib.hid hI
  have R_0 := Lib.hid hr
  have HS := Lib.hid hs
  clear hS hI hs hr
  go_enter Tryz.func3, Tryz.ntmps3
  go_wp2_with fail
  refine (szInt64SS_c 0 w.heap.size a cap ps hl HS.out 1048576 (by omega) _ R_0.out (by omega)).mono ?_
  rintro e w1 ⟨he, hb1⟩
  have hz1 := hb1.size
  have R_1 := Lib.hid (R_0.out.below hb1 (by omega))
  have B1 := Lib.hid ((hb1))
  rcases he with rfl | ⟨r, hr0, hr1, rfl⟩
  · go_wp2
    go_ret
    exact ⟨rfl, B1.out⟩
  have hl2 : ps.length ≤ 1048576 := by omega
  have hs2 : flat ps ≤ 1048576 := by omega
  clear hr1 hb1
  go_wp2_with fail
  refine (toInt64SS_c 0 w.heap.size a cap ps hl2 hs2 _ R_1.out (by omega)).mono ?_
  rintro e w2 ⟨xs, rfl, hb2, hN2⟩
  have hz2 := hb2.size
  have R_2 := Lib.hid (R_1.out.below hb2 (by omega))
  have B2 := Lib.hid (B1.out.trans (hb2.mono (by omega)))
  have Ns_2 := Lib.hid hN2
  clear hb2 hN2
  go_wp2_with fail
  refine (HSp.out _ _ _ hl2 hs2 (Ns_2.out.row.mono (by omega) (by omega))).mono ?_
  rintro e w3 ⟨aw, cw, rfl, hb3, hN3⟩
  clear Ns_2
  have hz3 := hb3.size
  have R_3 := Lib.hid (R_2.out.below hb3 (by omega))
  have B3 := Lib.hid (B2.out.trans (hb3.mono (by omega)))
  have K_3 := Lib.hid hN3.rowB
  clear hb3 hN3 HSp
  go_wp2_with fail
  have HRb := Lib.hid (R_3.out.below (below1 w3 (.cells #[.int .i64 L', .int .i64 V', .slice aw ts'.length cw] 26)) (by omega))
  refine (toInt64SS_c 0 w.heap.size a cap ps hl2 hs2 _ HRb.out (by simp; omega)).mono ?_
  rintro e w4 ⟨xx, rfl, hb4', hN4⟩
  have hb4 : Below w3.heap.size w3 w4 := (below1 w3 (.cells #[.int .i64 L', .int .i64 V', .slice aw ts'.length cw] 26)).trans (hb4'.mono (by simp))
  have hzs4 : w3.heap.size < w4.heap.size := by have := hb4'.size; simp at this; omega
  have C_4 := Lib.hid (((Cs.nil w3).box3 (.int .i64 L') (.int .i64 V') (.slice aw ts'.length cw) 26).below hb4' (Nat.le_refl _))
  have hz4 := hb4.size
  have R_4 := Lib.hid (R_3.out.below hb4 (by omega))
  have K_4 := Lib.hid (K_3.out.below hb4 (by omega))
  have B4 := Lib.hid (B3.out.trans (hb4.mono (by omega)))
  have Nx_4 := Lib.hid (hN4.mono (lo' := w3.heap.size + 1) (by simp) (Nat.le_refl _))
  clear hb4 hb4' hN4 HRb
  go_wp2_with fail
  refine (HIm.out _ _ _ hl2 hs2 (Nx_4.out.row.mono (by omega) (by omega))).mono ?_
  rintro e w5 ⟨ag, cg, rfl, hb5, hN5⟩
  have hz5 := hb5.size
  have R_5 := Lib.hid (R_4.out.below hb5 (by omega))
  have K_5 := Lib.hid (K_4.out.below hb5 (by omega))
  have C_5 := Lib.hid (C_4.out.below hb5 (by omega))
  have Nx_5 := Lib.hid (Nx_4.out.below hb5 (by omega))
  have B5 := Lib.hid (B4.out.trans (hb5.mono (by omega)))
  have G_5 := Lib.hid hN5
  clear hb5 hN5
  have W0 := C_5.out.get 0 rfl
  have W1 := C_5.out.get 1 rfl
  have W2 := C_5.out.get 2 rfl
  have hzW5 : w3.heap.size < w5.heap.size := by omega
  go_wp2_with fail
  have HGb := Lib.hid (G_5.out.below (below1 w5 (.cells #[.int .i64 L', .int .i64 V', .slice ag ts'.length cg] 26)) (by omega))
  have HKb := Lib.hid (K_5.out.below (below1 w5 (.cells #[.int .i64 L', .int .i64 V', .slice ag ts'.length cg] 26)) (by omega))
  refine (eqSeries_row L' V' ag aw cg cw ts' hl' _ HGb.out.row (HKb.out.row (by simp; omega))).mono ?_
  clear W0 W1 W2 HGb HKb
  rintro e w6 ⟨rfl, hb6'⟩
  have hb6 : Below w5.heap.size w5 w6 := (below1 w5 (.cells #[.int .i64 L', .int .i64 V', .slice ag ts'.length cg] 26)).trans (hb6'.mono (by simp))
  have hzs6 : w5.heap.size < w6.heap.size := by have := hb6'.size; simp at this; omega
  have Cb_6 := Lib.hid ((C_5.out.box3 (.int .i64 L') (.int .i64 V') (.slice ag ts'.length cg) 26).below hb6' (Nat.le_refl _))
  have hz6 := hb6.size
  have R_6 := Lib.hid (R_5.out.below hb6 (by omega))
  have K_6 := Lib.hid (K_5.out.below hb6 (by omega))
  have Nx_6 := Lib.hid (Nx_5.out.below hb6 (by omega))
  have G_6 := Lib.hid (G_5.out.below hb6 (by omega))
  have B6 := Lib.hid (B5.out.trans (hb6.mono (by omega)))
  clear hb6 hb6'
  go_wp2_with fail
  refine (toInt64SS_c 0 w.heap.size a cap ps hl2 hs2 _ R_6.out (by omega)).mono ?_
  rintro e w7 ⟨xy, rfl, hb7, hN7⟩
  have hz7 := hb7.size
  have R_7 := Lib.hid (R_6.out.below hb7 (by omega))
  have K_7 := Lib.hid (K_6.out.below hb7 (by omega))
  have C_7 := Lib.hid (Cb_6.out.below hb7 (by omega))
  have Nx_7 := Lib.hid (Nx_6.out.below hb7 (by omega))
  have G_7 := Lib.hid (G_6.out.below hb7 (by omega))
  have B7 := Lib.hid (B6.out.trans (hb7.mono (by omega)))
  have Ny_7 := Lib.hid hN7
  clear hb7 hN7
  go_wp2_with fail
  refine (eqInt64SS_row _ _ _ _ xx xy _ _ ps hl2 hs2 _ Nx_7.out.row Ny_7.out.row (by omega) (by omega)).mono ?_
  rintro e w8 ⟨rfl, hb8⟩
  clear Ny_7
  have hz8 := hb8.size
  have R_8 := Lib.hid (R_7.out.below hb8 (by omega))
  have K_8 := Lib.hid (K_7.out.below hb8 (by omega))
  have C_8 := Lib.hid (C_7.out.below hb8 (by omega))
  have Nx_8 := Lib.hid (Nx_7.out.below hb8 (by omega))
  have G_8 := Lib.hid (G_7.out.below hb8 (by omega))
  have B8 := Lib.hid (B7.out.trans (hb8.mono (by omega)))
  clear hb8
  go_wp2_with fail
  refine (markInt64SS_row (w3.heap.size + 1) (w4.heap.size) xx _ ps 1 (by omega) (by omega) hl2 _ Nx_8.out).mono ?_
  rintro e w9 ⟨rfl, hO9, hN9⟩
  clear Nx_8
  have hz9 := hO9.size
  have R_9 := Lib.hid (R_8.out.outside hO9 (by omega) (by omega))
  have K_9 := Lib.hid (K_8.out.outside hO9 (by omega) (by omega))
  have C_9 := Lib.hid (C_8.out.outside hO9 (by intro p hp; simp only [List.mem_cons, List.not_mem_nil, or_false] at hp; rcases hp with rfl | rfl | rfl | rfl | rfl | rfl <;> simp only <;> omega))
  have G_9 := Lib.hid (G_8.out.outside hO9 (by omega))
  have B9 := Lib.hid (B8.out.trans (hO9.below (B := w.heap.size) (by omega) (by omega)))
  clear hO9 hN9
  have hkk : (0 : Int) ≤ 1 + (flat ps : Int) := by omega
  have W0 := C_9.out.get 3 rfl
  have W1 := C_9.out.get 4 rfl
  have W2 := C_9.out.get 5 rfl
  have G0 := C_9.out.get 0 rfl
  have G1 := C_9.out.get 1 rfl
  have G2 := C_9.out.get 2 rfl
  go_wp2_with fail
  refine (eqSeries_row L' V' ag aw cg cw ts' hl' _ G_9.out.row (K_9.out.row (by omega))).mono ?_
  clear W0 W1 W2 G0 G1 G2
  rintro e w10 ⟨rfl, hb10⟩
  have hz10 := hb10.size
  have R_10 := Lib.hid (R_9.out.below hb10 (by omega))
  have K_10 := Lib.hid (K_9.out.below hb10 (by omega))
  have C_10 := Lib.hid (C_9.out.below hb10 (by omega))
  have G_10 := Lib.hid (G_9.out.below hb10 (by omega))
  have B10 := Lib.hid (B9.out.trans (hb10.mono (by omega)))
  clear hb10
  have G0 := C_10.out.get 0 rfl
  have G1 := C_10.out.get 1 rfl
  have G2 := C_10.out.get 2 rfl
  go_wp2_with fail
  refine (markSeries_row L' V' (w4.heap.size) (w5.heap.size) ag _ ts' 1 (by omega) (by omega) _ G_10.out).mono ?_
  clear G0 G1 G2
  rintro e w11 ⟨rm, rfl, hG, hrm, hN11⟩
  have hO11 := Outside.of_grown hG hrm
  clear G_10
  have hz11 := hO11.size
  have R_11 := Lib.hid (R_10.out.outside hO11 (by omega) (by omega))
  have K_11 := Lib.hid (K_10.out.outside hO11 (by omega) (by omega))
  have C_11 := Lib.hid (C_10.out.outside hO11 (by intro p hp; simp only [List.mem_cons, List.not_mem_nil, or_false] at hp; rcases hp with rfl | rfl | rfl | rfl | rfl | rfl <;> simp only <;> omega))
  have B11 := Lib.hid (B10.out.trans (hO11.below (B := w.heap.size) (by omega) (by omega)))
  have M_11 := Lib.hid hN11
  clear hO11 hN11 hG hrm
  have hmm : (0 : Int) ≤ 1 + 3 * (ts'.length : Int) := by omega
  have G0 := C_11.out.get 0 rfl
  have G1 := C_11.out.get 1 rfl
  have G2 := C_11.out.get 2 rfl
  go_wp2_with fail
  refine (heldSeries_row L' V' (w4.heap.size) (w5.heap.size) ag _ ts' 1 (by omega) (by omega) _ M_11.out).mono ?_
  clear G0 G1 G2
  rintro e w12 ⟨rfl, hb12⟩
  have hz12 := hb12.size
  have R_12 := Lib.hid (R_11.out.below hb12 (by omega))
  have K_12 := Lib.hid (K_11.out.below hb12 (by omega))
  have C_12 := Lib.hid (C_11.out.below hb12 (by omega))
  have M_12 := Lib.hid (M_11.out.below hb12 (by omega))
  have B12 := Lib.hid (B11.out.trans (hb12.mono (by omega)))
  clear hb12
  go_wp2_with fail
  refine (toInt64SS_c 0 w.heap.size a cap ps hl2 hs2 _ R_12.out (by omega)).mono ?_
  rintro e w13 ⟨xz, rfl, hb13, hN13⟩
  have hz13 := hb13.size
  have R_13 := Lib.hid (R_12.out.below hb13 (by omega))
  have K_13 := Lib.hid (K_12.out.below hb13 (by omega))
  have C_13 := Lib.hid (C_12.out.below hb13 (by omega))
  have M_13 := Lib.hid (M_12.out.below hb13 (by omega))
  have B13 := Lib.hid (B12.out.trans (hb13.mono (by omega)))
  have Nz_13 := Lib.hid hN13
  clear hb13 hN13
  go_wp2_with fail
  refine (HIm.out _ _ _ hl2 hs2 (Nz_13.out.row.mono (by omega) (by omega))).mono ?_
  rintro e w14 ⟨ah, ch, rfl, hb14, hN14⟩
  clear Nz_13
  have hz14 := hb14.size
  have R_14 := Lib.hid (R_13.out.below hb14 (by omega))
  have K_14 := Lib.hid (K_13.out.below hb14 (by omega))
  have C_14 := Lib.hid (C_13.out.below hb14 (by omega))
  have M_14 := Lib.hid (M_13.out.below hb14 (by omega))
  have B14 := Lib.hid (B13.out.trans (hb14.mono (by omega)))
  have H_14 := Lib.hid hN14
  clear hb14 hN14 HIm
  have W0 := C_14.out.get 3 rfl
  have W1 := C_14.out.get 4 rfl
  have W2 := C_14.out.get 5 rfl
  have hzW14 : w3.heap.size < w14.heap.size := by omega
  go_wp2_with fail
  have HGb := Lib.hid (H_14.out.below (below1 w14 (.cells #[.int .i64 L', .int .i64 V', .slice ah ts'.length ch] 26)) (by omega))
  have HKb := Lib.hid (K_14.out.below (below1 w14 (.cells #[.int .i64 L', .int .i64 V', .slice ah ts'.length ch] 26)) (by omega))
  refine (eqSeries_row L' V' ah aw ch cw ts' hl' _ HGb.out.row (HKb.out.row (by simp; omega))).mono ?_
  clear W0 W1 W2 HGb HKb
  rintro e w15 ⟨rfl, hb15'⟩
  have hb15 : Below w14.heap.size w14 w15 := (below1 w14 (.cells #[.int .i64 L', .int .i64 V', .slice ah ts'.length ch] 26)).trans (hb15'.mono (by simp))
  clear H_14
  have hz15 := hb15.size
  have R_15 := Lib.hid (R_14.out.below hb15 (by omega))
  have K_15 := Lib.hid (K_14.out.below hb15 (by omega))
  have C_15 := Lib.hid (C_14.out.below hb15 (by omega))
  have M_15 := Lib.hid (M_14.out.below hb15 (by omega))
  have B15 := Lib.hid (B14.out.trans (hb15.mono (by omega)))
  clear hb15 hb15'
  have G0 := C_15.out.get 0 rfl
  have G1 := C_15.out.get 1 rfl
  have G2 := C_15.out.get 2 rfl
  go_wp2_with fail
  refine (heldSeries_row L' V' (w4.heap.size) (w5.heap.size) ag _ ts' 1 (by omega) (by omega) _ M_15.out).mono ?_
  clear G0 G1 G2
  rintro e w16 ⟨rfl, hb16⟩
  have hz16 := hb16.size
  have R_16 := Lib.hid (R_15.out.below hb16 (by omega))
  have K_16 := Lib.hid (K_15.out.below hb16 (by omega))
  have C_16 := Lib.hid (C_15.out.below hb16 (by omega))
  have M_16 := Lib.hid (M_15.out.below hb16 (by omega))
  have B16 := Lib.hid (B15.out.trans (hb16.mono (by omega)))
  clear hb16
  go_wp2
  go_ret
  exact ⟨rfl, B16.out⟩
end Go.Proofs.YteljpgoaaelbfaaGreatDoor
