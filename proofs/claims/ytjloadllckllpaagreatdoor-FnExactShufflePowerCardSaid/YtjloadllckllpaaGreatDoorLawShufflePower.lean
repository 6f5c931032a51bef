/-
  'FnExactShufflePower' returns true at every input for which the two functions' contracts stand: the program's ShufflePower and its model's return the same series and code, in memory of its own, and the argument reads as before.
-/
import Derived.Test.YtjloadllckllpaaGreatDoorRes
import Derived.Test.YtjloadllckllpaaGreatDoorOpenR
namespace Go.Proofs.YtjloadllckllpaaGreatDoor
open Go.RowKit

set_option maxRecDepth 100000 in
set_option maxHeartbeats 4000000 in
theorem law_ShufflePower (L V : Int) (a : Option Addr) (cap : Nat) (ts : List Tm) (hl : ts.length ≤ maxLen) (hs : ∀ i (h : i < ts.length), (ts[i]).s.size ≤ maxLen) (n0 : Int) (w : World) (hr : Row w a ts)
    (L' V' c' : Int) (ts' : List Tm) (hl' : ts'.length ≤ 1048576)
    (hS : ∀ (W : World) (g : Nat), ts.length ≤ 1048576 → g < W.heap.size → TermsIn W g 0 ts → Calls Tryz.prog 15 #[.agg #[.int .i64 L, .int .i64 V, .slice (some ⟨g, 0, none⟩) ts.length ts.length], .int .i64 n0] W (SerPost L' V' ts' c' W))
    (hI : ∀ (W : World) (g : Nat), ts.length ≤ 1048576 → g < W.heap.size → TermsIn W g 0 ts → Calls Tryz.prog 16 #[.agg #[.int .i64 L, .int .i64 V, .slice (some ⟨g, 0, none⟩) ts.length ts.length], .int .i64 n0] W (SerPost L' V' ts' c' W)) :
    Calls Tryz.prog 5 #[.agg #[.int .i64 L, .int .i64 V, .slice a ts.length cap], .int .i64 n0] w fun e w' => e = .returned (.bool true) ∧ Below w.heap.size w w' := by
  have HR := Lib.hid hr
  have HS := Lib.hid hs
  have HSp := Lib.hid hS
  have HIm := Lib.hid hI
  clear hr hs hS hI
  go_enter Tryz.func5, Tryz.ntmps5
  go_wp2_with fail
  refine (szSeries_c L V a ts.length cap 1048576 _ (szTermS_row a cap ts hl HS.out 1048576 (by omega) _ ?_)).mono ?_
  · exact (HR.out.below (below1 w _)).below (below1 _ _)
  rintro e w1 ⟨he, hb1⟩
  have hz01 : w.heap.size < w1.heap.size := by have := hb1.size; simp at this; omega
  have C1 := Lib.hid (((Cs.nil w).box3 (.int .i64 L) (.int .i64 V) (.slice a ts.length cap) 24).below hb1 (Nat.le_refl _))
  have R1 := Lib.hid ((RowB.of_row HR.out).below ((below1 w _).trans (hb1.mono (by simp))) (Nat.le_refl _))
  have B1 := Lib.hid ((below1 w _).trans (hb1.mono (by simp)))
  clear hb1
  rcases he with rfl | ⟨r, hr0, hr1, hfit, rfl⟩
  · go_wp2
    go_ret
    exact ⟨rfl, B1.out⟩
  have hl2 : ts.length ≤ 1048576 := by omega
  have A0 := C1.out.get 0 rfl
  have A1 := C1.out.get 1 rfl
  have A2 := C1.out.get 2 rfl
  go_wp2_with fail
  refine (toSeries_c L V a cap ts hl2 _ (R1.out.row (by omega))).mono ?_
  clear A0 A1 A2
  rintro e w2 ⟨g2, rfl, hb2, hg2, hM2, hT2⟩
  have hz12 := hb2.size
  have C2 := Lib.hid (C1.out.below hb2 (by first | exact Nat.le_refl _ | (simp; omega) | omega))
  have R2 := Lib.hid (R1.out.below hb2 (by first | exact Nat.le_refl _ | (simp; omega) | omega))
  have B2 := Lib.hid (B1.out.trans (hb2.mono B1.out.size))
  have HT2 := Lib.hid hT2
  have hgl2 := hM2.1
  clear hb2 hM2 hT2 hg2 C1 R1 B1
  go_wp2_with fail
  refine (HSp.out _ g2 hl2 hgl2 HT2.out).mono ?_
  rintro e w3 ⟨aw, cw, rfl, hb3, hN3⟩
  have hz23 := hb3.size
  have C3 := Lib.hid (C2.out.below hb3 (by first | exact Nat.le_refl _ | (simp; omega) | omega))
  have R3 := Lib.hid (R2.out.below hb3 (by first | exact Nat.le_refl _ | (simp; omega) | omega))
  have B3 := Lib.hid (B2.out.trans (hb3.mono B2.out.size))
  have K3 := Lib.hid hN3.rowB
  clear hb3 hN3 C2 R2 B2 HT2 hgl2 HSp
  have A0 := C3.out.get 0 rfl
  have A1 := C3.out.get 1 rfl
  have A2 := C3.out.get 2 rfl
  have hz03 : w.heap.size < w3.heap.size := by omega
  go_wp2_with fail
  have R3a := Lib.hid (R3.out.below (below1 w3 (.cells #[.int .i64 L', .int .i64 V', .slice aw ts'.length cw] 28)) (by omega))
  refine (toSeries_c L V a cap ts hl2 _ (R3a.out.row (by simp; omega))).mono ?_
  clear A0 A1 A2
  rintro e w4 ⟨g4, rfl, hb4, hg4, hM4, hT4⟩
  have hz34 : w3.heap.size < w4.heap.size := by have := hb4.size; simp at this; omega
  have C4 := Lib.hid ((C3.out.box3 (.int .i64 L') (.int .i64 V') (.slice aw ts'.length cw) 28).below hb4 (Nat.le_refl _))
  have R4 := Lib.hid (R3a.out.below hb4 (by simp; omega))
  have K4 := Lib.hid ((K3.out.below (below1 w3 _) (Nat.le_refl _)).below hb4 (by simp))
  have B4 := Lib.hid (B3.out.trans ((below1 w3 _).mono B3.out.size |>.trans (hb4.mono (by simp; omega))))
  have X4 := Lib.hid (NewRow.of_to (lo := w3.heap.size + 1) (by simpa using hg4) hM4 hT4)
  have HT4 := Lib.hid hT4
  have hgl4 := hM4.1
  clear hb4 hg4 hM4 hT4 C3 R3 R3a K3 B3
  go_wp2_with fail
  refine (HIm.out _ g4 hl2 (by simp; omega) (HT4.out.below (below1 w4 _) hgl4)).mono ?_
  rintro e w5 ⟨ag, cg, rfl, hb5, hN5⟩
  have hz45 : w4.heap.size < w5.heap.size := by have := hb5.size; simp at this; omega
  have C5 := Lib.hid ((C4.out.box3 (.int .i64 L) (.int .i64 V) (.slice (some ⟨g4, 0, none⟩) ts.length ts.length) 28).below hb5 (Nat.le_refl _))
  have R5 := Lib.hid ((R4.out.below (below1 w4 _) (by omega)).below hb5 (by simp; omega))
  have K5 := Lib.hid ((K4.out.below (below1 w4 _) (by omega)).below hb5 (by simp; omega))
  have X5 := Lib.hid ((X4.out.below (below1 w4 _) (by omega)).below hb5 (by simp))
  have B5 := Lib.hid (B4.out.trans ((below1 w4 _).mono B4.out.size |>.trans (hb5.mono (by simp; omega))))
  have G5 := Lib.hid (hN5.mono (lo' := w4.heap.size + 1) (hi' := w5.heap.size) (by simp) (Nat.le_refl _))
  clear hb5 hN5 C4 R4 K4 X4 B4 HT4 hgl4
  have W0 := C5.out.get 3 rfl
  have W1 := C5.out.get 4 rfl
  have W2 := C5.out.get 5 rfl
  have hz35 : w3.heap.size < w5.heap.size := by omega
  go_wp2_with fail
  have G5a := Lib.hid (G5.out.below (below1 w5 (.cells #[.int .i64 L', .int .i64 V', .slice ag ts'.length cg] 28)) (Nat.le_refl _))
  have K5a := Lib.hid (K5.out.below (below1 w5 (.cells #[.int .i64 L', .int .i64 V', .slice ag ts'.length cg] 28)) (by omega))
  refine (eqSeries_row L' V' ag aw cg cw ts' hl' _ (G5a.out.row) (K5a.out.row (by simp; omega))).mono ?_
  clear W0 W1 W2
  rintro e w6 ⟨rfl, hb6⟩
  have hz56 : w5.heap.size < w6.heap.size := by have := hb6.size; simp at this; omega
  have C6 := Lib.hid ((C5.out.box3 (.int .i64 L') (.int .i64 V') (.slice ag ts'.length cg) 28).below hb6 (Nat.le_refl _))
  have R6 := Lib.hid ((R5.out.below (below1 w5 _) (by omega)).below hb6 (by simp; omega))
  have K6 := Lib.hid (K5a.out.below hb6 (by simp; omega))
  have X6 := Lib.hid ((X5.out.below (below1 w5 _) (by omega)).below hb6 (by simp; omega))
  have G6 := Lib.hid (G5a.out.below hb6 (by simp))
  have B6 := Lib.hid (B5.out.trans ((below1 w5 _).mono B5.out.size |>.trans (hb6.mono (by simp; omega))))
  clear hb6 C5 R5 K5 K5a X5 G5 G5a B5
  have X0 := C6.out.get 3 rfl
  have X1 := C6.out.get 4 rfl
  have X2 := C6.out.get 5 rfl
  have A0 := C6.out.get 9 rfl
  have A1 := C6.out.get 10 rfl
  have A2 := C6.out.get 11 rfl
  have hz06 : w.heap.size < w6.heap.size := by omega
  have hz46 : w4.heap.size < w6.heap.size := by omega
  go_upto_region 10 with fail
  go_cut [49] (fun sc wy => sc = .bool false ∧ Below w6.heap.size w6 wy)
  case first =>
    go_region_held3 (fun w' => w'.cell? ⟨w.heap.size, 0, none⟩ = some (.int .i64 L) ∧ w'.cell? ⟨w.heap.size, 1, none⟩ = some (.int .i64 V) ∧ w'.cell? ⟨w.heap.size, 2, none⟩ = some (.slice a ts.length cap) ∧ w'.cell? ⟨w4.heap.size, 0, none⟩ = some (.int .i64 L) ∧ w'.cell? ⟨w4.heap.size, 1, none⟩ = some (.int .i64 V) ∧ w'.cell? ⟨w4.heap.size, 2, none⟩ = some (.slice (some ⟨g4, 0, none⟩) ts.length ts.length)) (first | (refine held33 hb7 ?_ ?_ ⟨A0, A1, A2, X0, X1, X2⟩ <;> first | omega | (show _ < w6.heap.size; omega) | (simp; omega)) | go_keep)
      (first
        | (go_at_call 8; refine (toSeries_c L V a cap ts hl2 _ ?_).mono ?_; (exact R6.out.row (by omega)); rintro e w7 ⟨g7, rfl, hb0, hg7, hM7, hT7⟩; have hb7 : Below w6.heap.size w6 w7 := ⟨hb0.os, hb0.tape, hb0.output, hb0.size, hb0.block⟩)
        | (go_at_call 10; refine (eqSeries_row L V (some ⟨g4, 0, none⟩) (some ⟨g7, 0, none⟩) _ _ ts hl2 _ ?_ ?_).mono ?_; (exact (X6.out.below hb7 (by omega)).row); (exact .inr ⟨g7, 0, rfl, hM7.1, hT7⟩); rintro e w8 ⟨rfl, hb8⟩; have hb7 : Below w6.heap.size w6 w8 := hb7.trans (hb8.mono hb7.size)))
    all_goals (go_wp2_with fail; go_meet)
    all_goals exact ⟨rfl, hb7⟩
  case rest =>
    obtain ⟨rfl, hBy⟩ := hcut
    obtain ⟨w7, rfl⟩ : ∃ w7 : World, w7 = wc := ⟨_, rfl⟩
    have hz67 := hBy.size
    have C7 := Lib.hid (C6.out.below hBy (by first | exact Nat.le_refl _ | (simp; omega) | omega))
    have R7 := Lib.hid (R6.out.below hBy (by first | exact Nat.le_refl _ | (simp; omega) | omega))
    have K7 := Lib.hid (K6.out.below hBy (by first | exact Nat.le_refl _ | (simp; omega) | omega))
    have X7 := Lib.hid (X6.out.below hBy (by first | exact Nat.le_refl _ | (simp; omega) | omega))
    have G7 := Lib.hid (G6.out.below hBy (by first | exact Nat.le_refl _ | (simp; omega) | omega))
    have B7 := Lib.hid (B6.out.trans (hBy.mono B6.out.size))
    clear hBy A0 A1 A2 X0 X1 X2 C6 R6 K6 X6 G6 B6
    have X0 := C7.out.get 3 rfl
    have X1 := C7.out.get 4 rfl
    have X2 := C7.out.get 5 rfl
    go_wp2_with fail
    refine (markSeries_row L V (w3.heap.size + 1) w4.heap.size (some ⟨g4, 0, none⟩) _ ts 1 (by omega) (by omega) _ X7.out).mono ?_
    clear X0 X1 X2
    rintro e w8 ⟨r8, rfl, hG8, hr8, hN8⟩
    have hz78 := hG8.size
    have C8 := Lib.hid (C7.out.grown hG8 (by
      intro p hp h
      have := hr8 p.1 h.symm
      simp only [List.mem_cons, List.not_mem_nil, or_false] at hp
      rcases hp with rfl | rfl | rfl | rfl | rfl | rfl | rfl | rfl | rfl | rfl | rfl | rfl <;> simp only at this <;> omega))
    have R8 := Lib.hid (R7.out.grown hG8 (by omega) (fun g h => by have := hr8 g h; omega))
    have K8 := Lib.hid (K7.out.grown hG8 (by omega) (fun g h => by have := hr8 g h; omega))
    have G8 := Lib.hid (G7.out.grown hG8 (fun g h => by have := hr8 g h; omega))
    have B8 := Lib.hid (B7.out.trans (below_of_grown hG8 (fun g h => by have := hr8 g h; omega) (by omega)))
    clear hG8 hr8 hN8 C7 R7 K7 X7 G7 B7
    have G0 := C8.out.get 0 rfl
    have G1 := C8.out.get 1 rfl
    have G2 := C8.out.get 2 rfl
    have W0 := C8.out.get 6 rfl
    have W1 := C8.out.get 7 rfl
    have W2 := C8.out.get 8 rfl
    have hk8 : (0 : Int) ≤ 1 + 3 * (ts.length : Int) := by omega
    go_wp2_with fail
    refine (eqSeries_row L' V' ag aw cg cw ts' hl' _ (G8.out.row) (K8.out.row (by omega))).mono ?_
    clear G0 G1 G2 W0 W1 W2
    rintro e w9 ⟨rfl, hb9⟩
    have hz89 := hb9.size
    have C9 := Lib.hid (C8.out.below hb9 (by first | exact Nat.le_refl _ | (simp; omega) | omega))
    have R9 := Lib.hid (R8.out.below hb9 (by first | exact Nat.le_refl _ | (simp; omega) | omega))
    have K9 := Lib.hid (K8.out.below hb9 (by first | exact Nat.le_refl _ | (simp; omega) | omega))
    have G9 := Lib.hid (G8.out.below hb9 (by first | exact Nat.le_refl _ | (simp; omega) | omega))
    have B9 := Lib.hid (B8.out.trans (hb9.mono B8.out.size))
    clear hb9 C8 R8 K8 G8 B8
    have G0 := C9.out.get 0 rfl
    have G1 := C9.out.get 1 rfl
    have G2 := C9.out.get 2 rfl
    go_wp2_with fail
    refine (markSeries_row L' V' (w4.heap.size + 1) w5.heap.size ag _ ts' 1 (by omega) (by omega) _ G9.out).mono ?_
    clear G0 G1 G2
    rintro e w10 ⟨r10, rfl, hG10, hr10, hN10⟩
    have hz910 := hG10.size
    have C10 := Lib.hid (C9.out.grown hG10 (by
      intro p hp h
      have := hr10 p.1 h.symm
      simp only [List.mem_cons, List.not_mem_nil, or_false] at hp
      rcases hp with rfl | rfl | rfl | rfl | rfl | rfl | rfl | rfl | rfl | rfl | rfl | rfl <;> simp only at this <;> omega))
    have R10 := Lib.hid (R9.out.grown hG10 (by omega) (fun g h => by have := hr10 g h; omega))
    have K10 := Lib.hid (K9.out.grown hG10 (by omega) (fun g h => by have := hr10 g h; omega))
    have M10 := Lib.hid hN10
    have B10 := Lib.hid (B9.out.trans (below_of_grown hG10 (fun g h => by have := hr10 g h; omega) (by omega)))
    clear hG10 hr10 hN10 C9 R9 K9 G9 B9
    have G0 := C10.out.get 0 rfl
    have G1 := C10.out.get 1 rfl
    have G2 := C10.out.get 2 rfl
    have hk10 : (0 : Int) ≤ 1 + 3 * (ts'.length : Int) := by omega
    go_wp2_with fail
    refine (heldSeries_row L' V' (w4.heap.size + 1) w5.heap.size ag _ ts' 1 (by omega) (by omega) _ M10.out).mono ?_
    clear G0 G1 G2
    rintro e w11 ⟨rfl, hb11⟩
    have hz1011 := hb11.size
    have C11 := Lib.hid (C10.out.below hb11 (by first | exact Nat.le_refl _ | (simp; omega) | omega))
    have R11 := Lib.hid (R10.out.below hb11 (by first | exact Nat.le_refl _ | (simp; omega) | omega))
    have K11 := Lib.hid (K10.out.below hb11 (by first | exact Nat.le_refl _ | (simp; omega) | omega))
    have M11 := Lib.hid (M10.out.below hb11 (by first | exact Nat.le_refl _ | (simp; omega) | omega))
    have B11 := Lib.hid (B10.out.trans (hb11.mono B10.out.size))
    clear hb11 C10 R10 K10 M10 B10
    have A0 := C11.out.get 9 rfl
    have A1 := C11.out.get 10 rfl
    have A2 := C11.out.get 11 rfl
    go_wp2_with fail
    refine (toSeries_c L V a cap ts hl2 _ (R11.out.row (by omega))).mono ?_
    clear A0 A1 A2
    rintro e w12 ⟨g12, rfl, hb12, hg12, hM12, hT12⟩
    have hz1112 := hb12.size
    have C12 := Lib.hid (C11.out.below hb12 (by first | exact Nat.le_refl _ | (simp; omega) | omega))
    have R12 := Lib.hid (R11.out.below hb12 (by first | exact Nat.le_refl _ | (simp; omega) | omega))
    have K12 := Lib.hid (K11.out.below hb12 (by first | exact Nat.le_refl _ | (simp; omega) | omega))
    have M12 := Lib.hid (M11.out.below hb12 (by first | exact Nat.le_refl _ | (simp; omega) | omega))
    have B12 := Lib.hid (B11.out.trans (hb12.mono B11.out.size))
    have HT12 := Lib.hid hT12
    have hgl12 := hM12.1
    clear hb12 hg12 hM12 hT12 C11 R11 K11 M11 B11
    go_wp2_with fail
    refine (HIm.out _ g12 hl2 hgl12 HT12.out).mono ?_
    rintro e w13 ⟨ah, ch, rfl, hb13, hN13⟩
    have hz1213 := hb13.size
    have C13 := Lib.hid (C12.out.below hb13 (by first | exact Nat.le_refl _ | (simp; omega) | omega))
    have R13 := Lib.hid (R12.out.below hb13 (by first | exact Nat.le_refl _ | (simp; omega) | omega))
    have K13 := Lib.hid (K12.out.below hb13 (by first | exact Nat.le_refl _ | (simp; omega) | omega))
    have M13 := Lib.hid (M12.out.below hb13 (by first | exact Nat.le_refl _ | (simp; omega) | omega))
    have B13 := Lib.hid (B12.out.trans (hb13.mono B12.out.size))
    have H13 := Lib.hid hN13
    clear hb13 hN13 HT12 hgl12 C12 R12 K12 M12 B12
    have W0 := C13.out.get 6 rfl
    have W1 := C13.out.get 7 rfl
    have W2 := C13.out.get 8 rfl
    have hz313 : w3.heap.size < w13.heap.size := by omega
    go_wp2_with fail
    have H13a := Lib.hid (H13.out.row.below (below1 w13 (.cells #[.int .i64 L', .int .i64 V', .slice ah ts'.length ch] 28)))
    have K13a := Lib.hid (K13.out.below (below1 w13 (.cells #[.int .i64 L', .int .i64 V', .slice ah ts'.length ch] 28)) (by omega))
    refine (eqSeries_row L' V' ah aw ch cw ts' hl' _ H13a.out (K13a.out.row (by simp; omega))).mono ?_
    clear W0 W1 W2 H13a K13a
    rintro e w14 ⟨rfl, hb14⟩
    have hz1314 : w13.heap.size < w14.heap.size := by have := hb14.size; simp at this; omega
    have C14 := Lib.hid ((C13.out.alloc (.cells #[.int .i64 L', .int .i64 V', .slice ah ts'.length ch] 28)).below hb14 (Nat.le_refl _))
    have M14 := Lib.hid ((M13.out.below (below1 w13 _) (by omega)).below hb14 (by simp; omega))
    have B14 := Lib.hid (B13.out.trans ((below1 w13 _).mono B13.out.size |>.trans (hb14.mono (by have := B13.out.size; simp; omega))))
    clear hb14 C13 R13 K13 M13 B13 H13
    have G0 := C14.out.get 0 rfl
    have G1 := C14.out.get 1 rfl
    have G2 := C14.out.get 2 rfl
    go_wp2_with fail
    refine (heldSeries_row L' V' (w4.heap.size + 1) w5.heap.size ag _ ts' 1 (by omega) (by omega) _ M14.out).mono ?_
    clear G0 G1 G2
    rintro e w15 ⟨rfl, hb15⟩
    have B15 := Lib.hid (B14.out.trans (hb15.mono B14.out.size))
    clear hb15
    go_wp2
    go_ret
    exact ⟨rfl, B15.out⟩
end Go.Proofs.YtjloadllckllpaaGreatDoor
