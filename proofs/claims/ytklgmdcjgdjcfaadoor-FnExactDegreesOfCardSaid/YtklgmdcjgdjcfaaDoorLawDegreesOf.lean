/-
  'FnExactDegreesOf' returns true at every input for which the two functions' contracts stand: the program's DegreesOf and its model's return the same lists and code, in memory of its own, and the argument reads as before.
-/
import Derived.Test.YtklgmdcjgdjcfaaDoorRes
import Derived.Test.YtklgmdcjgdjcfaaDoorOpenR
import Derived.Test.YtklgmdcjgdjcfaaDoorPathRes
namespace Go.Proofs.YtklgmdcjgdjcfaaDoor
open Go.RowKit

theorem Cs.outside {w w' : World} {l : List (Nat × Nat × Value)} {lo hi : Nat} (h : Cs w l) (hO : Outside lo hi w w') (hr : ∀ p ∈ l, p.1 < lo ∨ hi ≤ p.1) : Cs w' l := fun p hp =>
  ⟨Nat.lt_of_lt_of_le (h p hp).1 hO.size, (hO.cell (h p hp).1 (hr p hp)).trans (h p hp).2⟩
theorem RowB.outside {hi l h' : Nat} {w w' : World} {a : Option Addr} {ts : List Tm} (h : RowB hi w a ts) (hg : Outside l h' w w') (hs : hi ≤ w.heap.size) (ho : hi ≤ l) : RowB hi w' a ts := by
  rcases h with h | ⟨b, off, e, h1, h2⟩
  · exact .inl h
  · exact .inr ⟨b, off, e, h1, fun i hi => ⟨(hg.cell (by omega) (.inl (by omega))).trans (h2 i hi).1, (hg.cell (by omega) (.inl (by omega))).trans (h2 i hi).2.1, (hg.cell (by omega) (.inl (by omega))).trans (h2 i hi).2.2⟩⟩

set_option maxRecDepth 100000 in
set_option maxHeartbeats 8000000 in
theorem law_DegreesOf (L V : Int) (a : Option Addr) (cap : Nat) (ts : List Tm) (hl : ts.length ≤ maxLen) (hs : ∀ i (h : i < ts.length), (ts[i]).s.size ≤ maxLen) (w : World) (hr : Row w a ts)
    (qs' : List (List Int)) (c' : Int) (hq1 : qs'.length ≤ 1048576) (hq2 : flat qs' ≤ 1048576)
    (hS : ∀ (W : World) (g : Nat), ts.length ≤ 1048576 → g < W.heap.size → TermsIn W g 0 ts → Calls Tryd.prog 5 #[.agg #[.int .i64 L, .int .i64 V, .slice (some ⟨g, 0, none⟩) ts.length ts.length]] W (PathPost qs' c' W))
    (hI : ∀ (W : World) (g : Nat), ts.length ≤ 1048576 → g < W.heap.size → TermsIn W g 0 ts → Calls Tryd.prog 7 #[.agg #[.int .i64 L, .int .i64 V, .slice (some ⟨g, 0, none⟩) ts.length ts.length]] W (PathPost qs' c' W)) :
    Calls Tryd.prog 3 #[.agg #[.int .i64 L, .int .i64 V, .slice a ts.length cap]] w fun e w' => e = .returned (.bool true) ∧ Below w.heap.size w w' := by
  have HR := Lib.hid hr
  have HS := Lib.hid hs
  have HSp := Lib.hid hS
  have HIm := Lib.hid hI
  clear hr hs hS hI
  go_enter Tryd.func3, Tryd.ntmps3
  go_wp2_with fail
  refine (szSeries_c L V a ts.length cap 1048576 _ (szTermS_row a cap ts hl HS.out 1048576 (by omega) _ ?_)).mono ?_
  · exact (HR.out.below (below1 w _)).below (below1 _ _)
  rintro e w1 ⟨he, hb1⟩
  have hz01 : w.heap.size < w1.heap.size := by have := hb1.size; simp at this; omega
  have C1 := Lib.hid (((Cs.nil w).box3 (.int .i64 L) (.int .i64 V) (.slice a ts.length cap) 24).below hb1 (Nat.le_refl _))
  have R1 := Lib.hid ((RowB.of_row HR.out).below ((below1 w _).trans (hb1.mono (by simp))) (Nat.le_refl _))
  have B1 := Lib.hid ((below1 w _).trans (hb1.mono (by simp)))
  clear hb1
  rcases he with rfl | ⟨r, hr0, hr1, hfit, rfl⟩
  · go_wp2
    go_ret
    exact ⟨rfl, B1.out⟩
  have hl2 : ts.length ≤ 1048576 := by omega
  have A0 := C1.out.get 0 rfl
  have A1 := C1.out.get 1 rfl
  have A2 := C1.out.get 2 rfl
  go_wp2_with fail
  refine (toSeries_c L V a cap ts hl2 _ (R1.out.row (by omega))).mono ?_
  clear A0 A1 A2
  rintro e w2 ⟨g2, rfl, hb2, hg2, hM2, hT2⟩
  have hz12 := hb2.size
  have C2 := Lib.hid (C1.out.below hb2 (by first | exact Nat.le_refl _ | omega))
  have R2 := Lib.hid (R1.out.below hb2 (by first | exact Nat.le_refl _ | omega))
  have B2 := Lib.hid (B1.out.trans (hb2.mono B1.out.size))
  have HT2 := Lib.hid hT2
  have hgl2 := hM2.1
  clear hb2 hM2 hT2 hg2 C1 R1 B1
  go_wp2_with fail
  refine (HSp.out _ g2 hl2 hgl2 HT2.out).mono ?_
  rintro e w3 ⟨aw, cw, rfl, hb3, hN3⟩
  have hz23 := hb3.size
  have C3 := Lib.hid (C2.out.below hb3 (by first | exact Nat.le_refl _ | omega))
  have R3 := Lib.hid (R2.out.below hb3 (by first | exact Nat.le_refl _ | omega))
  have B3 := Lib.hid (B2.out.trans (hb3.mono B2.out.size))
  have K3 := Lib.hid hN3
  clear hb3 hN3 C2 R2 B2 HT2 hgl2 HSp
  have A0 := C3.out.get 0 rfl
  have A1 := C3.out.get 1 rfl
  have A2 := C3.out.get 2 rfl
  have hz03 : w.heap.size < w3.heap.size := by omega
  go_wp2_with fail
  refine (toSeries_c L V a cap ts hl2 _ (R3.out.row (by omega))).mono ?_
  clear A0 A1 A2
  rintro e w4 ⟨g4, rfl, hb4, hg4, hM4, hT4⟩
  have hz34 := hb4.size
  have C4 := Lib.hid (C3.out.below hb4 (by first | exact Nat.le_refl _ | omega))
  have R4 := Lib.hid (R3.out.below hb4 (by first | exact Nat.le_refl _ | omega))
  have K4 := Lib.hid (K3.out.below hb4 (by first | exact Nat.le_refl _ | omega))
  have B4 := Lib.hid (B3.out.trans (hb4.mono B3.out.size))
  have X4 := Lib.hid (NewRow.of_to (lo := w3.heap.size) hg4 hM4 hT4)
  have HT4 := Lib.hid hT4
  have hgl4 := hM4.1
  clear hb4 hg4 hM4 hT4 C3 R3 K3 B3
  go_wp2_with fail
  refine (HIm.out _ g4 hl2 (by simp; omega) (HT4.out.below (below1 w4 _) hgl4)).mono ?_
  rintro e w5 ⟨ag, cg, rfl, hb5, hN5⟩
  have hz45 : w4.heap.size < w5.heap.size := by have := hb5.size; simp at this; omega
  have hb5' : Below w4.heap.size w4 w5 := (below1 w4 _).trans (hb5.mono (by simp))
  have C5 := Lib.hid ((C4.out.box3 (.int .i64 L) (.int .i64 V) (.slice (some ⟨g4, 0, none⟩) ts.length ts.length) 31).below hb5 (Nat.le_refl _))
  have R5 := Lib.hid (R4.out.below hb5' (by first | exact Nat.le_refl _ | omega))
  have K5 := Lib.hid (K4.out.below hb5' (by first | exact Nat.le_refl _ | omega))
  have X5 := Lib.hid (X4.out.below hb5' (by first | exact Nat.le_refl _ | omega))
  have B5 := Lib.hid (B4.out.trans (hb5'.mono B4.out.size))
  have G5 := Lib.hid (hN5.mono (lo' := w4.heap.size + 1) (hi' := w5.heap.size) (by simp) (Nat.le_refl _))
  clear hb5 hb5' hN5 C4 R4 K4 X4 B4 HT4 hgl4
  go_wp2_with fail
  refine (eqInt64SS_row _ _ _ _ ag aw _ _ qs' hq1 hq2 _ G5.out.row K5.out.row (by omega) (by omega)).mono ?_
  rintro e w6 ⟨rfl, hb6⟩
  have hz56 := hb6.size
  have C6 := Lib.hid (C5.out.below hb6 (by first | exact Nat.le_refl _ | omega))
  have R6 := Lib.hid (R5.out.below hb6 (by first | exact Nat.le_refl _ | omega))
  have K6 := Lib.hid (K5.out.below hb6 (by first | exact Nat.le_refl _ | omega))
  have X6 := Lib.hid (X5.out.below hb6 (by first | exact Nat.le_refl _ | omega))
  have G6 := Lib.hid (G5.out.below hb6 (by first | exact Nat.le_refl _ | omega))
  have B6 := Lib.hid (B5.out.trans (hb6.mono B5.out.size))
  clear hb6 C5 R5 K5 X5 G5 B5
  have X0 := C6.out.get 0 rfl
  have X1 := C6.out.get 1 rfl
  have X2 := C6.out.get 2 rfl
  have A0 := C6.out.get 3 rfl
  have A1 := C6.out.get 4 rfl
  have A2 := C6.out.get 5 rfl
  have hz06 : w.heap.size < w6.heap.size := by omega
  have hz46 : w4.heap.size < w6.heap.size := by omega
  go_upto_region 10 with fail
  go_cut [45] (fun sc wy => sc = .bool false ∧ Below w6.heap.size w6 wy)
  case first =>
    go_region_held3 (fun w' => w'.cell? ⟨w.heap.size, 0, none⟩ = some (.int .i64 L) ∧ w'.cell? ⟨w.heap.size, 1, none⟩ = some (.int .i64 V) ∧ w'.cell? ⟨w.heap.size, 2, none⟩ = some (.slice a ts.length cap) ∧ w'.cell? ⟨w4.heap.size, 0, none⟩ = some (.int .i64 L) ∧ w'.cell? ⟨w4.heap.size, 1, none⟩ = some (.int .i64 V) ∧ w'.cell? ⟨w4.heap.size, 2, none⟩ = some (.slice (some ⟨g4, 0, none⟩) ts.length ts.length)) (first | (refine held33 hb7 ?_ ?_ ⟨A0, A1, A2, X0, X1, X2⟩ <;> first | omega | (show _ < w6.heap.size; omega) | (simp; omega)) | go_keep)
      (first
        | (go_at_call 6; refine (toSeries_c L V a cap ts hl2 _ ?_).mono ?_; (exact R6.out.row (by omega)); rintro e w7 ⟨g7, rfl, hb0, hg7, hM7, hT7⟩; have hb7 : Below w6.heap.size w6 w7 := ⟨hb0.os, hb0.tape, hb0.output, hb0.size, hb0.block⟩)
        | (go_at_call 9; refine (eqSeries_row L V (some ⟨g4, 0, none⟩) (some ⟨g7, 0, none⟩) _ _ ts hl2 _ ?_ ?_).mono ?_; (exact (X6.out.below hb7 (by omega)).row); (exact .inr ⟨g7, 0, rfl, hM7.1, hT7⟩); rintro e w8 ⟨rfl, hb8⟩; have hb7 : Below w6.heap.size w6 w8 := hb7.trans (hb8.mono hb7.size)))
    all_goals (go_wp2_with fail; go_meet)
    all_goals exact ⟨rfl, hb7⟩
  case rest =>
    obtain ⟨rfl, hBy⟩ := hcut
    obtain ⟨w7, rfl⟩ : ∃ w7 : World, w7 = wc := ⟨_, rfl⟩
    have hz67 := hBy.size
    have C7 := Lib.hid (C6.out.below hBy (by first | exact Nat.le_refl _ | omega))
    have R7 := Lib.hid (R6.out.below hBy (by first | exact Nat.le_refl _ | omega))
    have K7 := Lib.hid (K6.out.below hBy (by first | exact Nat.le_refl _ | omega))
    have X7 := Lib.hid (X6.out.below hBy (by first | exact Nat.le_refl _ | omega))
    have G7 := Lib.hid (G6.out.below hBy (by first | exact Nat.le_refl _ | omega))
    have B7 := Lib.hid (B6.out.trans (hBy.mono B6.out.size))
    clear hBy A0 A1 A2 X0 X1 X2 C6 R6 K6 X6 G6 B6
    have X0 := C7.out.get 0 rfl
    have X1 := C7.out.get 1 rfl
    have X2 := C7.out.get 2 rfl
    go_wp2_with fail
    refine (markSeries_row L V w3.heap.size w4.heap.size (some ⟨g4, 0, none⟩) _ ts 1 (by omega) (by omega) _ X7.out).mono ?_
    clear X0 X1 X2
    rintro e w8 ⟨r8, rfl, hG8, hr8, hN8⟩
    have hO8 : Outside w3.heap.size w4.heap.size w7 w8 := Outside.of_grown hG8 hr8
    have hz78 := hO8.size
    have C8 := Lib.hid (C7.out.outside hO8 (by
      intro p hp
      simp only [List.mem_cons, List.not_mem_nil, or_false] at hp
      rcases hp with rfl | rfl | rfl | rfl | rfl | rfl <;> simp only <;> omega))
    have R8 := Lib.hid (R7.out.outside hO8 (by omega) (by omega))
    have K8 := Lib.hid (K7.out.outside hO8 (by omega))
    have G8 := Lib.hid (G7.out.outside hO8 (by omega))
    have B8 := Lib.hid (B7.out.trans (hO8.below (B := w.heap.size) (by omega) (by omega)))
    clear hG8 hr8 hN8 hO8 C7 R7 K7 X7 G7 B7
    have hk8 : (0 : Int) ≤ 1 + 3 * (ts.length : Int) := by omega
    go_wp2_with fail
    refine (eqInt64SS_row _ _ _ _ ag aw _ _ qs' hq1 hq2 _ G8.out.row K8.out.row (by omega) (by omega)).mono ?_
    rintro e w9 ⟨rfl, hb9⟩
    have hz89 := hb9.size
    have C9 := Lib.hid (C8.out.below hb9 (by first | exact Nat.le_refl _ | omega))
    have R9 := Lib.hid (R8.out.below hb9 (by first | exact Nat.le_refl _ | omega))
    have K9 := Lib.hid (K8.out.below hb9 (by first | exact Nat.le_refl _ | omega))
    have G9 := Lib.hid (G8.out.below hb9 (by first | exact Nat.le_refl _ | omega))
    have B9 := Lib.hid (B8.out.trans (hb9.mono B8.out.size))
    clear hb9 C8 R8 K8 G8 B8
    go_wp2_with fail
    refine (markInt64SS_row (w4.heap.size + 1) w5.heap.size ag _ qs' 1 (by omega) (by omega) hq1 _ G9.out).mono ?_
    rintro e w10 ⟨rfl, hO10, hN10⟩
    have hz910 := hO10.size
    have C10 := Lib.hid (C9.out.outside hO10 (by
      intro p hp
      simp only [List.mem_cons, List.not_mem_nil, or_false] at hp
      rcases hp with rfl | rfl | rfl | rfl | rfl | rfl <;> simp only <;> omega))
    have R10 := Lib.hid (R9.out.outside hO10 (by omega) (by omega))
    have K10 := Lib.hid (K9.out.outside hO10 (by omega))
    have M10 := Lib.hid hN10
    have B10 := Lib.hid (B9.out.trans (hO10.below (B := w.heap.size) (by omega) (by omega)))
    clear hO10 hN10 C9 R9 K9 G9 B9
    have hk10 : (0 : Int) ≤ 1 + (flat qs' : Int) := by omega
    go_wp2_with fail
    refine (heldInt64SS_row (w4.heap.size + 1) w5.heap.size ag _ qs' 1 (by omega) (by omega) hq1 _ M10.out).mono ?_
    rintro e w11 ⟨rfl, hb11⟩
    have hz1011 := hb11.size
    have C11 := Lib.hid (C10.out.below hb11 (by first | exact Nat.le_refl _ | omega))
    have R11 := Lib.hid (R10.out.below hb11 (by first | exact Nat.le_refl _ | omega))
    have K11 := Lib.hid (K10.out.below hb11 (by first | exact Nat.le_refl _ | omega))
    have M11 := Lib.hid (M10.out.below hb11 (by first | exact Nat.le_refl _ | omega))
    have B11 := Lib.hid (B10.out.trans (hb11.mono B10.out.size))
    clear hb11 C10 R10 K10 M10 B10
    have A0 := C11.out.get 3 rfl
    have A1 := C11.out.get 4 rfl
    have A2 := C11.out.get 5 rfl
    go_wp2_with fail
    refine (toSeries_c L V a cap ts hl2 _ (R11.out.row (by omega))).mono ?_
    clear A0 A1 A2
    rintro e w12 ⟨g12, rfl, hb12, hg12, hM12, hT12⟩
    have hz1112 := hb12.size
    have C12 := Lib.hid (C11.out.below hb12 (by first | exact Nat.le_refl _ | omega))
    have R12 := Lib.hid (R11.out.below hb12 (by first | exact Nat.le_refl _ | omega))
    have K12 := Lib.hid (K11.out.below hb12 (by first | exact Nat.le_refl _ | omega))
    have M12 := Lib.hid (M11.out.below hb12 (by first | exact Nat.le_refl _ | omega))
    have B12 := Lib.hid (B11.out.trans (hb12.mono B11.out.size))
    have HT12 := Lib.hid hT12
    have hgl12 := hM12.1
    clear hb12 hg12 hM12 hT12 C11 R11 K11 M11 B11
    go_wp2_with fail
    refine (HIm.out _ g12 hl2 hgl12 HT12.out).mono ?_
    rintro e w13 ⟨ah, ch, rfl, hb13, hN13⟩
    have hz1213 := hb13.size
    have K13 := Lib.hid (K12.out.below hb13 (by first | exact Nat.le_refl _ | omega))
    have M13 := Lib.hid (M12.out.below hb13 (by first | exact Nat.le_refl _ | omega))
    have B13 := Lib.hid (B12.out.trans (hb13.mono B12.out.size))
    have H13 := Lib.hid hN13
    clear hb13 hN13 HT12 hgl12 C12 R12 K12 M12 B12
    go_wp2_with fail
    refine (eqInt64SS_row _ _ _ _ ah aw _ _ qs' hq1 hq2 _ H13.out.row K13.out.row (by omega) (by omega)).mono ?_
    rintro e w14 ⟨rfl, hb14⟩
    have hz1314 := hb14.size
    have M14 := Lib.hid (M13.out.below hb14 (by omega))
    have B14 := Lib.hid (B13.out.trans (hb14.mono B13.out.size))
    clear hb14 K13 M13 B13 H13
    go_wp2_with fail
    refine (heldInt64SS_row (w4.heap.size + 1) w5.heap.size ag _ qs' 1 (by omega) (by omega) hq1 _ M14.out).mono ?_
    rintro e w15 ⟨rfl, hb15⟩
    have B15 := Lib.hid (B14.out.trans (hb15.mono B14.out.size))
    clear hb15
    go_wp2
    go_ret
    exact ⟨rfl, B15.out⟩
end Go.Proofs.YtklgmdcjgdjcfaaDoor
