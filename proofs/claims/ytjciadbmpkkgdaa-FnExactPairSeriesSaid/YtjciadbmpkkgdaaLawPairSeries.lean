/-
  'FnExactPairSeries' returns true at every input for which the two functions' contracts stand: the program's PairSeries and its model's return the same fraction and code, and both arguments read as before.
-/
import Derived.Test.YtjciadbmpkkgdaaCutF
namespace Go.Proofs.Ytjciadbmpkkgdaa
open Go.RowKit

set_option maxRecDepth 100000 in
set_option maxHeartbeats 8000000 in
theorem law_PairSeries (L1 V1 : Int) (a1 : Option Addr) (cap1 : Nat) (ts1 : List Tm) (hl1 : ts1.length ≤ maxLen) (hs1 : ∀ i (h : i < ts1.length), (ts1[i]).s.size ≤ maxLen) (L2 V2 : Int) (a2 : Option Addr) (cap2 : Nat) (ts2 : List Tm) (hl2 : ts2.length ≤ maxLen) (hs2 : ∀ i (h : i < ts2.length), (ts2[i]).s.size ≤ maxLen) (w : World) (hr1 : Row w a1 ts1) (hr2 : Row w a2 ts2)
    (r : Int × Int × Int)
    (hS : ∀ (W : World) (g1 g2 : Nat), ts1.length ≤ 1048576 → ts2.length ≤ 1048576 → g1 < W.heap.size → g2 < W.heap.size → TermsIn W g1 0 ts1 → TermsIn W g2 0 ts2 → Calls Try.prog 28 #[.agg #[.int .i64 L1, .int .i64 V1, .slice (some ⟨g1, 0, none⟩) ts1.length ts1.length], .agg #[.int .i64 L2, .int .i64 V2, .slice (some ⟨g2, 0, none⟩) ts2.length ts2.length]] W (FracPost r W))
    (hI : ∀ (W : World) (g1 g2 : Nat), ts1.length ≤ 1048576 → ts2.length ≤ 1048576 → g1 < W.heap.size → g2 < W.heap.size → TermsIn W g1 0 ts1 → TermsIn W g2 0 ts2 → Calls Try.prog 29 #[.agg #[.int .i64 L1, .int .i64 V1, .slice (some ⟨g1, 0, none⟩) ts1.length ts1.length], .agg #[.int .i64 L2, .int .i64 V2, .slice (some ⟨g2, 0, none⟩) ts2.length ts2.length]] W (FracPost r W)) :
    Calls Try.prog 8 #[.agg #[.int .i64 L1, .int .i64 V1, .slice a1 ts1.length cap1], .agg #[.int .i64 L2, .int .i64 V2, .slice a2 ts2.length cap2]] w fun e w' => e = .returned (.bool true) ∧ Below w.heap.size w w' := by
  have HR1 := Lib.hid hr1
  have HR2 := Lib.hid hr2
  have HS1 := Lib.hid hs1
  have HS2 := Lib.hid hs2
  have HSp := Lib.hid hS
  have HIm := Lib.hid hI
  clear hr1 hr2 hs1 hs2 hS hI
  have hX := ((Cs.nil w).box3 (.int .i64 L1) (.int .i64 V1) (.slice a1 ts1.length cap1) 24).box3 (.int .i64 L2) (.int .i64 V2) (.slice a2 ts2.length cap2) 24
  simp only [World.size_alloc] at hX
  have C0 := Lib.hid hX
  clear hX
  go_enter Try.func8, Try.ntmps8
  go_wp2_with fail
  refine (szSeries_c L1 V1 a1 ts1.length cap1 1048576 _ (szTermS_row a1 cap1 ts1 hl1 HS1.out 1048576 (by omega) _ ?_)).mono ?_
  · exact ((HR1.out.below (below1 w _)).below (below1 _ _)).below (below1 _ _)
  rintro e w1 ⟨he, hb1⟩
  have hz01 : w.heap.size + 1 < w1.heap.size := by have := hb1.size; simp at this; omega
  have hz01' : w.heap.size < w1.heap.size := by omega
  have C1 := Lib.hid (C0.out.below hb1 (Nat.le_refl _))
  have R11 := Lib.hid ((RowB.of_row HR1.out).below ((below2 w _ _).trans (hb1.mono (by simp; omega))) (Nat.le_refl _))
  have R21 := Lib.hid ((RowB.of_row HR2.out).below ((below2 w _ _).trans (hb1.mono (by simp; omega))) (Nat.le_refl _))
  have B1 := Lib.hid ((below2 w _ _).trans (hb1.mono (by simp; omega)))
  clear hb1 C0
  rcases he with rfl | ⟨r1, hr10, hr11, hfit1, rfl⟩
  · go_wp2
    go_ret
    exact ⟨rfl, B1.out⟩
  have hl1b : ts1.length ≤ 1048576 := by omega
  have D0 := C1.out.get 0 rfl
  have D1 := C1.out.get 1 rfl
  have D2 := C1.out.get 2 rfl
  go_wp2_with fail
  refine (szSeries_c L2 V2 a2 ts2.length cap2 r1 _ (szTermS_row a2 cap2 ts2 hl2 HS2.out r1 ⟨hr10, hr11⟩ _ ?_)).mono ?_
  · exact (R21.out.below (below1 w1 _) (by omega)).row (by simp; omega)
  clear D0 D1 D2
  rintro e w2 ⟨he, hb2⟩
  have hz12 := hb2.size
  have hz02 : w.heap.size + 1 < w2.heap.size := by omega
  have hz02' : w.heap.size < w2.heap.size := by omega
  have C2 := Lib.hid (C1.out.below hb2 (Nat.le_refl _))
  have R12 := Lib.hid (R11.out.below hb2 (by omega))
  have R22 := Lib.hid (R21.out.below hb2 (by omega))
  have B2 := Lib.hid (B1.out.trans (hb2.mono (by omega)))
  clear hb2 C1 R11 R21 B1
  rcases he with rfl | ⟨r2, hr20, hr21, hfit2, rfl⟩
  · go_wp2
    go_ret
    exact ⟨rfl, B2.out⟩
  have hl2b : ts2.length ≤ 1048576 := by omega
  have D0 := C2.out.get 0 rfl
  have D1 := C2.out.get 1 rfl
  have D2 := C2.out.get 2 rfl
  have A0 := C2.out.get 3 rfl
  have A1 := C2.out.get 4 rfl
  have A2 := C2.out.get 5 rfl
  go_upto_region 8 with fail
  go_cut [6, 7] (CutF w2 r.1 r.2.1 r.2.2)
  case first =>
    go_region_held3 (fun w' => w'.cell? ⟨w.heap.size, 0, none⟩ = some (.int .i64 L1) ∧ w'.cell? ⟨w.heap.size, 1, none⟩ = some (.int .i64 V1) ∧ w'.cell? ⟨w.heap.size, 2, none⟩ = some (.slice a1 ts1.length cap1) ∧ w'.cell? ⟨w.heap.size + 1, 0, none⟩ = some (.int .i64 L2) ∧ w'.cell? ⟨w.heap.size + 1, 1, none⟩ = some (.int .i64 V2) ∧ w'.cell? ⟨w.heap.size + 1, 2, none⟩ = some (.slice a2 ts2.length cap2)) (first | exact ⟨A0, A1, A2, D0, D1, D2⟩ | (refine held33 hb7 ?_ ?_ ⟨A0, A1, A2, D0, D1, D2⟩ <;> first | assumption | omega) | (refine held33 (hb7.alloc hb7.size _) ?_ ?_ ⟨A0, A1, A2, D0, D1, D2⟩ <;> first | assumption | omega) | (refine held33p hb7 ?_ ?_ ?_ ⟨A0, A1, A2, D0, D1, D2⟩ <;> first | assumption | omega) | go_keep)
      (first
        | (go_at_call 14; have hRx : Row w2.drew a1 ts1 := R12.out.row (by omega); ((with_reducible refine (toSeries_r L1 V1 a1 cap1 ts1 hl1b w2.drew hRx).mono ?_)); rintro e wx ⟨gx, rfl, hb0, hgx, hMx, hTx⟩; have hb7 : Below w2.heap.size w2 wx := below_drew hb0; have hgx2 : w2.heap.size ≤ gx := hgx)
        | (go_at_call 14; have hRx : Row (w2.alloc (.cells #[.int .i64 0, .int .i64 0] 34)).drew a1 ts1 := (R12.out.below (below1 w2 (.cells #[.int .i64 0, .int .i64 0] 34)) (by omega)).row (by simp; omega); ((with_reducible refine (toSeries_r L1 V1 a1 cap1 ts1 hl1b (w2.alloc (.cells #[.int .i64 0, .int .i64 0] 34)).drew hRx).mono ?_)); rintro e wx ⟨gx, rfl, hb0, hgx, hMx, hTx⟩; have zz : Box2 wx w2.heap.size 0 0 := (Box2.new w2 0 0 34).below (below_drew hb0) (by simp); have hb7 : Below w2.heap.size w2 wx := (below1 w2 (.cells #[.int .i64 0, .int .i64 0] 34)).trans ((below_drew hb0).mono (by simp)); have hgx2 : w2.heap.size ≤ gx := (by simp at hgx; omega))
        | (go_at_call 14; have hRy : Row wx a2 ts2 := (R22.out.below hb7 (by omega)).row (by have := hb7.size; omega); ((with_reducible refine (toSeries_r L2 V2 a2 cap2 ts2 hl2b wx hRy).mono ?_)); rintro e wy ⟨gy, rfl, hb0, hgy, hMy, hTy⟩; have hgy3 : gy < wy.heap.size := hMy.1; (try have zz := zz.below hb0 (by first | exact zz.1 | (simp; exact Nat.lt_succ_of_lt zz.1))); have hTx := hTx.below hb0 hMx.1; have hgx3 : gx < wy.heap.size := (Nat.lt_of_lt_of_le hMx.1 hb0.size); have hb7 : Below w2.heap.size w2 wy := hb7.trans (hb0.mono hb7.size))
        | (go_at_call 14; have hRy : Row (wx.alloc (.cells #[.int .i64 0, .int .i64 0] 34)) a2 ts2 := (R22.out.below (hb7.alloc hb7.size (.cells #[.int .i64 0, .int .i64 0] 34)) (by omega)).row (by have := hb7.size; simp; omega); ((with_reducible refine (toSeries_r L2 V2 a2 cap2 ts2 hl2b (wx.alloc (.cells #[.int .i64 0, .int .i64 0] 34)) hRy).mono ?_)); rintro e wy ⟨gy, rfl, hb0, hgy, hMy, hTy⟩; have hgy3 : gy < wy.heap.size := hMy.1; have zz : Box2 wy wx.heap.size 0 0 := (Box2.new wx 0 0 34).below hb0 (by simp); have hzz : w2.heap.size ≤ wx.heap.size := hb7.size; have hTx := (hTx.below (below1 wx (.cells #[.int .i64 0, .int .i64 0] 34)) hMx.1).below hb0 (by simp; exact Nat.lt_succ_of_lt hMx.1); have hgx3 : gx < wy.heap.size := (by have h1 := hMx.1; have h2 := hb0.size; simp at h2; omega); have hb7 : Below w2.heap.size w2 wy := (hb7.alloc hb7.size (.cells #[.int .i64 0, .int .i64 0] 34)).trans (hb0.mono (by have := hb7.size; simp; omega)))
        | (go_at_call 28; (try have hgl := zz.1); ((with_reducible refine (HSp.out wy gx gy hl1b hl2b hgx3 hgy3 hTx hTy).mono ?_)); rintro e wf ⟨rfl, hb0⟩; (try have zz := zz.below hb0 (by first | exact zz.1 | (simp; exact Nat.lt_succ_of_lt zz.1))); have hb7' := hb7.size; have hb7 : Below w2.heap.size w2 wf := hb7.trans (hb0.mono hb7.size); (try (have q1 := zz.2.1; have q2 := zz.2.2.1; have q3 := zz.2.2.2.1; have q4 := zz.2.2.2.2)))
        | (go_at_call 28; have hgl : wy.heap.size < (wy.alloc (.cells #[.int .i64 0, .int .i64 0] 34)).heap.size := (by simp); have hqx : gx < (wy.alloc (.cells #[.int .i64 0, .int .i64 0] 34)).heap.size := (by simp; omega); have hqy : gy < (wy.alloc (.cells #[.int .i64 0, .int .i64 0] 34)).heap.size := (by simp; omega); have hTxa : TermsIn (wy.alloc (.cells #[.int .i64 0, .int .i64 0] 34)) gx 0 ts1 := hTx.below (below1 wy (.cells #[.int .i64 0, .int .i64 0] 34)) hgx3; have hTya : TermsIn (wy.alloc (.cells #[.int .i64 0, .int .i64 0] 34)) gy 0 ts2 := hTy.below (below1 wy (.cells #[.int .i64 0, .int .i64 0] 34)) hgy3; ((with_reducible refine (HSp.out (wy.alloc (.cells #[.int .i64 0, .int .i64 0] 34)) gx gy hl1b hl2b hqx hqy hTxa hTya).mono ?_)); rintro e wf ⟨rfl, hb0⟩; have zz : Box2 wf wy.heap.size 0 0 := (Box2.new wy 0 0 34).below hb0 (by simp); have hb7' := hb7.size; have hb7 : Below w2.heap.size w2 wf := (hb7.alloc hb7.size (.cells #[.int .i64 0, .int .i64 0] 34)).trans (hb0.mono (by have := hb7.size; simp; omega)); (try (have q1 := zz.2.1; have q2 := zz.2.2.1; have q3 := zz.2.2.2.1; have q4 := zz.2.2.2.2)))
        | fail)
    all_goals (go_wp2_with fail; go_meet)
    all_goals first | exact CutF.new hb7 | exact CutF.old zz hb7 (by first | exact Nat.le_refl _ | omega)
  case rest =>
    obtain ⟨⟨gW, rfl, hgW1, hBy, hKr⟩, rfl⟩ := hcut
    have hgW2 := hKr.1
    have u0 := hKr.2.1
    have u1 := hKr.2.2.1
    obtain ⟨w3, rfl⟩ : ∃ w3 : World, w3 = wc := ⟨_, rfl⟩
    have hz23 := hBy.size
    have C3 := Lib.hid (((C2.out.below hBy (Nat.le_refl _)).cons hgW2 u1).cons hgW2 u0)
    have R13 := Lib.hid (R12.out.below hBy (by omega))
    have R23 := Lib.hid (R22.out.below hBy (by omega))
    have B3 := Lib.hid (B2.out.trans (hBy.mono (by omega)))
    have hz03 : w.heap.size + 1 < w3.heap.size := by omega
    have hz03' : w.heap.size < w3.heap.size := by omega
    clear hBy hKr u0 u1 A0 A1 A2 D0 D1 D2 C2 R12 R22 B2
    have A0 := C3.out.get 5 rfl
    have A1 := C3.out.get 6 rfl
    have A2 := C3.out.get 7 rfl
    go_wp2_with fail
    refine (toSeries_c L1 V1 a1 cap1 ts1 hl1b _ (R13.out.row (by omega))).mono ?_
    clear A0 A1 A2
    rintro e w4 ⟨g4, rfl, hb4, hg4, hM4, hT4⟩
    have hz34 := hb4.size
    have C4 := Lib.hid (C3.out.below hb4 (by first | exact Nat.le_refl _ | (simp; omega) | omega))
    have R14 := Lib.hid (R13.out.below hb4 (by first | exact Nat.le_refl _ | (simp; omega) | omega))
    have R24 := Lib.hid (R23.out.below hb4 (by first | exact Nat.le_refl _ | (simp; omega) | omega))
    have B4 := Lib.hid (B3.out.trans (hb4.mono (by omega)))
    have P4 := Lib.hid (NewRow.of_to (lo := w3.heap.size) hg4 hM4 hT4)
    have HT4 := Lib.hid hT4
    have hgl4 := hM4.1
    clear hb4 hg4 hM4 hT4 C3 R13 R23 B3
    have D0 := C4.out.get 2 rfl
    have D1 := C4.out.get 3 rfl
    have D2 := C4.out.get 4 rfl
    have hz04 : w.heap.size + 1 < w4.heap.size := by omega
    go_wp2_with fail
    refine (toSeries_c L2 V2 a2 cap2 ts2 hl2b _ ((R24.out.below (below1 w4 (.cells #[.int .i64 L1, .int .i64 V1, .slice (some ⟨g4, 0, none⟩) ts1.length ts1.length] 29)) (by omega)).row (by simp; omega))).mono ?_
    clear D0 D1 D2
    rintro e w5 ⟨g5, rfl, hb5, hg5, hM5, hT5⟩
    have hz45 : w4.heap.size < w5.heap.size := by have := hb5.size; simp at this; omega
    have C5 := Lib.hid ((C4.out.box3 (.int .i64 L1) (.int .i64 V1) (.slice (some ⟨g4, 0, none⟩) ts1.length ts1.length) 29).below hb5 (Nat.le_refl _))
    have R15 := Lib.hid ((R14.out.below (below1 w4 (.cells #[.int .i64 L1, .int .i64 V1, .slice (some ⟨g4, 0, none⟩) ts1.length ts1.length] 29)) (by first | exact Nat.le_refl _ | omega)).below hb5 (by simp; omega))
    have R25 := Lib.hid ((R24.out.below (below1 w4 (.cells #[.int .i64 L1, .int .i64 V1, .slice (some ⟨g4, 0, none⟩) ts1.length ts1.length] 29)) (by first | exact Nat.le_refl _ | omega)).below hb5 (by simp; omega))
    have P5 := Lib.hid ((P4.out.below (below1 w4 (.cells #[.int .i64 L1, .int .i64 V1, .slice (some ⟨g4, 0, none⟩) ts1.length ts1.length] 29)) (Nat.le_refl _)).below hb5 (by simp))
    have HT5a := Lib.hid ((HT4.out.below (below1 w4 (.cells #[.int .i64 L1, .int .i64 V1, .slice (some ⟨g4, 0, none⟩) ts1.length ts1.length] 29)) hgl4).below hb5 (by simp; omega))
    have B5 := Lib.hid (B4.out.trans ((below1 w4 (.cells #[.int .i64 L1, .int .i64 V1, .slice (some ⟨g4, 0, none⟩) ts1.length ts1.length] 29)).mono B4.out.size |>.trans (hb5.mono (by simp; omega))))
    have Q5 := Lib.hid (NewRow.of_to (lo := w4.heap.size + 1) (by simpa using hg5) hM5 hT5)
    have HT5 := Lib.hid hT5
    have hgl5 := hM5.1
    clear hb5 hg5 hM5 hT5 C4 R14 R24 B4 P4 HT4
    have X0 := C5.out.get 0 rfl
    have X1 := C5.out.get 1 rfl
    have X2 := C5.out.get 2 rfl
    have hgl4' : g4 < w5.heap.size := by omega
    go_wp2_with fail
    refine (HIm.out _ g4 g5 hl1b hl2b (by simp; omega) (by simp; omega) (HT5a.out.below (below1 w5 (.cells #[.int .i64 L2, .int .i64 V2, .slice (some ⟨g5, 0, none⟩) ts2.length ts2.length] 29)) hgl4') (HT5.out.below (below1 w5 (.cells #[.int .i64 L2, .int .i64 V2, .slice (some ⟨g5, 0, none⟩) ts2.length ts2.length] 29)) hgl5)).mono ?_
    clear X0 X1 X2
    rintro e w6 ⟨rfl, hb6⟩
    have hz56 : w5.heap.size < w6.heap.size := by have := hb6.size; simp at this; omega
    have C6 := Lib.hid ((C5.out.box3 (.int .i64 L2) (.int .i64 V2) (.slice (some ⟨g5, 0, none⟩) ts2.length ts2.length) 29).below hb6 (Nat.le_refl _))
    have R16 := Lib.hid ((R15.out.below (below1 w5 (.cells #[.int .i64 L2, .int .i64 V2, .slice (some ⟨g5, 0, none⟩) ts2.length ts2.length] 29)) (by first | exact Nat.le_refl _ | omega)).below hb6 (by simp; omega))
    have R26 := Lib.hid ((R25.out.below (below1 w5 (.cells #[.int .i64 L2, .int .i64 V2, .slice (some ⟨g5, 0, none⟩) ts2.length ts2.length] 29)) (by first | exact Nat.le_refl _ | omega)).below hb6 (by simp; omega))
    have P6 := Lib.hid ((P5.out.below (below1 w5 (.cells #[.int .i64 L2, .int .i64 V2, .slice (some ⟨g5, 0, none⟩) ts2.length ts2.length] 29)) (by omega)).below hb6 (by simp; omega))
    have Q6 := Lib.hid ((Q5.out.below (below1 w5 (.cells #[.int .i64 L2, .int .i64 V2, .slice (some ⟨g5, 0, none⟩) ts2.length ts2.length] 29)) (Nat.le_refl _)).below hb6 (by simp))
    have B6 := Lib.hid (B5.out.trans ((below1 w5 (.cells #[.int .i64 L2, .int .i64 V2, .slice (some ⟨g5, 0, none⟩) ts2.length ts2.length] 29)).mono B5.out.size |>.trans (hb6.mono (by have := B5.out.size; simp; omega))))
    clear hb6 C5 R15 R25 B5 P5 Q5 HT5 HT5a
    have W0 := C6.out.get 6 rfl
    have W1 := C6.out.get 7 rfl
    have hgW6 : gW < w6.heap.size := by omega
    obtain ⟨rn, rd, rc⟩ := r
    simp only at W0 W1
    go_wp2_with fail
    refine (eqFraction_same rn rd _).mono ?_
    clear W0 W1
    rintro e w7 ⟨rfl, hb7a⟩
    have hb7 : Below w6.heap.size w6 w7 := (below1 w6 (.cells #[.int .i64 rn, .int .i64 rd] 34)).trans (hb7a.mono (by simp))
    have hz67 := hb7.size
    have C7 := Lib.hid (C6.out.below hb7 (by first | exact Nat.le_refl _ | (simp; omega) | omega))
    have R17 := Lib.hid (R16.out.below hb7 (by first | exact Nat.le_refl _ | (simp; omega) | omega))
    have R27 := Lib.hid (R26.out.below hb7 (by first | exact Nat.le_refl _ | (simp; omega) | omega))
    have P7 := Lib.hid (P6.out.below hb7 (by first | exact Nat.le_refl _ | (simp; omega) | omega))
    have Q7 := Lib.hid (Q6.out.below hb7 (by first | exact Nat.le_refl _ | (simp; omega) | omega))
    have B7 := Lib.hid (B6.out.trans (hb7.mono B6.out.size))
    clear hb7 hb7a C6 R16 R26 P6 Q6 B6
    have A0 := C7.out.get 11 rfl
    have A1 := C7.out.get 12 rfl
    have A2 := C7.out.get 13 rfl
    have X0 := C7.out.get 3 rfl
    have X1 := C7.out.get 4 rfl
    have X2 := C7.out.get 5 rfl
    have hza1 : w.heap.size < w7.heap.size := by omega
    have hza2 : w4.heap.size < w7.heap.size := by omega
    go_upto_region 14 with fail
    go_cut [53] (fun sc wy => sc = .bool false ∧ Below w7.heap.size w7 wy)
    case first =>
      go_region_held3 (fun w' => w'.cell? ⟨w.heap.size, 0, none⟩ = some (.int .i64 L1) ∧ w'.cell? ⟨w.heap.size, 1, none⟩ = some (.int .i64 V1) ∧ w'.cell? ⟨w.heap.size, 2, none⟩ = some (.slice a1 ts1.length cap1) ∧ w'.cell? ⟨w4.heap.size, 0, none⟩ = some (.int .i64 L1) ∧ w'.cell? ⟨w4.heap.size, 1, none⟩ = some (.int .i64 V1) ∧ w'.cell? ⟨w4.heap.size, 2, none⟩ = some (.slice (some ⟨g4, 0, none⟩) ts1.length ts1.length)) (first | (refine held33 hbq ?_ ?_ ⟨A0, A1, A2, X0, X1, X2⟩ <;> assumption) | go_keep)
        (first
          | (go_at_call 14; refine (toSeries_c L1 V1 a1 cap1 ts1 hl1b _ ?_).mono ?_; (exact R17.out.row (by omega)); rintro e wq ⟨gq, rfl, hb0, hgq, hMq, hTq⟩; have hbq : Below w7.heap.size w7 wq := ⟨hb0.os, hb0.tape, hb0.output, hb0.size, hb0.block⟩)
          | (go_at_call 16; refine (eqSeries_row L1 V1 (some ⟨g4, 0, none⟩) (some ⟨gq, 0, none⟩) _ _ ts1 hl1b _ ?_ ?_).mono ?_; (exact (P7.out.below hbq (by omega)).row); (exact .inr ⟨gq, 0, rfl, hMq.1, hTq⟩); rintro e wp ⟨rfl, hbp⟩; have hbq : Below w7.heap.size w7 wp := hbq.trans (hbp.mono hbq.size)))
      all_goals (go_wp2_with fail; go_meet)
      all_goals exact ⟨rfl, hbq⟩
    case rest =>
      obtain ⟨rfl, hBy⟩ := hcut
      obtain ⟨w8, rfl⟩ : ∃ w8 : World, w8 = wc := ⟨_, rfl⟩
      have hz78 := hBy.size
      have C8 := Lib.hid (C7.out.below hBy (by first | exact Nat.le_refl _ | (simp; omega) | omega))
      have R18 := Lib.hid (R17.out.below hBy (by first | exact Nat.le_refl _ | (simp; omega) | omega))
      have R28 := Lib.hid (R27.out.below hBy (by first | exact Nat.le_refl _ | (simp; omega) | omega))
      have P8 := Lib.hid (P7.out.below hBy (by first | exact Nat.le_refl _ | (simp; omega) | omega))
      have Q8 := Lib.hid (Q7.out.below hBy (by first | exact Nat.le_refl _ | (simp; omega) | omega))
      have B8 := Lib.hid (B7.out.trans (hBy.mono B7.out.size))
      clear hBy A0 A1 A2 X0 X1 X2 hza1 hza2 C7 R17 R27 P7 Q7 B7
      have A0 := C8.out.get 8 rfl
      have A1 := C8.out.get 9 rfl
      have A2 := C8.out.get 10 rfl
      have X0 := C8.out.get 0 rfl
      have X1 := C8.out.get 1 rfl
      have X2 := C8.out.get 2 rfl
      have hza1 : w.heap.size + 1 < w8.heap.size := by omega
      have hza2 : w5.heap.size < w8.heap.size := by omega
      go_upto_region 16 with fail
      go_cut [58] (fun sc wy => sc = .bool false ∧ Below w8.heap.size w8 wy)
      case first =>
        go_region_held3 (fun w' => w'.cell? ⟨w.heap.size + 1, 0, none⟩ = some (.int .i64 L2) ∧ w'.cell? ⟨w.heap.size + 1, 1, none⟩ = some (.int .i64 V2) ∧ w'.cell? ⟨w.heap.size + 1, 2, none⟩ = some (.slice a2 ts2.length cap2) ∧ w'.cell? ⟨w5.heap.size, 0, none⟩ = some (.int .i64 L2) ∧ w'.cell? ⟨w5.heap.size, 1, none⟩ = some (.int .i64 V2) ∧ w'.cell? ⟨w5.heap.size, 2, none⟩ = some (.slice (some ⟨g5, 0, none⟩) ts2.length ts2.length)) (first | (refine held33 hbq ?_ ?_ ⟨A0, A1, A2, X0, X1, X2⟩ <;> assumption) | go_keep)
          (first
            | (go_at_call 14; refine (toSeries_c L2 V2 a2 cap2 ts2 hl2b _ ?_).mono ?_; (exact R28.out.row (by omega)); rintro e wq ⟨gq, rfl, hb0, hgq, hMq, hTq⟩; have hbq : Below w8.heap.size w8 wq := ⟨hb0.os, hb0.tape, hb0.output, hb0.size, hb0.block⟩)
            | (go_at_call 16; refine (eqSeries_row L2 V2 (some ⟨g5, 0, none⟩) (some ⟨gq, 0, none⟩) _ _ ts2 hl2b _ ?_ ?_).mono ?_; (exact (Q8.out.below hbq (by omega)).row); (exact .inr ⟨gq, 0, rfl, hMq.1, hTq⟩); rintro e wp ⟨rfl, hbp⟩; have hbq : Below w8.heap.size w8 wp := hbq.trans (hbp.mono hbq.size)))
        all_goals (go_wp2_with fail; go_meet)
        all_goals exact ⟨rfl, hbq⟩
      case rest =>
        obtain ⟨rfl, hBy⟩ := hcut
        obtain ⟨w9, rfl⟩ : ∃ w9 : World, w9 = wc := ⟨_, rfl⟩
        have hz89 := hBy.size
        have C9 := Lib.hid (C8.out.below hBy (by first | exact Nat.le_refl _ | (simp; omega) | omega))
        have R19 := Lib.hid (R18.out.below hBy (by first | exact Nat.le_refl _ | (simp; omega) | omega))
        have R29 := Lib.hid (R28.out.below hBy (by first | exact Nat.le_refl _ | (simp; omega) | omega))
        have P9 := Lib.hid (P8.out.below hBy (by first | exact Nat.le_refl _ | (simp; omega) | omega))
        have Q9 := Lib.hid (Q8.out.below hBy (by first | exact Nat.le_refl _ | (simp; omega) | omega))
        have B9 := Lib.hid (B8.out.trans (hBy.mono B8.out.size))
        clear hBy A0 A1 A2 X0 X1 X2 hza1 hza2 C8 R18 R28 P8 Q8 B8
        go_wp2
        go_ret
        exact ⟨rfl, B9.out⟩
end Go.Proofs.Ytjciadbmpkkgdaa
