/-
  'FnExactHalfShuffle' returns true at every input for which the two functions' contracts stand: the program's HalfShuffle and its model's return the same series and code, in memory of its own, and both arguments read as before.
  'FnExactHalfShuffle' returns true at every input: the program's HalfShuffle and its model's return the same series and code, in memory of its own, and both arguments read as before. No condition.
-/
import Derived.Test.YtjloadllckllpaaGreatDoorCutW
import Derived.Test.YtjloadllckllpaaGreatDoorHfSer
import Derived.Test.YtjloadllckllpaaGreatDoorDoor
namespace Go.Proofs.YtjloadllckllpaaGreatDoor
open Go.RowKit

set_option maxRecDepth 100000 in
set_option maxHeartbeats 8000000 in
theorem law_HalfShuffle (L1 V1 : Int) (a1 : Option Addr) (cap1 : Nat) (ts1 : List Tm) (hl1 : ts1.length ≤ maxLen) (hs1 : ∀ i (h : i < ts1.length), (ts1[i]).s.size ≤ maxLen) (L2 V2 : Int) (a2 : Option Addr) (cap2 : Nat) (ts2 : List Tm) (hl2 : ts2.length ≤ maxLen) (hs2 : ∀ i (h : i < ts2.length), (ts2[i]).s.size ≤ maxLen) (w : World) (hr1 : Row w a1 ts1) (hr2 : Row w a2 ts2)
    (L' V' c' : Int) (ts' : List Tm) (hl' : ts'.length ≤ 4194304)
    (hS : ∀ (W : World) (g1 g2 : Nat), ts1.length ≤ 1048576 → ts2.length ≤ 1048576 → g1 < W.heap.size → g2 < W.heap.size → TermsIn W g1 0 ts1 → TermsIn W g2 0 ts2 → Calls Tryz.prog 13 #[.agg #[.int .i64 L1, .int .i64 V1, .slice (some ⟨g1, 0, none⟩) ts1.length ts1.length], .agg #[.int .i64 L2, .int .i64 V2, .slice (some ⟨g2, 0, none⟩) ts2.length ts2.length]] W (SerPost L' V' ts' c' W))
    (hI : ∀ (W : World) (g1 g2 : Nat), ts1.length ≤ 1048576 → ts2.length ≤ 1048576 → g1 < W.heap.size → g2 < W.heap.size → TermsIn W g1 0 ts1 → TermsIn W g2 0 ts2 → Calls Tryz.prog 14 #[.agg #[.int .i64 L1, .int .i64 V1, .slice (some ⟨g1, 0, none⟩) ts1.length ts1.length], .agg #[.int .i64 L2, .int .i64 V2, .slice (some ⟨g2, 0, none⟩) ts2.length ts2.length]] W (SerPost L' V' ts' c' W)) :
    Calls Tryz.prog 4 #[.agg #[.int .i64 L1, .int .i64 V1, .slice a1 ts1.length cap1], .agg #[.int .i64 L2, .int .i64 V2, .slice a2 ts2.length cap2]] w fun e w' => e = .returned (.bool true) ∧ Below w.heap.size w w' := by
  have HR1 := Lib.hid hr1
  have HR2 := Lib.hid hr2
  have HS1 := Lib.hid hs1
  have HS2 := Lib.hid hs2
  have HSp := Lib.hid hS
  have HIm := Lib.hid hI
  clear hr1 hr2 hs1 hs2 hS hI
  have hX := ((Cs.nil w).box3 (.int .i64 L1) (.int .i64 V1) (.slice a1 ts1.length cap1) 24).box3 (.int .i64 L2) (.int .i64 V2) (.slice a2 ts2.length cap2) 24
  simp only [World.size_alloc] at hX
  have C0 := Lib.hid hX
  clear hX
  go_enter Tryz.func4, Tryz.ntmps4
  go_wp2_with fail
  refine (szSeries_c L1 V1 a1 ts1.length cap1 1048576 _ (szTermS_row a1 cap1 ts1 hl1 HS1.out 1048576 (by omega) _ ?_)).mono ?_
  · exact ((HR1.out.below (below1 w _)).below (below1 _ _)).below (below1 _ _)
  rintro e w1 ⟨he, hb1⟩
  have hz01 : w.heap.size + 1 < w1.heap.size := by have := hb1.size; simp at this; omega
  have hz01' : w.heap.size < w1.heap.size := by omega
  have C1 := Lib.hid (C0.out.below hb1 (Nat.le_refl _))
  have R11 := Lib.hid ((RowB.of_row HR1.out).below ((below2 w _ _).trans (hb1.mono (by simp; omega))) (Nat.le_refl _))
  have R21 := Lib.hid ((RowB.of_row HR2.out).below ((below2 w _ _).trans (hb1.mono (by simp; omega))) (Nat.le_refl _))
  have B1 := Lib.hid ((below2 w _ _).trans (hb1.mono (by simp; omega)))
  clear hb1 C0
  rcases he with rfl | ⟨r1, hr10, hr11, hfit1, rfl⟩
  · go_wp2
    go_ret
    exact ⟨rfl, B1.out⟩
  have hl1b : ts1.length ≤ 1048576 := by omega
  have D0 := C1.out.get 0 rfl
  have D1 := C1.out.get 1 rfl
  have D2 := C1.out.get 2 rfl
  go_wp2_with fail
  refine (szSeries_c L2 V2 a2 ts2.length cap2 r1 _ (szTermS_row a2 cap2 ts2 hl2 HS2.out r1 ⟨hr10, hr11⟩ _ ?_)).mono ?_
  · exact (R21.out.below (below1 w1 _) (by omega)).row (by simp; omega)
  clear D0 D1 D2
  rintro e w2 ⟨he, hb2⟩
  have hz12 := hb2.size
  have hz02 : w.heap.size + 1 < w2.heap.size := by omega
  have hz02' : w.heap.size < w2.heap.size := by omega
  have C2 := Lib.hid (C1.out.below hb2 (Nat.le_refl _))
  have R12 := Lib.hid (R11.out.below hb2 (by omega))
  have R22 := Lib.hid (R21.out.below hb2 (by omega))
  have B2 := Lib.hid (B1.out.trans (hb2.mono (by omega)))
  clear hb2 C1 R11 R21 B1
  rcases he with rfl | ⟨r2, hr20, hr21, hfit2, rfl⟩
  · go_wp2
    go_ret
    exact ⟨rfl, B2.out⟩
  have hl2b : ts2.length ≤ 1048576 := by omega
  have D0 := C2.out.get 0 rfl
  have D1 := C2.out.get 1 rfl
  have D2 := C2.out.get 2 rfl
  have A0 := C2.out.get 3 rfl
  have A1 := C2.out.get 4 rfl
  have A2 := C2.out.get 5 rfl
  go_upto_region 8 with fail
  go_cut [6, 7] (CutW w2 L' V' c' ts')
  case first =>
    go_region_held3 (fun w' => w'.cell? ⟨w.heap.size, 0, none⟩ = some (.int .i64 L1) ∧ w'.cell? ⟨w.heap.size, 1, none⟩ = some (.int .i64 V1) ∧ w'.cell? ⟨w.heap.size, 2, none⟩ = some (.slice a1 ts1.length cap1) ∧ w'.cell? ⟨w.heap.size + 1, 0, none⟩ = some (.int .i64 L2) ∧ w'.cell? ⟨w.heap.size + 1, 1, none⟩ = some (.int .i64 V2) ∧ w'.cell? ⟨w.heap.size + 1, 2, none⟩ = some (.slice a2 ts2.length cap2)) (first | exact ⟨A0, A1, A2, D0, D1, D2⟩ | (refine held33 hb7 ?_ ?_ ⟨A0, A1, A2, D0, D1, D2⟩ <;> first | assumption | omega) | (refine held33 (hb7.alloc hb7.size _) ?_ ?_ ⟨A0, A1, A2, D0, D1, D2⟩ <;> first | assumption | omega) | (refine held33s hb7 ?_ ?_ ?_ ⟨A0, A1, A2, D0, D1, D2⟩ <;> first | assumption | omega) | go_keep)
      (first
        | (go_at_call 8; have hRx : Row w2.drew a1 ts1 := R12.out.row (by omega); ((with_reducible refine (toSeries_r L1 V1 a1 cap1 ts1 hl1b w2.drew hRx).mono ?_)); rintro e wx ⟨gx, rfl, hb0, hgx, hMx, hTx⟩; have hb7 : Below w2.heap.size w2 wx := below_drew hb0; have hgx2 : w2.heap.size ≤ gx := hgx)
        | (go_at_call 8; have hRx : Row (w2.alloc (.cells #[.int .i64 0, .int .i64 0, .slice none 0 0] 28)).drew a1 ts1 := (R12.out.below (below1 w2 (.cells #[.int .i64 0, .int .i64 0, .slice none 0 0] 28)) (by omega)).row (by simp; omega); ((with_reducible refine (toSeries_r L1 V1 a1 cap1 ts1 hl1b (w2.alloc (.cells #[.int .i64 0, .int .i64 0, .slice none 0 0] 28)).drew hRx).mono ?_)); rintro e wx ⟨gx, rfl, hb0, hgx, hMx, hTx⟩; have zz : Z3 wx w2.heap.size := (Z3.new w2 28).below (below_drew hb0) (by simp); have hb7 : Below w2.heap.size w2 wx := (below1 w2 (.cells #[.int .i64 0, .int .i64 0, .slice none 0 0] 28)).trans ((below_drew hb0).mono (by simp)); have hgx2 : w2.heap.size ≤ gx := (by simp at hgx; omega))
        | (go_at_call 8; have hRy : Row wx a2 ts2 := (R22.out.below hb7 (by omega)).row (by have := hb7.size; omega); ((with_reducible refine (toSeries_r L2 V2 a2 cap2 ts2 hl2b wx hRy).mono ?_)); rintro e wy ⟨gy, rfl, hb0, hgy, hMy, hTy⟩; have hgy3 : gy < wy.heap.size := hMy.1; (try have zz := zz.below hb0 (by first | exact zz.1 | (simp; exact Nat.lt_succ_of_lt zz.1))); have hTx := hTx.below hb0 hMx.1; have hgx3 : gx < wy.heap.size := (Nat.lt_of_lt_of_le hMx.1 hb0.size); have hb7 : Below w2.heap.size w2 wy := hb7.trans (hb0.mono hb7.size))
        | (go_at_call 8; have hRy : Row (wx.alloc (.cells #[.int .i64 0, .int .i64 0, .slice none 0 0] 28)) a2 ts2 := (R22.out.below (hb7.alloc hb7.size (.cells #[.int .i64 0, .int .i64 0, .slice none 0 0] 28)) (by omega)).row (by have := hb7.size; simp; omega); ((with_reducible refine (toSeries_r L2 V2 a2 cap2 ts2 hl2b (wx.alloc (.cells #[.int .i64 0, .int .i64 0, .slice none 0 0] 28)) hRy).mono ?_)); rintro e wy ⟨gy, rfl, hb0, hgy, hMy, hTy⟩; have hgy3 : gy < wy.heap.size := hMy.1; have zz : Z3 wy wx.heap.size := (Z3.new wx 28).below hb0 (by simp); have hzz : w2.heap.size ≤ wx.heap.size := hb7.size; have hTx := (hTx.below (below1 wx (.cells #[.int .i64 0, .int .i64 0, .slice none 0 0] 28)) hMx.1).below hb0 (by simp; exact Nat.lt_succ_of_lt hMx.1); have hgx3 : gx < wy.heap.size := (by have h1 := hMx.1; have h2 := hb0.size; simp at h2; omega); have hb7 : Below w2.heap.size w2 wy := (hb7.alloc hb7.size (.cells #[.int .i64 0, .int .i64 0, .slice none 0 0] 28)).trans (hb0.mono (by have := hb7.size; simp; omega)))
        | (go_at_call 13; (try have hgl := zz.1); ((with_reducible refine (HSp.out wy gx gy hl1b hl2b hgx3 hgy3 hTx hTy).mono ?_)); rintro e wf ⟨aw, cw, rfl, hb0, hNf⟩; (try have zz := zz.below hb0 (by first | exact zz.1 | (simp; exact Nat.lt_succ_of_lt zz.1))); have hb7' := hb7.size; have hb7 : Below w2.heap.size w2 wf := hb7.trans (hb0.mono hb7.size); (try (have q1 := zz.2.1; have q2 := zz.2.2.1; have q3 := zz.2.2.2.1; have q4 := zz.2.2.2.2.1; have q5 := zz.2.2.2.2.2.1; have q6 := zz.2.2.2.2.2.2)))
        | (go_at_call 13; have hgl : wy.heap.size < (wy.alloc (.cells #[.int .i64 0, .int .i64 0, .slice none 0 0] 28)).heap.size := (by simp); have hqx : gx < (wy.alloc (.cells #[.int .i64 0, .int .i64 0, .slice none 0 0] 28)).heap.size := (by simp; omega); have hqy : gy < (wy.alloc (.cells #[.int .i64 0, .int .i64 0, .slice none 0 0] 28)).heap.size := (by simp; omega); have hTxa : TermsIn (wy.alloc (.cells #[.int .i64 0, .int .i64 0, .slice none 0 0] 28)) gx 0 ts1 := hTx.below (below1 wy (.cells #[.int .i64 0, .int .i64 0, .slice none 0 0] 28)) hgx3; have hTya : TermsIn (wy.alloc (.cells #[.int .i64 0, .int .i64 0, .slice none 0 0] 28)) gy 0 ts2 := hTy.below (below1 wy (.cells #[.int .i64 0, .int .i64 0, .slice none 0 0] 28)) hgy3; ((with_reducible refine (HSp.out (wy.alloc (.cells #[.int .i64 0, .int .i64 0, .slice none 0 0] 28)) gx gy hl1b hl2b hqx hqy hTxa hTya).mono ?_)); rintro e wf ⟨aw, cw, rfl, hb0, hNf⟩; have zz : Z3 wf wy.heap.size := (Z3.new wy 28).below hb0 (by simp); have hb7' := hb7.size; have hb7 : Below w2.heap.size w2 wf := (hb7.alloc hb7.size (.cells #[.int .i64 0, .int .i64 0, .slice none 0 0] 28)).trans (hb0.mono (by have := hb7.size; simp; omega)); (try (have q1 := zz.2.1; have q2 := zz.2.2.1; have q3 := zz.2.2.2.1; have q4 := zz.2.2.2.2.1; have q5 := zz.2.2.2.2.2.1; have q6 := zz.2.2.2.2.2.2)))
        | fail)
    all_goals (go_wp2_with fail; go_meet)
    all_goals first | exact CutW.new hb7 hNf | exact CutW.old zz hb7 (by first | exact Nat.le_refl _ | omega) hNf hgl
  case rest =>
    obtain ⟨gW, aw, cw, rfl, rfl, hgW1, hgW2, hBy, u0, u1, u2, hKr⟩ := hcut
    obtain ⟨w3, rfl⟩ : ∃ w3 : World, w3 = wc := ⟨_, rfl⟩
    have hz23 := hBy.size
    have C3 := Lib.hid (((((C2.out.below hBy (Nat.le_refl _)).cons hgW2 u2).cons hgW2 u1).cons hgW2 u0))
    have R13 := Lib.hid (R12.out.below hBy (by omega))
    have R23 := Lib.hid (R22.out.below hBy (by omega))
    have B3 := Lib.hid (B2.out.trans (hBy.mono (by omega)))
    have K3 := Lib.hid hKr
    have hz03 : w.heap.size + 1 < w3.heap.size := by omega
    have hz03' : w.heap.size < w3.heap.size := by omega
    clear hBy hKr u0 u1 u2 A0 A1 A2 D0 D1 D2 C2 R12 R22 B2
    have A0 := C3.out.get 6 rfl
    have A1 := C3.out.get 7 rfl
    have A2 := C3.out.get 8 rfl
    go_wp2_with fail
    refine (toSeries_c L1 V1 a1 cap1 ts1 hl1b _ (R13.out.row (by omega))).mono ?_
    clear A0 A1 A2
    rintro e w4 ⟨g4, rfl, hb4, hg4, hM4, hT4⟩
    have hz34 := hb4.size
    have C4 := Lib.hid (C3.out.below hb4 (by first | exact Nat.le_refl _ | (simp; omega) | omega))
    have R14 := Lib.hid (R13.out.below hb4 (by first | exact Nat.le_refl _ | (simp; omega) | omega))
    have R24 := Lib.hid (R23.out.below hb4 (by first | exact Nat.le_refl _ | (simp; omega) | omega))
    have K4 := Lib.hid (K3.out.below hb4 (by first | exact Nat.le_refl _ | (simp; omega) | omega))
    have B4 := Lib.hid (B3.out.trans (hb4.mono (by omega)))
    have P4 := Lib.hid (NewRow.of_to (lo := w3.heap.size) hg4 hM4 hT4)
    have HT4 := Lib.hid hT4
    have hgl4 := hM4.1
    clear hb4 hg4 hM4 hT4 C3 R13 R23 K3 B3
    have D0 := C4.out.get 3 rfl
    have D1 := C4.out.get 4 rfl
    have D2 := C4.out.get 5 rfl
    have hz04 : w.heap.size + 1 < w4.heap.size := by omega
    go_wp2_with fail
    refine (toSeries_c L2 V2 a2 cap2 ts2 hl2b _ ((R24.out.below (below1 w4 (.cells #[.int .i64 L1, .int .i64 V1, .slice (some ⟨g4, 0, none⟩) ts1.length ts1.length] 28)) (by omega)).row (by simp; omega))).mono ?_
    clear D0 D1 D2
    rintro e w5 ⟨g5, rfl, hb5, hg5, hM5, hT5⟩
    have hz45 : w4.heap.size < w5.heap.size := by have := hb5.size; simp at this; omega
    have C5 := Lib.hid ((C4.out.box3 (.int .i64 L1) (.int .i64 V1) (.slice (some ⟨g4, 0, none⟩) ts1.length ts1.length) 28).below hb5 (Nat.le_refl _))
    have R15 := Lib.hid ((R14.out.below (below1 w4 (.cells #[.int .i64 L1, .int .i64 V1, .slice (some ⟨g4, 0, none⟩) ts1.length ts1.length] 28)) (by first | exact Nat.le_refl _ | omega)).below hb5 (by simp; omega))
    have R25 := Lib.hid ((R24.out.below (below1 w4 (.cells #[.int .i64 L1, .int .i64 V1, .slice (some ⟨g4, 0, none⟩) ts1.length ts1.length] 28)) (by first | exact Nat.le_refl _ | omega)).below hb5 (by simp; omega))
    have K5 := Lib.hid ((K4.out.below (below1 w4 (.cells #[.int .i64 L1, .int .i64 V1, .slice (some ⟨g4, 0, none⟩) ts1.length ts1.length] 28)) (by first | exact Nat.le_refl _ | omega)).below hb5 (by simp; omega))
    have P5 := Lib.hid ((P4.out.below (below1 w4 (.cells #[.int .i64 L1, .int .i64 V1, .slice (some ⟨g4, 0, none⟩) ts1.length ts1.length] 28)) (Nat.le_refl _)).below hb5 (by simp))
    have HT5a := Lib.hid ((HT4.out.below (below1 w4 (.cells #[.int .i64 L1, .int .i64 V1, .slice (some ⟨g4, 0, none⟩) ts1.length ts1.length] 28)) hgl4).below hb5 (by simp; omega))
    have B5 := Lib.hid (B4.out.trans ((below1 w4 (.cells #[.int .i64 L1, .int .i64 V1, .slice (some ⟨g4, 0, none⟩) ts1.length ts1.length] 28)).mono B4.out.size |>.trans (hb5.mono (by simp; omega))))
    have Q5 := Lib.hid (NewRow.of_to (lo := w4.heap.size + 1) (by simpa using hg5) hM5 hT5)
    have HT5 := Lib.hid hT5
    have hgl5 := hM5.1
    clear hb5 hg5 hM5 hT5 C4 R14 R24 K4 B4 P4 HT4
    have X0 := C5.out.get 0 rfl
    have X1 := C5.out.get 1 rfl
    have X2 := C5.out.get 2 rfl
    have hgl4' : g4 < w5.heap.size := by omega
    go_wp2_with fail
    refine (HIm.out _ g4 g5 hl1b hl2b (by simp; omega) (by simp; omega) (HT5a.out.below (below1 w5 (.cells #[.int .i64 L2, .int .i64 V2, .slice (some ⟨g5, 0, none⟩) ts2.length ts2.length] 28)) hgl4') (HT5.out.below (below1 w5 (.cells #[.int .i64 L2, .int .i64 V2, .slice (some ⟨g5, 0, none⟩) ts2.length ts2.length] 28)) hgl5)).mono ?_
    clear X0 X1 X2
    rintro e w6 ⟨ag, cg, rfl, hb6, hN6⟩
    have hz56 : w5.heap.size < w6.heap.size := by have := hb6.size; simp at this; omega
    have C6 := Lib.hid ((C5.out.box3 (.int .i64 L2) (.int .i64 V2) (.slice (some ⟨g5, 0, none⟩) ts2.length ts2.length) 28).below hb6 (Nat.le_refl _))
    have R16 := Lib.hid ((R15.out.below (below1 w5 (.cells #[.int .i64 L2, .int .i64 V2, .slice (some ⟨g5, 0, none⟩) ts2.length ts2.length] 28)) (by first | exact Nat.le_refl _ | omega)).below hb6 (by simp; omega))
    have R26 := Lib.hid ((R25.out.below (below1 w5 (.cells #[.int .i64 L2, .int .i64 V2, .slice (some ⟨g5, 0, none⟩) ts2.length ts2.length] 28)) (by first | exact Nat.le_refl _ | omega)).below hb6 (by simp; omega))
    have K6 := Lib.hid ((K5.out.below (below1 w5 (.cells #[.int .i64 L2, .int .i64 V2, .slice (some ⟨g5, 0, none⟩) ts2.length ts2.length] 28)) (by first | exact Nat.le_refl _ | omega)).below hb6 (by simp; omega))
    have P6 := Lib.hid ((P5.out.below (below1 w5 (.cells #[.int .i64 L2, .int .i64 V2, .slice (some ⟨g5, 0, none⟩) ts2.length ts2.length] 28)) (by omega)).below hb6 (by simp; omega))
    have Q6 := Lib.hid ((Q5.out.below (below1 w5 (.cells #[.int .i64 L2, .int .i64 V2, .slice (some ⟨g5, 0, none⟩) ts2.length ts2.length] 28)) (Nat.le_refl _)).below hb6 (by simp))
    have B6 := Lib.hid (B5.out.trans ((below1 w5 (.cells #[.int .i64 L2, .int .i64 V2, .slice (some ⟨g5, 0, none⟩) ts2.length ts2.length] 28)).mono B5.out.size |>.trans (hb6.mono (by have := B5.out.size; simp; omega))))
    have G6 := Lib.hid (hN6.mono (lo' := w5.heap.size + 1) (hi' := w6.heap.size) (by simp) (Nat.le_refl _))
    clear hb6 hN6 C5 R15 R25 K5 B5 P5 Q5 HT5 HT5a
    have W0 := C6.out.get 6 rfl
    have W1 := C6.out.get 7 rfl
    have W2 := C6.out.get 8 rfl
    have hgW6 : gW < w6.heap.size := by omega
    go_wp2_with fail
    have G6a := Lib.hid (G6.out.below (below1 w6 (.cells #[.int .i64 L', .int .i64 V', .slice ag ts'.length cg] 28)) (Nat.le_refl _))
    have K6a := Lib.hid (K6.out.below (below1 w6 (.cells #[.int .i64 L', .int .i64 V', .slice ag ts'.length cg] 28)) (by omega))
    refine (eqSeries_row4 L' V' ag aw cg cw ts' hl' _ G6a.out.row (K6a.out.row (by simp; omega))).mono ?_
    clear W0 W1 W2
    rintro e w7 ⟨rfl, hb7⟩
    have hz67 : w6.heap.size < w7.heap.size := by have := hb7.size; simp at this; omega
    have C7 := Lib.hid ((C6.out.box3 (.int .i64 L') (.int .i64 V') (.slice ag ts'.length cg) 28).below hb7 (Nat.le_refl _))
    have R17 := Lib.hid ((R16.out.below (below1 w6 (.cells #[.int .i64 L', .int .i64 V', .slice ag ts'.length cg] 28)) (by first | exact Nat.le_refl _ | omega)).below hb7 (by simp; omega))
    have R27 := Lib.hid ((R26.out.below (below1 w6 (.cells #[.int .i64 L', .int .i64 V', .slice ag ts'.length cg] 28)) (by first | exact Nat.le_refl _ | omega)).below hb7 (by simp; omega))
    have P7 := Lib.hid ((P6.out.below (below1 w6 (.cells #[.int .i64 L', .int .i64 V', .slice ag ts'.length cg] 28)) (by first | exact Nat.le_refl _ | omega)).below hb7 (by simp; omega))
    have Q7 := Lib.hid ((Q6.out.below (below1 w6 (.cells #[.int .i64 L', .int .i64 V', .slice ag ts'.length cg] 28)) (by first | exact Nat.le_refl _ | omega)).below hb7 (by simp; omega))
    have K7 := Lib.hid (K6a.out.below hb7 (by simp; omega))
    have G7 := Lib.hid (G6a.out.below hb7 (by simp))
    have B7 := Lib.hid (B6.out.trans ((below1 w6 (.cells #[.int .i64 L', .int .i64 V', .slice ag ts'.length cg] 28)).mono B6.out.size |>.trans (hb7.mono (by have := B6.out.size; simp; omega))))
    clear hb7 C6 R16 R26 K6 K6a P6 Q6 G6 G6a B6
    have A0 := C7.out.get 15 rfl
    have A1 := C7.out.get 16 rfl
    have A2 := C7.out.get 17 rfl
    have X0 := C7.out.get 6 rfl
    have X1 := C7.out.get 7 rfl
    have X2 := C7.out.get 8 rfl
    have hza1 : w.heap.size < w7.heap.size := by omega
    have hza2 : w4.heap.size < w7.heap.size := by omega
    go_upto_region 14 with fail
    go_cut [58] (fun sc wy => sc = .bool false ∧ Below w7.heap.size w7 wy)
    case first =>
      go_region_held3 (fun w' => w'.cell? ⟨w.heap.size, 0, none⟩ = some (.int .i64 L1) ∧ w'.cell? ⟨w.heap.size, 1, none⟩ = some (.int .i64 V1) ∧ w'.cell? ⟨w.heap.size, 2, none⟩ = some (.slice a1 ts1.length cap1) ∧ w'.cell? ⟨w4.heap.size, 0, none⟩ = some (.int .i64 L1) ∧ w'.cell? ⟨w4.heap.size, 1, none⟩ = some (.int .i64 V1) ∧ w'.cell? ⟨w4.heap.size, 2, none⟩ = some (.slice (some ⟨g4, 0, none⟩) ts1.length ts1.length)) (first | (refine held33 hbq ?_ ?_ ⟨A0, A1, A2, X0, X1, X2⟩ <;> assumption) | go_keep)
        (first
          | (go_at_call 8; refine (toSeries_c L1 V1 a1 cap1 ts1 hl1b _ ?_).mono ?_; (exact R17.out.row (by omega)); rintro e wq ⟨gq, rfl, hb0, hgq, hMq, hTq⟩; have hbq : Below w7.heap.size w7 wq := ⟨hb0.os, hb0.tape, hb0.output, hb0.size, hb0.block⟩)
          | (go_at_call 10; refine (eqSeries_row L1 V1 (some ⟨g4, 0, none⟩) (some ⟨gq, 0, none⟩) _ _ ts1 hl1b _ ?_ ?_).mono ?_; (exact (P7.out.below hbq (by omega)).row); (exact .inr ⟨gq, 0, rfl, hMq.1, hTq⟩); rintro e wp ⟨rfl, hbp⟩; have hbq : Below w7.heap.size w7 wp := hbq.trans (hbp.mono hbq.size)))
      all_goals (go_wp2_with fail; go_meet)
      all_goals exact ⟨rfl, hbq⟩
    case rest =>
      obtain ⟨rfl, hBy⟩ := hcut
      obtain ⟨w8, rfl⟩ : ∃ w8 : World, w8 = wc := ⟨_, rfl⟩
      have hz78 := hBy.size
      have C8 := Lib.hid (C7.out.below hBy (by first | exact Nat.le_refl _ | (simp; omega) | omega))
      have R18 := Lib.hid (R17.out.below hBy (by first | exact Nat.le_refl _ | (simp; omega) | omega))
      have R28 := Lib.hid (R27.out.below hBy (by first | exact Nat.le_refl _ | (simp; omega) | omega))
      have K8 := Lib.hid (K7.out.below hBy (by first | exact Nat.le_refl _ | (simp; omega) | omega))
      have P8 := Lib.hid (P7.out.below hBy (by first | exact Nat.le_refl _ | (simp; omega) | omega))
      have Q8 := Lib.hid (Q7.out.below hBy (by first | exact Nat.le_refl _ | (simp; omega) | omega))
      have G8 := Lib.hid (G7.out.below hBy (by first | exact Nat.le_refl _ | (simp; omega) | omega))
      have B8 := Lib.hid (B7.out.trans (hBy.mono B7.out.size))
      clear hBy A0 A1 A2 X0 X1 X2 hza1 hza2 C7 R17 R27 K7 P7 Q7 G7 B7
      have A0 := C8.out.get 12 rfl
      have A1 := C8.out.get 13 rfl
      have A2 := C8.out.get 14 rfl
      have X0 := C8.out.get 3 rfl
      have X1 := C8.out.get 4 rfl
      have X2 := C8.out.get 5 rfl
      have hza1 : w.heap.size + 1 < w8.heap.size := by omega
      have hza2 : w5.heap.size < w8.heap.size := by omega
      go_upto_region 16 with fail
      go_cut [63] (fun sc wy => sc = .bool false ∧ Below w8.heap.size w8 wy)
      case first =>
        go_region_held3 (fun w' => w'.cell? ⟨w.heap.size + 1, 0, none⟩ = some (.int .i64 L2) ∧ w'.cell? ⟨w.heap.size + 1, 1, none⟩ = some (.int .i64 V2) ∧ w'.cell? ⟨w.heap.size + 1, 2, none⟩ = some (.slice a2 ts2.length cap2) ∧ w'.cell? ⟨w5.heap.size, 0, none⟩ = some (.int .i64 L2) ∧ w'.cell? ⟨w5.heap.size, 1, none⟩ = some (.int .i64 V2) ∧ w'.cell? ⟨w5.heap.size, 2, none⟩ = some (.slice (some ⟨g5, 0, none⟩) ts2.length ts2.length)) (first | (refine held33 hbq ?_ ?_ ⟨A0, A1, A2, X0, X1, X2⟩ <;> assumption) | go_keep)
          (first
            | (go_at_call 8; refine (toSeries_c L2 V2 a2 cap2 ts2 hl2b _ ?_).mono ?_; (exact R28.out.row (by omega)); rintro e wq ⟨gq, rfl, hb0, hgq, hMq, hTq⟩; have hbq : Below w8.heap.size w8 wq := ⟨hb0.os, hb0.tape, hb0.output, hb0.size, hb0.block⟩)
            | (go_at_call 10; refine (eqSeries_row L2 V2 (some ⟨g5, 0, none⟩) (some ⟨gq, 0, none⟩) _ _ ts2 hl2b _ ?_ ?_).mono ?_; (exact (Q8.out.below hbq (by omega)).row); (exact .inr ⟨gq, 0, rfl, hMq.1, hTq⟩); rintro e wp ⟨rfl, hbp⟩; have hbq : Below w8.heap.size w8 wp := hbq.trans (hbp.mono hbq.size)))
        all_goals (go_wp2_with fail; go_meet)
        all_goals exact ⟨rfl, hbq⟩
      case rest =>
        obtain ⟨rfl, hBy⟩ := hcut
        obtain ⟨w9, rfl⟩ : ∃ w9 : World, w9 = wc := ⟨_, rfl⟩
        have hz89 := hBy.size
        have C9 := Lib.hid (C8.out.below hBy (by first | exact Nat.le_refl _ | (simp; omega) | omega))
        have R19 := Lib.hid (R18.out.below hBy (by first | exact Nat.le_refl _ | (simp; omega) | omega))
        have R29 := Lib.hid (R28.out.below hBy (by first | exact Nat.le_refl _ | (simp; omega) | omega))
        have K9 := Lib.hid (K8.out.below hBy (by first | exact Nat.le_refl _ | (simp; omega) | omega))
        have P9 := Lib.hid (P8.out.below hBy (by first | exact Nat.le_refl _ | (simp; omega) | omega))
        have Q9 := Lib.hid (Q8.out.below hBy (by first | exact Nat.le_refl _ | (simp; omega) | omega))
        have G9 := Lib.hid (G8.out.below hBy (by first | exact Nat.le_refl _ | (simp; omega) | omega))
        have B9 := Lib.hid (B8.out.trans (hBy.mono B8.out.size))
        clear hBy A0 A1 A2 X0 X1 X2 hza1 hza2 C8 R18 R28 K8 P8 Q8 G8 B8
        have X0 := C9.out.get 6 rfl
        have X1 := C9.out.get 7 rfl
        have X2 := C9.out.get 8 rfl
        go_wp2_with fail
        refine (markSeries_row L1 V1 w3.heap.size w4.heap.size (some ⟨g4, 0, none⟩) _ ts1 1 (by omega) (by omega) _ P9.out).mono ?_
        clear X0 X1 X2
        rintro e w10 ⟨r10, rfl, hG10, hr10, hN10⟩
        have hz910 := hG10.size
        have C10 := Lib.hid (C9.out.grown hG10 (by
          intro p hp h
          have := hr10 p.1 h.symm
          simp only [List.mem_cons, List.not_mem_nil, or_false] at hp
          rcases hp with rfl | rfl | rfl | rfl | rfl | rfl | rfl | rfl | rfl | rfl | rfl | rfl | rfl | rfl | rfl | rfl | rfl | rfl <;> simp only at this <;> omega))
        have R110 := Lib.hid (R19.out.grown hG10 (by omega) (fun g h => by have := hr10 g h; omega))
        have R210 := Lib.hid (R29.out.grown hG10 (by omega) (fun g h => by have := hr10 g h; omega))
        have K10 := Lib.hid (K9.out.grown hG10 (by omega) (fun g h => by have := hr10 g h; omega))
        have Q10 := Lib.hid (Q9.out.grown hG10 (fun g h => by have := hr10 g h; omega))
        have G10 := Lib.hid (G9.out.grown hG10 (fun g h => by have := hr10 g h; omega))
        have B10 := Lib.hid (B9.out.trans (below_of_grown hG10 (fun g h => by have := hr10 g h; omega) (by omega)))
        clear hG10 hr10 hN10 C9 R19 R29 K9 P9 Q9 G9 B9
        have X0 := C10.out.get 3 rfl
        have X1 := C10.out.get 4 rfl
        have X2 := C10.out.get 5 rfl
        go_wp2_with fail
        refine (markSeries_row L2 V2 (w4.heap.size + 1) w5.heap.size (some ⟨g5, 0, none⟩) _ ts2 (1 + 3 * (ts1.length : Int)) (by omega) (by omega) _ Q10.out).mono ?_
        clear X0 X1 X2
        rintro e w11 ⟨r11, rfl, hG11, hr11, hN11⟩
        have hz1011 := hG11.size
        have C11 := Lib.hid (C10.out.grown hG11 (by
          intro p hp h
          have := hr11 p.1 h.symm
          simp only [List.mem_cons, List.not_mem_nil, or_false] at hp
          rcases hp with rfl | rfl | rfl | rfl | rfl | rfl | rfl | rfl | rfl | rfl | rfl | rfl | rfl | rfl | rfl | rfl | rfl | rfl <;> simp only at this <;> omega))
        have R111 := Lib.hid (R110.out.grown hG11 (by omega) (fun g h => by have := hr11 g h; omega))
        have R211 := Lib.hid (R210.out.grown hG11 (by omega) (fun g h => by have := hr11 g h; omega))
        have K11 := Lib.hid (K10.out.grown hG11 (by omega) (fun g h => by have := hr11 g h; omega))
        have G11 := Lib.hid (G10.out.grown hG11 (fun g h => by have := hr11 g h; omega))
        have B11 := Lib.hid (B10.out.trans (below_of_grown hG11 (fun g h => by have := hr11 g h; omega) (by omega)))
        clear hG11 hr11 hN11 C10 R110 R210 K10 Q10 G10 B10
        have G0 := C11.out.get 0 rfl
        have G1 := C11.out.get 1 rfl
        have G2 := C11.out.get 2 rfl
        have W0 := C11.out.get 9 rfl
        have W1 := C11.out.get 10 rfl
        have W2 := C11.out.get 11 rfl
        have hk11 : (0 : Int) ≤ 1 + 3 * (ts1.length : Int) + 3 * (ts2.length : Int) := by omega
        go_wp2_with fail
        refine (eqSeries_row4 L' V' ag aw cg cw ts' hl' _ G11.out.row (K11.out.row (by omega))).mono ?_
        clear G0 G1 G2 W0 W1 W2
        rintro e w12 ⟨rfl, hb12⟩
        have hz1112 := hb12.size
        have C12 := Lib.hid (C11.out.below hb12 (by first | exact Nat.le_refl _ | (simp; omega) | omega))
        have R112 := Lib.hid (R111.out.below hb12 (by first | exact Nat.le_refl _ | (simp; omega) | omega))
        have R212 := Lib.hid (R211.out.below hb12 (by first | exact Nat.le_refl _ | (simp; omega) | omega))
        have K12 := Lib.hid (K11.out.below hb12 (by first | exact Nat.le_refl _ | (simp; omega) | omega))
        have G12 := Lib.hid (G11.out.below hb12 (by first | exact Nat.le_refl _ | (simp; omega) | omega))
        have B12 := Lib.hid (B11.out.trans (hb12.mono B11.out.size))
        clear hb12 C11 R111 R211 K11 G11 B11
        have G0 := C12.out.get 0 rfl
        have G1 := C12.out.get 1 rfl
        have G2 := C12.out.get 2 rfl
        go_wp2_with fail
        refine (markSeries_row L' V' (w5.heap.size + 1) w6.heap.size ag _ ts' 1 (by omega) (by omega) _ G12.out).mono ?_
        clear G0 G1 G2
        rintro e w13 ⟨r13, rfl, hG13, hr13, hN13⟩
        have hz1213 := hG13.size
        have C13 := Lib.hid (C12.out.grown hG13 (by
          intro p hp h
          have := hr13 p.1 h.symm
          simp only [List.mem_cons, List.not_mem_nil, or_false] at hp
          rcases hp with rfl | rfl | rfl | rfl | rfl | rfl | rfl | rfl | rfl | rfl | rfl | rfl | rfl | rfl | rfl | rfl | rfl | rfl <;> simp only at this <;> omega))
        have R113 := Lib.hid (R112.out.grown hG13 (by omega) (fun g h => by have := hr13 g h; omega))
        have R213 := Lib.hid (R212.out.grown hG13 (by omega) (fun g h => by have := hr13 g h; omega))
        have K13 := Lib.hid (K12.out.grown hG13 (by omega) (fun g h => by have := hr13 g h; omega))
        have B13 := Lib.hid (B12.out.trans (below_of_grown hG13 (fun g h => by have := hr13 g h; omega) (by omega)))
        have M13 := Lib.hid hN13
        clear hG13 hr13 hN13 C12 R112 R212 K12 G12 B12
        have G0 := C13.out.get 0 rfl
        have G1 := C13.out.get 1 rfl
        have G2 := C13.out.get 2 rfl
        have hk13 : (0 : Int) ≤ 1 + 3 * (ts'.length : Int) := by omega
        go_wp2_with fail
        refine (heldSeries_row L' V' (w5.heap.size + 1) w6.heap.size ag _ ts' 1 (by omega) (by omega) _ M13.out).mono ?_
        clear G0 G1 G2
        rintro e w14 ⟨rfl, hb14⟩
        have hz1314 := hb14.size
        have C14 := Lib.hid (C13.out.below hb14 (by first | exact Nat.le_refl _ | (simp; omega) | omega))
        have R114 := Lib.hid (R113.out.below hb14 (by first | exact Nat.le_refl _ | (simp; omega) | omega))
        have R214 := Lib.hid (R213.out.below hb14 (by first | exact Nat.le_refl _ | (simp; omega) | omega))
        have K14 := Lib.hid (K13.out.below hb14 (by first | exact Nat.le_refl _ | (simp; omega) | omega))
        have M14 := Lib.hid (M13.out.below hb14 (by first | exact Nat.le_refl _ | (simp; omega) | omega))
        have B14 := Lib.hid (B13.out.trans (hb14.mono B13.out.size))
        clear hb14 C13 R113 R213 K13 M13 B13
        have A0 := C14.out.get 15 rfl
        have A1 := C14.out.get 16 rfl
        have A2 := C14.out.get 17 rfl
        have D0 := C14.out.get 12 rfl
        have D1 := C14.out.get 13 rfl
        have D2 := C14.out.get 14 rfl
        have hz014 : w.heap.size + 1 < w14.heap.size := by omega
        have hz014' : w.heap.size < w14.heap.size := by omega
        go_upto_region 31 with fail
        go_cut [15, 16] (CutW w14 L' V' c' ts')
        case first =>
          go_region_held3 (fun w' => w'.cell? ⟨w.heap.size, 0, none⟩ = some (.int .i64 L1) ∧ w'.cell? ⟨w.heap.size, 1, none⟩ = some (.int .i64 V1) ∧ w'.cell? ⟨w.heap.size, 2, none⟩ = some (.slice a1 ts1.length cap1) ∧ w'.cell? ⟨w.heap.size + 1, 0, none⟩ = some (.int .i64 L2) ∧ w'.cell? ⟨w.heap.size + 1, 1, none⟩ = some (.int .i64 V2) ∧ w'.cell? ⟨w.heap.size + 1, 2, none⟩ = some (.slice a2 ts2.length cap2)) (first | exact ⟨A0, A1, A2, D0, D1, D2⟩ | (refine held33 hb7 ?_ ?_ ⟨A0, A1, A2, D0, D1, D2⟩ <;> first | assumption | omega) | (refine held33 (hb7.alloc hb7.size _) ?_ ?_ ⟨A0, A1, A2, D0, D1, D2⟩ <;> first | assumption | omega) | (refine held33s hb7 ?_ ?_ ?_ ⟨A0, A1, A2, D0, D1, D2⟩ <;> first | assumption | omega) | go_keep)
            (first
              | (go_at_call 8; have hRx : Row w14.drew a1 ts1 := R114.out.row (by omega); ((with_reducible refine (toSeries_r L1 V1 a1 cap1 ts1 hl1b w14.drew hRx).mono ?_)); rintro e wx ⟨gx, rfl, hb0, hgx, hMx, hTx⟩; have hb7 : Below w14.heap.size w14 wx := below_drew hb0; have hgx2 : w14.heap.size ≤ gx := hgx)
              | (go_at_call 8; have hRx : Row (w14.alloc (.cells #[.int .i64 0, .int .i64 0, .slice none 0 0] 28)).drew a1 ts1 := (R114.out.below (below1 w14 (.cells #[.int .i64 0, .int .i64 0, .slice none 0 0] 28)) (by omega)).row (by simp; omega); ((with_reducible refine (toSeries_r L1 V1 a1 cap1 ts1 hl1b (w14.alloc (.cells #[.int .i64 0, .int .i64 0, .slice none 0 0] 28)).drew hRx).mono ?_)); rintro e wx ⟨gx, rfl, hb0, hgx, hMx, hTx⟩; have zz : Z3 wx w14.heap.size := (Z3.new w14 28).below (below_drew hb0) (by simp); have hb7 : Below w14.heap.size w14 wx := (below1 w14 (.cells #[.int .i64 0, .int .i64 0, .slice none 0 0] 28)).trans ((below_drew hb0).mono (by simp)); have hgx2 : w14.heap.size ≤ gx := (by simp at hgx; omega))
              | (go_at_call 8; have hRy : Row wx a2 ts2 := (R214.out.below hb7 (by omega)).row (by have := hb7.size; omega); ((with_reducible refine (toSeries_r L2 V2 a2 cap2 ts2 hl2b wx hRy).mono ?_)); rintro e wy ⟨gy, rfl, hb0, hgy, hMy, hTy⟩; have hgy3 : gy < wy.heap.size := hMy.1; (try have zz := zz.below hb0 (by first | exact zz.1 | (simp; exact Nat.lt_succ_of_lt zz.1))); have hTx := hTx.below hb0 hMx.1; have hgx3 : gx < wy.heap.size := (Nat.lt_of_lt_of_le hMx.1 hb0.size); have hb7 : Below w14.heap.size w14 wy := hb7.trans (hb0.mono hb7.size))
              | (go_at_call 8; have hRy : Row (wx.alloc (.cells #[.int .i64 0, .int .i64 0, .slice none 0 0] 28)) a2 ts2 := (R214.out.below (hb7.alloc hb7.size (.cells #[.int .i64 0, .int .i64 0, .slice none 0 0] 28)) (by omega)).row (by have := hb7.size; simp; omega); ((with_reducible refine (toSeries_r L2 V2 a2 cap2 ts2 hl2b (wx.alloc (.cells #[.int .i64 0, .int .i64 0, .slice none 0 0] 28)) hRy).mono ?_)); rintro e wy ⟨gy, rfl, hb0, hgy, hMy, hTy⟩; have hgy3 : gy < wy.heap.size := hMy.1; have zz : Z3 wy wx.heap.size := (Z3.new wx 28).below hb0 (by simp); have hzz : w14.heap.size ≤ wx.heap.size := hb7.size; have hTx := (hTx.below (below1 wx (.cells #[.int .i64 0, .int .i64 0, .slice none 0 0] 28)) hMx.1).below hb0 (by simp; exact Nat.lt_succ_of_lt hMx.1); have hgx3 : gx < wy.heap.size := (by have h1 := hMx.1; have h2 := hb0.size; simp at h2; omega); have hb7 : Below w14.heap.size w14 wy := (hb7.alloc hb7.size (.cells #[.int .i64 0, .int .i64 0, .slice none 0 0] 28)).trans (hb0.mono (by have := hb7.size; simp; omega)))
              | (go_at_call 14; (try have hgl := zz.1); ((with_reducible refine (HIm.out wy gx gy hl1b hl2b hgx3 hgy3 hTx hTy).mono ?_)); rintro e wf ⟨aw, cw, rfl, hb0, hNf⟩; (try have zz := zz.below hb0 (by first | exact zz.1 | (simp; exact Nat.lt_succ_of_lt zz.1))); have hb7' := hb7.size; have hb7 : Below w14.heap.size w14 wf := hb7.trans (hb0.mono hb7.size); (try (have q1 := zz.2.1; have q2 := zz.2.2.1; have q3 := zz.2.2.2.1; have q4 := zz.2.2.2.2.1; have q5 := zz.2.2.2.2.2.1; have q6 := zz.2.2.2.2.2.2)))
              | (go_at_call 14; have hgl : wy.heap.size < (wy.alloc (.cells #[.int .i64 0, .int .i64 0, .slice none 0 0] 28)).heap.size := (by simp); have hqx : gx < (wy.alloc (.cells #[.int .i64 0, .int .i64 0, .slice none 0 0] 28)).heap.size := (by simp; omega); have hqy : gy < (wy.alloc (.cells #[.int .i64 0, .int .i64 0, .slice none 0 0] 28)).heap.size := (by simp; omega); have hTxa : TermsIn (wy.alloc (.cells #[.int .i64 0, .int .i64 0, .slice none 0 0] 28)) gx 0 ts1 := hTx.below (below1 wy (.cells #[.int .i64 0, .int .i64 0, .slice none 0 0] 28)) hgx3; have hTya : TermsIn (wy.alloc (.cells #[.int .i64 0, .int .i64 0, .slice none 0 0] 28)) gy 0 ts2 := hTy.below (below1 wy (.cells #[.int .i64 0, .int .i64 0, .slice none 0 0] 28)) hgy3; ((with_reducible refine (HIm.out (wy.alloc (.cells #[.int .i64 0, .int .i64 0, .slice none 0 0] 28)) gx gy hl1b hl2b hqx hqy hTxa hTya).mono ?_)); rintro e wf ⟨aw, cw, rfl, hb0, hNf⟩; have zz : Z3 wf wy.heap.size := (Z3.new wy 28).below hb0 (by simp); have hb7' := hb7.size; have hb7 : Below w14.heap.size w14 wf := (hb7.alloc hb7.size (.cells #[.int .i64 0, .int .i64 0, .slice none 0 0] 28)).trans (hb0.mono (by have := hb7.size; simp; omega)); (try (have q1 := zz.2.1; have q2 := zz.2.2.1; have q3 := zz.2.2.2.1; have q4 := zz.2.2.2.2.1; have q5 := zz.2.2.2.2.2.1; have q6 := zz.2.2.2.2.2.2)))
              | fail)
          all_goals (go_wp2_with fail; go_meet)
          all_goals first | exact CutW.new hb7 hNf | exact CutW.old zz hb7 (by first | exact Nat.le_refl _ | omega) hNf hgl
        case rest =>
          obtain ⟨gH, ah, ch, rfl, rfl, hgH1, hgH2, hBy, u0, u1, u2, hKr⟩ := hcut
          obtain ⟨w15, rfl⟩ : ∃ w15 : World, w15 = wc := ⟨_, rfl⟩
          have hz1415 := hBy.size
          have C15 := Lib.hid (((((C14.out.below hBy (Nat.le_refl _)).cons hgH2 u2).cons hgH2 u1).cons hgH2 u0))
          have K15 := Lib.hid (K14.out.below hBy (by first | exact Nat.le_refl _ | (simp; omega) | omega))
          have M15 := Lib.hid (M14.out.below hBy (by first | exact Nat.le_refl _ | (simp; omega) | omega))
          have B15 := Lib.hid (B14.out.trans (hBy.mono (by omega)))
          have H15 := Lib.hid hKr
          clear hBy hKr u0 u1 u2 A0 A1 A2 D0 D1 D2 C14 R114 R214 K14 M14 B14
          have U0 := C15.out.get 0 rfl
          have U1 := C15.out.get 1 rfl
          have U2 := C15.out.get 2 rfl
          have W0 := C15.out.get 12 rfl
          have W1 := C15.out.get 13 rfl
          have W2 := C15.out.get 14 rfl
          go_wp2_with fail
          refine (eqSeries_row4 L' V' ah aw ch cw ts' hl' _ (H15.out.row (Nat.le_refl _)) (K15.out.row (by omega))).mono ?_
          clear U0 U1 U2 W0 W1 W2
          rintro e w16 ⟨rfl, hb16⟩
          have hz1516 := hb16.size
          have C16 := Lib.hid (C15.out.below hb16 (by first | exact Nat.le_refl _ | (simp; omega) | omega))
          have M16 := Lib.hid (M15.out.below hb16 (by first | exact Nat.le_refl _ | (simp; omega) | omega))
          have B16 := Lib.hid (B15.out.trans (hb16.mono B15.out.size))
          clear hb16 C15 K15 M15 B15 H15
          have G0 := C16.out.get 3 rfl
          have G1 := C16.out.get 4 rfl
          have G2 := C16.out.get 5 rfl
          go_wp2_with fail
          refine (heldSeries_row L' V' (w5.heap.size + 1) w6.heap.size ag _ ts' 1 (by omega) (by omega) _ M16.out).mono ?_
          clear G0 G1 G2
          rintro e w17 ⟨rfl, hb17⟩
          have B17 := Lib.hid (B16.out.trans (hb17.mono B16.out.size))
          clear hb17
          go_wp2
          go_ret
          exact ⟨rfl, B17.out⟩
end Go.Proofs.YtjloadllckllpaaGreatDoor

namespace Go.Proofs.YtjloadllckllpaaGreatDoor
open Go.ChangeShapes Go.WideShapes Go.ChangeAt Go.RowKit

theorem codeL_zero {L1 V1 L2 V2 : Int} {xs ys : List Tm} (h : codeL L1 V1 xs L2 V2 ys = 0) : serB L1 V1 xs = true ∧ serB L2 V2 ys = true ∧ L1 = L2 ∧ V1 = V2 := by
  cases h1 : serB L1 V1 xs with
  | false => rw [codeL_1 h1] at h; cases h
  | true =>
    cases h2 : serB L2 V2 ys with
    | false => rw [codeL_2 h2] at h; cases h
    | true =>
      cases h3 : alikeB L1 V1 L2 V2 with
      | false => rw [codeL_3 h1 h2 h3] at h; cases h
      | true =>
        simp only [alikeB, Bool.and_eq_true, beq_iff_eq] at h3
        exact ⟨rfl, rfl, h3.1, h3.2⟩

theorem main_HalfShuffle (L0 V0 : Int) (a0 : Option Addr) (cap0 : Nat) (ts0 : List Tm) (hl0 : ts0.length ≤ maxLen) (hs0 : ∀ i (h : i < ts0.length), (ts0[i]).s.size ≤ maxLen) (L1 V1 : Int) (a1 : Option Addr) (cap1 : Nat) (ts1 : List Tm) (hl1 : ts1.length ≤ maxLen) (hs1 : ∀ i (h : i < ts1.length), (ts1[i]).s.size ≤ maxLen) (w : World) (hr0 : Row w a0 ts0) (hr1 : Row w a1 ts1) :
    Calls Tryz.prog 4 #[.agg #[.int .i64 L0, .int .i64 V0, .slice a0 ts0.length cap0], .agg #[.int .i64 L1, .int .i64 V1, .slice a1 ts1.length cap1]] w fun e w' => e = .returned (.bool true) ∧ Below w.heap.size w w' := by
  have law := law_HalfShuffle L0 V0 a0 cap0 ts0 hl0 hs0 L1 V1 a1 cap1 ts1 hl1 hs1 w hr0 hr1
  by_cases hbig : ts0.length ≤ 1048576 ∧ ts1.length ≤ 1048576
  · obtain ⟨hb0, hb1⟩ := hbig
    by_cases hc : codeL L0 V0 ts0 L1 V1 ts1 = 0
    · obtain ⟨h1, h2, rfl, rfl⟩ := codeL_zero hc
      have hsh : shapeB L0 V0 = true := by unfold serB at h1; rw [Bool.and_eq_true] at h1; exact h1.1
      have hLV := shape_out hsh
      obtain ⟨D, rfl⟩ : ∃ D : Nat, L0 = D := ⟨L0.toNat, by omega⟩
      obtain ⟨N, rfl⟩ : ∃ N : Nat, V0 = N := ⟨V0.toNat, by omega⟩
      have hfew := allW_few (D := D) (by omega) (n := N) (by omega)
      have sS := fun W g1 g2 q1 q2 p1 p2 t1 t2 => sHf_2 D N g1 g2 ts0 ts1 q1 q2 hs0 hs1 h1 h2 W p1 p2 t1 t2
      have iS := fun W g1 g2 q1 q2 p1 p2 t1 t2 => iHf_2 D N g1 g2 ts0 ts1 q1 q2 hs0 hs1 h1 h2 W p1 p2 t1 t2
      cases hv : hfM D N ts1 ts0 (fun _ => none) with
      | none =>
        have hm : hfsL D N ts0 ts1 = none := by unfold hfsL; rw [hv]; rfl
        rw [hm] at sS iS
        exact law 0 0 3 [] (by simp) sS iS
      | some h =>
        have hm : hfsL D N ts0 ts1 = some (termsOf h (allW D N)) := by unfold hfsL; rw [hv]; rfl
        have hlen := termsOf_few h (allW D N)
        rw [hm] at sS iS
        exact law D N 0 (termsOf h (allW D N)) (by omega) sS iS
    · exact law 0 0 _ [] (by simp) (fun W g1 g2 q1 q2 p1 p2 t1 t2 => sHf_1 L0 V0 L1 V1 g1 g2 ts0 ts1 q1 q2 hs0 hs1 _ rfl hc W p1 p2 t1 t2) (fun W g1 g2 q1 q2 p1 p2 t1 t2 => iHf_1 L0 V0 L1 V1 g1 g2 ts0 ts1 q1 q2 hs0 hs1 _ rfl hc W p1 p2 t1 t2)
  · exact law 0 0 0 [] (by simp) (fun W g1 g2 q1 q2 _ _ _ _ => absurd ⟨q1, q2⟩ hbig) (fun W g1 g2 q1 q2 _ _ _ _ => absurd ⟨q1, q2⟩ hbig)

namespace fnExactHalfShuffle
set_option maxRecDepth 100000 in
theorem lifted (os : Os) (started : os.Started) (H : Type) (enc : TypeId × Value → H) :
    ReturnsInHanded {} Tryz.checked os 4 .any (fun w args => (Rows.fnExactHalfShuffleSpec.pre enc Tryz.prog Tryz.f4 [] false w args ∧ laidMetH Tryz.prog Rows.fnExactHalfShuffleRow.laid w) ∧ sizedMet enc Tryz.prog Tryz.f4 (OpenSpec.ofChange Rows.fnExactHalfShuffleSpec) false w args)
      (Rows.fnExactHalfShuffleSpec.post enc Tryz.prog Tryz.f4 false true false false) := by
  refine returnsInHanded_of_change_and (C := Tryz.checked) (X := fun w _ => laidMetH Tryz.prog Rows.fnExactHalfShuffleRow.laid w) (fun _ _ _ hh h => h.of_heap hh) seatOwn started (by kernel_rfl) Tryz.func4
    (ChangeSpec.witness_shaped (enc := enc) (C := Tryz.checked) (os := os) (X := fun w _ => laidMetH Tryz.prog Rows.fnExactHalfShuffleRow.laid w) false (World.doorLaid Tryz.prog 400 os) #[.agg #[.int .i64 0, .int .i64 0, .slice none 0 0], .agg #[.int .i64 0, .int .i64 0, .slice none 0 0]] 8 rfl (door_shaped os _) (by kernel_rfl) (by kernel_rfl) (by kernel_rfl) (door_met3 os _)) ?_
  intro W base args ds gs before hval0 hW _ _ _ _
  have hval : ∀ (j : Nat) t v, Tryz.f4.params[j]? = some t → args[j]? = some v → Value.okWide Tryz.prog W .any base t v := hval0
  have hW' := hW
  have hlt : ∀ x ∈ before, x.block < W.heap.size := fun x hx => hW.lt x hx
  obtain ⟨p, q, hA0, hV, rfl, _, _⟩ := hW
  have hA : DataW.TrodAll enc Tryz.prog W 0 (fun _ => true) true Tryz.f4.params.toList args.toList ds p := hA0
  rw [Tryz.params4] at hA hval
  obtain ⟨v0, vs0, d00, ds0, p0, q0, hargs, rfl, rfl, h0, r0⟩ := trodAll_cons hA
  obtain ⟨v1, vs1, d10, ds1, p1, q1, rfl, rfl, rfl, h1, r1⟩ := trodAll_cons r0
  obtain ⟨rfl, rfl, rfl⟩ := trodAll_nil r1
  obtain rfl : args = #[v0, v1] := by cases args; simp_all
  obtain ⟨rfl, rfl⟩ := trodVars_none hV
  have h0k := h0
  obtain ⟨L0, V0, a0, cap0, ts0, rfl, hl0, hs0, hr0⟩ := open_series (hval 0 24 v0 rfl rfl) h0
  have h1k := h1
  obtain ⟨L1, V1, a1, cap1, ts1, rfl, hl1, hs1, hr1⟩ := open_series (hval 1 24 v1 rfl rfl) h1
  clear hA0 hval0
  simp only [List.append_nil] at hW' hlt
  refine (main_HalfShuffle L0 V0 a0 cap0 ts0 hl0 hs0 L1 V1 a1 cap1 ts1 hl1 hs1 W hr0 hr1).mono fun e W' ⟨he, hg⟩ => ?_
  subst he
  have hk0 := Below.trod seatLaid (by kernel_rfl) (of_decide_eq_true (by kernel_rfl)) h0k hg (fun x hx => hlt x (by simp [hx]))
  have hk1 := Below.trod seatLaid (by kernel_rfl) (of_decide_eq_true (by kernel_rfl)) h1k hg (fun x hx => hlt x (by simp [hx]))
  exact ⟨_, rfl, shut_reads (pa := p0 ++ p1) hW' (fun _ _ _ => (trodAll_cons_mk (shut_bool Tryz.underlying4 _) trodAll_mk0)) (by have h := (trodAll_cons_mk hk0 (trodAll_cons_mk hk1 trodAll_mk0)); simp only [List.append_nil] at h; exact h) (fun _ => rfl) hg⟩
end fnExactHalfShuffle
end Go.Proofs.YtjloadllckllpaaGreatDoor
