/-
  'FnExactPutTerm' returns true at every input for which the two functions' contracts stand: the program's PutTerm and its model's return the same series and code, in memory of its own, and the arguments read as before.
-/
import Derived.Test.YtbhbcjaaomdlaaaCutW
namespace Go.Proofs.Ytbhbcjaaomdlaaa
open Go.RowKit

set_option maxRecDepth 100000 in
set_option maxHeartbeats 40000000 in
theorem law_PutTerm (L V : Int) (a : Option Addr) (cap : Nat) (ts : List Tm) (hl : ts.length ≤ maxLen) (hs : ∀ i (h : i < ts.length), (ts[i]).s.size ≤ maxLen) (s0 : ByteArray) (_hz0 : s0.size ≤ maxLen) (fn fd : Int) (w : World) (hr : Row w a ts)
    (L' V' c' : Int) (ts' : List Tm) (hl' : ts'.length ≤ 4194304)
    (hS : ∀ (W : World) (g : Nat), ts.length ≤ 1048576 → g < W.heap.size → TermsIn W g 0 ts → Calls Try.prog 16 #[.agg #[.int .i64 L, .int .i64 V, .slice (some ⟨g, 0, none⟩) ts.length ts.length], .string s0, .agg #[.int .i64 fn, .int .i64 fd]] W (SerPost L' V' ts' c' W))
    (hI : ∀ (W : World) (g : Nat), ts.length ≤ 1048576 → g < W.heap.size → TermsIn W g 0 ts → Calls Try.prog 17 #[.agg #[.int .i64 L, .int .i64 V, .slice (some ⟨g, 0, none⟩) ts.length ts.length], .string s0, .agg #[.int .i64 fn, .int .i64 fd]] W (SerPost L' V' ts' c' W)) :
    Calls Try.prog 5 #[.agg #[.int .i64 L, .int .i64 V, .slice a ts.length cap], .string s0, .agg #[.int .i64 fn, .int .i64 fd]] w fun e w' => e = .returned (.bool true) ∧ Below w.heap.size w w' := by
  have HR := Lib.hid hr
  have HS := Lib.hid hs
  have HSp := Lib.hid hS
  have HIm := Lib.hid hI
  clear hr hs hS hI
  have hX := ((Cs.nil w).box3 (.int .i64 L) (.int .i64 V) (.slice a ts.length cap) 24).box2 (.int .i64 fn) (.int .i64 fd) 36
  simp only [World.size_alloc] at hX
  have C0 := Lib.hid hX
  clear hX
  by_cases hbig0 : (1048576 : Int) < (s0.size : Int)
  · go_enter Try.func5, Try.ntmps5
    go_wp2
    go_ret
    exact ⟨rfl, below2 _ _ _⟩
  go_enter Try.func5, Try.ntmps5
  go_wp2_with fail
  refine (szSeries_c L V a ts.length cap 1048576 _ (szTermS_row a cap ts hl HS.out 1048576 (by omega) _ ?_)).mono ?_
  · exact ((HR.out.below (below1 w _)).below (below1 _ _)).below (below1 _ _)
  rintro e w2 ⟨he, hb2⟩
  have hz02 : w.heap.size + 1 < w2.heap.size := by have := hb2.size; simp at this; omega
  have hz02' : w.heap.size < w2.heap.size := by omega
  have C2 := Lib.hid (C0.out.below hb2 (Nat.le_refl _))
  have R2 := Lib.hid ((RowB.of_row HR.out).below ((below2 w _ _).trans (hb2.mono (by simp; omega))) (Nat.le_refl _))
  have B2 := Lib.hid ((below2 w _ _).trans (hb2.mono (by simp; omega)))
  clear hb2 C0
  rcases he with rfl | ⟨r1, hr10, hr11, hfit1, rfl⟩
  · go_wp2
    go_ret
    exact ⟨rfl, B2.out⟩
  have hlb : ts.length ≤ 1048576 := by omega
  have D0 := C2.out.get 0 rfl
  have D1 := C2.out.get 1 rfl
  have A0 := C2.out.get 2 rfl
  have A1 := C2.out.get 3 rfl
  have A2 := C2.out.get 4 rfl
  go_upto_region 7 with fail
  go_cut [8, 9] (CutW w2 L' V' c' ts')
  case first =>
    go_region_held3 (fun w' => w'.cell? ⟨w.heap.size, 0, none⟩ = some (.int .i64 L) ∧ w'.cell? ⟨w.heap.size, 1, none⟩ = some (.int .i64 V) ∧ w'.cell? ⟨w.heap.size, 2, none⟩ = some (.slice a ts.length cap) ∧ w'.cell? ⟨w.heap.size + 1, 0, none⟩ = some (.int .i64 fn) ∧ w'.cell? ⟨w.heap.size + 1, 1, none⟩ = some (.int .i64 fd)) (first | exact ⟨A0, A1, A2, D0, D1⟩ | (exact ⟨(hb7.cell (p := ⟨w.heap.size, 0, none⟩) (by first | assumption | omega)).trans A0, (hb7.cell (p := ⟨w.heap.size, 1, none⟩) (by first | assumption | omega)).trans A1, (hb7.cell (p := ⟨w.heap.size, 2, none⟩) (by first | assumption | omega)).trans A2, (hb7.cell (p := ⟨w.heap.size + 1, 0, none⟩) (by first | assumption | omega)).trans D0, (hb7.cell (p := ⟨w.heap.size + 1, 1, none⟩) (by first | assumption | omega)).trans D1⟩) | (exact ⟨((hb7.alloc hb7.size _).cell (p := ⟨w.heap.size, 0, none⟩) (by first | assumption | omega)).trans A0, ((hb7.alloc hb7.size _).cell (p := ⟨w.heap.size, 1, none⟩) (by first | assumption | omega)).trans A1, ((hb7.alloc hb7.size _).cell (p := ⟨w.heap.size, 2, none⟩) (by first | assumption | omega)).trans A2, ((hb7.alloc hb7.size _).cell (p := ⟨w.heap.size + 1, 0, none⟩) (by first | assumption | omega)).trans D0, ((hb7.alloc hb7.size _).cell (p := ⟨w.heap.size + 1, 1, none⟩) (by first | assumption | omega)).trans D1⟩) | (exact ⟨(far_three' (by omega)).trans ((hb7.cell (p := ⟨w.heap.size, 0, none⟩) (by first | assumption | omega)).trans A0), (far_three' (by omega)).trans ((hb7.cell (p := ⟨w.heap.size, 1, none⟩) (by first | assumption | omega)).trans A1), (far_three' (by omega)).trans ((hb7.cell (p := ⟨w.heap.size, 2, none⟩) (by first | assumption | omega)).trans A2), (far_three' (by omega)).trans ((hb7.cell (p := ⟨w.heap.size + 1, 0, none⟩) (by first | assumption | omega)).trans D0), (far_three' (by omega)).trans ((hb7.cell (p := ⟨w.heap.size + 1, 1, none⟩) (by first | assumption | omega)).trans D1)⟩) | go_keep)
      (first
        | (go_at_call 8; have hR : Row w2.drew a ts := R2.out.row (by omega); ((with_reducible refine (toSeries_r L V a cap ts hlb w2.drew hR).mono ?_)); rintro e u0 ⟨gx, rfl, hb0, hgx, hMx, hT_gx⟩; have hq_gx : gx < u0.heap.size := hMx.1; have hb0 := below_drew hb0; (try have zz := zz.below hb0 (by first | exact zz.1 | (simp; exact Nat.lt_succ_of_lt zz.1))); have hb7 : Below w2.heap.size w2 u0 := hb0)
        | (go_at_call 8; have hR : Row (w2.alloc (.cells #[.int .i64 0, .int .i64 0, .slice none 0 0] 28)).drew a ts := (R2.out.below (below1 w2 (.cells #[.int .i64 0, .int .i64 0, .slice none 0 0] 28)) (by omega)).row (by simp; omega); ((with_reducible refine (toSeries_r L V a cap ts hlb (w2.alloc (.cells #[.int .i64 0, .int .i64 0, .slice none 0 0] 28)).drew hR).mono ?_)); rintro e u0 ⟨gx, rfl, hb0, hgx, hMx, hT_gx⟩; have hq_gx : gx < u0.heap.size := hMx.1; have hb0 := below_drew hb0; have zz : Z3 u0 w2.heap.size := (Z3.new w2 28).below hb0 (by simp); have hb7 : Below w2.heap.size w2 u0 := (below1 w2 (.cells #[.int .i64 0, .int .i64 0, .slice none 0 0] 28)).trans (hb0.mono (by simp)))
        | (go_at_call 14; ((with_reducible refine (toFraction_g fn fd u0).mono ?_)); rintro e u1 ⟨rfl, hb0, hl0⟩; (try have zz := zz.below hb0 (by first | exact zz.1 | (simp; exact Nat.lt_succ_of_lt zz.1))); have hT_gx := hT_gx.below hb0 hq_gx; have hq_gx : gx < u1.heap.size := (by have h1 := hq_gx; have h2 := hb0.size; omega); have hzz : w2.heap.size ≤ u0.heap.size := hb7.size; have hb7 : Below w2.heap.size w2 u1 := hb7.trans (hb0.mono hb7.size))
        | (go_at_call 14; ((with_reducible refine (toFraction_g fn fd (u0.alloc (.cells #[.int .i64 0, .int .i64 0, .slice none 0 0] 28))).mono ?_)); rintro e u1 ⟨rfl, hb0, hl0⟩; have zz : Z3 u1 u0.heap.size := (Z3.new u0 28).below hb0 (by simp); have hT_gx := (hT_gx.below (below1 u0 (.cells #[.int .i64 0, .int .i64 0, .slice none 0 0] 28)) hq_gx).below hb0 (by simp; exact Nat.lt_succ_of_lt hq_gx); have hq_gx : gx < u1.heap.size := (by have h1 := hq_gx; have h2 := hb0.size; simp at h2; omega); have hzz : w2.heap.size ≤ u0.heap.size := hb7.size; have hb7 : Below w2.heap.size w2 u1 := (hb7.alloc hb7.size (.cells #[.int .i64 0, .int .i64 0, .slice none 0 0] 28)).trans (hb0.mono (by have := hb7.size; simp; omega)))
        | (go_at_call 16; (try have hgl := zz.1); ((with_reducible refine (HSp.out u1 gx hlb hq_gx hT_gx).mono ?_)); rintro e wf ⟨aw, cw, rfl, hb0, hNf⟩; (try have zz := zz.below hb0 (by first | exact zz.1 | (simp; exact Nat.lt_succ_of_lt zz.1))); have hb7' := hb7.size; have hb7 : Below w2.heap.size w2 wf := hb7.trans (hb0.mono hb7.size); (try (have q1 := zz.2.1; have q2 := zz.2.2.1; have q3 := zz.2.2.2.1; have q4 := zz.2.2.2.2.1; have q5 := zz.2.2.2.2.2.1; have q6 := zz.2.2.2.2.2.2)))
        | (go_at_call 16; have hgl : u1.heap.size < (u1.alloc (.cells #[.int .i64 0, .int .i64 0, .slice none 0 0] 28)).heap.size := (by simp); have hqa : gx < (u1.alloc (.cells #[.int .i64 0, .int .i64 0, .slice none 0 0] 28)).heap.size := (by simp; omega); have hTa : TermsIn (u1.alloc (.cells #[.int .i64 0, .int .i64 0, .slice none 0 0] 28)) gx 0 ts := hT_gx.below (below1 u1 (.cells #[.int .i64 0, .int .i64 0, .slice none 0 0] 28)) hq_gx; ((with_reducible refine (HSp.out (u1.alloc (.cells #[.int .i64 0, .int .i64 0, .slice none 0 0] 28)) gx hlb hqa hTa).mono ?_)); rintro e wf ⟨aw, cw, rfl, hb0, hNf⟩; have zz : Z3 wf u1.heap.size := (Z3.new u1 28).below hb0 (by simp); have hb7' := hb7.size; have hb7 : Below w2.heap.size w2 wf := (hb7.alloc hb7.size (.cells #[.int .i64 0, .int .i64 0, .slice none 0 0] 28)).trans (hb0.mono (by have := hb7.size; simp; omega)); (try (have q1 := zz.2.1; have q2 := zz.2.2.1; have q3 := zz.2.2.2.1; have q4 := zz.2.2.2.2.1; have q5 := zz.2.2.2.2.2.1; have q6 := zz.2.2.2.2.2.2)))
        | fail)
    all_goals (go_wp2_with fail; go_meet)
    all_goals first | exact CutW.new hb7 hNf | exact CutW.old zz hb7 (by first | exact Nat.le_refl _ | omega) hNf hgl
  case rest =>
    obtain ⟨gW, aw, cw, rfl, rfl, hlgW, hugW, hBy, u0, u1, u2, hKr⟩ := hcut
    obtain ⟨w3, rfl⟩ : ∃ w3 : World, w3 = wc := ⟨_, rfl⟩
    have hz23 := hBy.size
    have C3 := Lib.hid (((((C2.out.below hBy (Nat.le_refl _)).cons hugW u2).cons hugW u1).cons hugW u0))
    have R3 := Lib.hid (R2.out.below hBy (by first | exact Nat.le_refl _ | (simp; omega) | omega))
    have B3 := Lib.hid (B2.out.trans (hBy.mono (by omega)))
    have K3 := Lib.hid hKr
    have hz03 : w.heap.size + 1 < w3.heap.size := by omega
    have hz03' : w.heap.size < w3.heap.size := by omega
    clear hBy hKr u0 u1 u2 A0 A1 A2 D0 D1 C2 R2 B2
    have A0 := C3.out.get 5 rfl
    have A1 := C3.out.get 6 rfl
    have A2 := C3.out.get 7 rfl
    go_wp2_with fail
    refine (toSeries_c L V a cap ts hlb _ (R3.out.row (by omega))).mono ?_
    clear A0 A1 A2
    rintro e w4 ⟨g4, rfl, hb4, hg4, hM4, hT4⟩
    have hz34 := hb4.size
    have C4 := Lib.hid (C3.out.below hb4 (by first | exact Nat.le_refl _ | (simp; omega) | omega))
    have R4 := Lib.hid (R3.out.below hb4 (by first | exact Nat.le_refl _ | (simp; omega) | omega))
    have K4 := Lib.hid (K3.out.below hb4 (by first | exact Nat.le_refl _ | (simp; omega) | omega))
    have B4 := Lib.hid (B3.out.trans (hb4.mono (by omega)))
    have P4 := Lib.hid (NewRow.of_to (lo := w3.heap.size) hg4 hM4 hT4)
    have HT4 := Lib.hid hT4
    have hgl4 := hM4.1
    clear hb4 hg4 hM4 hT4 C3 R3 K3 B3
    go_upto_region 9 with fail
    obtain ⟨w5, hw5⟩ : ∃ w5 : World, w5 = w4.alloc (.cells #[.int .i64 L, .int .i64 V, .slice (some ⟨g4, 0, none⟩) ts.length ts.length] 28) := ⟨_, rfl⟩
    rw [← hw5]
    have hz45 : w5.heap.size = w4.heap.size + 1 := by rw [hw5]; simp
    have hbx : Below w4.heap.size w4 w5 := by rw [hw5]; exact below1 _ _
    have C5 := Lib.hid (show Cs w5 _ from by rw [hw5]; exact C4.out.box3 (.int .i64 L) (.int .i64 V) (.slice (some ⟨g4, 0, none⟩) ts.length ts.length) 28)
    have R5 := Lib.hid (R4.out.below hbx (by first | exact Nat.le_refl _ | (simp; omega) | omega))
    have K5 := Lib.hid (K4.out.below hbx (by first | exact Nat.le_refl _ | (simp; omega) | omega))
    have P5 := Lib.hid (P4.out.below hbx (by first | exact Nat.le_refl _ | (simp; omega) | omega))
    have HT5 := Lib.hid (HT4.out.below hbx hgl4)
    have hgl5 : g4 < w5.heap.size := by omega
    have B5 := Lib.hid (B4.out.trans (hbx.mono B4.out.size))
    have hz05 : w.heap.size + 1 < w5.heap.size := by omega
    have hz05' : w.heap.size < w5.heap.size := by omega
    have hz05x : w4.heap.size < w5.heap.size := by omega
    clear hz45 hw5 hbx C4 R4 K4 P4 B4 HT4
    have X0 := C5.out.get 0 rfl
    have X1 := C5.out.get 1 rfl
    have X2 := C5.out.get 2 rfl
    have D0 := C5.out.get 6 rfl
    have D1 := C5.out.get 7 rfl
    go_cut [11, 12] (CutN w5 L' V' c' ts')
    case first =>
      have hT_g4 := HT5.out
      have hq_g4 : g4 < w5.heap.size := hgl5
      go_region_held3 (fun w' => w'.cell? ⟨w4.heap.size, 0, none⟩ = some (.int .i64 L) ∧ w'.cell? ⟨w4.heap.size, 1, none⟩ = some (.int .i64 V) ∧ w'.cell? ⟨w4.heap.size, 2, none⟩ = some (.slice (some ⟨g4, 0, none⟩) ts.length ts.length) ∧ w'.cell? ⟨w.heap.size + 1, 0, none⟩ = some (.int .i64 fn) ∧ w'.cell? ⟨w.heap.size + 1, 1, none⟩ = some (.int .i64 fd)) (first | exact ⟨X0, X1, X2, D0, D1⟩ | (exact ⟨(hb7.cell (p := ⟨w4.heap.size, 0, none⟩) (by first | assumption | omega)).trans X0, (hb7.cell (p := ⟨w4.heap.size, 1, none⟩) (by first | assumption | omega)).trans X1, (hb7.cell (p := ⟨w4.heap.size, 2, none⟩) (by first | assumption | omega)).trans X2, (hb7.cell (p := ⟨w.heap.size + 1, 0, none⟩) (by first | assumption | omega)).trans D0, (hb7.cell (p := ⟨w.heap.size + 1, 1, none⟩) (by first | assumption | omega)).trans D1⟩) | (exact ⟨((hb7.alloc hb7.size _).cell (p := ⟨w4.heap.size, 0, none⟩) (by first | assumption | omega)).trans X0, ((hb7.alloc hb7.size _).cell (p := ⟨w4.heap.size, 1, none⟩) (by first | assumption | omega)).trans X1, ((hb7.alloc hb7.size _).cell (p := ⟨w4.heap.size, 2, none⟩) (by first | assumption | omega)).trans X2, ((hb7.alloc hb7.size _).cell (p := ⟨w.heap.size + 1, 0, none⟩) (by first | assumption | omega)).trans D0, ((hb7.alloc hb7.size _).cell (p := ⟨w.heap.size + 1, 1, none⟩) (by first | assumption | omega)).trans D1⟩) | (exact ⟨(far_three' (by omega)).trans ((hb7.cell (p := ⟨w4.heap.size, 0, none⟩) (by first | assumption | omega)).trans X0), (far_three' (by omega)).trans ((hb7.cell (p := ⟨w4.heap.size, 1, none⟩) (by first | assumption | omega)).trans X1), (far_three' (by omega)).trans ((hb7.cell (p := ⟨w4.heap.size, 2, none⟩) (by first | assumption | omega)).trans X2), (far_three' (by omega)).trans ((hb7.cell (p := ⟨w.heap.size + 1, 0, none⟩) (by first | assumption | omega)).trans D0), (far_three' (by omega)).trans ((hb7.cell (p := ⟨w.heap.size + 1, 1, none⟩) (by first | assumption | omega)).trans D1)⟩) | go_keep)
        (first
          | (go_at_call 14; ((with_reducible refine (toFraction_g fn fd w5.drew).mono ?_)); rintro e u0 ⟨rfl, hb0, hl0⟩; have hb0 := below_drew hb0; (try have zz := zz.below hb0 (by first | exact zz.1 | (simp; exact Nat.lt_succ_of_lt zz.1))); have hT_g4 := hT_g4.below hb0 hq_g4; have hq_g4 : g4 < u0.heap.size := (by have h1 := hq_g4; have h2 : w5.heap.size ≤ u0.heap.size := (by have := hb0.size; first | exact this | omega); omega); have hb7 : Below w5.heap.size w5 u0 := hb0)
          | (go_at_call 14; ((with_reducible refine (toFraction_g fn fd (w5.alloc (.cells #[.int .i64 0, .int .i64 0, .slice none 0 0] 28)).drew).mono ?_)); rintro e u0 ⟨rfl, hb0, hl0⟩; have hb0 := below_drew hb0; have zz : Z3 u0 w5.heap.size := (Z3.new w5 28).below hb0 (by simp); have hT_g4 := (hT_g4.below (below1 w5 (.cells #[.int .i64 0, .int .i64 0, .slice none 0 0] 28)) hq_g4).below hb0 (by simp; exact Nat.lt_succ_of_lt hq_g4); have hq_g4 : g4 < u0.heap.size := (by have h1 := hq_g4; have h2 : w5.heap.size ≤ u0.heap.size := (by have := hb0.size; simp at this; first | exact this | omega); omega); have hb7 : Below w5.heap.size w5 u0 := (below1 w5 (.cells #[.int .i64 0, .int .i64 0, .slice none 0 0] 28)).trans (hb0.mono (by simp)))
          | (go_at_call 17; (try have hgl := zz.1); ((with_reducible refine (HIm.out u0 g4 hlb hq_g4 hT_g4).mono ?_)); rintro e wf ⟨aw, cw, rfl, hb0, hNf⟩; (try have zz := zz.below hb0 (by first | exact zz.1 | (simp; exact Nat.lt_succ_of_lt zz.1))); have hb7' := hb7.size; have hb7 : Below w5.heap.size w5 wf := hb7.trans (hb0.mono hb7.size); (try (have q1 := zz.2.1; have q2 := zz.2.2.1; have q3 := zz.2.2.2.1; have q4 := zz.2.2.2.2.1; have q5 := zz.2.2.2.2.2.1; have q6 := zz.2.2.2.2.2.2)))
          | (go_at_call 17; have hgl : u0.heap.size < (u0.alloc (.cells #[.int .i64 0, .int .i64 0, .slice none 0 0] 28)).heap.size := (by simp); have hqa : g4 < (u0.alloc (.cells #[.int .i64 0, .int .i64 0, .slice none 0 0] 28)).heap.size := (by simp; omega); have hTa : TermsIn (u0.alloc (.cells #[.int .i64 0, .int .i64 0, .slice none 0 0] 28)) g4 0 ts := hT_g4.below (below1 u0 (.cells #[.int .i64 0, .int .i64 0, .slice none 0 0] 28)) hq_g4; ((with_reducible refine (HIm.out (u0.alloc (.cells #[.int .i64 0, .int .i64 0, .slice none 0 0] 28)) g4 hlb hqa hTa).mono ?_)); rintro e wf ⟨aw, cw, rfl, hb0, hNf⟩; have zz : Z3 wf u0.heap.size := (Z3.new u0 28).below hb0 (by simp); have hb7' := hb7.size; have hb7 : Below w5.heap.size w5 wf := (hb7.alloc hb7.size (.cells #[.int .i64 0, .int .i64 0, .slice none 0 0] 28)).trans (hb0.mono (by have := hb7.size; simp; omega)); (try (have q1 := zz.2.1; have q2 := zz.2.2.1; have q3 := zz.2.2.2.1; have q4 := zz.2.2.2.2.1; have q5 := zz.2.2.2.2.2.1; have q6 := zz.2.2.2.2.2.2)))
          | fail)
      all_goals (go_wp2_with fail; go_meet)
      all_goals first | exact CutN.new hb7 hNf (by first | exact hb7' | (simp; omega) | omega) | exact CutN.old zz hb7 (by first | exact Nat.le_refl _ | omega) hNf hgl
    case rest =>
      obtain ⟨gG, ag, cg, lo, hi, rfl, rfl, hlgG, hugG, hBy, u0, u1, u2, hlo, hhi, hap, hKr⟩ := hcut
      obtain ⟨w6, rfl⟩ : ∃ w6 : World, w6 = wc := ⟨_, rfl⟩
      have hz56 := hBy.size
      have C6 := Lib.hid (((((C5.out.below hBy (Nat.le_refl _)).cons hugG u2).cons hugG u1).cons hugG u0))
      have R6 := Lib.hid (R5.out.below hBy (by first | exact Nat.le_refl _ | (simp; omega) | omega))
      have K6 := Lib.hid (K5.out.below hBy (by first | exact Nat.le_refl _ | (simp; omega) | omega))
      have P6 := Lib.hid (P5.out.below hBy (by first | exact Nat.le_refl _ | (simp; omega) | omega))
      have B6 := Lib.hid (B5.out.trans (hBy.mono (by omega)))
      have G6 := Lib.hid hKr
      clear hBy hKr u0 u1 u2 X0 X1 X2 D0 D1 C5 R5 K5 P5 B5 HT5
      have G0 := C6.out.get 0 rfl
      have G1 := C6.out.get 1 rfl
      have G2 := C6.out.get 2 rfl
      have W0 := C6.out.get 6 rfl
      have W1 := C6.out.get 7 rfl
      have W2 := C6.out.get 8 rfl
      have hz06 : w.heap.size < w6.heap.size := by omega
      go_wp2_with fail
      refine (eqSeries_row4 L' V' ag aw cg cw ts' hl' _ G6.out.row (K6.out.row (by omega))).mono ?_
      clear G0 G1 G2 W0 W1 W2
      rintro e w7 ⟨rfl, hb7⟩
      have hz67 := hb7.size
      have C7 := Lib.hid (C6.out.below hb7 (by first | exact Nat.le_refl _ | (simp; omega) | omega))
      have R7 := Lib.hid (R6.out.below hb7 (by first | exact Nat.le_refl _ | (simp; omega) | omega))
      have K7 := Lib.hid (K6.out.below hb7 (by first | exact Nat.le_refl _ | (simp; omega) | omega))
      have P7 := Lib.hid (P6.out.below hb7 (by first | exact Nat.le_refl _ | (simp; omega) | omega))
      have G7 := Lib.hid (G6.out.below hb7 (by first | exact Nat.le_refl _ | (simp; omega) | omega))
      have B7 := Lib.hid (B6.out.trans (hb7.mono B6.out.size))
      clear hb7 C6 R6 K6 P6 G6 B6
      have A0 := C7.out.get 11 rfl
      have A1 := C7.out.get 12 rfl
      have A2 := C7.out.get 13 rfl
      have X0 := C7.out.get 3 rfl
      have X1 := C7.out.get 4 rfl
      have X2 := C7.out.get 5 rfl
      have hza1 : w.heap.size < w7.heap.size := by omega
      have hza2 : w4.heap.size < w7.heap.size := by omega
      go_upto_region 12 with fail
      go_cut [58] (fun sc wy => sc = .bool false ∧ Below w7.heap.size w7 wy)
      case first =>
        go_region_held3 (fun w' => w'.cell? ⟨w.heap.size, 0, none⟩ = some (.int .i64 L) ∧ w'.cell? ⟨w.heap.size, 1, none⟩ = some (.int .i64 V) ∧ w'.cell? ⟨w.heap.size, 2, none⟩ = some (.slice a ts.length cap) ∧ w'.cell? ⟨w4.heap.size, 0, none⟩ = some (.int .i64 L) ∧ w'.cell? ⟨w4.heap.size, 1, none⟩ = some (.int .i64 V) ∧ w'.cell? ⟨w4.heap.size, 2, none⟩ = some (.slice (some ⟨g4, 0, none⟩) ts.length ts.length)) (first | (refine held33 hbq ?_ ?_ ⟨A0, A1, A2, X0, X1, X2⟩ <;> assumption) | go_keep)
          (first
            | (go_at_call 8; refine (toSeries_c L V a cap ts hlb _ ?_).mono ?_; (exact R7.out.row (by omega)); rintro e wq ⟨gq, rfl, hb0, hgq, hMq, hTq⟩; have hbq : Below w7.heap.size w7 wq := ⟨hb0.os, hb0.tape, hb0.output, hb0.size, hb0.block⟩)
            | (go_at_call 10; refine (eqSeries_row L V (some ⟨g4, 0, none⟩) (some ⟨gq, 0, none⟩) _ _ ts hlb _ ?_ ?_).mono ?_; (exact (P7.out.below hbq (by omega)).row); (exact .inr ⟨gq, 0, rfl, hMq.1, hTq⟩); rintro e wp ⟨rfl, hbp⟩; have hbq : Below w7.heap.size w7 wp := hbq.trans (hbp.mono hbq.size)))
        all_goals (go_wp2_with fail; go_meet)
        all_goals exact ⟨rfl, hbq⟩
      case rest =>
        obtain ⟨rfl, hBy⟩ := hcut
        obtain ⟨w8, rfl⟩ : ∃ w8 : World, w8 = wc := ⟨_, rfl⟩
        have hz78 := hBy.size
        have C8 := Lib.hid (C7.out.below hBy (by first | exact Nat.le_refl _ | (simp; omega) | omega))
        have R8 := Lib.hid (R7.out.below hBy (by first | exact Nat.le_refl _ | (simp; omega) | omega))
        have K8 := Lib.hid (K7.out.below hBy (by first | exact Nat.le_refl _ | (simp; omega) | omega))
        have P8 := Lib.hid (P7.out.below hBy (by first | exact Nat.le_refl _ | (simp; omega) | omega))
        have G8 := Lib.hid (G7.out.below hBy (by first | exact Nat.le_refl _ | (simp; omega) | omega))
        have B8 := Lib.hid (B7.out.trans (hBy.mono B7.out.size))
        clear hBy A0 A1 A2 X0 X1 X2 hza1 hza2 C7 R7 K7 P7 G7 B7
        have X0 := C8.out.get 3 rfl
        have X1 := C8.out.get 4 rfl
        have X2 := C8.out.get 5 rfl
        go_wp2_with fail
        refine (markSeries_row L V w3.heap.size w4.heap.size (some ⟨g4, 0, none⟩) _ ts 1 (by omega) (by omega) _ P8.out).mono ?_
        clear X0 X1 X2
        rintro e w9 ⟨r9, rfl, hG9, hr9, hN9⟩
        have hz89 := hG9.size
        have C9 := Lib.hid (C8.out.grown hG9 (by
          intro p hp h
          have := hr9 p.1 h.symm
          simp only [List.mem_cons, List.not_mem_nil, or_false] at hp
          rcases hp with rfl | rfl | rfl | rfl | rfl | rfl | rfl | rfl | rfl | rfl | rfl | rfl | rfl | rfl <;> simp only at this <;> omega))
        have R9 := Lib.hid (R8.out.grown hG9 (by omega) (fun g h => by have := hr9 g h; omega))
        have K9 := Lib.hid (K8.out.grown hG9 (by omega) (fun g h => by have := hr9 g h; omega))
        have G9 := Lib.hid (G8.out.grown hG9 (fun g h => by have := hr9 g h; omega))
        have B9 := Lib.hid (B8.out.trans (below_of_grown hG9 (fun g h => by have := hr9 g h; omega) (by omega)))
        clear hG9 hr9 hN9 C8 R8 K8 P8 G8 B8
        have G0 := C9.out.get 0 rfl
        have G1 := C9.out.get 1 rfl
        have G2 := C9.out.get 2 rfl
        have W0 := C9.out.get 6 rfl
        have W1 := C9.out.get 7 rfl
        have W2 := C9.out.get 8 rfl
        have hk9 : (0 : Int) ≤ 1 + 3 * (ts.length : Int) := by omega
        go_wp2_with fail
        refine (eqSeries_row4 L' V' ag aw cg cw ts' hl' _ G9.out.row (K9.out.row (by omega))).mono ?_
        clear G0 G1 G2 W0 W1 W2
        rintro e w10 ⟨rfl, hb10⟩
        have hz910 := hb10.size
        have C10 := Lib.hid (C9.out.below hb10 (by first | exact Nat.le_refl _ | (simp; omega) | omega))
        have R10 := Lib.hid (R9.out.below hb10 (by first | exact Nat.le_refl _ | (simp; omega) | omega))
        have K10 := Lib.hid (K9.out.below hb10 (by first | exact Nat.le_refl _ | (simp; omega) | omega))
        have G10 := Lib.hid (G9.out.below hb10 (by first | exact Nat.le_refl _ | (simp; omega) | omega))
        have B10 := Lib.hid (B9.out.trans (hb10.mono B9.out.size))
        clear hb10 C9 R9 K9 G9 B9
        have G0 := C10.out.get 0 rfl
        have G1 := C10.out.get 1 rfl
        have G2 := C10.out.get 2 rfl
        go_wp2_with fail
        refine (markSeries_row L' V' lo hi ag _ ts' 1 (by omega) (by omega) _ G10.out).mono ?_
        clear G0 G1 G2
        rintro e w11 ⟨r11, rfl, hG11, hr11, hN11⟩
        have hz1011 := hG11.size
        have C11 := Lib.hid (C10.out.grown hG11 (by
          intro p hp h
          have := hr11 p.1 h.symm
          simp only [List.mem_cons, List.not_mem_nil, or_false] at hp
          rcases hp with rfl | rfl | rfl | rfl | rfl | rfl | rfl | rfl | rfl | rfl | rfl | rfl | rfl | rfl <;> simp only at this <;> omega))
        have R11 := Lib.hid (R10.out.grown hG11 (by omega) (fun g h => by have := hr11 g h; omega))
        have K11 := Lib.hid (K10.out.grown hG11 (by omega) (fun g h => by have := hr11 g h; omega))
        have B11 := Lib.hid (B10.out.trans (below_of_grown hG11 (fun g h => by have := hr11 g h; omega) (by omega)))
        have M11 := Lib.hid hN11
        clear hG11 hr11 hN11 C10 R10 K10 G10 B10
        have G0 := C11.out.get 0 rfl
        have G1 := C11.out.get 1 rfl
        have G2 := C11.out.get 2 rfl
        have hk11 : (0 : Int) ≤ 1 + 3 * (ts'.length : Int) := by omega
        go_wp2_with fail
        refine (heldSeries_row L' V' lo hi ag _ ts' 1 (by omega) (by omega) _ M11.out).mono ?_
        clear G0 G1 G2
        rintro e w12 ⟨rfl, hb12⟩
        have hz1112 := hb12.size
        have C12 := Lib.hid (C11.out.below hb12 (by first | exact Nat.le_refl _ | (simp; omega) | omega))
        have R12 := Lib.hid (R11.out.below hb12 (by first | exact Nat.le_refl _ | (simp; omega) | omega))
        have K12 := Lib.hid (K11.out.below hb12 (by first | exact Nat.le_refl _ | (simp; omega) | omega))
        have M12 := Lib.hid (M11.out.below hb12 (by first | exact Nat.le_refl _ | (simp; omega) | omega))
        have B12 := Lib.hid (B11.out.trans (hb12.mono B11.out.size))
        clear hb12 C11 R11 K11 M11 B11
        have A0 := C12.out.get 11 rfl
        have A1 := C12.out.get 12 rfl
        have A2 := C12.out.get 13 rfl
        have D0 := C12.out.get 9 rfl
        have D1 := C12.out.get 10 rfl
        have hz012 : w.heap.size + 1 < w12.heap.size := by omega
        have hz012' : w.heap.size < w12.heap.size := by omega
        go_upto_region 26 with fail
        go_cut [16, 17] (CutW w12 L' V' c' ts')
        case first =>
          go_region_held3 (fun w' => w'.cell? ⟨w.heap.size, 0, none⟩ = some (.int .i64 L) ∧ w'.cell? ⟨w.heap.size, 1, none⟩ = some (.int .i64 V) ∧ w'.cell? ⟨w.heap.size, 2, none⟩ = some (.slice a ts.length cap) ∧ w'.cell? ⟨w.heap.size + 1, 0, none⟩ = some (.int .i64 fn) ∧ w'.cell? ⟨w.heap.size + 1, 1, none⟩ = some (.int .i64 fd)) (first | exact ⟨A0, A1, A2, D0, D1⟩ | (exact ⟨(hb7.cell (p := ⟨w.heap.size, 0, none⟩) (by first | assumption | omega)).trans A0, (hb7.cell (p := ⟨w.heap.size, 1, none⟩) (by first | assumption | omega)).trans A1, (hb7.cell (p := ⟨w.heap.size, 2, none⟩) (by first | assumption | omega)).trans A2, (hb7.cell (p := ⟨w.heap.size + 1, 0, none⟩) (by first | assumption | omega)).trans D0, (hb7.cell (p := ⟨w.heap.size + 1, 1, none⟩) (by first | assumption | omega)).trans D1⟩) | (exact ⟨((hb7.alloc hb7.size _).cell (p := ⟨w.heap.size, 0, none⟩) (by first | assumption | omega)).trans A0, ((hb7.alloc hb7.size _).cell (p := ⟨w.heap.size, 1, none⟩) (by first | assumption | omega)).trans A1, ((hb7.alloc hb7.size _).cell (p := ⟨w.heap.size, 2, none⟩) (by first | assumption | omega)).trans A2, ((hb7.alloc hb7.size _).cell (p := ⟨w.heap.size + 1, 0, none⟩) (by first | assumption | omega)).trans D0, ((hb7.alloc hb7.size _).cell (p := ⟨w.heap.size + 1, 1, none⟩) (by first | assumption | omega)).trans D1⟩) | (exact ⟨(far_three' (by omega)).trans ((hb7.cell (p := ⟨w.heap.size, 0, none⟩) (by first | assumption | omega)).trans A0), (far_three' (by omega)).trans ((hb7.cell (p := ⟨w.heap.size, 1, none⟩) (by first | assumption | omega)).trans A1), (far_three' (by omega)).trans ((hb7.cell (p := ⟨w.heap.size, 2, none⟩) (by first | assumption | omega)).trans A2), (far_three' (by omega)).trans ((hb7.cell (p := ⟨w.heap.size + 1, 0, none⟩) (by first | assumption | omega)).trans D0), (far_three' (by omega)).trans ((hb7.cell (p := ⟨w.heap.size + 1, 1, none⟩) (by first | assumption | omega)).trans D1)⟩) | go_keep)
            (first
              | (go_at_call 8; have hR : Row w12.drew a ts := R12.out.row (by omega); ((with_reducible refine (toSeries_r L V a cap ts hlb w12.drew hR).mono ?_)); rintro e u0 ⟨gx, rfl, hb0, hgx, hMx, hT_gx⟩; have hq_gx : gx < u0.heap.size := hMx.1; have hb0 := below_drew hb0; (try have zz := zz.below hb0 (by first | exact zz.1 | (simp; exact Nat.lt_succ_of_lt zz.1))); have hb7 : Below w12.heap.size w12 u0 := hb0)
              | (go_at_call 8; have hR : Row (w12.alloc (.cells #[.int .i64 0, .int .i64 0, .slice none 0 0] 28)).drew a ts := (R12.out.below (below1 w12 (.cells #[.int .i64 0, .int .i64 0, .slice none 0 0] 28)) (by omega)).row (by simp; omega); ((with_reducible refine (toSeries_r L V a cap ts hlb (w12.alloc (.cells #[.int .i64 0, .int .i64 0, .slice none 0 0] 28)).drew hR).mono ?_)); rintro e u0 ⟨gx, rfl, hb0, hgx, hMx, hT_gx⟩; have hq_gx : gx < u0.heap.size := hMx.1; have hb0 := below_drew hb0; have zz : Z3 u0 w12.heap.size := (Z3.new w12 28).below hb0 (by simp); have hb7 : Below w12.heap.size w12 u0 := (below1 w12 (.cells #[.int .i64 0, .int .i64 0, .slice none 0 0] 28)).trans (hb0.mono (by simp)))
              | (go_at_call 14; ((with_reducible refine (toFraction_g fn fd u0).mono ?_)); rintro e u1 ⟨rfl, hb0, hl0⟩; (try have zz := zz.below hb0 (by first | exact zz.1 | (simp; exact Nat.lt_succ_of_lt zz.1))); have hT_gx := hT_gx.below hb0 hq_gx; have hq_gx : gx < u1.heap.size := (by have h1 := hq_gx; have h2 := hb0.size; omega); have hzz : w12.heap.size ≤ u0.heap.size := hb7.size; have hb7 : Below w12.heap.size w12 u1 := hb7.trans (hb0.mono hb7.size))
              | (go_at_call 14; ((with_reducible refine (toFraction_g fn fd (u0.alloc (.cells #[.int .i64 0, .int .i64 0, .slice none 0 0] 28))).mono ?_)); rintro e u1 ⟨rfl, hb0, hl0⟩; have zz : Z3 u1 u0.heap.size := (Z3.new u0 28).below hb0 (by simp); have hT_gx := (hT_gx.below (below1 u0 (.cells #[.int .i64 0, .int .i64 0, .slice none 0 0] 28)) hq_gx).below hb0 (by simp; exact Nat.lt_succ_of_lt hq_gx); have hq_gx : gx < u1.heap.size := (by have h1 := hq_gx; have h2 := hb0.size; simp at h2; omega); have hzz : w12.heap.size ≤ u0.heap.size := hb7.size; have hb7 : Below w12.heap.size w12 u1 := (hb7.alloc hb7.size (.cells #[.int .i64 0, .int .i64 0, .slice none 0 0] 28)).trans (hb0.mono (by have := hb7.size; simp; omega)))
              | (go_at_call 17; (try have hgl := zz.1); ((with_reducible refine (HIm.out u1 gx hlb hq_gx hT_gx).mono ?_)); rintro e wf ⟨aw, cw, rfl, hb0, hNf⟩; (try have zz := zz.below hb0 (by first | exact zz.1 | (simp; exact Nat.lt_succ_of_lt zz.1))); have hb7' := hb7.size; have hb7 : Below w12.heap.size w12 wf := hb7.trans (hb0.mono hb7.size); (try (have q1 := zz.2.1; have q2 := zz.2.2.1; have q3 := zz.2.2.2.1; have q4 := zz.2.2.2.2.1; have q5 := zz.2.2.2.2.2.1; have q6 := zz.2.2.2.2.2.2)))
              | (go_at_call 17; have hgl : u1.heap.size < (u1.alloc (.cells #[.int .i64 0, .int .i64 0, .slice none 0 0] 28)).heap.size := (by simp); have hqa : gx < (u1.alloc (.cells #[.int .i64 0, .int .i64 0, .slice none 0 0] 28)).heap.size := (by simp; omega); have hTa : TermsIn (u1.alloc (.cells #[.int .i64 0, .int .i64 0, .slice none 0 0] 28)) gx 0 ts := hT_gx.below (below1 u1 (.cells #[.int .i64 0, .int .i64 0, .slice none 0 0] 28)) hq_gx; ((with_reducible refine (HIm.out (u1.alloc (.cells #[.int .i64 0, .int .i64 0, .slice none 0 0] 28)) gx hlb hqa hTa).mono ?_)); rintro e wf ⟨aw, cw, rfl, hb0, hNf⟩; have zz : Z3 wf u1.heap.size := (Z3.new u1 28).below hb0 (by simp); have hb7' := hb7.size; have hb7 : Below w12.heap.size w12 wf := (hb7.alloc hb7.size (.cells #[.int .i64 0, .int .i64 0, .slice none 0 0] 28)).trans (hb0.mono (by have := hb7.size; simp; omega)); (try (have q1 := zz.2.1; have q2 := zz.2.2.1; have q3 := zz.2.2.2.1; have q4 := zz.2.2.2.2.1; have q5 := zz.2.2.2.2.2.1; have q6 := zz.2.2.2.2.2.2)))
              | fail)
          all_goals (go_wp2_with fail; go_meet)
          all_goals first | exact CutW.new hb7 hNf | exact CutW.old zz hb7 (by first | exact Nat.le_refl _ | omega) hNf hgl
        case rest =>
          obtain ⟨gH, ah, ch, rfl, rfl, hlgH, hugH, hBy, u0, u1, u2, hKr⟩ := hcut
          obtain ⟨w13, rfl⟩ : ∃ w13 : World, w13 = wc := ⟨_, rfl⟩
          have hz1213 := hBy.size
          have C13 := Lib.hid (((((C12.out.below hBy (Nat.le_refl _)).cons hugH u2).cons hugH u1).cons hugH u0))
          have K13 := Lib.hid (K12.out.below hBy (by first | exact Nat.le_refl _ | (simp; omega) | omega))
          have M13 := Lib.hid (M12.out.below hBy (by first | exact Nat.le_refl _ | (simp; omega) | omega))
          have B13 := Lib.hid (B12.out.trans (hBy.mono (by omega)))
          have H13 := Lib.hid hKr
          clear hBy hKr u0 u1 u2 A0 A1 A2 D0 D1 C12 R12 K12 M12 B12
          have U0 := C13.out.get 0 rfl
          have U1 := C13.out.get 1 rfl
          have U2 := C13.out.get 2 rfl
          have W0 := C13.out.get 9 rfl
          have W1 := C13.out.get 10 rfl
          have W2 := C13.out.get 11 rfl
          go_wp2_with fail
          refine (eqSeries_row4 L' V' ah aw ch cw ts' hl' _ (H13.out.row (Nat.le_refl _)) (K13.out.row (by omega))).mono ?_
          clear U0 U1 U2 W0 W1 W2
          rintro e w14 ⟨rfl, hb14⟩
          have hz1314 := hb14.size
          have C14 := Lib.hid (C13.out.below hb14 (by first | exact Nat.le_refl _ | (simp; omega) | omega))
          have M14 := Lib.hid (M13.out.below hb14 (by first | exact Nat.le_refl _ | (simp; omega) | omega))
          have B14 := Lib.hid (B13.out.trans (hb14.mono B13.out.size))
          clear hb14 C13 K13 M13 B13 H13
          have G0 := C14.out.get 3 rfl
          have G1 := C14.out.get 4 rfl
          have G2 := C14.out.get 5 rfl
          go_wp2_with fail
          refine (heldSeries_row L' V' lo hi ag _ ts' 1 (by omega) (by omega) _ M14.out).mono ?_
          clear G0 G1 G2
          rintro e w15 ⟨rfl, hb15⟩
          have B15 := Lib.hid (B14.out.trans (hb15.mono B14.out.size))
          clear hb15
          go_wp2
          go_ret
          exact ⟨rfl, B15.out⟩
end Go.Proofs.Ytbhbcjaaomdlaaa
