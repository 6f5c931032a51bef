/-
  'FnExactReadByTables' returns true at every input for which the two functions' contracts stand: the program's ReadByTables and its model's return the same fraction and code, and the argument reads as before.
-/
import Derived.Test.YtknigggjnjkhbaaOpenR
namespace Go.Proofs.Ytknigggjnjkhbaa
open Go.RowKit

set_option maxRecDepth 100000 in
set_option maxHeartbeats 4000000 in
theorem law_ReadByTables (L V : Int) (a : Option Addr) (cap : Nat) (ts : List Tm) (hl : ts.length ≤ maxLen) (hs : ∀ i (h : i < ts.length), (ts[i]).s.size ≤ maxLen) (s0 : ByteArray) (_hz0 : s0.size ≤ maxLen) (w : World) (hr : Row w a ts) (x y z : Int)
    (hS : ∀ (W : World) (g : Nat), ts.length ≤ 1048576 → g < W.heap.size → TermsIn W g 0 ts → Calls Try.prog 18 #[.agg #[.int .i64 L, .int .i64 V, .slice (some ⟨g, 0, none⟩) ts.length ts.length], .string s0] W fun e w' => e = .returned (.tuple #[.agg #[.int .i64 x, .int .i64 y], .int .i64 z]) ∧ Below W.heap.size W w')
    (hI : ∀ (W : World) (g : Nat), ts.length ≤ 1048576 → g < W.heap.size → TermsIn W g 0 ts → Calls Try.prog 19 #[.agg #[.int .i64 L, .int .i64 V, .slice (some ⟨g, 0, none⟩) ts.length ts.length], .string s0] W fun e w' => e = .returned (.tuple #[.agg #[.int .i64 x, .int .i64 y], .int .i64 z]) ∧ Below W.heap.size W w') :
    Calls Try.prog 4 #[.agg #[.int .i64 L, .int .i64 V, .slice a ts.length cap], .string s0] w fun e w' => e = .returned (.bool true) ∧ Below w.heap.size w w' := by
  have HR := Lib.hid hr
  have HS := Lib.hid hs
  have HSp := Lib.hid hS
  have HIm := Lib.hid hI
  clear hr hs hS hI
  by_cases hbig0 : (1048576 : Int) < (s0.size : Int)
  · go_enter Try.func4, Try.ntmps4
    go_wp2
    go_ret
    exact ⟨rfl, below1 _ _⟩
  go_enter Try.func4, Try.ntmps4
  go_wp2_with fail
  refine (szSeries_c L V a ts.length cap 1048576 _ (szTermS_row a cap ts hl HS.out 1048576 (by omega) _ ?_)).mono ?_
  · exact (HR.out.below (below1 w _)).below (below1 _ _)
  rintro e w1 ⟨he, hb1⟩
  have hB1 : Below (w.heap.size + 1) _ w1 := hb1.mono (by simp)
  have bc1 := bcellB hB1
  have hz1 : w.heap.size < w1.heap.size := by have := hb1.size; simp at this; omega
  have HR1 := Lib.hid ((HR.out.below (below1 w _)).below hb1)
  clear hb1
  rcases he with rfl | ⟨r, hr0, hr1, hfit, rfl⟩
  · have hW := (below1 w _).trans (hB1.mono (Nat.le_succ _))
    go_wp2
    go_ret
    exact ⟨rfl, hW⟩
  have hl2 : ts.length ≤ 1048576 := by omega
  go_wp2_with fail
  refine (toSeries_c L V a cap ts hl2 _ HR1.out).mono ?_
  rintro e w2 ⟨g, rfl, hb2, hg, hM, hT⟩
  have hB2 := below_step hB1 hb2 (by simp)
  have hz2 : w.heap.size < w2.heap.size := Nat.lt_of_lt_of_le hz1 hb2.size
  have HR2 := Lib.hid (HR1.out.below hb2)
  clear hb2 bc1 hg
  have HT := Lib.hid hT
  have hgl := hM.1
  clear hM hT
  go_wp2_with fail
  refine (HSp.out _ g hl2 hgl HT.out).mono ?_
  rintro e w3 ⟨rfl, hb3⟩
  have hB3 := below_step hB2 hb3 (by simp)
  have hz3 : w.heap.size < w3.heap.size := Nat.lt_of_lt_of_le hz2 hb3.size
  have hB3a := hB3.alloc (Nat.succ_le_of_lt hz3) (.cells #[.int .i64 x, .int .i64 y] 43)
  have bc3 := bcellB hB3
  have HR3 := Lib.hid ((HR2.out.below hb3).below (below1 w3 (.cells #[.int .i64 x, .int .i64 y] 43)))
  clear hb3 hgl
  go_wp2_with fail
  refine (toSeries_c L V a cap ts hl2 _ HR3.out).mono ?_
  rintro e w4 ⟨g4, rfl, hb4, hg4, hM4, hT4⟩
  have hB4 := below_step hB3a hb4 (by simp)
  have bc4 := bcellB hB4
  have hz34 : w3.heap.size < w4.heap.size := by have := hb4.size; simp at this; omega
  have hz4 : w.heap.size < w4.heap.size := by omega
  have F0 : w4.cell? ⟨w3.heap.size, 0, none⟩ = some (.int .i64 x) := (hb4.cell (p := ⟨w3.heap.size, 0, none⟩) (by simp)).trans (by go_simp)
  have F1 : w4.cell? ⟨w3.heap.size, 1, none⟩ = some (.int .i64 y) := (hb4.cell (p := ⟨w3.heap.size, 1, none⟩) (by simp)).trans (by go_simp)
  have HR4 := Lib.hid (HR3.out.below hb4)
  clear hb4 bc3 hg4
  have HT4 := Lib.hid hT4
  have hgl4 := hM4.1
  clear hM4 hT4
  go_wp2_with fail
  refine (HIm.out _ g4 hl2 (by simp; omega) (HT4.out.below (below1 w4 _) hgl4)).mono ?_
  rintro e w5 ⟨rfl, hb5⟩
  have bc5 := bcell hb5
  have hz5 : w4.heap.size < w5.heap.size := by have := hb5.size; simp at this; omega
  have A0 : w5.cell? ⟨w.heap.size, 0, none⟩ = some (.int .i64 L) := (bc5.1 _ _ (by simp; omega)).trans ((World.cell?_alloc_lt w4 _ _ hz4).trans ((bc4.1 _ _ (by omega)).trans (by go_simp)))
  have A1 : w5.cell? ⟨w.heap.size, 1, none⟩ = some (.int .i64 V) := (bc5.1 _ _ (by simp; omega)).trans ((World.cell?_alloc_lt w4 _ _ hz4).trans ((bc4.1 _ _ (by omega)).trans (by go_simp)))
  have A2 : w5.cell? ⟨w.heap.size, 2, none⟩ = some (.slice a ts.length cap) := (bc5.1 _ _ (by simp; omega)).trans ((World.cell?_alloc_lt w4 _ _ hz4).trans ((bc4.1 _ _ (by omega)).trans (by go_simp)))
  have X0 : w5.cell? ⟨w4.heap.size, 0, none⟩ = some (.int .i64 L) := (bc5.1 _ _ (by simp)).trans (by go_simp)
  have X1 : w5.cell? ⟨w4.heap.size, 1, none⟩ = some (.int .i64 V) := (bc5.1 _ _ (by simp)).trans (by go_simp)
  have X2 : w5.cell? ⟨w4.heap.size, 2, none⟩ = some (.slice (some ⟨g4, 0, none⟩) ts.length ts.length) := (bc5.1 _ _ (by simp)).trans (by go_simp)
  have G0 : w5.cell? ⟨w3.heap.size, 0, none⟩ = some (.int .i64 x) := (bc5.1 _ _ (by simp; omega)).trans ((World.cell?_alloc_lt w4 _ _ hz34).trans F0)
  have G1 : w5.cell? ⟨w3.heap.size, 1, none⟩ = some (.int .i64 y) := (bc5.1 _ _ (by simp; omega)).trans ((World.cell?_alloc_lt w4 _ _ hz34).trans F1)
  have HT5 := Lib.hid ((HT4.out.below (below1 w4 (.cells #[.int .i64 L, .int .i64 V, .slice (some ⟨g4, 0, none⟩) ts.length ts.length] 33)) hgl4).below hb5 (by simp; omega))
  have HR5 := Lib.hid ((HR4.out.below (below1 w4 (.cells #[.int .i64 L, .int .i64 V, .slice (some ⟨g4, 0, none⟩) ts.length ts.length] 33))).below hb5)
  have hW5 := Lib.hid ((below1 w _).trans (((hB4.mono (Nat.le_succ _)).alloc (Nat.le_of_lt hz4) (.cells #[.int .i64 L, .int .i64 V, .slice (some ⟨g4, 0, none⟩) ts.length ts.length] 33)).trans (hb5.mono (by simp; omega))))
  have hz35 : w3.heap.size < w5.heap.size := by omega
  have hz05 : w.heap.size < w5.heap.size := by omega
  have hz45 : g4 < w5.heap.size := by omega
  clear bc5 bc4 hb5 hB1 hB2 hB3 hB3a hB4 HT HR1 HR2 HR3 HR4 HT4 F0 F1
  go_wp2_with fail
  refine (eqFraction_same _ _ _).mono ?_
  rintro e w6 ⟨rfl, hb6⟩
  have hB6 : Below w5.heap.size w5 w6 := (below1 w5 _).trans (hb6.mono (by simp))
  have k6 := held33 (i := w.heap.size) (j := w4.heap.size) hB6 hz05 hz5 ⟨A0, A1, A2, X0, X1, X2⟩
  obtain ⟨D0, D1, D2, Y0, Y1, Y2⟩ := k6
  have hz06 : w.heap.size < w6.heap.size := Nat.lt_of_lt_of_le hz05 hB6.size
  have hz46 : w4.heap.size < w6.heap.size := Nat.lt_of_lt_of_le hz5 hB6.size
  have hz76 : g4 < w6.heap.size := Nat.lt_of_lt_of_le hz45 hB6.size
  have HT6 := Lib.hid (HT5.out.below hB6 hz45)
  have HR6 := Lib.hid (HR5.out.below hB6)
  have hW6 := Lib.hid (hW5.out.trans (hB6.mono hW5.out.size))
  clear hb6 hB6 A0 A1 A2 X0 X1 X2 G0 G1
  go_upto_region 12 with fail
  go_cut [47] (fun s47 wy => s47 = .bool false ∧ Below w6.heap.size w6 wy)
  case first =>
    go_region_held3 (fun w' => w'.cell? ⟨w.heap.size, 0, none⟩ = some (.int .i64 L) ∧ w'.cell? ⟨w.heap.size, 1, none⟩ = some (.int .i64 V) ∧ w'.cell? ⟨w.heap.size, 2, none⟩ = some (.slice a ts.length cap) ∧ w'.cell? ⟨w4.heap.size, 0, none⟩ = some (.int .i64 L) ∧ w'.cell? ⟨w4.heap.size, 1, none⟩ = some (.int .i64 V) ∧ w'.cell? ⟨w4.heap.size, 2, none⟩ = some (.slice (some ⟨g4, 0, none⟩) ts.length ts.length)) (first | (refine held33 hb7 ?_ ?_ ⟨D0, D1, D2, Y0, Y1, Y2⟩ <;> first | omega | (show _ < w6.heap.size; omega) | (simp; omega)) | go_keep)
      (first
        | (go_at_call 8; refine (toSeries_c L V a cap ts hl2 _ ?_).mono ?_; (exact HR6.out); rintro e w7 ⟨g7, rfl, hb0, hg7, hM7, hT7⟩; have hb7 : Below w6.heap.size w6 w7 := ⟨hb0.os, hb0.tape, hb0.output, hb0.size, hb0.block⟩)
        | (go_at_call 12; refine (eqSeries_same L V g4 0 _ g7 0 _ ts hl2 _ ?_ ?_ ?_ ?_).mono ?_; (exact Nat.lt_of_lt_of_le hz76 hb7.size); (exact hM7.1); (exact HT6.out.below hb7 hz76); (exact hT7); rintro e w8 ⟨rfl, hb8⟩; have hb7 : Below w6.heap.size w6 w8 := hb7.trans (hb8.mono hb7.size)))
    all_goals (go_wp2_with fail; go_meet)
    all_goals exact ⟨rfl, hb7⟩
  case rest =>
    obtain ⟨rfl, hBy⟩ := hcut
    have hW7 := hW6.out.trans (hBy.mono hW6.out.size)
    clear hBy D0 D1 D2 Y0 Y1 Y2
    go_wp2
    go_ret
    exact ⟨rfl, hW7⟩
end Go.Proofs.Ytknigggjnjkhbaa
