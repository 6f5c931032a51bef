/-
  'FnExactIsSeries' returns true at every input: the program's IsSeries and its model's agree, and the series reads as before. No condition.
-/
import Derived.Test.YtjciadbmpkkgdaaShut
namespace Go.Proofs.Ytjciadbmpkkgdaa
open Go.ChangeShapes Go.WideShapes Go.ChangeAt Go.RowKit

set_option maxHeartbeats 1000000 in
theorem law_IsSeries (L V : Int) (a : Option Addr) (cap : Nat) (ts : List Tm) (hl : ts.length ≤ maxLen) (hs : ∀ i (h : i < ts.length), (ts[i]).s.size ≤ maxLen) (w : World) (hr : Row w a ts) :
    Calls Try.prog 3 #[.agg #[.int .i64 L, .int .i64 V, .slice a ts.length cap]] w fun e w' => e = .returned (.bool true) ∧ Below w.heap.size w w' := by
  have HR := Lib.hid hr
  have HS := Lib.hid hs
  clear hr hs
  go_enter Try.func3, Try.ntmps3
  go_wp2_with fail
  refine (szSeries_c L V a ts.length cap 1048576 _ (szTermS_row a cap ts hl HS.out 1048576 (by omega) _ ?_)).mono ?_
  · exact (HR.out.below (below1 w _)).below (below1 _ _)
  rintro e w1 ⟨he, hb1⟩
  have hB1 : Below (w.heap.size + 1) _ w1 := hb1.mono (by simp)
  have bc1 := bcellB hB1
  have hz1 : w.heap.size < w1.heap.size := by have := hb1.size; simp at this; omega
  have HR1 := Lib.hid ((HR.out.below (below1 w _)).below hb1)
  clear hb1
  rcases he with rfl | ⟨r, hr0, hr1, hfit, rfl⟩
  · have hW := (below1 w _).trans (hB1.mono (Nat.le_succ _))
    go_wp2
    go_ret
    exact ⟨rfl, hW⟩
  have hl2 : ts.length ≤ 1048576 := by omega
  go_wp2_with fail
  refine (toSeries_c L V a cap ts hl2 _ HR1.out).mono ?_
  rintro e w2 ⟨g, rfl, hb2, hg, hM, hT⟩
  have hB2 := below_step hB1 hb2 (by simp)
  have bc2 := bcellB hB2
  have hz2 : w.heap.size < w2.heap.size := Nat.lt_of_lt_of_le hz1 hb2.size
  have HR2 := Lib.hid (HR1.out.below hb2)
  clear hb2 bc1 hg
  have HT := Lib.hid hT
  have hgl := hM.1
  clear hM hT
  go_wp2_with fail
  refine (sIsSeries_c L V g 0 ts.length ts hl2 HS.out _ hgl HT.out).mono ?_
  rintro e w3 ⟨rfl, hb3⟩
  have hB3 := below_step hB2 hb3 (by simp)
  have bc3 := bcellB hB3
  have hz3 : w.heap.size < w3.heap.size := Nat.lt_of_lt_of_le hz2 hb3.size
  have HR3 := Lib.hid (HR2.out.below hb3)
  clear hb3 bc2 hgl
  go_wp2_with fail
  refine (toSeries_c L V a cap ts hl2 _ HR3.out).mono ?_
  rintro e w4 ⟨g4, rfl, hb4, hg4, hM4, hT4⟩
  have hB4 := below_step hB3 hb4 (by simp)
  have bc4 := bcellB hB4
  have hz4 : w.heap.size < w4.heap.size := Nat.lt_of_lt_of_le hz3 hb4.size
  have HR4 := Lib.hid (HR3.out.below hb4)
  clear hb4 bc3 hg4
  have HT4 := Lib.hid hT4
  have hgl4 := hM4.1
  clear hM4 hT4
  go_wp2_with fail
  refine (iIsSeries_c L V g4 0 ts.length ts hl2 HS.out _ (by simp; omega) (HT4.out.below (below1 w4 _) hgl4)).mono ?_
  rintro e w5 ⟨rfl, hb5⟩
  have bc5 := bcell hb5
  have hz5 : w.heap.size < w5.heap.size := by have := hb5.size; simp at this; omega
  have hz6 : w4.heap.size < w5.heap.size := by have := hb5.size; simp at this; omega
  have hz7 : g4 < w5.heap.size := by omega
  have A0 : w5.cell? ⟨w.heap.size, 0, none⟩ = some (.int .i64 L) := (bc5.1 _ _ (by simp; omega)).trans ((World.cell?_alloc_lt w4 _ _ hz4).trans ((bc4.1 _ _ (by omega)).trans (by go_simp)))
  have A1 : w5.cell? ⟨w.heap.size, 1, none⟩ = some (.int .i64 V) := (bc5.1 _ _ (by simp; omega)).trans ((World.cell?_alloc_lt w4 _ _ hz4).trans ((bc4.1 _ _ (by omega)).trans (by go_simp)))
  have A2 : w5.cell? ⟨w.heap.size, 2, none⟩ = some (.slice a ts.length cap) := (bc5.1 _ _ (by simp; omega)).trans ((World.cell?_alloc_lt w4 _ _ hz4).trans ((bc4.1 _ _ (by omega)).trans (by go_simp)))
  have X0 : w5.cell? ⟨w4.heap.size, 0, none⟩ = some (.int .i64 L) := (bc5.1 _ _ (by simp)).trans (by go_simp)
  have X1 : w5.cell? ⟨w4.heap.size, 1, none⟩ = some (.int .i64 V) := (bc5.1 _ _ (by simp)).trans (by go_simp)
  have X2 : w5.cell? ⟨w4.heap.size, 2, none⟩ = some (.slice (some ⟨g4, 0, none⟩) ts.length ts.length) := (bc5.1 _ _ (by simp)).trans (by go_simp)
  have HT5 := Lib.hid ((HT4.out.below (below1 w4 (.cells #[.int .i64 L, .int .i64 V, .slice (some ⟨g4, 0, none⟩) ts.length ts.length] 29)) hgl4).below hb5 (by simp; omega))
  have HR5 := Lib.hid ((HR4.out.below (below1 w4 (.cells #[.int .i64 L, .int .i64 V, .slice (some ⟨g4, 0, none⟩) ts.length ts.length] 29))).below hb5)
  have hW5 := Lib.hid ((below1 w _).trans (((hB4.mono (Nat.le_succ _)).alloc (Nat.le_of_lt hz4) (.cells #[.int .i64 L, .int .i64 V, .slice (some ⟨g4, 0, none⟩) ts.length ts.length] 29)).trans (hb5.mono (by simp; omega))))
  clear bc5 bc4 hb5 hB1 hB2 hB3 hB4 HT HR1 HR2 HR3
  go_upto_region 10 with fail
  go_cut [26] (fun s26 wy => s26 = .bool false ∧ Below w5.heap.size w5 wy)
  case first =>
    go_region_held3 (fun w' => w'.cell? ⟨w.heap.size, 0, none⟩ = some (.int .i64 L) ∧ w'.cell? ⟨w.heap.size, 1, none⟩ = some (.int .i64 V) ∧ w'.cell? ⟨w.heap.size, 2, none⟩ = some (.slice a ts.length cap) ∧ w'.cell? ⟨w4.heap.size, 0, none⟩ = some (.int .i64 L) ∧ w'.cell? ⟨w4.heap.size, 1, none⟩ = some (.int .i64 V) ∧ w'.cell? ⟨w4.heap.size, 2, none⟩ = some (.slice (some ⟨g4, 0, none⟩) ts.length ts.length)) (first | (refine held33 hb6 ?_ ?_ ⟨A0, A1, A2, X0, X1, X2⟩ <;> first | omega | (show _ < w5.heap.size; omega) | (simp; omega)) | go_keep)
      (first
        | (go_at_call 14; refine (toSeries_c L V a cap ts hl2 _ ?_).mono ?_; (exact HR5.out); rintro e w6 ⟨g6, rfl, hb0, hg6, hM6, hT6⟩; have hb6 : Below w5.heap.size w5 w6 := ⟨hb0.os, hb0.tape, hb0.output, hb0.size, hb0.block⟩)
        | (go_at_call 16; refine (eqSeries_same L V g4 0 _ g6 0 _ ts hl2 _ ?_ ?_ ?_ ?_).mono ?_; (exact Nat.lt_of_lt_of_le hz7 hb6.size); (exact hM6.1); (exact HT5.out.below hb6 hz7); (exact hT6); rintro e w7 ⟨rfl, hb7⟩; have hb6 : Below w5.heap.size w5 w7 := hb6.trans (hb7.mono hb6.size)))
    all_goals (go_wp2_with fail; go_meet)
    all_goals exact ⟨rfl, hb6⟩
  case rest =>
    obtain ⟨rfl, hBy⟩ := hcut
    have hW6 := hW5.out.trans (hBy.mono (Nat.le_of_lt hz5))
    clear hBy A0 A1 A2 X0 X1 X2
    go_wp2
    go_ret
    exact ⟨rfl, hW6⟩
end Go.Proofs.Ytjciadbmpkkgdaa
