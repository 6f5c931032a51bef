/-
  Contracts of AddSeries, of the program and of its model: both return the same series and code.
-/
import Derived.Test.YtbhbcjaaomdlaaaAddT
import Derived.Test.YtbhbcjaaomdlaaaNew4
namespace Go.Proofs.Ytbhbcjaaomdlaaa
open Go.RowKit

/-- the result's cells in block n, of which `Below` tells -/
theorem zero3 {B n : Nat} {W w' : World} (hb : Below B W w') (hn : n < B) (h0 : W.cell? ⟨n, 0, none⟩ = some (.int .i64 0)) (h1 : W.cell? ⟨n, 1, none⟩ = some (.int .i64 0)) (h2 : W.cell? ⟨n, 2, none⟩ = some (.slice none 0 0))
    (z0 : W.frozen? ⟨n, 0, none⟩ = false) (z1 : W.frozen? ⟨n, 1, none⟩ = false) (z2 : W.frozen? ⟨n, 2, none⟩ = false) :
    (w'.cell? ⟨n, 0, none⟩ = some (.int .i64 0) ∧ w'.cell? ⟨n, 1, none⟩ = some (.int .i64 0) ∧ w'.cell? ⟨n, 2, none⟩ = some (.slice none 0 0)) ∧ w'.frozen? ⟨n, 0, none⟩ = false ∧ w'.frozen? ⟨n, 1, none⟩ = false ∧ w'.frozen? ⟨n, 2, none⟩ = false :=
  ⟨⟨(hb.cell (p := ⟨n, 0, none⟩) hn).trans h0, (hb.cell (p := ⟨n, 1, none⟩) hn).trans h1, (hb.cell (p := ⟨n, 2, none⟩) hn).trans h2⟩, (hb.frozen (p := ⟨n, 0, none⟩) hn).trans z0, (hb.frozen (p := ⟨n, 1, none⟩) hn).trans z1, (hb.frozen (p := ⟨n, 2, none⟩) hn).trans z2⟩

section
variable (L1 V1 L2 V2 : Int) (g1 g2 : Nat) (ts ys : List Tm) (w : World)

set_option maxRecDepth 100000 in
set_option maxHeartbeats 4000000 in
theorem sAdd_1 (h : codeL L1 V1 ts L2 V2 ys = 1) (hl1 : ts.length ≤ 1048576) (hl2 : ys.length ≤ 1048576) (hs1 : ∀ i (h : i < ts.length), (ts[i]).s.size ≤ maxLen) (hs2 : ∀ i (h : i < ys.length), (ys[i]).s.size ≤ maxLen) (hb1 : g1 < w.heap.size) (hb2 : g2 < w.heap.size) (t1 : TermsIn w g1 0 ts) (t2 : TermsIn w g2 0 ys) :
    Calls Try.prog 7 #[.agg #[.int .i64 L1, .int .i64 V1, .slice (some ⟨g1, 0, none⟩) ts.length ts.length], .agg #[.int .i64 L2, .int .i64 V2, .slice (some ⟨g2, 0, none⟩) ys.length ys.length]] w (SerPost 0 0 [] 1 w) := by
  have HT1 := Lib.hid t1
  have HT2 := Lib.hid t2
  have HS1 := Lib.hid hs1
  have HS2 := Lib.hid hs2
  clear t1 t2 hs1 hs2
  have HC := Lib.hid h
  clear h
  go_enter Try.func7, Try.ntmps7
  go_wp2_with fail
  refine (l01Code_c L1 V1 L2 V2 g1 0 ts.length g2 0 ys.length (w.heap.size + 1 + 1 + 1) ts ys hl1 hl2 HS1.out HS2.out _ (by simp; omega) (by simp; omega) (by simp) ((HT1.out.below (below3 w _ _ _) hb1).below (below1 _ _) (by simp; omega)) ((HT2.out.below (below3 w _ _ _) hb2).below (below1 _ _) (by simp; omega)) (by go_simp) (by go_simp) (by go_simp)).mono ?_
  rintro e w1 ⟨rfl, hbc⟩
  have HB := Lib.hid (show Below (w.heap.size + 1 + 1 + 1) (((w.alloc (.cells #[.int .i64 L1, .int .i64 V1, .slice (some ⟨g1, 0, none⟩) ts.length ts.length] 28)).alloc (.cells #[.int .i64 L2, .int .i64 V2, .slice (some ⟨g2, 0, none⟩) ys.length ys.length] 28)).alloc (.cells #[.int .i64 0, .int .i64 0, .slice none 0 0] 28)) w1 from (below1 (((w.alloc (.cells #[.int .i64 L1, .int .i64 V1, .slice (some ⟨g1, 0, none⟩) ts.length ts.length] 28)).alloc (.cells #[.int .i64 L2, .int .i64 V2, .slice (some ⟨g2, 0, none⟩) ys.length ys.length] 28)).alloc (.cells #[.int .i64 0, .int .i64 0, .slice none 0 0] 28)) _).mono (by simp) |>.trans (hbc.mono (by simp)))
  have HW := Lib.hid ((below3 w _ _ _).trans (HB.out.mono (by omega)))
  have hz1 : w.heap.size + 1 + 1 + 1 < w1.heap.size := by have := hbc.size; simp at this; omega
  clear hbc
  obtain ⟨hc, hf⟩ := bcellB HB.out
  have r0 : w1.cell? ⟨w.heap.size + 1 + 1, 0, none⟩ = some (.int .i64 0) := (hc _ _ (by omega)).trans (by go_simp)
  have r1 : w1.cell? ⟨w.heap.size + 1 + 1, 1, none⟩ = some (.int .i64 0) := (hc _ _ (by omega)).trans (by go_simp)
  have r2 : w1.cell? ⟨w.heap.size + 1 + 1, 2, none⟩ = some (.slice none 0 0) := (hc _ _ (by omega)).trans (by go_simp)
  have z0 : w1.frozen? ⟨w.heap.size + 1 + 1, 0, none⟩ = false := (hf _ _ (by omega)).trans (by go_simp)
  have z1 : w1.frozen? ⟨w.heap.size + 1 + 1, 1, none⟩ = false := (hf _ _ (by omega)).trans (by go_simp)
  have z2 : w1.frozen? ⟨w.heap.size + 1 + 1, 2, none⟩ = false := (hf _ _ (by omega)).trans (by go_simp)
  have hzz : w.heap.size + 1 + 1 < w1.heap.size := by omega
  clear hc hf
  rw [HC.out]
  go_wp2
  refine bodyPost_ret (v := .tuple #[.agg #[.int .i64 0, .int .i64 0, .slice none 0 0], .int .i64 1]) (by simp [results, Try.results7, go_sem, r0, r1, r2]) rfl (SerPost.err 1 rfl ?_)
  have hW := HW.out
  go_grown

set_option maxRecDepth 100000 in
set_option maxHeartbeats 4000000 in
theorem sAdd_2 (h : codeL L1 V1 ts L2 V2 ys = 2) (hl1 : ts.length ≤ 1048576) (hl2 : ys.length ≤ 1048576) (hs1 : ∀ i (h : i < ts.length), (ts[i]).s.size ≤ maxLen) (hs2 : ∀ i (h : i < ys.length), (ys[i]).s.size ≤ maxLen) (hb1 : g1 < w.heap.size) (hb2 : g2 < w.heap.size) (t1 : TermsIn w g1 0 ts) (t2 : TermsIn w g2 0 ys) :
    Calls Try.prog 7 #[.agg #[.int .i64 L1, .int .i64 V1, .slice (some ⟨g1, 0, none⟩) ts.length ts.length], .agg #[.int .i64 L2, .int .i64 V2, .slice (some ⟨g2, 0, none⟩) ys.length ys.length]] w (SerPost 0 0 [] 2 w) := by
  have HT1 := Lib.hid t1
  have HT2 := Lib.hid t2
  have HS1 := Lib.hid hs1
  have HS2 := Lib.hid hs2
  clear t1 t2 hs1 hs2
  have HC := Lib.hid h
  clear h
  go_enter Try.func7, Try.ntmps7
  go_wp2_with fail
  refine (l01Code_c L1 V1 L2 V2 g1 0 ts.length g2 0 ys.length (w.heap.size + 1 + 1 + 1) ts ys hl1 hl2 HS1.out HS2.out _ (by simp; omega) (by simp; omega) (by simp) ((HT1.out.below (below3 w _ _ _) hb1).below (below1 _ _) (by simp; omega)) ((HT2.out.below (below3 w _ _ _) hb2).below (below1 _ _) (by simp; omega)) (by go_simp) (by go_simp) (by go_simp)).mono ?_
  rintro e w1 ⟨rfl, hbc⟩
  have HB := Lib.hid (show Below (w.heap.size + 1 + 1 + 1) (((w.alloc (.cells #[.int .i64 L1, .int .i64 V1, .slice (some ⟨g1, 0, none⟩) ts.length ts.length] 28)).alloc (.cells #[.int .i64 L2, .int .i64 V2, .slice (some ⟨g2, 0, none⟩) ys.length ys.length] 28)).alloc (.cells #[.int .i64 0, .int .i64 0, .slice none 0 0] 28)) w1 from (below1 (((w.alloc (.cells #[.int .i64 L1, .int .i64 V1, .slice (some ⟨g1, 0, none⟩) ts.length ts.length] 28)).alloc (.cells #[.int .i64 L2, .int .i64 V2, .slice (some ⟨g2, 0, none⟩) ys.length ys.length] 28)).alloc (.cells #[.int .i64 0, .int .i64 0, .slice none 0 0] 28)) _).mono (by simp) |>.trans (hbc.mono (by simp)))
  have HW := Lib.hid ((below3 w _ _ _).trans (HB.out.mono (by omega)))
  have hz1 : w.heap.size + 1 + 1 + 1 < w1.heap.size := by have := hbc.size; simp at this; omega
  clear hbc
  obtain ⟨hc, hf⟩ := bcellB HB.out
  have r0 : w1.cell? ⟨w.heap.size + 1 + 1, 0, none⟩ = some (.int .i64 0) := (hc _ _ (by omega)).trans (by go_simp)
  have r1 : w1.cell? ⟨w.heap.size + 1 + 1, 1, none⟩ = some (.int .i64 0) := (hc _ _ (by omega)).trans (by go_simp)
  have r2 : w1.cell? ⟨w.heap.size + 1 + 1, 2, none⟩ = some (.slice none 0 0) := (hc _ _ (by omega)).trans (by go_simp)
  have z0 : w1.frozen? ⟨w.heap.size + 1 + 1, 0, none⟩ = false := (hf _ _ (by omega)).trans (by go_simp)
  have z1 : w1.frozen? ⟨w.heap.size + 1 + 1, 1, none⟩ = false := (hf _ _ (by omega)).trans (by go_simp)
  have z2 : w1.frozen? ⟨w.heap.size + 1 + 1, 2, none⟩ = false := (hf _ _ (by omega)).trans (by go_simp)
  have hzz : w.heap.size + 1 + 1 < w1.heap.size := by omega
  clear hc hf
  rw [HC.out]
  go_wp2
  refine bodyPost_ret (v := .tuple #[.agg #[.int .i64 0, .int .i64 0, .slice none 0 0], .int .i64 2]) (by simp [results, Try.results7, go_sem, r0, r1, r2]) rfl (SerPost.err 2 rfl ?_)
  have hW := HW.out
  go_grown

set_option maxRecDepth 100000 in
set_option maxHeartbeats 4000000 in
theorem sAdd_3 (h : codeL L1 V1 ts L2 V2 ys = 0) (hp : putAll ts ys = none) (bd1 : ∀ t ∈ ts, bdT t) (bd2 : ∀ t ∈ ys, bdT t) (hl1 : ts.length ≤ 1048576) (hl2 : ys.length ≤ 1048576) (hs1 : ∀ i (h : i < ts.length), (ts[i]).s.size ≤ maxLen) (hs2 : ∀ i (h : i < ys.length), (ys[i]).s.size ≤ maxLen) (hb1 : g1 < w.heap.size) (hb2 : g2 < w.heap.size) (t1 : TermsIn w g1 0 ts) (t2 : TermsIn w g2 0 ys) :
    Calls Try.prog 7 #[.agg #[.int .i64 L1, .int .i64 V1, .slice (some ⟨g1, 0, none⟩) ts.length ts.length], .agg #[.int .i64 L2, .int .i64 V2, .slice (some ⟨g2, 0, none⟩) ys.length ys.length]] w (SerPost 0 0 [] 3 w) := by
  have HT1 := Lib.hid t1
  have HT2 := Lib.hid t2
  have HS1 := Lib.hid hs1
  have HS2 := Lib.hid hs2
  clear t1 t2 hs1 hs2
  have HC := Lib.hid h
  have HP := Lib.hid hp
  have HD1 := Lib.hid bd1
  have HD2 := Lib.hid bd2
  clear h hp bd1 bd2
  go_enter Try.func7, Try.ntmps7
  go_wp2_with fail
  refine (l01Code_c L1 V1 L2 V2 g1 0 ts.length g2 0 ys.length (w.heap.size + 1 + 1 + 1) ts ys hl1 hl2 HS1.out HS2.out _ (by simp; omega) (by simp; omega) (by simp) ((HT1.out.below (below3 w _ _ _) hb1).below (below1 _ _) (by simp; omega)) ((HT2.out.below (below3 w _ _ _) hb2).below (below1 _ _) (by simp; omega)) (by go_simp) (by go_simp) (by go_simp)).mono ?_
  rintro e w1 ⟨rfl, hbc⟩
  have HB := Lib.hid (show Below (w.heap.size + 1 + 1 + 1) (((w.alloc (.cells #[.int .i64 L1, .int .i64 V1, .slice (some ⟨g1, 0, none⟩) ts.length ts.length] 28)).alloc (.cells #[.int .i64 L2, .int .i64 V2, .slice (some ⟨g2, 0, none⟩) ys.length ys.length] 28)).alloc (.cells #[.int .i64 0, .int .i64 0, .slice none 0 0] 28)) w1 from (below1 (((w.alloc (.cells #[.int .i64 L1, .int .i64 V1, .slice (some ⟨g1, 0, none⟩) ts.length ts.length] 28)).alloc (.cells #[.int .i64 L2, .int .i64 V2, .slice (some ⟨g2, 0, none⟩) ys.length ys.length] 28)).alloc (.cells #[.int .i64 0, .int .i64 0, .slice none 0 0] 28)) _).mono (by simp) |>.trans (hbc.mono (by simp)))
  have HW := Lib.hid ((below3 w _ _ _).trans (HB.out.mono (by omega)))
  have hz1 : w.heap.size + 1 + 1 + 1 < w1.heap.size := by have := hbc.size; simp at this; omega
  clear hbc
  rw [HC.out]
  obtain ⟨hc, hf⟩ := bcellB HB.out
  have x0 : w1.cell? ⟨w.heap.size, 0, none⟩ = some (.int .i64 L1) := (hc _ _ (by omega)).trans (by go_simp)
  have x1 : w1.cell? ⟨w.heap.size, 1, none⟩ = some (.int .i64 V1) := (hc _ _ (by omega)).trans (by go_simp)
  have x2 : w1.cell? ⟨w.heap.size, 2, none⟩ = some (.slice (some ⟨g1, 0, none⟩) ts.length ts.length) := (hc _ _ (by omega)).trans (by go_simp)
  have y0 : w1.cell? ⟨w.heap.size + 1, 0, none⟩ = some (.int .i64 L2) := (hc _ _ (by omega)).trans (by go_simp)
  have y1 : w1.cell? ⟨w.heap.size + 1, 1, none⟩ = some (.int .i64 V2) := (hc _ _ (by omega)).trans (by go_simp)
  have y2 : w1.cell? ⟨w.heap.size + 1, 2, none⟩ = some (.slice (some ⟨g2, 0, none⟩) ys.length ys.length) := (hc _ _ (by omega)).trans (by go_simp)
  clear hc hf
  go_wp2_with fail
  refine (l01Sum_c L1 V1 L2 V2 g1 0 ts.length g2 0 ys.length ts ys hl1 hl2 HS2.out HD1.out HD2.out _ (by omega) (by omega) (HT1.out.below HW.out hb1) (HT2.out.below HW.out hb2)).mono ?_
  rw [HP.out]
  rintro e w2 ⟨rfl, hb5⟩
  have HB2 := Lib.hid (HB.out.trans (hb5.mono (by omega)))
  have HW := Lib.hid (HW.out.trans (hb5.mono (by omega)))
  have hz2 := hb5.size
  obtain ⟨hc, hf⟩ := bcellB HB2.out
  have r0 : w2.cell? ⟨w.heap.size + 1 + 1, 0, none⟩ = some (.int .i64 0) := (hc _ _ (by omega)).trans (by go_simp)
  have r1 : w2.cell? ⟨w.heap.size + 1 + 1, 1, none⟩ = some (.int .i64 0) := (hc _ _ (by omega)).trans (by go_simp)
  have r2 : w2.cell? ⟨w.heap.size + 1 + 1, 2, none⟩ = some (.slice none 0 0) := (hc _ _ (by omega)).trans (by go_simp)
  have z0 : w2.frozen? ⟨w.heap.size + 1 + 1, 0, none⟩ = false := (hf _ _ (by omega)).trans (by go_simp)
  have z1 : w2.frozen? ⟨w.heap.size + 1 + 1, 1, none⟩ = false := (hf _ _ (by omega)).trans (by go_simp)
  have z2 : w2.frozen? ⟨w.heap.size + 1 + 1, 2, none⟩ = false := (hf _ _ (by omega)).trans (by go_simp)
  have hzz : w.heap.size + 1 + 1 < w2.heap.size := by omega
  clear hb5 hc hf x0 x1 x2 y0 y1 y2
  go_wp2
  refine bodyPost_ret (v := .tuple #[.agg #[.int .i64 0, .int .i64 0, .slice none 0 0], .int .i64 3]) (by simp [results, Try.results7, go_sem, r0, r1, r2, hzz]) rfl (SerPost.err 3 rfl ?_)
  have hW := HW.out
  go_grown

set_option maxRecDepth 100000 in
set_option maxHeartbeats 4000000 in
theorem sAdd_4 (r : List Tm) (h : codeL L1 V1 ts L2 V2 ys = 0) (hp : putAll ts ys = some r) (bd1 : ∀ t ∈ ts, bdT t) (bd2 : ∀ t ∈ ys, bdT t) (hl1 : ts.length ≤ 1048576) (hl2 : ys.length ≤ 1048576) (hs1 : ∀ i (h : i < ts.length), (ts[i]).s.size ≤ maxLen) (hs2 : ∀ i (h : i < ys.length), (ys[i]).s.size ≤ maxLen) (hb1 : g1 < w.heap.size) (hb2 : g2 < w.heap.size) (t1 : TermsIn w g1 0 ts) (t2 : TermsIn w g2 0 ys) :
    Calls Try.prog 7 #[.agg #[.int .i64 L1, .int .i64 V1, .slice (some ⟨g1, 0, none⟩) ts.length ts.length], .agg #[.int .i64 L2, .int .i64 V2, .slice (some ⟨g2, 0, none⟩) ys.length ys.length]] w (SerPost L1 V1 r 0 w) := by
  have HT1 := Lib.hid t1
  have HT2 := Lib.hid t2
  have HS1 := Lib.hid hs1
  have HS2 := Lib.hid hs2
  clear t1 t2 hs1 hs2
  have HC := Lib.hid h
  have HP := Lib.hid hp
  have HD1 := Lib.hid bd1
  have HD2 := Lib.hid bd2
  clear h hp bd1 bd2
  go_enter Try.func7, Try.ntmps7
  go_wp2_with fail
  refine (l01Code_c L1 V1 L2 V2 g1 0 ts.length g2 0 ys.length (w.heap.size + 1 + 1 + 1) ts ys hl1 hl2 HS1.out HS2.out _ (by simp; omega) (by simp; omega) (by simp) ((HT1.out.below (below3 w _ _ _) hb1).below (below1 _ _) (by simp; omega)) ((HT2.out.below (below3 w _ _ _) hb2).below (below1 _ _) (by simp; omega)) (by go_simp) (by go_simp) (by go_simp)).mono ?_
  rintro e w1 ⟨rfl, hbc⟩
  have HB := Lib.hid (show Below (w.heap.size + 1 + 1 + 1) (((w.alloc (.cells #[.int .i64 L1, .int .i64 V1, .slice (some ⟨g1, 0, none⟩) ts.length ts.length] 28)).alloc (.cells #[.int .i64 L2, .int .i64 V2, .slice (some ⟨g2, 0, none⟩) ys.length ys.length] 28)).alloc (.cells #[.int .i64 0, .int .i64 0, .slice none 0 0] 28)) w1 from (below1 (((w.alloc (.cells #[.int .i64 L1, .int .i64 V1, .slice (some ⟨g1, 0, none⟩) ts.length ts.length] 28)).alloc (.cells #[.int .i64 L2, .int .i64 V2, .slice (some ⟨g2, 0, none⟩) ys.length ys.length] 28)).alloc (.cells #[.int .i64 0, .int .i64 0, .slice none 0 0] 28)) _).mono (by simp) |>.trans (hbc.mono (by simp)))
  have HW := Lib.hid ((below3 w _ _ _).trans (HB.out.mono (by omega)))
  have hz1 : w.heap.size + 1 + 1 + 1 < w1.heap.size := by have := hbc.size; simp at this; omega
  clear hbc
  rw [HC.out]
  obtain ⟨hc, hf⟩ := bcellB HB.out
  have x0 : w1.cell? ⟨w.heap.size, 0, none⟩ = some (.int .i64 L1) := (hc _ _ (by omega)).trans (by go_simp)
  have x1 : w1.cell? ⟨w.heap.size, 1, none⟩ = some (.int .i64 V1) := (hc _ _ (by omega)).trans (by go_simp)
  have x2 : w1.cell? ⟨w.heap.size, 2, none⟩ = some (.slice (some ⟨g1, 0, none⟩) ts.length ts.length) := (hc _ _ (by omega)).trans (by go_simp)
  have y0 : w1.cell? ⟨w.heap.size + 1, 0, none⟩ = some (.int .i64 L2) := (hc _ _ (by omega)).trans (by go_simp)
  have y1 : w1.cell? ⟨w.heap.size + 1, 1, none⟩ = some (.int .i64 V2) := (hc _ _ (by omega)).trans (by go_simp)
  have y2 : w1.cell? ⟨w.heap.size + 1, 2, none⟩ = some (.slice (some ⟨g2, 0, none⟩) ys.length ys.length) := (hc _ _ (by omega)).trans (by go_simp)
  clear hc hf
  go_wp2_with fail
  refine (l01Sum_c L1 V1 L2 V2 g1 0 ts.length g2 0 ys.length ts ys hl1 hl2 HS2.out HD1.out HD2.out _ (by omega) (by omega) (HT1.out.below HW.out hb1) (HT2.out.below HW.out hb2)).mono ?_
  rw [HP.out]
  rintro e w2 ⟨a5, c5, rfl, hb5, hN⟩
  have HB2 := Lib.hid (HB.out.trans (hb5.mono (by omega)))
  have HW := Lib.hid (HW.out.trans (hb5.mono (by omega)))
  have hz2 := hb5.size
  have HN := Lib.hid hN
  obtain ⟨hc, hf⟩ := bcellB HB2.out
  have r0 : w2.cell? ⟨w.heap.size + 1 + 1, 0, none⟩ = some (.int .i64 0) := (hc _ _ (by omega)).trans (by go_simp)
  have r1 : w2.cell? ⟨w.heap.size + 1 + 1, 1, none⟩ = some (.int .i64 0) := (hc _ _ (by omega)).trans (by go_simp)
  have r2 : w2.cell? ⟨w.heap.size + 1 + 1, 2, none⟩ = some (.slice none 0 0) := (hc _ _ (by omega)).trans (by go_simp)
  have z0 : w2.frozen? ⟨w.heap.size + 1 + 1, 0, none⟩ = false := (hf _ _ (by omega)).trans (by go_simp)
  have z1 : w2.frozen? ⟨w.heap.size + 1 + 1, 1, none⟩ = false := (hf _ _ (by omega)).trans (by go_simp)
  have z2 : w2.frozen? ⟨w.heap.size + 1 + 1, 2, none⟩ = false := (hf _ _ (by omega)).trans (by go_simp)
  have hzz : w.heap.size + 1 + 1 < w2.heap.size := by omega
  clear hb5 hN hc hf x0 x1 x2 y0 y1 y2
  go_wp2
  refine bodyPost_ret (v := .tuple #[.agg #[.int .i64 L1, .int .i64 V1, .slice a5 r.length c5], .int .i64 0]) (by simp [results, Try.results7, go_sem, r0, r1, r2, hzz]) rfl ⟨a5, c5, rfl, ?_, ?_⟩
  · have hW := HW.out
    go_grown
  · exact (((HN.out.far3 (n := w.heap.size + 1 + 1) (by omega)).below (below1 _ _) (Nat.le_refl _)).mono (by omega) (by simp))

set_option maxRecDepth 100000 in
set_option maxHeartbeats 4000000 in
theorem iAdd_1a (a1 : serB L1 V1 ts = false) (hl1 : ts.length ≤ 1048576) (_hl2 : ys.length ≤ 1048576) (hs1 : ∀ i (h : i < ts.length), (ts[i]).s.size ≤ maxLen) (hs2 : ∀ i (h : i < ys.length), (ys[i]).s.size ≤ maxLen) (hb1 : g1 < w.heap.size) (_hb2 : g2 < w.heap.size) (t1 : TermsIn w g1 0 ts) (t2 : TermsIn w g2 0 ys) :
    Calls Try.prog 9 #[.agg #[.int .i64 L1, .int .i64 V1, .slice (some ⟨g1, 0, none⟩) ts.length ts.length], .agg #[.int .i64 L2, .int .i64 V2, .slice (some ⟨g2, 0, none⟩) ys.length ys.length]] w (SerPost 0 0 [] 1 w) := by
  have HT1 := Lib.hid t1
  have HT2 := Lib.hid t2
  have HS1 := Lib.hid hs1
  have HS2 := Lib.hid hs2
  clear t1 t2 hs1 hs2
  have HA1 := Lib.hid a1
  clear a1
  go_enter Try.func9, Try.ntmps9
  go_wp2_with fail
  refine (iIsSeries_c L1 V1 g1 0 _ ts hl1 HS1.out _ (by simp; omega) (HT1.out.below (below3 w _ _ _) hb1)).mono ?_
  rw [HA1.out]
  rintro e w1 ⟨rfl, hbc⟩
  have HB := Lib.hid (show Below (w.heap.size + 1 + 1 + 1) (((w.alloc (.cells #[.int .i64 L1, .int .i64 V1, .slice (some ⟨g1, 0, none⟩) ts.length ts.length] 28)).alloc (.cells #[.int .i64 L2, .int .i64 V2, .slice (some ⟨g2, 0, none⟩) ys.length ys.length] 28)).alloc (.cells #[.int .i64 0, .int .i64 0, .slice none 0 0] 28)) w1 from hbc.mono (by simp))
  have HW := Lib.hid ((below3 w _ _ _).trans (HB.out.mono (by omega)))
  have hz1 : w.heap.size + 1 + 1 < w1.heap.size := by have := hbc.size; simp at this; omega
  clear hbc
  obtain ⟨hc, hf⟩ := bcellB HB.out
  have r0 : w1.cell? ⟨w.heap.size + 1 + 1, 0, none⟩ = some (.int .i64 0) := (hc _ _ (by omega)).trans (by go_simp)
  have r1 : w1.cell? ⟨w.heap.size + 1 + 1, 1, none⟩ = some (.int .i64 0) := (hc _ _ (by omega)).trans (by go_simp)
  have r2 : w1.cell? ⟨w.heap.size + 1 + 1, 2, none⟩ = some (.slice none 0 0) := (hc _ _ (by omega)).trans (by go_simp)
  have z0 : w1.frozen? ⟨w.heap.size + 1 + 1, 0, none⟩ = false := (hf _ _ (by omega)).trans (by go_simp)
  have z1 : w1.frozen? ⟨w.heap.size + 1 + 1, 1, none⟩ = false := (hf _ _ (by omega)).trans (by go_simp)
  have z2 : w1.frozen? ⟨w.heap.size + 1 + 1, 2, none⟩ = false := (hf _ _ (by omega)).trans (by go_simp)
  have hzz : w.heap.size + 1 + 1 < w1.heap.size := by omega
  clear hc hf
  go_wp2
  refine bodyPost_ret (v := .tuple #[.agg #[.int .i64 0, .int .i64 0, .slice none 0 0], .int .i64 1]) (by simp [results, Try.results9, go_sem, r0, r1, r2]) rfl (SerPost.err 1 rfl ?_)
  have hW := HW.out
  go_grown

set_option maxRecDepth 100000 in
set_option maxHeartbeats 4000000 in
theorem iAdd_1b (a1 : serB L1 V1 ts = true) (a2 : serB L2 V2 ys = false) (hl1 : ts.length ≤ 1048576) (hl2 : ys.length ≤ 1048576) (hs1 : ∀ i (h : i < ts.length), (ts[i]).s.size ≤ maxLen) (hs2 : ∀ i (h : i < ys.length), (ys[i]).s.size ≤ maxLen) (hb1 : g1 < w.heap.size) (hb2 : g2 < w.heap.size) (t1 : TermsIn w g1 0 ts) (t2 : TermsIn w g2 0 ys) :
    Calls Try.prog 9 #[.agg #[.int .i64 L1, .int .i64 V1, .slice (some ⟨g1, 0, none⟩) ts.length ts.length], .agg #[.int .i64 L2, .int .i64 V2, .slice (some ⟨g2, 0, none⟩) ys.length ys.length]] w (SerPost 0 0 [] 1 w) := by
  have HT1 := Lib.hid t1
  have HT2 := Lib.hid t2
  have HS1 := Lib.hid hs1
  have HS2 := Lib.hid hs2
  clear t1 t2 hs1 hs2
  have HA1 := Lib.hid a1
  have HA2 := Lib.hid a2
  clear a1 a2
  go_enter Try.func9, Try.ntmps9
  go_wp2_with fail
  refine (iIsSeries_c L1 V1 g1 0 _ ts hl1 HS1.out _ (by simp; omega) (HT1.out.below (below3 w _ _ _) hb1)).mono ?_
  rw [HA1.out]
  rintro e w1 ⟨rfl, hbc⟩
  have HB := Lib.hid (show Below (w.heap.size + 1 + 1 + 1) (((w.alloc (.cells #[.int .i64 L1, .int .i64 V1, .slice (some ⟨g1, 0, none⟩) ts.length ts.length] 28)).alloc (.cells #[.int .i64 L2, .int .i64 V2, .slice (some ⟨g2, 0, none⟩) ys.length ys.length] 28)).alloc (.cells #[.int .i64 0, .int .i64 0, .slice none 0 0] 28)) w1 from hbc.mono (by simp))
  have HW := Lib.hid ((below3 w _ _ _).trans (HB.out.mono (by omega)))
  have hz1 : w.heap.size + 1 + 1 < w1.heap.size := by have := hbc.size; simp at this; omega
  clear hbc
  obtain ⟨hc, hf⟩ := bcellB HB.out
  have x0 : w1.cell? ⟨w.heap.size, 0, none⟩ = some (.int .i64 L1) := (hc _ _ (by omega)).trans (by go_simp)
  have x1 : w1.cell? ⟨w.heap.size, 1, none⟩ = some (.int .i64 V1) := (hc _ _ (by omega)).trans (by go_simp)
  have x2 : w1.cell? ⟨w.heap.size, 2, none⟩ = some (.slice (some ⟨g1, 0, none⟩) ts.length ts.length) := (hc _ _ (by omega)).trans (by go_simp)
  have y0 : w1.cell? ⟨w.heap.size + 1, 0, none⟩ = some (.int .i64 L2) := (hc _ _ (by omega)).trans (by go_simp)
  have y1 : w1.cell? ⟨w.heap.size + 1, 1, none⟩ = some (.int .i64 V2) := (hc _ _ (by omega)).trans (by go_simp)
  have y2 : w1.cell? ⟨w.heap.size + 1, 2, none⟩ = some (.slice (some ⟨g2, 0, none⟩) ys.length ys.length) := (hc _ _ (by omega)).trans (by go_simp)
  clear hc hf
  go_wp2_with fail
  refine (iIsSeries_c L2 V2 g2 0 _ ys hl2 HS2.out _ (by omega) (HT2.out.below HW.out hb2)).mono ?_
  rw [HA2.out]
  rintro e w2 ⟨rfl, hbc⟩
  have HB2 := Lib.hid (HB.out.trans (hbc.mono (by omega)))
  have HW := Lib.hid (HW.out.trans (hbc.mono (by omega)))
  have hz2 := hbc.size
  clear hbc x0 x1 x2 y0 y1 y2
  obtain ⟨hc, hf⟩ := bcellB HB2.out
  have r0 : w2.cell? ⟨w.heap.size + 1 + 1, 0, none⟩ = some (.int .i64 0) := (hc _ _ (by omega)).trans (by go_simp)
  have r1 : w2.cell? ⟨w.heap.size + 1 + 1, 1, none⟩ = some (.int .i64 0) := (hc _ _ (by omega)).trans (by go_simp)
  have r2 : w2.cell? ⟨w.heap.size + 1 + 1, 2, none⟩ = some (.slice none 0 0) := (hc _ _ (by omega)).trans (by go_simp)
  have z0 : w2.frozen? ⟨w.heap.size + 1 + 1, 0, none⟩ = false := (hf _ _ (by omega)).trans (by go_simp)
  have z1 : w2.frozen? ⟨w.heap.size + 1 + 1, 1, none⟩ = false := (hf _ _ (by omega)).trans (by go_simp)
  have z2 : w2.frozen? ⟨w.heap.size + 1 + 1, 2, none⟩ = false := (hf _ _ (by omega)).trans (by go_simp)
  have hzz : w.heap.size + 1 + 1 < w2.heap.size := by omega
  clear hc hf
  go_wp2
  refine bodyPost_ret (v := .tuple #[.agg #[.int .i64 0, .int .i64 0, .slice none 0 0], .int .i64 1]) (by simp [results, Try.results9, go_sem, r0, r1, r2]) rfl (SerPost.err 1 rfl ?_)
  have hW := HW.out
  go_grown

set_option maxRecDepth 100000 in
set_option maxHeartbeats 4000000 in
theorem iAdd_2 (a1 : serB L1 V1 ts = true) (a2 : serB L2 V2 ys = true) (a3 : alikeB L1 V1 L2 V2 = false) (hl1 : ts.length ≤ 1048576) (hl2 : ys.length ≤ 1048576) (hs1 : ∀ i (h : i < ts.length), (ts[i]).s.size ≤ maxLen) (hs2 : ∀ i (h : i < ys.length), (ys[i]).s.size ≤ maxLen) (hb1 : g1 < w.heap.size) (hb2 : g2 < w.heap.size) (t1 : TermsIn w g1 0 ts) (t2 : TermsIn w g2 0 ys) :
    Calls Try.prog 9 #[.agg #[.int .i64 L1, .int .i64 V1, .slice (some ⟨g1, 0, none⟩) ts.length ts.length], .agg #[.int .i64 L2, .int .i64 V2, .slice (some ⟨g2, 0, none⟩) ys.length ys.length]] w (SerPost 0 0 [] 2 w) := by
  have HT1 := Lib.hid t1
  have HT2 := Lib.hid t2
  have HS1 := Lib.hid hs1
  have HS2 := Lib.hid hs2
  clear t1 t2 hs1 hs2
  have HA1 := Lib.hid a1
  have HA2 := Lib.hid a2
  have HA3 := Lib.hid a3
  clear a1 a2 a3
  go_enter Try.func9, Try.ntmps9
  go_wp2_with fail
  refine (iIsSeries_c L1 V1 g1 0 _ ts hl1 HS1.out _ (by simp; omega) (HT1.out.below (below3 w _ _ _) hb1)).mono ?_
  rw [HA1.out]
  rintro e w1 ⟨rfl, hbc⟩
  have HB := Lib.hid (show Below (w.heap.size + 1 + 1 + 1) (((w.alloc (.cells #[.int .i64 L1, .int .i64 V1, .slice (some ⟨g1, 0, none⟩) ts.length ts.length] 28)).alloc (.cells #[.int .i64 L2, .int .i64 V2, .slice (some ⟨g2, 0, none⟩) ys.length ys.length] 28)).alloc (.cells #[.int .i64 0, .int .i64 0, .slice none 0 0] 28)) w1 from hbc.mono (by simp))
  have HW := Lib.hid ((below3 w _ _ _).trans (HB.out.mono (by omega)))
  have hz1 : w.heap.size + 1 + 1 < w1.heap.size := by have := hbc.size; simp at this; omega
  clear hbc
  obtain ⟨hc, hf⟩ := bcellB HB.out
  have x0 : w1.cell? ⟨w.heap.size, 0, none⟩ = some (.int .i64 L1) := (hc _ _ (by omega)).trans (by go_simp)
  have x1 : w1.cell? ⟨w.heap.size, 1, none⟩ = some (.int .i64 V1) := (hc _ _ (by omega)).trans (by go_simp)
  have x2 : w1.cell? ⟨w.heap.size, 2, none⟩ = some (.slice (some ⟨g1, 0, none⟩) ts.length ts.length) := (hc _ _ (by omega)).trans (by go_simp)
  have y0 : w1.cell? ⟨w.heap.size + 1, 0, none⟩ = some (.int .i64 L2) := (hc _ _ (by omega)).trans (by go_simp)
  have y1 : w1.cell? ⟨w.heap.size + 1, 1, none⟩ = some (.int .i64 V2) := (hc _ _ (by omega)).trans (by go_simp)
  have y2 : w1.cell? ⟨w.heap.size + 1, 2, none⟩ = some (.slice (some ⟨g2, 0, none⟩) ys.length ys.length) := (hc _ _ (by omega)).trans (by go_simp)
  clear hc hf
  go_wp2_with fail
  refine (iIsSeries_c L2 V2 g2 0 _ ys hl2 HS2.out _ (by omega) (HT2.out.below HW.out hb2)).mono ?_
  rw [HA2.out]
  rintro e w2 ⟨rfl, hbc⟩
  have HB2 := Lib.hid (HB.out.trans (hbc.mono (by omega)))
  have HW := Lib.hid (HW.out.trans (hbc.mono (by omega)))
  have hz2 := hbc.size
  clear hbc x0 x1 x2 y0 y1 y2
  obtain ⟨hc, hf⟩ := bcellB HB2.out
  have x0 : w2.cell? ⟨w.heap.size, 0, none⟩ = some (.int .i64 L1) := (hc _ _ (by omega)).trans (by go_simp)
  have x1 : w2.cell? ⟨w.heap.size, 1, none⟩ = some (.int .i64 V1) := (hc _ _ (by omega)).trans (by go_simp)
  have x2 : w2.cell? ⟨w.heap.size, 2, none⟩ = some (.slice (some ⟨g1, 0, none⟩) ts.length ts.length) := (hc _ _ (by omega)).trans (by go_simp)
  have y0 : w2.cell? ⟨w.heap.size + 1, 0, none⟩ = some (.int .i64 L2) := (hc _ _ (by omega)).trans (by go_simp)
  have y1 : w2.cell? ⟨w.heap.size + 1, 1, none⟩ = some (.int .i64 V2) := (hc _ _ (by omega)).trans (by go_simp)
  have y2 : w2.cell? ⟨w.heap.size + 1, 2, none⟩ = some (.slice (some ⟨g2, 0, none⟩) ys.length ys.length) := (hc _ _ (by omega)).trans (by go_simp)
  clear hc hf
  go_wp2_with fail
  refine (areAlike_c L1 V1 L2 V2 _ _ _ _ _ _ _).mono ?_
  rw [HA3.out]
  rintro e w3 ⟨rfl, hbc⟩
  have HB3 := Lib.hid (HB2.out.trans (hbc.mono (by omega)))
  have HW := Lib.hid (HW.out.trans (hbc.mono (by omega)))
  have hz3 := hbc.size
  clear hbc x0 x1 x2 y0 y1 y2
  obtain ⟨hc, hf⟩ := bcellB HB3.out
  have r0 : w3.cell? ⟨w.heap.size + 1 + 1, 0, none⟩ = some (.int .i64 0) := (hc _ _ (by omega)).trans (by go_simp)
  have r1 : w3.cell? ⟨w.heap.size + 1 + 1, 1, none⟩ = some (.int .i64 0) := (hc _ _ (by omega)).trans (by go_simp)
  have r2 : w3.cell? ⟨w.heap.size + 1 + 1, 2, none⟩ = some (.slice none 0 0) := (hc _ _ (by omega)).trans (by go_simp)
  have z0 : w3.frozen? ⟨w.heap.size + 1 + 1, 0, none⟩ = false := (hf _ _ (by omega)).trans (by go_simp)
  have z1 : w3.frozen? ⟨w.heap.size + 1 + 1, 1, none⟩ = false := (hf _ _ (by omega)).trans (by go_simp)
  have z2 : w3.frozen? ⟨w.heap.size + 1 + 1, 2, none⟩ = false := (hf _ _ (by omega)).trans (by go_simp)
  have hzz : w.heap.size + 1 + 1 < w3.heap.size := by omega
  clear hc hf
  go_wp2
  refine bodyPost_ret (v := .tuple #[.agg #[.int .i64 0, .int .i64 0, .slice none 0 0], .int .i64 2]) (by simp [results, Try.results9, go_sem, r0, r1, r2]) rfl (SerPost.err 2 rfl ?_)
  have hW := HW.out
  go_grown

set_option maxRecDepth 100000 in
set_option maxHeartbeats 4000000 in
theorem iAdd_3 (a1 : serB L1 V1 ts = true) (a2 : serB L2 V2 ys = true) (a3 : alikeB L1 V1 L2 V2 = true) (f1 : ∀ t ∈ ts, isF t.n t.d = true) (f2 : ∀ t ∈ ys, isF t.n t.d = true) (hp : mergeL ts ys = none) (hl1 : ts.length ≤ 1048576) (hl2 : ys.length ≤ 1048576) (hs1 : ∀ i (h : i < ts.length), (ts[i]).s.size ≤ maxLen) (hs2 : ∀ i (h : i < ys.length), (ys[i]).s.size ≤ maxLen) (hb1 : g1 < w.heap.size) (hb2 : g2 < w.heap.size) (t1 : TermsIn w g1 0 ts) (t2 : TermsIn w g2 0 ys) :
    Calls Try.prog 9 #[.agg #[.int .i64 L1, .int .i64 V1, .slice (some ⟨g1, 0, none⟩) ts.length ts.length], .agg #[.int .i64 L2, .int .i64 V2, .slice (some ⟨g2, 0, none⟩) ys.length ys.length]] w (SerPost 0 0 [] 3 w) := by
  have HT1 := Lib.hid t1
  have HT2 := Lib.hid t2
  have HS1 := Lib.hid hs1
  have HS2 := Lib.hid hs2
  clear t1 t2 hs1 hs2
  have HA1 := Lib.hid a1
  have HA2 := Lib.hid a2
  have HA3 := Lib.hid a3
  have HP := Lib.hid hp
  have HF1 := Lib.hid f1
  have HF2 := Lib.hid f2
  clear a1 a2 a3 hp f1 f2
  go_enter Try.func9, Try.ntmps9
  go_wp2_with fail
  refine (iIsSeries_c L1 V1 g1 0 _ ts hl1 HS1.out _ (by simp; omega) (HT1.out.below (below3 w _ _ _) hb1)).mono ?_
  rw [HA1.out]
  rintro e w1 ⟨rfl, hbc⟩
  have HB := Lib.hid (show Below (w.heap.size + 1 + 1 + 1) (((w.alloc (.cells #[.int .i64 L1, .int .i64 V1, .slice (some ⟨g1, 0, none⟩) ts.length ts.length] 28)).alloc (.cells #[.int .i64 L2, .int .i64 V2, .slice (some ⟨g2, 0, none⟩) ys.length ys.length] 28)).alloc (.cells #[.int .i64 0, .int .i64 0, .slice none 0 0] 28)) w1 from hbc.mono (by simp))
  have HW := Lib.hid ((below3 w _ _ _).trans (HB.out.mono (by omega)))
  have hz1 : w.heap.size + 1 + 1 < w1.heap.size := by have := hbc.size; simp at this; omega
  clear hbc
  obtain ⟨hc, hf⟩ := bcellB HB.out
  have x0 : w1.cell? ⟨w.heap.size, 0, none⟩ = some (.int .i64 L1) := (hc _ _ (by omega)).trans (by go_simp)
  have x1 : w1.cell? ⟨w.heap.size, 1, none⟩ = some (.int .i64 V1) := (hc _ _ (by omega)).trans (by go_simp)
  have x2 : w1.cell? ⟨w.heap.size, 2, none⟩ = some (.slice (some ⟨g1, 0, none⟩) ts.length ts.length) := (hc _ _ (by omega)).trans (by go_simp)
  have y0 : w1.cell? ⟨w.heap.size + 1, 0, none⟩ = some (.int .i64 L2) := (hc _ _ (by omega)).trans (by go_simp)
  have y1 : w1.cell? ⟨w.heap.size + 1, 1, none⟩ = some (.int .i64 V2) := (hc _ _ (by omega)).trans (by go_simp)
  have y2 : w1.cell? ⟨w.heap.size + 1, 2, none⟩ = some (.slice (some ⟨g2, 0, none⟩) ys.length ys.length) := (hc _ _ (by omega)).trans (by go_simp)
  clear hc hf
  go_wp2_with fail
  refine (iIsSeries_c L2 V2 g2 0 _ ys hl2 HS2.out _ (by omega) (HT2.out.below HW.out hb2)).mono ?_
  rw [HA2.out]
  rintro e w2 ⟨rfl, hbc⟩
  have HB2 := Lib.hid (HB.out.trans (hbc.mono (by omega)))
  have HW := Lib.hid (HW.out.trans (hbc.mono (by omega)))
  have hz2 := hbc.size
  clear hbc x0 x1 x2 y0 y1 y2
  obtain ⟨hc, hf⟩ := bcellB HB2.out
  have x0 : w2.cell? ⟨w.heap.size, 0, none⟩ = some (.int .i64 L1) := (hc _ _ (by omega)).trans (by go_simp)
  have x1 : w2.cell? ⟨w.heap.size, 1, none⟩ = some (.int .i64 V1) := (hc _ _ (by omega)).trans (by go_simp)
  have x2 : w2.cell? ⟨w.heap.size, 2, none⟩ = some (.slice (some ⟨g1, 0, none⟩) ts.length ts.length) := (hc _ _ (by omega)).trans (by go_simp)
  have y0 : w2.cell? ⟨w.heap.size + 1, 0, none⟩ = some (.int .i64 L2) := (hc _ _ (by omega)).trans (by go_simp)
  have y1 : w2.cell? ⟨w.heap.size + 1, 1, none⟩ = some (.int .i64 V2) := (hc _ _ (by omega)).trans (by go_simp)
  have y2 : w2.cell? ⟨w.heap.size + 1, 2, none⟩ = some (.slice (some ⟨g2, 0, none⟩) ys.length ys.length) := (hc _ _ (by omega)).trans (by go_simp)
  clear hc hf
  go_wp2_with fail
  refine (areAlike_c L1 V1 L2 V2 _ _ _ _ _ _ _).mono ?_
  rw [HA3.out]
  rintro e w3 ⟨rfl, hbc⟩
  have HB3 := Lib.hid (HB2.out.trans (hbc.mono (by omega)))
  have HW := Lib.hid (HW.out.trans (hbc.mono (by omega)))
  have hz3 := hbc.size
  clear hbc x0 x1 x2 y0 y1 y2
  obtain ⟨hc, hf⟩ := bcellB HB3.out
  have x0 : w3.cell? ⟨w.heap.size, 0, none⟩ = some (.int .i64 L1) := (hc _ _ (by omega)).trans (by go_simp)
  have x1 : w3.cell? ⟨w.heap.size, 1, none⟩ = some (.int .i64 V1) := (hc _ _ (by omega)).trans (by go_simp)
  have x2 : w3.cell? ⟨w.heap.size, 2, none⟩ = some (.slice (some ⟨g1, 0, none⟩) ts.length ts.length) := (hc _ _ (by omega)).trans (by go_simp)
  have y0 : w3.cell? ⟨w.heap.size + 1, 0, none⟩ = some (.int .i64 L2) := (hc _ _ (by omega)).trans (by go_simp)
  have y1 : w3.cell? ⟨w.heap.size + 1, 1, none⟩ = some (.int .i64 V2) := (hc _ _ (by omega)).trans (by go_simp)
  have y2 : w3.cell? ⟨w.heap.size + 1, 2, none⟩ = some (.slice (some ⟨g2, 0, none⟩) ys.length ys.length) := (hc _ _ (by omega)).trans (by go_simp)
  clear hc hf
  go_wp2_with fail
  refine (addTerms_c (some ⟨g1, 0, none⟩) (some ⟨g2, 0, none⟩) _ _ ts ys hl1 hl2 (Nat.le_refl _) (Nat.le_refl _) HF1.out HF2.out _ (.inr ⟨g1, 0, rfl, by omega, HT1.out.below HW.out hb1⟩) (.inr ⟨g2, 0, rfl, by omega, HT2.out.below HW.out hb2⟩)).mono ?_
  rw [HP.out]
  rintro e w4 ⟨rfl, hb5⟩
  have HB4 := Lib.hid (HB3.out.trans (hb5.mono (by omega)))
  have HW := Lib.hid (HW.out.trans (hb5.mono (by omega)))
  have hz4 := hb5.size
  obtain ⟨hc, hf⟩ := bcellB HB4.out
  have r0 : w4.cell? ⟨w.heap.size + 1 + 1, 0, none⟩ = some (.int .i64 0) := (hc _ _ (by omega)).trans (by go_simp)
  have r1 : w4.cell? ⟨w.heap.size + 1 + 1, 1, none⟩ = some (.int .i64 0) := (hc _ _ (by omega)).trans (by go_simp)
  have r2 : w4.cell? ⟨w.heap.size + 1 + 1, 2, none⟩ = some (.slice none 0 0) := (hc _ _ (by omega)).trans (by go_simp)
  have z0 : w4.frozen? ⟨w.heap.size + 1 + 1, 0, none⟩ = false := (hf _ _ (by omega)).trans (by go_simp)
  have z1 : w4.frozen? ⟨w.heap.size + 1 + 1, 1, none⟩ = false := (hf _ _ (by omega)).trans (by go_simp)
  have z2 : w4.frozen? ⟨w.heap.size + 1 + 1, 2, none⟩ = false := (hf _ _ (by omega)).trans (by go_simp)
  have hzz : w.heap.size + 1 + 1 < w4.heap.size := by omega
  clear hb5 hc hf x0 x1 x2 y0 y1 y2
  go_wp2
  refine bodyPost_ret (v := .tuple #[.agg #[.int .i64 0, .int .i64 0, .slice none 0 0], .int .i64 3]) (by simp [results, Try.results9, go_sem, r0, r1, r2]) rfl (SerPost.err 3 rfl ?_)
  have hW := HW.out
  go_grown

set_option maxRecDepth 100000 in
set_option maxHeartbeats 4000000 in
theorem iAdd_4 (a1 : serB L1 V1 ts = true) (a2 : serB L2 V2 ys = true) (a3 : alikeB L1 V1 L2 V2 = true) (f1 : ∀ t ∈ ts, isF t.n t.d = true) (f2 : ∀ t ∈ ys, isF t.n t.d = true) (r : List Tm) (hp : mergeL ts ys = some r) (hrs : ∀ t ∈ r, t.s.size ≤ 5) (hl1 : ts.length ≤ 1048576) (hl2 : ys.length ≤ 1048576) (hs1 : ∀ i (h : i < ts.length), (ts[i]).s.size ≤ maxLen) (hs2 : ∀ i (h : i < ys.length), (ys[i]).s.size ≤ maxLen) (hb1 : g1 < w.heap.size) (hb2 : g2 < w.heap.size) (t1 : TermsIn w g1 0 ts) (t2 : TermsIn w g2 0 ys) :
    Calls Try.prog 9 #[.agg #[.int .i64 L1, .int .i64 V1, .slice (some ⟨g1, 0, none⟩) ts.length ts.length], .agg #[.int .i64 L2, .int .i64 V2, .slice (some ⟨g2, 0, none⟩) ys.length ys.length]] w (SerPost L1 V1 r 0 w) := by
  have HT1 := Lib.hid t1
  have HT2 := Lib.hid t2
  have HS1 := Lib.hid hs1
  have HS2 := Lib.hid hs2
  clear t1 t2 hs1 hs2
  have HA1 := Lib.hid a1
  have HA2 := Lib.hid a2
  have HA3 := Lib.hid a3
  have HP := Lib.hid hp
  have HF1 := Lib.hid f1
  have HF2 := Lib.hid f2
  have HRs := Lib.hid hrs
  clear a1 a2 a3 hp f1 f2 hrs
  go_enter Try.func9, Try.ntmps9
  go_wp2_with fail
  refine (iIsSeries_c L1 V1 g1 0 _ ts hl1 HS1.out _ (by simp; omega) (HT1.out.below (below3 w _ _ _) hb1)).mono ?_
  rw [HA1.out]
  rintro e w1 ⟨rfl, hbc⟩
  have HB := Lib.hid (show Below (w.heap.size + 1 + 1 + 1) (((w.alloc (.cells #[.int .i64 L1, .int .i64 V1, .slice (some ⟨g1, 0, none⟩) ts.length ts.length] 28)).alloc (.cells #[.int .i64 L2, .int .i64 V2, .slice (some ⟨g2, 0, none⟩) ys.length ys.length] 28)).alloc (.cells #[.int .i64 0, .int .i64 0, .slice none 0 0] 28)) w1 from hbc.mono (by simp))
  have HW := Lib.hid ((below3 w _ _ _).trans (HB.out.mono (by omega)))
  have hz1 : w.heap.size + 1 + 1 < w1.heap.size := by have := hbc.size; simp at this; omega
  clear hbc
  obtain ⟨hc, hf⟩ := bcellB HB.out
  have x0 : w1.cell? ⟨w.heap.size, 0, none⟩ = some (.int .i64 L1) := (hc _ _ (by omega)).trans (by go_simp)
  have x1 : w1.cell? ⟨w.heap.size, 1, none⟩ = some (.int .i64 V1) := (hc _ _ (by omega)).trans (by go_simp)
  have x2 : w1.cell? ⟨w.heap.size, 2, none⟩ = some (.slice (some ⟨g1, 0, none⟩) ts.length ts.length) := (hc _ _ (by omega)).trans (by go_simp)
  have y0 : w1.cell? ⟨w.heap.size + 1, 0, none⟩ = some (.int .i64 L2) := (hc _ _ (by omega)).trans (by go_simp)
  have y1 : w1.cell? ⟨w.heap.size + 1, 1, none⟩ = some (.int .i64 V2) := (hc _ _ (by omega)).trans (by go_simp)
  have y2 : w1.cell? ⟨w.heap.size + 1, 2, none⟩ = some (.slice (some ⟨g2, 0, none⟩) ys.length ys.length) := (hc _ _ (by omega)).trans (by go_simp)
  clear hc hf
  go_wp2_with fail
  refine (iIsSeries_c L2 V2 g2 0 _ ys hl2 HS2.out _ (by omega) (HT2.out.below HW.out hb2)).mono ?_
  rw [HA2.out]
  rintro e w2 ⟨rfl, hbc⟩
  have HB2 := Lib.hid (HB.out.trans (hbc.mono (by omega)))
  have HW := Lib.hid (HW.out.trans (hbc.mono (by omega)))
  have hz2 := hbc.size
  clear hbc x0 x1 x2 y0 y1 y2
  obtain ⟨hc, hf⟩ := bcellB HB2.out
  have x0 : w2.cell? ⟨w.heap.size, 0, none⟩ = some (.int .i64 L1) := (hc _ _ (by omega)).trans (by go_simp)
  have x1 : w2.cell? ⟨w.heap.size, 1, none⟩ = some (.int .i64 V1) := (hc _ _ (by omega)).trans (by go_simp)
  have x2 : w2.cell? ⟨w.heap.size, 2, none⟩ = some (.slice (some ⟨g1, 0, none⟩) ts.length ts.length) := (hc _ _ (by omega)).trans (by go_simp)
  have y0 : w2.cell? ⟨w.heap.size + 1, 0, none⟩ = some (.int .i64 L2) := (hc _ _ (by omega)).trans (by go_simp)
  have y1 : w2.cell? ⟨w.heap.size + 1, 1, none⟩ = some (.int .i64 V2) := (hc _ _ (by omega)).trans (by go_simp)
  have y2 : w2.cell? ⟨w.heap.size + 1, 2, none⟩ = some (.slice (some ⟨g2, 0, none⟩) ys.length ys.length) := (hc _ _ (by omega)).trans (by go_simp)
  clear hc hf
  go_wp2_with fail
  refine (areAlike_c L1 V1 L2 V2 _ _ _ _ _ _ _).mono ?_
  rw [HA3.out]
  rintro e w3 ⟨rfl, hbc⟩
  have HB3 := Lib.hid (HB2.out.trans (hbc.mono (by omega)))
  have HW := Lib.hid (HW.out.trans (hbc.mono (by omega)))
  have hz3 := hbc.size
  clear hbc x0 x1 x2 y0 y1 y2
  obtain ⟨hc, hf⟩ := bcellB HB3.out
  have x0 : w3.cell? ⟨w.heap.size, 0, none⟩ = some (.int .i64 L1) := (hc _ _ (by omega)).trans (by go_simp)
  have x1 : w3.cell? ⟨w.heap.size, 1, none⟩ = some (.int .i64 V1) := (hc _ _ (by omega)).trans (by go_simp)
  have x2 : w3.cell? ⟨w.heap.size, 2, none⟩ = some (.slice (some ⟨g1, 0, none⟩) ts.length ts.length) := (hc _ _ (by omega)).trans (by go_simp)
  have y0 : w3.cell? ⟨w.heap.size + 1, 0, none⟩ = some (.int .i64 L2) := (hc _ _ (by omega)).trans (by go_simp)
  have y1 : w3.cell? ⟨w.heap.size + 1, 1, none⟩ = some (.int .i64 V2) := (hc _ _ (by omega)).trans (by go_simp)
  have y2 : w3.cell? ⟨w.heap.size + 1, 2, none⟩ = some (.slice (some ⟨g2, 0, none⟩) ys.length ys.length) := (hc _ _ (by omega)).trans (by go_simp)
  clear hc hf
  go_wp2_with fail
  refine (addTerms_c (some ⟨g1, 0, none⟩) (some ⟨g2, 0, none⟩) _ _ ts ys hl1 hl2 (Nat.le_refl _) (Nat.le_refl _) HF1.out HF2.out _ (.inr ⟨g1, 0, rfl, by omega, HT1.out.below HW.out hb1⟩) (.inr ⟨g2, 0, rfl, by omega, HT2.out.below HW.out hb2⟩)).mono ?_
  rw [HP.out]
  rintro e w4 ⟨a5, c5, rfl, hb5, hN⟩
  have HB4 := Lib.hid (HB3.out.trans (hb5.mono (by omega)))
  have HW := Lib.hid (HW.out.trans (hb5.mono (by omega)))
  have hz4 := hb5.size
  have HN := Lib.hid hN
  have hrl := mergeL_length HP.out
  obtain ⟨hc, hf⟩ := bcellB HB4.out
  have x0 : w4.cell? ⟨w.heap.size, 0, none⟩ = some (.int .i64 L1) := (hc _ _ (by omega)).trans (by go_simp)
  have x1 : w4.cell? ⟨w.heap.size, 1, none⟩ = some (.int .i64 V1) := (hc _ _ (by omega)).trans (by go_simp)
  have x2 : w4.cell? ⟨w.heap.size, 2, none⟩ = some (.slice (some ⟨g1, 0, none⟩) ts.length ts.length) := (hc _ _ (by omega)).trans (by go_simp)
  have y0 : w4.cell? ⟨w.heap.size + 1, 0, none⟩ = some (.int .i64 L2) := (hc _ _ (by omega)).trans (by go_simp)
  have y1 : w4.cell? ⟨w.heap.size + 1, 1, none⟩ = some (.int .i64 V2) := (hc _ _ (by omega)).trans (by go_simp)
  have y2 : w4.cell? ⟨w.heap.size + 1, 2, none⟩ = some (.slice (some ⟨g2, 0, none⟩) ys.length ys.length) := (hc _ _ (by omega)).trans (by go_simp)
  clear hb5 hN hc hf
  go_wp2_with fail
  refine (newSeries4_c L1 V1 a5 c5 r (by omega) (fun i hi => by have := HRs.out _ (List.getElem_mem hi); omega) _ HN.out.row).mono ?_
  rintro e w5 ⟨g5, rfl, hb5, hg5, hM5, hT5⟩
  have HB5 := Lib.hid (HB4.out.trans (hb5.mono (by omega)))
  have HW := Lib.hid (HW.out.trans (hb5.mono (by omega)))
  have hz5 := hb5.size
  have HN5 := Lib.hid (NewRow.of_to (lo := w4.heap.size) hg5 hM5 hT5)
  obtain ⟨hc, hf⟩ := bcellB HB5.out
  have r0 : w5.cell? ⟨w.heap.size + 1 + 1, 0, none⟩ = some (.int .i64 0) := (hc _ _ (by omega)).trans (by go_simp)
  have r1 : w5.cell? ⟨w.heap.size + 1 + 1, 1, none⟩ = some (.int .i64 0) := (hc _ _ (by omega)).trans (by go_simp)
  have r2 : w5.cell? ⟨w.heap.size + 1 + 1, 2, none⟩ = some (.slice none 0 0) := (hc _ _ (by omega)).trans (by go_simp)
  have z0 : w5.frozen? ⟨w.heap.size + 1 + 1, 0, none⟩ = false := (hf _ _ (by omega)).trans (by go_simp)
  have z1 : w5.frozen? ⟨w.heap.size + 1 + 1, 1, none⟩ = false := (hf _ _ (by omega)).trans (by go_simp)
  have z2 : w5.frozen? ⟨w.heap.size + 1 + 1, 2, none⟩ = false := (hf _ _ (by omega)).trans (by go_simp)
  have hzz : w.heap.size + 1 + 1 < w5.heap.size := by omega
  clear hb5 hg5 hM5 hT5 hc hf x0 x1 x2 y0 y1 y2
  go_wp2
  refine bodyPost_ret (v := .tuple #[.agg #[.int .i64 L1, .int .i64 V1, .slice (some ⟨g5, 0, none⟩) r.length r.length], .int .i64 0]) (by simp [results, Try.results9, go_sem, r0, r1, r2]) rfl ⟨some ⟨g5, 0, none⟩, r.length, rfl, ?_, ?_⟩
  · have hW := HW.out
    go_grown
  · exact (HN5.out.far3 (n := w.heap.size + 1 + 1) (by omega)).mono (by omega) (Nat.le_refl _)

end
end Go.Proofs.Ytbhbcjaaomdlaaa
