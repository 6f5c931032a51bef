/-
  Contracts of ShuffleSeries, of the program and of its model: both return the same series and code.
-/
import Derived.Test.YtjloadllckllpaaGreatDoorShmS
import Derived.Test.YtjloadllckllpaaGreatDoorShsD
import Derived.Test.YtjloadllckllpaaGreatDoorPairT
import Derived.Test.YtjloadllckllpaaGreatDoorAddP
namespace Go.Proofs.YtjloadllckllpaaGreatDoor
open Go.RowKit
set_option linter.unusedVariables false

/-- the shuffle of two series, if all fits -/
def shsL (D N : Nat) (xs ys : List Tm) : Option (List Tm) := (shAll D N ys xs (fun _ => none)).map fun h => termsOf h (allW D N)
set_option maxRecDepth 100000 in
set_option maxHeartbeats 4000000 in
theorem sShs_1 (L1 V1 L2 V2 : Int) (g1 g2 : Nat) (xs ys : List Tm) (hl1 : xs.length ≤ 1048576) (hl2 : ys.length ≤ 1048576) (hs1 : ∀ i (h : i < xs.length), (xs[i]).s.size ≤ maxLen) (hs2 : ∀ i (h : i < ys.length), (ys[i]).s.size ≤ maxLen) (c : Int) (hc : codeL L1 V1 xs L2 V2 ys = c) (hc0 : c ≠ 0) (w : World) (hb1 : g1 < w.heap.size) (hb2 : g2 < w.heap.size) (t1 : TermsIn w g1 0 xs) (t2 : TermsIn w g2 0 ys) :
    Calls Tryz.prog 7 #[.agg #[.int .i64 L1, .int .i64 V1, .slice (some ⟨g1, 0, none⟩) xs.length xs.length], .agg #[.int .i64 L2, .int .i64 V2, .slice (some ⟨g2, 0, none⟩) ys.length ys.length]] w (SerPost 0 0 [] c w) := by
  have HT1 := Lib.hid t1
  have HT2 := Lib.hid t2
  have HS1 := Lib.hid hs1
  have HS2 := Lib.hid hs2
  have HC := Lib.hid hc
  have hcn : (c != 0) = true := by simpa using hc0
  clear t1 t2 hs1 hs2 hc hc0
  go_enter Tryz.func7, Tryz.ntmps7
  go_wp2_with fail
  refine (l01Code_c L1 V1 L2 V2 g1 0 xs.length g2 0 ys.length (w.heap.size + 1 + 1 + 1) xs ys hl1 hl2 HS1.out HS2.out _ (by simp; omega) (by simp; omega) (by simp) (HT1.out.below (below4 w _ _ _ _) hb1) (HT2.out.below (below4 w _ _ _ _) hb2) (by go_simp) (by go_simp) (by go_simp)).mono ?_
  rw [HC.out]
  rintro e w1 ⟨rfl, hb⟩
  have hB := hb
  simp only [World.size_alloc] at hB
  have bc := bcellB hB
  have r0 : w1.cell? ⟨w.heap.size + 1 + 1, 0, none⟩ = some (.int .i64 0) := (bc.1 _ _ (by omega)).trans (by go_simp)
  have r1 : w1.cell? ⟨w.heap.size + 1 + 1, 1, none⟩ = some (.int .i64 0) := (bc.1 _ _ (by omega)).trans (by go_simp)
  have r2 : w1.cell? ⟨w.heap.size + 1 + 1, 2, none⟩ = some (.slice none 0 0) := (bc.1 _ _ (by omega)).trans (by go_simp)
  have z0 : w1.frozen? ⟨w.heap.size + 1 + 1, 0, none⟩ = false := (bc.2 _ _ (by omega)).trans (by go_simp)
  have z1 : w1.frozen? ⟨w.heap.size + 1 + 1, 1, none⟩ = false := (bc.2 _ _ (by omega)).trans (by go_simp)
  have z2 : w1.frozen? ⟨w.heap.size + 1 + 1, 2, none⟩ = false := (bc.2 _ _ (by omega)).trans (by go_simp)
  have HW := Lib.hid ((below4 w _ _ _ _).trans (hB.mono (by omega)))
  have hz : w.heap.size + 1 + 1 < w1.heap.size := by have := hB.size; simp at this; omega
  clear bc hB hb
  go_wp2
  refine bodyPost_ret (v := .tuple #[.agg #[.int .i64 0, .int .i64 0, .slice none 0 0], .int .i64 c]) (by simp [results, Tryz.results7, go_sem, r0, r1, r2]) rfl (SerPost.err c rfl ?_)
  have hW := HW.out
  go_grown

set_option maxRecDepth 100000 in
set_option maxHeartbeats 4000000 in
theorem iShs_1 (L1 V1 L2 V2 : Int) (g1 g2 : Nat) (xs ys : List Tm) (hl1 : xs.length ≤ 1048576) (hl2 : ys.length ≤ 1048576) (hs1 : ∀ i (h : i < xs.length), (xs[i]).s.size ≤ maxLen) (hs2 : ∀ i (h : i < ys.length), (ys[i]).s.size ≤ maxLen) (c : Int) (hc : codeL L1 V1 xs L2 V2 ys = c) (hc0 : c ≠ 0) (w : World) (hb1 : g1 < w.heap.size) (hb2 : g2 < w.heap.size) (t1 : TermsIn w g1 0 xs) (t2 : TermsIn w g2 0 ys) :
    Calls Tryz.prog 9 #[.agg #[.int .i64 L1, .int .i64 V1, .slice (some ⟨g1, 0, none⟩) xs.length xs.length], .agg #[.int .i64 L2, .int .i64 V2, .slice (some ⟨g2, 0, none⟩) ys.length ys.length]] w (SerPost 0 0 [] c w) := by
  have HT1 := Lib.hid t1
  have HT2 := Lib.hid t2
  have HS1 := Lib.hid hs1
  have HS2 := Lib.hid hs2
  have HC := Lib.hid hc
  have hcn : (c != 0) = true := by simpa using hc0
  clear t1 t2 hs1 hs2 hc hc0
  go_enter Tryz.func9, Tryz.ntmps9
  go_wp2_with fail
  refine (checkFactors_c L1 V1 L2 V2 g1 g2 _ _ xs ys hl1 hl2 HS1.out HS2.out _ (by simp; omega) (by simp; omega) (HT1.out.below (below3 w _ _ _) hb1) (HT2.out.below (below3 w _ _ _) hb2)).mono ?_
  rw [HC.out]
  rintro e w1 ⟨rfl, hb⟩
  have hB := hb
  simp only [World.size_alloc] at hB
  have bc := bcellB hB
  have r0 : w1.cell? ⟨w.heap.size + 1 + 1, 0, none⟩ = some (.int .i64 0) := (bc.1 _ _ (by omega)).trans (by go_simp)
  have r1 : w1.cell? ⟨w.heap.size + 1 + 1, 1, none⟩ = some (.int .i64 0) := (bc.1 _ _ (by omega)).trans (by go_simp)
  have r2 : w1.cell? ⟨w.heap.size + 1 + 1, 2, none⟩ = some (.slice none 0 0) := (bc.1 _ _ (by omega)).trans (by go_simp)
  have z0 : w1.frozen? ⟨w.heap.size + 1 + 1, 0, none⟩ = false := (bc.2 _ _ (by omega)).trans (by go_simp)
  have z1 : w1.frozen? ⟨w.heap.size + 1 + 1, 1, none⟩ = false := (bc.2 _ _ (by omega)).trans (by go_simp)
  have z2 : w1.frozen? ⟨w.heap.size + 1 + 1, 2, none⟩ = false := (bc.2 _ _ (by omega)).trans (by go_simp)
  have HW := Lib.hid ((below3 w _ _ _).trans (hB.mono (by omega)))
  have hz : w.heap.size + 1 + 1 < w1.heap.size := by have := hB.size; simp at this; omega
  clear bc hB hb
  go_wp2
  refine bodyPost_ret (v := .tuple #[.agg #[.int .i64 0, .int .i64 0, .slice none 0 0], .int .i64 c]) (by simp [results, Tryz.results9, go_sem, r0, r1, r2]) rfl (SerPost.err c rfl ?_)
  have hW := HW.out
  go_grown

set_option maxRecDepth 100000 in
set_option maxHeartbeats 4000000 in
theorem sShs_2 (D N : Nat) (g1 g2 : Nat) (xs ys : List Tm) (hl1 : xs.length ≤ 1048576) (hl2 : ys.length ≤ 1048576) (hs1 : ∀ i (h : i < xs.length), (xs[i]).s.size ≤ maxLen) (hs2 : ∀ i (h : i < ys.length), (ys[i]).s.size ≤ maxLen) (h1 : serB D N xs = true) (h2 : serB D N ys = true) (w : World) (hb1 : g1 < w.heap.size) (hb2 : g2 < w.heap.size) (t1 : TermsIn w g1 0 xs) (t2 : TermsIn w g2 0 ys) :
    Calls Tryz.prog 7 #[.agg #[.int .i64 D, .int .i64 N, .slice (some ⟨g1, 0, none⟩) xs.length xs.length], .agg #[.int .i64 D, .int .i64 N, .slice (some ⟨g2, 0, none⟩) ys.length ys.length]] w (ShsPost D N (shsL D N xs ys) w) := by
  have hsh : shapeB (D : Int) (N : Int) = true := by unfold serB at h1; rw [Bool.and_eq_true] at h1; exact h1.1
  have hDN := shape_out hsh
  have HT1 := Lib.hid t1
  have HT2 := Lib.hid t2
  have HS1 := Lib.hid hs1
  have HS2 := Lib.hid hs2
  have HC := Lib.hid (codeL_4 h1 h2 (show alikeB (D : Int) (N : Int) (D : Int) (N : Int) = true by simp [alikeB]))
  have HTm := Lib.hid (fun W r1 r2 => l03Shuffle_c D N (by omega) (by omega) (some ⟨g1, 0, none⟩) (some ⟨g2, 0, none⟩) xs.length ys.length xs ys h1 h2 hl1 hl2 W r1 r2)
  have HMr := Lib.hid (show shsL D N xs ys = (shAll D N ys xs (fun _ => none)).map (fun h => termsOf h (allW D N)) from rfl)
  clear t1 t2 hs1 hs2 h1 h2 hsh
  go_enter Tryz.func7, Tryz.ntmps7
  go_wp2_with fail
  refine (l01Code_c D N D N g1 0 xs.length g2 0 ys.length (w.heap.size + 1 + 1 + 1) xs ys hl1 hl2 HS1.out HS2.out _ (by simp; omega) (by simp; omega) (by simp) (HT1.out.below (below4 w _ _ _ _) hb1) (HT2.out.below (below4 w _ _ _ _) hb2) (by go_simp) (by go_simp) (by go_simp)).mono ?_
  rw [HC.out]
  rintro e w1 ⟨rfl, hb⟩
  have HB := Lib.hid (show Below (w.heap.size + 1 + 1 + 1) (((w.alloc (.cells #[.int .i64 D, .int .i64 N, .slice (some ⟨g1, 0, none⟩) xs.length xs.length] 28)).alloc (.cells #[.int .i64 D, .int .i64 N, .slice (some ⟨g2, 0, none⟩) ys.length ys.length] 28)).alloc (.cells #[.int .i64 0, .int .i64 0, .slice none 0 0] 28)) w1 from ((Below.refl _ _).alloc (by simp) _).trans (hb.mono (by simp)))
  have HW := Lib.hid ((below3 w _ _ _).trans (HB.out.mono (by omega)))
  have hz1 : w.heap.size + 1 + 1 + 1 ≤ w1.heap.size := by have := HB.out.size; simp at this; omega
  have bc := bcellB HB.out
  have x0 : w1.cell? ⟨w.heap.size, 0, none⟩ = some (.int .i64 D) := (bc.1 _ _ (by omega)).trans (by go_simp)
  have x1 : w1.cell? ⟨w.heap.size, 1, none⟩ = some (.int .i64 N) := (bc.1 _ _ (by omega)).trans (by go_simp)
  have x2 : w1.cell? ⟨w.heap.size, 2, none⟩ = some (.slice (some ⟨g1, 0, none⟩) xs.length xs.length) := (bc.1 _ _ (by omega)).trans (by go_simp)
  have y0 : w1.cell? ⟨w.heap.size + 1, 0, none⟩ = some (.int .i64 D) := (bc.1 _ _ (by omega)).trans (by go_simp)
  have y1 : w1.cell? ⟨w.heap.size + 1, 1, none⟩ = some (.int .i64 N) := (bc.1 _ _ (by omega)).trans (by go_simp)
  have y2 : w1.cell? ⟨w.heap.size + 1, 2, none⟩ = some (.slice (some ⟨g2, 0, none⟩) ys.length ys.length) := (bc.1 _ _ (by omega)).trans (by go_simp)
  clear hb bc
  go_wp2_with fail
  refine (HTm.out _ (.inr ⟨g1, 0, rfl, by omega, HT1.out.below HW.out hb1⟩) (.inr ⟨g2, 0, rfl, by omega, HT2.out.below HW.out hb2⟩)).mono ?_
  rw [← HMr.out]
  clear x0 x1 x2 y0 y1 y2
  cases hr : shsL D N xs ys with
  | none =>
    rintro e w2 ⟨rfl, hb⟩
    have HB2 := Lib.hid (HB.out.trans (hb.mono (by omega)))
    have hz2 : w.heap.size + 1 + 1 < w2.heap.size := by have := hb.size; omega
    have bc := bcellB HB2.out
    have r0 : w2.cell? ⟨w.heap.size + 1 + 1, 0, none⟩ = some (.int .i64 0) := (bc.1 _ _ (by omega)).trans (by go_simp)
    have r1 : w2.cell? ⟨w.heap.size + 1 + 1, 1, none⟩ = some (.int .i64 0) := (bc.1 _ _ (by omega)).trans (by go_simp)
    have r2 : w2.cell? ⟨w.heap.size + 1 + 1, 2, none⟩ = some (.slice none 0 0) := (bc.1 _ _ (by omega)).trans (by go_simp)
    have z0 : w2.frozen? ⟨w.heap.size + 1 + 1, 0, none⟩ = false := (bc.2 _ _ (by omega)).trans (by go_simp)
    have z1 : w2.frozen? ⟨w.heap.size + 1 + 1, 1, none⟩ = false := (bc.2 _ _ (by omega)).trans (by go_simp)
    have z2 : w2.frozen? ⟨w.heap.size + 1 + 1, 2, none⟩ = false := (bc.2 _ _ (by omega)).trans (by go_simp)
    have HW2 := Lib.hid ((below3 w _ _ _).trans (HB2.out.mono (by omega)))
    have HRr := Lib.hid hr
    clear bc hb hr
    go_wp2
    rw [HRr.out]
    refine bodyPost_ret (v := .tuple #[.agg #[.int .i64 0, .int .i64 0, .slice none 0 0], .int .i64 3]) (by simp [results, Tryz.results7, go_sem, r0, r1, r2, hz2]) rfl (SerPost.err 3 rfl ?_)
    have hW := HW2.out
    go_grown
  | some ts =>
    rintro e w2 ⟨a3, c3, rfl, hb, hN⟩
    have HB2 := Lib.hid (HB.out.trans (hb.mono (by omega)))
    have hz2 : w.heap.size + 1 + 1 < w2.heap.size := by have := hb.size; omega
    have bc := bcellB HB2.out
    have r0 : w2.cell? ⟨w.heap.size + 1 + 1, 0, none⟩ = some (.int .i64 0) := (bc.1 _ _ (by omega)).trans (by go_simp)
    have r1 : w2.cell? ⟨w.heap.size + 1 + 1, 1, none⟩ = some (.int .i64 0) := (bc.1 _ _ (by omega)).trans (by go_simp)
    have r2 : w2.cell? ⟨w.heap.size + 1 + 1, 2, none⟩ = some (.slice none 0 0) := (bc.1 _ _ (by omega)).trans (by go_simp)
    have z0 : w2.frozen? ⟨w.heap.size + 1 + 1, 0, none⟩ = false := (bc.2 _ _ (by omega)).trans (by go_simp)
    have z1 : w2.frozen? ⟨w.heap.size + 1 + 1, 1, none⟩ = false := (bc.2 _ _ (by omega)).trans (by go_simp)
    have z2 : w2.frozen? ⟨w.heap.size + 1 + 1, 2, none⟩ = false := (bc.2 _ _ (by omega)).trans (by go_simp)
    have HW2 := Lib.hid ((below3 w _ _ _).trans (HB2.out.mono (by omega)))
    have HN := Lib.hid hN
    have HRr := Lib.hid hr
    clear bc hb hr hN
    go_wp2
    rw [HRr.out]
    refine bodyPost_ret (v := .tuple #[.agg #[.int .i64 D, .int .i64 N, .slice a3 ts.length c3], .int .i64 0]) (by simp [results, Tryz.results7, go_sem, r0, r1, r2, hz2]) rfl ⟨a3, c3, rfl, ?_, ?_⟩
    · have hW := HW2.out
      go_grown
    · have h := ((HN.out.far1s (n := w.heap.size + 1 + 1) (i := 0) (x := .int .i64 D) (by omega)).far1s (n := w.heap.size + 1 + 1) (i := 1) (x := .int .i64 N) (by omega)).far1s (n := w.heap.size + 1 + 1) (i := 2) (x := .slice a3 ts.length c3) (by omega)
      exact (h.below (below1 _ (.cells #[.int .i64 D, .int .i64 N, .slice a3 ts.length c3] 28)) (by simp)).mono (by omega) (by simp)

set_option maxRecDepth 100000 in
set_option maxHeartbeats 4000000 in
theorem iShs_2 (D N : Nat) (g1 g2 : Nat) (xs ys : List Tm) (hl1 : xs.length ≤ 1048576) (hl2 : ys.length ≤ 1048576) (hs1 : ∀ i (h : i < xs.length), (xs[i]).s.size ≤ maxLen) (hs2 : ∀ i (h : i < ys.length), (ys[i]).s.size ≤ maxLen) (h1 : serB D N xs = true) (h2 : serB D N ys = true) (w : World) (hb1 : g1 < w.heap.size) (hb2 : g2 < w.heap.size) (t1 : TermsIn w g1 0 xs) (t2 : TermsIn w g2 0 ys) :
    Calls Tryz.prog 9 #[.agg #[.int .i64 D, .int .i64 N, .slice (some ⟨g1, 0, none⟩) xs.length xs.length], .agg #[.int .i64 D, .int .i64 N, .slice (some ⟨g2, 0, none⟩) ys.length ys.length]] w (ShsPost D N (shsL D N xs ys) w) := by
  have hsh : shapeB (D : Int) (N : Int) = true := by unfold serB at h1; rw [Bool.and_eq_true] at h1; exact h1.1
  have hDN := shape_out hsh
  have HT1 := Lib.hid t1
  have HT2 := Lib.hid t2
  have HS1 := Lib.hid hs1
  have HS2 := Lib.hid hs2
  have HC := Lib.hid (codeL_4 h1 h2 (show alikeB (D : Int) (N : Int) (D : Int) (N : Int) = true by simp [alikeB]))
  have HTm := Lib.hid (fun W r1 r2 => sums_c D N (by omega) (by omega) (some ⟨g1, 0, none⟩) (some ⟨g2, 0, none⟩) xs.length ys.length xs ys h1 h2 hl1 hl2 W r1 r2)
  have HMr := Lib.hid (show shsL D N xs ys = (shAll D N ys xs (fun _ => none)).map (fun h => termsOf h (allW D N)) from rfl)
  clear t1 t2 hs1 hs2 h1 h2 hsh
  go_enter Tryz.func9, Tryz.ntmps9
  go_wp2_with fail
  refine (checkFactors_c D N D N g1 g2 _ _ xs ys hl1 hl2 HS1.out HS2.out _ (by simp; omega) (by simp; omega) (HT1.out.below (below3 w _ _ _) hb1) (HT2.out.below (below3 w _ _ _) hb2)).mono ?_
  rw [HC.out]
  rintro e w1 ⟨rfl, hb⟩
  have HB := Lib.hid (show Below (w.heap.size + 1 + 1 + 1) (((w.alloc (.cells #[.int .i64 D, .int .i64 N, .slice (some ⟨g1, 0, none⟩) xs.length xs.length] 28)).alloc (.cells #[.int .i64 D, .int .i64 N, .slice (some ⟨g2, 0, none⟩) ys.length ys.length] 28)).alloc (.cells #[.int .i64 0, .int .i64 0, .slice none 0 0] 28)) w1 from by simpa using hb)
  have hz1 : w.heap.size + 1 + 1 + 1 ≤ w1.heap.size := by have := HB.out.size; simp at this; omega
  have HW := Lib.hid ((below3 w _ _ _).trans (HB.out.mono (by omega)))
  have bc := bcellB HB.out
  have x0 : w1.cell? ⟨w.heap.size, 0, none⟩ = some (.int .i64 D) := (bc.1 _ _ (by omega)).trans (by go_simp)
  have x1 : w1.cell? ⟨w.heap.size, 1, none⟩ = some (.int .i64 N) := (bc.1 _ _ (by omega)).trans (by go_simp)
  have x2 : w1.cell? ⟨w.heap.size, 2, none⟩ = some (.slice (some ⟨g1, 0, none⟩) xs.length xs.length) := (bc.1 _ _ (by omega)).trans (by go_simp)
  have y0 : w1.cell? ⟨w.heap.size + 1, 0, none⟩ = some (.int .i64 D) := (bc.1 _ _ (by omega)).trans (by go_simp)
  have y1 : w1.cell? ⟨w.heap.size + 1, 1, none⟩ = some (.int .i64 N) := (bc.1 _ _ (by omega)).trans (by go_simp)
  have y2 : w1.cell? ⟨w.heap.size + 1, 2, none⟩ = some (.slice (some ⟨g2, 0, none⟩) ys.length ys.length) := (bc.1 _ _ (by omega)).trans (by go_simp)
  clear hb bc
  go_wp2_with fail
  refine (HTm.out _ (.inr ⟨g1, 0, rfl, by omega, HT1.out.below HW.out hb1⟩) (.inr ⟨g2, 0, rfl, by omega, HT2.out.below HW.out hb2⟩)).mono ?_
  rw [← HMr.out]
  clear x0 x1 x2 y0 y1 y2
  cases hr : shsL D N xs ys with
  | none =>
    rintro e w2 ⟨a3, c3, rfl, hb, hN⟩
    have HB2 := Lib.hid (HB.out.trans (hb.mono (by omega)))
    have hz2 : w.heap.size + 1 + 1 < w2.heap.size := by have := hb.size; omega
    have bc := bcellB HB2.out
    have r0 : w2.cell? ⟨w.heap.size + 1 + 1, 0, none⟩ = some (.int .i64 0) := (bc.1 _ _ (by omega)).trans (by go_simp)
    have r1 : w2.cell? ⟨w.heap.size + 1 + 1, 1, none⟩ = some (.int .i64 0) := (bc.1 _ _ (by omega)).trans (by go_simp)
    have r2 : w2.cell? ⟨w.heap.size + 1 + 1, 2, none⟩ = some (.slice none 0 0) := (bc.1 _ _ (by omega)).trans (by go_simp)
    have z0 : w2.frozen? ⟨w.heap.size + 1 + 1, 0, none⟩ = false := (bc.2 _ _ (by omega)).trans (by go_simp)
    have z1 : w2.frozen? ⟨w.heap.size + 1 + 1, 1, none⟩ = false := (bc.2 _ _ (by omega)).trans (by go_simp)
    have z2 : w2.frozen? ⟨w.heap.size + 1 + 1, 2, none⟩ = false := (bc.2 _ _ (by omega)).trans (by go_simp)
    have HW2 := Lib.hid ((below3 w _ _ _).trans (HB2.out.mono (by omega)))
    have HRr := Lib.hid hr
    have HN := Lib.hid hN
    clear bc hb hr hN
    go_wp2
    rw [HRr.out]
    refine bodyPost_ret (v := .tuple #[.agg #[.int .i64 0, .int .i64 0, .slice a3 ([] : List Tm).length c3], .int .i64 3]) (by simp [results, Tryz.results9, go_sem, r0, r1, r2]) rfl ⟨a3, c3, rfl, ?_, .inl rfl⟩
    have hW := HW2.out
    go_grown
  | some ts =>
    rintro e w2 ⟨a3, c3, rfl, hb, hN⟩
    have HB2 := Lib.hid (HB.out.trans (hb.mono (by omega)))
    have hz2 : w.heap.size + 1 + 1 < w2.heap.size := by have := hb.size; omega
    have bc := bcellB HB2.out
    have r0 : w2.cell? ⟨w.heap.size + 1 + 1, 0, none⟩ = some (.int .i64 0) := (bc.1 _ _ (by omega)).trans (by go_simp)
    have r1 : w2.cell? ⟨w.heap.size + 1 + 1, 1, none⟩ = some (.int .i64 0) := (bc.1 _ _ (by omega)).trans (by go_simp)
    have r2 : w2.cell? ⟨w.heap.size + 1 + 1, 2, none⟩ = some (.slice none 0 0) := (bc.1 _ _ (by omega)).trans (by go_simp)
    have z0 : w2.frozen? ⟨w.heap.size + 1 + 1, 0, none⟩ = false := (bc.2 _ _ (by omega)).trans (by go_simp)
    have z1 : w2.frozen? ⟨w.heap.size + 1 + 1, 1, none⟩ = false := (bc.2 _ _ (by omega)).trans (by go_simp)
    have z2 : w2.frozen? ⟨w.heap.size + 1 + 1, 2, none⟩ = false := (bc.2 _ _ (by omega)).trans (by go_simp)
    have HW2 := Lib.hid ((below3 w _ _ _).trans (HB2.out.mono (by omega)))
    have HN := Lib.hid hN
    have HRr := Lib.hid hr
    clear bc hb hr hN
    go_wp2
    rw [HRr.out]
    refine bodyPost_ret (v := .tuple #[.agg #[.int .i64 D, .int .i64 N, .slice a3 ts.length c3], .int .i64 0]) (by simp [results, Tryz.results9, go_sem, r0, r1, r2]) rfl ⟨a3, c3, rfl, ?_, ?_⟩
    · have hW := HW2.out
      go_grown
    · have hw2 : w.heap.size + 1 + 1 < w1.heap.size := by omega
      exact ((((HN.out.far1s (n := w.heap.size + 1 + 1) (i := 0) (x := .int .i64 D) (by omega)).far1s (n := w.heap.size + 1 + 1) (i := 1) (x := .int .i64 N) (by omega)).far1s (n := w.heap.size + 1 + 1) (i := 2) (x := .slice a3 ts.length c3) (by omega))).mono (by omega) (by simp)
end Go.Proofs.YtjloadllckllpaaGreatDoor
