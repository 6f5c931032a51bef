/-
  Contracts of HalfShuffle, of the program and of its model: both return the same series and code.
-/
import Derived.Test.YtjloadllckllpaaGreatDoorShmH
import Derived.Test.YtjloadllckllpaaGreatDoorShhW
import Derived.Test.YtjloadllckllpaaGreatDoorAddP
import Derived.Test.YtjloadllckllpaaGreatDoorTol
namespace Go.Proofs.YtjloadllckllpaaGreatDoor
open Go.RowKit
set_option linter.unusedVariables false

/-- the half shuffle of two series, if all fits -/
def hfsL (D N : Nat) (xs ys : List Tm) : Option (List Tm) := (hfM D N ys xs (fun _ => none)).map fun h => termsOf h (allW D N)
theorem ser_drop {L V : Int} {ts : List Tm} (h : serB L V ts = true) (i : Nat) : serB L V (ts.drop i) = true := by
  have hsh : shapeB L V = true := by unfold serB at h; rw [Bool.and_eq_true] at h; exact h.1
  have hall : ∀ k, k < ts.length → goodAt L V ts k = true := by
    have h' := h
    unfold serB at h'
    rw [Bool.and_eq_true, List.all_eq_true] at h'
    exact fun k hk => h'.2 k (List.mem_range.2 hk)
  refine serB_good hsh fun k hk => ?_
  rw [List.length_drop] at hk
  have hik : i + k < ts.length := by omega
  have h1 := hall (i + k) hik
  have e1 : ts[i + k]? = some ts[i + k] := List.getElem?_eq_getElem hik
  have ht := ser_term h ts[i + k] (List.getElem_mem hik)
  cases k with
  | zero => exact goodAt_zero (by rw [List.getElem?_drop]; exact e1) ht
  | succ k =>
    have hik0 : i + k < ts.length := by omega
    have e0 : ts[i + k]? = some ts[i + k] := List.getElem?_eq_getElem hik0
    have h2 := goodAt_succ (L := L) (V := V) (ts := ts) (j := i + k) e1 e0 ht
    rw [goodAt_succ (L := L) (V := V) (ts := ts.drop i) (j := k) (by rw [List.getElem?_drop]; exact e1) (by rw [List.getElem?_drop]; exact e0) ht, ← h2]
    exact h1
theorem row_if {W : World} {g i : Nat} {xs : List Tm} (hg : g < W.heap.size) (ht : TermsIn W g 0 xs) (hi : i ≤ xs.length) : Row W (if xs.length = i then some ⟨g, 0, none⟩ else some ⟨g, i * 3, none⟩) (xs.drop i) := by
  by_cases h : xs.length = i
  · exact .inl (List.drop_eq_nil_of_le (by omega))
  · rw [if_neg h]
    exact .inr ⟨g, i * 3, rfl, hg, by have := drop_in ht hi; rwa [Nat.zero_add] at this⟩
theorem Z3.farSet {w : World} {g : Nat} (h : Z3 w g) {p : Addr} (hp : p.block ≠ g) (u : Value) : Z3 (w.setCell p u) g := by
  obtain ⟨h0, h1, h2, h3, h4, h5, h6⟩ := h
  exact ⟨by simpa using h0, (World.cell?_setCell_far _ _ _ _ hp).trans h1, (World.cell?_setCell_far _ _ _ _ hp).trans h2, (World.cell?_setCell_far _ _ _ _ hp).trans h3, by simpa using h4, by simpa using h5, by simpa using h6⟩
theorem sumsHd_c (D N : Nat) (hD : 1 ≤ D ∧ D ≤ 3) (hN : N ≤ 5) (a1 a2 : Option Addr) (k1 k2 : Nat) (xs ys : List Tm) (i : Nat) (hx : serB (D : Int) (N : Int) (xs.drop i) = true) (hy : serB (D : Int) (N : Int) ys = true) (hlx : xs.length ≤ 1048576) (hly : ys.length ≤ 1048576) (hne : ∀ s ∈ xs.drop i, 0 < s.s.size) (w : World) (t1 : Row w a1 (xs.drop i)) (t2 : Row w a2 ys) :
    Calls Tryz.prog 22 #[.agg #[.int .i64 D, .int .i64 N, .slice a1 (xs.length - i) k1], .agg #[.int .i64 D, .int .i64 N, .slice a2 ys.length k2], .func (.func 28) #[] #[]] w (ShsPost D N ((hfAll D N ys (xs.drop i) (fun _ => none)).map fun h => termsOf h (allW D N)) w) := by
  have h := sumsH_c D N hD hN a1 a2 k1 k2 (xs.drop i) ys hx hy (by rw [List.length_drop]; omega) hly hne w t1 t2
  rw [List.length_drop] at h
  exact h
set_option maxRecDepth 100000 in
set_option maxHeartbeats 4000000 in
theorem sHf_1 (L1 V1 L2 V2 : Int) (g1 g2 : Nat) (xs ys : List Tm) (hl1 : xs.length ≤ 1048576) (hl2 : ys.length ≤ 1048576) (hs1 : ∀ i (h : i < xs.length), (xs[i]).s.size ≤ maxLen) (hs2 : ∀ i (h : i < ys.length), (ys[i]).s.size ≤ maxLen) (c : Int) (hc : codeL L1 V1 xs L2 V2 ys = c) (hc0 : c ≠ 0) (w : World) (hb1 : g1 < w.heap.size) (hb2 : g2 < w.heap.size) (t1 : TermsIn w g1 0 xs) (t2 : TermsIn w g2 0 ys) :
    Calls Tryz.prog 13 #[.agg #[.int .i64 L1, .int .i64 V1, .slice (some ⟨g1, 0, none⟩) xs.length xs.length], .agg #[.int .i64 L2, .int .i64 V2, .slice (some ⟨g2, 0, none⟩) ys.length ys.length]] w (SerPost 0 0 [] c w) := by
  have HT1 := Lib.hid t1
  have HT2 := Lib.hid t2
  have HS1 := Lib.hid hs1
  have HS2 := Lib.hid hs2
  have HC := Lib.hid hc
  have hcn : (c != 0) = true := by simpa using hc0
  clear t1 t2 hs1 hs2 hc hc0
  go_enter Tryz.func13, Tryz.ntmps13
  go_wp2_with fail
  refine (l01Code_c L1 V1 L2 V2 g1 0 xs.length g2 0 ys.length (w.heap.size + 1 + 1 + 1) xs ys hl1 hl2 HS1.out HS2.out _ (by simp; omega) (by simp; omega) (by simp) (HT1.out.below (below4 w _ _ _ _) hb1) (HT2.out.below (below4 w _ _ _ _) hb2) (by go_simp) (by go_simp) (by go_simp)).mono ?_
  rw [HC.out]
  rintro e w1 ⟨rfl, hb⟩
  have hB := hb
  simp only [World.size_alloc] at hB
  have bc := bcellB hB
  have r0 : w1.cell? ⟨w.heap.size + 1 + 1, 0, none⟩ = some (.int .i64 0) := (bc.1 _ _ (by omega)).trans (by go_simp)
  have r1 : w1.cell? ⟨w.heap.size + 1 + 1, 1, none⟩ = some (.int .i64 0) := (bc.1 _ _ (by omega)).trans (by go_simp)
  have r2 : w1.cell? ⟨w.heap.size + 1 + 1, 2, none⟩ = some (.slice none 0 0) := (bc.1 _ _ (by omega)).trans (by go_simp)
  have z0 : w1.frozen? ⟨w.heap.size + 1 + 1, 0, none⟩ = false := (bc.2 _ _ (by omega)).trans (by go_simp)
  have z1 : w1.frozen? ⟨w.heap.size + 1 + 1, 1, none⟩ = false := (bc.2 _ _ (by omega)).trans (by go_simp)
  have z2 : w1.frozen? ⟨w.heap.size + 1 + 1, 2, none⟩ = false := (bc.2 _ _ (by omega)).trans (by go_simp)
  have HW := Lib.hid ((below4 w _ _ _ _).trans (hB.mono (by omega)))
  have hz : w.heap.size + 1 + 1 < w1.heap.size := by have := hB.size; simp at this; omega
  clear bc hB hb
  go_wp2
  refine bodyPost_ret (v := .tuple #[.agg #[.int .i64 0, .int .i64 0, .slice none 0 0], .int .i64 c]) (by simp [results, Tryz.results13, go_sem, r0, r1, r2]) rfl (SerPost.err c rfl ?_)
  have hW := HW.out
  go_grown

set_option maxRecDepth 100000 in
set_option maxHeartbeats 4000000 in
theorem iHf_1 (L1 V1 L2 V2 : Int) (g1 g2 : Nat) (xs ys : List Tm) (hl1 : xs.length ≤ 1048576) (hl2 : ys.length ≤ 1048576) (hs1 : ∀ i (h : i < xs.length), (xs[i]).s.size ≤ maxLen) (hs2 : ∀ i (h : i < ys.length), (ys[i]).s.size ≤ maxLen) (c : Int) (hc : codeL L1 V1 xs L2 V2 ys = c) (hc0 : c ≠ 0) (w : World) (hb1 : g1 < w.heap.size) (hb2 : g2 < w.heap.size) (t1 : TermsIn w g1 0 xs) (t2 : TermsIn w g2 0 ys) :
    Calls Tryz.prog 14 #[.agg #[.int .i64 L1, .int .i64 V1, .slice (some ⟨g1, 0, none⟩) xs.length xs.length], .agg #[.int .i64 L2, .int .i64 V2, .slice (some ⟨g2, 0, none⟩) ys.length ys.length]] w (SerPost 0 0 [] c w) := by
  have HT1 := Lib.hid t1
  have HT2 := Lib.hid t2
  have HS1 := Lib.hid hs1
  have HS2 := Lib.hid hs2
  have HC := Lib.hid hc
  have hcn : (c != 0) = true := by simpa using hc0
  clear t1 t2 hs1 hs2 hc hc0
  go_enter Tryz.func14, Tryz.ntmps14
  go_wp2_with fail
  refine (checkFactors_c L1 V1 L2 V2 g1 g2 _ _ xs ys hl1 hl2 HS1.out HS2.out _ (by simp; omega) (by simp; omega) (HT1.out.below (below3 w _ _ _) hb1) (HT2.out.below (below3 w _ _ _) hb2)).mono ?_
  rw [HC.out]
  rintro e w1 ⟨rfl, hb⟩
  have hB := hb
  simp only [World.size_alloc] at hB
  have bc := bcellB hB
  have r0 : w1.cell? ⟨w.heap.size + 1 + 1, 0, none⟩ = some (.int .i64 0) := (bc.1 _ _ (by omega)).trans (by go_simp)
  have r1 : w1.cell? ⟨w.heap.size + 1 + 1, 1, none⟩ = some (.int .i64 0) := (bc.1 _ _ (by omega)).trans (by go_simp)
  have r2 : w1.cell? ⟨w.heap.size + 1 + 1, 2, none⟩ = some (.slice none 0 0) := (bc.1 _ _ (by omega)).trans (by go_simp)
  have z0 : w1.frozen? ⟨w.heap.size + 1 + 1, 0, none⟩ = false := (bc.2 _ _ (by omega)).trans (by go_simp)
  have z1 : w1.frozen? ⟨w.heap.size + 1 + 1, 1, none⟩ = false := (bc.2 _ _ (by omega)).trans (by go_simp)
  have z2 : w1.frozen? ⟨w.heap.size + 1 + 1, 2, none⟩ = false := (bc.2 _ _ (by omega)).trans (by go_simp)
  have HW := Lib.hid ((below3 w _ _ _).trans (hB.mono (by omega)))
  have hz : w.heap.size + 1 + 1 < w1.heap.size := by have := hB.size; simp at this; omega
  clear bc hB hb
  go_wp2
  refine bodyPost_ret (v := .tuple #[.agg #[.int .i64 0, .int .i64 0, .slice none 0 0], .int .i64 c]) (by simp [results, Tryz.results14, go_sem, r0, r1, r2]) rfl (SerPost.err c rfl ?_)
  have hW := HW.out
  go_grown

set_option maxRecDepth 100000 in
set_option maxHeartbeats 4000000 in
theorem sHf_2 (D N : Nat) (g1 g2 : Nat) (xs ys : List Tm) (hl1 : xs.length ≤ 1048576) (hl2 : ys.length ≤ 1048576) (hs1 : ∀ i (h : i < xs.length), (xs[i]).s.size ≤ maxLen) (hs2 : ∀ i (h : i < ys.length), (ys[i]).s.size ≤ maxLen) (h1 : serB D N xs = true) (h2 : serB D N ys = true) (w : World) (hb1 : g1 < w.heap.size) (hb2 : g2 < w.heap.size) (t1 : TermsIn w g1 0 xs) (t2 : TermsIn w g2 0 ys) :
    Calls Tryz.prog 13 #[.agg #[.int .i64 D, .int .i64 N, .slice (some ⟨g1, 0, none⟩) xs.length xs.length], .agg #[.int .i64 D, .int .i64 N, .slice (some ⟨g2, 0, none⟩) ys.length ys.length]] w (ShsPost D N (hfsL D N xs ys) w) := by
  have hsh : shapeB (D : Int) (N : Int) = true := by unfold serB at h1; rw [Bool.and_eq_true] at h1; exact h1.1
  have hDN := shape_out hsh
  have HT1 := Lib.hid t1
  have HT2 := Lib.hid t2
  have HS1 := Lib.hid hs1
  have HS2 := Lib.hid hs2
  have HC := Lib.hid (codeL_4 h1 h2 (show alikeB (D : Int) (N : Int) (D : Int) (N : Int) = true by simp [alikeB]))
  have HTm := Lib.hid (fun W r1 r2 => l03ShuffleH_c D N (by omega) (by omega) (some ⟨g1, 0, none⟩) (some ⟨g2, 0, none⟩) xs.length ys.length xs ys h1 h2 hl1 hl2 W r1 r2)
  have HMr := Lib.hid (show hfsL D N xs ys = (hfM D N ys xs (fun _ => none)).map (fun h => termsOf h (allW D N)) from rfl)
  clear t1 t2 hs1 hs2 h1 h2 hsh
  go_enter Tryz.func13, Tryz.ntmps13
  go_wp2_with fail
  refine (l01Code_c D N D N g1 0 xs.length g2 0 ys.length (w.heap.size + 1 + 1 + 1) xs ys hl1 hl2 HS1.out HS2.out _ (by simp; omega) (by simp; omega) (by simp) (HT1.out.below (below4 w _ _ _ _) hb1) (HT2.out.below (below4 w _ _ _ _) hb2) (by go_simp) (by go_simp) (by go_simp)).mono ?_
  rw [HC.out]
  rintro e w1 ⟨rfl, hb⟩
  have HB := Lib.hid (show Below (w.heap.size + 1 + 1 + 1) (((w.alloc (.cells #[.int .i64 D, .int .i64 N, .slice (some ⟨g1, 0, none⟩) xs.length xs.length] 28)).alloc (.cells #[.int .i64 D, .int .i64 N, .slice (some ⟨g2, 0, none⟩) ys.length ys.length] 28)).alloc (.cells #[.int .i64 0, .int .i64 0, .slice none 0 0] 28)) w1 from ((Below.refl _ _).alloc (by simp) _).trans (hb.mono (by simp)))
  have HW := Lib.hid ((below3 w _ _ _).trans (HB.out.mono (by omega)))
  have hz1 : w.heap.size + 1 + 1 + 1 ≤ w1.heap.size := by have := HB.out.size; simp at this; omega
  have bc := bcellB HB.out
  have x0 : w1.cell? ⟨w.heap.size, 0, none⟩ = some (.int .i64 D) := (bc.1 _ _ (by omega)).trans (by go_simp)
  have x1 : w1.cell? ⟨w.heap.size, 1, none⟩ = some (.int .i64 N) := (bc.1 _ _ (by omega)).trans (by go_simp)
  have x2 : w1.cell? ⟨w.heap.size, 2, none⟩ = some (.slice (some ⟨g1, 0, none⟩) xs.length xs.length) := (bc.1 _ _ (by omega)).trans (by go_simp)
  have y0 : w1.cell? ⟨w.heap.size + 1, 0, none⟩ = some (.int .i64 D) := (bc.1 _ _ (by omega)).trans (by go_simp)
  have y1 : w1.cell? ⟨w.heap.size + 1, 1, none⟩ = some (.int .i64 N) := (bc.1 _ _ (by omega)).trans (by go_simp)
  have y2 : w1.cell? ⟨w.heap.size + 1, 2, none⟩ = some (.slice (some ⟨g2, 0, none⟩) ys.length ys.length) := (bc.1 _ _ (by omega)).trans (by go_simp)
  clear hb bc
  go_wp2_with fail
  refine (HTm.out _ (.inr ⟨g1, 0, rfl, by omega, HT1.out.below HW.out hb1⟩) (.inr ⟨g2, 0, rfl, by omega, HT2.out.below HW.out hb2⟩)).mono ?_
  rw [← HMr.out]
  clear x0 x1 x2 y0 y1 y2
  cases hr : hfsL D N xs ys with
  | none =>
    rintro e w2 ⟨rfl, hb⟩
    have HB2 := Lib.hid (HB.out.trans (hb.mono (by omega)))
    have hz2 : w.heap.size + 1 + 1 < w2.heap.size := by have := hb.size; omega
    have bc := bcellB HB2.out
    have r0 : w2.cell? ⟨w.heap.size + 1 + 1, 0, none⟩ = some (.int .i64 0) := (bc.1 _ _ (by omega)).trans (by go_simp)
    have r1 : w2.cell? ⟨w.heap.size + 1 + 1, 1, none⟩ = some (.int .i64 0) := (bc.1 _ _ (by omega)).trans (by go_simp)
    have r2 : w2.cell? ⟨w.heap.size + 1 + 1, 2, none⟩ = some (.slice none 0 0) := (bc.1 _ _ (by omega)).trans (by go_simp)
    have z0 : w2.frozen? ⟨w.heap.size + 1 + 1, 0, none⟩ = false := (bc.2 _ _ (by omega)).trans (by go_simp)
    have z1 : w2.frozen? ⟨w.heap.size + 1 + 1, 1, none⟩ = false := (bc.2 _ _ (by omega)).trans (by go_simp)
    have z2 : w2.frozen? ⟨w.heap.size + 1 + 1, 2, none⟩ = false := (bc.2 _ _ (by omega)).trans (by go_simp)
    have HW2 := Lib.hid ((below3 w _ _ _).trans (HB2.out.mono (by omega)))
    have HRr := Lib.hid hr
    clear bc hb hr
    go_wp2
    rw [HRr.out]
    refine bodyPost_ret (v := .tuple #[.agg #[.int .i64 0, .int .i64 0, .slice none 0 0], .int .i64 3]) (by simp [results, Tryz.results13, go_sem, r0, r1, r2, hz2]) rfl (SerPost.err 3 rfl ?_)
    have hW := HW2.out
    go_grown
  | some ts =>
    rintro e w2 ⟨a3, c3, rfl, hb, hN⟩
    have HB2 := Lib.hid (HB.out.trans (hb.mono (by omega)))
    have hz2 : w.heap.size + 1 + 1 < w2.heap.size := by have := hb.size; omega
    have bc := bcellB HB2.out
    have r0 : w2.cell? ⟨w.heap.size + 1 + 1, 0, none⟩ = some (.int .i64 0) := (bc.1 _ _ (by omega)).trans (by go_simp)
    have r1 : w2.cell? ⟨w.heap.size + 1 + 1, 1, none⟩ = some (.int .i64 0) := (bc.1 _ _ (by omega)).trans (by go_simp)
    have r2 : w2.cell? ⟨w.heap.size + 1 + 1, 2, none⟩ = some (.slice none 0 0) := (bc.1 _ _ (by omega)).trans (by go_simp)
    have z0 : w2.frozen? ⟨w.heap.size + 1 + 1, 0, none⟩ = false := (bc.2 _ _ (by omega)).trans (by go_simp)
    have z1 : w2.frozen? ⟨w.heap.size + 1 + 1, 1, none⟩ = false := (bc.2 _ _ (by omega)).trans (by go_simp)
    have z2 : w2.frozen? ⟨w.heap.size + 1 + 1, 2, none⟩ = false := (bc.2 _ _ (by omega)).trans (by go_simp)
    have HW2 := Lib.hid ((below3 w _ _ _).trans (HB2.out.mono (by omega)))
    have HN := Lib.hid hN
    have HRr := Lib.hid hr
    clear bc hb hr hN
    go_wp2
    rw [HRr.out]
    refine bodyPost_ret (v := .tuple #[.agg #[.int .i64 D, .int .i64 N, .slice a3 ts.length c3], .int .i64 0]) (by simp [results, Tryz.results13, go_sem, r0, r1, r2, hz2]) rfl ⟨a3, c3, rfl, ?_, ?_⟩
    · have hW := HW2.out
      go_grown
    · have h := ((HN.out.far1s (n := w.heap.size + 1 + 1) (i := 0) (x := .int .i64 D) (by omega)).far1s (n := w.heap.size + 1 + 1) (i := 1) (x := .int .i64 N) (by omega)).far1s (n := w.heap.size + 1 + 1) (i := 2) (x := .slice a3 ts.length c3) (by omega)
      exact (h.below (below1 _ (.cells #[.int .i64 D, .int .i64 N, .slice a3 ts.length c3] 28)) (by simp)).mono (by omega) (by simp)

set_option maxRecDepth 100000 in
set_option maxHeartbeats 4000000 in
theorem iHf_2 (D N : Nat) (g1 g2 : Nat) (xs ys : List Tm) (hl1 : xs.length ≤ 1048576) (hl2 : ys.length ≤ 1048576) (hs1 : ∀ i (h : i < xs.length), (xs[i]).s.size ≤ maxLen) (hs2 : ∀ i (h : i < ys.length), (ys[i]).s.size ≤ maxLen) (h1 : serB D N xs = true) (h2 : serB D N ys = true) (w : World) (hb1 : g1 < w.heap.size) (hb2 : g2 < w.heap.size) (t1 : TermsIn w g1 0 xs) (t2 : TermsIn w g2 0 ys) :
    Calls Tryz.prog 14 #[.agg #[.int .i64 D, .int .i64 N, .slice (some ⟨g1, 0, none⟩) xs.length xs.length], .agg #[.int .i64 D, .int .i64 N, .slice (some ⟨g2, 0, none⟩) ys.length ys.length]] w (ShsPost D N (hfsL D N xs ys) w) := by
  have hsh : shapeB (D : Int) (N : Int) = true := by unfold serB at h1; rw [Bool.and_eq_true] at h1; exact h1.1
  have hDN := shape_out hsh
  have HT1 := Lib.hid t1
  have HT2 := Lib.hid t2
  have HS1 := Lib.hid hs1
  have HS2 := Lib.hid hs2
  have HC := Lib.hid (codeL_4 h1 h2 (show alikeB (D : Int) (N : Int) (D : Int) (N : Int) = true by simp [alikeB]))
  have HTm := Lib.hid (fun (i : Nat) (hi : ∀ s ∈ xs.drop i, 0 < s.s.size) A W r1 r2 => sumsHd_c D N (by omega) (by omega) A (some ⟨g2, 0, none⟩) (xs.length - i) ys.length xs ys i (ser_drop h1 i) h2 hl1 hl2 hi W r1 r2)
  have HIx := Lib.hid (fun W hb ht => indexOfLength_c g1 0 xs.length xs hl1 hs1 1 (asc_of_ser h1) W hb ht)
  have HCt := Lib.hid (fun i (hp : LPlace xs 1 i) f => hfM_cut (D := D) (N := N) (ys := ys) (xs := xs) (i := i) (fun k hk h => by have := hp.2.1 k hk h; omega) (fun k hk h => by have := hp.2.2 k hk h; omega) f)
  have HMr := Lib.hid (show hfsL D N xs ys = (hfM D N ys xs (fun _ => none)).map (fun h => termsOf h (allW D N)) from rfl)
  clear t1 t2 hs1 hs2 h1 h2 hsh
  go_enter Tryz.func14, Tryz.ntmps14
  go_wp2_with fail
  refine (checkFactors_c D N D N g1 g2 _ _ xs ys hl1 hl2 HS1.out HS2.out _ (by simp; omega) (by simp; omega) (HT1.out.below (below3 w _ _ _) hb1) (HT2.out.below (below3 w _ _ _) hb2)).mono ?_
  rw [HC.out]
  rintro e w1 ⟨rfl, hb⟩
  have HB := Lib.hid (show Below (w.heap.size + 1 + 1 + 1) (((w.alloc (.cells #[.int .i64 D, .int .i64 N, .slice (some ⟨g1, 0, none⟩) xs.length xs.length] 28)).alloc (.cells #[.int .i64 D, .int .i64 N, .slice (some ⟨g2, 0, none⟩) ys.length ys.length] 28)).alloc (.cells #[.int .i64 0, .int .i64 0, .slice none 0 0] 28)) w1 from by simpa using hb)
  have hz1 : w.heap.size + 1 + 1 + 1 ≤ w1.heap.size := by have := HB.out.size; simp at this; omega
  have HW := Lib.hid ((below3 w _ _ _).trans (HB.out.mono (by omega)))
  have bc := bcellB HB.out
  have x0 : w1.cell? ⟨w.heap.size, 0, none⟩ = some (.int .i64 D) := (bc.1 _ _ (by omega)).trans (by go_simp)
  have x1 : w1.cell? ⟨w.heap.size, 1, none⟩ = some (.int .i64 N) := (bc.1 _ _ (by omega)).trans (by go_simp)
  have x2 : w1.cell? ⟨w.heap.size, 2, none⟩ = some (.slice (some ⟨g1, 0, none⟩) xs.length xs.length) := (bc.1 _ _ (by omega)).trans (by go_simp)
  have y0 : w1.cell? ⟨w.heap.size + 1, 0, none⟩ = some (.int .i64 D) := (bc.1 _ _ (by omega)).trans (by go_simp)
  have y1 : w1.cell? ⟨w.heap.size + 1, 1, none⟩ = some (.int .i64 N) := (bc.1 _ _ (by omega)).trans (by go_simp)
  have y2 : w1.cell? ⟨w.heap.size + 1, 2, none⟩ = some (.slice (some ⟨g2, 0, none⟩) ys.length ys.length) := (bc.1 _ _ (by omega)).trans (by go_simp)
  have xf2 : w1.frozen? ⟨w.heap.size, 2, none⟩ = false := (bc.2 _ _ (by omega)).trans (by go_simp)
  have hzw : w.heap.size + 1 + 1 < w1.heap.size := by omega
  have KX := Lib.hid (show ∀ W, Below w1.heap.size w1 W → (W.cell? ⟨w.heap.size, 0, none⟩ = some (.int .i64 D) ∧ W.cell? ⟨w.heap.size, 1, none⟩ = some (.int .i64 N) ∧ W.cell? ⟨w.heap.size, 2, none⟩ = some (.slice (some ⟨g1, 0, none⟩) xs.length xs.length) ∧ W.cell? ⟨w.heap.size + 1, 0, none⟩ = some (.int .i64 D) ∧ W.cell? ⟨w.heap.size + 1, 1, none⟩ = some (.int .i64 N) ∧ W.cell? ⟨w.heap.size + 1, 2, none⟩ = some (.slice (some ⟨g2, 0, none⟩) ys.length ys.length) ∧ W.frozen? ⟨w.heap.size, 2, none⟩ = false) from fun W hW =>
    ⟨(hW.cell (p := ⟨w.heap.size, 0, none⟩) (by show w.heap.size < _; omega)).trans x0, (hW.cell (p := ⟨w.heap.size, 1, none⟩) (by show w.heap.size < _; omega)).trans x1, (hW.cell (p := ⟨w.heap.size, 2, none⟩) (by show w.heap.size < _; omega)).trans x2, (hW.cell (p := ⟨w.heap.size + 1, 0, none⟩) (by show w.heap.size + 1 < _; omega)).trans y0, (hW.cell (p := ⟨w.heap.size + 1, 1, none⟩) (by show w.heap.size + 1 < _; omega)).trans y1, (hW.cell (p := ⟨w.heap.size + 1, 2, none⟩) (by show w.heap.size + 1 < _; omega)).trans y2, (hW.frozen (p := ⟨w.heap.size, 2, none⟩) (by show w.heap.size < _; omega)).trans xf2⟩)
  have HZ := Lib.hid (show Z3 w1 (w.heap.size + 1 + 1) from ⟨by omega, (bc.1 _ _ (by omega)).trans (by go_simp), (bc.1 _ _ (by omega)).trans (by go_simp), (bc.1 _ _ (by omega)).trans (by go_simp), (bc.2 _ _ (by omega)).trans (by go_simp), (bc.2 _ _ (by omega)).trans (by go_simp), (bc.2 _ _ (by omega)).trans (by go_simp)⟩)
  clear hb bc
  go_upto_region 4 with fail
  go_cut [19] (fun _ wy => ∃ (i : Nat) (A : Option Addr), LPlace xs 1 i ∧ Below w.heap.size w wy ∧ Row wy A (xs.drop i) ∧ wy.cell? ⟨w.heap.size, 0, none⟩ = some (.int .i64 D) ∧ wy.cell? ⟨w.heap.size, 1, none⟩ = some (.int .i64 N) ∧ wy.cell? ⟨w.heap.size, 2, none⟩ = some (.slice A (xs.length - i) (xs.length - i)) ∧ wy.cell? ⟨w.heap.size + 1, 0, none⟩ = some (.int .i64 D) ∧ wy.cell? ⟨w.heap.size + 1, 1, none⟩ = some (.int .i64 N) ∧ wy.cell? ⟨w.heap.size + 1, 2, none⟩ = some (.slice (some ⟨g2, 0, none⟩) ys.length ys.length) ∧ Z3 wy (w.heap.size + 1 + 1))
  case first =>
    go_region_with (first
      | (go_at_call 27; (with_reducible refine (HIx.out _ ?_ ?_).mono ?_); (focus (show g1 < w1.heap.size; omega)); (focus exact HT1.out.below HW.out.drew hb1); rintro e w5 ⟨i, hp, rfl, hb5'⟩; have hb5 : Below w1.heap.size w1 w5 := ⟨hb5'.os, hb5'.tape, hb5'.output, hb5'.size, hb5'.block⟩; have z2 := (KX.out w5 hb5).2.2.1; have zf2 := (KX.out w5 hb5).2.2.2.2.2.2; have hz5 : w.heap.size < w5.heap.size := (by have := hb5.size; omega); have HP := Lib.hid hp; have hi := hp.1; clear hp)
      | fail)
    all_goals
      generalize hA : (if xs.length = i then (some ⟨g1, 0, none⟩ : Option Addr) else some ⟨g1, i * 3, none⟩) = A
      have HA := Lib.hid hA
      clear hA
      go_wp2_with fail
      go_meet
      obtain ⟨k0, k1, _, l0, l1, l2, _⟩ := KX.out w5 hb5
      have hB : Below w.heap.size w (w5.setCell ⟨w.heap.size, 2, none⟩ (.slice A (xs.length - i) (xs.length - i))) := Below.setCell (HW.out.trans (hb5.mono (by omega))) (p := ⟨w.heap.size, 2, none⟩) (Nat.le_refl _) _
      refine ⟨i, A, HP.out, hB, by rw [← HA.out]; rw [← HA.out] at hB; exact row_if (Nat.lt_of_lt_of_le hb1 hB.size) (HT1.out.below hB hb1) hi, by go_simp, by go_simp, by go_simp, by go_simp, by go_simp, by go_simp, (HZ.out.below hb5 (by omega)).farSet (by show w.heap.size ≠ _; omega) _⟩
  case rest =>
    obtain ⟨i, A, hp, hB, hrow, x0, x1, x2, y0, y1, y2, hZ⟩ := hcut
    obtain ⟨w3, rfl⟩ : ∃ w3 : World, w3 = wc := ⟨_, rfl⟩
    have HP := Lib.hid hp
    have HB := Lib.hid hB
    have HZ3 := Lib.hid hZ
    have hz3 := hZ.1
    have HR := Lib.hid hrow
    have HNe := Lib.hid (show ∀ s ∈ xs.drop i, 0 < s.s.size from fun s hs => by
      obtain ⟨k, hk, rfl⟩ := List.getElem_of_mem hs
      rw [List.length_drop] at hk
      have h := hp.2.2 (i + k) (by omega) (by omega)
      rw [List.getElem_drop]
      omega)
    have HMi := Lib.hid (show (hfAll D N ys (xs.drop i) (fun _ => none)).map (fun h => termsOf h (allW D N)) = hfsL D N xs ys by rw [HMr.out, HCt.out i hp])
    clear hp hB hZ hrow
    go_wp2_with fail
    refine (HTm.out i HNe.out A _ HR.out (.inr ⟨g2, 0, rfl, by omega, HT2.out.below HB.out hb2⟩)).mono ?_
    rw [HMi.out]
    clear x0 x1 x2 y0 y1 y2
    cases hr : hfsL D N xs ys with
    | none =>
      rintro e w4 ⟨a3, c3, rfl, hb, hN⟩
      have HZ4 := Lib.hid (HZ3.out.below hb (by omega))
      obtain ⟨hz4, r0, r1, r2, z0, z1, z2⟩ := HZ4.out
      have HW4 := Lib.hid (HB.out.trans (hb.mono (by omega)))
      have HRr := Lib.hid hr
      clear hb hr hN
      go_wp2
      rw [HRr.out]
      refine bodyPost_ret (v := .tuple #[.agg #[.int .i64 0, .int .i64 0, .slice a3 ([] : List Tm).length c3], .int .i64 3]) (by simp [results, Tryz.results14, go_sem, r0, r1, r2]) rfl ⟨a3, c3, rfl, ?_, .inl rfl⟩
      have hW := HW4.out
      go_grown
    | some ts =>
      rintro e w4 ⟨a3, c3, rfl, hb, hN⟩
      have HZ4 := Lib.hid (HZ3.out.below hb (by omega))
      obtain ⟨hz4, r0, r1, r2, z0, z1, z2⟩ := HZ4.out
      have HW4 := Lib.hid (HB.out.trans (hb.mono (by omega)))
      have HN := Lib.hid hN
      have HRr := Lib.hid hr
      clear hb hr hN
      go_wp2
      rw [HRr.out]
      refine bodyPost_ret (v := .tuple #[.agg #[.int .i64 D, .int .i64 N, .slice a3 ts.length c3], .int .i64 0]) (by simp [results, Tryz.results14, go_sem, r0, r1, r2]) rfl ⟨a3, c3, rfl, ?_, ?_⟩
      · have hW := HW4.out
        go_grown
      · exact ((((HN.out.far1s (n := w.heap.size + 1 + 1) (i := 0) (x := .int .i64 D) (by omega)).far1s (n := w.heap.size + 1 + 1) (i := 1) (x := .int .i64 N) (by omega)).far1s (n := w.heap.size + 1 + 1) (i := 2) (x := .slice a3 ts.length c3) (by omega))).mono (by omega) (by simp)
end Go.Proofs.YtjloadllckllpaaGreatDoor
