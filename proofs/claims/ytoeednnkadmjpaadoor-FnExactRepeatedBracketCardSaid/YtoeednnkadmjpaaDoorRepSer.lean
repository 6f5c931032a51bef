/-
  Contracts of RepeatedBracket, of the program and of its model: both return the same series and code.
-/
import Derived.Test.YtoeednnkadmjpaaDoorComV
import Derived.Test.YtoeednnkadmjpaaDoorGate
import Derived.Deep.RegionHeld2
namespace Go.Proofs.YtoeednnkadmjpaaDoor
open Go.RowKit

/-- the commutators of a series' values with others, one in the other -/
def brV (base f : VF) (ws : List ByteArray) : Nat → Option VF
  | 0 => some f
  | k + 1 => (brV base f ws k).bind fun p => commV base p ws
theorem brV_next {base f p : VF} {ws : List ByteArray} {k : Nat} (h : brV base f ws k = some p) : brV base f ws (k + 1) = commV base p ws := by rw [brV, h]; rfl
theorem brV_dead {base f : VF} {ws : List ByteArray} {k : Nat} (h : brV base f ws k = none) : ∀ {m : Nat}, k ≤ m → brV base f ws m = none
  | 0, hm => by obtain rfl : k = 0 := by omega
                exact h
  | m + 1, hm => by
    by_cases e : k = m + 1
    · subst e; exact h
    · rw [brV, brV_dead h (show k ≤ m by omega)]; rfl
theorem brV_good {ws : List ByteArray} {base f : VF} (hf : GoodV ws f) : ∀ {k : Nat} {p : VF}, brV base f ws k = some p → GoodV ws p
  | 0, p, h => by rw [brV] at h; injection h with h; rw [← h]; exact hf
  | k + 1, p, h => by
    rw [brV] at h
    obtain ⟨q, _, h2⟩ := Option.bind_eq_some_iff.1 h
    exact GoodV.commV h2
/-- what a function comes to that returns a series of values, if all fits -/
def FitV (D N : Nat) (r : Option VF) (W : World) (e : Ending) (w' : World) : Prop := match r with | none => SerPost 0 0 [] 3 W e w' | some h => SerPost D N (termsOf h (allW D N)) 0 W e w'

set_option maxRecDepth 100000 in
set_option maxHeartbeats 4000000 in
theorem sRep_1 (L1 V1 L2 V2 K : Int) (g1 g2 : Nat) (xs ys : List Tm) (hl1 : xs.length ≤ 1048576) (hl2 : ys.length ≤ 1048576) (hs1 : ∀ i (h : i < xs.length), (xs[i]).s.size ≤ maxLen) (hs2 : ∀ i (h : i < ys.length), (ys[i]).s.size ≤ maxLen) (c : Int) (hc : codeL L1 V1 xs L2 V2 ys = c) (hc0 : c ≠ 0) (w : World) (hb1 : g1 < w.heap.size) (hb2 : g2 < w.heap.size) (t1 : TermsIn w g1 0 xs) (t2 : TermsIn w g2 0 ys) :
    Calls Tryd.prog 33 #[.agg #[.int .i64 L1, .int .i64 V1, .slice (some ⟨g1, 0, none⟩) xs.length xs.length], .agg #[.int .i64 L2, .int .i64 V2, .slice (some ⟨g2, 0, none⟩) ys.length ys.length], .int .i64 K] w (SerPost 0 0 [] c w) := by
  have HT1 := Lib.hid t1
  have HT2 := Lib.hid t2
  have HS1 := Lib.hid hs1
  have HS2 := Lib.hid hs2
  have HC := Lib.hid hc
  have hcn : (c != 0) = true := by simpa using hc0
  have hce : (c == 0) = false := by simpa using hc0
  clear t1 t2 hs1 hs2 hc hc0
  go_enter Tryd.func33, Tryd.ntmps33
  go_wp2_with fail
  refine (l01Code_c L1 V1 L2 V2 g1 0 xs.length g2 0 ys.length (w.heap.size + 1 + 1 + 1) xs ys hl1 hl2 HS1.out HS2.out _ (by simp; omega) (by simp; omega) (by simp) (HT1.out.below (below4 w _ _ _ _) hb1) (HT2.out.below (below4 w _ _ _ _) hb2) (by go_simp) (by go_simp) (by go_simp)).mono ?_
  rw [HC.out]
  rintro e w1 ⟨rfl, hb⟩
  have hB := hb
  simp only [World.size_alloc] at hB
  have bc := bcellB hB
  have r0 : w1.cell? ⟨w.heap.size + 1 + 1, 0, none⟩ = some (.int .i64 0) := (bc.1 _ _ (by omega)).trans (by go_simp)
  have r1 : w1.cell? ⟨w.heap.size + 1 + 1, 1, none⟩ = some (.int .i64 0) := (bc.1 _ _ (by omega)).trans (by go_simp)
  have r2 : w1.cell? ⟨w.heap.size + 1 + 1, 2, none⟩ = some (.slice none 0 0) := (bc.1 _ _ (by omega)).trans (by go_simp)
  have z0 : w1.frozen? ⟨w.heap.size + 1 + 1, 0, none⟩ = false := (bc.2 _ _ (by omega)).trans (by go_simp)
  have z1 : w1.frozen? ⟨w.heap.size + 1 + 1, 1, none⟩ = false := (bc.2 _ _ (by omega)).trans (by go_simp)
  have z2 : w1.frozen? ⟨w.heap.size + 1 + 1, 2, none⟩ = false := (bc.2 _ _ (by omega)).trans (by go_simp)

  have HW := Lib.hid ((below4 w _ _ _ _).trans (hB.mono (by omega)))
  have hz : w.heap.size + 1 + 1 < w1.heap.size := by have := hB.size; simp at this; omega
  clear bc hB hb
  go_wp2
  refine bodyPost_ret (v := .tuple #[.agg #[.int .i64 0, .int .i64 0, .slice none 0 0], .int .i64 c]) (by simp [results, Tryd.results33, go_sem, r0, r1, r2]) rfl (SerPost.err c rfl ?_)
  have hW := HW.out
  go_grown

set_option maxRecDepth 100000 in
set_option maxHeartbeats 4000000 in
theorem sRep_2 (L1 V1 L2 V2 K : Int) (g1 g2 : Nat) (xs ys : List Tm) (hl1 : xs.length ≤ 1048576) (hl2 : ys.length ≤ 1048576) (hs1 : ∀ i (h : i < xs.length), (xs[i]).s.size ≤ maxLen) (hs2 : ∀ i (h : i < ys.length), (ys[i]).s.size ≤ maxLen) (hc : codeL L1 V1 xs L2 V2 ys = 0) (hK : inB K 0 12 = false) (w : World) (hb1 : g1 < w.heap.size) (hb2 : g2 < w.heap.size) (t1 : TermsIn w g1 0 xs) (t2 : TermsIn w g2 0 ys) :
    Calls Tryd.prog 33 #[.agg #[.int .i64 L1, .int .i64 V1, .slice (some ⟨g1, 0, none⟩) xs.length xs.length], .agg #[.int .i64 L2, .int .i64 V2, .slice (some ⟨g2, 0, none⟩) ys.length ys.length], .int .i64 K] w (SerPost 0 0 [] 2 w) := by
  have HT1 := Lib.hid t1
  have HT2 := Lib.hid t2
  have HS1 := Lib.hid hs1
  have HS2 := Lib.hid hs2
  have HC := Lib.hid hc
  have HK := Lib.hid hK

  clear t1 t2 hs1 hs2 hc hK
  go_enter Tryd.func33, Tryd.ntmps33
  go_wp2_with fail
  refine (l01Code_c L1 V1 L2 V2 g1 0 xs.length g2 0 ys.length (w.heap.size + 1 + 1 + 1) xs ys hl1 hl2 HS1.out HS2.out _ (by simp; omega) (by simp; omega) (by simp) (HT1.out.below (below4 w _ _ _ _) hb1) (HT2.out.below (below4 w _ _ _ _) hb2) (by go_simp) (by go_simp) (by go_simp)).mono ?_
  rw [HC.out]
  rintro e w1 ⟨rfl, hb⟩
  have hB := hb
  simp only [World.size_alloc] at hB
  have bc := bcellB hB
  have r0 : w1.cell? ⟨w.heap.size + 1 + 1, 0, none⟩ = some (.int .i64 0) := (bc.1 _ _ (by omega)).trans (by go_simp)
  have r1 : w1.cell? ⟨w.heap.size + 1 + 1, 1, none⟩ = some (.int .i64 0) := (bc.1 _ _ (by omega)).trans (by go_simp)
  have r2 : w1.cell? ⟨w.heap.size + 1 + 1, 2, none⟩ = some (.slice none 0 0) := (bc.1 _ _ (by omega)).trans (by go_simp)
  have z0 : w1.frozen? ⟨w.heap.size + 1 + 1, 0, none⟩ = false := (bc.2 _ _ (by omega)).trans (by go_simp)
  have z1 : w1.frozen? ⟨w.heap.size + 1 + 1, 1, none⟩ = false := (bc.2 _ _ (by omega)).trans (by go_simp)
  have z2 : w1.frozen? ⟨w.heap.size + 1 + 1, 2, none⟩ = false := (bc.2 _ _ (by omega)).trans (by go_simp)

  have HW := Lib.hid ((below4 w _ _ _ _).trans (hB.mono (by omega)))
  have hz : w.heap.size + 1 + 1 < w1.heap.size := by have := hB.size; simp at this; omega
  clear bc hB hb
  go_wp2_with (first | (go_at_call 54; refine (l01In_c _ _ _ _).mono ?_; rw [HK.out]; rintro e w' ⟨rfl, rfl⟩) | fail)
  refine bodyPost_ret (v := .tuple #[.agg #[.int .i64 0, .int .i64 0, .slice none 0 0], .int .i64 2]) (by simp [results, Tryd.results33, go_sem, r0, r1, r2]) rfl (SerPost.err 2 rfl ?_)
  have hW := HW.out
  go_grown

set_option maxRecDepth 100000 in
set_option maxHeartbeats 4000000 in
theorem iRep_1 (L1 V1 L2 V2 K : Int) (g1 g2 : Nat) (xs ys : List Tm) (hl1 : xs.length ≤ 1048576) (hl2 : ys.length ≤ 1048576) (hs1 : ∀ i (h : i < xs.length), (xs[i]).s.size ≤ maxLen) (hs2 : ∀ i (h : i < ys.length), (ys[i]).s.size ≤ maxLen) (c : Int) (hc : codeL L1 V1 xs L2 V2 ys = c) (hc0 : c ≠ 0) (w : World) (hb1 : g1 < w.heap.size) (hb2 : g2 < w.heap.size) (t1 : TermsIn w g1 0 xs) (t2 : TermsIn w g2 0 ys) :
    Calls Tryd.prog 34 #[.agg #[.int .i64 L1, .int .i64 V1, .slice (some ⟨g1, 0, none⟩) xs.length xs.length], .agg #[.int .i64 L2, .int .i64 V2, .slice (some ⟨g2, 0, none⟩) ys.length ys.length], .int .i64 K] w (SerPost 0 0 [] c w) := by
  have HT1 := Lib.hid t1
  have HT2 := Lib.hid t2
  have HS1 := Lib.hid hs1
  have HS2 := Lib.hid hs2
  have HC := Lib.hid hc
  have hcn : (c != 0) = true := by simpa using hc0

  clear t1 t2 hs1 hs2 hc hc0
  go_enter Tryd.func34, Tryd.ntmps34
  go_wp2_with fail
  refine (checkFactors_c L1 V1 L2 V2 g1 g2 _ _ xs ys hl1 hl2 HS1.out HS2.out _ (by simp; omega) (by simp; omega) (HT1.out.below (below4 w _ _ _ _) hb1) (HT2.out.below (below4 w _ _ _ _) hb2)).mono ?_
  rw [HC.out]
  rintro e w1 ⟨rfl, hb⟩
  have hB := hb
  simp only [World.size_alloc] at hB
  have bc := bcellB hB
  have r0 : w1.cell? ⟨w.heap.size + 1 + 1 + 1, 0, none⟩ = some (.int .i64 0) := (bc.1 _ _ (by omega)).trans (by go_simp)
  have r1 : w1.cell? ⟨w.heap.size + 1 + 1 + 1, 1, none⟩ = some (.int .i64 0) := (bc.1 _ _ (by omega)).trans (by go_simp)
  have r2 : w1.cell? ⟨w.heap.size + 1 + 1 + 1, 2, none⟩ = some (.slice none 0 0) := (bc.1 _ _ (by omega)).trans (by go_simp)
  have z0 : w1.frozen? ⟨w.heap.size + 1 + 1 + 1, 0, none⟩ = false := (bc.2 _ _ (by omega)).trans (by go_simp)
  have z1 : w1.frozen? ⟨w.heap.size + 1 + 1 + 1, 1, none⟩ = false := (bc.2 _ _ (by omega)).trans (by go_simp)
  have z2 : w1.frozen? ⟨w.heap.size + 1 + 1 + 1, 2, none⟩ = false := (bc.2 _ _ (by omega)).trans (by go_simp)
  have k0 : w1.cell? ⟨w.heap.size + 1 + 1, 0, none⟩ = some (.int .i64 K) := (bc.1 _ _ (by omega)).trans (by go_simp)
  have HW := Lib.hid ((below4 w _ _ _ _).trans (hB.mono (by omega)))
  have hz : w.heap.size + 1 + 1 + 1 < w1.heap.size := by have := hB.size; simp at this; omega
  clear bc hB hb
  go_wp2
  refine bodyPost_ret (v := .tuple #[.agg #[.int .i64 0, .int .i64 0, .slice none 0 0], .int .i64 c]) (by simp [results, Tryd.results34, go_sem, r0, r1, r2]) rfl (SerPost.err c rfl ?_)
  have hW := HW.out
  go_grown

set_option maxRecDepth 100000 in
set_option maxHeartbeats 4000000 in
theorem iRep_2 (L1 V1 L2 V2 K : Int) (g1 g2 : Nat) (xs ys : List Tm) (hl1 : xs.length ≤ 1048576) (hl2 : ys.length ≤ 1048576) (hs1 : ∀ i (h : i < xs.length), (xs[i]).s.size ≤ maxLen) (hs2 : ∀ i (h : i < ys.length), (ys[i]).s.size ≤ maxLen) (hc : codeL L1 V1 xs L2 V2 ys = 0) (hK : inB K 0 12 = false) (w : World) (hb1 : g1 < w.heap.size) (hb2 : g2 < w.heap.size) (t1 : TermsIn w g1 0 xs) (t2 : TermsIn w g2 0 ys) :
    Calls Tryd.prog 34 #[.agg #[.int .i64 L1, .int .i64 V1, .slice (some ⟨g1, 0, none⟩) xs.length xs.length], .agg #[.int .i64 L2, .int .i64 V2, .slice (some ⟨g2, 0, none⟩) ys.length ys.length], .int .i64 K] w (SerPost 0 0 [] 2 w) := by
  have HT1 := Lib.hid t1
  have HT2 := Lib.hid t2
  have HS1 := Lib.hid hs1
  have HS2 := Lib.hid hs2
  have HC := Lib.hid hc
  have HK := Lib.hid hK

  clear t1 t2 hs1 hs2 hc hK
  go_enter Tryd.func34, Tryd.ntmps34
  go_wp2_with fail
  refine (checkFactors_c L1 V1 L2 V2 g1 g2 _ _ xs ys hl1 hl2 HS1.out HS2.out _ (by simp; omega) (by simp; omega) (HT1.out.below (below4 w _ _ _ _) hb1) (HT2.out.below (below4 w _ _ _ _) hb2)).mono ?_
  rw [HC.out]
  rintro e w1 ⟨rfl, hb⟩
  have hB := hb
  simp only [World.size_alloc] at hB
  have bc := bcellB hB
  have r0 : w1.cell? ⟨w.heap.size + 1 + 1 + 1, 0, none⟩ = some (.int .i64 0) := (bc.1 _ _ (by omega)).trans (by go_simp)
  have r1 : w1.cell? ⟨w.heap.size + 1 + 1 + 1, 1, none⟩ = some (.int .i64 0) := (bc.1 _ _ (by omega)).trans (by go_simp)
  have r2 : w1.cell? ⟨w.heap.size + 1 + 1 + 1, 2, none⟩ = some (.slice none 0 0) := (bc.1 _ _ (by omega)).trans (by go_simp)
  have z0 : w1.frozen? ⟨w.heap.size + 1 + 1 + 1, 0, none⟩ = false := (bc.2 _ _ (by omega)).trans (by go_simp)
  have z1 : w1.frozen? ⟨w.heap.size + 1 + 1 + 1, 1, none⟩ = false := (bc.2 _ _ (by omega)).trans (by go_simp)
  have z2 : w1.frozen? ⟨w.heap.size + 1 + 1 + 1, 2, none⟩ = false := (bc.2 _ _ (by omega)).trans (by go_simp)
  have k0 : w1.cell? ⟨w.heap.size + 1 + 1, 0, none⟩ = some (.int .i64 K) := (bc.1 _ _ (by omega)).trans (by go_simp)
  have HW := Lib.hid ((below4 w _ _ _ _).trans (hB.mono (by omega)))
  have hz : w.heap.size + 1 + 1 + 1 < w1.heap.size := by have := hB.size; simp at this; omega
  clear bc hB hb
  go_wp2_with (first | (go_at_call 56; refine (isBetween_c _ _ _ _).mono ?_; rw [HK.out]; rintro e w' ⟨rfl, rfl⟩) | fail)
  refine bodyPost_ret (v := .tuple #[.agg #[.int .i64 0, .int .i64 0, .slice none 0 0], .int .i64 2]) (by simp [results, Tryd.results34, go_sem, r0, r1, r2]) rfl (SerPost.err 2 rfl ?_)
  have hW := HW.out
  go_grown

set_option maxRecDepth 100000 in
set_option maxHeartbeats 8000000 in
theorem sRep_3 (D N K : Nat) (g1 g2 : Nat) (xs ys : List Tm) (hl1 : xs.length ≤ 1048576) (hl2 : ys.length ≤ 1048576) (hs1 : ∀ i (h : i < xs.length), (xs[i]).s.size ≤ maxLen) (hs2 : ∀ i (h : i < ys.length), (ys[i]).s.size ≤ maxLen) (h1 : serB D N xs = true) (h2 : serB D N ys = true) (hK : K ≤ 12) (w : World) (hb1 : g1 < w.heap.size) (hb2 : g2 < w.heap.size) (t1 : TermsIn w g1 0 xs) (t2 : TermsIn w g2 0 ys) :
    Calls Tryd.prog 33 #[.agg #[.int .i64 D, .int .i64 N, .slice (some ⟨g1, 0, none⟩) xs.length xs.length], .agg #[.int .i64 D, .int .i64 N, .slice (some ⟨g2, 0, none⟩) ys.length ys.length], .int .i64 K] w (FitV D N (brV (valV xs xs.length) (valV ys ys.length) (allW D N) K) w) := by
  have hsh : shapeB (D : Int) (N : Int) = true := by unfold serB at h1; rw [Bool.and_eq_true] at h1; exact h1.1
  have hDN := shape_out hsh
  have G1 := good_valV h1
  have G2 := good_valV h2
  have HT1 := Lib.hid t1
  have HT2 := Lib.hid t2
  have HS1 := Lib.hid hs1
  have HS2 := Lib.hid hs2
  have HG2 := Lib.hid G2
  have HC := Lib.hid (codeL_4 h1 h2 (show alikeB (D : Int) (N : Int) (D : Int) (N : Int) = true by simp [alikeB]))
  have HK := Lib.hid (show inB (K : Int) 0 12 = true from inB_yes (by omega))
  have hfew := allW_few (D := D) (by omega) (n := N) (by omega)
  have HTm := Lib.hid (fun a c f (hf : GoodV (allW D N) f) W r1 r2 => l02Commutator_c D N (by omega) (by omega) (some ⟨g1, 0, none⟩) a xs.length c _ f G1.1 hf xs _ G1.2 rfl hl1 (by have := termsOf_len f (allW D N); omega) W r1 r2)
  clear t1 t2 hs1 hs2 h1 h2 hsh G1 G2
  go_enter Tryd.func33, Tryd.ntmps33
  go_wp2_with fail
  refine (l01Code_c D N D N g1 0 xs.length g2 0 ys.length (w.heap.size + 1 + 1 + 1) xs ys hl1 hl2 HS1.out HS2.out _ (by simp; omega) (by simp; omega) (by simp) (HT1.out.below (below4 w _ _ _ _) hb1) (HT2.out.below (below4 w _ _ _ _) hb2) (by go_simp) (by go_simp) (by go_simp)).mono ?_
  rw [HC.out]
  rintro e w1 ⟨rfl, hb⟩
  have HB := Lib.hid (show Below (w.heap.size + 1 + 1 + 1) (((w.alloc (.cells #[.int .i64 D, .int .i64 N, .slice (some ⟨g1, 0, none⟩) xs.length xs.length] 24)).alloc (.cells #[.int .i64 D, .int .i64 N, .slice (some ⟨g2, 0, none⟩) ys.length ys.length] 24)).alloc (.cells #[.int .i64 0, .int .i64 0, .slice none 0 0] 24)) w1 from ((Below.refl _ _).alloc (by simp) _).trans (hb.mono (by simp)))
  have HW0 := Lib.hid (below3 w (.cells #[.int .i64 D, .int .i64 N, .slice (some ⟨g1, 0, none⟩) xs.length xs.length] 24) (.cells #[.int .i64 D, .int .i64 N, .slice (some ⟨g2, 0, none⟩) ys.length ys.length] 24) (.cells #[.int .i64 0, .int .i64 0, .slice none 0 0] 24))
  have hz1 : w.heap.size + 1 + 1 + 1 ≤ w1.heap.size := by have := HB.out.size; simp at this; omega
  have bc := bcellB HB.out
  have y0 : w1.cell? ⟨w.heap.size + 1, 0, none⟩ = some (.int .i64 D) := (bc.1 _ _ (by omega)).trans (by go_simp)
  have y1 : w1.cell? ⟨w.heap.size + 1, 1, none⟩ = some (.int .i64 N) := (bc.1 _ _ (by omega)).trans (by go_simp)
  have y2 : w1.cell? ⟨w.heap.size + 1, 2, none⟩ = some (.slice (some ⟨g2, 0, none⟩) ys.length ys.length) := (bc.1 _ _ (by omega)).trans (by go_simp)
  clear hb bc
  go_wp2_with (first | (go_at_call 54; refine (l01In_c _ _ _ _).mono ?_; rw [HK.out]; rintro e w' ⟨rfl, rfl⟩) | fail)
  refine (l01Empty_c D N _ rfl _).mono ?_
  rintro e w2 ⟨g0, rfl, hO, hb2'⟩
  have HB2 := Lib.hid (HB.out.trans (hb2'.mono hz1))
  have hz2 : w1.heap.size ≤ w2.heap.size := hb2'.size
  have HO := Lib.hid (hO.mono hz1)
  have bc := bcellB HB2.out
  have x2 : w2.cell? ⟨w.heap.size + 1, 2, none⟩ = some (.slice (some ⟨g2, 0, none⟩) ys.length ys.length) := (bc.1 _ _ (by omega)).trans (by go_simp)
  have hq1 : w.heap.size + 1 < w2.heap.size := by omega
  have HY2 := Lib.hid (HT2.out.below (HW0.out.trans (HB2.out.mono (by omega))) hb2)
  clear hO hb2' bc y0 y1 y2
  go_wp2_with (at_builtin; go_loud (refine wpList_append_terms rfl _ _ rfl (w.heap.size + 1 + 1 + 1) (.slice (some ⟨g0, 0, none⟩) 0 0) 0 [] ys rfl rfl (HO.out.alloc _) _ ys.length _ rfl rfl (.inr ⟨g2, 0, rfl, HY2.out.below (below1 w2 _) (by omega)⟩) (by omega) (by simp; omega) ?_))
  intro a3 q3 w3 hO3 hG3 hloc3
  have HB3 := Lib.hid ((HB2.out.alloc (by omega) _).trans (own_grown (HO.out.alloc _) hG3 (by simp; omega)))
  have hne3 : (Value.slice (some ⟨g0, 0, none⟩) 0 0).ownBlock ≠ some w2.heap.size := fun e => by have := (HO.out.lt _ e).2; omega
  have HBl := Lib.hid ((Blk.new w2 24 #[.int .i64 D, .int .i64 N, .slice (some ⟨g0, 0, none⟩) 0 0]).grown hG3 (Ne.symm hne3))
  have hz3 : w2.heap.size + 1 ≤ w3.heap.size := by have := hG3.size; simpa using this
  have n2 : w3.cell? ⟨w2.heap.size, 2, none⟩ = some (.slice (some ⟨g0, 0, none⟩) 0 0) := HBl.out.cell 2
  have nf : w3.frozen? ⟨w2.heap.size, 2, none⟩ = false := HBl.out.frozen 2
  have HBz := Lib.hid (HB3.out.setCell (p := ⟨w2.heap.size, 2, none⟩) (by show _ ≤ w2.heap.size; omega) (.slice a3 ys.length q3))
  have HBlz := Lib.hid (HBl.out.set_ 2 (.slice a3 ys.length q3))
  have hO4 := hO3.far (p := ⟨w2.heap.size, 2, none⟩) (fun e => by
    rcases hloc3 with h | h
    · rw [h] at e; exact hne3 e
    · rw [h] at e; simp at e) (.slice a3 ys.length q3)
  obtain ⟨a', c', he, hle3, hNz⟩ := hO4.newRow
  injection he with e1 e2 e3
  subst e1 e3
  have HNz := Lib.hid (show NewRow (w.heap.size + 1 + 1 + 1) (w3.setCell ⟨w2.heap.size, 2, none⟩ (.slice a3 ys.length q3)).heap.size (w3.setCell ⟨w2.heap.size, 2, none⟩ (.slice a3 ys.length q3)) a3 ys from by simpa using hNz)
  clear hO3 hG3 hloc3 hne3 x2 hO4 hNz e2 hle3
  go_wp2_with fail
  go_loopw [2] (fun v2 wr => ∃ (j : Nat) (a : Option Addr) (l c : Nat) (h : VF), j ≤ K ∧ v2 = .int .i64 ((K : Int) - j) ∧ brV (valV xs xs.length) (valV ys ys.length) (allW D N) j = some h ∧ l = (termsOf h (allW D N)).length ∧ NewRow (w.heap.size + 1 + 1 + 1) wr.heap.size wr a (termsOf h (allW D N)) ∧ Blk wr w2.heap.size 24 #[.int .i64 D, .int .i64 N, .slice a l c] ∧ Below (w.heap.size + 1 + 1 + 1) (((w.alloc (.cells #[.int .i64 D, .int .i64 N, .slice (some ⟨g1, 0, none⟩) xs.length xs.length] 24)).alloc (.cells #[.int .i64 D, .int .i64 N, .slice (some ⟨g2, 0, none⟩) ys.length ys.length] 24)).alloc (.cells #[.int .i64 0, .int .i64 0, .slice none 0 0] 24)) wr) (fun v2 _ => (intOf v2).toNat)
  case atStart => exact ⟨0, a3, ys.length, q3, valV ys ys.length, Nat.zero_le _, by simp, rfl, by rw [HG2.out.2], by rw [HG2.out.2]; exact HNz.out, HBlz.out, HBz.out⟩
  case round =>
    clear n2 nf
    obtain ⟨j, a, l, c, h, hj, rfl, hp, hl, hR, hBl, hB⟩ := hrel
    have HP := Lib.hid hp
    have HR := Lib.hid hR
    have HBl := Lib.hid hBl
    have HBk := Lib.hid hB
    have hzn := hBl.lt
    have hzr := hB.size
    simp only [World.size_alloc] at hzr
    have bc := bcellB hB
    have x0 : wr.cell? ⟨w.heap.size, 0, none⟩ = some (.int .i64 D) := (bc.1 _ _ (by omega)).trans (by go_simp)
    have x1 : wr.cell? ⟨w.heap.size, 1, none⟩ = some (.int .i64 N) := (bc.1 _ _ (by omega)).trans (by go_simp)
    have x2 : wr.cell? ⟨w.heap.size, 2, none⟩ = some (.slice (some ⟨g1, 0, none⟩) xs.length xs.length) := (bc.1 _ _ (by omega)).trans (by go_simp)
    have n0 : wr.cell? ⟨w2.heap.size, 0, none⟩ = some (.int .i64 D) := hBl.cell 0
    have n1 : wr.cell? ⟨w2.heap.size, 1, none⟩ = some (.int .i64 N) := hBl.cell 1
    have n2 : wr.cell? ⟨w2.heap.size, 2, none⟩ = some (.slice a l c) := hBl.cell 2
    have HW := Lib.hid ((below3 w (.cells #[.int .i64 D, .int .i64 N, .slice (some ⟨g1, 0, none⟩) xs.length xs.length] 24) (.cells #[.int .i64 D, .int .i64 N, .slice (some ⟨g2, 0, none⟩) ys.length ys.length] 24) (.cells #[.int .i64 0, .int .i64 0, .slice none 0 0] 24)).trans (hB.mono (by omega)))
    subst hl
    clear hp hR hBl hB
    by_cases hjK : j < K
    · have hpos : (0 : Int) < (K : Int) - j := by omega
      have HT := Lib.hid (HTm.out a c h (brV_good HG2.out.1 HP.out) wr (.inr ⟨g1, 0, rfl, by have := HW.out.size; omega, HT1.out.below HW.out hb1⟩) HR.out.row)
      have HNx := Lib.hid (brV_next HP.out)
      have HDd := Lib.hid (fun e => brV_dead (base := valV xs xs.length) (f := valV ys ys.length) (ws := allW D N) (k := j + 1) e hjK)
      have HLV := Lib.hid (show commL (valV xs xs.length) h (allW D N) = (commV (valV xs xs.length) h (allW D N)).map fun h => termsOf h (allW D N) from rfl)
      clear bc
      go_wp2_with fail
      refine HT.out.mono ?_
      rw [HLV.out]
      clear x0 x1 x2 n0 n1 n2
      cases hv : commV (valV xs xs.length) h (allW D N) with
      | none =>
        rintro e w4 ⟨rfl, hb3⟩
        have HB4 := Lib.hid (HBk.out.trans (hb3.mono hzr))
        have hz4 : w.heap.size + 1 + 1 < w4.heap.size := by have := hb3.size; omega
        have HDn := Lib.hid (HDd.out (HNx.out.trans hv))
        have bc := bcellB HB4.out
        have r0 : w4.cell? ⟨w.heap.size + 1 + 1, 0, none⟩ = some (.int .i64 0) := (bc.1 _ _ (by omega)).trans (by go_simp)
        have r1 : w4.cell? ⟨w.heap.size + 1 + 1, 1, none⟩ = some (.int .i64 0) := (bc.1 _ _ (by omega)).trans (by go_simp)
        have r2 : w4.cell? ⟨w.heap.size + 1 + 1, 2, none⟩ = some (.slice none 0 0) := (bc.1 _ _ (by omega)).trans (by go_simp)
        have z0 : w4.frozen? ⟨w.heap.size + 1 + 1, 0, none⟩ = false := (bc.2 _ _ (by omega)).trans (by go_simp)
        have z1 : w4.frozen? ⟨w.heap.size + 1 + 1, 1, none⟩ = false := (bc.2 _ _ (by omega)).trans (by go_simp)
        have z2 : w4.frozen? ⟨w.heap.size + 1 + 1, 2, none⟩ = false := (bc.2 _ _ (by omega)).trans (by go_simp)
        have HW3 := Lib.hid ((below3 w (.cells #[.int .i64 D, .int .i64 N, .slice (some ⟨g1, 0, none⟩) xs.length xs.length] 24) (.cells #[.int .i64 D, .int .i64 N, .slice (some ⟨g2, 0, none⟩) ys.length ys.length] 24) (.cells #[.int .i64 0, .int .i64 0, .slice none 0 0] 24)).trans (HB4.out.mono (by omega)))
        clear bc hb3 hv
        go_wp2
        rw [HDn.out]
        refine bodyPost_ret (v := .tuple #[.agg #[.int .i64 0, .int .i64 0, .slice none 0 0], .int .i64 3]) (by simp [results, Tryd.results33, go_sem, r0, r1, r2, hz4]) rfl (SerPost.err 3 rfl ?_)
        have hW := HW3.out
        go_grown
      | some h' =>
        rintro e w4 ⟨a5, c5, rfl, hb3, hN3⟩
        have HB4 := Lib.hid (HBk.out.trans (hb3.mono hzr))
        have hz4 := hb3.size
        have HBl3 := Lib.hid (((((HBl.out.below hb3 hzn).set_ 0 (.int .i64 D)).set_ 1 (.int .i64 N)).set_ 2 (.slice a5 (termsOf h' (allW D N)).length c5)).alloc (.cells #[.int .i64 D, .int .i64 N, .slice a5 (termsOf h' (allW D N)).length c5] 24))
        have HP3 := Lib.hid (HNx.out.trans hv)
        have HR3 := Lib.hid ((((hN3.far1s (n := w2.heap.size) (i := 0) (x := .int .i64 D) hzn).far1s (n := w2.heap.size) (i := 1) (x := .int .i64 N) hzn).far1s (n := w2.heap.size) (i := 2) (x := .slice a5 (termsOf h' (allW D N)).length c5) hzn).below (below1 _ (.cells #[.int .i64 D, .int .i64 N, .slice a5 (termsOf h' (allW D N)).length c5] 24)) (by simp))
        have hzn3 : w2.heap.size < w4.heap.size := by omega
        have p0 : w4.cell? ⟨w2.heap.size, 0, none⟩ = some (.int .i64 D) := (hb3.cell (p := ⟨w2.heap.size, 0, none⟩) hzn).trans (HBl.out.cell 0)
        have p1 : w4.cell? ⟨w2.heap.size, 1, none⟩ = some (.int .i64 N) := (hb3.cell (p := ⟨w2.heap.size, 1, none⟩) hzn).trans (HBl.out.cell 1)
        have p2 : w4.cell? ⟨w2.heap.size, 2, none⟩ = some (.slice a (termsOf h (allW D N)).length c) := (hb3.cell (p := ⟨w2.heap.size, 2, none⟩) hzn).trans (HBl.out.cell 2)
        have q0 : w4.frozen? ⟨w2.heap.size, 0, none⟩ = false := (hb3.frozen (p := ⟨w2.heap.size, 0, none⟩) hzn).trans (HBl.out.frozen 0)
        have q1 : w4.frozen? ⟨w2.heap.size, 1, none⟩ = false := (hb3.frozen (p := ⟨w2.heap.size, 1, none⟩) hzn).trans (HBl.out.frozen 1)
        have q2 : w4.frozen? ⟨w2.heap.size, 2, none⟩ = false := (hb3.frozen (p := ⟨w2.heap.size, 2, none⟩) hzn).trans (HBl.out.frozen 2)
        clear hb3 hv hN3
        go_wp2
        go_roundw
        case rel =>
          refine ⟨j + 1, a5, (termsOf h' (allW D N)).length, c5, h', hjK, by first | rfl | (congr 1; omega) | go_num, HP3.out, rfl, ?_, ?_, ?_⟩
          · exact HR3.out.mono (by omega) (by simp)
          · exact HBl3.out
          · exact (((HB4.out.setCell (p := ⟨w2.heap.size, 0, none⟩) (by show _ ≤ w2.heap.size; omega) _).setCell (p := ⟨w2.heap.size, 1, none⟩) (by show _ ≤ w2.heap.size; omega) _).setCell (p := ⟨w2.heap.size, 2, none⟩) (by show _ ≤ w2.heap.size; omega) _).alloc (by simp; omega) _
        case measure => simp [intOf]; omega
    · obtain rfl : j = K := by omega
      have hnn : ¬ (0 : Int) < (j : Int) - j := by omega
      have r0 : wr.cell? ⟨w.heap.size + 1 + 1, 0, none⟩ = some (.int .i64 0) := (bc.1 _ _ (by omega)).trans (by go_simp)
      have r1 : wr.cell? ⟨w.heap.size + 1 + 1, 1, none⟩ = some (.int .i64 0) := (bc.1 _ _ (by omega)).trans (by go_simp)
      have r2 : wr.cell? ⟨w.heap.size + 1 + 1, 2, none⟩ = some (.slice none 0 0) := (bc.1 _ _ (by omega)).trans (by go_simp)
      have z0 : wr.frozen? ⟨w.heap.size + 1 + 1, 0, none⟩ = false := (bc.2 _ _ (by omega)).trans (by go_simp)
      have z1 : wr.frozen? ⟨w.heap.size + 1 + 1, 1, none⟩ = false := (bc.2 _ _ (by omega)).trans (by go_simp)
      have z2 : wr.frozen? ⟨w.heap.size + 1 + 1, 2, none⟩ = false := (bc.2 _ _ (by omega)).trans (by go_simp)
      clear bc x0 x1 x2
      go_wp2
      rw [HP.out]
      refine bodyPost_ret (v := .tuple #[.agg #[.int .i64 D, .int .i64 N, .slice a (termsOf h (allW D N)).length c], .int .i64 0]) (by simp [results, Tryd.results33, go_sem, r0, r1, r2]) rfl ⟨a, c, rfl, ?_, ?_⟩
      · have hW := HW.out
        go_grown
      · exact (((HR.out.far1s (n := w.heap.size + 1 + 1) (i := 0) (x := .int .i64 D) (by omega)).far1s (n := w.heap.size + 1 + 1) (i := 1) (x := .int .i64 N) (by omega)).far1s (n := w.heap.size + 1 + 1) (i := 2) (x := .slice a (termsOf h (allW D N)).length c) (by omega)).mono (by omega) (by simp)

set_option maxRecDepth 100000 in
set_option maxHeartbeats 4000000 in
theorem repWork (D N K : Nat) (hD : 1 ≤ D ∧ D ≤ 3) (hN : N ≤ 5) (hK : K ≤ 12) (p px py pk : Nat) (aS a1 a2 : Option Addr) (cS c1 c2 : Nat) (xs ys : List Tm) (h1 : serB D N xs = true) (h2 : serB D N ys = true) (hl1 : xs.length ≤ 1048576) (hl2 : ys.length ≤ 1048576) (hs1 : ∀ i (h : i < xs.length), (xs[i]).s.size ≤ maxLen) (hs2 : ∀ i (h : i < ys.length), (ys[i]).s.size ≤ maxLen) (w : World) (hp : p < w.heap.size) (hpx : px < w.heap.size) (hpy : py < w.heap.size) (hpk : pk < w.heap.size) (s0 : w.cell? ⟨p, 0, none⟩ = some (.int .i64 D)) (s1 : w.cell? ⟨p, 1, none⟩ = some (.int .i64 N)) (s2 : w.cell? ⟨p, 2, none⟩ = some (.slice aS (allW D N).length cS)) (x0 : w.cell? ⟨px, 0, none⟩ = some (.int .i64 D)) (x1 : w.cell? ⟨px, 1, none⟩ = some (.int .i64 N)) (x2 : w.cell? ⟨px, 2, none⟩ = some (.slice a1 xs.length c1)) (y0 : w.cell? ⟨py, 0, none⟩ = some (.int .i64 D)) (y1 : w.cell? ⟨py, 1, none⟩ = some (.int .i64 N)) (y2 : w.cell? ⟨py, 2, none⟩ = some (.slice a2 ys.length c2)) (k0 : w.cell? ⟨pk, 0, none⟩ = some (.int .i64 K)) (hrs : SRow w aS (allW D N)) (hr1 : Row w a1 xs) (hr2 : Row w a2 ys) :
    Calls Tryd.prog 74 #[.pointer (some ⟨px, 0, none⟩), .pointer (some ⟨py, 0, none⟩), .pointer (some ⟨pk, 0, none⟩), .pointer (some ⟨p, 0, none⟩)] w (WorkPost (brV (valV xs xs.length) (valV ys ys.length) (allW D N) K) w) := by
  have hfew := allW_few (D := D) hD.2 (n := N) hN
  have HWl := Lib.hid (show (allW D N).length ≤ 100000 by omega)
  have HWs := Lib.hid (show ∀ s ∈ allW D N, s.size ≤ 1000 from fun s hs => by have := allW_size D N s hs; omega)
  have G1 := good_valV h1
  have G2 := good_valV h2
  have HG1 := Lib.hid (show ∀ s p, valV xs xs.length s = some p → isF p.1 p.2 = true from fun s p e => (G1.1 s p e).2.1)
  have HG2 := Lib.hid G2.1
  have HS1 := Lib.hid hs1
  have HS2 := Lib.hid hs2
  have HAa := Lib.hid (show ∀ p, aS = some p → p.block < w.heap.size from fun p e => by
    rcases hrs with h | ⟨b, o, e2, h3, _⟩
    · obtain ⟨r, hr, _⟩ := allW_head D N
      rw [hr] at h
      cases h
    · rw [e2] at e
      injection e with e
      rw [← e]
      exact h3)
  have HRS := Lib.hid hrs
  have HR1 := Lib.hid hr1
  have HR2 := Lib.hid hr2
  have KS := Lib.hid (show ∀ w', Below w.heap.size w w' → (w'.cell? ⟨p, 0, none⟩ = some (.int .i64 D) ∧ w'.cell? ⟨p, 1, none⟩ = some (.int .i64 N) ∧ w'.cell? ⟨p, 2, none⟩ = some (.slice aS (allW D N).length cS) ∧ w'.cell? ⟨px, 0, none⟩ = some (.int .i64 D) ∧ w'.cell? ⟨px, 1, none⟩ = some (.int .i64 N) ∧ w'.cell? ⟨px, 2, none⟩ = some (.slice a1 xs.length c1) ∧ w'.cell? ⟨py, 0, none⟩ = some (.int .i64 D) ∧ w'.cell? ⟨py, 1, none⟩ = some (.int .i64 N) ∧ w'.cell? ⟨py, 2, none⟩ = some (.slice a2 ys.length c2) ∧ w'.cell? ⟨pk, 0, none⟩ = some (.int .i64 K)) from fun w' hb => ⟨(hb.cell (p := ⟨p, 0, none⟩) hp).trans s0, (hb.cell (p := ⟨p, 1, none⟩) hp).trans s1, (hb.cell (p := ⟨p, 2, none⟩) hp).trans s2, (hb.cell (p := ⟨px, 0, none⟩) hpx).trans x0, (hb.cell (p := ⟨px, 1, none⟩) hpx).trans x1, (hb.cell (p := ⟨px, 2, none⟩) hpx).trans x2, (hb.cell (p := ⟨py, 0, none⟩) hpy).trans y0, (hb.cell (p := ⟨py, 1, none⟩) hpy).trans y1, (hb.cell (p := ⟨py, 2, none⟩) hpy).trans y2, (hb.cell (p := ⟨pk, 0, none⟩) hpk).trans k0⟩)
  clear hs1 hs2 hrs hr1 hr2 h1 h2 G1 G2
  go_enter Tryd.func74, Tryd.ntmps74
  go_upto_region 1 with fail
  go_cut [5, 6] (fun v5 v6 wy => ∃ m1 m2, v5 = .map (some m1) ∧ v6 = .map (some m2) ∧ w.heap.size ≤ m2 ∧ Below w.heap.size w wy ∧ MapV wy m1 xs.length (valV xs xs.length) ∧ MapV wy m2 ys.length (valV ys ys.length))
  case first =>
    go_region_held3 (fun w' => w'.cell? ⟨p, 0, none⟩ = some (.int .i64 D) ∧ w'.cell? ⟨p, 1, none⟩ = some (.int .i64 N) ∧ w'.cell? ⟨p, 2, none⟩ = some (.slice aS (allW D N).length cS) ∧ w'.cell? ⟨px, 0, none⟩ = some (.int .i64 D) ∧ w'.cell? ⟨px, 1, none⟩ = some (.int .i64 N) ∧ w'.cell? ⟨px, 2, none⟩ = some (.slice a1 xs.length c1) ∧ w'.cell? ⟨py, 0, none⟩ = some (.int .i64 D) ∧ w'.cell? ⟨py, 1, none⟩ = some (.int .i64 N) ∧ w'.cell? ⟨py, 2, none⟩ = some (.slice a2 ys.length c2) ∧ w'.cell? ⟨pk, 0, none⟩ = some (.int .i64 K))
      (first | (exact KS.out _ (Below.drew (Below.refl _ _))) | (exact KS.out _ hb1) | (exact KS.out _ hb2) | fail)
      (first
        | (go_at_call 52; have hRd : Row w.drew a1 xs := HR1.out; (with_reducible refine (valuesOf_c D N a1 c1 xs hl1 HS1.out w.drew hRd).mono ?_); rintro e w1 ⟨m1, rfl, hm1, hb1', hM1⟩; have hb1 : Below w.heap.size w w1 := ⟨hb1'.os, hb1'.tape, hb1'.output, hb1'.size, hb1'.block⟩; have hbl1 := hM1.lt)
        | (go_at_call 52; have hRd : Row w1 a2 ys := HR2.out.below hb1; (with_reducible refine (valuesOf_c D N a2 c2 ys hl2 HS2.out w1 hRd).mono ?_); rintro e w2 ⟨m2, rfl, hm2, hb2', hM2⟩; have hb2 := hb1.trans (hb2'.mono hb1.size); have hM1' := hM1.below hb2' hbl1)
        | fail)
    all_goals (go_wp2_with fail; go_meet)
    all_goals exact ⟨m1, m2, rfl, rfl, Nat.le_trans hb1.size hm2, hb2, hM1', hM2⟩
  case rest =>
    obtain ⟨m1, m2, rfl, rfl, hwm, hbc, hM1, hM2⟩ := hcut
    obtain ⟨w2, rfl⟩ : ∃ w2 : World, w2 = wc := ⟨_, rfl⟩
    have HM1 := Lib.hid hM1
    have HM2 := Lib.hid hM2
    have HB2 := Lib.hid hbc
    obtain ⟨s0', s1', s2', x0', x1', x2', y0', y1', y2', k2⟩ := KS.out w2 hbc
    have hz2 := hbc.size
    clear hM1 hM2 hbc s0 s1 s2 x0 x1 x2 y0 y1 y2 k0 s0' s1' s2' x0' x1' x2' y0' y1' y2'
    go_wp2_with fail
    go_loopw [6, 12] (fun v6 v12 wr => ∃ (j : Nat) (h : VF) (b n : Nat), j ≤ K ∧ v6 = .map (some b) ∧ v12 = .int .i64 j ∧ brV (valV xs xs.length) (valV ys ys.length) (allW D N) j = some h ∧ w.heap.size ≤ b ∧ n ≤ 1048576 ∧ MapV wr b n h ∧ MapV wr m1 xs.length (valV xs xs.length) ∧ Below w.heap.size w wr) (fun _ v12 _ => K - (intOf v12).toNat)
    case atStart => exact ⟨0, valV ys ys.length, m2, ys.length, Nat.zero_le _, rfl, rfl, rfl, hwm, hl2, HM2.out, HM1.out, HB2.out⟩
    case round =>
      obtain ⟨j, h, b, n, hj, rfl, rfl, hpw, hwb, hn, hM, hMx, hB⟩ := hrel
      have HP := Lib.hid hpw
      have HM := Lib.hid hM
      have HMx := Lib.hid hMx
      have HB := Lib.hid hB
      have hlb := hM.lt
      have hlx := hMx.lt
      obtain ⟨s0, s1, s2, x0, x1, x2, y0, y1, y2, k0⟩ := KS.out wr hB
      clear hpw hM hMx hB x0 x1 x2 y0 y1 y2 k0 k2
      by_cases hjK : j < K
      · have HNx := Lib.hid (brV_next HP.out)
        have HDd := Lib.hid (fun e => brV_dead (base := valV xs xs.length) (f := valV ys ys.length) (ws := allW D N) (k := j + 1) e hjK)
        have HGp := Lib.hid (show ∀ s p, h s = some p → isF p.1 p.2 = true from fun s p e => (brV_good HG2.out HP.out s p e).2.1)
        have HPr := Lib.hid (commutator_c D N aS cS (allW D N) HWl.out HWs.out (valV xs xs.length) h HG1.out HGp.out m1 xs.length b n wr (HRS.out.below HB.out (Nat.le_refl _)) (fun p e => Nat.lt_of_lt_of_le (HAa.out p e) HB.out.size) HMx.out HM.out)
        go_wp2_with fail
        refine HPr.out.mono ?_
        cases hv : commV (valV xs xs.length) h (allW D N) with
        | none =>
          rintro e w3 ⟨rfl, hb3⟩
          have HDn := Lib.hid (HDd.out (HNx.out.trans hv))
          have HB3 := Lib.hid (HB.out.trans (hb3.mono HB.out.size))
          clear hb3 hv
          go_wp2
          rw [HDn.out]
          exact ⟨rfl, rfl, HB3.out⟩
        | some h' =>
          rintro e w3 ⟨b3, n3, rfl, hb3l, hb3, hn3, hM3⟩
          have HP3 := Lib.hid (HNx.out.trans hv)
          have HB3 := Lib.hid (HB.out.trans (hb3.mono HB.out.size))
          have HM3 := Lib.hid hM3
          have HMx3 := Lib.hid (HMx.out.below hb3 hlx)
          have hzr := HB.out.size
          clear hb3 hv hM3 s0 s1 s2
          go_wp2
          go_roundw
          case rel => exact ⟨j + 1, h', b3, n3, hjK, rfl, by go_num, HP3.out, by omega, hn3, HM3.out, HMx3.out, HB3.out⟩
          case measure => simp [intOf]; omega
      · obtain rfl : j = K := by omega
        clear s0 s1 s2
        go_wp2
        rw [HP.out]
        go_ret
        exact ⟨b, n, rfl, hwb, HB.out, hn, HM.out⟩

set_option maxRecDepth 100000 in
set_option maxHeartbeats 8000000 in
theorem iRep_3 (D N K : Nat) (g1 g2 : Nat) (xs ys : List Tm) (hl1 : xs.length ≤ 1048576) (hl2 : ys.length ≤ 1048576) (hs1 : ∀ i (h : i < xs.length), (xs[i]).s.size ≤ maxLen) (hs2 : ∀ i (h : i < ys.length), (ys[i]).s.size ≤ maxLen) (h1 : serB D N xs = true) (h2 : serB D N ys = true) (hK : K ≤ 12) (w : World) (hb1 : g1 < w.heap.size) (hb2 : g2 < w.heap.size) (t1 : TermsIn w g1 0 xs) (t2 : TermsIn w g2 0 ys) :
    Calls Tryd.prog 34 #[.agg #[.int .i64 D, .int .i64 N, .slice (some ⟨g1, 0, none⟩) xs.length xs.length], .agg #[.int .i64 D, .int .i64 N, .slice (some ⟨g2, 0, none⟩) ys.length ys.length], .int .i64 K] w (FitV D N (brV (valV xs xs.length) (valV ys ys.length) (allW D N) K) w) := by
  have hsh : shapeB (D : Int) (N : Int) = true := by unfold serB at h1; rw [Bool.and_eq_true] at h1; exact h1.1
  have hDN := shape_out hsh
  have hmf : ∀ (fn : Fn) (first cap : Array Value) (w : World), (Instr.makeFunc fn first cap).run Tryd.prog w = .ok (.func fn first cap) w := fun _ _ _ _ => rfl
  have HT1 := Lib.hid t1
  have HT2 := Lib.hid t2
  have HS1 := Lib.hid hs1
  have HS2 := Lib.hid hs2
  have HH1 := Lib.hid h1
  have HH2 := Lib.hid h2
  have HC := Lib.hid (codeL_4 h1 h2 (show alikeB (D : Int) (N : Int) (D : Int) (N : Int) = true by simp [alikeB]))
  have HK := Lib.hid (show inB (K : Int) 0 12 = true from inB_yes (by omega))
  have hfew := allW_few (D := D) (by omega) (n := N) (by omega)
  have HWl := Lib.hid (show (allW D N).length ≤ 1048576 by omega)
  have HWs := Lib.hid (show ∀ s ∈ allW D N, s.size ≤ 1048576 from fun s hs => by have := allW_size D N s hs; omega)
  clear t1 t2 hs1 hs2 h1 h2 hsh
  go_enter Tryd.func34, Tryd.ntmps34
  go_wp2_with fail
  refine (checkFactors_c D N D N g1 g2 _ _ xs ys hl1 hl2 HS1.out HS2.out _ (by simp; omega) (by simp; omega) (HT1.out.below (below4 w _ _ _ _) hb1) (HT2.out.below (below4 w _ _ _ _) hb2)).mono ?_
  rw [HC.out]
  rintro e w1 ⟨rfl, hb⟩
  have HB := Lib.hid (show Below (w.heap.size + 1 + 1 + 1 + 1) ((((w.alloc (.cells #[.int .i64 D, .int .i64 N, .slice (some ⟨g1, 0, none⟩) xs.length xs.length] 24)).alloc (.cells #[.int .i64 D, .int .i64 N, .slice (some ⟨g2, 0, none⟩) ys.length ys.length] 24)).alloc (.cells #[.int .i64 K] 2)).alloc (.cells #[.int .i64 0, .int .i64 0, .slice none 0 0] 24)) w1 from by simpa using hb)
  have hz1 : w.heap.size + 1 + 1 + 1 + 1 ≤ w1.heap.size := by have := HB.out.size; simp at this; omega
  have bc := bcellB HB.out
  have x0 : w1.cell? ⟨w.heap.size, 0, none⟩ = some (.int .i64 D) := (bc.1 _ _ (by omega)).trans (by go_simp)
  have x1 : w1.cell? ⟨w.heap.size, 1, none⟩ = some (.int .i64 N) := (bc.1 _ _ (by omega)).trans (by go_simp)
  have k0 : w1.cell? ⟨w.heap.size + 1 + 1, 0, none⟩ = some (.int .i64 K) := (bc.1 _ _ (by omega)).trans (by go_simp)
  clear hb bc
  go_wp2_with (first | (go_at_call 56; refine (isBetween_c _ _ _ _).mono ?_; rw [HK.out]; rintro e w' ⟨rfl, rfl⟩) | fail)
  refine (spaceOf_c D N (by omega) (by omega) _).mono ?_
  rintro e w2 ⟨aS, cS, rfl, hb2', hN2⟩
  have HB2 := Lib.hid (HB.out.trans (hb2'.mono (by omega)))
  have hz2 : w1.heap.size ≤ w2.heap.size := hb2'.size
  have HB3 := Lib.hid (HB2.out.alloc (by omega) (.cells #[.int .i64 D, .int .i64 N, .slice aS (allW D N).length cS] 53))
  have HW3 := Lib.hid ((below4 w (.cells #[.int .i64 D, .int .i64 N, .slice (some ⟨g1, 0, none⟩) xs.length xs.length] 24) (.cells #[.int .i64 D, .int .i64 N, .slice (some ⟨g2, 0, none⟩) ys.length ys.length] 24) (.cells #[.int .i64 K] 2) (.cells #[.int .i64 0, .int .i64 0, .slice none 0 0] 24)).trans (HB3.out.mono (by omega)))
  have bc := bcellB HB3.out
  have Kx0 : (w2.alloc (.cells #[.int .i64 D, .int .i64 N, .slice aS (allW D N).length cS] 53)).cell? ⟨w.heap.size, 0, none⟩ = some (.int .i64 D) := (bc.1 _ _ (by omega)).trans (by go_simp)
  have Kx1 : (w2.alloc (.cells #[.int .i64 D, .int .i64 N, .slice aS (allW D N).length cS] 53)).cell? ⟨w.heap.size, 1, none⟩ = some (.int .i64 N) := (bc.1 _ _ (by omega)).trans (by go_simp)
  have Kx2 : (w2.alloc (.cells #[.int .i64 D, .int .i64 N, .slice aS (allW D N).length cS] 53)).cell? ⟨w.heap.size, 2, none⟩ = some (.slice (some ⟨g1, 0, none⟩) xs.length xs.length) := (bc.1 _ _ (by omega)).trans (by go_simp)
  have Ky0 : (w2.alloc (.cells #[.int .i64 D, .int .i64 N, .slice aS (allW D N).length cS] 53)).cell? ⟨w.heap.size + 1, 0, none⟩ = some (.int .i64 D) := (bc.1 _ _ (by omega)).trans (by go_simp)
  have Ky1 : (w2.alloc (.cells #[.int .i64 D, .int .i64 N, .slice aS (allW D N).length cS] 53)).cell? ⟨w.heap.size + 1, 1, none⟩ = some (.int .i64 N) := (bc.1 _ _ (by omega)).trans (by go_simp)
  have Ky2 : (w2.alloc (.cells #[.int .i64 D, .int .i64 N, .slice aS (allW D N).length cS] 53)).cell? ⟨w.heap.size + 1, 2, none⟩ = some (.slice (some ⟨g2, 0, none⟩) ys.length ys.length) := (bc.1 _ _ (by omega)).trans (by go_simp)
  have Kk0 : (w2.alloc (.cells #[.int .i64 D, .int .i64 N, .slice aS (allW D N).length cS] 53)).cell? ⟨w.heap.size + 1 + 1, 0, none⟩ = some (.int .i64 K) := (bc.1 _ _ (by omega)).trans (by go_simp)
  have Ks0 : (w2.alloc (.cells #[.int .i64 D, .int .i64 N, .slice aS (allW D N).length cS] 53)).cell? ⟨w2.heap.size, 0, none⟩ = some (.int .i64 D) := by go_simp
  have Ks1 : (w2.alloc (.cells #[.int .i64 D, .int .i64 N, .slice aS (allW D N).length cS] 53)).cell? ⟨w2.heap.size, 1, none⟩ = some (.int .i64 N) := by go_simp
  have Ks2 : (w2.alloc (.cells #[.int .i64 D, .int .i64 N, .slice aS (allW D N).length cS] 53)).cell? ⟨w2.heap.size, 2, none⟩ = some (.slice aS (allW D N).length cS) := by go_simp
  have HNs := Lib.hid (hN2.row.below (below1 w2 (.cells #[.int .i64 D, .int .i64 N, .slice aS (allW D N).length cS] 53)) (Nat.le_refl _))
  have hzz : (w2.alloc (.cells #[.int .i64 D, .int .i64 N, .slice aS (allW D N).length cS] 53)).heap.size = w2.heap.size + 1 := by simp
  have HR := Lib.hid (show Z3 w2 (w.heap.size + 1 + 1 + 1) from by
    have bc := bcellB HB2.out
    exact ⟨by omega, (bc.1 _ _ (by omega)).trans (by go_simp), (bc.1 _ _ (by omega)).trans (by go_simp), (bc.1 _ _ (by omega)).trans (by go_simp), (bc.2 _ _ (by omega)).trans (by go_simp), (bc.2 _ _ (by omega)).trans (by go_simp), (bc.2 _ _ (by omega)).trans (by go_simp)⟩)
  have HWork := Lib.hid (fun W (hW : Below (w2.alloc (.cells #[.int .i64 D, .int .i64 N, .slice aS (allW D N).length cS] 53)).heap.size (w2.alloc (.cells #[.int .i64 D, .int .i64 N, .slice aS (allW D N).length cS] 53)) W) => repWork D N K (by omega) (by omega) hK w2.heap.size w.heap.size (w.heap.size + 1) (w.heap.size + 1 + 1) aS (some ⟨g1, 0, none⟩) (some ⟨g2, 0, none⟩) cS xs.length ys.length xs ys HH1.out HH2.out hl1 hl2 HS1.out HS2.out W (by have := hW.size; omega) (by have := hW.size; omega) (by have := hW.size; omega) (by have := hW.size; omega) ((hW.cell (p := ⟨w2.heap.size, 0, none⟩) (by show w2.heap.size < _; omega)).trans Ks0) ((hW.cell (p := ⟨w2.heap.size, 1, none⟩) (by show w2.heap.size < _; omega)).trans Ks1) ((hW.cell (p := ⟨w2.heap.size, 2, none⟩) (by show w2.heap.size < _; omega)).trans Ks2) ((hW.cell (p := ⟨w.heap.size, 0, none⟩) (by show w.heap.size < _; omega)).trans Kx0) ((hW.cell (p := ⟨w.heap.size, 1, none⟩) (by show w.heap.size < _; omega)).trans Kx1) ((hW.cell (p := ⟨w.heap.size, 2, none⟩) (by show w.heap.size < _; omega)).trans Kx2) ((hW.cell (p := ⟨w.heap.size + 1, 0, none⟩) (by show w.heap.size + 1 < _; omega)).trans Ky0) ((hW.cell (p := ⟨w.heap.size + 1, 1, none⟩) (by show w.heap.size + 1 < _; omega)).trans Ky1) ((hW.cell (p := ⟨w.heap.size + 1, 2, none⟩) (by show w.heap.size + 1 < _; omega)).trans Ky2) ((hW.cell (p := ⟨w.heap.size + 1 + 1, 0, none⟩) (by show w.heap.size + 1 + 1 < _; omega)).trans Kk0) (HNs.out.below hW (Nat.le_refl _)) (.inr ⟨g1, 0, rfl, by have := hW.size; omega, HT1.out.below (HW3.out.trans (hW.mono (by omega))) hb1⟩) (.inr ⟨g2, 0, rfl, by have := hW.size; omega, HT2.out.below (HW3.out.trans (hW.mono (by omega))) hb2⟩))
  clear bc hb2' hN2 x0 x1 k0
  cases hv : brV (valV xs xs.length) (valV ys ys.length) (allW D N) K with
  | none =>
    have HVv := Lib.hid hv
    have HDoor := Lib.hid (door_no D N aS (allW D N).length cS 74 #[.pointer (some ⟨w.heap.size, 0, none⟩), .pointer (some ⟨w.heap.size + 1, 0, none⟩), .pointer (some ⟨w.heap.size + 1 + 1, 0, none⟩), .pointer (some ⟨w2.heap.size, 0, none⟩)] (fun _ => by kernel_rfl) (w2.alloc (.cells #[.int .i64 D, .int .i64 N, .slice aS (allW D N).length cS] 53)) (fun W hW => by have hk := HWork.out W hW; rw [hv] at hk; exact hk))
    clear Kx0 Kx1 Kx2 Ky0 Ky1 Ky2 Kk0 Ks0 Ks1 Ks2 hv
    go_wp2_with fail
    refine HDoor.out.mono ?_
    rintro e w4 ⟨rfl, hb4⟩
    have HZ := Lib.hid ((HR.out.below (below1 w2 (.cells #[.int .i64 D, .int .i64 N, .slice aS (allW D N).length cS] 53)) HR.out.1).below hb4 (by omega))
    have r0 := HZ.out.2.1
    have r1 := HZ.out.2.2.1
    have r2 := HZ.out.2.2.2.1
    have z0 := HZ.out.2.2.2.2.1
    have z1 := HZ.out.2.2.2.2.2.1
    have z2 := HZ.out.2.2.2.2.2.2
    have HW4 := Lib.hid (HW3.out.trans (hb4.mono (by omega)))

    clear hb4
    go_wp2
    rw [HVv.out]
    refine bodyPost_ret (v := .tuple #[.agg #[.int .i64 0, .int .i64 0, .slice none 0 0], .int .i64 3]) (by simp [results, Tryd.results34, go_sem, r0, r1, r2]) rfl (SerPost.err 3 rfl ?_)
    have hW := HW4.out
    go_grown

  | some h =>
    have HVv := Lib.hid hv
    have HDoor := Lib.hid (door_yes D N aS cS (allW D N) HWl.out HWs.out h 74 #[.pointer (some ⟨w.heap.size, 0, none⟩), .pointer (some ⟨w.heap.size + 1, 0, none⟩), .pointer (some ⟨w.heap.size + 1 + 1, 0, none⟩), .pointer (some ⟨w2.heap.size, 0, none⟩)] (fun _ => by kernel_rfl) (w2.alloc (.cells #[.int .i64 D, .int .i64 N, .slice aS (allW D N).length cS] 53)) (fun W hW => by have hk := HWork.out W hW; rw [hv] at hk; exact hk) HNs.out)
    clear Kx0 Kx1 Kx2 Ky0 Ky1 Ky2 Kk0 Ks0 Ks1 Ks2 hv
    go_wp2_with fail
    refine HDoor.out.mono ?_
    rintro e w4 ⟨a4, c4, rfl, hb4, hN4⟩
    have HZ := Lib.hid ((HR.out.below (below1 w2 (.cells #[.int .i64 D, .int .i64 N, .slice aS (allW D N).length cS] 53)) HR.out.1).below hb4 (by omega))
    have r0 := HZ.out.2.1
    have r1 := HZ.out.2.2.1
    have r2 := HZ.out.2.2.2.1
    have z0 := HZ.out.2.2.2.2.1
    have z1 := HZ.out.2.2.2.2.2.1
    have z2 := HZ.out.2.2.2.2.2.2
    have HW4 := Lib.hid (HW3.out.trans (hb4.mono (by omega)))
    have HN4 := Lib.hid hN4
    clear hb4 hN4
    go_wp2
    rw [HVv.out]
    refine bodyPost_ret (v := .tuple #[.agg #[.int .i64 D, .int .i64 N, .slice a4 (termsOf h (allW D N)).length c4], .int .i64 0]) (by simp [results, Tryd.results34, go_sem, r0, r1, r2]) rfl ⟨a4, c4, rfl, ?_, ?_⟩
    · have hW := HW4.out
      go_grown
    · exact (((HN4.out.far1s (n := w.heap.size + 1 + 1 + 1) (i := 0) (x := .int .i64 D) (by omega)).far1s (n := w.heap.size + 1 + 1 + 1) (i := 1) (x := .int .i64 N) (by omega)).far1s (n := w.heap.size + 1 + 1 + 1) (i := 2) (x := .slice a4 (termsOf h (allW D N)).length c4) (by omega)).mono (by omega) (by simp)

end Go.Proofs.YtoeednnkadmjpaaDoor
