/-
  Contracts of PowerSeries, of the program and of its model: both return the same series and code.
-/
import Derived.Test.YtoeednnkadmjpaaDoorTimes
import Derived.Test.YtoeednnkadmjpaaDoorGate
import Derived.Deep.RegionHeld2
namespace Go.Proofs.YtoeednnkadmjpaaDoor
open Go.RowKit

/-- the powers of a series' values: each is the one before, times the series -/
def powV (base : VF) (ws : List ByteArray) : Nat → Option VF
  | 0 => some unitF
  | k + 1 => (powV base ws k).bind fun p => prodV p base ws
theorem powV_next {base p : VF} {ws : List ByteArray} {k : Nat} (h : powV base ws k = some p) : powV base ws (k + 1) = prodV p base ws := by rw [powV, h]; rfl
theorem powV_dead {base : VF} {ws : List ByteArray} {k : Nat} (h : powV base ws k = none) : ∀ {m : Nat}, k ≤ m → powV base ws m = none
  | 0, hm => by obtain rfl : k = 0 := by omega
                exact h
  | m + 1, hm => by
    by_cases e : k = m + 1
    · subst e; exact h
    · rw [powV, powV_dead h (show k ≤ m by omega)]; rfl
theorem good_unit (D N : Nat) : GoodV (allW D N) unitF := fun s p h => by
  unfold unitF setF at h
  split at h
  · rename_i hs
    injection h with h
    subst h
    obtain ⟨r, e, _⟩ := allW_head D N
    exact ⟨by rw [e, hs]; simp, by decide, by decide⟩
  · cases h
theorem powV_good {D N : Nat} {base : VF} : ∀ {k : Nat} {p : VF}, powV base (allW D N) k = some p → GoodV (allW D N) p
  | 0, p, h => by rw [powV] at h; injection h with h; rw [← h]; exact good_unit D N
  | k + 1, p, h => by
    rw [powV] at h
    obtain ⟨q, _, h2⟩ := Option.bind_eq_some_iff.1 h
    exact GoodV.prodV h2
/-- what a function comes to that returns a series of values, if all fits -/
def FitV (D N : Nat) (r : Option VF) (W : World) (e : Ending) (w' : World) : Prop := match r with | none => SerPost 0 0 [] 3 W e w' | some h => SerPost D N (termsOf h (allW D N)) 0 W e w'

set_option maxRecDepth 100000 in
set_option maxHeartbeats 2000000 in
theorem sPow_1 (L V K : Int) (g1 : Nat) (xs : List Tm) (hl1 : xs.length ≤ 1048576) (hs1 : ∀ i (h : i < xs.length), (xs[i]).s.size ≤ maxLen) (h1 : serB L V xs = false) (w : World) (hb1 : g1 < w.heap.size) (t1 : TermsIn w g1 0 xs) :
    Calls Tryd.prog 20 #[.agg #[.int .i64 L, .int .i64 V, .slice (some ⟨g1, 0, none⟩) xs.length xs.length], .int .i64 K] w (SerPost 0 0 [] 1 w) := by
  have HT1 := Lib.hid t1
  have HS1 := Lib.hid hs1
  have HH := Lib.hid h1

  clear t1 hs1 h1
  go_enter Tryd.func20, Tryd.ntmps20
  go_wp2_with fail
  refine (l01Is_c L V g1 0 _ xs hl1 HS1.out _ (by simp; omega) (HT1.out.below (below2 w _ _) hb1)).mono ?_
  rw [HH.out]
  rintro e w1 ⟨rfl, hb⟩
  have hB := hb
  simp only [World.size_alloc] at hB
  have bc := bcellB hB
  have r0 : w1.cell? ⟨w.heap.size + 1, 0, none⟩ = some (.int .i64 0) := (bc.1 _ _ (by omega)).trans (by go_simp)
  have r1 : w1.cell? ⟨w.heap.size + 1, 1, none⟩ = some (.int .i64 0) := (bc.1 _ _ (by omega)).trans (by go_simp)
  have r2 : w1.cell? ⟨w.heap.size + 1, 2, none⟩ = some (.slice none 0 0) := (bc.1 _ _ (by omega)).trans (by go_simp)
  have z0 : w1.frozen? ⟨w.heap.size + 1, 0, none⟩ = false := (bc.2 _ _ (by omega)).trans (by go_simp)
  have z1 : w1.frozen? ⟨w.heap.size + 1, 1, none⟩ = false := (bc.2 _ _ (by omega)).trans (by go_simp)
  have z2 : w1.frozen? ⟨w.heap.size + 1, 2, none⟩ = false := (bc.2 _ _ (by omega)).trans (by go_simp)

  have HW := Lib.hid ((below2 w _ _).trans (hB.mono (by omega)))
  have hz : w.heap.size + 1 < w1.heap.size := by have := hB.size; simp at this; omega
  clear bc hB hb
  go_wp2
  refine bodyPost_ret (v := .tuple #[.agg #[.int .i64 0, .int .i64 0, .slice none 0 0], .int .i64 1]) (by simp [results, Tryd.results20, go_sem, r0, r1, r2]) rfl (SerPost.err 1 rfl ?_)
  have hW := HW.out
  go_grown

set_option maxRecDepth 100000 in
set_option maxHeartbeats 2000000 in
theorem sPow_2 (L V K : Int) (g1 : Nat) (xs : List Tm) (hl1 : xs.length ≤ 1048576) (hs1 : ∀ i (h : i < xs.length), (xs[i]).s.size ≤ maxLen) (h1 : serB L V xs = true) (hK : inB K 0 12 = false) (w : World) (hb1 : g1 < w.heap.size) (t1 : TermsIn w g1 0 xs) :
    Calls Tryd.prog 20 #[.agg #[.int .i64 L, .int .i64 V, .slice (some ⟨g1, 0, none⟩) xs.length xs.length], .int .i64 K] w (SerPost 0 0 [] 2 w) := by
  have HT1 := Lib.hid t1
  have HS1 := Lib.hid hs1
  have HH := Lib.hid h1
  have HK := Lib.hid hK
  clear t1 hs1 h1 hK
  go_enter Tryd.func20, Tryd.ntmps20
  go_wp2_with fail
  refine (l01Is_c L V g1 0 _ xs hl1 HS1.out _ (by simp; omega) (HT1.out.below (below2 w _ _) hb1)).mono ?_
  rw [HH.out]
  rintro e w1 ⟨rfl, hb⟩
  have hB := hb
  simp only [World.size_alloc] at hB
  have bc := bcellB hB
  have r0 : w1.cell? ⟨w.heap.size + 1, 0, none⟩ = some (.int .i64 0) := (bc.1 _ _ (by omega)).trans (by go_simp)
  have r1 : w1.cell? ⟨w.heap.size + 1, 1, none⟩ = some (.int .i64 0) := (bc.1 _ _ (by omega)).trans (by go_simp)
  have r2 : w1.cell? ⟨w.heap.size + 1, 2, none⟩ = some (.slice none 0 0) := (bc.1 _ _ (by omega)).trans (by go_simp)
  have z0 : w1.frozen? ⟨w.heap.size + 1, 0, none⟩ = false := (bc.2 _ _ (by omega)).trans (by go_simp)
  have z1 : w1.frozen? ⟨w.heap.size + 1, 1, none⟩ = false := (bc.2 _ _ (by omega)).trans (by go_simp)
  have z2 : w1.frozen? ⟨w.heap.size + 1, 2, none⟩ = false := (bc.2 _ _ (by omega)).trans (by go_simp)

  have HW := Lib.hid ((below2 w _ _).trans (hB.mono (by omega)))
  have hz : w.heap.size + 1 < w1.heap.size := by have := hB.size; simp at this; omega
  clear bc hB hb
  go_wp2_with (first | (go_at_call 54; refine (l01In_c _ _ _ _).mono ?_; rw [HK.out]; rintro e w' ⟨rfl, rfl⟩) | fail)
  refine bodyPost_ret (v := .tuple #[.agg #[.int .i64 0, .int .i64 0, .slice none 0 0], .int .i64 2]) (by simp [results, Tryd.results20, go_sem, r0, r1, r2]) rfl (SerPost.err 2 rfl ?_)
  have hW := HW.out
  go_grown

set_option maxRecDepth 100000 in
set_option maxHeartbeats 2000000 in
theorem iPow_1 (L V K : Int) (g1 : Nat) (xs : List Tm) (hl1 : xs.length ≤ 1048576) (hs1 : ∀ i (h : i < xs.length), (xs[i]).s.size ≤ maxLen) (h1 : serB L V xs = false) (w : World) (hb1 : g1 < w.heap.size) (t1 : TermsIn w g1 0 xs) :
    Calls Tryd.prog 21 #[.agg #[.int .i64 L, .int .i64 V, .slice (some ⟨g1, 0, none⟩) xs.length xs.length], .int .i64 K] w (SerPost 0 0 [] 1 w) := by
  have HT1 := Lib.hid t1
  have HS1 := Lib.hid hs1
  have HH := Lib.hid h1

  clear t1 hs1 h1
  go_enter Tryd.func21, Tryd.ntmps21
  go_wp2_with fail
  refine (iIsSeries_c L V g1 0 _ xs hl1 HS1.out _ (by simp; omega) (HT1.out.below (below3 w _ _ _) hb1)).mono ?_
  rw [HH.out]
  rintro e w1 ⟨rfl, hb⟩
  have hB := hb
  simp only [World.size_alloc] at hB
  have bc := bcellB hB
  have r0 : w1.cell? ⟨w.heap.size + 1 + 1, 0, none⟩ = some (.int .i64 0) := (bc.1 _ _ (by omega)).trans (by go_simp)
  have r1 : w1.cell? ⟨w.heap.size + 1 + 1, 1, none⟩ = some (.int .i64 0) := (bc.1 _ _ (by omega)).trans (by go_simp)
  have r2 : w1.cell? ⟨w.heap.size + 1 + 1, 2, none⟩ = some (.slice none 0 0) := (bc.1 _ _ (by omega)).trans (by go_simp)
  have z0 : w1.frozen? ⟨w.heap.size + 1 + 1, 0, none⟩ = false := (bc.2 _ _ (by omega)).trans (by go_simp)
  have z1 : w1.frozen? ⟨w.heap.size + 1 + 1, 1, none⟩ = false := (bc.2 _ _ (by omega)).trans (by go_simp)
  have z2 : w1.frozen? ⟨w.heap.size + 1 + 1, 2, none⟩ = false := (bc.2 _ _ (by omega)).trans (by go_simp)

  have HW := Lib.hid ((below3 w _ _ _).trans (hB.mono (by omega)))
  have hz : w.heap.size + 1 + 1 < w1.heap.size := by have := hB.size; simp at this; omega
  clear bc hB hb
  go_wp2
  refine bodyPost_ret (v := .tuple #[.agg #[.int .i64 0, .int .i64 0, .slice none 0 0], .int .i64 1]) (by simp [results, Tryd.results21, go_sem, r0, r1, r2]) rfl (SerPost.err 1 rfl ?_)
  have hW := HW.out
  go_grown

set_option maxRecDepth 100000 in
set_option maxHeartbeats 2000000 in
theorem iPow_2 (L V K : Int) (g1 : Nat) (xs : List Tm) (hl1 : xs.length ≤ 1048576) (hs1 : ∀ i (h : i < xs.length), (xs[i]).s.size ≤ maxLen) (h1 : serB L V xs = true) (hK : inB K 0 12 = false) (w : World) (hb1 : g1 < w.heap.size) (t1 : TermsIn w g1 0 xs) :
    Calls Tryd.prog 21 #[.agg #[.int .i64 L, .int .i64 V, .slice (some ⟨g1, 0, none⟩) xs.length xs.length], .int .i64 K] w (SerPost 0 0 [] 2 w) := by
  have HT1 := Lib.hid t1
  have HS1 := Lib.hid hs1
  have HH := Lib.hid h1
  have HK := Lib.hid hK
  clear t1 hs1 h1 hK
  go_enter Tryd.func21, Tryd.ntmps21
  go_wp2_with fail
  refine (iIsSeries_c L V g1 0 _ xs hl1 HS1.out _ (by simp; omega) (HT1.out.below (below3 w _ _ _) hb1)).mono ?_
  rw [HH.out]
  rintro e w1 ⟨rfl, hb⟩
  have hB := hb
  simp only [World.size_alloc] at hB
  have bc := bcellB hB
  have r0 : w1.cell? ⟨w.heap.size + 1 + 1, 0, none⟩ = some (.int .i64 0) := (bc.1 _ _ (by omega)).trans (by go_simp)
  have r1 : w1.cell? ⟨w.heap.size + 1 + 1, 1, none⟩ = some (.int .i64 0) := (bc.1 _ _ (by omega)).trans (by go_simp)
  have r2 : w1.cell? ⟨w.heap.size + 1 + 1, 2, none⟩ = some (.slice none 0 0) := (bc.1 _ _ (by omega)).trans (by go_simp)
  have z0 : w1.frozen? ⟨w.heap.size + 1 + 1, 0, none⟩ = false := (bc.2 _ _ (by omega)).trans (by go_simp)
  have z1 : w1.frozen? ⟨w.heap.size + 1 + 1, 1, none⟩ = false := (bc.2 _ _ (by omega)).trans (by go_simp)
  have z2 : w1.frozen? ⟨w.heap.size + 1 + 1, 2, none⟩ = false := (bc.2 _ _ (by omega)).trans (by go_simp)
  have k0 : w1.cell? ⟨w.heap.size + 1, 0, none⟩ = some (.int .i64 K) := (bc.1 _ _ (by omega)).trans (by go_simp)
  have HW := Lib.hid ((below3 w _ _ _).trans (hB.mono (by omega)))
  have hz : w.heap.size + 1 + 1 < w1.heap.size := by have := hB.size; simp at this; omega
  clear bc hB hb
  go_wp2_with (first | (go_at_call 56; refine (isBetween_c _ _ _ _).mono ?_; rw [HK.out]; rintro e w' ⟨rfl, rfl⟩) | fail)
  refine bodyPost_ret (v := .tuple #[.agg #[.int .i64 0, .int .i64 0, .slice none 0 0], .int .i64 2]) (by simp [results, Tryd.results21, go_sem, r0, r1, r2]) rfl (SerPost.err 2 rfl ?_)
  have hW := HW.out
  go_grown

set_option maxRecDepth 100000 in
set_option maxHeartbeats 8000000 in
theorem sPow_3 (D N K : Nat) (g1 : Nat) (xs : List Tm) (hl1 : xs.length ≤ 1048576) (hs1 : ∀ i (h : i < xs.length), (xs[i]).s.size ≤ maxLen) (h1 : serB D N xs = true) (hK : K ≤ 12) (w : World) (hb1 : g1 < w.heap.size) (t1 : TermsIn w g1 0 xs) :
    Calls Tryd.prog 20 #[.agg #[.int .i64 D, .int .i64 N, .slice (some ⟨g1, 0, none⟩) xs.length xs.length], .int .i64 K] w (FitV D N (powV (valV xs xs.length) (allW D N) K) w) := by
  have hsh : shapeB (D : Int) (N : Int) = true := by unfold serB at h1; rw [Bool.and_eq_true] at h1; exact h1.1
  have hDN := shape_out hsh
  have G1 := good_valV h1
  have HT1 := Lib.hid t1
  have HS1 := Lib.hid hs1
  have HH := Lib.hid h1
  have HKb := Lib.hid (show inB (K : Int) 0 12 = true from inB_yes (by omega))
  have hfew := allW_few (D := D) (by omega) (n := N) (by omega)
  have HTm := Lib.hid (fun a1 c1 f (hf : GoodV (allW D N) f) W r1 r2 => l02Times_c D N (by omega) (by omega) a1 (some ⟨g1, 0, none⟩) c1 xs.length f _ hf G1.1 _ xs rfl G1.2 (by have := termsOf_len f (allW D N); omega) hl1 (allW_asc (by omega) N) W r1 r2)
  clear t1 hs1 h1 hsh G1
  go_enter Tryd.func20, Tryd.ntmps20
  go_wp2_with fail
  refine (l01Is_c D N g1 0 _ xs hl1 HS1.out _ (by simp; omega) (HT1.out.below (below2 w _ _) hb1)).mono ?_
  rw [HH.out]
  rintro e w1 ⟨rfl, hb⟩
  have HB := Lib.hid (show Below (w.heap.size + 1 + 1) ((w.alloc (.cells #[.int .i64 D, .int .i64 N, .slice (some ⟨g1, 0, none⟩) xs.length xs.length] 24)).alloc (.cells #[.int .i64 0, .int .i64 0, .slice none 0 0] 24)) w1 from by simpa using hb)
  have hz1 : w.heap.size + 1 + 1 ≤ w1.heap.size := by have := HB.out.size; simp at this; omega
  have bc := bcellB HB.out
  have x0 : w1.cell? ⟨w.heap.size, 0, none⟩ = some (.int .i64 D) := (bc.1 _ _ (by omega)).trans (by go_simp)
  have x1 : w1.cell? ⟨w.heap.size, 1, none⟩ = some (.int .i64 N) := (bc.1 _ _ (by omega)).trans (by go_simp)
  have x2 : w1.cell? ⟨w.heap.size, 2, none⟩ = some (.slice (some ⟨g1, 0, none⟩) xs.length xs.length) := (bc.1 _ _ (by omega)).trans (by go_simp)
  clear hb bc
  go_wp2_with (first | (go_at_call 54; refine (l01In_c _ _ _ _).mono ?_; rw [HKb.out]; rintro e w' ⟨rfl, rfl⟩) | fail)
  refine (l02Unit_c D N _ _ _ _).mono ?_
  rintro e w2 ⟨a2, c2, rfl, hb2, hN2⟩
  have HB2 := Lib.hid (HB.out.trans (hb2.mono hz1))
  have hz2 := hb2.size
  have HR2 := Lib.hid ((hN2.below (below1 w2 (.cells #[.int .i64 D, .int .i64 N, .slice a2 1 c2] 24)) (Nat.le_refl _)).mono hz1 (show w2.heap.size ≤ (w2.alloc (.cells #[.int .i64 D, .int .i64 N, .slice a2 1 c2] 24)).heap.size by simp))
  have hu := unit_terms D N
  have HU := Lib.hid hu
  clear hb2 hN2 x0 x1 x2 hu
  go_wp2_with fail
  go_loopw [1] (fun v1 wr => ∃ (j : Nat) (a : Option Addr) (l c : Nat) (h : VF), j ≤ K ∧ v1 = .int .i64 ((K : Int) - j) ∧ powV (valV xs xs.length) (allW D N) j = some h ∧ l = (termsOf h (allW D N)).length ∧ NewRow (w.heap.size + 1 + 1) wr.heap.size wr a (termsOf h (allW D N)) ∧ Blk wr w2.heap.size 24 #[.int .i64 D, .int .i64 N, .slice a l c] ∧ Below (w.heap.size + 1 + 1) ((w.alloc (.cells #[.int .i64 D, .int .i64 N, .slice (some ⟨g1, 0, none⟩) xs.length xs.length] 24)).alloc (.cells #[.int .i64 0, .int .i64 0, .slice none 0 0] 24)) wr) (fun v1 _ => (intOf v1).toNat)
  case atStart => exact ⟨0, a2, 1, c2, unitF, Nat.zero_le _, by simp, rfl, by rw [HU.out]; rfl, by rw [HU.out]; exact HR2.out, Blk.new _ _ _, HB2.out.alloc (by omega) _⟩
  case round =>
    obtain ⟨j, a, l, c, h, hj, rfl, hp, hl, hR, hBl, hB⟩ := hrel
    have HP := Lib.hid hp
    have HL := Lib.hid hl
    have HR := Lib.hid hR
    have HBl := Lib.hid hBl
    have HBk := Lib.hid hB
    have hzn := hBl.lt
    have hzr := hB.size
    simp only [World.size_alloc] at hzr
    have bc := bcellB hB
    have x0 : wr.cell? ⟨w.heap.size, 0, none⟩ = some (.int .i64 D) := (bc.1 _ _ (by omega)).trans (by go_simp)
    have x1 : wr.cell? ⟨w.heap.size, 1, none⟩ = some (.int .i64 N) := (bc.1 _ _ (by omega)).trans (by go_simp)
    have x2 : wr.cell? ⟨w.heap.size, 2, none⟩ = some (.slice (some ⟨g1, 0, none⟩) xs.length xs.length) := (bc.1 _ _ (by omega)).trans (by go_simp)
    have n0 : wr.cell? ⟨w2.heap.size, 0, none⟩ = some (.int .i64 D) := hBl.cell 0
    have n1 : wr.cell? ⟨w2.heap.size, 1, none⟩ = some (.int .i64 N) := hBl.cell 1
    have n2 : wr.cell? ⟨w2.heap.size, 2, none⟩ = some (.slice a l c) := hBl.cell 2
    have HW := Lib.hid ((below2 w (.cells #[.int .i64 D, .int .i64 N, .slice (some ⟨g1, 0, none⟩) xs.length xs.length] 24) (.cells #[.int .i64 0, .int .i64 0, .slice none 0 0] 24)).trans (hB.mono (by omega)))
    subst hl
    clear hp hR hBl hB
    by_cases hjK : j < K
    · have hpos : (0 : Int) < (K : Int) - j := by omega
      have HT := Lib.hid (HTm.out a c h (powV_good HP.out) wr HR.out.row (.inr ⟨g1, 0, rfl, by have := HW.out.size; omega, HT1.out.below HW.out hb1⟩))
      have HNx := Lib.hid (powV_next HP.out)
      have HDd := Lib.hid (fun e => powV_dead (base := valV xs xs.length) (ws := allW D N) (k := j + 1) e hjK)
      have HLV := Lib.hid (prodL_V h (valV xs xs.length) (allW D N))
      clear bc
      go_wp2_with fail
      refine HT.out.mono ?_
      rw [HLV.out]
      clear x0 x1 x2 n0 n1 n2
      cases hv : prodV h (valV xs xs.length) (allW D N) with
      | none =>
        rintro e w3 ⟨rfl, hb3⟩
        have HB3 := Lib.hid (HBk.out.trans (hb3.mono hzr))
        have hz3 : w.heap.size + 1 < w3.heap.size := by have := hb3.size; omega
        have HDn := Lib.hid (HDd.out (HNx.out.trans hv))
        have bc := bcellB HB3.out
        have r0 : w3.cell? ⟨w.heap.size + 1, 0, none⟩ = some (.int .i64 0) := (bc.1 _ _ (by omega)).trans (by go_simp)
        have r1 : w3.cell? ⟨w.heap.size + 1, 1, none⟩ = some (.int .i64 0) := (bc.1 _ _ (by omega)).trans (by go_simp)
        have r2 : w3.cell? ⟨w.heap.size + 1, 2, none⟩ = some (.slice none 0 0) := (bc.1 _ _ (by omega)).trans (by go_simp)
        have z0 : w3.frozen? ⟨w.heap.size + 1, 0, none⟩ = false := (bc.2 _ _ (by omega)).trans (by go_simp)
        have z1 : w3.frozen? ⟨w.heap.size + 1, 1, none⟩ = false := (bc.2 _ _ (by omega)).trans (by go_simp)
        have z2 : w3.frozen? ⟨w.heap.size + 1, 2, none⟩ = false := (bc.2 _ _ (by omega)).trans (by go_simp)
        have HW3 := Lib.hid ((below2 w (.cells #[.int .i64 D, .int .i64 N, .slice (some ⟨g1, 0, none⟩) xs.length xs.length] 24) (.cells #[.int .i64 0, .int .i64 0, .slice none 0 0] 24)).trans (HB3.out.mono (by omega)))
        clear bc hb3 hv
        go_wp2
        rw [HDn.out]
        refine bodyPost_ret (v := .tuple #[.agg #[.int .i64 0, .int .i64 0, .slice none 0 0], .int .i64 3]) (by simp [results, Tryd.results20, go_sem, r0, r1, r2, hz3]) rfl (SerPost.err 3 rfl ?_)
        have hW := HW3.out
        go_grown
      | some h' =>
        rintro e w3 ⟨a3, c3, rfl, hb3, hN3⟩
        have HB3 := Lib.hid (HBk.out.trans (hb3.mono hzr))
        have hz3 := hb3.size
        have HBl3 := Lib.hid (((((HBl.out.below hb3 hzn).set_ 0 (.int .i64 D)).set_ 1 (.int .i64 N)).set_ 2 (.slice a3 (termsOf h' (allW D N)).length c3)).alloc (.cells #[.int .i64 D, .int .i64 N, .slice a3 (termsOf h' (allW D N)).length c3] 24))
        have HP3 := Lib.hid (HNx.out.trans hv)
        have HR3 := Lib.hid ((((hN3.far1s (n := w2.heap.size) (i := 0) (x := .int .i64 D) hzn).far1s (n := w2.heap.size) (i := 1) (x := .int .i64 N) hzn).far1s (n := w2.heap.size) (i := 2) (x := .slice a3 (termsOf h' (allW D N)).length c3) hzn).below (below1 _ (.cells #[.int .i64 D, .int .i64 N, .slice a3 (termsOf h' (allW D N)).length c3] 24)) (by simp))
        have hzn3 : w2.heap.size < w3.heap.size := by omega
        have p0 : w3.cell? ⟨w2.heap.size, 0, none⟩ = some (.int .i64 D) := (hb3.cell (p := ⟨w2.heap.size, 0, none⟩) hzn).trans (HBl.out.cell 0)
        have p1 : w3.cell? ⟨w2.heap.size, 1, none⟩ = some (.int .i64 N) := (hb3.cell (p := ⟨w2.heap.size, 1, none⟩) hzn).trans (HBl.out.cell 1)
        have p2 : w3.cell? ⟨w2.heap.size, 2, none⟩ = some (.slice a (termsOf h (allW D N)).length c) := (hb3.cell (p := ⟨w2.heap.size, 2, none⟩) hzn).trans (HBl.out.cell 2)
        have q0 : w3.frozen? ⟨w2.heap.size, 0, none⟩ = false := (hb3.frozen (p := ⟨w2.heap.size, 0, none⟩) hzn).trans (HBl.out.frozen 0)
        have q1 : w3.frozen? ⟨w2.heap.size, 1, none⟩ = false := (hb3.frozen (p := ⟨w2.heap.size, 1, none⟩) hzn).trans (HBl.out.frozen 1)
        have q2 : w3.frozen? ⟨w2.heap.size, 2, none⟩ = false := (hb3.frozen (p := ⟨w2.heap.size, 2, none⟩) hzn).trans (HBl.out.frozen 2)
        clear hb3 hv hN3
        go_wp2
        go_roundw
        case rel =>
          refine ⟨j + 1, a3, (termsOf h' (allW D N)).length, c3, h', hjK, by first | rfl | (congr 1; omega) | go_num, HP3.out, rfl, ?_, ?_, ?_⟩
          · exact HR3.out.mono (by omega) (by simp)
          · exact HBl3.out
          · exact (((HB3.out.setCell (p := ⟨w2.heap.size, 0, none⟩) (by show _ ≤ w2.heap.size; omega) _).setCell (p := ⟨w2.heap.size, 1, none⟩) (by show _ ≤ w2.heap.size; omega) _).setCell (p := ⟨w2.heap.size, 2, none⟩) (by show _ ≤ w2.heap.size; omega) _).alloc (by simp; omega) _
        case measure => simp [intOf]; omega
    · obtain rfl : j = K := by omega
      have hnn : ¬ (0 : Int) < (j : Int) - j := by omega
      have r0 : wr.cell? ⟨w.heap.size + 1, 0, none⟩ = some (.int .i64 0) := (bc.1 _ _ (by omega)).trans (by go_simp)
      have r1 : wr.cell? ⟨w.heap.size + 1, 1, none⟩ = some (.int .i64 0) := (bc.1 _ _ (by omega)).trans (by go_simp)
      have r2 : wr.cell? ⟨w.heap.size + 1, 2, none⟩ = some (.slice none 0 0) := (bc.1 _ _ (by omega)).trans (by go_simp)
      have z0 : wr.frozen? ⟨w.heap.size + 1, 0, none⟩ = false := (bc.2 _ _ (by omega)).trans (by go_simp)
      have z1 : wr.frozen? ⟨w.heap.size + 1, 1, none⟩ = false := (bc.2 _ _ (by omega)).trans (by go_simp)
      have z2 : wr.frozen? ⟨w.heap.size + 1, 2, none⟩ = false := (bc.2 _ _ (by omega)).trans (by go_simp)
      clear bc x0 x1 x2
      go_wp2
      rw [HP.out]
      refine bodyPost_ret (v := .tuple #[.agg #[.int .i64 D, .int .i64 N, .slice a (termsOf h (allW D N)).length c], .int .i64 0]) (by simp [results, Tryd.results20, go_sem, r0, r1, r2]) rfl ⟨a, c, rfl, ?_, ?_⟩
      · have hW := HW.out
        go_grown
      · exact (((HR.out.far1s (n := w.heap.size + 1) (i := 0) (x := .int .i64 D) (by omega)).far1s (n := w.heap.size + 1) (i := 1) (x := .int .i64 N) (by omega)).far1s (n := w.heap.size + 1) (i := 2) (x := .slice a (termsOf h (allW D N)).length c) (by omega)).mono (by omega) (by simp)

set_option maxRecDepth 100000 in
set_option maxHeartbeats 4000000 in
theorem powWork (D N K : Nat) (hD : 1 ≤ D ∧ D ≤ 3) (hN : N ≤ 5) (hK : K ≤ 12) (p px pk : Nat) (aS a1 : Option Addr) (cS c1 : Nat) (xs : List Tm) (h1 : serB D N xs = true) (hl1 : xs.length ≤ 1048576) (hs1 : ∀ i (h : i < xs.length), (xs[i]).s.size ≤ maxLen) (w : World) (hp : p < w.heap.size) (hpx : px < w.heap.size) (hpk : pk < w.heap.size) (s0 : w.cell? ⟨p, 0, none⟩ = some (.int .i64 D)) (s1 : w.cell? ⟨p, 1, none⟩ = some (.int .i64 N)) (s2 : w.cell? ⟨p, 2, none⟩ = some (.slice aS (allW D N).length cS)) (x0 : w.cell? ⟨px, 0, none⟩ = some (.int .i64 D)) (x1 : w.cell? ⟨px, 1, none⟩ = some (.int .i64 N)) (x2 : w.cell? ⟨px, 2, none⟩ = some (.slice a1 xs.length c1)) (k0 : w.cell? ⟨pk, 0, none⟩ = some (.int .i64 K)) (hrs : SRow w aS (allW D N)) (hr1 : Row w a1 xs) :
    Calls Tryd.prog 57 #[.pointer (some ⟨px, 0, none⟩), .pointer (some ⟨pk, 0, none⟩), .pointer (some ⟨p, 0, none⟩)] w (WorkPost (powV (valV xs xs.length) (allW D N) K) w) := by
  have hfew := allW_few (D := D) hD.2 (n := N) hN
  have HWl := Lib.hid (show (allW D N).length ≤ 1048575 by omega)
  have HWs := Lib.hid (show ∀ s ∈ allW D N, s.size ≤ 1000 from fun s hs => by have := allW_size D N s hs; omega)
  have G1 := good_valV h1
  have HG1 := Lib.hid (show ∀ s p, valV xs xs.length s = some p → isF p.1 p.2 = true from fun s p e => (G1.1 s p e).2.1)
  have HS1 := Lib.hid hs1
  have HRS := Lib.hid hrs
  have HR1 := Lib.hid hr1
  have KS := Lib.hid (show ∀ w', Below w.heap.size w w' → (w'.cell? ⟨p, 0, none⟩ = some (.int .i64 D) ∧ w'.cell? ⟨p, 1, none⟩ = some (.int .i64 N) ∧ w'.cell? ⟨p, 2, none⟩ = some (.slice aS (allW D N).length cS) ∧ w'.cell? ⟨px, 0, none⟩ = some (.int .i64 D) ∧ w'.cell? ⟨px, 1, none⟩ = some (.int .i64 N) ∧ w'.cell? ⟨px, 2, none⟩ = some (.slice a1 xs.length c1) ∧ w'.cell? ⟨pk, 0, none⟩ = some (.int .i64 K)) from fun w' hb => ⟨(hb.cell (p := ⟨p, 0, none⟩) hp).trans s0, (hb.cell (p := ⟨p, 1, none⟩) hp).trans s1, (hb.cell (p := ⟨p, 2, none⟩) hp).trans s2, (hb.cell (p := ⟨px, 0, none⟩) hpx).trans x0, (hb.cell (p := ⟨px, 1, none⟩) hpx).trans x1, (hb.cell (p := ⟨px, 2, none⟩) hpx).trans x2, (hb.cell (p := ⟨pk, 0, none⟩) hpk).trans k0⟩)
  clear hs1 hrs hr1 h1 G1
  go_enter Tryd.func57, Tryd.ntmps57
  go_wp2_with fail
  refine (valuesOf_c D N a1 c1 xs hl1 HS1.out _ HR1.out).mono ?_
  rintro e w1 ⟨m1, rfl, hm1, hb1, hM1⟩
  have HM1 := Lib.hid hM1
  have HB1 := Lib.hid hb1
  have hbl1 := hM1.lt
  obtain ⟨s0', s1', s2', x0', x1', x2', k0'⟩ := KS.out w1 hb1
  clear hM1 hb1 s0 s1 s2 x0 x1 x2 k0 s0' s1' s2' x0' x1' x2'
  go_wp2_with fail
  refine (unitValues_c _).mono ?_
  rintro e w2 ⟨m2, rfl, hm2, hb2, hM2⟩
  have HM2 := Lib.hid hM2
  have HM12 := Lib.hid (HM1.out.below hb2 hbl1)
  have HB2 := Lib.hid (HB1.out.trans (hb2.mono HB1.out.size))
  obtain ⟨s0', s1', s2', x0', x1', x2', k2⟩ := KS.out w2 HB2.out
  have hz1 := HB1.out.size
  have hz2 := hb2.size
  clear hM2 hb2 s0' s1' s2' x0' x1' x2' k0'
  go_wp2_with fail
  go_loopw [5, 10] (fun v5 v10 wr => ∃ (j : Nat) (h : VF) (b n : Nat), j ≤ K ∧ v5 = .map (some b) ∧ v10 = .int .i64 j ∧ powV (valV xs xs.length) (allW D N) j = some h ∧ w.heap.size ≤ b ∧ n ≤ 1048576 ∧ MapV wr b n h ∧ MapV wr m1 xs.length (valV xs xs.length) ∧ Below w.heap.size w wr) (fun _ v10 _ => K - (intOf v10).toNat)
  case atStart => exact ⟨0, unitF, m2, 1, Nat.zero_le _, rfl, rfl, rfl, by omega, by omega, HM2.out, HM12.out, HB2.out⟩
  case round =>
    obtain ⟨j, h, b, n, hj, rfl, rfl, hpw, hwb, hn, hM, hMx, hB⟩ := hrel
    have HP := Lib.hid hpw
    have HM := Lib.hid hM
    have HMx := Lib.hid hMx
    have HB := Lib.hid hB
    have hlb := hM.lt
    have hlx := hMx.lt
    obtain ⟨s0, s1, s2, x0, x1, x2, k0⟩ := KS.out wr hB
    clear hpw hM hMx hB x0 x1 x2 k0 k2
    by_cases hjK : j < K
    · have HNx := Lib.hid (powV_next HP.out)
      have HDd := Lib.hid (fun e => powV_dead (base := valV xs xs.length) (ws := allW D N) (k := j + 1) e hjK)
      have HGp := Lib.hid (show ∀ s p, h s = some p → isF p.1 p.2 = true from fun s p e => (powV_good HP.out s p e).2.1)
      have HPr := Lib.hid (product_c D N aS cS (allW D N) HWl.out HWs.out h (valV xs xs.length) HGp.out HG1.out b n m1 xs.length wr (HRS.out.below HB.out (Nat.le_refl _)) HM.out HMx.out)
      go_wp2_with fail
      refine HPr.out.mono ?_
      cases hv : prodV h (valV xs xs.length) (allW D N) with
      | none =>
        rintro e w3 ⟨rfl, hb3⟩
        have HDn := Lib.hid (HDd.out (HNx.out.trans hv))
        have HB3 := Lib.hid (HB.out.trans (hb3.mono HB.out.size))
        clear hb3 hv
        go_wp2
        rw [HDn.out]
        exact ⟨rfl, rfl, HB3.out⟩
      | some h' =>
        rintro e w3 ⟨b3, n3, rfl, hb3l, hb3, hn3, hM3⟩
        have HP3 := Lib.hid (HNx.out.trans hv)
        have HB3 := Lib.hid (HB.out.trans (hb3.mono HB.out.size))
        have HM3 := Lib.hid hM3
        have HMx3 := Lib.hid (HMx.out.below hb3 hlx)
        have hzr := HB.out.size
        clear hb3 hv hM3 s0 s1 s2
        go_wp2
        go_roundw
        case rel => exact ⟨j + 1, h', b3, n3, hjK, rfl, by go_num, HP3.out, by omega, hn3, HM3.out, HMx3.out, HB3.out⟩
        case measure => simp [intOf]; omega
    · obtain rfl : j = K := by omega
      clear s0 s1 s2
      go_wp2
      rw [HP.out]
      go_ret
      exact ⟨b, n, rfl, hwb, HB.out, hn, HM.out⟩

set_option maxRecDepth 100000 in
set_option maxHeartbeats 8000000 in
theorem iPow_3 (D N K : Nat) (g1 : Nat) (xs : List Tm) (hl1 : xs.length ≤ 1048576) (hs1 : ∀ i (h : i < xs.length), (xs[i]).s.size ≤ maxLen) (h1 : serB D N xs = true) (hK : K ≤ 12) (w : World) (hb1 : g1 < w.heap.size) (t1 : TermsIn w g1 0 xs) :
    Calls Tryd.prog 21 #[.agg #[.int .i64 D, .int .i64 N, .slice (some ⟨g1, 0, none⟩) xs.length xs.length], .int .i64 K] w (FitV D N (powV (valV xs xs.length) (allW D N) K) w) := by
  have hsh : shapeB (D : Int) (N : Int) = true := by unfold serB at h1; rw [Bool.and_eq_true] at h1; exact h1.1
  have hDN := shape_out hsh
  have hmf : ∀ (fn : Fn) (first cap : Array Value) (w : World), (Instr.makeFunc fn first cap).run Tryd.prog w = .ok (.func fn first cap) w := fun _ _ _ _ => rfl
  have HT1 := Lib.hid t1
  have HS1 := Lib.hid hs1
  have HH := Lib.hid h1
  have HKb := Lib.hid (show inB (K : Int) 0 12 = true from inB_yes (by omega))
  have hfew := allW_few (D := D) (by omega) (n := N) (by omega)
  have HWl := Lib.hid (show (allW D N).length ≤ 1048576 by omega)
  have HWs := Lib.hid (show ∀ s ∈ allW D N, s.size ≤ 1048576 from fun s hs => by have := allW_size D N s hs; omega)
  clear t1 hs1 h1 hsh
  go_enter Tryd.func21, Tryd.ntmps21
  go_wp2_with fail
  refine (iIsSeries_c D N g1 0 _ xs hl1 HS1.out _ (by simp; omega) (HT1.out.below (below3 w _ _ _) hb1)).mono ?_
  rw [HH.out]
  rintro e w1 ⟨rfl, hb⟩
  have HB := Lib.hid (show Below (w.heap.size + 1 + 1 + 1) (((w.alloc (.cells #[.int .i64 D, .int .i64 N, .slice (some ⟨g1, 0, none⟩) xs.length xs.length] 24)).alloc (.cells #[.int .i64 K] 2)).alloc (.cells #[.int .i64 0, .int .i64 0, .slice none 0 0] 24)) w1 from by simpa using hb)
  have hz1 : w.heap.size + 1 + 1 + 1 ≤ w1.heap.size := by have := HB.out.size; simp at this; omega
  have bc := bcellB HB.out
  have x0 : w1.cell? ⟨w.heap.size, 0, none⟩ = some (.int .i64 D) := (bc.1 _ _ (by omega)).trans (by go_simp)
  have x1 : w1.cell? ⟨w.heap.size, 1, none⟩ = some (.int .i64 N) := (bc.1 _ _ (by omega)).trans (by go_simp)
  have k0 : w1.cell? ⟨w.heap.size + 1, 0, none⟩ = some (.int .i64 K) := (bc.1 _ _ (by omega)).trans (by go_simp)
  clear hb bc
  go_wp2_with (first | (go_at_call 56; refine (isBetween_c _ _ _ _).mono ?_; rw [HKb.out]; rintro e w' ⟨rfl, rfl⟩) | fail)
  refine (spaceOf_c D N (by omega) (by omega) _).mono ?_
  rintro e w2 ⟨aS, cS, rfl, hb2', hN2⟩
  have HB2 := Lib.hid (HB.out.trans (hb2'.mono (by omega)))
  have hz2 : w1.heap.size ≤ w2.heap.size := hb2'.size
  have HB3 := Lib.hid (HB2.out.alloc (by omega) (.cells #[.int .i64 D, .int .i64 N, .slice aS (allW D N).length cS] 53))
  have HW3 := Lib.hid ((below3 w (.cells #[.int .i64 D, .int .i64 N, .slice (some ⟨g1, 0, none⟩) xs.length xs.length] 24) (.cells #[.int .i64 K] 2) (.cells #[.int .i64 0, .int .i64 0, .slice none 0 0] 24)).trans (HB3.out.mono (by omega)))
  have bc := bcellB HB3.out
  have Kx0 : (w2.alloc (.cells #[.int .i64 D, .int .i64 N, .slice aS (allW D N).length cS] 53)).cell? ⟨w.heap.size, 0, none⟩ = some (.int .i64 D) := (bc.1 _ _ (by omega)).trans (by go_simp)
  have Kx1 : (w2.alloc (.cells #[.int .i64 D, .int .i64 N, .slice aS (allW D N).length cS] 53)).cell? ⟨w.heap.size, 1, none⟩ = some (.int .i64 N) := (bc.1 _ _ (by omega)).trans (by go_simp)
  have Kx2 : (w2.alloc (.cells #[.int .i64 D, .int .i64 N, .slice aS (allW D N).length cS] 53)).cell? ⟨w.heap.size, 2, none⟩ = some (.slice (some ⟨g1, 0, none⟩) xs.length xs.length) := (bc.1 _ _ (by omega)).trans (by go_simp)
  have Kk0 : (w2.alloc (.cells #[.int .i64 D, .int .i64 N, .slice aS (allW D N).length cS] 53)).cell? ⟨w.heap.size + 1, 0, none⟩ = some (.int .i64 K) := (bc.1 _ _ (by omega)).trans (by go_simp)
  have Ks0 : (w2.alloc (.cells #[.int .i64 D, .int .i64 N, .slice aS (allW D N).length cS] 53)).cell? ⟨w2.heap.size, 0, none⟩ = some (.int .i64 D) := by go_simp
  have Ks1 : (w2.alloc (.cells #[.int .i64 D, .int .i64 N, .slice aS (allW D N).length cS] 53)).cell? ⟨w2.heap.size, 1, none⟩ = some (.int .i64 N) := by go_simp
  have Ks2 : (w2.alloc (.cells #[.int .i64 D, .int .i64 N, .slice aS (allW D N).length cS] 53)).cell? ⟨w2.heap.size, 2, none⟩ = some (.slice aS (allW D N).length cS) := by go_simp
  have HNs := Lib.hid (hN2.row.below (below1 w2 (.cells #[.int .i64 D, .int .i64 N, .slice aS (allW D N).length cS] 53)) (Nat.le_refl _))
  have hzz : (w2.alloc (.cells #[.int .i64 D, .int .i64 N, .slice aS (allW D N).length cS] 53)).heap.size = w2.heap.size + 1 := by simp
  have HR := Lib.hid (show Z3 w2 (w.heap.size + 1 + 1) from by
    have bc := bcellB HB2.out
    exact ⟨by omega, (bc.1 _ _ (by omega)).trans (by go_simp), (bc.1 _ _ (by omega)).trans (by go_simp), (bc.1 _ _ (by omega)).trans (by go_simp), (bc.2 _ _ (by omega)).trans (by go_simp), (bc.2 _ _ (by omega)).trans (by go_simp), (bc.2 _ _ (by omega)).trans (by go_simp)⟩)
  have HWork := Lib.hid (fun W (hW : Below (w2.alloc (.cells #[.int .i64 D, .int .i64 N, .slice aS (allW D N).length cS] 53)).heap.size (w2.alloc (.cells #[.int .i64 D, .int .i64 N, .slice aS (allW D N).length cS] 53)) W) => powWork D N K (by omega) (by omega) hK w2.heap.size w.heap.size (w.heap.size + 1) aS (some ⟨g1, 0, none⟩) cS xs.length xs HH.out hl1 HS1.out W (by have := hW.size; omega) (by have := hW.size; omega) (by have := hW.size; omega) ((hW.cell (p := ⟨w2.heap.size, 0, none⟩) (by show w2.heap.size < _; omega)).trans Ks0) ((hW.cell (p := ⟨w2.heap.size, 1, none⟩) (by show w2.heap.size < _; omega)).trans Ks1) ((hW.cell (p := ⟨w2.heap.size, 2, none⟩) (by show w2.heap.size < _; omega)).trans Ks2) ((hW.cell (p := ⟨w.heap.size, 0, none⟩) (by show w.heap.size < _; omega)).trans Kx0) ((hW.cell (p := ⟨w.heap.size, 1, none⟩) (by show w.heap.size < _; omega)).trans Kx1) ((hW.cell (p := ⟨w.heap.size, 2, none⟩) (by show w.heap.size < _; omega)).trans Kx2) ((hW.cell (p := ⟨w.heap.size + 1, 0, none⟩) (by show w.heap.size + 1 < _; omega)).trans Kk0) (HNs.out.below hW (Nat.le_refl _)) (.inr ⟨g1, 0, rfl, by have := hW.size; omega, HT1.out.below (HW3.out.trans (hW.mono (by omega))) hb1⟩))
  clear bc hb2' hN2 x0 x1 k0
  cases hv : powV (valV xs xs.length) (allW D N) K with
  | none =>
    have HVv := Lib.hid hv
    have HDoor := Lib.hid (door_no D N aS (allW D N).length cS 57 #[.pointer (some ⟨w.heap.size, 0, none⟩), .pointer (some ⟨w.heap.size + 1, 0, none⟩), .pointer (some ⟨w2.heap.size, 0, none⟩)] (fun _ => by kernel_rfl) (w2.alloc (.cells #[.int .i64 D, .int .i64 N, .slice aS (allW D N).length cS] 53)) (fun W hW => by have hk := HWork.out W hW; rw [hv] at hk; exact hk))
    clear Kx0 Kx1 Kx2 Kk0 Ks0 Ks1 Ks2 hv
    go_wp2_with fail
    refine HDoor.out.mono ?_
    rintro e w4 ⟨rfl, hb4⟩
    have HZ := Lib.hid ((HR.out.below (below1 w2 (.cells #[.int .i64 D, .int .i64 N, .slice aS (allW D N).length cS] 53)) HR.out.1).below hb4 (by omega))
    have r0 := HZ.out.2.1
    have r1 := HZ.out.2.2.1
    have r2 := HZ.out.2.2.2.1
    have z0 := HZ.out.2.2.2.2.1
    have z1 := HZ.out.2.2.2.2.2.1
    have z2 := HZ.out.2.2.2.2.2.2
    have HW4 := Lib.hid (HW3.out.trans (hb4.mono (by omega)))

    clear hb4
    go_wp2
    rw [HVv.out]
    refine bodyPost_ret (v := .tuple #[.agg #[.int .i64 0, .int .i64 0, .slice none 0 0], .int .i64 3]) (by simp [results, Tryd.results21, go_sem, r0, r1, r2]) rfl (SerPost.err 3 rfl ?_)
    have hW := HW4.out
    go_grown

  | some h =>
    have HVv := Lib.hid hv
    have HDoor := Lib.hid (door_yes D N aS cS (allW D N) HWl.out HWs.out h 57 #[.pointer (some ⟨w.heap.size, 0, none⟩), .pointer (some ⟨w.heap.size + 1, 0, none⟩), .pointer (some ⟨w2.heap.size, 0, none⟩)] (fun _ => by kernel_rfl) (w2.alloc (.cells #[.int .i64 D, .int .i64 N, .slice aS (allW D N).length cS] 53)) (fun W hW => by have hk := HWork.out W hW; rw [hv] at hk; exact hk) HNs.out)
    clear Kx0 Kx1 Kx2 Kk0 Ks0 Ks1 Ks2 hv
    go_wp2_with fail
    refine HDoor.out.mono ?_
    rintro e w4 ⟨a4, c4, rfl, hb4, hN4⟩
    have HZ := Lib.hid ((HR.out.below (below1 w2 (.cells #[.int .i64 D, .int .i64 N, .slice aS (allW D N).length cS] 53)) HR.out.1).below hb4 (by omega))
    have r0 := HZ.out.2.1
    have r1 := HZ.out.2.2.1
    have r2 := HZ.out.2.2.2.1
    have z0 := HZ.out.2.2.2.2.1
    have z1 := HZ.out.2.2.2.2.2.1
    have z2 := HZ.out.2.2.2.2.2.2
    have HW4 := Lib.hid (HW3.out.trans (hb4.mono (by omega)))
    have HN4 := Lib.hid hN4
    clear hb4 hN4
    go_wp2
    rw [HVv.out]
    refine bodyPost_ret (v := .tuple #[.agg #[.int .i64 D, .int .i64 N, .slice a4 (termsOf h (allW D N)).length c4], .int .i64 0]) (by simp [results, Tryd.results21, go_sem, r0, r1, r2]) rfl ⟨a4, c4, rfl, ?_, ?_⟩
    · have hW := HW4.out
      go_grown
    · exact (((HN4.out.far1s (n := w.heap.size + 1 + 1) (i := 0) (x := .int .i64 D) (by omega)).far1s (n := w.heap.size + 1 + 1) (i := 1) (x := .int .i64 N) (by omega)).far1s (n := w.heap.size + 1 + 1) (i := 2) (x := .slice a4 (termsOf h (allW D N)).length c4) (by omega)).mono (by omega) (by simp)

end Go.Proofs.YtoeednnkadmjpaaDoor
