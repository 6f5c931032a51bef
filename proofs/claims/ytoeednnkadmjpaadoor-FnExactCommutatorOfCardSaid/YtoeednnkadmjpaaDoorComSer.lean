/-
  Contracts of CommutatorOf, of the program and of its model: both return the same series and code.
-/
import Derived.Test.YtoeednnkadmjpaaDoorComV
import Derived.Test.YtoeednnkadmjpaaDoorGate
import Derived.Test.YtoeednnkadmjpaaDoorAddP
import Derived.Deep.RegionHeld2
namespace Go.Proofs.YtoeednnkadmjpaaDoor
open Go.RowKit

set_option maxRecDepth 100000 in
set_option maxHeartbeats 4000000 in
theorem sCom_1 (L1 V1 L2 V2 : Int) (g1 g2 : Nat) (xs ys : List Tm) (hl1 : xs.length ≤ 1048576) (hl2 : ys.length ≤ 1048576) (hs1 : ∀ i (h : i < xs.length), (xs[i]).s.size ≤ maxLen) (hs2 : ∀ i (h : i < ys.length), (ys[i]).s.size ≤ maxLen) (c : Int) (hc : codeL L1 V1 xs L2 V2 ys = c) (hc0 : c ≠ 0) (w : World) (hb1 : g1 < w.heap.size) (hb2 : g2 < w.heap.size) (t1 : TermsIn w g1 0 xs) (t2 : TermsIn w g2 0 ys) :
    Calls Tryd.prog 22 #[.agg #[.int .i64 L1, .int .i64 V1, .slice (some ⟨g1, 0, none⟩) xs.length xs.length], .agg #[.int .i64 L2, .int .i64 V2, .slice (some ⟨g2, 0, none⟩) ys.length ys.length]] w (SerPost 0 0 [] c w) := by
  have HT1 := Lib.hid t1
  have HT2 := Lib.hid t2
  have HS1 := Lib.hid hs1
  have HS2 := Lib.hid hs2
  have HC := Lib.hid hc
  have hcn : (c != 0) = true := by simpa using hc0
  clear t1 t2 hs1 hs2 hc hc0
  go_enter Tryd.func22, Tryd.ntmps22
  go_wp2_with fail
  refine (l01Code_c L1 V1 L2 V2 g1 0 xs.length g2 0 ys.length (w.heap.size + 1 + 1 + 1) xs ys hl1 hl2 HS1.out HS2.out _ (by simp; omega) (by simp; omega) (by simp) (HT1.out.below (below4 w _ _ _ _) hb1) (HT2.out.below (below4 w _ _ _ _) hb2) (by go_simp) (by go_simp) (by go_simp)).mono ?_
  rw [HC.out]
  rintro e w1 ⟨rfl, hb⟩
  have hB := hb
  simp only [World.size_alloc] at hB
  have bc := bcellB hB
  have r0 : w1.cell? ⟨w.heap.size + 1 + 1, 0, none⟩ = some (.int .i64 0) := (bc.1 _ _ (by omega)).trans (by go_simp)
  have r1 : w1.cell? ⟨w.heap.size + 1 + 1, 1, none⟩ = some (.int .i64 0) := (bc.1 _ _ (by omega)).trans (by go_simp)
  have r2 : w1.cell? ⟨w.heap.size + 1 + 1, 2, none⟩ = some (.slice none 0 0) := (bc.1 _ _ (by omega)).trans (by go_simp)
  have z0 : w1.frozen? ⟨w.heap.size + 1 + 1, 0, none⟩ = false := (bc.2 _ _ (by omega)).trans (by go_simp)
  have z1 : w1.frozen? ⟨w.heap.size + 1 + 1, 1, none⟩ = false := (bc.2 _ _ (by omega)).trans (by go_simp)
  have z2 : w1.frozen? ⟨w.heap.size + 1 + 1, 2, none⟩ = false := (bc.2 _ _ (by omega)).trans (by go_simp)
  have HW := Lib.hid ((below4 w _ _ _ _).trans (hB.mono (by omega)))
  have hz : w.heap.size + 1 + 1 < w1.heap.size := by have := hB.size; simp at this; omega
  clear bc hB hb
  go_wp2
  refine bodyPost_ret (v := .tuple #[.agg #[.int .i64 0, .int .i64 0, .slice none 0 0], .int .i64 c]) (by simp [results, Tryd.results22, go_sem, r0, r1, r2]) rfl (SerPost.err c rfl ?_)
  have hW := HW.out
  go_grown

set_option maxRecDepth 100000 in
set_option maxHeartbeats 4000000 in
theorem iCom_1 (L1 V1 L2 V2 : Int) (g1 g2 : Nat) (xs ys : List Tm) (hl1 : xs.length ≤ 1048576) (hl2 : ys.length ≤ 1048576) (hs1 : ∀ i (h : i < xs.length), (xs[i]).s.size ≤ maxLen) (hs2 : ∀ i (h : i < ys.length), (ys[i]).s.size ≤ maxLen) (c : Int) (hc : codeL L1 V1 xs L2 V2 ys = c) (hc0 : c ≠ 0) (w : World) (hb1 : g1 < w.heap.size) (hb2 : g2 < w.heap.size) (t1 : TermsIn w g1 0 xs) (t2 : TermsIn w g2 0 ys) :
    Calls Tryd.prog 23 #[.agg #[.int .i64 L1, .int .i64 V1, .slice (some ⟨g1, 0, none⟩) xs.length xs.length], .agg #[.int .i64 L2, .int .i64 V2, .slice (some ⟨g2, 0, none⟩) ys.length ys.length]] w (SerPost 0 0 [] c w) := by
  have HT1 := Lib.hid t1
  have HT2 := Lib.hid t2
  have HS1 := Lib.hid hs1
  have HS2 := Lib.hid hs2
  have HC := Lib.hid hc
  have hcn : (c != 0) = true := by simpa using hc0
  clear t1 t2 hs1 hs2 hc hc0
  go_enter Tryd.func23, Tryd.ntmps23
  go_wp2_with fail
  refine (checkFactors_c L1 V1 L2 V2 g1 g2 _ _ xs ys hl1 hl2 HS1.out HS2.out _ (by simp; omega) (by simp; omega) (HT1.out.below (below3 w _ _ _) hb1) (HT2.out.below (below3 w _ _ _) hb2)).mono ?_
  rw [HC.out]
  rintro e w1 ⟨rfl, hb⟩
  have hB := hb
  simp only [World.size_alloc] at hB
  have bc := bcellB hB
  have r0 : w1.cell? ⟨w.heap.size + 1 + 1, 0, none⟩ = some (.int .i64 0) := (bc.1 _ _ (by omega)).trans (by go_simp)
  have r1 : w1.cell? ⟨w.heap.size + 1 + 1, 1, none⟩ = some (.int .i64 0) := (bc.1 _ _ (by omega)).trans (by go_simp)
  have r2 : w1.cell? ⟨w.heap.size + 1 + 1, 2, none⟩ = some (.slice none 0 0) := (bc.1 _ _ (by omega)).trans (by go_simp)
  have z0 : w1.frozen? ⟨w.heap.size + 1 + 1, 0, none⟩ = false := (bc.2 _ _ (by omega)).trans (by go_simp)
  have z1 : w1.frozen? ⟨w.heap.size + 1 + 1, 1, none⟩ = false := (bc.2 _ _ (by omega)).trans (by go_simp)
  have z2 : w1.frozen? ⟨w.heap.size + 1 + 1, 2, none⟩ = false := (bc.2 _ _ (by omega)).trans (by go_simp)
  have HW := Lib.hid ((below3 w _ _ _).trans (hB.mono (by omega)))
  have hz : w.heap.size + 1 + 1 < w1.heap.size := by have := hB.size; simp at this; omega
  clear bc hB hb
  go_wp2
  refine bodyPost_ret (v := .tuple #[.agg #[.int .i64 0, .int .i64 0, .slice none 0 0], .int .i64 c]) (by simp [results, Tryd.results23, go_sem, r0, r1, r2]) rfl (SerPost.err c rfl ?_)
  have hW := HW.out
  go_grown

/-- the value at a word where both series are of one shape -/
def comS (D N : Nat) (xs ys : List Tm) : Option (List Tm) := commL (valV xs xs.length) (valV ys ys.length) (allW D N)
/-- what a function comes to that returns a series, if all fits -/
def FitSer (L V : Int) (r : Option (List Tm)) (W : World) (e : Ending) (w' : World) : Prop := match r with | none => SerPost 0 0 [] 3 W e w' | some ts => SerPost L V ts 0 W e w'
set_option maxRecDepth 100000 in
set_option maxHeartbeats 4000000 in
theorem sCom_2 (D N : Nat) (g1 g2 : Nat) (xs ys : List Tm) (hl1 : xs.length ≤ 1048576) (hl2 : ys.length ≤ 1048576) (hs1 : ∀ i (h : i < xs.length), (xs[i]).s.size ≤ maxLen) (hs2 : ∀ i (h : i < ys.length), (ys[i]).s.size ≤ maxLen) (h1 : serB D N xs = true) (h2 : serB D N ys = true) (w : World) (hb1 : g1 < w.heap.size) (hb2 : g2 < w.heap.size) (t1 : TermsIn w g1 0 xs) (t2 : TermsIn w g2 0 ys) :
    Calls Tryd.prog 22 #[.agg #[.int .i64 D, .int .i64 N, .slice (some ⟨g1, 0, none⟩) xs.length xs.length], .agg #[.int .i64 D, .int .i64 N, .slice (some ⟨g2, 0, none⟩) ys.length ys.length]] w (FitSer D N (comS D N xs ys) w) := by
  have hsh : shapeB (D : Int) (N : Int) = true := by unfold serB at h1; rw [Bool.and_eq_true] at h1; exact h1.1
  have hDN := shape_out hsh
  have G1 := good_valV h1
  have G2 := good_valV h2
  have HT1 := Lib.hid t1
  have HT2 := Lib.hid t2
  have HS1 := Lib.hid hs1
  have HS2 := Lib.hid hs2
  have HC := Lib.hid (codeL_4 h1 h2 (show alikeB (D : Int) (N : Int) (D : Int) (N : Int) = true by simp [alikeB]))
  have HTm := Lib.hid (fun W r1 r2 => l02Commutator_c D N (by omega) (by omega) (some ⟨g1, 0, none⟩) (some ⟨g2, 0, none⟩) xs.length ys.length _ _ G1.1 G2.1 xs ys G1.2 G2.2 hl1 hl2 W r1 r2)
  have HMr := Lib.hid (show comS D N xs ys = commL (valV xs xs.length) (valV ys ys.length) (allW D N) from rfl)
  clear t1 t2 hs1 hs2 G1 G2 h1 h2 hsh
  go_enter Tryd.func22, Tryd.ntmps22
  go_wp2_with fail
  refine (l01Code_c D N D N g1 0 xs.length g2 0 ys.length (w.heap.size + 1 + 1 + 1) xs ys hl1 hl2 HS1.out HS2.out _ (by simp; omega) (by simp; omega) (by simp) (HT1.out.below (below4 w _ _ _ _) hb1) (HT2.out.below (below4 w _ _ _ _) hb2) (by go_simp) (by go_simp) (by go_simp)).mono ?_
  rw [HC.out]
  rintro e w1 ⟨rfl, hb⟩
  have HB := Lib.hid (show Below (w.heap.size + 1 + 1 + 1) (((w.alloc (.cells #[.int .i64 D, .int .i64 N, .slice (some ⟨g1, 0, none⟩) xs.length xs.length] 24)).alloc (.cells #[.int .i64 D, .int .i64 N, .slice (some ⟨g2, 0, none⟩) ys.length ys.length] 24)).alloc (.cells #[.int .i64 0, .int .i64 0, .slice none 0 0] 24)) w1 from ((Below.refl _ _).alloc (by simp) _).trans (hb.mono (by simp)))
  have HW := Lib.hid ((below3 w _ _ _).trans (HB.out.mono (by omega)))
  have hz1 : w.heap.size + 1 + 1 + 1 ≤ w1.heap.size := by have := HB.out.size; simp at this; omega
  have bc := bcellB HB.out
  have x0 : w1.cell? ⟨w.heap.size, 0, none⟩ = some (.int .i64 D) := (bc.1 _ _ (by omega)).trans (by go_simp)
  have x1 : w1.cell? ⟨w.heap.size, 1, none⟩ = some (.int .i64 N) := (bc.1 _ _ (by omega)).trans (by go_simp)
  have x2 : w1.cell? ⟨w.heap.size, 2, none⟩ = some (.slice (some ⟨g1, 0, none⟩) xs.length xs.length) := (bc.1 _ _ (by omega)).trans (by go_simp)
  have y0 : w1.cell? ⟨w.heap.size + 1, 0, none⟩ = some (.int .i64 D) := (bc.1 _ _ (by omega)).trans (by go_simp)
  have y1 : w1.cell? ⟨w.heap.size + 1, 1, none⟩ = some (.int .i64 N) := (bc.1 _ _ (by omega)).trans (by go_simp)
  have y2 : w1.cell? ⟨w.heap.size + 1, 2, none⟩ = some (.slice (some ⟨g2, 0, none⟩) ys.length ys.length) := (bc.1 _ _ (by omega)).trans (by go_simp)
  clear hb bc
  go_wp2_with fail
  refine (HTm.out _ (.inr ⟨g1, 0, rfl, by omega, HT1.out.below HW.out hb1⟩) (.inr ⟨g2, 0, rfl, by omega, HT2.out.below HW.out hb2⟩)).mono ?_
  rw [← HMr.out]
  clear x0 x1 x2 y0 y1 y2
  cases hr : comS D N xs ys with
  | none =>
    rintro e w2 ⟨rfl, hb⟩
    have HB2 := Lib.hid (HB.out.trans (hb.mono (by omega)))
    have hz2 : w.heap.size + 1 + 1 < w2.heap.size := by have := hb.size; omega
    have bc := bcellB HB2.out
    have r0 : w2.cell? ⟨w.heap.size + 1 + 1, 0, none⟩ = some (.int .i64 0) := (bc.1 _ _ (by omega)).trans (by go_simp)
    have r1 : w2.cell? ⟨w.heap.size + 1 + 1, 1, none⟩ = some (.int .i64 0) := (bc.1 _ _ (by omega)).trans (by go_simp)
    have r2 : w2.cell? ⟨w.heap.size + 1 + 1, 2, none⟩ = some (.slice none 0 0) := (bc.1 _ _ (by omega)).trans (by go_simp)
    have z0 : w2.frozen? ⟨w.heap.size + 1 + 1, 0, none⟩ = false := (bc.2 _ _ (by omega)).trans (by go_simp)
    have z1 : w2.frozen? ⟨w.heap.size + 1 + 1, 1, none⟩ = false := (bc.2 _ _ (by omega)).trans (by go_simp)
    have z2 : w2.frozen? ⟨w.heap.size + 1 + 1, 2, none⟩ = false := (bc.2 _ _ (by omega)).trans (by go_simp)
    have HW2 := Lib.hid ((below3 w _ _ _).trans (HB2.out.mono (by omega)))
    have HRr := Lib.hid hr
    clear bc hb hr
    go_wp2
    rw [HRr.out]
    refine bodyPost_ret (v := .tuple #[.agg #[.int .i64 0, .int .i64 0, .slice none 0 0], .int .i64 3]) (by simp [results, Tryd.results22, go_sem, r0, r1, r2, hz2]) rfl (SerPost.err 3 rfl ?_)
    have hW := HW2.out
    go_grown
  | some ts =>
    rintro e w2 ⟨a3, c3, rfl, hb, hN⟩
    have HB2 := Lib.hid (HB.out.trans (hb.mono (by omega)))
    have hz2 : w.heap.size + 1 + 1 < w2.heap.size := by have := hb.size; omega
    have bc := bcellB HB2.out
    have r0 : w2.cell? ⟨w.heap.size + 1 + 1, 0, none⟩ = some (.int .i64 0) := (bc.1 _ _ (by omega)).trans (by go_simp)
    have r1 : w2.cell? ⟨w.heap.size + 1 + 1, 1, none⟩ = some (.int .i64 0) := (bc.1 _ _ (by omega)).trans (by go_simp)
    have r2 : w2.cell? ⟨w.heap.size + 1 + 1, 2, none⟩ = some (.slice none 0 0) := (bc.1 _ _ (by omega)).trans (by go_simp)
    have z0 : w2.frozen? ⟨w.heap.size + 1 + 1, 0, none⟩ = false := (bc.2 _ _ (by omega)).trans (by go_simp)
    have z1 : w2.frozen? ⟨w.heap.size + 1 + 1, 1, none⟩ = false := (bc.2 _ _ (by omega)).trans (by go_simp)
    have z2 : w2.frozen? ⟨w.heap.size + 1 + 1, 2, none⟩ = false := (bc.2 _ _ (by omega)).trans (by go_simp)
    have HW2 := Lib.hid ((below3 w _ _ _).trans (HB2.out.mono (by omega)))
    have HN := Lib.hid hN
    have HRr := Lib.hid hr
    clear bc hb hr hN
    go_wp2
    rw [HRr.out]
    refine bodyPost_ret (v := .tuple #[.agg #[.int .i64 D, .int .i64 N, .slice a3 ts.length c3], .int .i64 0]) (by simp [results, Tryd.results22, go_sem, r0, r1, r2, hz2]) rfl ⟨a3, c3, rfl, ?_, ?_⟩
    · have hW := HW2.out
      go_grown
    · have h := ((HN.out.far1s (n := w.heap.size + 1 + 1) (i := 0) (x := .int .i64 D) (by omega)).far1s (n := w.heap.size + 1 + 1) (i := 1) (x := .int .i64 N) (by omega)).far1s (n := w.heap.size + 1 + 1) (i := 2) (x := .slice a3 ts.length c3) (by omega)
      exact (h.below (below1 _ (.cells #[.int .i64 D, .int .i64 N, .slice a3 ts.length c3] 24)) (by simp)).mono (by omega) (by simp)

set_option maxRecDepth 100000 in
set_option maxHeartbeats 4000000 in
theorem comWork_no (D N : Nat) (hD : 1 ≤ D ∧ D ≤ 3) (hN : N ≤ 5) (p px py : Nat) (aS a1 a2 : Option Addr) (cS c1 c2 : Nat) (xs ys : List Tm) (h1 : serB D N xs = true) (h2 : serB D N ys = true) (hl1 : xs.length ≤ 1048576) (hl2 : ys.length ≤ 1048576) (hs1 : ∀ i (h : i < xs.length), (xs[i]).s.size ≤ maxLen) (hs2 : ∀ i (h : i < ys.length), (ys[i]).s.size ≤ maxLen) (hv : commV (valV xs xs.length) (valV ys ys.length) (allW D N) = none) (w : World) (hp : p < w.heap.size) (hpx : px < w.heap.size) (hpy : py < w.heap.size) (s0 : w.cell? ⟨p, 0, none⟩ = some (.int .i64 D)) (s1 : w.cell? ⟨p, 1, none⟩ = some (.int .i64 N)) (s2 : w.cell? ⟨p, 2, none⟩ = some (.slice aS (allW D N).length cS)) (x0 : w.cell? ⟨px, 0, none⟩ = some (.int .i64 D)) (x1 : w.cell? ⟨px, 1, none⟩ = some (.int .i64 N)) (x2 : w.cell? ⟨px, 2, none⟩ = some (.slice a1 xs.length c1)) (y0 : w.cell? ⟨py, 0, none⟩ = some (.int .i64 D)) (y1 : w.cell? ⟨py, 1, none⟩ = some (.int .i64 N)) (y2 : w.cell? ⟨py, 2, none⟩ = some (.slice a2 ys.length c2)) (hrs : SRow w aS (allW D N)) (hr1 : Row w a1 xs) (hr2 : Row w a2 ys) :
    Calls Tryd.prog 59 #[.pointer (some ⟨p, 0, none⟩), .pointer (some ⟨px, 0, none⟩), .pointer (some ⟨py, 0, none⟩)] w (WorkPost (commV (valV xs xs.length) (valV ys ys.length) (allW D N)) w) := by
  have hfew := allW_few (D := D) hD.2 (n := N) hN
  have HWl := Lib.hid (show (allW D N).length ≤ 100000 by omega)
  have HWs := Lib.hid (show ∀ s ∈ allW D N, s.size ≤ 1000 from fun s hs => by have := allW_size D N s hs; omega)
  have G1 := good_valV h1
  have G2 := good_valV h2
  have HG1 := Lib.hid (show ∀ s p, valV xs xs.length s = some p → isF p.1 p.2 = true from fun s p e => (G1.1 s p e).2.1)
  have HG2 := Lib.hid (show ∀ s p, valV ys ys.length s = some p → isF p.1 p.2 = true from fun s p e => (G2.1 s p e).2.1)
  have HS1 := Lib.hid hs1
  have HS2 := Lib.hid hs2
  have HV := Lib.hid hv
  have HAa := Lib.hid (show ∀ p, aS = some p → p.block < w.heap.size from fun p e => by
    rcases hrs with h | ⟨b, o, e2, h3, _⟩
    · obtain ⟨r, hr, _⟩ := allW_head D N
      rw [hr] at h
      cases h
    · rw [e2] at e
      injection e with e
      rw [← e]
      exact h3)
  have HRS := Lib.hid hrs
  have HR1 := Lib.hid hr1
  have HR2 := Lib.hid hr2
  have KS := Lib.hid (show ∀ w', Below w.heap.size w w' → (w'.cell? ⟨p, 0, none⟩ = some (.int .i64 D) ∧ w'.cell? ⟨p, 1, none⟩ = some (.int .i64 N) ∧ w'.cell? ⟨p, 2, none⟩ = some (.slice aS (allW D N).length cS) ∧ w'.cell? ⟨px, 0, none⟩ = some (.int .i64 D) ∧ w'.cell? ⟨px, 1, none⟩ = some (.int .i64 N) ∧ w'.cell? ⟨px, 2, none⟩ = some (.slice a1 xs.length c1) ∧ w'.cell? ⟨py, 0, none⟩ = some (.int .i64 D) ∧ w'.cell? ⟨py, 1, none⟩ = some (.int .i64 N) ∧ w'.cell? ⟨py, 2, none⟩ = some (.slice a2 ys.length c2)) from fun w' hb => ⟨(hb.cell (p := ⟨p, 0, none⟩) hp).trans s0, (hb.cell (p := ⟨p, 1, none⟩) hp).trans s1, (hb.cell (p := ⟨p, 2, none⟩) hp).trans s2, (hb.cell (p := ⟨px, 0, none⟩) hpx).trans x0, (hb.cell (p := ⟨px, 1, none⟩) hpx).trans x1, (hb.cell (p := ⟨px, 2, none⟩) hpx).trans x2, (hb.cell (p := ⟨py, 0, none⟩) hpy).trans y0, (hb.cell (p := ⟨py, 1, none⟩) hpy).trans y1, (hb.cell (p := ⟨py, 2, none⟩) hpy).trans y2⟩)
  clear hs1 hs2 hv hrs hr1 hr2 h1 h2 G1 G2
  go_enter Tryd.func59, Tryd.ntmps59
  go_upto_region 1 with fail
  go_region_held2 (fun w' => w'.cell? ⟨p, 0, none⟩ = some (.int .i64 D) ∧ w'.cell? ⟨p, 1, none⟩ = some (.int .i64 N) ∧ w'.cell? ⟨p, 2, none⟩ = some (.slice aS (allW D N).length cS) ∧ w'.cell? ⟨px, 0, none⟩ = some (.int .i64 D) ∧ w'.cell? ⟨px, 1, none⟩ = some (.int .i64 N) ∧ w'.cell? ⟨px, 2, none⟩ = some (.slice a1 xs.length c1) ∧ w'.cell? ⟨py, 0, none⟩ = some (.int .i64 D) ∧ w'.cell? ⟨py, 1, none⟩ = some (.int .i64 N) ∧ w'.cell? ⟨py, 2, none⟩ = some (.slice a2 ys.length c2))
    (first | (exact KS.out _ (Below.drew (Below.refl _ _))) | (exact KS.out _ hb1) | (exact KS.out _ hb2) | fail)
    (first
      | (go_at_call 52; have hRd : Row w.drew a1 xs := HR1.out; (with_reducible refine (valuesOf_c D N a1 c1 xs hl1 HS1.out w.drew hRd).mono ?_); rintro e w1 ⟨m1, rfl, hm1, hb1', hM1⟩; have hb1 : Below w.heap.size w w1 := ⟨hb1'.os, hb1'.tape, hb1'.output, hb1'.size, hb1'.block⟩; have hbl1 := hM1.lt)
      | (go_at_call 52; have hRd : Row w1 a2 ys := HR2.out.below hb1; (with_reducible refine (valuesOf_c D N a2 c2 ys hl2 HS2.out w1 hRd).mono ?_); rintro e w2 ⟨m2, rfl, hm2, hb2', hM2⟩; have hb2 := hb1.trans (hb2'.mono hb1.size); have hM1' := hM1.below hb2' hbl1)
      | (go_at_call 60; have hPr := commutator_c D N aS cS (allW D N) HWl.out HWs.out _ _ HG1.out HG2.out m1 _ m2 _ w2 (HRS.out.below hb2 (Nat.le_refl _)) (fun p e => Nat.lt_of_lt_of_le (HAa.out p e) hb2.size) hM1' hM2; rw [HV.out] at hPr; refine dead_of (.map none) hPr (fun w3 hb3 => ⟨rfl, by rw [HV.out]; exact ⟨rfl, hb2.trans (hb3.mono hb2.size)⟩⟩) ?_; intro hF)
      | fail)
  all_goals exact hF.out.elim

set_option maxRecDepth 100000 in
set_option maxHeartbeats 4000000 in
theorem comWork_yes (D N : Nat) (hD : 1 ≤ D ∧ D ≤ 3) (hN : N ≤ 5) (p px py : Nat) (aS a1 a2 : Option Addr) (cS c1 c2 : Nat) (xs ys : List Tm) (h1 : serB D N xs = true) (h2 : serB D N ys = true) (hl1 : xs.length ≤ 1048576) (hl2 : ys.length ≤ 1048576) (hs1 : ∀ i (h : i < xs.length), (xs[i]).s.size ≤ maxLen) (hs2 : ∀ i (h : i < ys.length), (ys[i]).s.size ≤ maxLen) (h : VF) (hv : commV (valV xs xs.length) (valV ys ys.length) (allW D N) = some h) (w : World) (hp : p < w.heap.size) (hpx : px < w.heap.size) (hpy : py < w.heap.size) (s0 : w.cell? ⟨p, 0, none⟩ = some (.int .i64 D)) (s1 : w.cell? ⟨p, 1, none⟩ = some (.int .i64 N)) (s2 : w.cell? ⟨p, 2, none⟩ = some (.slice aS (allW D N).length cS)) (x0 : w.cell? ⟨px, 0, none⟩ = some (.int .i64 D)) (x1 : w.cell? ⟨px, 1, none⟩ = some (.int .i64 N)) (x2 : w.cell? ⟨px, 2, none⟩ = some (.slice a1 xs.length c1)) (y0 : w.cell? ⟨py, 0, none⟩ = some (.int .i64 D)) (y1 : w.cell? ⟨py, 1, none⟩ = some (.int .i64 N)) (y2 : w.cell? ⟨py, 2, none⟩ = some (.slice a2 ys.length c2)) (hrs : SRow w aS (allW D N)) (hr1 : Row w a1 xs) (hr2 : Row w a2 ys) :
    Calls Tryd.prog 59 #[.pointer (some ⟨p, 0, none⟩), .pointer (some ⟨px, 0, none⟩), .pointer (some ⟨py, 0, none⟩)] w (WorkPost (commV (valV xs xs.length) (valV ys ys.length) (allW D N)) w) := by
  have hfew := allW_few (D := D) hD.2 (n := N) hN
  have HWl := Lib.hid (show (allW D N).length ≤ 100000 by omega)
  have HWs := Lib.hid (show ∀ s ∈ allW D N, s.size ≤ 1000 from fun s hs => by have := allW_size D N s hs; omega)
  have G1 := good_valV h1
  have G2 := good_valV h2
  have HG1 := Lib.hid (show ∀ s p, valV xs xs.length s = some p → isF p.1 p.2 = true from fun s p e => (G1.1 s p e).2.1)
  have HG2 := Lib.hid (show ∀ s p, valV ys ys.length s = some p → isF p.1 p.2 = true from fun s p e => (G2.1 s p e).2.1)
  have HS1 := Lib.hid hs1
  have HS2 := Lib.hid hs2
  have HV := Lib.hid hv
  have HAa := Lib.hid (show ∀ p, aS = some p → p.block < w.heap.size from fun p e => by
    rcases hrs with h | ⟨b, o, e2, h3, _⟩
    · obtain ⟨r, hr, _⟩ := allW_head D N
      rw [hr] at h
      cases h
    · rw [e2] at e
      injection e with e
      rw [← e]
      exact h3)
  have HRS := Lib.hid hrs
  have HR1 := Lib.hid hr1
  have HR2 := Lib.hid hr2
  have KS := Lib.hid (show ∀ w', Below w.heap.size w w' → (w'.cell? ⟨p, 0, none⟩ = some (.int .i64 D) ∧ w'.cell? ⟨p, 1, none⟩ = some (.int .i64 N) ∧ w'.cell? ⟨p, 2, none⟩ = some (.slice aS (allW D N).length cS) ∧ w'.cell? ⟨px, 0, none⟩ = some (.int .i64 D) ∧ w'.cell? ⟨px, 1, none⟩ = some (.int .i64 N) ∧ w'.cell? ⟨px, 2, none⟩ = some (.slice a1 xs.length c1) ∧ w'.cell? ⟨py, 0, none⟩ = some (.int .i64 D) ∧ w'.cell? ⟨py, 1, none⟩ = some (.int .i64 N) ∧ w'.cell? ⟨py, 2, none⟩ = some (.slice a2 ys.length c2)) from fun w' hb => ⟨(hb.cell (p := ⟨p, 0, none⟩) hp).trans s0, (hb.cell (p := ⟨p, 1, none⟩) hp).trans s1, (hb.cell (p := ⟨p, 2, none⟩) hp).trans s2, (hb.cell (p := ⟨px, 0, none⟩) hpx).trans x0, (hb.cell (p := ⟨px, 1, none⟩) hpx).trans x1, (hb.cell (p := ⟨px, 2, none⟩) hpx).trans x2, (hb.cell (p := ⟨py, 0, none⟩) hpy).trans y0, (hb.cell (p := ⟨py, 1, none⟩) hpy).trans y1, (hb.cell (p := ⟨py, 2, none⟩) hpy).trans y2⟩)
  clear hs1 hs2 hv hrs hr1 hr2 h1 h2 G1 G2
  go_enter Tryd.func59, Tryd.ntmps59
  go_upto_region 1 with fail
  go_region_held3 (fun w' => w'.cell? ⟨p, 0, none⟩ = some (.int .i64 D) ∧ w'.cell? ⟨p, 1, none⟩ = some (.int .i64 N) ∧ w'.cell? ⟨p, 2, none⟩ = some (.slice aS (allW D N).length cS) ∧ w'.cell? ⟨px, 0, none⟩ = some (.int .i64 D) ∧ w'.cell? ⟨px, 1, none⟩ = some (.int .i64 N) ∧ w'.cell? ⟨px, 2, none⟩ = some (.slice a1 xs.length c1) ∧ w'.cell? ⟨py, 0, none⟩ = some (.int .i64 D) ∧ w'.cell? ⟨py, 1, none⟩ = some (.int .i64 N) ∧ w'.cell? ⟨py, 2, none⟩ = some (.slice a2 ys.length c2))
    (first | (exact KS.out _ (Below.drew (Below.refl _ _))) | (exact KS.out _ hb1) | (exact KS.out _ hb2) | (exact KS.out _ hb3) | fail)
    (first
      | (go_at_call 52; have hRd : Row w.drew a1 xs := HR1.out; (with_reducible refine (valuesOf_c D N a1 c1 xs hl1 HS1.out w.drew hRd).mono ?_); rintro e w1 ⟨m1, rfl, hm1, hb1', hM1⟩; have hb1 : Below w.heap.size w w1 := ⟨hb1'.os, hb1'.tape, hb1'.output, hb1'.size, hb1'.block⟩; have hbl1 := hM1.lt)
      | (go_at_call 52; have hRd : Row w1 a2 ys := HR2.out.below hb1; (with_reducible refine (valuesOf_c D N a2 c2 ys hl2 HS2.out w1 hRd).mono ?_); rintro e w2 ⟨m2, rfl, hm2, hb2', hM2⟩; have hb2 := hb1.trans (hb2'.mono hb1.size); have hM1' := hM1.below hb2' hbl1)
      | (go_at_call 60; have hPr := commutator_c D N aS cS (allW D N) HWl.out HWs.out _ _ HG1.out HG2.out m1 _ m2 _ w2 (HRS.out.below hb2 (Nat.le_refl _)) (fun p e => Nat.lt_of_lt_of_le (HAa.out p e) hb2.size) hM1' hM2; rw [HV.out] at hPr; (with_reducible refine hPr.mono ?_); rintro e w3 ⟨m3, n3, rfl, hm3, hb3', hn3, hM3⟩; have hb3 := hb2.trans (hb3'.mono hb2.size))
      | fail)
  all_goals
    go_wp2
    rw [HV.out]
    go_ret
    exact ⟨m3, n3, rfl, Nat.le_trans hb2.size hm3, hb3, hn3, hM3⟩

set_option maxRecDepth 100000 in
set_option maxHeartbeats 8000000 in
theorem iCom_no (D N : Nat) (g1 g2 : Nat) (xs ys : List Tm) (hl1 : xs.length ≤ 1048576) (hl2 : ys.length ≤ 1048576) (hs1 : ∀ i (h : i < xs.length), (xs[i]).s.size ≤ maxLen) (hs2 : ∀ i (h : i < ys.length), (ys[i]).s.size ≤ maxLen) (h1 : serB D N xs = true) (h2 : serB D N ys = true) (hv : commV (valV xs xs.length) (valV ys ys.length) (allW D N) = none) (w : World) (hb1 : g1 < w.heap.size) (hb2 : g2 < w.heap.size) (t1 : TermsIn w g1 0 xs) (t2 : TermsIn w g2 0 ys) :
    Calls Tryd.prog 23 #[.agg #[.int .i64 D, .int .i64 N, .slice (some ⟨g1, 0, none⟩) xs.length xs.length], .agg #[.int .i64 D, .int .i64 N, .slice (some ⟨g2, 0, none⟩) ys.length ys.length]] w (SerPost 0 0 [] 3 w) := by
  have hsh : shapeB (D : Int) (N : Int) = true := by unfold serB at h1; rw [Bool.and_eq_true] at h1; exact h1.1
  have hDN := shape_out hsh
  have hmf : ∀ (fn : Fn) (first cap : Array Value) (w : World), (Instr.makeFunc fn first cap).run Tryd.prog w = .ok (.func fn first cap) w := fun _ _ _ _ => rfl
  have HT1 := Lib.hid t1
  have HT2 := Lib.hid t2
  have HS1 := Lib.hid hs1
  have HS2 := Lib.hid hs2
  have HH1 := Lib.hid h1
  have HH2 := Lib.hid h2
  have HV := Lib.hid hv
  have HC := Lib.hid (codeL_4 h1 h2 (show alikeB (D : Int) (N : Int) (D : Int) (N : Int) = true by simp [alikeB]))
  have hfew := allW_few (D := D) (by omega) (n := N) (by omega)
  have HWl := Lib.hid (show (allW D N).length ≤ 1048576 by omega)
  have HWs := Lib.hid (show ∀ s ∈ allW D N, s.size ≤ 1048576 from fun s hs => by have := allW_size D N s hs; omega)
  clear t1 t2 hs1 hs2 h1 h2 hv hsh
  go_enter Tryd.func23, Tryd.ntmps23
  go_wp2_with fail
  refine (checkFactors_c D N D N g1 g2 _ _ xs ys hl1 hl2 HS1.out HS2.out _ (by simp; omega) (by simp; omega) (HT1.out.below (below3 w _ _ _) hb1) (HT2.out.below (below3 w _ _ _) hb2)).mono ?_
  rw [HC.out]
  rintro e w1 ⟨rfl, hb⟩
  have HB := Lib.hid (show Below (w.heap.size + 1 + 1 + 1) (((w.alloc (.cells #[.int .i64 D, .int .i64 N, .slice (some ⟨g1, 0, none⟩) xs.length xs.length] 24)).alloc (.cells #[.int .i64 D, .int .i64 N, .slice (some ⟨g2, 0, none⟩) ys.length ys.length] 24)).alloc (.cells #[.int .i64 0, .int .i64 0, .slice none 0 0] 24)) w1 from by simpa using hb)
  have hz1 : w.heap.size + 1 + 1 + 1 ≤ w1.heap.size := by have := HB.out.size; simp at this; omega
  have bc := bcellB HB.out
  have x0 : w1.cell? ⟨w.heap.size, 0, none⟩ = some (.int .i64 D) := (bc.1 _ _ (by omega)).trans (by go_simp)
  have x1 : w1.cell? ⟨w.heap.size, 1, none⟩ = some (.int .i64 N) := (bc.1 _ _ (by omega)).trans (by go_simp)
  clear hb bc
  go_wp2_with fail
  refine (spaceOf_c D N (by omega) (by omega) _).mono ?_
  rintro e w2 ⟨aS, cS, rfl, hb2', hN2⟩
  have HB2 := Lib.hid (HB.out.trans (hb2'.mono (by omega)))
  have hz2 : w1.heap.size ≤ w2.heap.size := hb2'.size
  have HB3 := Lib.hid (HB2.out.alloc (by omega) (.cells #[.int .i64 D, .int .i64 N, .slice aS (allW D N).length cS] 53))
  have HW3 := Lib.hid ((below3 w (.cells #[.int .i64 D, .int .i64 N, .slice (some ⟨g1, 0, none⟩) xs.length xs.length] 24) (.cells #[.int .i64 D, .int .i64 N, .slice (some ⟨g2, 0, none⟩) ys.length ys.length] 24) (.cells #[.int .i64 0, .int .i64 0, .slice none 0 0] 24)).trans (HB3.out.mono (by omega)))
  have bc := bcellB HB3.out
  have Kx0 : (w2.alloc (.cells #[.int .i64 D, .int .i64 N, .slice aS (allW D N).length cS] 53)).cell? ⟨w.heap.size, 0, none⟩ = some (.int .i64 D) := (bc.1 _ _ (by omega)).trans (by go_simp)
  have Kx1 : (w2.alloc (.cells #[.int .i64 D, .int .i64 N, .slice aS (allW D N).length cS] 53)).cell? ⟨w.heap.size, 1, none⟩ = some (.int .i64 N) := (bc.1 _ _ (by omega)).trans (by go_simp)
  have Kx2 : (w2.alloc (.cells #[.int .i64 D, .int .i64 N, .slice aS (allW D N).length cS] 53)).cell? ⟨w.heap.size, 2, none⟩ = some (.slice (some ⟨g1, 0, none⟩) xs.length xs.length) := (bc.1 _ _ (by omega)).trans (by go_simp)
  have Ky0 : (w2.alloc (.cells #[.int .i64 D, .int .i64 N, .slice aS (allW D N).length cS] 53)).cell? ⟨w.heap.size + 1, 0, none⟩ = some (.int .i64 D) := (bc.1 _ _ (by omega)).trans (by go_simp)
  have Ky1 : (w2.alloc (.cells #[.int .i64 D, .int .i64 N, .slice aS (allW D N).length cS] 53)).cell? ⟨w.heap.size + 1, 1, none⟩ = some (.int .i64 N) := (bc.1 _ _ (by omega)).trans (by go_simp)
  have Ky2 : (w2.alloc (.cells #[.int .i64 D, .int .i64 N, .slice aS (allW D N).length cS] 53)).cell? ⟨w.heap.size + 1, 2, none⟩ = some (.slice (some ⟨g2, 0, none⟩) ys.length ys.length) := (bc.1 _ _ (by omega)).trans (by go_simp)
  have Ks0 : (w2.alloc (.cells #[.int .i64 D, .int .i64 N, .slice aS (allW D N).length cS] 53)).cell? ⟨w2.heap.size, 0, none⟩ = some (.int .i64 D) := by go_simp
  have Ks1 : (w2.alloc (.cells #[.int .i64 D, .int .i64 N, .slice aS (allW D N).length cS] 53)).cell? ⟨w2.heap.size, 1, none⟩ = some (.int .i64 N) := by go_simp
  have Ks2 : (w2.alloc (.cells #[.int .i64 D, .int .i64 N, .slice aS (allW D N).length cS] 53)).cell? ⟨w2.heap.size, 2, none⟩ = some (.slice aS (allW D N).length cS) := by go_simp
  have HNs := Lib.hid (hN2.row.below (below1 w2 (.cells #[.int .i64 D, .int .i64 N, .slice aS (allW D N).length cS] 53)) (Nat.le_refl _))
  have hzz : (w2.alloc (.cells #[.int .i64 D, .int .i64 N, .slice aS (allW D N).length cS] 53)).heap.size = w2.heap.size + 1 := by simp
  have HDoor := Lib.hid (door_no D N aS (allW D N).length cS 59 #[.pointer (some ⟨w2.heap.size, 0, none⟩), .pointer (some ⟨w.heap.size, 0, none⟩), .pointer (some ⟨w.heap.size + 1, 0, none⟩)] (fun _ => by kernel_rfl) (w2.alloc (.cells #[.int .i64 D, .int .i64 N, .slice aS (allW D N).length cS] 53))
    (fun W hW => by have hk := comWork_no D N (by omega) (by omega) w2.heap.size w.heap.size (w.heap.size + 1) aS (some ⟨g1, 0, none⟩) (some ⟨g2, 0, none⟩) cS xs.length ys.length xs ys HH1.out HH2.out hl1 hl2 HS1.out HS2.out HV.out W (by have := hW.size; omega) (by have := hW.size; omega) (by have := hW.size; omega) ((hW.cell (p := ⟨w2.heap.size, 0, none⟩) (by show w2.heap.size < _; omega)).trans Ks0) ((hW.cell (p := ⟨w2.heap.size, 1, none⟩) (by show w2.heap.size < _; omega)).trans Ks1) ((hW.cell (p := ⟨w2.heap.size, 2, none⟩) (by show w2.heap.size < _; omega)).trans Ks2) ((hW.cell (p := ⟨w.heap.size, 0, none⟩) (by show w.heap.size < _; omega)).trans Kx0) ((hW.cell (p := ⟨w.heap.size, 1, none⟩) (by show w.heap.size < _; omega)).trans Kx1) ((hW.cell (p := ⟨w.heap.size, 2, none⟩) (by show w.heap.size < _; omega)).trans Kx2) ((hW.cell (p := ⟨w.heap.size + 1, 0, none⟩) (by show w.heap.size + 1 < _; omega)).trans Ky0) ((hW.cell (p := ⟨w.heap.size + 1, 1, none⟩) (by show w.heap.size + 1 < _; omega)).trans Ky1) ((hW.cell (p := ⟨w.heap.size + 1, 2, none⟩) (by show w.heap.size + 1 < _; omega)).trans Ky2) (HNs.out.below hW (Nat.le_refl _)) (.inr ⟨g1, 0, rfl, by have := hW.size; omega, HT1.out.below (HW3.out.trans (hW.mono (by omega))) hb1⟩) (.inr ⟨g2, 0, rfl, by have := hW.size; omega, HT2.out.below (HW3.out.trans (hW.mono (by omega))) hb2⟩); rw [HV.out] at hk; exact hk))
  have HR := Lib.hid (show Z3 w2 (w.heap.size + 1 + 1) from by
    have bc := bcellB HB2.out
    exact ⟨by omega, (bc.1 _ _ (by omega)).trans (by go_simp), (bc.1 _ _ (by omega)).trans (by go_simp), (bc.1 _ _ (by omega)).trans (by go_simp), (bc.2 _ _ (by omega)).trans (by go_simp), (bc.2 _ _ (by omega)).trans (by go_simp), (bc.2 _ _ (by omega)).trans (by go_simp)⟩)
  clear bc hb2' hN2 x0 x1 Kx0 Kx1 Kx2 Ky0 Ky1 Ky2 Ks0 Ks1 Ks2
  go_wp2_with fail
  refine HDoor.out.mono ?_
  rintro e w4 ⟨rfl, hb4⟩
  have HZ := Lib.hid ((HR.out.below (below1 w2 (.cells #[.int .i64 D, .int .i64 N, .slice aS (allW D N).length cS] 53)) HR.out.1).below hb4 (by omega))
  have r0 := HZ.out.2.1
  have r1 := HZ.out.2.2.1
  have r2 := HZ.out.2.2.2.1
  have z0 := HZ.out.2.2.2.2.1
  have z1 := HZ.out.2.2.2.2.2.1
  have z2 := HZ.out.2.2.2.2.2.2
  have HW4 := Lib.hid (HW3.out.trans (hb4.mono (by omega)))

  clear hb4
  go_wp2
  refine bodyPost_ret (v := .tuple #[.agg #[.int .i64 0, .int .i64 0, .slice none 0 0], .int .i64 3]) (by simp [results, Tryd.results23, go_sem, r0, r1, r2]) rfl (SerPost.err 3 rfl ?_)
  have hW := HW4.out
  go_grown

set_option maxRecDepth 100000 in
set_option maxHeartbeats 8000000 in
theorem iCom_yes (D N : Nat) (g1 g2 : Nat) (xs ys : List Tm) (hl1 : xs.length ≤ 1048576) (hl2 : ys.length ≤ 1048576) (hs1 : ∀ i (h : i < xs.length), (xs[i]).s.size ≤ maxLen) (hs2 : ∀ i (h : i < ys.length), (ys[i]).s.size ≤ maxLen) (h1 : serB D N xs = true) (h2 : serB D N ys = true) (h : VF) (hv : commV (valV xs xs.length) (valV ys ys.length) (allW D N) = some h) (w : World) (hb1 : g1 < w.heap.size) (hb2 : g2 < w.heap.size) (t1 : TermsIn w g1 0 xs) (t2 : TermsIn w g2 0 ys) :
    Calls Tryd.prog 23 #[.agg #[.int .i64 D, .int .i64 N, .slice (some ⟨g1, 0, none⟩) xs.length xs.length], .agg #[.int .i64 D, .int .i64 N, .slice (some ⟨g2, 0, none⟩) ys.length ys.length]] w (SerPost D N (termsOf h (allW D N)) 0 w) := by
  have hsh : shapeB (D : Int) (N : Int) = true := by unfold serB at h1; rw [Bool.and_eq_true] at h1; exact h1.1
  have hDN := shape_out hsh
  have hmf : ∀ (fn : Fn) (first cap : Array Value) (w : World), (Instr.makeFunc fn first cap).run Tryd.prog w = .ok (.func fn first cap) w := fun _ _ _ _ => rfl
  have HT1 := Lib.hid t1
  have HT2 := Lib.hid t2
  have HS1 := Lib.hid hs1
  have HS2 := Lib.hid hs2
  have HH1 := Lib.hid h1
  have HH2 := Lib.hid h2
  have HV := Lib.hid hv
  have HC := Lib.hid (codeL_4 h1 h2 (show alikeB (D : Int) (N : Int) (D : Int) (N : Int) = true by simp [alikeB]))
  have hfew := allW_few (D := D) (by omega) (n := N) (by omega)
  have HWl := Lib.hid (show (allW D N).length ≤ 1048576 by omega)
  have HWs := Lib.hid (show ∀ s ∈ allW D N, s.size ≤ 1048576 from fun s hs => by have := allW_size D N s hs; omega)
  clear t1 t2 hs1 hs2 h1 h2 hv hsh
  go_enter Tryd.func23, Tryd.ntmps23
  go_wp2_with fail
  refine (checkFactors_c D N D N g1 g2 _ _ xs ys hl1 hl2 HS1.out HS2.out _ (by simp; omega) (by simp; omega) (HT1.out.below (below3 w _ _ _) hb1) (HT2.out.below (below3 w _ _ _) hb2)).mono ?_
  rw [HC.out]
  rintro e w1 ⟨rfl, hb⟩
  have HB := Lib.hid (show Below (w.heap.size + 1 + 1 + 1) (((w.alloc (.cells #[.int .i64 D, .int .i64 N, .slice (some ⟨g1, 0, none⟩) xs.length xs.length] 24)).alloc (.cells #[.int .i64 D, .int .i64 N, .slice (some ⟨g2, 0, none⟩) ys.length ys.length] 24)).alloc (.cells #[.int .i64 0, .int .i64 0, .slice none 0 0] 24)) w1 from by simpa using hb)
  have hz1 : w.heap.size + 1 + 1 + 1 ≤ w1.heap.size := by have := HB.out.size; simp at this; omega
  have bc := bcellB HB.out
  have x0 : w1.cell? ⟨w.heap.size, 0, none⟩ = some (.int .i64 D) := (bc.1 _ _ (by omega)).trans (by go_simp)
  have x1 : w1.cell? ⟨w.heap.size, 1, none⟩ = some (.int .i64 N) := (bc.1 _ _ (by omega)).trans (by go_simp)
  clear hb bc
  go_wp2_with fail
  refine (spaceOf_c D N (by omega) (by omega) _).mono ?_
  rintro e w2 ⟨aS, cS, rfl, hb2', hN2⟩
  have HB2 := Lib.hid (HB.out.trans (hb2'.mono (by omega)))
  have hz2 : w1.heap.size ≤ w2.heap.size := hb2'.size
  have HB3 := Lib.hid (HB2.out.alloc (by omega) (.cells #[.int .i64 D, .int .i64 N, .slice aS (allW D N).length cS] 53))
  have HW3 := Lib.hid ((below3 w (.cells #[.int .i64 D, .int .i64 N, .slice (some ⟨g1, 0, none⟩) xs.length xs.length] 24) (.cells #[.int .i64 D, .int .i64 N, .slice (some ⟨g2, 0, none⟩) ys.length ys.length] 24) (.cells #[.int .i64 0, .int .i64 0, .slice none 0 0] 24)).trans (HB3.out.mono (by omega)))
  have bc := bcellB HB3.out
  have Kx0 : (w2.alloc (.cells #[.int .i64 D, .int .i64 N, .slice aS (allW D N).length cS] 53)).cell? ⟨w.heap.size, 0, none⟩ = some (.int .i64 D) := (bc.1 _ _ (by omega)).trans (by go_simp)
  have Kx1 : (w2.alloc (.cells #[.int .i64 D, .int .i64 N, .slice aS (allW D N).length cS] 53)).cell? ⟨w.heap.size, 1, none⟩ = some (.int .i64 N) := (bc.1 _ _ (by omega)).trans (by go_simp)
  have Kx2 : (w2.alloc (.cells #[.int .i64 D, .int .i64 N, .slice aS (allW D N).length cS] 53)).cell? ⟨w.heap.size, 2, none⟩ = some (.slice (some ⟨g1, 0, none⟩) xs.length xs.length) := (bc.1 _ _ (by omega)).trans (by go_simp)
  have Ky0 : (w2.alloc (.cells #[.int .i64 D, .int .i64 N, .slice aS (allW D N).length cS] 53)).cell? ⟨w.heap.size + 1, 0, none⟩ = some (.int .i64 D) := (bc.1 _ _ (by omega)).trans (by go_simp)
  have Ky1 : (w2.alloc (.cells #[.int .i64 D, .int .i64 N, .slice aS (allW D N).length cS] 53)).cell? ⟨w.heap.size + 1, 1, none⟩ = some (.int .i64 N) := (bc.1 _ _ (by omega)).trans (by go_simp)
  have Ky2 : (w2.alloc (.cells #[.int .i64 D, .int .i64 N, .slice aS (allW D N).length cS] 53)).cell? ⟨w.heap.size + 1, 2, none⟩ = some (.slice (some ⟨g2, 0, none⟩) ys.length ys.length) := (bc.1 _ _ (by omega)).trans (by go_simp)
  have Ks0 : (w2.alloc (.cells #[.int .i64 D, .int .i64 N, .slice aS (allW D N).length cS] 53)).cell? ⟨w2.heap.size, 0, none⟩ = some (.int .i64 D) := by go_simp
  have Ks1 : (w2.alloc (.cells #[.int .i64 D, .int .i64 N, .slice aS (allW D N).length cS] 53)).cell? ⟨w2.heap.size, 1, none⟩ = some (.int .i64 N) := by go_simp
  have Ks2 : (w2.alloc (.cells #[.int .i64 D, .int .i64 N, .slice aS (allW D N).length cS] 53)).cell? ⟨w2.heap.size, 2, none⟩ = some (.slice aS (allW D N).length cS) := by go_simp
  have HNs := Lib.hid (hN2.row.below (below1 w2 (.cells #[.int .i64 D, .int .i64 N, .slice aS (allW D N).length cS] 53)) (Nat.le_refl _))
  have hzz : (w2.alloc (.cells #[.int .i64 D, .int .i64 N, .slice aS (allW D N).length cS] 53)).heap.size = w2.heap.size + 1 := by simp
  have HDoor := Lib.hid (door_yes D N aS cS (allW D N) HWl.out HWs.out h 59 #[.pointer (some ⟨w2.heap.size, 0, none⟩), .pointer (some ⟨w.heap.size, 0, none⟩), .pointer (some ⟨w.heap.size + 1, 0, none⟩)] (fun _ => by kernel_rfl) (w2.alloc (.cells #[.int .i64 D, .int .i64 N, .slice aS (allW D N).length cS] 53))
    (fun W hW => by have hk := comWork_yes D N (by omega) (by omega) w2.heap.size w.heap.size (w.heap.size + 1) aS (some ⟨g1, 0, none⟩) (some ⟨g2, 0, none⟩) cS xs.length ys.length xs ys HH1.out HH2.out hl1 hl2 HS1.out HS2.out h HV.out W (by have := hW.size; omega) (by have := hW.size; omega) (by have := hW.size; omega) ((hW.cell (p := ⟨w2.heap.size, 0, none⟩) (by show w2.heap.size < _; omega)).trans Ks0) ((hW.cell (p := ⟨w2.heap.size, 1, none⟩) (by show w2.heap.size < _; omega)).trans Ks1) ((hW.cell (p := ⟨w2.heap.size, 2, none⟩) (by show w2.heap.size < _; omega)).trans Ks2) ((hW.cell (p := ⟨w.heap.size, 0, none⟩) (by show w.heap.size < _; omega)).trans Kx0) ((hW.cell (p := ⟨w.heap.size, 1, none⟩) (by show w.heap.size < _; omega)).trans Kx1) ((hW.cell (p := ⟨w.heap.size, 2, none⟩) (by show w.heap.size < _; omega)).trans Kx2) ((hW.cell (p := ⟨w.heap.size + 1, 0, none⟩) (by show w.heap.size + 1 < _; omega)).trans Ky0) ((hW.cell (p := ⟨w.heap.size + 1, 1, none⟩) (by show w.heap.size + 1 < _; omega)).trans Ky1) ((hW.cell (p := ⟨w.heap.size + 1, 2, none⟩) (by show w.heap.size + 1 < _; omega)).trans Ky2) (HNs.out.below hW (Nat.le_refl _)) (.inr ⟨g1, 0, rfl, by have := hW.size; omega, HT1.out.below (HW3.out.trans (hW.mono (by omega))) hb1⟩) (.inr ⟨g2, 0, rfl, by have := hW.size; omega, HT2.out.below (HW3.out.trans (hW.mono (by omega))) hb2⟩); rw [HV.out] at hk; exact hk) HNs.out)
  have HR := Lib.hid (show Z3 w2 (w.heap.size + 1 + 1) from by
    have bc := bcellB HB2.out
    exact ⟨by omega, (bc.1 _ _ (by omega)).trans (by go_simp), (bc.1 _ _ (by omega)).trans (by go_simp), (bc.1 _ _ (by omega)).trans (by go_simp), (bc.2 _ _ (by omega)).trans (by go_simp), (bc.2 _ _ (by omega)).trans (by go_simp), (bc.2 _ _ (by omega)).trans (by go_simp)⟩)
  clear bc hb2' hN2 x0 x1 Kx0 Kx1 Kx2 Ky0 Ky1 Ky2 Ks0 Ks1 Ks2
  go_wp2_with fail
  refine HDoor.out.mono ?_
  rintro e w4 ⟨a4, c4, rfl, hb4, hN4⟩
  have HZ := Lib.hid ((HR.out.below (below1 w2 (.cells #[.int .i64 D, .int .i64 N, .slice aS (allW D N).length cS] 53)) HR.out.1).below hb4 (by omega))
  have r0 := HZ.out.2.1
  have r1 := HZ.out.2.2.1
  have r2 := HZ.out.2.2.2.1
  have z0 := HZ.out.2.2.2.2.1
  have z1 := HZ.out.2.2.2.2.2.1
  have z2 := HZ.out.2.2.2.2.2.2
  have HW4 := Lib.hid (HW3.out.trans (hb4.mono (by omega)))
  have HN4 := Lib.hid hN4
  clear hb4 hN4
  go_wp2
  refine bodyPost_ret (v := .tuple #[.agg #[.int .i64 D, .int .i64 N, .slice a4 (termsOf h (allW D N)).length c4], .int .i64 0]) (by simp [results, Tryd.results23, go_sem, r0, r1, r2]) rfl ⟨a4, c4, rfl, ?_, ?_⟩
  · have hW := HW4.out
    go_grown
  · exact (((HN4.out.far1s (n := w.heap.size + 1 + 1) (i := 0) (x := .int .i64 D) (by omega)).far1s (n := w.heap.size + 1 + 1) (i := 1) (x := .int .i64 N) (by omega)).far1s (n := w.heap.size + 1 + 1) (i := 2) (x := .slice a4 (termsOf h (allW D N)).length c4) (by omega)).mono (by omega) (by simp)

end Go.Proofs.YtoeednnkadmjpaaDoor
