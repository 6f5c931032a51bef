/-
  JoinedSeries: both return the same series and code.
-/
import Derived.Test.YtgcjpenlcokgjaaGreatDoorJoiS
import Derived.Test.YtgcjpenlcokgjaaGreatDoorAddP
namespace Go.Proofs.YtgcjpenlcokgjaaGreatDoor
open Go.RowKit

set_option maxRecDepth 100000 in
set_option maxHeartbeats 4000000 in
theorem iJoi_1 (L1 V1 L2 V2 : Int) (g1 g2 : Nat) (xs ys : List Tm) (hl1 : xs.length ≤ 1048576) (hl2 : ys.length ≤ 1048576) (hs1 : ∀ i (h : i < xs.length), (xs[i]).s.size ≤ maxLen) (hs2 : ∀ i (h : i < ys.length), (ys[i]).s.size ≤ maxLen) (c : Int) (hc : codeL L1 V1 xs L2 V2 ys = c) (hc0 : c ≠ 0) (w : World) (hb1 : g1 < w.heap.size) (hb2 : g2 < w.heap.size) (t1 : TermsIn w g1 0 xs) (t2 : TermsIn w g2 0 ys) :
    Calls Tryz.prog 59 #[.agg #[.int .i64 L1, .int .i64 V1, .slice (some ⟨g1, 0, none⟩) xs.length xs.length], .agg #[.int .i64 L2, .int .i64 V2, .slice (some ⟨g2, 0, none⟩) ys.length ys.length]] w (SerPost 0 0 [] c w) := by
  have HT1 := Lib.hid t1
  have HT2 := Lib.hid t2
  have HS1 := Lib.hid hs1
  have HS2 := Lib.hid hs2
  have HC := Lib.hid hc
  have hcn : (c != 0) = true := by simpa using hc0
  clear t1 t2 hs1 hs2 hc hc0
  go_enter Tryz.func59, Tryz.ntmps59
  go_wp2_with fail
  refine (checkFactors_c L1 V1 L2 V2 g1 g2 _ _ xs ys hl1 hl2 HS1.out HS2.out _ (by simp; omega) (by simp; omega) (HT1.out.below (below3 w _ _ _) hb1) (HT2.out.below (below3 w _ _ _) hb2)).mono ?_
  rw [HC.out]
  rintro e w1 ⟨rfl, hb⟩
  have hB := hb
  simp only [World.size_alloc] at hB
  have bc := bcellB hB
  have r0 : w1.cell? ⟨w.heap.size + 1 + 1, 0, none⟩ = some (.int .i64 0) := (bc.1 _ _ (by omega)).trans (by go_simp)
  have r1 : w1.cell? ⟨w.heap.size + 1 + 1, 1, none⟩ = some (.int .i64 0) := (bc.1 _ _ (by omega)).trans (by go_simp)
  have r2 : w1.cell? ⟨w.heap.size + 1 + 1, 2, none⟩ = some (.slice none 0 0) := (bc.1 _ _ (by omega)).trans (by go_simp)
  have z0 : w1.frozen? ⟨w.heap.size + 1 + 1, 0, none⟩ = false := (bc.2 _ _ (by omega)).trans (by go_simp)
  have z1 : w1.frozen? ⟨w.heap.size + 1 + 1, 1, none⟩ = false := (bc.2 _ _ (by omega)).trans (by go_simp)
  have z2 : w1.frozen? ⟨w.heap.size + 1 + 1, 2, none⟩ = false := (bc.2 _ _ (by omega)).trans (by go_simp)
  have HW := Lib.hid ((below3 w _ _ _).trans (hB.mono (by omega)))
  have hz : w.heap.size + 1 + 1 < w1.heap.size := by have := hB.size; simp at this; omega
  clear bc hB hb
  go_wp2
  refine bodyPost_ret (v := .tuple #[.agg #[.int .i64 0, .int .i64 0, .slice none 0 0], .int .i64 c]) (by simp [results, Tryz.results59, go_sem, r0, r1, r2]) rfl (SerPost.err c rfl ?_)
  have hW := HW.out
  go_grown

theorem val_at {D N : Nat} {xs : List Tm} (h : serB D N xs = true) : valF (valV xs xs.length) { data := #[] } = valL [] xs := by
  have G := good_valV h
  have hD : D ≤ 3 := by
    have hsh : shapeB (D : Int) (N : Int) = true := by unfold serB at h; rw [Bool.and_eq_true] at h; exact h.1
    have := shape_out hsh
    omega
  have e := valL_termsOf (allW_asc hD N) G.1 { data := #[] }
  rw [G.2] at e
  exact e.symm
/-- block g is a box of one cell and may be written -/
def O1 (w : World) (g : Nat) (x : Value) : Prop := g < w.heap.size ∧ w.cell? ⟨g, 0, none⟩ = some x ∧ w.frozen? ⟨g, 0, none⟩ = false
theorem O1.next {w w' : World} {g : Nat} {x : Value} (h : O1 w g x) (hb : Below w.heap.size w w') : O1 w' g x :=
  ⟨Nat.lt_of_lt_of_le h.1 hb.size, (hb.cell (p := ⟨g, 0, none⟩) h.1).trans h.2.1, (hb.frozen (p := ⟨g, 0, none⟩) h.1).trans h.2.2⟩
theorem O1.newAt {w : World} {g : Nat} {b : Option Nat} {t : TypeId} (h : g = w.heap.size) : O1 (w.alloc (.cells #[.map b] t)) g (.map b) := by
  subst h
  exact ⟨by simp, by go_simp, by go_simp⟩
theorem O1.alloc {w : World} {g : Nat} {x : Value} (h : O1 w g x) (o : Obj) : O1 (w.alloc o) g x := h.next (below1 w o)
theorem O1.drew {w : World} {g : Nat} {x : Value} (h : O1 w g x) : O1 w.drew g x := h
theorem O1.far {w : World} {g n i : Nat} {x u : Value} (h : O1 w g x) (hn : n ≠ g) : O1 (w.setCell ⟨n, i, none⟩ u) g x := by
  refine ⟨by simpa using h.1, ?_, by simpa using h.2.2⟩
  rw [World.cell?_setCell_far _ _ _ _ hn]
  exact h.2.1
theorem O1.fill {w : World} {g : Nat} {x' : Value} (h : O1 w g (.map none)) : O1 (w.setCell ⟨g, 0, none⟩ x') g x' :=
  ⟨by simpa using h.1, World.cell?_setCell_same _ _ _ h.2.1, by simpa using h.2.2⟩
theorem MapV.far {w : World} {b n g i : Nat} {f : VF} {u : Value} (h : MapV w b n f) (hn : b ≠ g) : MapV (w.setCell ⟨g, i, none⟩ u) b n f := h.grown (gr_set w g i u) (fun e => hn (by injection e))
/-- two maps in boxes of their own -/
def TwoMap (wb : World) (n1 n2 : Nat) (f g : VF) (v v' : Value) (wy : World) : Prop :=
  ∃ gA gB m1 m2 : Nat, v = .pointer (some ⟨gA, 0, none⟩) ∧ v' = .pointer (some ⟨gB, 0, none⟩) ∧ Below wb.heap.size wb wy ∧ O1 wy gA (.map (some m1)) ∧ O1 wy gB (.map (some m2)) ∧ MapV wy m1 n1 f ∧ MapV wy m2 n2 g

set_option maxRecDepth 100000 in
set_option maxHeartbeats 8000000 in
theorem iJoi_2a (D N : Nat) (g1 g2 : Nat) (xs ys : List Tm) (hl1 : xs.length ≤ 1048576) (hl2 : ys.length ≤ 1048576) (hs1 : ∀ i (h : i < xs.length), (xs[i]).s.size ≤ maxLen) (hs2 : ∀ i (h : i < ys.length), (ys[i]).s.size ≤ maxLen) (h1 : serB D N xs = true) (h2 : serB D N ys = true) (p q u v : Int) (hv1 : valL [] xs = (p, q)) (hv2 : valL [] ys = (u, v)) (hp : p ≠ 0) (w : World) (hb1 : g1 < w.heap.size) (hb2 : g2 < w.heap.size) (t1 : TermsIn w g1 0 xs) (t2 : TermsIn w g2 0 ys) :
    Calls Tryz.prog 59 #[.agg #[.int .i64 D, .int .i64 N, .slice (some ⟨g1, 0, none⟩) xs.length xs.length], .agg #[.int .i64 D, .int .i64 N, .slice (some ⟨g2, 0, none⟩) ys.length ys.length]] w (SerPost 0 0 [] 5 w) := by
  have HT1 := Lib.hid t1
  have HT2 := Lib.hid t2
  have HS1 := Lib.hid hs1
  have HS2 := Lib.hid hs2
  have HH1 := Lib.hid h1
  have HH2 := Lib.hid h2
  have HC := Lib.hid (codeL_4 h1 h2 (show alikeB (D : Int) (N : Int) (D : Int) (N : Int) = true by simp [alikeB]))
  have HV1 := Lib.hid (show valF (valV xs xs.length) { data := #[] } = (p, q) from (val_at h1).trans hv1)
  have HV2 := Lib.hid (show valF (valV ys ys.length) { data := #[] } = (u, v) from (val_at h2).trans hv2)
  have HQ1 := Lib.hid (show p = 0 → q = 1 from fun e => by have h := val_isF h1; rw [hv1] at h; subst e; exact isF_zero h)
  have HQ2 := Lib.hid (show u = 0 → v = 1 from fun e => by have h := val_isF h2; rw [hv2] at h; subst e; exact isF_zero h)
  have hpb : (p == 0) = false := by simpa using hp
  clear hp
  clear t1 t2 hs1 hs2 h1 h2 hv1 hv2
  go_enter Tryz.func59, Tryz.ntmps59
  go_wp2_with fail
  refine (checkFactors_c D N D N g1 g2 _ _ xs ys hl1 hl2 HS1.out HS2.out _ (by simp; omega) (by simp; omega) (HT1.out.below (below3 w _ _ _) hb1) (HT2.out.below (below3 w _ _ _) hb2)).mono ?_
  rw [HC.out]
  rintro e w1 ⟨rfl, hb⟩
  have hB3 : Below (w.heap.size + 3) (((w.alloc (.cells #[.int .i64 D, .int .i64 N, .slice (some ⟨g1, 0, none⟩) xs.length xs.length] 26)).alloc (.cells #[.int .i64 D, .int .i64 N, .slice (some ⟨g2, 0, none⟩) ys.length ys.length] 26)).alloc (.cells #[.int .i64 0, .int .i64 0, .slice none 0 0] 26)) w1 := by simpa using hb
  have hT := (show T3 (((w.alloc (.cells #[.int .i64 D, .int .i64 N, .slice (some ⟨g1, 0, none⟩) xs.length xs.length] 26)).alloc (.cells #[.int .i64 D, .int .i64 N, .slice (some ⟨g2, 0, none⟩) ys.length ys.length] 26)).alloc (.cells #[.int .i64 0, .int .i64 0, .slice none 0 0] 26)) (w.heap.size + 2) (.int .i64 0) (.int .i64 0) (.slice none 0 0) from T3.newAt (by simp)).below hB3 (by omega)
  have HW1 := Lib.hid ((below3 w (.cells #[.int .i64 D, .int .i64 N, .slice (some ⟨g1, 0, none⟩) xs.length xs.length] 26) (.cells #[.int .i64 D, .int .i64 N, .slice (some ⟨g2, 0, none⟩) ys.length ys.length] 26) (.cells #[.int .i64 0, .int .i64 0, .slice none 0 0] 26)).trans (hB3.mono (by omega)))
  have bc := bcellB hB3
  have ax0 : w1.cell? ⟨w.heap.size, 0, none⟩ = some (.int .i64 D) := (bc.1 _ _ (by omega)).trans (by go_simp)
  have ax1 : w1.cell? ⟨w.heap.size, 1, none⟩ = some (.int .i64 N) := (bc.1 _ _ (by omega)).trans (by go_simp)
  have ax2 : w1.cell? ⟨w.heap.size, 2, none⟩ = some (.slice (some ⟨g1, 0, none⟩) xs.length xs.length) := (bc.1 _ _ (by omega)).trans (by go_simp)
  have ay0 : w1.cell? ⟨w.heap.size + 1, 0, none⟩ = some (.int .i64 D) := (bc.1 _ _ (by omega)).trans (by go_simp)
  have ay1 : w1.cell? ⟨w.heap.size + 1, 1, none⟩ = some (.int .i64 N) := (bc.1 _ _ (by omega)).trans (by go_simp)
  have ay2 : w1.cell? ⟨w.heap.size + 1, 2, none⟩ = some (.slice (some ⟨g2, 0, none⟩) ys.length ys.length) := (bc.1 _ _ (by omega)).trans (by go_simp)
  have HTr1 := Lib.hid hT
  have hz1 := hT.1
  clear hb bc hT hB3
  have hww : w.heap.size < w1.heap.size := by omega
  have hwy : w.heap.size + 1 < w1.heap.size := by omega
  have KS := Lib.hid (show ∀ w', Below w1.heap.size w1 w' → (w'.cell? ⟨w.heap.size, 0, none⟩ = some (.int .i64 D) ∧ w'.cell? ⟨w.heap.size, 1, none⟩ = some (.int .i64 N) ∧ w'.cell? ⟨w.heap.size, 2, none⟩ = some (.slice (some ⟨g1, 0, none⟩) xs.length xs.length) ∧ w'.cell? ⟨w.heap.size + 1, 0, none⟩ = some (.int .i64 D) ∧ w'.cell? ⟨w.heap.size + 1, 1, none⟩ = some (.int .i64 N) ∧ w'.cell? ⟨w.heap.size + 1, 2, none⟩ = some (.slice (some ⟨g2, 0, none⟩) ys.length ys.length)) from fun w' hb => ⟨(hb.cell (p := ⟨w.heap.size, 0, none⟩) hww).trans ax0, (hb.cell (p := ⟨w.heap.size, 1, none⟩) hww).trans ax1, (hb.cell (p := ⟨w.heap.size, 2, none⟩) hww).trans ax2, (hb.cell (p := ⟨w.heap.size + 1, 0, none⟩) hwy).trans ay0, (hb.cell (p := ⟨w.heap.size + 1, 1, none⟩) hwy).trans ay1, (hb.cell (p := ⟨w.heap.size + 1, 2, none⟩) hwy).trans ay2⟩)
  have HVx := Lib.hid (fun W (hW : Below w1.heap.size w1 W) => valuesOf_c D N (some ⟨g1, 0, none⟩) xs.length xs hl1 HS1.out W (.inr ⟨g1, 0, rfl, by have := HW1.out.size; have := hW.size; omega, HT1.out.below (HW1.out.trans (hW.mono HW1.out.size)) hb1⟩))
  have HVy := Lib.hid (fun W (hW : Below w1.heap.size w1 W) => valuesOf_c D N (some ⟨g2, 0, none⟩) ys.length ys hl2 HS2.out W (.inr ⟨g2, 0, rfl, by have := HW1.out.size; have := hW.size; omega, HT2.out.below (HW1.out.trans (hW.mono HW1.out.size)) hb2⟩))
  go_upto_region 4 with fail
  go_cut [7, 8] (TwoMap w1 xs.length ys.length (valV xs xs.length) (valV ys ys.length))
  case first =>
    go_region_held3 (fun w' => w'.cell? ⟨w.heap.size, 0, none⟩ = some (.int .i64 D) ∧ w'.cell? ⟨w.heap.size, 1, none⟩ = some (.int .i64 N) ∧ w'.cell? ⟨w.heap.size, 2, none⟩ = some (.slice (some ⟨g1, 0, none⟩) xs.length xs.length) ∧ w'.cell? ⟨w.heap.size + 1, 0, none⟩ = some (.int .i64 D) ∧ w'.cell? ⟨w.heap.size + 1, 1, none⟩ = some (.int .i64 N) ∧ w'.cell? ⟨w.heap.size + 1, 2, none⟩ = some (.slice (some ⟨g2, 0, none⟩) ys.length ys.length))
      ((refine KS.out _ ?_; repeat' (first | with_reducible assumption | with_reducible exact Below.refl _ _ | (with_reducible refine Below.drew ?_) | (with_reducible refine Below.setCell ?_ (by (try dsimp only); omega) _) | (with_reducible refine Below.alloc ?_ (by (try simp only [World.size_setCell]); (try simp only [World.size_drew]); (try simp only [World.size_alloc]); (try simp only [World.size_setCell]); (try simp only [World.size_alloc]); omega) _))))
      (first
      | (go_at_call 40; (with_reducible refine (HVx.out _ ?_).mono ?_); (focus repeat' (first | with_reducible assumption | with_reducible exact Below.refl _ _ | (with_reducible refine Below.drew ?_) | (with_reducible refine Below.setCell ?_ (by (try dsimp only); omega) _) | (with_reducible refine Below.alloc ?_ (by (try simp only [World.size_setCell]); (try simp only [World.size_drew]); (try simp only [World.size_alloc]); (try simp only [World.size_setCell]); (try simp only [World.size_alloc]); omega) _))); rintro e w2 ⟨m1, rfl, hm1, hb0, hM1⟩; have hbw2 : Below w1.heap.size w1 w2 := below_step (by repeat' (first | with_reducible assumption | with_reducible exact Below.refl _ _ | (with_reducible refine Below.drew ?_) | (with_reducible refine Below.setCell ?_ (by (try dsimp only); omega) _) | (with_reducible refine Below.alloc ?_ (by (try simp only [World.size_setCell]); (try simp only [World.size_drew]); (try simp only [World.size_alloc]); (try simp only [World.size_setCell]); (try simp only [World.size_alloc]); omega) _))) hb0 (Nat.le_refl _); have hz2 := hbw2.size; (try simp only [World.size_drew] at hm1); (try simp only [World.size_alloc] at hm1); (try have pA : O1 w2 w1.heap.size (.map none) := O1.next (by first | exact (O1.newAt rfl).drew | exact ((O1.newAt rfl).alloc _).drew) hb0); (try have pB : O1 w2 (w1.heap.size + 1) (.map none) := O1.next (by exact (O1.newAt (by (simp only [World.size_alloc]; done))).drew) hb0); have hM1l := hM1.lt; (try have n01 : ¬ w1.heap.size = w2.heap.size := (by have := pA.1; omega)); (try have n10 : ¬ w2.heap.size = w1.heap.size := (by have := pA.1; omega)))
      | (go_at_call 40; (with_reducible refine (HVy.out _ ?_).mono ?_); (focus repeat' (first | with_reducible assumption | with_reducible exact Below.refl _ _ | (with_reducible refine Below.drew ?_) | (with_reducible refine Below.setCell ?_ (by (try dsimp only); omega) _) | (with_reducible refine Below.alloc ?_ (by (try simp only [World.size_setCell]); (try simp only [World.size_drew]); (try simp only [World.size_alloc]); (try simp only [World.size_setCell]); (try simp only [World.size_alloc]); omega) _))); rintro e w3 ⟨m2, rfl, hm2, hb0, hM2⟩; have hbw3 : Below w1.heap.size w1 w3 := below_step (by repeat' (first | with_reducible assumption | with_reducible exact Below.refl _ _ | (with_reducible refine Below.drew ?_) | (with_reducible refine Below.setCell ?_ (by (try dsimp only); omega) _) | (with_reducible refine Below.alloc ?_ (by (try simp only [World.size_setCell]); (try simp only [World.size_drew]); (try simp only [World.size_alloc]); (try simp only [World.size_setCell]); (try simp only [World.size_alloc]); omega) _))) hb0 (Nat.le_refl _); have hb23 : Below w2.heap.size w2 w3 := below_step (by repeat' (first | with_reducible assumption | with_reducible exact Below.refl _ _ | (with_reducible refine Below.drew ?_) | (with_reducible refine Below.setCell ?_ (by (try dsimp only); omega) _) | (with_reducible refine Below.alloc ?_ (by (try simp only [World.size_setCell]); (try simp only [World.size_drew]); (try simp only [World.size_alloc]); (try simp only [World.size_setCell]); (try simp only [World.size_alloc]); omega) _))) hb0 (Nat.le_refl _); have hz3 := hbw3.size; have hz23 := hb23.size; have hM1' := hM1.below hb23 hM1l; have hM2l := hM2.lt; (try simp only [World.size_alloc] at hm2); (try have qA := pA.next hb23); (try have qB := pB.next hb23); (try have rA : O1 w3 w2.heap.size (.map none) := O1.next (by first | exact O1.newAt rfl | exact (O1.newAt rfl).alloc _) hb0); (try have rB : O1 w3 (w2.heap.size + 1) (.map none) := O1.next (by exact O1.newAt (by (simp only [World.size_alloc]; done))) hb0); (try have e0 : ¬ w1.heap.size = w3.heap.size := (by have := qA.1; omega)); (try have d0 : ¬ w3.heap.size = w1.heap.size := (by have := qA.1; omega)); (try obtain ⟨qAz, qA0, qA1⟩ := id qA); (try have e1 : ¬ w1.heap.size + 1 = w3.heap.size := (by have := qB.1; omega)); (try have d1 : ¬ w3.heap.size = w1.heap.size + 1 := (by have := qB.1; omega)); (try obtain ⟨qBz, qB0, qB1⟩ := id qB); (try have e2 : ¬ w2.heap.size = w3.heap.size := (by have := rA.1; omega)); (try have d2 : ¬ w3.heap.size = w2.heap.size := (by have := rA.1; omega)); (try obtain ⟨rAz, rA0, rA1⟩ := id rA); (try have e3 : ¬ w2.heap.size + 1 = w3.heap.size := (by have := rB.1; omega)); (try have d3 : ¬ w3.heap.size = w2.heap.size + 1 := (by have := rB.1; omega)); (try obtain ⟨rBz, rB0, rB1⟩ := id rB))
      | fail)
    all_goals (go_wp2_with fail; go_meet)
    all_goals (refine ⟨_, _, m1, m2, rfl, rfl, ?_, ?_, ?_, ?_, ?_⟩)
    all_goals (first | (with_reducible assumption) | ((repeat' (first | with_reducible assumption | with_reducible exact Below.refl _ _ | (with_reducible refine Below.drew ?_) | (with_reducible refine Below.setCell ?_ (by (try dsimp only); omega) _) | (with_reducible refine Below.alloc ?_ (by (try simp only [World.size_setCell]); (try simp only [World.size_drew]); (try simp only [World.size_alloc]); (try simp only [World.size_setCell]); (try simp only [World.size_alloc]); omega) _))); done) | ((repeat' (first | with_reducible assumption | (with_reducible refine O1.newAt ?_; first | with_reducible rfl | (simp only [World.size_setCell]; done) | (simp only [World.size_alloc]; done) | (simp only [World.size_alloc, World.size_setCell]; done)) | (with_reducible refine O1.fill ?_) | (with_reducible refine O1.far ?_ (by first | with_reducible assumption | omega)) | (with_reducible refine O1.alloc ?_ _))); done) | ((repeat' (first | with_reducible assumption | (with_reducible refine MapV.far ?_ (by omega)) | (with_reducible refine MapV.alloc ?_ _))); done))
  case rest =>
  obtain ⟨gA, gB, m1, m2, rfl, rfl, hbm, hOA, hOB, hMA, hMB⟩ := hcut
  obtain ⟨w2, rfl⟩ : ∃ w2 : World, w2 = wc := ⟨_, rfl⟩
  have HTr2 := Lib.hid (HTr1.out.next hbm)
  have HW2 := Lib.hid (HW1.out.trans (hbm.mono HW1.out.size))
  have hz2 := hbm.size
  have HA2 := Lib.hid hOA
  have HB2 := Lib.hid hOB
  have HMA2 := Lib.hid hMA
  have HMB2 := Lib.hid hMB
  have bx0 := (hbm.cell (p := ⟨w.heap.size, 0, none⟩) (by show w.heap.size < _; omega)).trans ax0
  have bx1 := (hbm.cell (p := ⟨w.heap.size, 1, none⟩) (by show w.heap.size < _; omega)).trans ax1
  have bx2 := (hbm.cell (p := ⟨w.heap.size, 2, none⟩) (by show w.heap.size < _; omega)).trans ax2
  have by0 := (hbm.cell (p := ⟨w.heap.size + 1, 0, none⟩) (by show w.heap.size + 1 < _; omega)).trans ay0
  have by1 := (hbm.cell (p := ⟨w.heap.size + 1, 1, none⟩) (by show w.heap.size + 1 < _; omega)).trans ay1
  have by2 := (hbm.cell (p := ⟨w.heap.size + 1, 2, none⟩) (by show w.heap.size + 1 < _; omega)).trans ay2
  have c0 := hOA.2.1
  have d0 := hOB.2.1
  clear hbm hOA hOB hMA hMB ax0 ax1 ax2 ay0 ay1 ay2
  go_wp2_with fail
  refine (at_c m1 xs.length _ { data := #[] } (by decide) w2 HMA2.out).mono ?_
  rw [HV1.out]
  rintro e w3 ⟨rfl, hbn⟩
  have HTr3 := Lib.hid (HTr2.out.next hbn)
  have HW3 := Lib.hid (HW2.out.trans (hbn.mono HW2.out.size))
  have HA3 := Lib.hid (HA2.out.next hbn)
  have HB3 := Lib.hid (HB2.out.next hbn)
  have HMA3 := Lib.hid (HMA2.out.below hbn HMA2.out.lt)
  have HMB3 := Lib.hid (HMB2.out.below hbn HMB2.out.lt)
  have cx0 := (hbn.cell (p := ⟨w.heap.size, 0, none⟩) (by show w.heap.size < _; omega)).trans bx0
  have cx1 := (hbn.cell (p := ⟨w.heap.size, 1, none⟩) (by show w.heap.size < _; omega)).trans bx1
  have cx2 := (hbn.cell (p := ⟨w.heap.size, 2, none⟩) (by show w.heap.size < _; omega)).trans bx2
  have cy0 := (hbn.cell (p := ⟨w.heap.size + 1, 0, none⟩) (by show w.heap.size + 1 < _; omega)).trans by0
  have cy1 := (hbn.cell (p := ⟨w.heap.size + 1, 1, none⟩) (by show w.heap.size + 1 < _; omega)).trans by1
  have cy2 := (hbn.cell (p := ⟨w.heap.size + 1, 2, none⟩) (by show w.heap.size + 1 < _; omega)).trans by2
  have hz3 := hbn.size
  clear c0 d0
  have c0 := HA3.out.2.1
  have d0 := HB3.out.2.1
  clear hbn
  clear bx0 bx1 bx2 by0 by1 by2
  go_wp2_with fail
  refine (isZero_named hpb HQ1.out _).mono ?_
  rintro e w4 ⟨rfl, hbn⟩
  have HTr4 := Lib.hid (HTr3.out.next hbn)
  have HW4 := Lib.hid (HW3.out.trans (hbn.mono HW3.out.size))
  have HA4 := Lib.hid (HA3.out.next hbn)
  have HB4 := Lib.hid (HB3.out.next hbn)
  have HMA4 := Lib.hid (HMA3.out.below hbn HMA3.out.lt)
  have HMB4 := Lib.hid (HMB3.out.below hbn HMB3.out.lt)
  have dx0 := (hbn.cell (p := ⟨w.heap.size, 0, none⟩) (by show w.heap.size < _; omega)).trans cx0
  have dx1 := (hbn.cell (p := ⟨w.heap.size, 1, none⟩) (by show w.heap.size < _; omega)).trans cx1
  have dx2 := (hbn.cell (p := ⟨w.heap.size, 2, none⟩) (by show w.heap.size < _; omega)).trans cx2
  have dy0 := (hbn.cell (p := ⟨w.heap.size + 1, 0, none⟩) (by show w.heap.size + 1 < _; omega)).trans cy0
  have dy1 := (hbn.cell (p := ⟨w.heap.size + 1, 1, none⟩) (by show w.heap.size + 1 < _; omega)).trans cy1
  have dy2 := (hbn.cell (p := ⟨w.heap.size + 1, 2, none⟩) (by show w.heap.size + 1 < _; omega)).trans cy2
  have hz4 := hbn.size
  clear c0 d0
  have c0 := HA4.out.2.1
  have d0 := HB4.out.2.1
  clear hbn
  clear cx0 cx1 cx2 cy0 cy1 cy2
  obtain ⟨hzr, r0, r1, r2, z0, z1, z2⟩ := id HTr4.out
  clear c0 d0
  clear dx0 dx1 dx2 dy0 dy1 dy2
  go_wp2
  refine bodyPost_ret (v := .tuple #[.agg #[.int .i64 0, .int .i64 0, .slice none 0 0], .int .i64 5]) (by simp [results, Tryz.results59, go_sem, r0, r1, r2]) rfl (SerPost.err 5 rfl ?_)
  have hW := HW4.out
  go_grown
set_option maxRecDepth 100000 in
set_option maxHeartbeats 8000000 in
theorem iJoi_2b (D N : Nat) (g1 g2 : Nat) (xs ys : List Tm) (hl1 : xs.length ≤ 1048576) (hl2 : ys.length ≤ 1048576) (hs1 : ∀ i (h : i < xs.length), (xs[i]).s.size ≤ maxLen) (hs2 : ∀ i (h : i < ys.length), (ys[i]).s.size ≤ maxLen) (h1 : serB D N xs = true) (h2 : serB D N ys = true) (p q u v : Int) (hv1 : valL [] xs = (p, q)) (hv2 : valL [] ys = (u, v)) (hp : p = 0 ∧ u ≠ 0) (w : World) (hb1 : g1 < w.heap.size) (hb2 : g2 < w.heap.size) (t1 : TermsIn w g1 0 xs) (t2 : TermsIn w g2 0 ys) :
    Calls Tryz.prog 59 #[.agg #[.int .i64 D, .int .i64 N, .slice (some ⟨g1, 0, none⟩) xs.length xs.length], .agg #[.int .i64 D, .int .i64 N, .slice (some ⟨g2, 0, none⟩) ys.length ys.length]] w (SerPost 0 0 [] 5 w) := by
  have HT1 := Lib.hid t1
  have HT2 := Lib.hid t2
  have HS1 := Lib.hid hs1
  have HS2 := Lib.hid hs2
  have HH1 := Lib.hid h1
  have HH2 := Lib.hid h2
  have HC := Lib.hid (codeL_4 h1 h2 (show alikeB (D : Int) (N : Int) (D : Int) (N : Int) = true by simp [alikeB]))
  have HV1 := Lib.hid (show valF (valV xs xs.length) { data := #[] } = (p, q) from (val_at h1).trans hv1)
  have HV2 := Lib.hid (show valF (valV ys ys.length) { data := #[] } = (u, v) from (val_at h2).trans hv2)
  have HQ1 := Lib.hid (show p = 0 → q = 1 from fun e => by have h := val_isF h1; rw [hv1] at h; subst e; exact isF_zero h)
  have HQ2 := Lib.hid (show u = 0 → v = 1 from fun e => by have h := val_isF h2; rw [hv2] at h; subst e; exact isF_zero h)
  have hpb : (p == 0) = true := by simpa using hp.1
  have hub : (u == 0) = false := by simpa using hp.2
  clear hp
  clear t1 t2 hs1 hs2 h1 h2 hv1 hv2
  go_enter Tryz.func59, Tryz.ntmps59
  go_wp2_with fail
  refine (checkFactors_c D N D N g1 g2 _ _ xs ys hl1 hl2 HS1.out HS2.out _ (by simp; omega) (by simp; omega) (HT1.out.below (below3 w _ _ _) hb1) (HT2.out.below (below3 w _ _ _) hb2)).mono ?_
  rw [HC.out]
  rintro e w1 ⟨rfl, hb⟩
  have hB3 : Below (w.heap.size + 3) (((w.alloc (.cells #[.int .i64 D, .int .i64 N, .slice (some ⟨g1, 0, none⟩) xs.length xs.length] 26)).alloc (.cells #[.int .i64 D, .int .i64 N, .slice (some ⟨g2, 0, none⟩) ys.length ys.length] 26)).alloc (.cells #[.int .i64 0, .int .i64 0, .slice none 0 0] 26)) w1 := by simpa using hb
  have hT := (show T3 (((w.alloc (.cells #[.int .i64 D, .int .i64 N, .slice (some ⟨g1, 0, none⟩) xs.length xs.length] 26)).alloc (.cells #[.int .i64 D, .int .i64 N, .slice (some ⟨g2, 0, none⟩) ys.length ys.length] 26)).alloc (.cells #[.int .i64 0, .int .i64 0, .slice none 0 0] 26)) (w.heap.size + 2) (.int .i64 0) (.int .i64 0) (.slice none 0 0) from T3.newAt (by simp)).below hB3 (by omega)
  have HW1 := Lib.hid ((below3 w (.cells #[.int .i64 D, .int .i64 N, .slice (some ⟨g1, 0, none⟩) xs.length xs.length] 26) (.cells #[.int .i64 D, .int .i64 N, .slice (some ⟨g2, 0, none⟩) ys.length ys.length] 26) (.cells #[.int .i64 0, .int .i64 0, .slice none 0 0] 26)).trans (hB3.mono (by omega)))
  have bc := bcellB hB3
  have ax0 : w1.cell? ⟨w.heap.size, 0, none⟩ = some (.int .i64 D) := (bc.1 _ _ (by omega)).trans (by go_simp)
  have ax1 : w1.cell? ⟨w.heap.size, 1, none⟩ = some (.int .i64 N) := (bc.1 _ _ (by omega)).trans (by go_simp)
  have ax2 : w1.cell? ⟨w.heap.size, 2, none⟩ = some (.slice (some ⟨g1, 0, none⟩) xs.length xs.length) := (bc.1 _ _ (by omega)).trans (by go_simp)
  have ay0 : w1.cell? ⟨w.heap.size + 1, 0, none⟩ = some (.int .i64 D) := (bc.1 _ _ (by omega)).trans (by go_simp)
  have ay1 : w1.cell? ⟨w.heap.size + 1, 1, none⟩ = some (.int .i64 N) := (bc.1 _ _ (by omega)).trans (by go_simp)
  have ay2 : w1.cell? ⟨w.heap.size + 1, 2, none⟩ = some (.slice (some ⟨g2, 0, none⟩) ys.length ys.length) := (bc.1 _ _ (by omega)).trans (by go_simp)
  have HTr1 := Lib.hid hT
  have hz1 := hT.1
  clear hb bc hT hB3
  have hww : w.heap.size < w1.heap.size := by omega
  have hwy : w.heap.size + 1 < w1.heap.size := by omega
  have KS := Lib.hid (show ∀ w', Below w1.heap.size w1 w' → (w'.cell? ⟨w.heap.size, 0, none⟩ = some (.int .i64 D) ∧ w'.cell? ⟨w.heap.size, 1, none⟩ = some (.int .i64 N) ∧ w'.cell? ⟨w.heap.size, 2, none⟩ = some (.slice (some ⟨g1, 0, none⟩) xs.length xs.length) ∧ w'.cell? ⟨w.heap.size + 1, 0, none⟩ = some (.int .i64 D) ∧ w'.cell? ⟨w.heap.size + 1, 1, none⟩ = some (.int .i64 N) ∧ w'.cell? ⟨w.heap.size + 1, 2, none⟩ = some (.slice (some ⟨g2, 0, none⟩) ys.length ys.length)) from fun w' hb => ⟨(hb.cell (p := ⟨w.heap.size, 0, none⟩) hww).trans ax0, (hb.cell (p := ⟨w.heap.size, 1, none⟩) hww).trans ax1, (hb.cell (p := ⟨w.heap.size, 2, none⟩) hww).trans ax2, (hb.cell (p := ⟨w.heap.size + 1, 0, none⟩) hwy).trans ay0, (hb.cell (p := ⟨w.heap.size + 1, 1, none⟩) hwy).trans ay1, (hb.cell (p := ⟨w.heap.size + 1, 2, none⟩) hwy).trans ay2⟩)
  have HVx := Lib.hid (fun W (hW : Below w1.heap.size w1 W) => valuesOf_c D N (some ⟨g1, 0, none⟩) xs.length xs hl1 HS1.out W (.inr ⟨g1, 0, rfl, by have := HW1.out.size; have := hW.size; omega, HT1.out.below (HW1.out.trans (hW.mono HW1.out.size)) hb1⟩))
  have HVy := Lib.hid (fun W (hW : Below w1.heap.size w1 W) => valuesOf_c D N (some ⟨g2, 0, none⟩) ys.length ys hl2 HS2.out W (.inr ⟨g2, 0, rfl, by have := HW1.out.size; have := hW.size; omega, HT2.out.below (HW1.out.trans (hW.mono HW1.out.size)) hb2⟩))
  go_upto_region 4 with fail
  go_cut [7, 8] (TwoMap w1 xs.length ys.length (valV xs xs.length) (valV ys ys.length))
  case first =>
    go_region_held3 (fun w' => w'.cell? ⟨w.heap.size, 0, none⟩ = some (.int .i64 D) ∧ w'.cell? ⟨w.heap.size, 1, none⟩ = some (.int .i64 N) ∧ w'.cell? ⟨w.heap.size, 2, none⟩ = some (.slice (some ⟨g1, 0, none⟩) xs.length xs.length) ∧ w'.cell? ⟨w.heap.size + 1, 0, none⟩ = some (.int .i64 D) ∧ w'.cell? ⟨w.heap.size + 1, 1, none⟩ = some (.int .i64 N) ∧ w'.cell? ⟨w.heap.size + 1, 2, none⟩ = some (.slice (some ⟨g2, 0, none⟩) ys.length ys.length))
      ((refine KS.out _ ?_; repeat' (first | with_reducible assumption | with_reducible exact Below.refl _ _ | (with_reducible refine Below.drew ?_) | (with_reducible refine Below.setCell ?_ (by (try dsimp only); omega) _) | (with_reducible refine Below.alloc ?_ (by (try simp only [World.size_setCell]); (try simp only [World.size_drew]); (try simp only [World.size_alloc]); (try simp only [World.size_setCell]); (try simp only [World.size_alloc]); omega) _))))
      (first
      | (go_at_call 40; (with_reducible refine (HVx.out _ ?_).mono ?_); (focus repeat' (first | with_reducible assumption | with_reducible exact Below.refl _ _ | (with_reducible refine Below.drew ?_) | (with_reducible refine Below.setCell ?_ (by (try dsimp only); omega) _) | (with_reducible refine Below.alloc ?_ (by (try simp only [World.size_setCell]); (try simp only [World.size_drew]); (try simp only [World.size_alloc]); (try simp only [World.size_setCell]); (try simp only [World.size_alloc]); omega) _))); rintro e w2 ⟨m1, rfl, hm1, hb0, hM1⟩; have hbw2 : Below w1.heap.size w1 w2 := below_step (by repeat' (first | with_reducible assumption | with_reducible exact Below.refl _ _ | (with_reducible refine Below.drew ?_) | (with_reducible refine Below.setCell ?_ (by (try dsimp only); omega) _) | (with_reducible refine Below.alloc ?_ (by (try simp only [World.size_setCell]); (try simp only [World.size_drew]); (try simp only [World.size_alloc]); (try simp only [World.size_setCell]); (try simp only [World.size_alloc]); omega) _))) hb0 (Nat.le_refl _); have hz2 := hbw2.size; (try simp only [World.size_drew] at hm1); (try simp only [World.size_alloc] at hm1); (try have pA : O1 w2 w1.heap.size (.map none) := O1.next (by first | exact (O1.newAt rfl).drew | exact ((O1.newAt rfl).alloc _).drew) hb0); (try have pB : O1 w2 (w1.heap.size + 1) (.map none) := O1.next (by exact (O1.newAt (by (simp only [World.size_alloc]; done))).drew) hb0); have hM1l := hM1.lt; (try have n01 : ¬ w1.heap.size = w2.heap.size := (by have := pA.1; omega)); (try have n10 : ¬ w2.heap.size = w1.heap.size := (by have := pA.1; omega)))
      | (go_at_call 40; (with_reducible refine (HVy.out _ ?_).mono ?_); (focus repeat' (first | with_reducible assumption | with_reducible exact Below.refl _ _ | (with_reducible refine Below.drew ?_) | (with_reducible refine Below.setCell ?_ (by (try dsimp only); omega) _) | (with_reducible refine Below.alloc ?_ (by (try simp only [World.size_setCell]); (try simp only [World.size_drew]); (try simp only [World.size_alloc]); (try simp only [World.size_setCell]); (try simp only [World.size_alloc]); omega) _))); rintro e w3 ⟨m2, rfl, hm2, hb0, hM2⟩; have hbw3 : Below w1.heap.size w1 w3 := below_step (by repeat' (first | with_reducible assumption | with_reducible exact Below.refl _ _ | (with_reducible refine Below.drew ?_) | (with_reducible refine Below.setCell ?_ (by (try dsimp only); omega) _) | (with_reducible refine Below.alloc ?_ (by (try simp only [World.size_setCell]); (try simp only [World.size_drew]); (try simp only [World.size_alloc]); (try simp only [World.size_setCell]); (try simp only [World.size_alloc]); omega) _))) hb0 (Nat.le_refl _); have hb23 : Below w2.heap.size w2 w3 := below_step (by repeat' (first | with_reducible assumption | with_reducible exact Below.refl _ _ | (with_reducible refine Below.drew ?_) | (with_reducible refine Below.setCell ?_ (by (try dsimp only); omega) _) | (with_reducible refine Below.alloc ?_ (by (try simp only [World.size_setCell]); (try simp only [World.size_drew]); (try simp only [World.size_alloc]); (try simp only [World.size_setCell]); (try simp only [World.size_alloc]); omega) _))) hb0 (Nat.le_refl _); have hz3 := hbw3.size; have hz23 := hb23.size; have hM1' := hM1.below hb23 hM1l; have hM2l := hM2.lt; (try simp only [World.size_alloc] at hm2); (try have qA := pA.next hb23); (try have qB := pB.next hb23); (try have rA : O1 w3 w2.heap.size (.map none) := O1.next (by first | exact O1.newAt rfl | exact (O1.newAt rfl).alloc _) hb0); (try have rB : O1 w3 (w2.heap.size + 1) (.map none) := O1.next (by exact O1.newAt (by (simp only [World.size_alloc]; done))) hb0); (try have e0 : ¬ w1.heap.size = w3.heap.size := (by have := qA.1; omega)); (try have d0 : ¬ w3.heap.size = w1.heap.size := (by have := qA.1; omega)); (try obtain ⟨qAz, qA0, qA1⟩ := id qA); (try have e1 : ¬ w1.heap.size + 1 = w3.heap.size := (by have := qB.1; omega)); (try have d1 : ¬ w3.heap.size = w1.heap.size + 1 := (by have := qB.1; omega)); (try obtain ⟨qBz, qB0, qB1⟩ := id qB); (try have e2 : ¬ w2.heap.size = w3.heap.size := (by have := rA.1; omega)); (try have d2 : ¬ w3.heap.size = w2.heap.size := (by have := rA.1; omega)); (try obtain ⟨rAz, rA0, rA1⟩ := id rA); (try have e3 : ¬ w2.heap.size + 1 = w3.heap.size := (by have := rB.1; omega)); (try have d3 : ¬ w3.heap.size = w2.heap.size + 1 := (by have := rB.1; omega)); (try obtain ⟨rBz, rB0, rB1⟩ := id rB))
      | fail)
    all_goals (go_wp2_with fail; go_meet)
    all_goals (refine ⟨_, _, m1, m2, rfl, rfl, ?_, ?_, ?_, ?_, ?_⟩)
    all_goals (first | (with_reducible assumption) | ((repeat' (first | with_reducible assumption | with_reducible exact Below.refl _ _ | (with_reducible refine Below.drew ?_) | (with_reducible refine Below.setCell ?_ (by (try dsimp only); omega) _) | (with_reducible refine Below.alloc ?_ (by (try simp only [World.size_setCell]); (try simp only [World.size_drew]); (try simp only [World.size_alloc]); (try simp only [World.size_setCell]); (try simp only [World.size_alloc]); omega) _))); done) | ((repeat' (first | with_reducible assumption | (with_reducible refine O1.newAt ?_; first | with_reducible rfl | (simp only [World.size_setCell]; done) | (simp only [World.size_alloc]; done) | (simp only [World.size_alloc, World.size_setCell]; done)) | (with_reducible refine O1.fill ?_) | (with_reducible refine O1.far ?_ (by first | with_reducible assumption | omega)) | (with_reducible refine O1.alloc ?_ _))); done) | ((repeat' (first | with_reducible assumption | (with_reducible refine MapV.far ?_ (by omega)) | (with_reducible refine MapV.alloc ?_ _))); done))
  case rest =>
  obtain ⟨gA, gB, m1, m2, rfl, rfl, hbm, hOA, hOB, hMA, hMB⟩ := hcut
  obtain ⟨w2, rfl⟩ : ∃ w2 : World, w2 = wc := ⟨_, rfl⟩
  have HTr2 := Lib.hid (HTr1.out.next hbm)
  have HW2 := Lib.hid (HW1.out.trans (hbm.mono HW1.out.size))
  have hz2 := hbm.size
  have HA2 := Lib.hid hOA
  have HB2 := Lib.hid hOB
  have HMA2 := Lib.hid hMA
  have HMB2 := Lib.hid hMB
  have bx0 := (hbm.cell (p := ⟨w.heap.size, 0, none⟩) (by show w.heap.size < _; omega)).trans ax0
  have bx1 := (hbm.cell (p := ⟨w.heap.size, 1, none⟩) (by show w.heap.size < _; omega)).trans ax1
  have bx2 := (hbm.cell (p := ⟨w.heap.size, 2, none⟩) (by show w.heap.size < _; omega)).trans ax2
  have by0 := (hbm.cell (p := ⟨w.heap.size + 1, 0, none⟩) (by show w.heap.size + 1 < _; omega)).trans ay0
  have by1 := (hbm.cell (p := ⟨w.heap.size + 1, 1, none⟩) (by show w.heap.size + 1 < _; omega)).trans ay1
  have by2 := (hbm.cell (p := ⟨w.heap.size + 1, 2, none⟩) (by show w.heap.size + 1 < _; omega)).trans ay2
  have c0 := hOA.2.1
  have d0 := hOB.2.1
  clear hbm hOA hOB hMA hMB ax0 ax1 ax2 ay0 ay1 ay2
  go_wp2_with fail
  refine (at_c m1 xs.length _ { data := #[] } (by decide) w2 HMA2.out).mono ?_
  rw [HV1.out]
  rintro e w3 ⟨rfl, hbn⟩
  have HTr3 := Lib.hid (HTr2.out.next hbn)
  have HW3 := Lib.hid (HW2.out.trans (hbn.mono HW2.out.size))
  have HA3 := Lib.hid (HA2.out.next hbn)
  have HB3 := Lib.hid (HB2.out.next hbn)
  have HMA3 := Lib.hid (HMA2.out.below hbn HMA2.out.lt)
  have HMB3 := Lib.hid (HMB2.out.below hbn HMB2.out.lt)
  have cx0 := (hbn.cell (p := ⟨w.heap.size, 0, none⟩) (by show w.heap.size < _; omega)).trans bx0
  have cx1 := (hbn.cell (p := ⟨w.heap.size, 1, none⟩) (by show w.heap.size < _; omega)).trans bx1
  have cx2 := (hbn.cell (p := ⟨w.heap.size, 2, none⟩) (by show w.heap.size < _; omega)).trans bx2
  have cy0 := (hbn.cell (p := ⟨w.heap.size + 1, 0, none⟩) (by show w.heap.size + 1 < _; omega)).trans by0
  have cy1 := (hbn.cell (p := ⟨w.heap.size + 1, 1, none⟩) (by show w.heap.size + 1 < _; omega)).trans by1
  have cy2 := (hbn.cell (p := ⟨w.heap.size + 1, 2, none⟩) (by show w.heap.size + 1 < _; omega)).trans by2
  have hz3 := hbn.size
  clear c0 d0
  have c0 := HA3.out.2.1
  have d0 := HB3.out.2.1
  clear hbn
  clear bx0 bx1 bx2 by0 by1 by2
  go_wp2_with fail
  refine (isZero_named hpb HQ1.out _).mono ?_
  rintro e w4 ⟨rfl, hbn⟩
  have HTr4 := Lib.hid (HTr3.out.next hbn)
  have HW4 := Lib.hid (HW3.out.trans (hbn.mono HW3.out.size))
  have HA4 := Lib.hid (HA3.out.next hbn)
  have HB4 := Lib.hid (HB3.out.next hbn)
  have HMA4 := Lib.hid (HMA3.out.below hbn HMA3.out.lt)
  have HMB4 := Lib.hid (HMB3.out.below hbn HMB3.out.lt)
  have dx0 := (hbn.cell (p := ⟨w.heap.size, 0, none⟩) (by show w.heap.size < _; omega)).trans cx0
  have dx1 := (hbn.cell (p := ⟨w.heap.size, 1, none⟩) (by show w.heap.size < _; omega)).trans cx1
  have dx2 := (hbn.cell (p := ⟨w.heap.size, 2, none⟩) (by show w.heap.size < _; omega)).trans cx2
  have dy0 := (hbn.cell (p := ⟨w.heap.size + 1, 0, none⟩) (by show w.heap.size + 1 < _; omega)).trans cy0
  have dy1 := (hbn.cell (p := ⟨w.heap.size + 1, 1, none⟩) (by show w.heap.size + 1 < _; omega)).trans cy1
  have dy2 := (hbn.cell (p := ⟨w.heap.size + 1, 2, none⟩) (by show w.heap.size + 1 < _; omega)).trans cy2
  have hz4 := hbn.size
  clear c0 d0
  have c0 := HA4.out.2.1
  have d0 := HB4.out.2.1
  clear hbn
  clear cx0 cx1 cx2 cy0 cy1 cy2
  go_wp2_with fail
  refine (at_c m2 ys.length _ { data := #[] } (by decide) w4 HMB4.out).mono ?_
  rw [HV2.out]
  rintro e w5 ⟨rfl, hbn⟩
  have HTr5 := Lib.hid (HTr4.out.next hbn)
  have HW5 := Lib.hid (HW4.out.trans (hbn.mono HW4.out.size))
  have HA5 := Lib.hid (HA4.out.next hbn)
  have HB5 := Lib.hid (HB4.out.next hbn)
  have HMA5 := Lib.hid (HMA4.out.below hbn HMA4.out.lt)
  have HMB5 := Lib.hid (HMB4.out.below hbn HMB4.out.lt)
  have ex0 := (hbn.cell (p := ⟨w.heap.size, 0, none⟩) (by show w.heap.size < _; omega)).trans dx0
  have ex1 := (hbn.cell (p := ⟨w.heap.size, 1, none⟩) (by show w.heap.size < _; omega)).trans dx1
  have ex2 := (hbn.cell (p := ⟨w.heap.size, 2, none⟩) (by show w.heap.size < _; omega)).trans dx2
  have ey0 := (hbn.cell (p := ⟨w.heap.size + 1, 0, none⟩) (by show w.heap.size + 1 < _; omega)).trans dy0
  have ey1 := (hbn.cell (p := ⟨w.heap.size + 1, 1, none⟩) (by show w.heap.size + 1 < _; omega)).trans dy1
  have ey2 := (hbn.cell (p := ⟨w.heap.size + 1, 2, none⟩) (by show w.heap.size + 1 < _; omega)).trans dy2
  have hz5 := hbn.size
  clear c0 d0
  have c0 := HA5.out.2.1
  have d0 := HB5.out.2.1
  clear hbn
  clear dx0 dx1 dx2 dy0 dy1 dy2
  go_wp2_with fail
  refine (isZero_named hub HQ2.out _).mono ?_
  rintro e w6 ⟨rfl, hbn⟩
  have HTr6 := Lib.hid (HTr5.out.next hbn)
  have HW6 := Lib.hid (HW5.out.trans (hbn.mono HW5.out.size))
  have HA6 := Lib.hid (HA5.out.next hbn)
  have HB6 := Lib.hid (HB5.out.next hbn)
  have HMA6 := Lib.hid (HMA5.out.below hbn HMA5.out.lt)
  have HMB6 := Lib.hid (HMB5.out.below hbn HMB5.out.lt)
  have fx0 := (hbn.cell (p := ⟨w.heap.size, 0, none⟩) (by show w.heap.size < _; omega)).trans ex0
  have fx1 := (hbn.cell (p := ⟨w.heap.size, 1, none⟩) (by show w.heap.size < _; omega)).trans ex1
  have fx2 := (hbn.cell (p := ⟨w.heap.size, 2, none⟩) (by show w.heap.size < _; omega)).trans ex2
  have fy0 := (hbn.cell (p := ⟨w.heap.size + 1, 0, none⟩) (by show w.heap.size + 1 < _; omega)).trans ey0
  have fy1 := (hbn.cell (p := ⟨w.heap.size + 1, 1, none⟩) (by show w.heap.size + 1 < _; omega)).trans ey1
  have fy2 := (hbn.cell (p := ⟨w.heap.size + 1, 2, none⟩) (by show w.heap.size + 1 < _; omega)).trans ey2
  have hz6 := hbn.size
  clear c0 d0
  have c0 := HA6.out.2.1
  have d0 := HB6.out.2.1
  clear hbn
  clear ex0 ex1 ex2 ey0 ey1 ey2
  obtain ⟨hzr, r0, r1, r2, z0, z1, z2⟩ := id HTr6.out
  clear c0 d0
  clear fx0 fx1 fx2 fy0 fy1 fy2
  go_wp2
  refine bodyPost_ret (v := .tuple #[.agg #[.int .i64 0, .int .i64 0, .slice none 0 0], .int .i64 5]) (by simp [results, Tryz.results59, go_sem, r0, r1, r2]) rfl (SerPost.err 5 rfl ?_)
  have hW := HW6.out
  go_grown
set_option maxRecDepth 100000 in
set_option maxHeartbeats 8000000 in
theorem iJoi_3no (D N : Nat) (g1 g2 : Nat) (xs ys : List Tm) (hl1 : xs.length ≤ 1048576) (hl2 : ys.length ≤ 1048576) (hs1 : ∀ i (h : i < xs.length), (xs[i]).s.size ≤ maxLen) (hs2 : ∀ i (h : i < ys.length), (ys[i]).s.size ≤ maxLen) (h1 : serB D N xs = true) (h2 : serB D N ys = true) (p q u v : Int) (hv1 : valL [] xs = (p, q)) (hv2 : valL [] ys = (u, v)) (hp : p = 0 ∧ u = 0) (hv' : joinV (valV xs xs.length) (valV ys ys.length) (allW D N) N = none) (w : World) (hb1 : g1 < w.heap.size) (hb2 : g2 < w.heap.size) (t1 : TermsIn w g1 0 xs) (t2 : TermsIn w g2 0 ys) :
    Calls Tryz.prog 59 #[.agg #[.int .i64 D, .int .i64 N, .slice (some ⟨g1, 0, none⟩) xs.length xs.length], .agg #[.int .i64 D, .int .i64 N, .slice (some ⟨g2, 0, none⟩) ys.length ys.length]] w (SerPost 0 0 [] 3 w) := by
  have HT1 := Lib.hid t1
  have HT2 := Lib.hid t2
  have HS1 := Lib.hid hs1
  have HS2 := Lib.hid hs2
  have HH1 := Lib.hid h1
  have HH2 := Lib.hid h2
  have HC := Lib.hid (codeL_4 h1 h2 (show alikeB (D : Int) (N : Int) (D : Int) (N : Int) = true by simp [alikeB]))
  have hsh : shapeB (D : Int) (N : Int) = true := by unfold serB at h1; rw [Bool.and_eq_true] at h1; exact h1.1
  have hDN := shape_out hsh
  have hmf : ∀ (fn : Fn) (first cap : Array Value) (w : World), (Instr.makeFunc fn first cap).run Tryz.prog w = .ok (.func fn first cap) w := fun _ _ _ _ => rfl
  have hfew := allW_few (D := D) (by omega) (n := N) (by omega)
  have HWl := Lib.hid (show (allW D N).length ≤ 1048576 by omega)
  have HWs := Lib.hid (show ∀ s ∈ allW D N, s.size ≤ 1048576 from fun s hs => by have := allW_size D N s hs; omega)
  have HG1 := Lib.hid (good_valV h1).1
  have HG2 := Lib.hid (good_valV h2).1
  have HV := Lib.hid hv'
  have HV1 := Lib.hid (show valF (valV xs xs.length) { data := #[] } = (p, q) from (val_at h1).trans hv1)
  have HV2 := Lib.hid (show valF (valV ys ys.length) { data := #[] } = (u, v) from (val_at h2).trans hv2)
  have HQ1 := Lib.hid (show p = 0 → q = 1 from fun e => by have h := val_isF h1; rw [hv1] at h; subst e; exact isF_zero h)
  have HQ2 := Lib.hid (show u = 0 → v = 1 from fun e => by have h := val_isF h2; rw [hv2] at h; subst e; exact isF_zero h)
  have hpb : (p == 0) = true := by simpa using hp.1
  have hub : (u == 0) = true := by simpa using hp.2
  clear hp
  clear t1 t2 hs1 hs2 h1 h2 hv1 hv2 hv' hsh
  go_enter Tryz.func59, Tryz.ntmps59
  go_wp2_with fail
  refine (checkFactors_c D N D N g1 g2 _ _ xs ys hl1 hl2 HS1.out HS2.out _ (by simp; omega) (by simp; omega) (HT1.out.below (below3 w _ _ _) hb1) (HT2.out.below (below3 w _ _ _) hb2)).mono ?_
  rw [HC.out]
  rintro e w1 ⟨rfl, hb⟩
  have hB3 : Below (w.heap.size + 3) (((w.alloc (.cells #[.int .i64 D, .int .i64 N, .slice (some ⟨g1, 0, none⟩) xs.length xs.length] 26)).alloc (.cells #[.int .i64 D, .int .i64 N, .slice (some ⟨g2, 0, none⟩) ys.length ys.length] 26)).alloc (.cells #[.int .i64 0, .int .i64 0, .slice none 0 0] 26)) w1 := by simpa using hb
  have hT := (show T3 (((w.alloc (.cells #[.int .i64 D, .int .i64 N, .slice (some ⟨g1, 0, none⟩) xs.length xs.length] 26)).alloc (.cells #[.int .i64 D, .int .i64 N, .slice (some ⟨g2, 0, none⟩) ys.length ys.length] 26)).alloc (.cells #[.int .i64 0, .int .i64 0, .slice none 0 0] 26)) (w.heap.size + 2) (.int .i64 0) (.int .i64 0) (.slice none 0 0) from T3.newAt (by simp)).below hB3 (by omega)
  have HW1 := Lib.hid ((below3 w (.cells #[.int .i64 D, .int .i64 N, .slice (some ⟨g1, 0, none⟩) xs.length xs.length] 26) (.cells #[.int .i64 D, .int .i64 N, .slice (some ⟨g2, 0, none⟩) ys.length ys.length] 26) (.cells #[.int .i64 0, .int .i64 0, .slice none 0 0] 26)).trans (hB3.mono (by omega)))
  have bc := bcellB hB3
  have ax0 : w1.cell? ⟨w.heap.size, 0, none⟩ = some (.int .i64 D) := (bc.1 _ _ (by omega)).trans (by go_simp)
  have ax1 : w1.cell? ⟨w.heap.size, 1, none⟩ = some (.int .i64 N) := (bc.1 _ _ (by omega)).trans (by go_simp)
  have ax2 : w1.cell? ⟨w.heap.size, 2, none⟩ = some (.slice (some ⟨g1, 0, none⟩) xs.length xs.length) := (bc.1 _ _ (by omega)).trans (by go_simp)
  have ay0 : w1.cell? ⟨w.heap.size + 1, 0, none⟩ = some (.int .i64 D) := (bc.1 _ _ (by omega)).trans (by go_simp)
  have ay1 : w1.cell? ⟨w.heap.size + 1, 1, none⟩ = some (.int .i64 N) := (bc.1 _ _ (by omega)).trans (by go_simp)
  have ay2 : w1.cell? ⟨w.heap.size + 1, 2, none⟩ = some (.slice (some ⟨g2, 0, none⟩) ys.length ys.length) := (bc.1 _ _ (by omega)).trans (by go_simp)
  have HTr1 := Lib.hid hT
  have hz1 := hT.1
  clear hb bc hT hB3
  have hww : w.heap.size < w1.heap.size := by omega
  have hwy : w.heap.size + 1 < w1.heap.size := by omega
  have KS := Lib.hid (show ∀ w', Below w1.heap.size w1 w' → (w'.cell? ⟨w.heap.size, 0, none⟩ = some (.int .i64 D) ∧ w'.cell? ⟨w.heap.size, 1, none⟩ = some (.int .i64 N) ∧ w'.cell? ⟨w.heap.size, 2, none⟩ = some (.slice (some ⟨g1, 0, none⟩) xs.length xs.length) ∧ w'.cell? ⟨w.heap.size + 1, 0, none⟩ = some (.int .i64 D) ∧ w'.cell? ⟨w.heap.size + 1, 1, none⟩ = some (.int .i64 N) ∧ w'.cell? ⟨w.heap.size + 1, 2, none⟩ = some (.slice (some ⟨g2, 0, none⟩) ys.length ys.length)) from fun w' hb => ⟨(hb.cell (p := ⟨w.heap.size, 0, none⟩) hww).trans ax0, (hb.cell (p := ⟨w.heap.size, 1, none⟩) hww).trans ax1, (hb.cell (p := ⟨w.heap.size, 2, none⟩) hww).trans ax2, (hb.cell (p := ⟨w.heap.size + 1, 0, none⟩) hwy).trans ay0, (hb.cell (p := ⟨w.heap.size + 1, 1, none⟩) hwy).trans ay1, (hb.cell (p := ⟨w.heap.size + 1, 2, none⟩) hwy).trans ay2⟩)
  have HVx := Lib.hid (fun W (hW : Below w1.heap.size w1 W) => valuesOf_c D N (some ⟨g1, 0, none⟩) xs.length xs hl1 HS1.out W (.inr ⟨g1, 0, rfl, by have := HW1.out.size; have := hW.size; omega, HT1.out.below (HW1.out.trans (hW.mono HW1.out.size)) hb1⟩))
  have HVy := Lib.hid (fun W (hW : Below w1.heap.size w1 W) => valuesOf_c D N (some ⟨g2, 0, none⟩) ys.length ys hl2 HS2.out W (.inr ⟨g2, 0, rfl, by have := HW1.out.size; have := hW.size; omega, HT2.out.below (HW1.out.trans (hW.mono HW1.out.size)) hb2⟩))
  go_upto_region 4 with fail
  go_cut [7, 8] (TwoMap w1 xs.length ys.length (valV xs xs.length) (valV ys ys.length))
  case first =>
    go_region_held3 (fun w' => w'.cell? ⟨w.heap.size, 0, none⟩ = some (.int .i64 D) ∧ w'.cell? ⟨w.heap.size, 1, none⟩ = some (.int .i64 N) ∧ w'.cell? ⟨w.heap.size, 2, none⟩ = some (.slice (some ⟨g1, 0, none⟩) xs.length xs.length) ∧ w'.cell? ⟨w.heap.size + 1, 0, none⟩ = some (.int .i64 D) ∧ w'.cell? ⟨w.heap.size + 1, 1, none⟩ = some (.int .i64 N) ∧ w'.cell? ⟨w.heap.size + 1, 2, none⟩ = some (.slice (some ⟨g2, 0, none⟩) ys.length ys.length))
      ((refine KS.out _ ?_; repeat' (first | with_reducible assumption | with_reducible exact Below.refl _ _ | (with_reducible refine Below.drew ?_) | (with_reducible refine Below.setCell ?_ (by (try dsimp only); omega) _) | (with_reducible refine Below.alloc ?_ (by (try simp only [World.size_setCell]); (try simp only [World.size_drew]); (try simp only [World.size_alloc]); (try simp only [World.size_setCell]); (try simp only [World.size_alloc]); omega) _))))
      (first
      | (go_at_call 40; (with_reducible refine (HVx.out _ ?_).mono ?_); (focus repeat' (first | with_reducible assumption | with_reducible exact Below.refl _ _ | (with_reducible refine Below.drew ?_) | (with_reducible refine Below.setCell ?_ (by (try dsimp only); omega) _) | (with_reducible refine Below.alloc ?_ (by (try simp only [World.size_setCell]); (try simp only [World.size_drew]); (try simp only [World.size_alloc]); (try simp only [World.size_setCell]); (try simp only [World.size_alloc]); omega) _))); rintro e w2 ⟨m1, rfl, hm1, hb0, hM1⟩; have hbw2 : Below w1.heap.size w1 w2 := below_step (by repeat' (first | with_reducible assumption | with_reducible exact Below.refl _ _ | (with_reducible refine Below.drew ?_) | (with_reducible refine Below.setCell ?_ (by (try dsimp only); omega) _) | (with_reducible refine Below.alloc ?_ (by (try simp only [World.size_setCell]); (try simp only [World.size_drew]); (try simp only [World.size_alloc]); (try simp only [World.size_setCell]); (try simp only [World.size_alloc]); omega) _))) hb0 (Nat.le_refl _); have hz2 := hbw2.size; (try simp only [World.size_drew] at hm1); (try simp only [World.size_alloc] at hm1); (try have pA : O1 w2 w1.heap.size (.map none) := O1.next (by first | exact (O1.newAt rfl).drew | exact ((O1.newAt rfl).alloc _).drew) hb0); (try have pB : O1 w2 (w1.heap.size + 1) (.map none) := O1.next (by exact (O1.newAt (by (simp only [World.size_alloc]; done))).drew) hb0); have hM1l := hM1.lt; (try have n01 : ¬ w1.heap.size = w2.heap.size := (by have := pA.1; omega)); (try have n10 : ¬ w2.heap.size = w1.heap.size := (by have := pA.1; omega)))
      | (go_at_call 40; (with_reducible refine (HVy.out _ ?_).mono ?_); (focus repeat' (first | with_reducible assumption | with_reducible exact Below.refl _ _ | (with_reducible refine Below.drew ?_) | (with_reducible refine Below.setCell ?_ (by (try dsimp only); omega) _) | (with_reducible refine Below.alloc ?_ (by (try simp only [World.size_setCell]); (try simp only [World.size_drew]); (try simp only [World.size_alloc]); (try simp only [World.size_setCell]); (try simp only [World.size_alloc]); omega) _))); rintro e w3 ⟨m2, rfl, hm2, hb0, hM2⟩; have hbw3 : Below w1.heap.size w1 w3 := below_step (by repeat' (first | with_reducible assumption | with_reducible exact Below.refl _ _ | (with_reducible refine Below.drew ?_) | (with_reducible refine Below.setCell ?_ (by (try dsimp only); omega) _) | (with_reducible refine Below.alloc ?_ (by (try simp only [World.size_setCell]); (try simp only [World.size_drew]); (try simp only [World.size_alloc]); (try simp only [World.size_setCell]); (try simp only [World.size_alloc]); omega) _))) hb0 (Nat.le_refl _); have hb23 : Below w2.heap.size w2 w3 := below_step (by repeat' (first | with_reducible assumption | with_reducible exact Below.refl _ _ | (with_reducible refine Below.drew ?_) | (with_reducible refine Below.setCell ?_ (by (try dsimp only); omega) _) | (with_reducible refine Below.alloc ?_ (by (try simp only [World.size_setCell]); (try simp only [World.size_drew]); (try simp only [World.size_alloc]); (try simp only [World.size_setCell]); (try simp only [World.size_alloc]); omega) _))) hb0 (Nat.le_refl _); have hz3 := hbw3.size; have hz23 := hb23.size; have hM1' := hM1.below hb23 hM1l; have hM2l := hM2.lt; (try simp only [World.size_alloc] at hm2); (try have qA := pA.next hb23); (try have qB := pB.next hb23); (try have rA : O1 w3 w2.heap.size (.map none) := O1.next (by first | exact O1.newAt rfl | exact (O1.newAt rfl).alloc _) hb0); (try have rB : O1 w3 (w2.heap.size + 1) (.map none) := O1.next (by exact O1.newAt (by (simp only [World.size_alloc]; done))) hb0); (try have e0 : ¬ w1.heap.size = w3.heap.size := (by have := qA.1; omega)); (try have d0 : ¬ w3.heap.size = w1.heap.size := (by have := qA.1; omega)); (try obtain ⟨qAz, qA0, qA1⟩ := id qA); (try have e1 : ¬ w1.heap.size + 1 = w3.heap.size := (by have := qB.1; omega)); (try have d1 : ¬ w3.heap.size = w1.heap.size + 1 := (by have := qB.1; omega)); (try obtain ⟨qBz, qB0, qB1⟩ := id qB); (try have e2 : ¬ w2.heap.size = w3.heap.size := (by have := rA.1; omega)); (try have d2 : ¬ w3.heap.size = w2.heap.size := (by have := rA.1; omega)); (try obtain ⟨rAz, rA0, rA1⟩ := id rA); (try have e3 : ¬ w2.heap.size + 1 = w3.heap.size := (by have := rB.1; omega)); (try have d3 : ¬ w3.heap.size = w2.heap.size + 1 := (by have := rB.1; omega)); (try obtain ⟨rBz, rB0, rB1⟩ := id rB))
      | fail)
    all_goals (go_wp2_with fail; go_meet)
    all_goals (refine ⟨_, _, m1, m2, rfl, rfl, ?_, ?_, ?_, ?_, ?_⟩)
    all_goals (first | (with_reducible assumption) | ((repeat' (first | with_reducible assumption | with_reducible exact Below.refl _ _ | (with_reducible refine Below.drew ?_) | (with_reducible refine Below.setCell ?_ (by (try dsimp only); omega) _) | (with_reducible refine Below.alloc ?_ (by (try simp only [World.size_setCell]); (try simp only [World.size_drew]); (try simp only [World.size_alloc]); (try simp only [World.size_setCell]); (try simp only [World.size_alloc]); omega) _))); done) | ((repeat' (first | with_reducible assumption | (with_reducible refine O1.newAt ?_; first | with_reducible rfl | (simp only [World.size_setCell]; done) | (simp only [World.size_alloc]; done) | (simp only [World.size_alloc, World.size_setCell]; done)) | (with_reducible refine O1.fill ?_) | (with_reducible refine O1.far ?_ (by first | with_reducible assumption | omega)) | (with_reducible refine O1.alloc ?_ _))); done) | ((repeat' (first | with_reducible assumption | (with_reducible refine MapV.far ?_ (by omega)) | (with_reducible refine MapV.alloc ?_ _))); done))
  case rest =>
  obtain ⟨gA, gB, m1, m2, rfl, rfl, hbm, hOA, hOB, hMA, hMB⟩ := hcut
  obtain ⟨w2, rfl⟩ : ∃ w2 : World, w2 = wc := ⟨_, rfl⟩
  have HTr2 := Lib.hid (HTr1.out.next hbm)
  have HW2 := Lib.hid (HW1.out.trans (hbm.mono HW1.out.size))
  have hz2 := hbm.size
  have HA2 := Lib.hid hOA
  have HB2 := Lib.hid hOB
  have HMA2 := Lib.hid hMA
  have HMB2 := Lib.hid hMB
  have bx0 := (hbm.cell (p := ⟨w.heap.size, 0, none⟩) (by show w.heap.size < _; omega)).trans ax0
  have bx1 := (hbm.cell (p := ⟨w.heap.size, 1, none⟩) (by show w.heap.size < _; omega)).trans ax1
  have bx2 := (hbm.cell (p := ⟨w.heap.size, 2, none⟩) (by show w.heap.size < _; omega)).trans ax2
  have by0 := (hbm.cell (p := ⟨w.heap.size + 1, 0, none⟩) (by show w.heap.size + 1 < _; omega)).trans ay0
  have by1 := (hbm.cell (p := ⟨w.heap.size + 1, 1, none⟩) (by show w.heap.size + 1 < _; omega)).trans ay1
  have by2 := (hbm.cell (p := ⟨w.heap.size + 1, 2, none⟩) (by show w.heap.size + 1 < _; omega)).trans ay2
  have c0 := hOA.2.1
  have d0 := hOB.2.1
  clear hbm hOA hOB hMA hMB ax0 ax1 ax2 ay0 ay1 ay2
  go_wp2_with fail
  refine (at_c m1 xs.length _ { data := #[] } (by decide) w2 HMA2.out).mono ?_
  rw [HV1.out]
  rintro e w3 ⟨rfl, hbn⟩
  have HTr3 := Lib.hid (HTr2.out.next hbn)
  have HW3 := Lib.hid (HW2.out.trans (hbn.mono HW2.out.size))
  have HA3 := Lib.hid (HA2.out.next hbn)
  have HB3 := Lib.hid (HB2.out.next hbn)
  have HMA3 := Lib.hid (HMA2.out.below hbn HMA2.out.lt)
  have HMB3 := Lib.hid (HMB2.out.below hbn HMB2.out.lt)
  have cx0 := (hbn.cell (p := ⟨w.heap.size, 0, none⟩) (by show w.heap.size < _; omega)).trans bx0
  have cx1 := (hbn.cell (p := ⟨w.heap.size, 1, none⟩) (by show w.heap.size < _; omega)).trans bx1
  have cx2 := (hbn.cell (p := ⟨w.heap.size, 2, none⟩) (by show w.heap.size < _; omega)).trans bx2
  have cy0 := (hbn.cell (p := ⟨w.heap.size + 1, 0, none⟩) (by show w.heap.size + 1 < _; omega)).trans by0
  have cy1 := (hbn.cell (p := ⟨w.heap.size + 1, 1, none⟩) (by show w.heap.size + 1 < _; omega)).trans by1
  have cy2 := (hbn.cell (p := ⟨w.heap.size + 1, 2, none⟩) (by show w.heap.size + 1 < _; omega)).trans by2
  have hz3 := hbn.size
  clear c0 d0
  have c0 := HA3.out.2.1
  have d0 := HB3.out.2.1
  clear hbn
  clear bx0 bx1 bx2 by0 by1 by2
  go_wp2_with fail
  refine (isZero_named hpb HQ1.out _).mono ?_
  rintro e w4 ⟨rfl, hbn⟩
  have HTr4 := Lib.hid (HTr3.out.next hbn)
  have HW4 := Lib.hid (HW3.out.trans (hbn.mono HW3.out.size))
  have HA4 := Lib.hid (HA3.out.next hbn)
  have HB4 := Lib.hid (HB3.out.next hbn)
  have HMA4 := Lib.hid (HMA3.out.below hbn HMA3.out.lt)
  have HMB4 := Lib.hid (HMB3.out.below hbn HMB3.out.lt)
  have dx0 := (hbn.cell (p := ⟨w.heap.size, 0, none⟩) (by show w.heap.size < _; omega)).trans cx0
  have dx1 := (hbn.cell (p := ⟨w.heap.size, 1, none⟩) (by show w.heap.size < _; omega)).trans cx1
  have dx2 := (hbn.cell (p := ⟨w.heap.size, 2, none⟩) (by show w.heap.size < _; omega)).trans cx2
  have dy0 := (hbn.cell (p := ⟨w.heap.size + 1, 0, none⟩) (by show w.heap.size + 1 < _; omega)).trans cy0
  have dy1 := (hbn.cell (p := ⟨w.heap.size + 1, 1, none⟩) (by show w.heap.size + 1 < _; omega)).trans cy1
  have dy2 := (hbn.cell (p := ⟨w.heap.size + 1, 2, none⟩) (by show w.heap.size + 1 < _; omega)).trans cy2
  have hz4 := hbn.size
  clear c0 d0
  have c0 := HA4.out.2.1
  have d0 := HB4.out.2.1
  clear hbn
  clear cx0 cx1 cx2 cy0 cy1 cy2
  go_wp2_with fail
  refine (at_c m2 ys.length _ { data := #[] } (by decide) w4 HMB4.out).mono ?_
  rw [HV2.out]
  rintro e w5 ⟨rfl, hbn⟩
  have HTr5 := Lib.hid (HTr4.out.next hbn)
  have HW5 := Lib.hid (HW4.out.trans (hbn.mono HW4.out.size))
  have HA5 := Lib.hid (HA4.out.next hbn)
  have HB5 := Lib.hid (HB4.out.next hbn)
  have HMA5 := Lib.hid (HMA4.out.below hbn HMA4.out.lt)
  have HMB5 := Lib.hid (HMB4.out.below hbn HMB4.out.lt)
  have ex0 := (hbn.cell (p := ⟨w.heap.size, 0, none⟩) (by show w.heap.size < _; omega)).trans dx0
  have ex1 := (hbn.cell (p := ⟨w.heap.size, 1, none⟩) (by show w.heap.size < _; omega)).trans dx1
  have ex2 := (hbn.cell (p := ⟨w.heap.size, 2, none⟩) (by show w.heap.size < _; omega)).trans dx2
  have ey0 := (hbn.cell (p := ⟨w.heap.size + 1, 0, none⟩) (by show w.heap.size + 1 < _; omega)).trans dy0
  have ey1 := (hbn.cell (p := ⟨w.heap.size + 1, 1, none⟩) (by show w.heap.size + 1 < _; omega)).trans dy1
  have ey2 := (hbn.cell (p := ⟨w.heap.size + 1, 2, none⟩) (by show w.heap.size + 1 < _; omega)).trans dy2
  have hz5 := hbn.size
  clear c0 d0
  have c0 := HA5.out.2.1
  have d0 := HB5.out.2.1
  clear hbn
  clear dx0 dx1 dx2 dy0 dy1 dy2
  go_wp2_with fail
  refine (isZero_named hub HQ2.out _).mono ?_
  rintro e w6 ⟨rfl, hbn⟩
  have HTr6 := Lib.hid (HTr5.out.next hbn)
  have HW6 := Lib.hid (HW5.out.trans (hbn.mono HW5.out.size))
  have HA6 := Lib.hid (HA5.out.next hbn)
  have HB6 := Lib.hid (HB5.out.next hbn)
  have HMA6 := Lib.hid (HMA5.out.below hbn HMA5.out.lt)
  have HMB6 := Lib.hid (HMB5.out.below hbn HMB5.out.lt)
  have fx0 := (hbn.cell (p := ⟨w.heap.size, 0, none⟩) (by show w.heap.size < _; omega)).trans ex0
  have fx1 := (hbn.cell (p := ⟨w.heap.size, 1, none⟩) (by show w.heap.size < _; omega)).trans ex1
  have fx2 := (hbn.cell (p := ⟨w.heap.size, 2, none⟩) (by show w.heap.size < _; omega)).trans ex2
  have fy0 := (hbn.cell (p := ⟨w.heap.size + 1, 0, none⟩) (by show w.heap.size + 1 < _; omega)).trans ey0
  have fy1 := (hbn.cell (p := ⟨w.heap.size + 1, 1, none⟩) (by show w.heap.size + 1 < _; omega)).trans ey1
  have fy2 := (hbn.cell (p := ⟨w.heap.size + 1, 2, none⟩) (by show w.heap.size + 1 < _; omega)).trans ey2
  have hz6 := hbn.size
  clear c0 d0
  have c0 := HA6.out.2.1
  have d0 := HB6.out.2.1
  clear hbn
  clear ex0 ex1 ex2 ey0 ey1 ey2
  go_wp2_with fail
  refine (spaceOf_c D N (by omega) (by omega) _).mono ?_
  rintro e w7 ⟨aS, cS, rfl, hb7, hN7⟩
  have HW7 := Lib.hid (HW6.out.trans (hb7.mono HW6.out.size))
  have hz7 := hb7.size
  have hba := below1 w7 (.cells #[.int .i64 D, .int .i64 N, .slice aS (allW D N).length cS] 64)
  have hb8 := hb7.trans (hba.mono hz7)
  have HW8 := Lib.hid (HW6.out.trans (hb8.mono HW6.out.size))
  have HT8 := Lib.hid (HTr6.out.next hb8)
  have HA8 := Lib.hid (HA6.out.next hb8)
  have HB8 := Lib.hid (HB6.out.next hb8)
  have HMA8 := Lib.hid (HMA6.out.below hb8 HMA6.out.lt)
  have HMB8 := Lib.hid (HMB6.out.below hb8 HMB6.out.lt)
  have Ks0 : (w7.alloc (.cells #[.int .i64 D, .int .i64 N, .slice aS (allW D N).length cS] 64)).cell? ⟨w7.heap.size, 0, none⟩ = some (.int .i64 D) := by go_simp
  have Ks1 : (w7.alloc (.cells #[.int .i64 D, .int .i64 N, .slice aS (allW D N).length cS] 64)).cell? ⟨w7.heap.size, 1, none⟩ = some (.int .i64 N) := by go_simp
  have Ks2 : (w7.alloc (.cells #[.int .i64 D, .int .i64 N, .slice aS (allW D N).length cS] 64)).cell? ⟨w7.heap.size, 2, none⟩ = some (.slice aS (allW D N).length cS) := by go_simp
  have HNs := Lib.hid (hN7.row.below hba (Nat.le_refl _))
  have hzz : (w7.alloc (.cells #[.int .i64 D, .int .i64 N, .slice aS (allW D N).length cS] 64)).heap.size = w7.heap.size + 1 := by simp
  have HDoor := Lib.hid (door_no D N aS (allW D N).length cS 103 #[.pointer (some ⟨w7.heap.size, 0, none⟩), .pointer (some ⟨gA, 0, none⟩), .pointer (some ⟨gB, 0, none⟩)] (fun _ => by kernel_rfl) (w7.alloc (.cells #[.int .i64 D, .int .i64 N, .slice aS (allW D N).length cS] 64)) (fun W hW => by have hk := joinWork D N (by omega) (by omega) w7.heap.size gA gB m1 xs.length m2 ys.length aS cS _ _ HG1.out HG2.out W (by have := hW.size; omega) (Nat.lt_of_lt_of_le HA8.out.1 hW.size) (Nat.lt_of_lt_of_le HB8.out.1 hW.size) ((hW.cell (p := ⟨w7.heap.size, 0, none⟩) (by show w7.heap.size < _; omega)).trans Ks0) ((hW.cell (p := ⟨w7.heap.size, 1, none⟩) (by show w7.heap.size < _; omega)).trans Ks1) ((hW.cell (p := ⟨w7.heap.size, 2, none⟩) (by show w7.heap.size < _; omega)).trans Ks2) ((hW.cell (p := ⟨gA, 0, none⟩) HA8.out.1).trans HA8.out.2.1) ((hW.cell (p := ⟨gB, 0, none⟩) HB8.out.1).trans HB8.out.2.1) (HNs.out.below hW (Nat.le_refl _)) (HMA8.out.below hW HMA8.out.lt) (HMB8.out.below hW HMB8.out.lt); rw [HV.out] at hk; exact hk))
  clear hb7 hN7 hb8 Ks0 Ks1 Ks2 hba c0 d0
  clear fx0 fx1 fx2 fy0 fy1 fy2
  go_wp2_with fail
  refine HDoor.out.mono ?_
  rintro e w9 ⟨rfl, hb9⟩
  have hT9 := HT8.out.next hb9
  have HW9 := Lib.hid (HW8.out.trans (hb9.mono HW8.out.size))
  obtain ⟨hzr, r0, r1, r2, z0, z1, z2⟩ := id hT9
  clear hb9 hT9
  go_wp2
  refine bodyPost_ret (v := .tuple #[.agg #[.int .i64 0, .int .i64 0, .slice none 0 0], .int .i64 3]) (by simp [results, Tryz.results59, go_sem, r0, r1, r2]) rfl (SerPost.err 3 rfl ?_)
  have hW := HW9.out
  go_grown

set_option maxRecDepth 100000 in
set_option maxHeartbeats 8000000 in
theorem iJoi_3yes (D N : Nat) (g1 g2 : Nat) (xs ys : List Tm) (hl1 : xs.length ≤ 1048576) (hl2 : ys.length ≤ 1048576) (hs1 : ∀ i (h : i < xs.length), (xs[i]).s.size ≤ maxLen) (hs2 : ∀ i (h : i < ys.length), (ys[i]).s.size ≤ maxLen) (h1 : serB D N xs = true) (h2 : serB D N ys = true) (p q u v : Int) (hv1 : valL [] xs = (p, q)) (hv2 : valL [] ys = (u, v)) (hp : p = 0 ∧ u = 0) (h : VF) (hv' : joinV (valV xs xs.length) (valV ys ys.length) (allW D N) N = some h) (w : World) (hb1 : g1 < w.heap.size) (hb2 : g2 < w.heap.size) (t1 : TermsIn w g1 0 xs) (t2 : TermsIn w g2 0 ys) :
    Calls Tryz.prog 59 #[.agg #[.int .i64 D, .int .i64 N, .slice (some ⟨g1, 0, none⟩) xs.length xs.length], .agg #[.int .i64 D, .int .i64 N, .slice (some ⟨g2, 0, none⟩) ys.length ys.length]] w (SerPost D N (termsOf h (allW D N)) 0 w) := by
  have HT1 := Lib.hid t1
  have HT2 := Lib.hid t2
  have HS1 := Lib.hid hs1
  have HS2 := Lib.hid hs2
  have HH1 := Lib.hid h1
  have HH2 := Lib.hid h2
  have HC := Lib.hid (codeL_4 h1 h2 (show alikeB (D : Int) (N : Int) (D : Int) (N : Int) = true by simp [alikeB]))
  have hsh : shapeB (D : Int) (N : Int) = true := by unfold serB at h1; rw [Bool.and_eq_true] at h1; exact h1.1
  have hDN := shape_out hsh
  have hmf : ∀ (fn : Fn) (first cap : Array Value) (w : World), (Instr.makeFunc fn first cap).run Tryz.prog w = .ok (.func fn first cap) w := fun _ _ _ _ => rfl
  have hfew := allW_few (D := D) (by omega) (n := N) (by omega)
  have HWl := Lib.hid (show (allW D N).length ≤ 1048576 by omega)
  have HWs := Lib.hid (show ∀ s ∈ allW D N, s.size ≤ 1048576 from fun s hs => by have := allW_size D N s hs; omega)
  have HG1 := Lib.hid (good_valV h1).1
  have HG2 := Lib.hid (good_valV h2).1
  have HV := Lib.hid hv'
  have HV1 := Lib.hid (show valF (valV xs xs.length) { data := #[] } = (p, q) from (val_at h1).trans hv1)
  have HV2 := Lib.hid (show valF (valV ys ys.length) { data := #[] } = (u, v) from (val_at h2).trans hv2)
  have HQ1 := Lib.hid (show p = 0 → q = 1 from fun e => by have h := val_isF h1; rw [hv1] at h; subst e; exact isF_zero h)
  have HQ2 := Lib.hid (show u = 0 → v = 1 from fun e => by have h := val_isF h2; rw [hv2] at h; subst e; exact isF_zero h)
  have hpb : (p == 0) = true := by simpa using hp.1
  have hub : (u == 0) = true := by simpa using hp.2
  clear hp
  clear t1 t2 hs1 hs2 h1 h2 hv1 hv2 hv' hsh
  go_enter Tryz.func59, Tryz.ntmps59
  go_wp2_with fail
  refine (checkFactors_c D N D N g1 g2 _ _ xs ys hl1 hl2 HS1.out HS2.out _ (by simp; omega) (by simp; omega) (HT1.out.below (below3 w _ _ _) hb1) (HT2.out.below (below3 w _ _ _) hb2)).mono ?_
  rw [HC.out]
  rintro e w1 ⟨rfl, hb⟩
  have hB3 : Below (w.heap.size + 3) (((w.alloc (.cells #[.int .i64 D, .int .i64 N, .slice (some ⟨g1, 0, none⟩) xs.length xs.length] 26)).alloc (.cells #[.int .i64 D, .int .i64 N, .slice (some ⟨g2, 0, none⟩) ys.length ys.length] 26)).alloc (.cells #[.int .i64 0, .int .i64 0, .slice none 0 0] 26)) w1 := by simpa using hb
  have hT := (show T3 (((w.alloc (.cells #[.int .i64 D, .int .i64 N, .slice (some ⟨g1, 0, none⟩) xs.length xs.length] 26)).alloc (.cells #[.int .i64 D, .int .i64 N, .slice (some ⟨g2, 0, none⟩) ys.length ys.length] 26)).alloc (.cells #[.int .i64 0, .int .i64 0, .slice none 0 0] 26)) (w.heap.size + 2) (.int .i64 0) (.int .i64 0) (.slice none 0 0) from T3.newAt (by simp)).below hB3 (by omega)
  have HW1 := Lib.hid ((below3 w (.cells #[.int .i64 D, .int .i64 N, .slice (some ⟨g1, 0, none⟩) xs.length xs.length] 26) (.cells #[.int .i64 D, .int .i64 N, .slice (some ⟨g2, 0, none⟩) ys.length ys.length] 26) (.cells #[.int .i64 0, .int .i64 0, .slice none 0 0] 26)).trans (hB3.mono (by omega)))
  have bc := bcellB hB3
  have ax0 : w1.cell? ⟨w.heap.size, 0, none⟩ = some (.int .i64 D) := (bc.1 _ _ (by omega)).trans (by go_simp)
  have ax1 : w1.cell? ⟨w.heap.size, 1, none⟩ = some (.int .i64 N) := (bc.1 _ _ (by omega)).trans (by go_simp)
  have ax2 : w1.cell? ⟨w.heap.size, 2, none⟩ = some (.slice (some ⟨g1, 0, none⟩) xs.length xs.length) := (bc.1 _ _ (by omega)).trans (by go_simp)
  have ay0 : w1.cell? ⟨w.heap.size + 1, 0, none⟩ = some (.int .i64 D) := (bc.1 _ _ (by omega)).trans (by go_simp)
  have ay1 : w1.cell? ⟨w.heap.size + 1, 1, none⟩ = some (.int .i64 N) := (bc.1 _ _ (by omega)).trans (by go_simp)
  have ay2 : w1.cell? ⟨w.heap.size + 1, 2, none⟩ = some (.slice (some ⟨g2, 0, none⟩) ys.length ys.length) := (bc.1 _ _ (by omega)).trans (by go_simp)
  have HTr1 := Lib.hid hT
  have hz1 := hT.1
  clear hb bc hT hB3
  have hww : w.heap.size < w1.heap.size := by omega
  have hwy : w.heap.size + 1 < w1.heap.size := by omega
  have KS := Lib.hid (show ∀ w', Below w1.heap.size w1 w' → (w'.cell? ⟨w.heap.size, 0, none⟩ = some (.int .i64 D) ∧ w'.cell? ⟨w.heap.size, 1, none⟩ = some (.int .i64 N) ∧ w'.cell? ⟨w.heap.size, 2, none⟩ = some (.slice (some ⟨g1, 0, none⟩) xs.length xs.length) ∧ w'.cell? ⟨w.heap.size + 1, 0, none⟩ = some (.int .i64 D) ∧ w'.cell? ⟨w.heap.size + 1, 1, none⟩ = some (.int .i64 N) ∧ w'.cell? ⟨w.heap.size + 1, 2, none⟩ = some (.slice (some ⟨g2, 0, none⟩) ys.length ys.length)) from fun w' hb => ⟨(hb.cell (p := ⟨w.heap.size, 0, none⟩) hww).trans ax0, (hb.cell (p := ⟨w.heap.size, 1, none⟩) hww).trans ax1, (hb.cell (p := ⟨w.heap.size, 2, none⟩) hww).trans ax2, (hb.cell (p := ⟨w.heap.size + 1, 0, none⟩) hwy).trans ay0, (hb.cell (p := ⟨w.heap.size + 1, 1, none⟩) hwy).trans ay1, (hb.cell (p := ⟨w.heap.size + 1, 2, none⟩) hwy).trans ay2⟩)
  have HVx := Lib.hid (fun W (hW : Below w1.heap.size w1 W) => valuesOf_c D N (some ⟨g1, 0, none⟩) xs.length xs hl1 HS1.out W (.inr ⟨g1, 0, rfl, by have := HW1.out.size; have := hW.size; omega, HT1.out.below (HW1.out.trans (hW.mono HW1.out.size)) hb1⟩))
  have HVy := Lib.hid (fun W (hW : Below w1.heap.size w1 W) => valuesOf_c D N (some ⟨g2, 0, none⟩) ys.length ys hl2 HS2.out W (.inr ⟨g2, 0, rfl, by have := HW1.out.size; have := hW.size; omega, HT2.out.below (HW1.out.trans (hW.mono HW1.out.size)) hb2⟩))
  go_upto_region 4 with fail
  go_cut [7, 8] (TwoMap w1 xs.length ys.length (valV xs xs.length) (valV ys ys.length))
  case first =>
    go_region_held3 (fun w' => w'.cell? ⟨w.heap.size, 0, none⟩ = some (.int .i64 D) ∧ w'.cell? ⟨w.heap.size, 1, none⟩ = some (.int .i64 N) ∧ w'.cell? ⟨w.heap.size, 2, none⟩ = some (.slice (some ⟨g1, 0, none⟩) xs.length xs.length) ∧ w'.cell? ⟨w.heap.size + 1, 0, none⟩ = some (.int .i64 D) ∧ w'.cell? ⟨w.heap.size + 1, 1, none⟩ = some (.int .i64 N) ∧ w'.cell? ⟨w.heap.size + 1, 2, none⟩ = some (.slice (some ⟨g2, 0, none⟩) ys.length ys.length))
      ((refine KS.out _ ?_; repeat' (first | with_reducible assumption | with_reducible exact Below.refl _ _ | (with_reducible refine Below.drew ?_) | (with_reducible refine Below.setCell ?_ (by (try dsimp only); omega) _) | (with_reducible refine Below.alloc ?_ (by (try simp only [World.size_setCell]); (try simp only [World.size_drew]); (try simp only [World.size_alloc]); (try simp only [World.size_setCell]); (try simp only [World.size_alloc]); omega) _))))
      (first
      | (go_at_call 40; (with_reducible refine (HVx.out _ ?_).mono ?_); (focus repeat' (first | with_reducible assumption | with_reducible exact Below.refl _ _ | (with_reducible refine Below.drew ?_) | (with_reducible refine Below.setCell ?_ (by (try dsimp only); omega) _) | (with_reducible refine Below.alloc ?_ (by (try simp only [World.size_setCell]); (try simp only [World.size_drew]); (try simp only [World.size_alloc]); (try simp only [World.size_setCell]); (try simp only [World.size_alloc]); omega) _))); rintro e w2 ⟨m1, rfl, hm1, hb0, hM1⟩; have hbw2 : Below w1.heap.size w1 w2 := below_step (by repeat' (first | with_reducible assumption | with_reducible exact Below.refl _ _ | (with_reducible refine Below.drew ?_) | (with_reducible refine Below.setCell ?_ (by (try dsimp only); omega) _) | (with_reducible refine Below.alloc ?_ (by (try simp only [World.size_setCell]); (try simp only [World.size_drew]); (try simp only [World.size_alloc]); (try simp only [World.size_setCell]); (try simp only [World.size_alloc]); omega) _))) hb0 (Nat.le_refl _); have hz2 := hbw2.size; (try simp only [World.size_drew] at hm1); (try simp only [World.size_alloc] at hm1); (try have pA : O1 w2 w1.heap.size (.map none) := O1.next (by first | exact (O1.newAt rfl).drew | exact ((O1.newAt rfl).alloc _).drew) hb0); (try have pB : O1 w2 (w1.heap.size + 1) (.map none) := O1.next (by exact (O1.newAt (by (simp only [World.size_alloc]; done))).drew) hb0); have hM1l := hM1.lt; (try have n01 : ¬ w1.heap.size = w2.heap.size := (by have := pA.1; omega)); (try have n10 : ¬ w2.heap.size = w1.heap.size := (by have := pA.1; omega)))
      | (go_at_call 40; (with_reducible refine (HVy.out _ ?_).mono ?_); (focus repeat' (first | with_reducible assumption | with_reducible exact Below.refl _ _ | (with_reducible refine Below.drew ?_) | (with_reducible refine Below.setCell ?_ (by (try dsimp only); omega) _) | (with_reducible refine Below.alloc ?_ (by (try simp only [World.size_setCell]); (try simp only [World.size_drew]); (try simp only [World.size_alloc]); (try simp only [World.size_setCell]); (try simp only [World.size_alloc]); omega) _))); rintro e w3 ⟨m2, rfl, hm2, hb0, hM2⟩; have hbw3 : Below w1.heap.size w1 w3 := below_step (by repeat' (first | with_reducible assumption | with_reducible exact Below.refl _ _ | (with_reducible refine Below.drew ?_) | (with_reducible refine Below.setCell ?_ (by (try dsimp only); omega) _) | (with_reducible refine Below.alloc ?_ (by (try simp only [World.size_setCell]); (try simp only [World.size_drew]); (try simp only [World.size_alloc]); (try simp only [World.size_setCell]); (try simp only [World.size_alloc]); omega) _))) hb0 (Nat.le_refl _); have hb23 : Below w2.heap.size w2 w3 := below_step (by repeat' (first | with_reducible assumption | with_reducible exact Below.refl _ _ | (with_reducible refine Below.drew ?_) | (with_reducible refine Below.setCell ?_ (by (try dsimp only); omega) _) | (with_reducible refine Below.alloc ?_ (by (try simp only [World.size_setCell]); (try simp only [World.size_drew]); (try simp only [World.size_alloc]); (try simp only [World.size_setCell]); (try simp only [World.size_alloc]); omega) _))) hb0 (Nat.le_refl _); have hz3 := hbw3.size; have hz23 := hb23.size; have hM1' := hM1.below hb23 hM1l; have hM2l := hM2.lt; (try simp only [World.size_alloc] at hm2); (try have qA := pA.next hb23); (try have qB := pB.next hb23); (try have rA : O1 w3 w2.heap.size (.map none) := O1.next (by first | exact O1.newAt rfl | exact (O1.newAt rfl).alloc _) hb0); (try have rB : O1 w3 (w2.heap.size + 1) (.map none) := O1.next (by exact O1.newAt (by (simp only [World.size_alloc]; done))) hb0); (try have e0 : ¬ w1.heap.size = w3.heap.size := (by have := qA.1; omega)); (try have d0 : ¬ w3.heap.size = w1.heap.size := (by have := qA.1; omega)); (try obtain ⟨qAz, qA0, qA1⟩ := id qA); (try have e1 : ¬ w1.heap.size + 1 = w3.heap.size := (by have := qB.1; omega)); (try have d1 : ¬ w3.heap.size = w1.heap.size + 1 := (by have := qB.1; omega)); (try obtain ⟨qBz, qB0, qB1⟩ := id qB); (try have e2 : ¬ w2.heap.size = w3.heap.size := (by have := rA.1; omega)); (try have d2 : ¬ w3.heap.size = w2.heap.size := (by have := rA.1; omega)); (try obtain ⟨rAz, rA0, rA1⟩ := id rA); (try have e3 : ¬ w2.heap.size + 1 = w3.heap.size := (by have := rB.1; omega)); (try have d3 : ¬ w3.heap.size = w2.heap.size + 1 := (by have := rB.1; omega)); (try obtain ⟨rBz, rB0, rB1⟩ := id rB))
      | fail)
    all_goals (go_wp2_with fail; go_meet)
    all_goals (refine ⟨_, _, m1, m2, rfl, rfl, ?_, ?_, ?_, ?_, ?_⟩)
    all_goals (first | (with_reducible assumption) | ((repeat' (first | with_reducible assumption | with_reducible exact Below.refl _ _ | (with_reducible refine Below.drew ?_) | (with_reducible refine Below.setCell ?_ (by (try dsimp only); omega) _) | (with_reducible refine Below.alloc ?_ (by (try simp only [World.size_setCell]); (try simp only [World.size_drew]); (try simp only [World.size_alloc]); (try simp only [World.size_setCell]); (try simp only [World.size_alloc]); omega) _))); done) | ((repeat' (first | with_reducible assumption | (with_reducible refine O1.newAt ?_; first | with_reducible rfl | (simp only [World.size_setCell]; done) | (simp only [World.size_alloc]; done) | (simp only [World.size_alloc, World.size_setCell]; done)) | (with_reducible refine O1.fill ?_) | (with_reducible refine O1.far ?_ (by first | with_reducible assumption | omega)) | (with_reducible refine O1.alloc ?_ _))); done) | ((repeat' (first | with_reducible assumption | (with_reducible refine MapV.far ?_ (by omega)) | (with_reducible refine MapV.alloc ?_ _))); done))
  case rest =>
  obtain ⟨gA, gB, m1, m2, rfl, rfl, hbm, hOA, hOB, hMA, hMB⟩ := hcut
  obtain ⟨w2, rfl⟩ : ∃ w2 : World, w2 = wc := ⟨_, rfl⟩
  have HTr2 := Lib.hid (HTr1.out.next hbm)
  have HW2 := Lib.hid (HW1.out.trans (hbm.mono HW1.out.size))
  have hz2 := hbm.size
  have HA2 := Lib.hid hOA
  have HB2 := Lib.hid hOB
  have HMA2 := Lib.hid hMA
  have HMB2 := Lib.hid hMB
  have bx0 := (hbm.cell (p := ⟨w.heap.size, 0, none⟩) (by show w.heap.size < _; omega)).trans ax0
  have bx1 := (hbm.cell (p := ⟨w.heap.size, 1, none⟩) (by show w.heap.size < _; omega)).trans ax1
  have bx2 := (hbm.cell (p := ⟨w.heap.size, 2, none⟩) (by show w.heap.size < _; omega)).trans ax2
  have by0 := (hbm.cell (p := ⟨w.heap.size + 1, 0, none⟩) (by show w.heap.size + 1 < _; omega)).trans ay0
  have by1 := (hbm.cell (p := ⟨w.heap.size + 1, 1, none⟩) (by show w.heap.size + 1 < _; omega)).trans ay1
  have by2 := (hbm.cell (p := ⟨w.heap.size + 1, 2, none⟩) (by show w.heap.size + 1 < _; omega)).trans ay2
  have c0 := hOA.2.1
  have d0 := hOB.2.1
  clear hbm hOA hOB hMA hMB ax0 ax1 ax2 ay0 ay1 ay2
  go_wp2_with fail
  refine (at_c m1 xs.length _ { data := #[] } (by decide) w2 HMA2.out).mono ?_
  rw [HV1.out]
  rintro e w3 ⟨rfl, hbn⟩
  have HTr3 := Lib.hid (HTr2.out.next hbn)
  have HW3 := Lib.hid (HW2.out.trans (hbn.mono HW2.out.size))
  have HA3 := Lib.hid (HA2.out.next hbn)
  have HB3 := Lib.hid (HB2.out.next hbn)
  have HMA3 := Lib.hid (HMA2.out.below hbn HMA2.out.lt)
  have HMB3 := Lib.hid (HMB2.out.below hbn HMB2.out.lt)
  have cx0 := (hbn.cell (p := ⟨w.heap.size, 0, none⟩) (by show w.heap.size < _; omega)).trans bx0
  have cx1 := (hbn.cell (p := ⟨w.heap.size, 1, none⟩) (by show w.heap.size < _; omega)).trans bx1
  have cx2 := (hbn.cell (p := ⟨w.heap.size, 2, none⟩) (by show w.heap.size < _; omega)).trans bx2
  have cy0 := (hbn.cell (p := ⟨w.heap.size + 1, 0, none⟩) (by show w.heap.size + 1 < _; omega)).trans by0
  have cy1 := (hbn.cell (p := ⟨w.heap.size + 1, 1, none⟩) (by show w.heap.size + 1 < _; omega)).trans by1
  have cy2 := (hbn.cell (p := ⟨w.heap.size + 1, 2, none⟩) (by show w.heap.size + 1 < _; omega)).trans by2
  have hz3 := hbn.size
  clear c0 d0
  have c0 := HA3.out.2.1
  have d0 := HB3.out.2.1
  clear hbn
  clear bx0 bx1 bx2 by0 by1 by2
  go_wp2_with fail
  refine (isZero_named hpb HQ1.out _).mono ?_
  rintro e w4 ⟨rfl, hbn⟩
  have HTr4 := Lib.hid (HTr3.out.next hbn)
  have HW4 := Lib.hid (HW3.out.trans (hbn.mono HW3.out.size))
  have HA4 := Lib.hid (HA3.out.next hbn)
  have HB4 := Lib.hid (HB3.out.next hbn)
  have HMA4 := Lib.hid (HMA3.out.below hbn HMA3.out.lt)
  have HMB4 := Lib.hid (HMB3.out.below hbn HMB3.out.lt)
  have dx0 := (hbn.cell (p := ⟨w.heap.size, 0, none⟩) (by show w.heap.size < _; omega)).trans cx0
  have dx1 := (hbn.cell (p := ⟨w.heap.size, 1, none⟩) (by show w.heap.size < _; omega)).trans cx1
  have dx2 := (hbn.cell (p := ⟨w.heap.size, 2, none⟩) (by show w.heap.size < _; omega)).trans cx2
  have dy0 := (hbn.cell (p := ⟨w.heap.size + 1, 0, none⟩) (by show w.heap.size + 1 < _; omega)).trans cy0
  have dy1 := (hbn.cell (p := ⟨w.heap.size + 1, 1, none⟩) (by show w.heap.size + 1 < _; omega)).trans cy1
  have dy2 := (hbn.cell (p := ⟨w.heap.size + 1, 2, none⟩) (by show w.heap.size + 1 < _; omega)).trans cy2
  have hz4 := hbn.size
  clear c0 d0
  have c0 := HA4.out.2.1
  have d0 := HB4.out.2.1
  clear hbn
  clear cx0 cx1 cx2 cy0 cy1 cy2
  go_wp2_with fail
  refine (at_c m2 ys.length _ { data := #[] } (by decide) w4 HMB4.out).mono ?_
  rw [HV2.out]
  rintro e w5 ⟨rfl, hbn⟩
  have HTr5 := Lib.hid (HTr4.out.next hbn)
  have HW5 := Lib.hid (HW4.out.trans (hbn.mono HW4.out.size))
  have HA5 := Lib.hid (HA4.out.next hbn)
  have HB5 := Lib.hid (HB4.out.next hbn)
  have HMA5 := Lib.hid (HMA4.out.below hbn HMA4.out.lt)
  have HMB5 := Lib.hid (HMB4.out.below hbn HMB4.out.lt)
  have ex0 := (hbn.cell (p := ⟨w.heap.size, 0, none⟩) (by show w.heap.size < _; omega)).trans dx0
  have ex1 := (hbn.cell (p := ⟨w.heap.size, 1, none⟩) (by show w.heap.size < _; omega)).trans dx1
  have ex2 := (hbn.cell (p := ⟨w.heap.size, 2, none⟩) (by show w.heap.size < _; omega)).trans dx2
  have ey0 := (hbn.cell (p := ⟨w.heap.size + 1, 0, none⟩) (by show w.heap.size + 1 < _; omega)).trans dy0
  have ey1 := (hbn.cell (p := ⟨w.heap.size + 1, 1, none⟩) (by show w.heap.size + 1 < _; omega)).trans dy1
  have ey2 := (hbn.cell (p := ⟨w.heap.size + 1, 2, none⟩) (by show w.heap.size + 1 < _; omega)).trans dy2
  have hz5 := hbn.size
  clear c0 d0
  have c0 := HA5.out.2.1
  have d0 := HB5.out.2.1
  clear hbn
  clear dx0 dx1 dx2 dy0 dy1 dy2
  go_wp2_with fail
  refine (isZero_named hub HQ2.out _).mono ?_
  rintro e w6 ⟨rfl, hbn⟩
  have HTr6 := Lib.hid (HTr5.out.next hbn)
  have HW6 := Lib.hid (HW5.out.trans (hbn.mono HW5.out.size))
  have HA6 := Lib.hid (HA5.out.next hbn)
  have HB6 := Lib.hid (HB5.out.next hbn)
  have HMA6 := Lib.hid (HMA5.out.below hbn HMA5.out.lt)
  have HMB6 := Lib.hid (HMB5.out.below hbn HMB5.out.lt)
  have fx0 := (hbn.cell (p := ⟨w.heap.size, 0, none⟩) (by show w.heap.size < _; omega)).trans ex0
  have fx1 := (hbn.cell (p := ⟨w.heap.size, 1, none⟩) (by show w.heap.size < _; omega)).trans ex1
  have fx2 := (hbn.cell (p := ⟨w.heap.size, 2, none⟩) (by show w.heap.size < _; omega)).trans ex2
  have fy0 := (hbn.cell (p := ⟨w.heap.size + 1, 0, none⟩) (by show w.heap.size + 1 < _; omega)).trans ey0
  have fy1 := (hbn.cell (p := ⟨w.heap.size + 1, 1, none⟩) (by show w.heap.size + 1 < _; omega)).trans ey1
  have fy2 := (hbn.cell (p := ⟨w.heap.size + 1, 2, none⟩) (by show w.heap.size + 1 < _; omega)).trans ey2
  have hz6 := hbn.size
  clear c0 d0
  have c0 := HA6.out.2.1
  have d0 := HB6.out.2.1
  clear hbn
  clear ex0 ex1 ex2 ey0 ey1 ey2
  go_wp2_with fail
  refine (spaceOf_c D N (by omega) (by omega) _).mono ?_
  rintro e w7 ⟨aS, cS, rfl, hb7, hN7⟩
  have HW7 := Lib.hid (HW6.out.trans (hb7.mono HW6.out.size))
  have hz7 := hb7.size
  have hba := below1 w7 (.cells #[.int .i64 D, .int .i64 N, .slice aS (allW D N).length cS] 64)
  have hb8 := hb7.trans (hba.mono hz7)
  have HW8 := Lib.hid (HW6.out.trans (hb8.mono HW6.out.size))
  have HT8 := Lib.hid (HTr6.out.next hb8)
  have HA8 := Lib.hid (HA6.out.next hb8)
  have HB8 := Lib.hid (HB6.out.next hb8)
  have HMA8 := Lib.hid (HMA6.out.below hb8 HMA6.out.lt)
  have HMB8 := Lib.hid (HMB6.out.below hb8 HMB6.out.lt)
  have Ks0 : (w7.alloc (.cells #[.int .i64 D, .int .i64 N, .slice aS (allW D N).length cS] 64)).cell? ⟨w7.heap.size, 0, none⟩ = some (.int .i64 D) := by go_simp
  have Ks1 : (w7.alloc (.cells #[.int .i64 D, .int .i64 N, .slice aS (allW D N).length cS] 64)).cell? ⟨w7.heap.size, 1, none⟩ = some (.int .i64 N) := by go_simp
  have Ks2 : (w7.alloc (.cells #[.int .i64 D, .int .i64 N, .slice aS (allW D N).length cS] 64)).cell? ⟨w7.heap.size, 2, none⟩ = some (.slice aS (allW D N).length cS) := by go_simp
  have HNs := Lib.hid (hN7.row.below hba (Nat.le_refl _))
  have hzz : (w7.alloc (.cells #[.int .i64 D, .int .i64 N, .slice aS (allW D N).length cS] 64)).heap.size = w7.heap.size + 1 := by simp
  have HDoor := Lib.hid (door_yes D N aS cS (allW D N) HWl.out HWs.out h 103 #[.pointer (some ⟨w7.heap.size, 0, none⟩), .pointer (some ⟨gA, 0, none⟩), .pointer (some ⟨gB, 0, none⟩)] (fun _ => by kernel_rfl) (w7.alloc (.cells #[.int .i64 D, .int .i64 N, .slice aS (allW D N).length cS] 64)) (fun W hW => by have hk := joinWork D N (by omega) (by omega) w7.heap.size gA gB m1 xs.length m2 ys.length aS cS _ _ HG1.out HG2.out W (by have := hW.size; omega) (Nat.lt_of_lt_of_le HA8.out.1 hW.size) (Nat.lt_of_lt_of_le HB8.out.1 hW.size) ((hW.cell (p := ⟨w7.heap.size, 0, none⟩) (by show w7.heap.size < _; omega)).trans Ks0) ((hW.cell (p := ⟨w7.heap.size, 1, none⟩) (by show w7.heap.size < _; omega)).trans Ks1) ((hW.cell (p := ⟨w7.heap.size, 2, none⟩) (by show w7.heap.size < _; omega)).trans Ks2) ((hW.cell (p := ⟨gA, 0, none⟩) HA8.out.1).trans HA8.out.2.1) ((hW.cell (p := ⟨gB, 0, none⟩) HB8.out.1).trans HB8.out.2.1) (HNs.out.below hW (Nat.le_refl _)) (HMA8.out.below hW HMA8.out.lt) (HMB8.out.below hW HMB8.out.lt); rw [HV.out] at hk; exact hk) HNs.out)
  clear hb7 hN7 hb8 Ks0 Ks1 Ks2 hba c0 d0
  clear fx0 fx1 fx2 fy0 fy1 fy2
  go_wp2_with fail
  refine HDoor.out.mono ?_
  rintro e w9 ⟨a6, c6, rfl, hb9, hN9⟩
  have hT9 := HT8.out.next hb9
  have HW9 := Lib.hid (HW8.out.trans (hb9.mono HW8.out.size))
  have HN9 := Lib.hid hN9
  have hzw : w.heap.size + 2 < w7.heap.size + 1 := by have := HT8.out.1; simpa using this
  obtain ⟨hzr, r0, r1, r2, z0, z1, z2⟩ := id hT9
  clear hb9 hT9 hN9
  go_wp2
  refine bodyPost_ret (v := .tuple #[.agg #[.int .i64 D, .int .i64 N, .slice a6 (termsOf h (allW D N)).length c6], .int .i64 0]) (by simp [results, Tryz.results59, go_sem, r0, r1, r2]) rfl ⟨a6, c6, rfl, ?_, ?_⟩
  · have hW := HW9.out
    go_grown
  · exact (((HN9.out.far1s (by simp; omega)).far1s (by simp; omega)).far1s (by simp; omega)).mono (by simp; omega) (by simp)

end Go.Proofs.YtgcjpenlcokgjaaGreatDoor
