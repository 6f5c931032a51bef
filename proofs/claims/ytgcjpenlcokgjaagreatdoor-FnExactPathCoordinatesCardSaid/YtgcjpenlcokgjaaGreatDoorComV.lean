/-
  The model's commutator of two series, and the plain mathematics of commutators.
  The program's commutator of maps of values: two products, and one is taken from the other; or a fraction does not fit and the call panics.
-/
import Derived.Test.YtgcjpenlcokgjaaGreatDoorTimes
import Derived.Test.YtgcjpenlcokgjaaGreatDoorAddL
import Derived.Deep.RegionHeld2
namespace Go.Proofs.YtgcjpenlcokgjaaGreatDoor
open Go.RowKit

/-- the commutator of values by word, if all fits -/
def commV (f g : VF) (ws : List ByteArray) : Option VF := (prodV f g ws).bind fun h1 => (prodV g f ws).bind fun h2 => addK h2 (-1) 1 ws h1
def commL (f g : VF) (ws : List ByteArray) : Option (List Tm) := (commV f g ws).map fun h => termsOf h ws
def lessL2 : Option (List Tm) → Option (List Tm) → Option (List Tm)
  | some p, some q => (scaledL (-1) 1 q).bind fun us => putAll p us
  | _, _ => none
theorem commL_eq {f g : VF} {ws : List ByteArray} (hv : ws.Pairwise lessW) : commL f g ws = lessL2 (prodL f g ws) (prodL g f ws) := by
  rw [prodL_V, prodL_V]
  unfold commL commV
  cases prodV f g ws with
  | none => rfl
  | some h1 =>
    cases prodV g f ws with
    | none => rfl
    | some h2 => exact (addK_put hv (fun s h => h) h1).symm
theorem GoodV.commV {f g h : VF} {ws : List ByteArray} (e : commV f g ws = some h) : GoodV ws h := by
  unfold Go.Proofs.YtgcjpenlcokgjaaGreatDoor.commV at e
  obtain ⟨h1, e1, e2⟩ := Option.bind_eq_some_iff.1 e
  obtain ⟨h2, e3, e4⟩ := Option.bind_eq_some_iff.1 e2
  exact (GoodV.prodV e1).addK (fun s hs => hs) e4
theorem prodL_bd {f g : VF} {ws : List ByteArray} (hl : ws.length ≤ 1048576) {p : List Tm} (e : prodL f g ws = some p) : p.length ≤ 1048576 ∧ ∀ t ∈ p, bdT t := by
  rw [prodL_V] at e
  obtain ⟨h, e1, rfl⟩ := Option.map_eq_some_iff.1 e
  refine ⟨Nat.le_trans (termsOf_len h ws) hl, fun t ht => ?_⟩
  have hg := (GoodV.prodV e1) t.s (t.n, t.d) (termsOf_iff.1 ht).2
  have := isF_abs hg.2.1
  exact ⟨this.1, this.2.1⟩

theorem tri_stored {g : Nat} {u v t x y z : Value} {w' : World} (h0 : w'.cell? ⟨g, 0, none⟩ = some u) (h1 : w'.cell? ⟨g, 1, none⟩ = some v) (h2 : w'.cell? ⟨g, 2, none⟩ = some t) :
    (((w'.setCell ⟨g, 0, none⟩ x).setCell ⟨g, 1, none⟩ y).setCell ⟨g, 2, none⟩ z).cell? ⟨g, 0, none⟩ = some x ∧ (((w'.setCell ⟨g, 0, none⟩ x).setCell ⟨g, 1, none⟩ y).setCell ⟨g, 2, none⟩ z).cell? ⟨g, 1, none⟩ = some y ∧ (((w'.setCell ⟨g, 0, none⟩ x).setCell ⟨g, 1, none⟩ y).setCell ⟨g, 2, none⟩ z).cell? ⟨g, 2, none⟩ = some z := by
  have hp := pair_stored (x := x) (y := y) h0 h1
  have n2 : (⟨g, 2, none⟩ : Addr) ≠ ⟨g, 0, none⟩ := by simp
  have n3 : (⟨g, 2, none⟩ : Addr) ≠ ⟨g, 1, none⟩ := by simp
  have e : ((w'.setCell ⟨g, 0, none⟩ x).setCell ⟨g, 1, none⟩ y).cell? ⟨g, 2, none⟩ = some t := (World.cell?_setCell_other _ _ _ _ n3.symm).trans ((World.cell?_setCell_other _ _ _ _ n2.symm).trans h2)
  exact ⟨(World.cell?_setCell_other _ _ _ _ n2).trans hp.1, (World.cell?_setCell_other _ _ _ _ n3).trans hp.2, World.cell?_setCell_same _ _ _ e⟩
theorem far_tri {g n o : Nat} {u v t : Value} {w' : World} (h : n < g) : (((w'.setCell ⟨g, 0, none⟩ u).setCell ⟨g, 1, none⟩ v).setCell ⟨g, 2, none⟩ t).cell? ⟨n, o, none⟩ = w'.cell? ⟨n, o, none⟩ := by
  rw [World.cell?_setCell_far _ _ _ _ (by show g ≠ n; omega), World.cell?_setCell_far _ _ _ _ (by show g ≠ n; omega), World.cell?_setCell_far _ _ _ _ (by show g ≠ n; omega)]
def AddCut (wb : World) (x y z : Value) (ok : Bool) (v10 v11 : Value) (wy : World) : Prop :=
  ∃ g, v10 = .pointer (some ⟨g, 0, none⟩) ∧ v11 = .bool ok ∧ wb.heap.size ≤ g ∧ g < wy.heap.size ∧ Below wb.heap.size wb wy ∧ wy.cell? ⟨g, 0, none⟩ = some x ∧ wy.cell? ⟨g, 1, none⟩ = some y ∧ wy.cell? ⟨g, 2, none⟩ = some z

set_option maxRecDepth 100000 in
set_option maxHeartbeats 8000000 in
theorem l02Commutator_c (D N : Nat) (hD : 1 ≤ D ∧ D ≤ 3) (hN : N ≤ 5) (a1 a2 : Option Addr) (cap1 cap2 : Nat) (f g : VF) (hf : GoodV (allW D N) f) (hg : GoodV (allW D N) g) (xs ys : List Tm) (hx : termsOf f (allW D N) = xs) (hy : termsOf g (allW D N) = ys) (hl1 : xs.length ≤ 1048576) (hl2 : ys.length ≤ 1048576) (w : World) (hr1 : Row w a1 xs) (hr2 : Row w a2 ys) :
    Calls Tryz.prog 109 #[.agg #[.int .i64 D, .int .i64 N, .slice a1 xs.length cap1], .agg #[.int .i64 D, .int .i64 N, .slice a2 ys.length cap2]] w (SumPost D N (commL f g (allW D N)) w) := by
  have hW := allW_asc hD.2 N
  have hlw : (allW D N).length ≤ 1048576 := by have := allW_few hD.2 hN; omega
  have HR1 := Lib.hid hr1
  have HR2 := Lib.hid hr2
  have HC := Lib.hid (commL_eq (f := f) (g := g) hW)
  have HPb := Lib.hid (fun p => prodL_bd (f := f) (g := g) hlw (p := p))
  have HQb := Lib.hid (fun p => prodL_bd (f := g) (g := f) hlw (p := p))
  have HT1 := Lib.hid (fun W r1 r2 => l02Times_c D N hD hN a1 a2 cap1 cap2 f g hf hg xs ys hx hy hl1 hl2 hW W r1 r2)
  have HT2 := Lib.hid (fun W r1 r2 => l02Times_c D N hD hN a2 a1 cap2 cap1 g f hg hf ys xs hy hx hl2 hl1 hW W r1 r2)
  generalize commL f g (allW D N) = C at *
  generalize prodL f g (allW D N) = p at *
  generalize prodL g f (allW D N) = q at *
  clear hr1 hr2 hW hlw hf hg hx hy
  go_enter Tryz.func109, Tryz.ntmps109
  go_wp2_with fail
  refine (HT1.out _ (HR1.out.below (below3 w _ _ _)) (HR2.out.below (below3 w _ _ _))).mono ?_
  cases p with
  | none =>
    rintro e w1 ⟨rfl, hb⟩
    have HB1 := Lib.hid (show Below (w.heap.size + 1 + 1 + 1) (((w.alloc (.cells #[.int .i64 D, .int .i64 N, .slice a1 xs.length cap1] 26)).alloc (.cells #[.int .i64 D, .int .i64 N, .slice a2 ys.length cap2] 26)).alloc (.cells #[.int .i64 0, .int .i64 0, .slice none 0 0] 26)) w1 from by simpa using hb)
    have hz1 : w.heap.size + 1 + 1 + 1 ≤ w1.heap.size := by have := HB1.out.size; simp at this; omega
    have HA1 := Lib.hid (HB1.out.alloc hz1 (.cells #[.int .i64 0, .int .i64 0, .slice none 0 0] 26))
    have bcx := bcellB HB1.out
    have x0 : w1.cell? ⟨w.heap.size, 0, none⟩ = some (.int .i64 D) := (bcx.1 _ _ (by omega)).trans (by go_simp)
    have x1 : w1.cell? ⟨w.heap.size, 1, none⟩ = some (.int .i64 N) := (bcx.1 _ _ (by omega)).trans (by go_simp)
    have x2 : w1.cell? ⟨w.heap.size, 2, none⟩ = some (.slice a1 xs.length cap1) := (bcx.1 _ _ (by omega)).trans (by go_simp)
    have y0 : w1.cell? ⟨w.heap.size + 1, 0, none⟩ = some (.int .i64 D) := (bcx.1 _ _ (by omega)).trans (by go_simp)
    have y1 : w1.cell? ⟨w.heap.size + 1, 1, none⟩ = some (.int .i64 N) := (bcx.1 _ _ (by omega)).trans (by go_simp)
    have y2 : w1.cell? ⟨w.heap.size + 1, 2, none⟩ = some (.slice a2 ys.length cap2) := (bcx.1 _ _ (by omega)).trans (by go_simp)
    clear bcx
    have hq0 : w.heap.size < w1.heap.size := by omega
    have hq1 : w.heap.size + 1 < w1.heap.size := by omega
    have hq2 : w.heap.size + 1 + 1 < w1.heap.size := by omega
    clear hb
    go_wp2_with fail
    refine (HT2.out _ (HR2.out.below ((below3 w _ _ _).trans (HA1.out.mono (by omega)))) (HR1.out.below ((below3 w _ _ _).trans (HA1.out.mono (by omega))))).mono ?_
    clear x0 x1 x2 y0 y1 y2
    cases q with
    | none =>
      rintro e w2 ⟨rfl, hb2⟩
      have HS2 := Lib.hid (show Below (w1.heap.size + 1) (w1.alloc (.cells #[.int .i64 0, .int .i64 0, .slice none 0 0] 26)) w2 from by simpa using hb2)
      have HB2 := Lib.hid (HA1.out.trans (HS2.out.mono (by omega)))
      have hz2 : w1.heap.size + 1 ≤ w2.heap.size := by have := HS2.out.size; simp at this; omega
      have hq3 : w.heap.size + 1 + 1 < w2.heap.size := by omega
      clear hb2
      have bcr := bcellB HB2.out
      have r0 : w2.cell? ⟨w.heap.size + 1 + 1, 0, none⟩ = some (.int .i64 0) := (bcr.1 _ _ (by omega)).trans (by go_simp)
      have r1 : w2.cell? ⟨w.heap.size + 1 + 1, 1, none⟩ = some (.int .i64 0) := (bcr.1 _ _ (by omega)).trans (by go_simp)
      have r2 : w2.cell? ⟨w.heap.size + 1 + 1, 2, none⟩ = some (.slice none 0 0) := (bcr.1 _ _ (by omega)).trans (by go_simp)
      have z0 : w2.frozen? ⟨w.heap.size + 1 + 1, 0, none⟩ = false := (bcr.2 _ _ (by omega)).trans (by go_simp)
      have z1 : w2.frozen? ⟨w.heap.size + 1 + 1, 1, none⟩ = false := (bcr.2 _ _ (by omega)).trans (by go_simp)
      have z2 : w2.frozen? ⟨w.heap.size + 1 + 1, 2, none⟩ = false := (bcr.2 _ _ (by omega)).trans (by go_simp)
      clear bcr
      have HW9 := Lib.hid ((below3 w _ _ _).trans (HB2.out.mono (by omega)))
      go_wp2_with fail
      rw [HC.out]
      refine bodyPost_ret (v := .tuple #[.agg #[.int .i64 0, .int .i64 0, .slice none 0 0], .bool false]) (by simp [results, Tryz.results109, go_sem, r0, r1, r2, hq3]) rfl ?_
      refine ⟨rfl, ?_⟩
      have hW := HW9.out
      go_grown
    | some q1 =>
      rintro e w2 ⟨a4, c4, rfl, hb2, hN4⟩
      have HS2 := Lib.hid (show Below (w1.heap.size + 1) (w1.alloc (.cells #[.int .i64 0, .int .i64 0, .slice none 0 0] 26)) w2 from by simpa using hb2)
      have HB2 := Lib.hid (HA1.out.trans (HS2.out.mono (by omega)))
      have hz2 : w1.heap.size + 1 ≤ w2.heap.size := by have := HS2.out.size; simp at this; omega
      have hq3 : w.heap.size + 1 + 1 < w2.heap.size := by omega
      clear hb2
      have bcr := bcellB HB2.out
      have r0 : w2.cell? ⟨w.heap.size + 1 + 1, 0, none⟩ = some (.int .i64 0) := (bcr.1 _ _ (by omega)).trans (by go_simp)
      have r1 : w2.cell? ⟨w.heap.size + 1 + 1, 1, none⟩ = some (.int .i64 0) := (bcr.1 _ _ (by omega)).trans (by go_simp)
      have r2 : w2.cell? ⟨w.heap.size + 1 + 1, 2, none⟩ = some (.slice none 0 0) := (bcr.1 _ _ (by omega)).trans (by go_simp)
      have z0 : w2.frozen? ⟨w.heap.size + 1 + 1, 0, none⟩ = false := (bcr.2 _ _ (by omega)).trans (by go_simp)
      have z1 : w2.frozen? ⟨w.heap.size + 1 + 1, 1, none⟩ = false := (bcr.2 _ _ (by omega)).trans (by go_simp)
      have z2 : w2.frozen? ⟨w.heap.size + 1 + 1, 2, none⟩ = false := (bcr.2 _ _ (by omega)).trans (by go_simp)
      clear bcr
      have HW9 := Lib.hid ((below3 w _ _ _).trans (HB2.out.mono (by omega)))
      go_wp2_with fail
      rw [HC.out]
      refine bodyPost_ret (v := .tuple #[.agg #[.int .i64 0, .int .i64 0, .slice none 0 0], .bool false]) (by simp [results, Tryz.results109, go_sem, r0, r1, r2, hq3]) rfl ?_
      refine ⟨rfl, ?_⟩
      have hW := HW9.out
      go_grown
  | some p1 =>
    rintro e w1 ⟨a3, c3, rfl, hb, hN3⟩
    have HN3 := Lib.hid hN3
    have HB1 := Lib.hid (show Below (w.heap.size + 1 + 1 + 1) (((w.alloc (.cells #[.int .i64 D, .int .i64 N, .slice a1 xs.length cap1] 26)).alloc (.cells #[.int .i64 D, .int .i64 N, .slice a2 ys.length cap2] 26)).alloc (.cells #[.int .i64 0, .int .i64 0, .slice none 0 0] 26)) w1 from by simpa using hb)
    have hz1 : w.heap.size + 1 + 1 + 1 ≤ w1.heap.size := by have := HB1.out.size; simp at this; omega
    have HA1 := Lib.hid (HB1.out.alloc hz1 (.cells #[.int .i64 D, .int .i64 N, .slice a3 p1.length c3] 26))
    have bcx := bcellB HB1.out
    have x0 : w1.cell? ⟨w.heap.size, 0, none⟩ = some (.int .i64 D) := (bcx.1 _ _ (by omega)).trans (by go_simp)
    have x1 : w1.cell? ⟨w.heap.size, 1, none⟩ = some (.int .i64 N) := (bcx.1 _ _ (by omega)).trans (by go_simp)
    have x2 : w1.cell? ⟨w.heap.size, 2, none⟩ = some (.slice a1 xs.length cap1) := (bcx.1 _ _ (by omega)).trans (by go_simp)
    have y0 : w1.cell? ⟨w.heap.size + 1, 0, none⟩ = some (.int .i64 D) := (bcx.1 _ _ (by omega)).trans (by go_simp)
    have y1 : w1.cell? ⟨w.heap.size + 1, 1, none⟩ = some (.int .i64 N) := (bcx.1 _ _ (by omega)).trans (by go_simp)
    have y2 : w1.cell? ⟨w.heap.size + 1, 2, none⟩ = some (.slice a2 ys.length cap2) := (bcx.1 _ _ (by omega)).trans (by go_simp)
    clear bcx
    have hq0 : w.heap.size < w1.heap.size := by omega
    have hq1 : w.heap.size + 1 < w1.heap.size := by omega
    have hq2 : w.heap.size + 1 + 1 < w1.heap.size := by omega
    clear hb
    go_wp2_with fail
    refine (HT2.out _ (HR2.out.below ((below3 w _ _ _).trans (HA1.out.mono (by omega)))) (HR1.out.below ((below3 w _ _ _).trans (HA1.out.mono (by omega))))).mono ?_
    clear x0 x1 x2 y0 y1 y2
    cases q with
    | none =>
      rintro e w2 ⟨rfl, hb2⟩
      have HS2 := Lib.hid (show Below (w1.heap.size + 1) (w1.alloc (.cells #[.int .i64 D, .int .i64 N, .slice a3 p1.length c3] 26)) w2 from by simpa using hb2)
      have HB2 := Lib.hid (HA1.out.trans (HS2.out.mono (by omega)))
      have hz2 : w1.heap.size + 1 ≤ w2.heap.size := by have := HS2.out.size; simp at this; omega
      have hq3 : w.heap.size + 1 + 1 < w2.heap.size := by omega
      clear hb2
      have bcr := bcellB HB2.out
      have r0 : w2.cell? ⟨w.heap.size + 1 + 1, 0, none⟩ = some (.int .i64 0) := (bcr.1 _ _ (by omega)).trans (by go_simp)
      have r1 : w2.cell? ⟨w.heap.size + 1 + 1, 1, none⟩ = some (.int .i64 0) := (bcr.1 _ _ (by omega)).trans (by go_simp)
      have r2 : w2.cell? ⟨w.heap.size + 1 + 1, 2, none⟩ = some (.slice none 0 0) := (bcr.1 _ _ (by omega)).trans (by go_simp)
      have z0 : w2.frozen? ⟨w.heap.size + 1 + 1, 0, none⟩ = false := (bcr.2 _ _ (by omega)).trans (by go_simp)
      have z1 : w2.frozen? ⟨w.heap.size + 1 + 1, 1, none⟩ = false := (bcr.2 _ _ (by omega)).trans (by go_simp)
      have z2 : w2.frozen? ⟨w.heap.size + 1 + 1, 2, none⟩ = false := (bcr.2 _ _ (by omega)).trans (by go_simp)
      clear bcr
      have HW9 := Lib.hid ((below3 w _ _ _).trans (HB2.out.mono (by omega)))
      go_wp2_with fail
      rw [HC.out]
      refine bodyPost_ret (v := .tuple #[.agg #[.int .i64 0, .int .i64 0, .slice none 0 0], .bool false]) (by simp [results, Tryz.results109, go_sem, r0, r1, r2, hq3]) rfl ?_
      refine ⟨rfl, ?_⟩
      have hW := HW9.out
      go_grown
    | some q1 =>
      rintro e w2 ⟨a4, c4, rfl, hb2, hN4⟩
      have HS2 := Lib.hid (show Below (w1.heap.size + 1) (w1.alloc (.cells #[.int .i64 D, .int .i64 N, .slice a3 p1.length c3] 26)) w2 from by simpa using hb2)
      have HB2 := Lib.hid (HA1.out.trans (HS2.out.mono (by omega)))
      have hz2 : w1.heap.size + 1 ≤ w2.heap.size := by have := HS2.out.size; simp at this; omega
      have hq3 : w.heap.size + 1 + 1 < w2.heap.size := by omega
      clear hb2
      have HN4 := Lib.hid hN4
      have HP := Lib.hid (HPb.out p1 rfl)
      have HQ := Lib.hid (HQb.out q1 rfl)
      have HCl := Lib.hid (show C = (scaledL (-1) 1 q1).bind fun us => putAll p1 us from HC.out)
      have HBb := Lib.hid (HB2.out.alloc (show w.heap.size + 1 + 1 + 1 ≤ w2.heap.size by omega) (.cells #[.int .i64 D, .int .i64 N, .slice a4 q1.length c4] 26))
      have HN3b := Lib.hid (((HN3.out.below (below1 w1 (.cells #[.int .i64 D, .int .i64 N, .slice a3 p1.length c3] 26)) (Nat.le_refl _)).below HS2.out (by omega)).below (below1 w2 (.cells #[.int .i64 D, .int .i64 N, .slice a4 q1.length c4] 26)) (by omega)).row
      have HN4b := Lib.hid ((HN4.out.below (below1 w2 (.cells #[.int .i64 D, .int .i64 N, .slice a4 q1.length c4] 26)) (Nat.le_refl _))).row
      have HSb := Lib.hid (HS2.out.alloc hz2 (.cells #[.int .i64 D, .int .i64 N, .slice a4 q1.length c4] 26))
      clear hN3 hN4
      go_upto_region 5 with fail
      have e0 : (w2.alloc (.cells #[.int .i64 D, .int .i64 N, .slice a4 q1.length c4] 26)).cell? ⟨w1.heap.size, 0, none⟩ = some (.int .i64 D) := (HSb.out.cell (p := ⟨w1.heap.size, 0, none⟩) (by show w1.heap.size < _; omega)).trans (by go_simp)
      have e1 : (w2.alloc (.cells #[.int .i64 D, .int .i64 N, .slice a4 q1.length c4] 26)).cell? ⟨w1.heap.size, 1, none⟩ = some (.int .i64 N) := (HSb.out.cell (p := ⟨w1.heap.size, 1, none⟩) (by show w1.heap.size < _; omega)).trans (by go_simp)
      have e2 : (w2.alloc (.cells #[.int .i64 D, .int .i64 N, .slice a4 q1.length c4] 26)).cell? ⟨w1.heap.size, 2, none⟩ = some (.slice a3 p1.length c3) := (HSb.out.cell (p := ⟨w1.heap.size, 2, none⟩) (by show w1.heap.size < _; omega)).trans (by go_simp)
      have e3 : (w2.alloc (.cells #[.int .i64 D, .int .i64 N, .slice a4 q1.length c4] 26)).cell? ⟨w2.heap.size, 0, none⟩ = some (.int .i64 D) := by go_simp
      have e4 : (w2.alloc (.cells #[.int .i64 D, .int .i64 N, .slice a4 q1.length c4] 26)).cell? ⟨w2.heap.size, 1, none⟩ = some (.int .i64 N) := by go_simp
      have e5 : (w2.alloc (.cells #[.int .i64 D, .int .i64 N, .slice a4 q1.length c4] 26)).cell? ⟨w2.heap.size, 2, none⟩ = some (.slice a4 q1.length c4) := by go_simp
      have hwz : (w2.alloc (.cells #[.int .i64 D, .int .i64 N, .slice a4 q1.length c4] 26)).heap.size = w2.heap.size + 1 := by simp
      generalize (w2.alloc (.cells #[.int .i64 D, .int .i64 N, .slice a4 q1.length c4] 26)) = wb at *
      have hw1b : w1.heap.size < wb.heap.size := by omega
      have hw2b : w2.heap.size < wb.heap.size := by omega
      have hwrb : w.heap.size + 1 + 1 + 1 ≤ wb.heap.size := by omega
      obtain ⟨r, hr⟩ : ∃ r, ((scaledL (-1) 1 q1).bind fun us => putAll p1 us) = r := ⟨_, rfl⟩
      have HAd := Lib.hid (fun W t1 t2 => l02Add_c D N D N (-1) 1 (by decide) (by decide) a3 a4 c3 c4 p1 q1 HP.out.1 HQ.out.1 HP.out.2 HQ.out.2 W t1 t2)
      rw [hr] at HAd HCl
      clear hr hwz
      cases r with
      | none =>
        go_cut [10, 11] (AddCut wb (.int .i64 0) (.int .i64 0) (.slice none 0 0) false)
        case first =>
          go_region_held3 (fun w' => w'.cell? ⟨w1.heap.size, 0, none⟩ = some (.int .i64 D) ∧ w'.cell? ⟨w1.heap.size, 1, none⟩ = some (.int .i64 N) ∧ w'.cell? ⟨w1.heap.size, 2, none⟩ = some (.slice a3 p1.length c3) ∧ w'.cell? ⟨w2.heap.size, 0, none⟩ = some (.int .i64 D) ∧ w'.cell? ⟨w2.heap.size, 1, none⟩ = some (.int .i64 N) ∧ w'.cell? ⟨w2.heap.size, 2, none⟩ = some (.slice a4 q1.length c4))
            (first | (rw [far_tri hw1b, far_tri hw1b, far_tri hw1b, far_tri hw2b, far_tri hw2b, far_tri hw2b]; exact ⟨g0, g1, g2, g3, g4, g5⟩) | (rw [far_tri (Nat.lt_of_lt_of_le hw1b hba.size), far_tri (Nat.lt_of_lt_of_le hw1b hba.size), far_tri (Nat.lt_of_lt_of_le hw1b hba.size), far_tri (Nat.lt_of_lt_of_le hw2b hba.size), far_tri (Nat.lt_of_lt_of_le hw2b hba.size), far_tri (Nat.lt_of_lt_of_le hw2b hba.size)]; exact ⟨g0, g1, g2, g3, g4, g5⟩) | exact ⟨g0, g1, g2, g3, g4, g5⟩ | exact ⟨f0, f1, f2, f3, f4, f5⟩ | exact ⟨e0, e1, e2, e3, e4, e5⟩ | go_keep)
            (first
            | (go_at_call 134; refine (l02One_c _ wb.drew).mono ?_; rintro e wa ⟨rfl, hb0⟩; have hba : Below wb.heap.size wb wa := ⟨hb0.os, hb0.tape, hb0.output, hb0.size, hb0.block⟩; have f0 := (hba.cell (p := ⟨w1.heap.size, 0, none⟩) (by show w1.heap.size < _; omega)).trans e0; have f1 := (hba.cell (p := ⟨w1.heap.size, 1, none⟩) (by show w1.heap.size < _; omega)).trans e1; have f2 := (hba.cell (p := ⟨w1.heap.size, 2, none⟩) (by show w1.heap.size < _; omega)).trans e2; have f3 := (hba.cell (p := ⟨w2.heap.size, 0, none⟩) (by show w2.heap.size < _; omega)).trans e3; have f4 := (hba.cell (p := ⟨w2.heap.size, 1, none⟩) (by show w2.heap.size < _; omega)).trans e4; have f5 := (hba.cell (p := ⟨w2.heap.size, 2, none⟩) (by show w2.heap.size < _; omega)).trans e5)
            | (go_at_call 68; refine (HAd.out wa (HN3b.out.below hba) (HN4b.out.below hba)).mono ?_; rintro e wd ⟨rfl, hb1⟩; have hbd : Below wb.heap.size wb wd := hba.trans (hb1.mono hba.size); have g0 := (hbd.cell (p := ⟨w1.heap.size, 0, none⟩) (by show w1.heap.size < _; omega)).trans e0; have g1 := (hbd.cell (p := ⟨w1.heap.size, 1, none⟩) (by show w1.heap.size < _; omega)).trans e1; have g2 := (hbd.cell (p := ⟨w1.heap.size, 2, none⟩) (by show w1.heap.size < _; omega)).trans e2; have g3 := (hbd.cell (p := ⟨w2.heap.size, 0, none⟩) (by show w2.heap.size < _; omega)).trans e3; have g4 := (hbd.cell (p := ⟨w2.heap.size, 1, none⟩) (by show w2.heap.size < _; omega)).trans e4; have g5 := (hbd.cell (p := ⟨w2.heap.size, 2, none⟩) (by show w2.heap.size < _; omega)).trans e5; try (have hbw : Below (wb.heap.size + 1) (wb.alloc (.cells #[.int .i64 0, .int .i64 0, .slice none 0 0] 26)) wd := hbv.trans (hb1.mono (by have := hbv.size; simpa using this)); have b0 : wd.cell? ⟨wb.heap.size, 0, none⟩ = some (.int .i64 0) := (hbw.cell (p := ⟨wb.heap.size, 0, none⟩) (by show wb.heap.size < _; simp)).trans (by go_simp); have b1 : wd.cell? ⟨wb.heap.size, 1, none⟩ = some (.int .i64 0) := (hbw.cell (p := ⟨wb.heap.size, 1, none⟩) (by show wb.heap.size < _; simp)).trans (by go_simp); have b2 : wd.cell? ⟨wb.heap.size, 2, none⟩ = some (.slice none 0 0) := (hbw.cell (p := ⟨wb.heap.size, 2, none⟩) (by show wb.heap.size < _; simp)).trans (by go_simp); have q0 : wd.frozen? ⟨wb.heap.size, 0, none⟩ = false := (hbw.frozen (p := ⟨wb.heap.size, 0, none⟩) (by show wb.heap.size < _; simp)).trans (by go_simp); have q1 : wd.frozen? ⟨wb.heap.size, 1, none⟩ = false := (hbw.frozen (p := ⟨wb.heap.size, 1, none⟩) (by show wb.heap.size < _; simp)).trans (by go_simp); have q2 : wd.frozen? ⟨wb.heap.size, 2, none⟩ = false := (hbw.frozen (p := ⟨wb.heap.size, 2, none⟩) (by show wb.heap.size < _; simp)).trans (by go_simp)))
            | (go_at_call 134; refine (l02One_c _ (wb.alloc (.cells #[.int .i64 0, .int .i64 0, .slice none 0 0] 26)).drew).mono ?_; rintro e wa ⟨rfl, hb0⟩; have hbv : Below (wb.heap.size + 1) (wb.alloc (.cells #[.int .i64 0, .int .i64 0, .slice none 0 0] 26)) wa := ⟨hb0.os, hb0.tape, hb0.output, by simpa using hb0.size, fun j hj => hb0.block j (by simpa using hj)⟩; have hba : Below wb.heap.size wb wa := (below1 wb (.cells #[.int .i64 0, .int .i64 0, .slice none 0 0] 26)).trans (hbv.mono (by omega)); have f0 := (hba.cell (p := ⟨w1.heap.size, 0, none⟩) (by show w1.heap.size < _; omega)).trans e0; have f1 := (hba.cell (p := ⟨w1.heap.size, 1, none⟩) (by show w1.heap.size < _; omega)).trans e1; have f2 := (hba.cell (p := ⟨w1.heap.size, 2, none⟩) (by show w1.heap.size < _; omega)).trans e2; have f3 := (hba.cell (p := ⟨w2.heap.size, 0, none⟩) (by show w2.heap.size < _; omega)).trans e3; have f4 := (hba.cell (p := ⟨w2.heap.size, 1, none⟩) (by show w2.heap.size < _; omega)).trans e4; have f5 := (hba.cell (p := ⟨w2.heap.size, 2, none⟩) (by show w2.heap.size < _; omega)).trans e5)
            | (go_at_call 68; refine (HAd.out (wa.alloc (.cells #[.int .i64 0, .int .i64 0, .slice none 0 0] 26)) ((HN3b.out.below hba).below (below1 wa _)) ((HN4b.out.below hba).below (below1 wa _))).mono ?_; rintro e wd ⟨rfl, hb1⟩; have hbw2 : Below (wa.heap.size + 1) (wa.alloc (.cells #[.int .i64 0, .int .i64 0, .slice none 0 0] 26)) wd := (by simpa using hb1); have hbd : Below wb.heap.size wb wd := hba.trans (((below1 wa (.cells #[.int .i64 0, .int .i64 0, .slice none 0 0] 26)).trans (hbw2.mono (by omega))).mono hba.size); have g0 := (hbd.cell (p := ⟨w1.heap.size, 0, none⟩) (by show w1.heap.size < _; omega)).trans e0; have g1 := (hbd.cell (p := ⟨w1.heap.size, 1, none⟩) (by show w1.heap.size < _; omega)).trans e1; have g2 := (hbd.cell (p := ⟨w1.heap.size, 2, none⟩) (by show w1.heap.size < _; omega)).trans e2; have g3 := (hbd.cell (p := ⟨w2.heap.size, 0, none⟩) (by show w2.heap.size < _; omega)).trans e3; have g4 := (hbd.cell (p := ⟨w2.heap.size, 1, none⟩) (by show w2.heap.size < _; omega)).trans e4; have g5 := (hbd.cell (p := ⟨w2.heap.size, 2, none⟩) (by show w2.heap.size < _; omega)).trans e5; have b0 : wd.cell? ⟨wa.heap.size, 0, none⟩ = some (.int .i64 0) := (hbw2.cell (p := ⟨wa.heap.size, 0, none⟩) (by show wa.heap.size < _; simp)).trans (by go_simp); have b1 : wd.cell? ⟨wa.heap.size, 1, none⟩ = some (.int .i64 0) := (hbw2.cell (p := ⟨wa.heap.size, 1, none⟩) (by show wa.heap.size < _; simp)).trans (by go_simp); have b2 : wd.cell? ⟨wa.heap.size, 2, none⟩ = some (.slice none 0 0) := (hbw2.cell (p := ⟨wa.heap.size, 2, none⟩) (by show wa.heap.size < _; simp)).trans (by go_simp); have q0 : wd.frozen? ⟨wa.heap.size, 0, none⟩ = false := (hbw2.frozen (p := ⟨wa.heap.size, 0, none⟩) (by show wa.heap.size < _; simp)).trans (by go_simp); have q1 : wd.frozen? ⟨wa.heap.size, 1, none⟩ = false := (hbw2.frozen (p := ⟨wa.heap.size, 1, none⟩) (by show wa.heap.size < _; simp)).trans (by go_simp); have q2 : wd.frozen? ⟨wa.heap.size, 2, none⟩ = false := (hbw2.frozen (p := ⟨wa.heap.size, 2, none⟩) (by show wa.heap.size < _; simp)).trans (by go_simp)))
          all_goals (go_wp2_with fail; go_meet)
          · exact ⟨wd.heap.size, rfl, rfl, hbd.size, by simp, hbd.alloc hbd.size _, by go_simp, by go_simp, by go_simp⟩
          · have ht := tri_stored (x := (.int .i64 0)) (y := (.int .i64 0)) (z := (.slice none 0 0)) b0 b1 b2
            have hq := hbw2.size
            simp only [World.size_alloc] at hq
            exact ⟨wa.heap.size, rfl, rfl, hba.size, by simp; omega, ((hbd.setCell (p := ⟨wa.heap.size, 0, none⟩) (hba.size) _).setCell (p := ⟨wa.heap.size, 1, none⟩) (hba.size) _).setCell (p := ⟨wa.heap.size, 2, none⟩) (hba.size) _, ht.1, ht.2.1, ht.2.2⟩
          · have ht := tri_stored (x := (.int .i64 0)) (y := (.int .i64 0)) (z := (.slice none 0 0)) b0 b1 b2
            have hq := hbw.size
            have hq5 := hbv.size
            simp only [World.size_alloc] at hq hq5
            exact ⟨wb.heap.size, rfl, rfl, Nat.le_refl _, by simp; omega, ((hbd.setCell (p := ⟨wb.heap.size, 0, none⟩) (Nat.le_refl _) _).setCell (p := ⟨wb.heap.size, 1, none⟩) (Nat.le_refl _) _).setCell (p := ⟨wb.heap.size, 2, none⟩) (Nat.le_refl _) _, ht.1, ht.2.1, ht.2.2⟩
        case rest =>
          obtain ⟨gg, rfl, rfl, hg1, hg2, hbc, m0, m1, m2⟩ := hcut
          obtain ⟨w5, rfl⟩ : ∃ w5 : World, w5 = wc := ⟨_, rfl⟩
          have hz5 := hbc.size
          have HB5 := Lib.hid (HBb.out.trans (hbc.mono (by omega)))
          have bcr := bcellB HB5.out
          have r0 : w5.cell? ⟨w.heap.size + 1 + 1, 0, none⟩ = some (.int .i64 0) := (bcr.1 _ _ (by omega)).trans (by go_simp)
          have r1 : w5.cell? ⟨w.heap.size + 1 + 1, 1, none⟩ = some (.int .i64 0) := (bcr.1 _ _ (by omega)).trans (by go_simp)
          have r2 : w5.cell? ⟨w.heap.size + 1 + 1, 2, none⟩ = some (.slice none 0 0) := (bcr.1 _ _ (by omega)).trans (by go_simp)
          have z0 : w5.frozen? ⟨w.heap.size + 1 + 1, 0, none⟩ = false := (bcr.2 _ _ (by omega)).trans (by go_simp)
          have z1 : w5.frozen? ⟨w.heap.size + 1 + 1, 1, none⟩ = false := (bcr.2 _ _ (by omega)).trans (by go_simp)
          have z2 : w5.frozen? ⟨w.heap.size + 1 + 1, 2, none⟩ = false := (bcr.2 _ _ (by omega)).trans (by go_simp)
          clear bcr
          have HW9 := Lib.hid ((below3 w _ _ _).trans (HB5.out.mono (by omega)))
          clear hbc
          go_wp2_with fail
          rw [HCl.out]
          refine bodyPost_ret (v := .tuple #[.agg #[.int .i64 0, .int .i64 0, .slice none 0 0], .bool false]) (by simp [results, Tryz.results109, go_sem, r0, r1, r2]) rfl ?_
          exact ⟨rfl, ((HW9.out.setCell (p := ⟨w.heap.size + 1 + 1, 0, none⟩) (by show _ ≤ w.heap.size + 1 + 1; omega) _).setCell (p := ⟨w.heap.size + 1 + 1, 1, none⟩) (by show _ ≤ w.heap.size + 1 + 1; omega) _).setCell (p := ⟨w.heap.size + 1 + 1, 2, none⟩) (by show _ ≤ w.heap.size + 1 + 1; omega) _⟩
      | some rs =>
        go_cut [10, 11] (fun v10 v11 wy => ∃ (a5 : Option Addr) (c5 : Nat), AddCut wb (.int .i64 D) (.int .i64 N) (.slice a5 rs.length c5) true v10 v11 wy ∧ NewRow wb.heap.size wy.heap.size wy a5 rs)
        case first =>
          go_region_held3 (fun w' => w'.cell? ⟨w1.heap.size, 0, none⟩ = some (.int .i64 D) ∧ w'.cell? ⟨w1.heap.size, 1, none⟩ = some (.int .i64 N) ∧ w'.cell? ⟨w1.heap.size, 2, none⟩ = some (.slice a3 p1.length c3) ∧ w'.cell? ⟨w2.heap.size, 0, none⟩ = some (.int .i64 D) ∧ w'.cell? ⟨w2.heap.size, 1, none⟩ = some (.int .i64 N) ∧ w'.cell? ⟨w2.heap.size, 2, none⟩ = some (.slice a4 q1.length c4))
            (first | (rw [far_tri hw1b, far_tri hw1b, far_tri hw1b, far_tri hw2b, far_tri hw2b, far_tri hw2b]; exact ⟨g0, g1, g2, g3, g4, g5⟩) | (rw [far_tri (Nat.lt_of_lt_of_le hw1b hba.size), far_tri (Nat.lt_of_lt_of_le hw1b hba.size), far_tri (Nat.lt_of_lt_of_le hw1b hba.size), far_tri (Nat.lt_of_lt_of_le hw2b hba.size), far_tri (Nat.lt_of_lt_of_le hw2b hba.size), far_tri (Nat.lt_of_lt_of_le hw2b hba.size)]; exact ⟨g0, g1, g2, g3, g4, g5⟩) | exact ⟨g0, g1, g2, g3, g4, g5⟩ | exact ⟨f0, f1, f2, f3, f4, f5⟩ | exact ⟨e0, e1, e2, e3, e4, e5⟩ | go_keep)
            (first
            | (go_at_call 134; refine (l02One_c _ wb.drew).mono ?_; rintro e wa ⟨rfl, hb0⟩; have hba : Below wb.heap.size wb wa := ⟨hb0.os, hb0.tape, hb0.output, hb0.size, hb0.block⟩; have f0 := (hba.cell (p := ⟨w1.heap.size, 0, none⟩) (by show w1.heap.size < _; omega)).trans e0; have f1 := (hba.cell (p := ⟨w1.heap.size, 1, none⟩) (by show w1.heap.size < _; omega)).trans e1; have f2 := (hba.cell (p := ⟨w1.heap.size, 2, none⟩) (by show w1.heap.size < _; omega)).trans e2; have f3 := (hba.cell (p := ⟨w2.heap.size, 0, none⟩) (by show w2.heap.size < _; omega)).trans e3; have f4 := (hba.cell (p := ⟨w2.heap.size, 1, none⟩) (by show w2.heap.size < _; omega)).trans e4; have f5 := (hba.cell (p := ⟨w2.heap.size, 2, none⟩) (by show w2.heap.size < _; omega)).trans e5)
            | (go_at_call 68; refine (HAd.out wa (HN3b.out.below hba) (HN4b.out.below hba)).mono ?_; rintro e wd ⟨a5, c5, rfl, hb1, hN5⟩; have hbd : Below wb.heap.size wb wd := hba.trans (hb1.mono hba.size); have g0 := (hbd.cell (p := ⟨w1.heap.size, 0, none⟩) (by show w1.heap.size < _; omega)).trans e0; have g1 := (hbd.cell (p := ⟨w1.heap.size, 1, none⟩) (by show w1.heap.size < _; omega)).trans e1; have g2 := (hbd.cell (p := ⟨w1.heap.size, 2, none⟩) (by show w1.heap.size < _; omega)).trans e2; have g3 := (hbd.cell (p := ⟨w2.heap.size, 0, none⟩) (by show w2.heap.size < _; omega)).trans e3; have g4 := (hbd.cell (p := ⟨w2.heap.size, 1, none⟩) (by show w2.heap.size < _; omega)).trans e4; have g5 := (hbd.cell (p := ⟨w2.heap.size, 2, none⟩) (by show w2.heap.size < _; omega)).trans e5; try (have hbw : Below (wb.heap.size + 1) (wb.alloc (.cells #[.int .i64 0, .int .i64 0, .slice none 0 0] 26)) wd := hbv.trans (hb1.mono (by have := hbv.size; simpa using this)); have b0 : wd.cell? ⟨wb.heap.size, 0, none⟩ = some (.int .i64 0) := (hbw.cell (p := ⟨wb.heap.size, 0, none⟩) (by show wb.heap.size < _; simp)).trans (by go_simp); have b1 : wd.cell? ⟨wb.heap.size, 1, none⟩ = some (.int .i64 0) := (hbw.cell (p := ⟨wb.heap.size, 1, none⟩) (by show wb.heap.size < _; simp)).trans (by go_simp); have b2 : wd.cell? ⟨wb.heap.size, 2, none⟩ = some (.slice none 0 0) := (hbw.cell (p := ⟨wb.heap.size, 2, none⟩) (by show wb.heap.size < _; simp)).trans (by go_simp); have q0 : wd.frozen? ⟨wb.heap.size, 0, none⟩ = false := (hbw.frozen (p := ⟨wb.heap.size, 0, none⟩) (by show wb.heap.size < _; simp)).trans (by go_simp); have q1 : wd.frozen? ⟨wb.heap.size, 1, none⟩ = false := (hbw.frozen (p := ⟨wb.heap.size, 1, none⟩) (by show wb.heap.size < _; simp)).trans (by go_simp); have q2 : wd.frozen? ⟨wb.heap.size, 2, none⟩ = false := (hbw.frozen (p := ⟨wb.heap.size, 2, none⟩) (by show wb.heap.size < _; simp)).trans (by go_simp)))
            | (go_at_call 134; refine (l02One_c _ (wb.alloc (.cells #[.int .i64 0, .int .i64 0, .slice none 0 0] 26)).drew).mono ?_; rintro e wa ⟨rfl, hb0⟩; have hbv : Below (wb.heap.size + 1) (wb.alloc (.cells #[.int .i64 0, .int .i64 0, .slice none 0 0] 26)) wa := ⟨hb0.os, hb0.tape, hb0.output, by simpa using hb0.size, fun j hj => hb0.block j (by simpa using hj)⟩; have hba : Below wb.heap.size wb wa := (below1 wb (.cells #[.int .i64 0, .int .i64 0, .slice none 0 0] 26)).trans (hbv.mono (by omega)); have f0 := (hba.cell (p := ⟨w1.heap.size, 0, none⟩) (by show w1.heap.size < _; omega)).trans e0; have f1 := (hba.cell (p := ⟨w1.heap.size, 1, none⟩) (by show w1.heap.size < _; omega)).trans e1; have f2 := (hba.cell (p := ⟨w1.heap.size, 2, none⟩) (by show w1.heap.size < _; omega)).trans e2; have f3 := (hba.cell (p := ⟨w2.heap.size, 0, none⟩) (by show w2.heap.size < _; omega)).trans e3; have f4 := (hba.cell (p := ⟨w2.heap.size, 1, none⟩) (by show w2.heap.size < _; omega)).trans e4; have f5 := (hba.cell (p := ⟨w2.heap.size, 2, none⟩) (by show w2.heap.size < _; omega)).trans e5)
            | (go_at_call 68; refine (HAd.out (wa.alloc (.cells #[.int .i64 0, .int .i64 0, .slice none 0 0] 26)) ((HN3b.out.below hba).below (below1 wa _)) ((HN4b.out.below hba).below (below1 wa _))).mono ?_; rintro e wd ⟨a5, c5, rfl, hb1, hN5⟩; have hbw2 : Below (wa.heap.size + 1) (wa.alloc (.cells #[.int .i64 0, .int .i64 0, .slice none 0 0] 26)) wd := (by simpa using hb1); have hbd : Below wb.heap.size wb wd := hba.trans (((below1 wa (.cells #[.int .i64 0, .int .i64 0, .slice none 0 0] 26)).trans (hbw2.mono (by omega))).mono hba.size); have g0 := (hbd.cell (p := ⟨w1.heap.size, 0, none⟩) (by show w1.heap.size < _; omega)).trans e0; have g1 := (hbd.cell (p := ⟨w1.heap.size, 1, none⟩) (by show w1.heap.size < _; omega)).trans e1; have g2 := (hbd.cell (p := ⟨w1.heap.size, 2, none⟩) (by show w1.heap.size < _; omega)).trans e2; have g3 := (hbd.cell (p := ⟨w2.heap.size, 0, none⟩) (by show w2.heap.size < _; omega)).trans e3; have g4 := (hbd.cell (p := ⟨w2.heap.size, 1, none⟩) (by show w2.heap.size < _; omega)).trans e4; have g5 := (hbd.cell (p := ⟨w2.heap.size, 2, none⟩) (by show w2.heap.size < _; omega)).trans e5; have b0 : wd.cell? ⟨wa.heap.size, 0, none⟩ = some (.int .i64 0) := (hbw2.cell (p := ⟨wa.heap.size, 0, none⟩) (by show wa.heap.size < _; simp)).trans (by go_simp); have b1 : wd.cell? ⟨wa.heap.size, 1, none⟩ = some (.int .i64 0) := (hbw2.cell (p := ⟨wa.heap.size, 1, none⟩) (by show wa.heap.size < _; simp)).trans (by go_simp); have b2 : wd.cell? ⟨wa.heap.size, 2, none⟩ = some (.slice none 0 0) := (hbw2.cell (p := ⟨wa.heap.size, 2, none⟩) (by show wa.heap.size < _; simp)).trans (by go_simp); have q0 : wd.frozen? ⟨wa.heap.size, 0, none⟩ = false := (hbw2.frozen (p := ⟨wa.heap.size, 0, none⟩) (by show wa.heap.size < _; simp)).trans (by go_simp); have q1 : wd.frozen? ⟨wa.heap.size, 1, none⟩ = false := (hbw2.frozen (p := ⟨wa.heap.size, 1, none⟩) (by show wa.heap.size < _; simp)).trans (by go_simp); have q2 : wd.frozen? ⟨wa.heap.size, 2, none⟩ = false := (hbw2.frozen (p := ⟨wa.heap.size, 2, none⟩) (by show wa.heap.size < _; simp)).trans (by go_simp)))
          all_goals (go_wp2_with fail; go_meet)
          · exact ⟨a5, c5, ⟨wd.heap.size, rfl, rfl, hbd.size, by simp, hbd.alloc hbd.size _, by go_simp, by go_simp, by go_simp⟩, (hN5.below (below1 wd _) (Nat.le_refl _)).mono hba.size (by simp)⟩
          · have ht := tri_stored (x := (.int .i64 D)) (y := (.int .i64 N)) (z := (.slice a5 rs.length c5)) b0 b1 b2
            have hq := hbw2.size
            simp only [World.size_alloc] at hq
            exact ⟨a5, c5, ⟨wa.heap.size, rfl, rfl, hba.size, by simp; omega, ((hbd.setCell (p := ⟨wa.heap.size, 0, none⟩) (hba.size) _).setCell (p := ⟨wa.heap.size, 1, none⟩) (hba.size) _).setCell (p := ⟨wa.heap.size, 2, none⟩) (hba.size) _, ht.1, ht.2.1, ht.2.2⟩, (hN5.far3u (by simp)).mono (by have := hba.size; simp; omega) (by simp)⟩
          · have ht := tri_stored (x := (.int .i64 D)) (y := (.int .i64 N)) (z := (.slice a5 rs.length c5)) b0 b1 b2
            have hq := hbw.size
            have hq5 := hbv.size
            simp only [World.size_alloc] at hq hq5
            exact ⟨a5, c5, ⟨wb.heap.size, rfl, rfl, Nat.le_refl _, by simp; omega, ((hbd.setCell (p := ⟨wb.heap.size, 0, none⟩) (Nat.le_refl _) _).setCell (p := ⟨wb.heap.size, 1, none⟩) (Nat.le_refl _) _).setCell (p := ⟨wb.heap.size, 2, none⟩) (Nat.le_refl _) _, ht.1, ht.2.1, ht.2.2⟩, (hN5.far3u (by omega)).mono hba.size (by simp)⟩
        case rest =>
          obtain ⟨a5, c5, ⟨gg, rfl, rfl, hg1, hg2, hbc, m0, m1, m2⟩, hN5⟩ := hcut
          obtain ⟨w5, rfl⟩ : ∃ w5 : World, w5 = wc := ⟨_, rfl⟩
          have hz5 := hbc.size
          have HB5 := Lib.hid (HBb.out.trans (hbc.mono (by omega)))
          have HN5 := Lib.hid hN5
          have bcr := bcellB HB5.out
          have r0 : w5.cell? ⟨w.heap.size + 1 + 1, 0, none⟩ = some (.int .i64 0) := (bcr.1 _ _ (by omega)).trans (by go_simp)
          have r1 : w5.cell? ⟨w.heap.size + 1 + 1, 1, none⟩ = some (.int .i64 0) := (bcr.1 _ _ (by omega)).trans (by go_simp)
          have r2 : w5.cell? ⟨w.heap.size + 1 + 1, 2, none⟩ = some (.slice none 0 0) := (bcr.1 _ _ (by omega)).trans (by go_simp)
          have z0 : w5.frozen? ⟨w.heap.size + 1 + 1, 0, none⟩ = false := (bcr.2 _ _ (by omega)).trans (by go_simp)
          have z1 : w5.frozen? ⟨w.heap.size + 1 + 1, 1, none⟩ = false := (bcr.2 _ _ (by omega)).trans (by go_simp)
          have z2 : w5.frozen? ⟨w.heap.size + 1 + 1, 2, none⟩ = false := (bcr.2 _ _ (by omega)).trans (by go_simp)
          clear bcr
          have HW9 := Lib.hid ((below3 w _ _ _).trans (HB5.out.mono (by omega)))
          clear hbc hN5
          go_wp2_with fail
          rw [HCl.out]
          refine bodyPost_ret (v := .tuple #[.agg #[.int .i64 D, .int .i64 N, .slice a5 rs.length c5], .bool true]) (by simp [results, Tryz.results109, go_sem, r0, r1, r2]) rfl ?_
          exact ⟨a5, c5, rfl, ((HW9.out.setCell (p := ⟨w.heap.size + 1 + 1, 0, none⟩) (by show _ ≤ w.heap.size + 1 + 1; omega) _).setCell (p := ⟨w.heap.size + 1 + 1, 1, none⟩) (by show _ ≤ w.heap.size + 1 + 1; omega) _).setCell (p := ⟨w.heap.size + 1 + 1, 2, none⟩) (by show _ ≤ w.heap.size + 1 + 1; omega) _, (HN5.out.far3u (by omega)).mono (by omega) (by simp)⟩
end Go.Proofs.YtgcjpenlcokgjaaGreatDoor

namespace Go.Proofs.YtgcjpenlcokgjaaGreatDoor
open Go.RowKit

/-- what a product comes to, with the count of its map's room -/
def FewPost (r : Option VF) (m : Nat) (W : World) (e : Ending) (w' : World) : Prop :=
  match r with
  | none => e = .panicked [misP 3] ∧ Below W.heap.size W w'
  | some h => ∃ b n, e = .returned (.map (some b)) ∧ W.heap.size ≤ b ∧ Below W.heap.size W w' ∧ n ≤ m ∧ MapV w' b n h
theorem dead_add {f : FuncId} {args : Array Value} {w : World} {b n : Nat} {R : Ending → World → Prop} (h : Calls Tryz.prog f args w (AddPost none b n w)) (hp : ∀ w', w.grownBy w' (some b) → R (.panicked [misP 3]) w') (_h : Hid False → R (.returned (.tuple #[])) w) : Calls Tryz.prog f args w R := by
  refine h.mono ?_
  rintro e w' ⟨rfl, hb⟩
  exact hp w' hb
set_option maxRecDepth 100000 in
set_option maxHeartbeats 4000000 in
theorem productFew_c (L V : Int) (a : Option Addr) (cap : Nat) (ws : List ByteArray) (hl : ws.length ≤ 1048575) (hs : ∀ s ∈ ws, s.size ≤ 1000) (f g : VF) (hf : ∀ s p, f s = some p → isF p.1 p.2 = true) (hg : ∀ s p, g s = some p → isF p.1 p.2 = true) (b1 n1 b2 n2 : Nat) (w : World) (hr : SRow w a ws) (m1 : MapV w b1 n1 f) (m2 : MapV w b2 n2 g) :
    Calls Tryz.prog 105 #[.agg #[.int .i64 L, .int .i64 V, .slice a ws.length cap], .map (some b1), .map (some b2)] w (FewPost (prodV f g ws) ws.length w) := by
  have hmm := @run_makeMap Tryz.prog
  have HR := Lib.hid hr
  have HS := Lib.hid hs
  have HF1 := Lib.hid hf
  have HF2 := Lib.hid hg
  have HM1 := Lib.hid m1
  have HM2 := Lib.hid m2
  have hb1 := m1.lt
  have hb2 := m2.lt
  clear hr hs hf hg m1 m2
  go_enter Tryz.func105, Tryz.ntmps105
  go_wp2_with fail
  clear hmm
  go_loopw [14] (fun vi wr => ∃ (k : Nat), k ≤ ws.length ∧ vi = .int .i64 k ∧ prodOk f g (ws.take k) = true ∧ Below w.heap.size w wr ∧ MapV wr (w.heap.size + 1) k (onL (ws.take k) (prodF f g))) (fun vi _ => ws.length - (intOf vi).toNat)
  case atStart => exact ⟨0, Nat.zero_le _, rfl, rfl, below2 _ _ _, by
    have h := MapV.made (w.alloc (.cells #[.int .i64 L, .int .i64 V, .slice a ws.length cap] 64))
    rw [World.size_alloc] at h
    exact h.congr (fun s => rfl)⟩
  case round =>
    obtain ⟨k, hk, rfl, hP, hB, hM⟩ := hrel
    have HP := Lib.hid hP
    have HB := Lib.hid hB
    have HM := Lib.hid hM
    have hzm := hM.lt
    clear hP hB hM
    by_cases hlt : k < ws.length
    · rcases HR.out with h | ⟨b0, off, rfl, hb0, ht⟩
      · rw [h] at hlt; simp at hlt
      have c0 := ht.below HB.out hb0 k hlt
      have hsz := HS.out _ (List.getElem_mem hlt)
      have HO := Lib.hid (onL_snoc hlt (prodF f g))
      have HPs := Lib.hid (prodOk_snoc (f := f) (g := g) hlt)
      have HNo := Lib.hid (fun h => prodV_none (prodOk_no (f := f) (g := g) (List.getElem_mem hlt) h))
      obtain ⟨s, hse⟩ : ∃ s, ws[k] = s := ⟨_, rfl⟩
      rw [hse] at c0 hsz HO HPs HNo
      have hsm : s.size ≤ maxLen := by unfold maxLen; omega
      clear hse ht
      go_wp2_with fail
      refine (productAt_c f g HF1.out HF2.out b1 n1 b2 n2 s hsz _ (HM1.out.below HB.out hb1) (HM2.out.below HB.out hb2)).mono ?_
      cases hpa : prodAt f g s with
      | none =>
        rintro e w1 ⟨rfl, hb⟩
        have HW := Lib.hid (HB.out.trans (hb.mono HB.out.size))
        clear hb
        go_wp2
        rw [HNo.out hpa]
        exact ⟨rfl, rfl, HW.out⟩
      | some p =>
        obtain ⟨x, d⟩ := p
        have HPF := Lib.hid (prodF_some hpa)
        have hF : isF x d = true := cutsUp_isF hpa
        have HPA := Lib.hid hpa
        rintro e w1 ⟨rfl, hb⟩
        have HW := Lib.hid (HB.out.trans (hb.mono HB.out.size))
        have HMw := Lib.hid (HM.out.below hb hzm)
        clear hb hpa c0
        simp only
        go_wp2_with fail
        refine (put_c (w.heap.size + 1) k (onL (ws.take k) (prodF f g)) s x d hF (by omega) hsm _ HMw.out).mono ?_
        rintro e w2 ⟨rfl, hM2, hG2⟩
        have HM2' := Lib.hid (show MapV w2 (w.heap.size + 1) (k + 1) (onL (ws.take (k + 1)) (prodF f g)) from by rw [HO.out, HPF.out]; exact hM2)
        have HB2 := Lib.hid (HW.out.trans (below_of_grown (B := w.heap.size) hG2 (fun g h => by cases h; omega) HW.out.size))
        have HP2 := Lib.hid (show prodOk f g (ws.take (k + 1)) = true from by rw [HPs.out, HP.out, HPA.out]; rfl)
        clear hM2 hG2
        go_wp2
        go_roundw
        case rel => exact ⟨k + 1, by omega, by go_num, HP2.out, HB2.out, HM2'.out⟩
        case measure => simp [intOf]; omega
    · obtain rfl : k = ws.length := by omega
      have hP := HP.out
      have hM := HM.out
      rw [List.take_length] at hP hM
      have HV := Lib.hid (prodV_some hP)
      have HMf := Lib.hid hM
      clear hP hM
      go_wp2
      rw [HV.out]
      go_ret
      exact ⟨w.heap.size + 1, ws.length, rfl, Nat.le_succ _, HB.out, Nat.le_refl _, HMf.out⟩

set_option maxRecDepth 100000 in
set_option maxHeartbeats 4000000 in
theorem commutator_1 (L V : Int) (a : Option Addr) (cap : Nat) (ws : List ByteArray) (hl : ws.length ≤ 100000) (hs : ∀ s ∈ ws, s.size ≤ 1000) (f g : VF) (hf : ∀ s p, f s = some p → isF p.1 p.2 = true) (hg : ∀ s p, g s = some p → isF p.1 p.2 = true) (b1 n1 b2 n2 : Nat) (h1 : prodV f g ws = none) (w : World) (hr : SRow w a ws) (hA : ∀ p, a = some p → p.block < w.heap.size) (m1 : MapV w b1 n1 f) (m2 : MapV w b2 n2 g) :
    Calls Tryz.prog 118 #[.agg #[.int .i64 L, .int .i64 V, .slice a ws.length cap], .map (some b1), .map (some b2)] w (WorkPost (commV f g ws) w) := by
  have HC := Lib.hid (show commV f g ws = none by unfold commV; rw [h1]; rfl)
  have H1 := Lib.hid h1
  have HR := Lib.hid hr
  have HS := Lib.hid hs
  have HF1 := Lib.hid hf
  have HF2 := Lib.hid hg
  have HM1 := Lib.hid m1
  have HM2 := Lib.hid m2
  have HA := Lib.hid hA
  have hb1 := m1.lt
  have hb2 := m2.lt
  clear hr hs hf hg m1 m2 hA h1
  go_enter Tryz.func118, Tryz.ntmps118
  go_wp2_with fail
  refine (productFew_c L V a cap ws (by omega) HS.out f g HF1.out HF2.out b1 n1 b2 n2 _ (HR.out.below (below1 w _) (Nat.le_refl _)) (HM1.out.alloc _) (HM2.out.alloc _)).mono ?_
  rw [H1.out]
  rintro e w1 ⟨rfl, hb⟩
  have HW := Lib.hid ((below1 w (.cells #[.int .i64 L, .int .i64 V, .slice a ws.length cap] 64)).trans (hb.mono (by simp)))
  clear hb
  go_wp2
  rw [HC.out]
  exact ⟨rfl, rfl, HW.out⟩
set_option maxRecDepth 100000 in
set_option maxHeartbeats 4000000 in
theorem commutator_2 (L V : Int) (a : Option Addr) (cap : Nat) (ws : List ByteArray) (hl : ws.length ≤ 100000) (hs : ∀ s ∈ ws, s.size ≤ 1000) (f g : VF) (hf : ∀ s p, f s = some p → isF p.1 p.2 = true) (hg : ∀ s p, g s = some p → isF p.1 p.2 = true) (b1 n1 b2 n2 : Nat) (p1 : VF) (h1 : prodV f g ws = some p1) (h2 : prodV g f ws = none) (w : World) (hr : SRow w a ws) (hA : ∀ p, a = some p → p.block < w.heap.size) (m1 : MapV w b1 n1 f) (m2 : MapV w b2 n2 g) :
    Calls Tryz.prog 118 #[.agg #[.int .i64 L, .int .i64 V, .slice a ws.length cap], .map (some b1), .map (some b2)] w (WorkPost (commV f g ws) w) := by
  have HC := Lib.hid (show commV f g ws = none by unfold commV; rw [h1, h2]; rfl)
  have H1 := Lib.hid h1
  have H2 := Lib.hid h2
  have HR := Lib.hid hr
  have HS := Lib.hid hs
  have HF1 := Lib.hid hf
  have HF2 := Lib.hid hg
  have HM1 := Lib.hid m1
  have HM2 := Lib.hid m2
  have HA := Lib.hid hA
  have hb1 := m1.lt
  have hb2 := m2.lt
  clear hr hs hf hg m1 m2 hA h1 h2
  go_enter Tryz.func118, Tryz.ntmps118
  go_wp2_with fail
  refine (productFew_c L V a cap ws (by omega) HS.out f g HF1.out HF2.out b1 n1 b2 n2 _ (HR.out.below (below1 w _) (Nat.le_refl _)) (HM1.out.alloc _) (HM2.out.alloc _)).mono ?_
  rw [H1.out]
  rintro e w1 ⟨mm, nn, rfl, hm, hb, hn, hM'⟩
  have hmw : w.heap.size + 1 ≤ mm := by simpa using hm
  have hbx : Below (w.heap.size + 1) (w.alloc (.cells #[.int .i64 L, .int .i64 V, .slice a ws.length cap] 64)) w1 := by simpa using hb
  have hM := Lib.hid hM'
  have hlm := hM'.lt
  have HW := Lib.hid ((below1 w (.cells #[.int .i64 L, .int .i64 V, .slice a ws.length cap] 64)).trans (hbx.mono (by omega)))
  have KS := Lib.hid (show ∀ w', Below w1.heap.size w1 w' → (w'.cell? ⟨w.heap.size, 0, none⟩ = some (.int .i64 L) ∧ w'.cell? ⟨w.heap.size, 1, none⟩ = some (.int .i64 V) ∧ w'.cell? ⟨w.heap.size, 2, none⟩ = some (.slice a ws.length cap)) from fun w' hw => ⟨(hw.cell (p := ⟨w.heap.size, 0, none⟩) (by show w.heap.size < _; omega)).trans ((hbx.cell (p := ⟨w.heap.size, 0, none⟩) (by show w.heap.size < _; omega)).trans (by go_simp)), (hw.cell (p := ⟨w.heap.size, 1, none⟩) (by show w.heap.size < _; omega)).trans ((hbx.cell (p := ⟨w.heap.size, 1, none⟩) (by show w.heap.size < _; omega)).trans (by go_simp)), (hw.cell (p := ⟨w.heap.size, 2, none⟩) (by show w.heap.size < _; omega)).trans ((hbx.cell (p := ⟨w.heap.size, 2, none⟩) (by show w.heap.size < _; omega)).trans (by go_simp))⟩)
  have HR1 := Lib.hid (HR.out.below HW.out (Nat.le_refl _))
  have HM1a := Lib.hid (HM1.out.below HW.out hb1)
  have HM2a := Lib.hid (HM2.out.below HW.out hb2)
  have hl1 := HM1a.out.lt
  have hl2 := HM2a.out.lt
  have hwm : w.heap.size ≠ mm := by omega
  have e0 := (KS.out w1 (Below.refl _ _)).1
  have e1 := (KS.out w1 (Below.refl _ _)).2.1
  have e2 := (KS.out w1 (Below.refl _ _)).2.2
  clear hm hb hM' hbx hb1 hb2
  go_upto_region 2 with fail
  go_region_held2 (fun w' => w'.cell? ⟨w.heap.size, 0, none⟩ = some (.int .i64 L) ∧ w'.cell? ⟨w.heap.size, 1, none⟩ = some (.int .i64 V) ∧ w'.cell? ⟨w.heap.size, 2, none⟩ = some (.slice a ws.length cap))
    (first | (exact KS.out _ (Below.drew (Below.refl _ _))) | (exact KS.out _ hbz) | (exact KS.out _ hb2) | (exact KS.out _ hb5) | fail)
    (first
      | (go_at_call 105; have hPr := product_c L V a cap ws (by omega) HS.out g f HF2.out HF1.out b2 n2 b1 n1 w1.drew (show SRow w1.drew a ws from HR1.out) (show MapV w1.drew b2 n2 g from HM2a.out) (show MapV w1.drew b1 n1 f from HM1a.out); rw [H2.out] at hPr; refine dead_of (.map none) hPr (fun w3 hb3 => ⟨rfl, by rw [HC.out]; exact ⟨rfl, HW.out.trans (Below.mono (show Below w1.heap.size w1 w3 from ⟨hb3.os, hb3.tape, hb3.output, hb3.size, hb3.block⟩) HW.out.size)⟩⟩) ?_; intro hF)
      | (go_at_call 117; refine (wholeFraction_c _ w1.drew).mono ?_; rintro e w2 ⟨rfl, hb0⟩; have hb2 : Below w1.heap.size w1 w2 := ⟨hb0.os, hb0.tape, hb0.output, hb0.size, hb0.block⟩)
      | (go_at_call 105; have hPr := product_c L V a cap ws (by omega) HS.out g f HF2.out HF1.out b2 n2 b1 n1 w2 (HR1.out.below hb2 (Nat.le_refl _)) (HM2a.out.below hb2 hl2) (HM1a.out.below hb2 hl1); rw [H2.out] at hPr; refine dead_of (.map none) hPr (fun w3 hb3 => ⟨rfl, by rw [HC.out]; exact ⟨rfl, HW.out.trans ((hb2.trans (hb3.mono hb2.size)).mono HW.out.size)⟩⟩) ?_; intro hF)
      | (go_at_call 117; refine dead_call hF (.agg #[.int .i64 (-1), .int .i64 1]) ?_)
      | (go_at_call 42; refine dead_call hF (.tuple #[]) ?_)
      | fail)
  all_goals exact hF.out.elim
set_option maxRecDepth 100000 in
set_option maxHeartbeats 4000000 in
theorem commutator_3 (L V : Int) (a : Option Addr) (cap : Nat) (ws : List ByteArray) (hl : ws.length ≤ 100000) (hs : ∀ s ∈ ws, s.size ≤ 1000) (f g : VF) (hf : ∀ s p, f s = some p → isF p.1 p.2 = true) (hg : ∀ s p, g s = some p → isF p.1 p.2 = true) (b1 n1 b2 n2 : Nat) (p1 p2 : VF) (h1 : prodV f g ws = some p1) (h2 : prodV g f ws = some p2) (h3 : addK p2 (-1) 1 ws p1 = none) (w : World) (hr : SRow w a ws) (hA : ∀ p, a = some p → p.block < w.heap.size) (m1 : MapV w b1 n1 f) (m2 : MapV w b2 n2 g) :
    Calls Tryz.prog 118 #[.agg #[.int .i64 L, .int .i64 V, .slice a ws.length cap], .map (some b1), .map (some b2)] w (WorkPost (commV f g ws) w) := by
  have HC := Lib.hid (show commV f g ws = none by unfold commV; rw [h1, h2]; exact h3)
  have H1 := Lib.hid h1
  have H2 := Lib.hid h2
  have HK := Lib.hid h3
  have HG1 := Lib.hid (GoodV.prodV h1)
  have HG2 := Lib.hid (show ∀ s p, p2 s = some p → isF p.1 p.2 = true from fun s p e => ((GoodV.prodV h2) s p e).2.1)
  have HR := Lib.hid hr
  have HS := Lib.hid hs
  have HF1 := Lib.hid hf
  have HF2 := Lib.hid hg
  have HM1 := Lib.hid m1
  have HM2 := Lib.hid m2
  have HA := Lib.hid hA
  have hb1 := m1.lt
  have hb2 := m2.lt
  clear hr hs hf hg m1 m2 hA h1 h2 h3
  go_enter Tryz.func118, Tryz.ntmps118
  go_wp2_with fail
  refine (productFew_c L V a cap ws (by omega) HS.out f g HF1.out HF2.out b1 n1 b2 n2 _ (HR.out.below (below1 w _) (Nat.le_refl _)) (HM1.out.alloc _) (HM2.out.alloc _)).mono ?_
  rw [H1.out]
  rintro e w1 ⟨mm, nn, rfl, hm, hb, hn, hM'⟩
  have hmw : w.heap.size + 1 ≤ mm := by simpa using hm
  have hbx : Below (w.heap.size + 1) (w.alloc (.cells #[.int .i64 L, .int .i64 V, .slice a ws.length cap] 64)) w1 := by simpa using hb
  have hM := Lib.hid hM'
  have hlm := hM'.lt
  have HW := Lib.hid ((below1 w (.cells #[.int .i64 L, .int .i64 V, .slice a ws.length cap] 64)).trans (hbx.mono (by omega)))
  have KS := Lib.hid (show ∀ w', Below w1.heap.size w1 w' → (w'.cell? ⟨w.heap.size, 0, none⟩ = some (.int .i64 L) ∧ w'.cell? ⟨w.heap.size, 1, none⟩ = some (.int .i64 V) ∧ w'.cell? ⟨w.heap.size, 2, none⟩ = some (.slice a ws.length cap)) from fun w' hw => ⟨(hw.cell (p := ⟨w.heap.size, 0, none⟩) (by show w.heap.size < _; omega)).trans ((hbx.cell (p := ⟨w.heap.size, 0, none⟩) (by show w.heap.size < _; omega)).trans (by go_simp)), (hw.cell (p := ⟨w.heap.size, 1, none⟩) (by show w.heap.size < _; omega)).trans ((hbx.cell (p := ⟨w.heap.size, 1, none⟩) (by show w.heap.size < _; omega)).trans (by go_simp)), (hw.cell (p := ⟨w.heap.size, 2, none⟩) (by show w.heap.size < _; omega)).trans ((hbx.cell (p := ⟨w.heap.size, 2, none⟩) (by show w.heap.size < _; omega)).trans (by go_simp))⟩)
  have HR1 := Lib.hid (HR.out.below HW.out (Nat.le_refl _))
  have HM1a := Lib.hid (HM1.out.below HW.out hb1)
  have HM2a := Lib.hid (HM2.out.below HW.out hb2)
  have hl1 := HM1a.out.lt
  have hl2 := HM2a.out.lt
  have hwm : w.heap.size ≠ mm := by omega
  have e0 := (KS.out w1 (Below.refl _ _)).1
  have e1 := (KS.out w1 (Below.refl _ _)).2.1
  have e2 := (KS.out w1 (Below.refl _ _)).2.2
  clear hm hb hM' hbx hb1 hb2
  go_upto_region 2 with fail
  go_region_held2 (fun w' => w'.cell? ⟨w.heap.size, 0, none⟩ = some (.int .i64 L) ∧ w'.cell? ⟨w.heap.size, 1, none⟩ = some (.int .i64 V) ∧ w'.cell? ⟨w.heap.size, 2, none⟩ = some (.slice a ws.length cap))
    (first | (exact KS.out _ (Below.drew (Below.refl _ _))) | (exact KS.out _ hbz) | (exact KS.out _ hb2) | (exact KS.out _ hb5) | fail)
    (first
      | (go_at_call 105; have hPr := productFew_c L V a cap ws (by omega) HS.out g f HF2.out HF1.out b2 n2 b1 n1 w1.drew (show SRow w1.drew a ws from HR1.out) (show MapV w1.drew b2 n2 g from HM2a.out) (show MapV w1.drew b1 n1 f from HM1a.out); rw [H2.out] at hPr; (with_reducible refine hPr.mono ?_); rintro e w2 ⟨m2, k2, rfl, hm2, hb2', hn2, hM2⟩; have hb2 : Below w1.heap.size w1 w2 := ⟨hb2'.os, hb2'.tape, hb2'.output, hb2'.size, hb2'.block⟩; have hm2' : w1.heap.size ≤ m2 := hm2)
      | (go_at_call 117; refine (wholeFraction_c _ w1.drew).mono ?_; rintro e w2 ⟨rfl, hb0⟩; have hb2 : Below w1.heap.size w1 w2 := ⟨hb0.os, hb0.tape, hb0.output, hb0.size, hb0.block⟩)
      | (go_at_call 117; refine (wholeFraction_c _ w2).mono ?_; rintro e wz ⟨rfl, hb0⟩; have hbz := hb2.trans (hb0.mono hb2.size); have hMz := hM2.below hb0 hM2.lt)
      | (go_at_call 105; have hPr := productFew_c L V a cap ws (by omega) HS.out g f HF2.out HF1.out b2 n2 b1 n1 w2 (HR1.out.below hb2 (Nat.le_refl _)) (HM2a.out.below hb2 hl2) (HM1a.out.below hb2 hl1); rw [H2.out] at hPr; (with_reducible refine hPr.mono ?_); rintro e wz ⟨m2, k2, rfl, hm2, hb2', hn2, hMz⟩; have hbz := hb2.trans (hb2'.mono hb2.size); have hm2' : w1.heap.size ≤ m2 := Nat.le_trans hb2.size hm2)
      | (go_at_call 42; have hAd := addMultiple_c L V a cap ws hl HS.out p1 p2 HG1.out HG2.out (-1) 1 (by decide) mm nn m2 _ (by omega) (show m2 ≠ mm by omega) wz (HR1.out.below hbz (Nat.le_refl _)) (fun p e => by have := HA.out p e; omega) (hM.out.below hbz hlm) hMz; rw [HK.out] at hAd; refine dead_add hAd (fun w3 hb3 => ⟨rfl, by rw [HC.out]; exact ⟨rfl, HW.out.trans ((hbz.mono HW.out.size).trans (below_of_grown hb3 (fun g e => by injection e with e; omega) (Nat.le_trans HW.out.size hbz.size)))⟩⟩) ?_; intro hF)
      | fail)
  all_goals exact hF.out.elim
set_option maxRecDepth 100000 in
set_option maxHeartbeats 4000000 in
theorem commutator_4 (L V : Int) (a : Option Addr) (cap : Nat) (ws : List ByteArray) (hl : ws.length ≤ 100000) (hs : ∀ s ∈ ws, s.size ≤ 1000) (f g : VF) (hf : ∀ s p, f s = some p → isF p.1 p.2 = true) (hg : ∀ s p, g s = some p → isF p.1 p.2 = true) (b1 n1 b2 n2 : Nat) (p1 p2 h : VF) (h1 : prodV f g ws = some p1) (h2 : prodV g f ws = some p2) (h3 : addK p2 (-1) 1 ws p1 = some h) (w : World) (hr : SRow w a ws) (hA : ∀ p, a = some p → p.block < w.heap.size) (m1 : MapV w b1 n1 f) (m2 : MapV w b2 n2 g) :
    Calls Tryz.prog 118 #[.agg #[.int .i64 L, .int .i64 V, .slice a ws.length cap], .map (some b1), .map (some b2)] w (WorkPost (commV f g ws) w) := by
  have HC := Lib.hid (show commV f g ws = some h by unfold commV; rw [h1, h2]; exact h3)
  have H1 := Lib.hid h1
  have H2 := Lib.hid h2
  have HK := Lib.hid h3
  have HG1 := Lib.hid (GoodV.prodV h1)
  have HG2 := Lib.hid (show ∀ s p, p2 s = some p → isF p.1 p.2 = true from fun s p e => ((GoodV.prodV h2) s p e).2.1)
  have HR := Lib.hid hr
  have HS := Lib.hid hs
  have HF1 := Lib.hid hf
  have HF2 := Lib.hid hg
  have HM1 := Lib.hid m1
  have HM2 := Lib.hid m2
  have HA := Lib.hid hA
  have hb1 := m1.lt
  have hb2 := m2.lt
  clear hr hs hf hg m1 m2 hA h1 h2 h3
  go_enter Tryz.func118, Tryz.ntmps118
  go_wp2_with fail
  refine (productFew_c L V a cap ws (by omega) HS.out f g HF1.out HF2.out b1 n1 b2 n2 _ (HR.out.below (below1 w _) (Nat.le_refl _)) (HM1.out.alloc _) (HM2.out.alloc _)).mono ?_
  rw [H1.out]
  rintro e w1 ⟨mm, nn, rfl, hm, hb, hn, hM'⟩
  have hmw : w.heap.size + 1 ≤ mm := by simpa using hm
  have hbx : Below (w.heap.size + 1) (w.alloc (.cells #[.int .i64 L, .int .i64 V, .slice a ws.length cap] 64)) w1 := by simpa using hb
  have hM := Lib.hid hM'
  have hlm := hM'.lt
  have HW := Lib.hid ((below1 w (.cells #[.int .i64 L, .int .i64 V, .slice a ws.length cap] 64)).trans (hbx.mono (by omega)))
  have KS := Lib.hid (show ∀ w', Below w1.heap.size w1 w' → (w'.cell? ⟨w.heap.size, 0, none⟩ = some (.int .i64 L) ∧ w'.cell? ⟨w.heap.size, 1, none⟩ = some (.int .i64 V) ∧ w'.cell? ⟨w.heap.size, 2, none⟩ = some (.slice a ws.length cap)) from fun w' hw => ⟨(hw.cell (p := ⟨w.heap.size, 0, none⟩) (by show w.heap.size < _; omega)).trans ((hbx.cell (p := ⟨w.heap.size, 0, none⟩) (by show w.heap.size < _; omega)).trans (by go_simp)), (hw.cell (p := ⟨w.heap.size, 1, none⟩) (by show w.heap.size < _; omega)).trans ((hbx.cell (p := ⟨w.heap.size, 1, none⟩) (by show w.heap.size < _; omega)).trans (by go_simp)), (hw.cell (p := ⟨w.heap.size, 2, none⟩) (by show w.heap.size < _; omega)).trans ((hbx.cell (p := ⟨w.heap.size, 2, none⟩) (by show w.heap.size < _; omega)).trans (by go_simp))⟩)
  have HR1 := Lib.hid (HR.out.below HW.out (Nat.le_refl _))
  have HM1a := Lib.hid (HM1.out.below HW.out hb1)
  have HM2a := Lib.hid (HM2.out.below HW.out hb2)
  have hl1 := HM1a.out.lt
  have hl2 := HM2a.out.lt
  have hwm : w.heap.size ≠ mm := by omega
  have e0 := (KS.out w1 (Below.refl _ _)).1
  have e1 := (KS.out w1 (Below.refl _ _)).2.1
  have e2 := (KS.out w1 (Below.refl _ _)).2.2
  clear hm hb hM' hbx hb1 hb2
  go_upto_region 2 with fail
  go_region_held3 (fun w' => w'.cell? ⟨w.heap.size, 0, none⟩ = some (.int .i64 L) ∧ w'.cell? ⟨w.heap.size, 1, none⟩ = some (.int .i64 V) ∧ w'.cell? ⟨w.heap.size, 2, none⟩ = some (.slice a ws.length cap))
    (first | exact ⟨z0, z1, z2⟩ | (first | (exact KS.out _ (Below.drew (Below.refl _ _))) | (exact KS.out _ hbz) | (exact KS.out _ hb2) | (exact KS.out _ hb5) | fail))
    (first
      | (go_at_call 105; have hPr := productFew_c L V a cap ws (by omega) HS.out g f HF2.out HF1.out b2 n2 b1 n1 w1.drew (show SRow w1.drew a ws from HR1.out) (show MapV w1.drew b2 n2 g from HM2a.out) (show MapV w1.drew b1 n1 f from HM1a.out); rw [H2.out] at hPr; (with_reducible refine hPr.mono ?_); rintro e w2 ⟨m2, k2, rfl, hm2, hb2', hn2, hM2⟩; have hb2 : Below w1.heap.size w1 w2 := ⟨hb2'.os, hb2'.tape, hb2'.output, hb2'.size, hb2'.block⟩; have hm2' : w1.heap.size ≤ m2 := hm2)
      | (go_at_call 117; refine (wholeFraction_c _ w1.drew).mono ?_; rintro e w2 ⟨rfl, hb0⟩; have hb2 : Below w1.heap.size w1 w2 := ⟨hb0.os, hb0.tape, hb0.output, hb0.size, hb0.block⟩)
      | (go_at_call 117; refine (wholeFraction_c _ w2).mono ?_; rintro e wz ⟨rfl, hb0⟩; have hbz := hb2.trans (hb0.mono hb2.size); have hMz := hM2.below hb0 hM2.lt)
      | (go_at_call 105; have hPr := productFew_c L V a cap ws (by omega) HS.out g f HF2.out HF1.out b2 n2 b1 n1 w2 (HR1.out.below hb2 (Nat.le_refl _)) (HM2a.out.below hb2 hl2) (HM1a.out.below hb2 hl1); rw [H2.out] at hPr; (with_reducible refine hPr.mono ?_); rintro e wz ⟨m2, k2, rfl, hm2, hb2', hn2, hMz⟩; have hbz := hb2.trans (hb2'.mono hb2.size); have hm2' : w1.heap.size ≤ m2 := Nat.le_trans hb2.size hm2)
      | (go_at_call 42; have hAd := addMultiple_c L V a cap ws hl HS.out p1 p2 HG1.out HG2.out (-1) 1 (by decide) mm nn m2 _ (by omega) (show m2 ≠ mm by omega) wz (HR1.out.below hbz (Nat.le_refl _)) (fun p e => by have := HA.out p e; omega) (hM.out.below hbz hlm) hMz; rw [HK.out] at hAd; (with_reducible refine hAd.mono ?_); rintro e w5 ⟨rfl, hM5, hG5⟩; have hb5 : Below w.heap.size w w5 := HW.out.trans ((hbz.mono HW.out.size).trans (below_of_grown hG5 (fun g e => by injection e with e; omega) (Nat.le_trans HW.out.size hbz.size))); have z0 := (gr_cell (i := 0) hG5 (by have := hbz.size; omega) hwm).trans (KS.out _ hbz).1; have z1 := (gr_cell (i := 1) hG5 (by have := hbz.size; omega) hwm).trans (KS.out _ hbz).2.1; have z2 := (gr_cell (i := 2) hG5 (by have := hbz.size; omega) hwm).trans (KS.out _ hbz).2.2)
      | fail)
  all_goals
    have HM5 := Lib.hid hM5
    have HB5 := Lib.hid hb5
    clear hM5 hG5 hb5 z0 z1 z2 e0 e1 e2
    go_wp2
    rw [HC.out]
    go_ret
    exact ⟨mm, nn + ws.length, rfl, by omega, HB5.out, by omega, HM5.out⟩
theorem commutator_c (L V : Int) (a : Option Addr) (cap : Nat) (ws : List ByteArray) (hl : ws.length ≤ 100000) (hs : ∀ s ∈ ws, s.size ≤ 1000) (f g : VF) (hf : ∀ s p, f s = some p → isF p.1 p.2 = true) (hg : ∀ s p, g s = some p → isF p.1 p.2 = true) (b1 n1 b2 n2 : Nat) (w : World) (hr : SRow w a ws) (hA : ∀ p, a = some p → p.block < w.heap.size) (m1 : MapV w b1 n1 f) (m2 : MapV w b2 n2 g) :
    Calls Tryz.prog 118 #[.agg #[.int .i64 L, .int .i64 V, .slice a ws.length cap], .map (some b1), .map (some b2)] w (WorkPost (commV f g ws) w) := by
  cases h1 : prodV f g ws with
  | none => exact commutator_1 L V a cap ws hl hs f g hf hg b1 n1 b2 n2 h1 w hr hA m1 m2
  | some p1 =>
    cases h2 : prodV g f ws with
    | none => exact commutator_2 L V a cap ws hl hs f g hf hg b1 n1 b2 n2 p1 h1 h2 w hr hA m1 m2
    | some p2 =>
      cases h3 : addK p2 (-1) 1 ws p1 with
      | none => exact commutator_3 L V a cap ws hl hs f g hf hg b1 n1 b2 n2 p1 p2 h1 h2 h3 w hr hA m1 m2
      | some h => exact commutator_4 L V a cap ws hl hs f g hf hg b1 n1 b2 n2 p1 p2 h h1 h2 h3 w hr hA m1 m2
end Go.Proofs.YtgcjpenlcokgjaaGreatDoor
