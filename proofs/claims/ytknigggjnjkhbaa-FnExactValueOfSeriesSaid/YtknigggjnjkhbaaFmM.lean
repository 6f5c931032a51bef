/-
  Square matrices of fractions: a multiple of whole numbers added place by place; the value of a series at tables. Such a matrix in memory, its rows wherever they lie.
-/
import Derived.Test.YtknigggjnjkhbaaTimT
import Derived.Test.YtknigggjnjkhbaaAddP
namespace Go.Proofs.Ytknigggjnjkhbaa
open Go.RowKit
set_option linter.unusedVariables false

abbrev QF := Nat → Nat → Int × Int
/-- a value and the product of t and a whole number together, if all fits -/
def addE (v t : Int × Int) (z : Int) : Option (Int × Int) :=
  if fOk (t.1 * z) (t.2 * 1) = true then
    if fOk (v.1 * fD (t.1 * z) (t.2 * 1) + fN (t.1 * z) (t.2 * 1) * v.2) (v.2 * fD (t.1 * z) (t.2 * 1)) = true then
      some (fN (v.1 * fD (t.1 * z) (t.2 * 1) + fN (t.1 * z) (t.2 * 1) * v.2) (v.2 * fD (t.1 * z) (t.2 * 1)), fD (v.1 * fD (t.1 * z) (t.2 * 1) + fN (t.1 * z) (t.2 * 1) * v.2) (v.2 * fD (t.1 * z) (t.2 * 1)))
    else none
  else none
theorem addE_isF {v t : Int × Int} {z : Int} {r : Int × Int} (h : addE v t z = some r) : isF r.1 r.2 = true := by
  unfold addE at h
  split at h
  · split at h
    · rename_i h2
      injection h with h
      rw [← h]
      exact fOk_isFp h2
    · cases h
  · cases h
def setQ (F : QF) (i j : Nat) (v : Int × Int) : QF := fun a b => if a = i ∧ b = j then v else F a b
theorem setQ_same (F : QF) (i j : Nat) (v : Int × Int) : setQ F i j v i j = v := if_pos ⟨rfl, rfl⟩
theorem setQ_other (F : QF) {i j a b : Nat} (v : Int × Int) (h : ¬ (a = i ∧ b = j)) : setQ F i j v a b = F a b := if_neg h
def rowQ (P : MF) (t : Int × Int) (i : Nat) : Nat → QF → Option QF
  | 0, F => some F
  | j + 1, F => (rowQ P t i j F).bind fun G => (addE (G i j) t (P i j)).map (setQ G i j)
def matQ (n : Nat) (P : MF) (t : Int × Int) : Nat → QF → Option QF
  | 0, F => some F
  | i + 1, F => (matQ n P t i F).bind fun G => rowQ P t i n G
def zeroQ : QF := fun _ _ => (0, 1)
/-- the value of the first k terms at tables -/
def valQ (n : Nat) (ts : Tabs) (xs : List Tm) : Nat → Option QF
  | 0 => some zeroQ
  | k + 1 => (valQ n ts xs k).bind fun F => (alongK n ts (xs.getD k ⟨ByteArray.empty, 0, 1⟩).s (xs.getD k ⟨ByteArray.empty, 0, 1⟩).s.size).bind fun P => matQ n P ((xs.getD k ⟨ByteArray.empty, 0, 1⟩).n, (xs.getD k ⟨ByteArray.empty, 0, 1⟩).d) n F
theorem valQ_next {n : Nat} {ts : Tabs} {xs : List Tm} {k : Nat} {F : QF} (hk : k < xs.length) (h : valQ n ts xs k = some F) : valQ n ts xs (k + 1) = (alongK n ts (xs[k]).s (xs[k]).s.size).bind fun P => matQ n P ((xs[k]).n, (xs[k]).d) n F := by
  rw [valQ, h, Option.bind_some, List.getD_eq_getElem?_getD, List.getElem?_eq_getElem hk]
  rfl
theorem rowQ_dead {P : MF} {t : Int × Int} {i : Nat} {F : QF} {j : Nat} (h : rowQ P t i j F = none) : ∀ {m : Nat}, j ≤ m → rowQ P t i m F = none
  | 0, hm => by obtain rfl : j = 0 := by omega
                exact h
  | m + 1, hm => by
    by_cases e : j = m + 1
    · subst e; exact h
    · rw [rowQ, rowQ_dead h (show j ≤ m by omega)]; rfl
theorem matQ_dead {n : Nat} {P : MF} {t : Int × Int} {F : QF} {j : Nat} (h : matQ n P t j F = none) : ∀ {m : Nat}, j ≤ m → matQ n P t m F = none
  | 0, hm => by obtain rfl : j = 0 := by omega
                exact h
  | m + 1, hm => by
    by_cases e : j = m + 1
    · subst e; exact h
    · rw [matQ, matQ_dead h (show j ≤ m by omega)]; rfl
theorem valQ_dead {n : Nat} {ts : Tabs} {xs : List Tm} {j : Nat} (h : valQ n ts xs j = none) : ∀ {m : Nat}, j ≤ m → valQ n ts xs m = none
  | 0, hm => by obtain rfl : j = 0 := by omega
                exact h
  | m + 1, hm => by
    by_cases e : j = m + 1
    · subst e; exact h
    · rw [valQ, valQ_dead h (show j ≤ m by omega)]; rfl
/-- one place more, or none -/
theorem rowQ_next {P : MF} {t : Int × Int} {i j : Nat} {F G : QF} (h : rowQ P t i j F = some G) : rowQ P t i (j + 1) F = (addE (G i j) t (P i j)).map (setQ G i j) := by rw [rowQ, h]; rfl
theorem matQ_next {n : Nat} {P : MF} {t : Int × Int} {i : Nat} {F G : QF} (h : matQ n P t i F = some G) : matQ n P t (i + 1) F = rowQ P t i n G := by rw [matQ, h]; rfl
/-- a place that does not fit ends all -/
theorem matQ_fail {n : Nat} {P : MF} {t : Int × Int} {i j : Nat} {F G K : QF} (hi : i < n) (hj : j < n) (h : matQ n P t i F = some G) (h2 : rowQ P t i j G = some K) (h3 : addE (K i j) t (P i j) = none) : matQ n P t n F = none := by
  refine matQ_dead (j := i + 1) ?_ hi
  rw [matQ_next h]
  refine rowQ_dead (j := j + 1) ?_ hj
  rw [rowQ_next h2, h3]
  rfl
def GoodQ (F : QF) : Prop := ∀ i j, isF (F i j).1 (F i j).2 = true
theorem GoodQ.zero : GoodQ zeroQ := fun _ _ => by show isF 0 1 = true; decide
theorem GoodQ.set {F : QF} (h : GoodQ F) {i j : Nat} {v : Int × Int} (hv : isF v.1 v.2 = true) : GoodQ (setQ F i j v) := fun a b => by
  unfold setQ
  split
  · exact hv
  · exact h a b
theorem GoodQ.row {P : MF} {t : Int × Int} {i : Nat} {F : QF} (h : GoodQ F) : ∀ {j : Nat} {G : QF}, rowQ P t i j F = some G → GoodQ G
  | 0, G, e => by injection e with e; rw [← e]; exact h
  | j + 1, G, e => by
    rw [rowQ] at e
    obtain ⟨K, h1, h2⟩ := Option.bind_eq_some_iff.1 e
    obtain ⟨v, h3, rfl⟩ := Option.map_eq_some_iff.1 h2
    exact (GoodQ.row h h1).set (addE_isF h3)
theorem GoodQ.mat {n : Nat} {P : MF} {t : Int × Int} {F : QF} (h : GoodQ F) : ∀ {i : Nat} {G : QF}, matQ n P t i F = some G → GoodQ G
  | 0, G, e => by injection e with e; rw [← e]; exact h
  | i + 1, G, e => by
    rw [matQ] at e
    obtain ⟨K, h1, h2⟩ := Option.bind_eq_some_iff.1 e
    exact (GoodQ.mat h h1).row h2
theorem GoodQ.val {n : Nat} {ts : Tabs} {xs : List Tm} : ∀ {k : Nat} {F : QF}, valQ n ts xs k = some F → GoodQ F
  | 0, F, e => by injection e with e; rw [← e]; exact GoodQ.zero
  | k + 1, F, e => by
    rw [valQ] at e
    obtain ⟨K, h1, h2⟩ := Option.bind_eq_some_iff.1 e
    obtain ⟨P, _, h3⟩ := Option.bind_eq_some_iff.1 h2
    exact (GoodQ.val h1).mat h3

/-- where the rows of a matrix lie: headers in block h, row i at (b i, o i) with room c i -/
structure Lay where
  h : Nat
  b : Nat → Nat
  o : Nat → Nat
  c : Nat → Nat
/-- no two places share a cell, none lies in the headers' block -/
def Lay.apart (Y : Lay) (n : Nat) : Prop := (∀ i, i < n → Y.b i ≠ Y.h) ∧ ∀ i j a b, i < n → j < n → a < n → b < n → ¬ (a = i ∧ b = j) → Y.b a = Y.b i → ∀ e f, e < 2 → f < 2 → Y.o a + b * 2 + e ≠ Y.o i + j * 2 + f
/-- a matrix of fractions in memory, all of it between lo and hi -/
def FM (w : World) (lo hi n : Nat) (Y : Lay) (F : QF) : Prop :=
  lo ≤ Y.h ∧ Y.h < hi ∧ hi ≤ w.heap.size ∧ Y.apart n ∧ (∀ i, i < n → lo ≤ Y.b i ∧ Y.b i < hi ∧ w.cell? ⟨Y.h, i, none⟩ = some (.slice (some ⟨Y.b i, Y.o i, none⟩) n (Y.c i))) ∧
  ∀ i j, i < n → j < n → w.cell? ⟨Y.b i, Y.o i + j * 2, none⟩ = some (.int .i64 (F i j).1) ∧ w.cell? ⟨Y.b i, Y.o i + j * 2 + 1, none⟩ = some (.int .i64 (F i j).2) ∧ w.frozen? ⟨Y.b i, Y.o i + j * 2, none⟩ = false ∧ w.frozen? ⟨Y.b i, Y.o i + j * 2 + 1, none⟩ = false
theorem FM.below {w w' : World} {lo hi n B : Nat} {Y : Lay} {F : QF} (M : FM w lo hi n Y F) (hb : Below B w w') (hB : hi ≤ B) : FM w' lo hi n Y F := by
  obtain ⟨h1, h2, h3, h4, h5, h6⟩ := M
  have hc : ∀ g o, g < hi → w'.cell? ⟨g, o, none⟩ = w.cell? ⟨g, o, none⟩ := fun g o hg => hb.cell (p := ⟨g, o, none⟩) (Nat.lt_of_lt_of_le hg hB)
  have hf : ∀ g o, g < hi → w'.frozen? ⟨g, o, none⟩ = w.frozen? ⟨g, o, none⟩ := fun g o hg => hb.frozen (p := ⟨g, o, none⟩) (Nat.lt_of_lt_of_le hg hB)
  refine ⟨h1, h2, Nat.le_trans h3 hb.size, h4, fun i hi' => ?_, fun i j hi' hj => ?_⟩
  · obtain ⟨a, b, c⟩ := h5 i hi'
    exact ⟨a, b, (hc _ _ h2).trans c⟩
  · obtain ⟨_, hb2, _⟩ := h5 i hi'
    obtain ⟨a, b, c, d⟩ := h6 i j hi' hj
    exact ⟨(hc _ _ hb2).trans a, (hc _ _ hb2).trans b, (hf _ _ hb2).trans c, (hf _ _ hb2).trans d⟩
theorem FM.next {w w' : World} {lo hi n : Nat} {Y : Lay} {F : QF} (M : FM w lo hi n Y F) (hb : Below w.heap.size w w') : FM w' lo hi n Y F := M.below hb M.2.2.1
theorem FM.drew {w : World} {lo hi n : Nat} {Y : Lay} {F : QF} (M : FM w lo hi n Y F) : FM w.drew lo hi n Y F := M
theorem FM.mono {w : World} {lo lo' hi hi' n : Nat} {Y : Lay} {F : QF} (M : FM w lo hi n Y F) (h1 : lo' ≤ lo) (h2 : hi ≤ hi') (h3 : hi' ≤ w.heap.size) : FM w lo' hi' n Y F :=
  ⟨Nat.le_trans h1 M.1, Nat.lt_of_lt_of_le M.2.1 h2, h3, M.2.2.2.1, fun i hi => ⟨Nat.le_trans h1 (M.2.2.2.2.1 i hi).1, Nat.lt_of_lt_of_le (M.2.2.2.2.1 i hi).2.1 h2, (M.2.2.2.2.1 i hi).2.2⟩, M.2.2.2.2.2⟩
/-- a fraction written at a place -/
theorem FM.set {w : World} {lo hi n : Nat} {Y : Lay} {F : QF} (M : FM w lo hi n Y F) {i j : Nat} (hi' : i < n) (hj : j < n) (x y : Int) :
    FM ((w.setCell ⟨Y.b i, Y.o i + j * 2, none⟩ (.int .i64 x)).setCell ⟨Y.b i, Y.o i + j * 2 + 1, none⟩ (.int .i64 y)) lo hi n Y (setQ F i j (x, y)) := by
  obtain ⟨h1, h2, h3, h4, h5, h6⟩ := M
  refine ⟨h1, h2, by simpa using h3, h4, fun a ha => ?_, fun a b ha hb => ?_⟩
  · obtain ⟨p, q, r⟩ := h5 a ha
    have hne := h4.1 i hi'
    refine ⟨p, q, ?_⟩
    rw [World.cell?_setCell_far _ _ _ _ (by show Y.b i ≠ Y.h; exact hne), World.cell?_setCell_far _ _ _ _ (by show Y.b i ≠ Y.h; exact hne)]
    exact r
  · obtain ⟨p, q, r, s⟩ := h6 a b ha hb
    obtain ⟨p', q', _, _⟩ := h6 i j hi' hj
    by_cases e : a = i ∧ b = j
    · obtain ⟨rfl, rfl⟩ := e
      rw [setQ_same]
      refine ⟨?_, ?_, by simpa using r, by simpa using s⟩
      · rw [World.cell?_setCell_other _ _ _ _ (fun e2 => by injection e2 with _ e3; omega)]
        exact World.cell?_setCell_same _ _ _ p
      · exact World.cell?_setCell_same _ _ _ ((World.cell?_setCell_other _ _ _ _ (fun e2 => by injection e2 with _ e3; omega)).trans q)
    · rw [setQ_other F (x, y) e]
      have hap := h4.2 i j a b hi' hj ha hb e
      have far : ∀ e f, e < 2 → f < 2 → (⟨Y.b i, Y.o i + j * 2 + f, none⟩ : Addr) ≠ ⟨Y.b a, Y.o a + b * 2 + e, none⟩ := fun e f he hf e2 => by
        injection e2 with e3 e4
        exact hap e3.symm e f he hf e4.symm
      have f00 : (⟨Y.b i, Y.o i + j * 2, none⟩ : Addr) ≠ ⟨Y.b a, Y.o a + b * 2, none⟩ := far 0 0 (by omega) (by omega)
      have f01 : (⟨Y.b i, Y.o i + j * 2 + 1, none⟩ : Addr) ≠ ⟨Y.b a, Y.o a + b * 2, none⟩ := far 0 1 (by omega) (by omega)
      have f10 : (⟨Y.b i, Y.o i + j * 2, none⟩ : Addr) ≠ ⟨Y.b a, Y.o a + b * 2 + 1, none⟩ := far 1 0 (by omega) (by omega)
      have f11 : (⟨Y.b i, Y.o i + j * 2 + 1, none⟩ : Addr) ≠ ⟨Y.b a, Y.o a + b * 2 + 1, none⟩ := far 1 1 (by omega) (by omega)
      refine ⟨?_, ?_, by simpa using r, by simpa using s⟩
      · rw [World.cell?_setCell_other _ _ _ _ f01, World.cell?_setCell_other _ _ _ _ f00]
        exact p
      · rw [World.cell?_setCell_other _ _ _ _ f11, World.cell?_setCell_other _ _ _ _ f10]
        exact q
/-- the first half of it: the layout stands -/
theorem FM.set1 {w : World} {lo hi n : Nat} {Y : Lay} {F : QF} (M : FM w lo hi n Y F) {i j : Nat} (hi' : i < n) (hj : j < n) (x : Int) :
    FM (w.setCell ⟨Y.b i, Y.o i + j * 2, none⟩ (.int .i64 x)) lo hi n Y (setQ F i j (x, (F i j).2)) := by
  have h := M.set hi' hj x (F i j).2
  have e : ((w.setCell ⟨Y.b i, Y.o i + j * 2, none⟩ (.int .i64 x)).setCell ⟨Y.b i, Y.o i + j * 2 + 1, none⟩ (.int .i64 (F i j).2)).heap.size = (w.setCell ⟨Y.b i, Y.o i + j * 2, none⟩ (.int .i64 x)).heap.size := by simp
  obtain ⟨h1, h2, h3, h4, h5, h6⟩ := M
  obtain ⟨k1, k2, k3, k4, k5, k6⟩ := h
  have same : ∀ g o, (w.setCell ⟨Y.b i, Y.o i + j * 2, none⟩ (.int .i64 x)).cell? ⟨g, o, none⟩ = ((w.setCell ⟨Y.b i, Y.o i + j * 2, none⟩ (.int .i64 x)).setCell ⟨Y.b i, Y.o i + j * 2 + 1, none⟩ (.int .i64 (F i j).2)).cell? ⟨g, o, none⟩ := fun g o => by
    by_cases e2 : (⟨Y.b i, Y.o i + j * 2 + 1, none⟩ : Addr) = ⟨g, o, none⟩
    · injection e2 with e3 e4
      subst e3 e4
      have hc := (h6 i j hi' hj).2.1
      have hc2 : (w.setCell ⟨Y.b i, Y.o i + j * 2, none⟩ (.int .i64 x)).cell? ⟨Y.b i, Y.o i + j * 2 + 1, none⟩ = some (.int .i64 (F i j).2) := (World.cell?_setCell_other _ _ _ _ (fun e5 => by injection e5 with _ e6; omega)).trans hc
      rw [World.cell?_setCell_same _ _ _ hc2, hc2]
    · rw [World.cell?_setCell_other _ _ _ _ e2]
  refine ⟨h1, h2, by simpa using h3, h4, fun a ha => ?_, fun a b ha hb => ?_⟩
  · obtain ⟨p, q, r⟩ := k5 a ha
    exact ⟨p, q, (same _ _).trans r⟩
  · obtain ⟨p, q, r, t⟩ := k6 a b ha hb
    exact ⟨(same _ _).trans p, (same _ _).trans q, by simpa using r, by simpa using t⟩
theorem FM.outside {w : World} {lo hi n : Nat} {Y : Lay} {F : QF} (M : FM w lo hi n Y F) {i : Nat} (hi' : i < n) (o : Nat) (v : Value) : Outside lo hi w (w.setCell ⟨Y.b i, o, none⟩ v) := by
  obtain ⟨a, b, _⟩ := M.2.2.2.2.1 i hi'
  exact Outside.of_grown (grown_set (World.grownBy.refl w (some (Y.b i))) v) (fun g e => by injection e with e; subst e; exact ⟨a, b⟩)
end Go.Proofs.Ytknigggjnjkhbaa
