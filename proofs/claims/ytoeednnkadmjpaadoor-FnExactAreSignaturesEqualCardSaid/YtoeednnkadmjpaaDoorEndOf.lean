/-
  Where a path stands behind some of its steps.
  Contracts of EndOf, of the program and of its model: both return the same numbers and code.
-/
import Derived.Test.YtoeednnkadmjpaaDoorIsPath
import Derived.Test.YtoeednnkadmjpaaDoorMvs
namespace Go.Proofs.YtoeednnkadmjpaaDoor

/-- the sum of the first steps, in a letter -/
def posK (ps : List (List Int)) : Nat → Nat → Int
  | 0, _ => 0
  | k + 1, i => posK ps k i + (ps.getD k []).getD i 0
def SmallP (L : Nat) (ps : List (List Int)) : Prop := ps.length ≤ 12 ∧ 1 ≤ L ∧ L ≤ 3 ∧ ∀ i (hi : i < ps.length), (ps[i]).length = L ∧ ∀ j (hj : j < (ps[i]).length), -100 ≤ ps[i][j] ∧ ps[i][j] ≤ 100
theorem small_of {L : Int} {ps : List (List Int)} (h : pathB L ps = true) : ∃ D : Nat, L = D ∧ SmallP D ps := by
  obtain ⟨h1, h2, h3⟩ := pathB_true h
  have hL := inB_true h1
  refine ⟨L.toNat, by omega, h2, by omega, by omega, fun i hi => ?_⟩
  obtain ⟨a, b⟩ := stepB_true (h3 i hi)
  exact ⟨by omega, b⟩
theorem SmallP.get {L : Nat} {ps : List (List Int)} (h : SmallP L ps) (k i : Nat) : -100 ≤ (ps.getD k []).getD i 0 ∧ (ps.getD k []).getD i 0 ≤ 100 := by
  by_cases hk : k < ps.length
  · rw [show ps.getD k [] = ps[k] from by rw [List.getD_eq_getElem?_getD, List.getElem?_eq_getElem hk]; rfl]
    by_cases hi : i < (ps[k]).length
    · rw [List.getD_eq_getElem?_getD, List.getElem?_eq_getElem hi]
      exact (h.2.2.2 k hk).2 i hi
    · rw [List.getD_eq_getElem?_getD, List.getElem?_eq_none (by omega)]; simp
  · have e : ps.getD k [] = [] := by rw [List.getD_eq_getElem?_getD, List.getElem?_eq_none (by omega)]; rfl
    rw [e]; simp
theorem SmallP.len {L : Nat} {ps : List (List Int)} (h : SmallP L ps) {k : Nat} (hk : k < ps.length) : (ps[k]).length = L := (h.2.2.2 k hk).1
theorem posK_bd {L : Nat} {ps : List (List Int)} (h : SmallP L ps) : ∀ k i : Nat, -(100 * (k : Int)) ≤ posK ps k i ∧ posK ps k i ≤ 100 * k
  | 0, _ => by simp [posK]
  | k + 1, i => by
    have ih := posK_bd h k i
    have g := h.get k i
    simp only [posK]
    omega
theorem posK_bd12 {L : Nat} {ps : List (List Int)} (h : SmallP L ps) {k : Nat} (hk : k ≤ 12) (i : Nat) : -1200 ≤ posK ps k i ∧ posK ps k i ≤ 1200 := by
  have := posK_bd h k i
  omega
theorem posK_succ (ps : List (List Int)) (k i : Nat) : posK ps (k + 1) i = posK ps k i + (ps.getD k []).getD i 0 := rfl
theorem getD_of {α : Type} {l : List α} {k : Nat} {d : α} (h : k < l.length) : l.getD k d = l[k] := by rw [List.getD_eq_getElem?_getD, List.getElem?_eq_getElem h]; rfl
/-- the end of a path of `L` letters, and the row of sums while it is made -/
def endL (ps : List (List Int)) (L : Nat) : List Int := (List.range L).map fun i => posK ps ps.length i
def rowKJ (ps : List (List Int)) (L k j : Nat) : List Int := (List.range L).map fun i => if i < j then posK ps (k + 1) i else posK ps k i
theorem rowKJ_length (ps : List (List Int)) (L k j : Nat) : (rowKJ ps L k j).length = L := by simp [rowKJ]
theorem rowKJ_get (ps : List (List Int)) (L k j i : Nat) (h : i < (rowKJ ps L k j).length) : (rowKJ ps L k j)[i] = if i < j then posK ps (k + 1) i else posK ps k i := by simp [rowKJ]
theorem rowKJ_zero (ps : List (List Int)) (L : Nat) : rowKJ ps L 0 0 = List.replicate L 0 := by
  apply List.ext_getElem
  · simp [rowKJ]
  · intro i h1 h2
    simp [rowKJ, posK]
theorem rowKJ_next (ps : List (List Int)) (L k : Nat) : rowKJ ps L k L = rowKJ ps L (k + 1) 0 := by
  apply List.ext_getElem
  · simp [rowKJ]
  · intro i h1 h2
    have : i < L := by simpa [rowKJ] using h1
    rw [rowKJ_get, rowKJ_get, if_pos this, if_neg (by omega)]
theorem rowKJ_set (ps : List (List Int)) (L k j : Nat) (_hj : j < L) : (rowKJ ps L k j).set j (posK ps (k + 1) j) = rowKJ ps L k (j + 1) := by
  apply List.ext_getElem
  · simp [rowKJ]
  · intro i h1 h2
    rw [List.getElem_set, rowKJ_get ps L k (j + 1) i h2]
    by_cases e : j = i
    · subst e
      rw [if_pos rfl, if_pos (by omega)]
    · rw [if_neg e, rowKJ_get]
      by_cases hlt : i < j
      · rw [if_pos hlt, if_pos (by omega)]
      · rw [if_neg hlt, if_neg (by omega)]
theorem rowKJ_end (ps : List (List Int)) (L : Nat) : rowKJ ps L ps.length 0 = endL ps L := by
  apply List.ext_getElem
  · simp [rowKJ, endL]
  · intro i h1 h2
    rw [rowKJ_get, if_neg (by omega)]
    simp [endL]
theorem mul_small {a b : Int} (ha : -1200 ≤ a ∧ a ≤ 1200) (hb : -100 ≤ b ∧ b ≤ 100) : -120000 ≤ a * b ∧ a * b ≤ 120000 := by
  have h : (a * b).natAbs ≤ 1200 * 100 := by rw [Int.natAbs_mul]; exact Nat.mul_le_mul (by omega) (by omega)
  omega
end Go.Proofs.YtoeednnkadmjpaaDoor

namespace Go.Proofs.YtoeednnkadmjpaaDoor
open Go.RowKit

section
variable (lo hi : Nat) (L : Int) (a : Option Addr) (cap : Nat) (ps : List (List Int)) (hl : ps.length ≤ 1048576) (hs : flat ps ≤ 1048576) (w : World) (hr : PRow lo hi w a ps) (hh : hi ≤ w.heap.size)
include hl hs hr
end

/-- three cells of a block, which may be written -/
def Tri (w : World) (g : Nat) (x y z : Int) : Prop := g < w.heap.size ∧ w.cell? ⟨g, 0, none⟩ = some (.int .i64 x) ∧ w.cell? ⟨g, 1, none⟩ = some (.int .i64 y) ∧ w.cell? ⟨g, 2, none⟩ = some (.int .i64 z) ∧
  w.frozen? ⟨g, 0, none⟩ = false ∧ w.frozen? ⟨g, 1, none⟩ = false ∧ w.frozen? ⟨g, 2, none⟩ = false
theorem Tri.below {w w' : World} {B g : Nat} {x y z : Int} (h : Tri w g x y z) (hb : Below B w w') (hg : g < B) : Tri w' g x y z :=
  ⟨Nat.lt_of_lt_of_le h.1 hb.size, (hb.cell (p := ⟨g, 0, none⟩) hg).trans h.2.1, (hb.cell (p := ⟨g, 1, none⟩) hg).trans h.2.2.1, (hb.cell (p := ⟨g, 2, none⟩) hg).trans h.2.2.2.1,
    (hb.frozen (p := ⟨g, 0, none⟩) hg).trans h.2.2.2.2.1, (hb.frozen (p := ⟨g, 1, none⟩) hg).trans h.2.2.2.2.2.1, (hb.frozen (p := ⟨g, 2, none⟩) hg).trans h.2.2.2.2.2.2⟩
theorem Tri.set {w : World} {g : Nat} {x y z : Int} (h : Tri w g x y z) (x' y' z' : Int) : Tri (((w.setCell ⟨g, 0, none⟩ (.int .i64 x')).setCell ⟨g, 1, none⟩ (.int .i64 y')).setCell ⟨g, 2, none⟩ (.int .i64 z')) g x' y' z' := by
  obtain ⟨h0, c0, c1, c2, f0, f1, f2⟩ := h
  have ne : ∀ {a b : Nat}, a ≠ b → (⟨g, a, none⟩ : Addr) ≠ ⟨g, b, none⟩ := fun h e => h (by injection e)
  refine ⟨by simp only [World.size_setCell]; exact h0, ?_, ?_, ?_, by simp only [World.frozen?_setCell]; exact f0, by simp only [World.frozen?_setCell]; exact f1, by simp only [World.frozen?_setCell]; exact f2⟩
  · rw [World.cell?_setCell_other _ _ _ _ (ne (by omega)), World.cell?_setCell_other _ _ _ _ (ne (by omega))]; exact World.cell?_setCell_same _ _ _ c0
  · rw [World.cell?_setCell_other _ _ _ _ (ne (by omega))]
    refine World.cell?_setCell_same _ _ _ (u := .int .i64 y) ?_
    rw [World.cell?_setCell_other _ _ _ _ (ne (by omega))]; exact c1
  · refine World.cell?_setCell_same _ _ _ (u := .int .i64 z) ?_
    rw [World.cell?_setCell_other _ _ _ _ (ne (by omega)), World.cell?_setCell_other _ _ _ _ (ne (by omega))]; exact c2
theorem Tri.ints {w : World} {g : Nat} {x y z : Int} (h : Tri w g x y z) {zs : List Int} (hl : zs.length ≤ 3) (h0 : ∀ (h : 0 < zs.length), zs[0] = x) (h1 : ∀ (h : 1 < zs.length), zs[1] = y) (h2 : ∀ (h : 2 < zs.length), zs[2] = z) : IntsIn w g 0 zs := fun i hi => by
  have : i = 0 ∨ i = 1 ∨ i = 2 := by omega
  rcases this with rfl | rfl | rfl
  · rw [h0 hi]; exact h.2.1
  · rw [h1 hi]; exact h.2.2.1
  · rw [h2 hi]; exact h.2.2.2.1
theorem endL_get (ps : List (List Int)) (L i : Nat) (h : i < (endL ps L).length) : (endL ps L)[i] = posK ps ps.length i := by simp [endL]
theorem mv_get {ps : List (List Int)} {k : Nat} (h : k < (ps.map mvOf).length) : (ps.map mvOf)[k] = ⟨(ps.getD k []).getD 0 0, (ps.getD k []).getD 1 0, (ps.getD k []).getD 2 0⟩ := by
  have hk : k < ps.length := by simpa using h
  rw [List.getElem_map, getD_of hk]; rfl

end Go.Proofs.YtoeednnkadmjpaaDoor
