/-
  Contracts of EndOf, of the program and of its model: both return the same numbers and code.
-/
import Derived.Test.YtnlapfclmpilaaaDoorIsPath
import Derived.Test.YtnlapfclmpilaaaDoorMvs
import Derived.Test.YtnlapfclmpilaaaDoorPos
namespace Go.Proofs.YtnlapfclmpilaaaDoor
open Go.RowKit

/-- what a function that returns numbers and a code comes to -/
def NumsPost (zs : List Int) (c : Int) (W : World) (e : Ending) (w' : World) : Prop :=
  ∃ (a : Option Addr) (cap : Nat), e = .returned (.tuple #[.slice a zs.length cap, .int .i64 c]) ∧ Below W.heap.size W w' ∧ NewI W.heap.size w'.heap.size w' a zs
theorem IntsIn.upd {w : World} {g : Nat} {zs : List Int} {j : Nat} (h : IntsIn w g 0 zs) (hm : Made w g zs.length) (hj : j < zs.length) (z : Int) : IntsIn (w.setCell ⟨g, j, none⟩ (.int .i64 z)) g 0 (zs.set j z) := by
  intro i hi
  rw [List.length_set] at hi
  rw [List.getElem_set]
  simp only [Nat.zero_add]
  by_cases e : j = i
  · subst e
    rw [if_pos rfl]
    obtain ⟨⟨v0, m0⟩, -⟩ := hm.2 j hj
    exact World.cell?_setCell_same _ _ _ m0
  · rw [if_neg e, World.cell?_setCell_other _ _ _ _ (fun e2 => by injection e2 with _ e3; omega)]
    have := h i hi
    rwa [Nat.zero_add] at this

section
variable (lo hi : Nat) (L : Int) (a : Option Addr) (cap : Nat) (ps : List (List Int)) (hl : ps.length ≤ 1048576) (hs : flat ps ≤ 1048576) (w : World) (hr : PRow lo hi w a ps) (hh : hi ≤ w.heap.size)
include hl hs hr
end

/-- three cells of a block, which may be written -/
def Tri (w : World) (g : Nat) (x y z : Int) : Prop := g < w.heap.size ∧ w.cell? ⟨g, 0, none⟩ = some (.int .i64 x) ∧ w.cell? ⟨g, 1, none⟩ = some (.int .i64 y) ∧ w.cell? ⟨g, 2, none⟩ = some (.int .i64 z) ∧
  w.frozen? ⟨g, 0, none⟩ = false ∧ w.frozen? ⟨g, 1, none⟩ = false ∧ w.frozen? ⟨g, 2, none⟩ = false
theorem Tri.below {w w' : World} {B g : Nat} {x y z : Int} (h : Tri w g x y z) (hb : Below B w w') (hg : g < B) : Tri w' g x y z :=
  ⟨Nat.lt_of_lt_of_le h.1 hb.size, (hb.cell (p := ⟨g, 0, none⟩) hg).trans h.2.1, (hb.cell (p := ⟨g, 1, none⟩) hg).trans h.2.2.1, (hb.cell (p := ⟨g, 2, none⟩) hg).trans h.2.2.2.1,
    (hb.frozen (p := ⟨g, 0, none⟩) hg).trans h.2.2.2.2.1, (hb.frozen (p := ⟨g, 1, none⟩) hg).trans h.2.2.2.2.2.1, (hb.frozen (p := ⟨g, 2, none⟩) hg).trans h.2.2.2.2.2.2⟩
theorem Tri.set {w : World} {g : Nat} {x y z : Int} (h : Tri w g x y z) (x' y' z' : Int) : Tri (((w.setCell ⟨g, 0, none⟩ (.int .i64 x')).setCell ⟨g, 1, none⟩ (.int .i64 y')).setCell ⟨g, 2, none⟩ (.int .i64 z')) g x' y' z' := by
  obtain ⟨h0, c0, c1, c2, f0, f1, f2⟩ := h
  have ne : ∀ {a b : Nat}, a ≠ b → (⟨g, a, none⟩ : Addr) ≠ ⟨g, b, none⟩ := fun h e => h (by injection e)
  refine ⟨by simp only [World.size_setCell]; exact h0, ?_, ?_, ?_, by simp only [World.frozen?_setCell]; exact f0, by simp only [World.frozen?_setCell]; exact f1, by simp only [World.frozen?_setCell]; exact f2⟩
  · rw [World.cell?_setCell_other _ _ _ _ (ne (by omega)), World.cell?_setCell_other _ _ _ _ (ne (by omega))]; exact World.cell?_setCell_same _ _ _ c0
  · rw [World.cell?_setCell_other _ _ _ _ (ne (by omega))]
    refine World.cell?_setCell_same _ _ _ (u := .int .i64 y) ?_
    rw [World.cell?_setCell_other _ _ _ _ (ne (by omega))]; exact c1
  · refine World.cell?_setCell_same _ _ _ (u := .int .i64 z) ?_
    rw [World.cell?_setCell_other _ _ _ _ (ne (by omega)), World.cell?_setCell_other _ _ _ _ (ne (by omega))]; exact c2
theorem Tri.ints {w : World} {g : Nat} {x y z : Int} (h : Tri w g x y z) {zs : List Int} (hl : zs.length ≤ 3) (h0 : ∀ (h : 0 < zs.length), zs[0] = x) (h1 : ∀ (h : 1 < zs.length), zs[1] = y) (h2 : ∀ (h : 2 < zs.length), zs[2] = z) : IntsIn w g 0 zs := fun i hi => by
  have : i = 0 ∨ i = 1 ∨ i = 2 := by omega
  rcases this with rfl | rfl | rfl
  · rw [h0 hi]; exact h.2.1
  · rw [h1 hi]; exact h.2.2.1
  · rw [h2 hi]; exact h.2.2.2.1
theorem endL_get (ps : List (List Int)) (L i : Nat) (h : i < (endL ps L).length) : (endL ps L)[i] = posK ps ps.length i := by simp [endL]
theorem mv_get {ps : List (List Int)} {k : Nat} (h : k < (ps.map mvOf).length) : (ps.map mvOf)[k] = ⟨(ps.getD k []).getD 0 0, (ps.getD k []).getD 1 0, (ps.getD k []).getD 2 0⟩ := by
  have hk : k < ps.length := by simpa using h
  rw [List.getElem_map, getD_of hk]; rfl

end Go.Proofs.YtnlapfclmpilaaaDoor
