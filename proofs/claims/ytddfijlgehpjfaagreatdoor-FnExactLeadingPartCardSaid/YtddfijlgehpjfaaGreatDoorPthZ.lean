/-
  The path of a group word: a step of one for each number. PathOfWord: contracts of the program and of the model.
-/
import Derived.Test.YtddfijlgehpjfaaGreatDoorGrp
import Derived.Test.YtddfijlgehpjfaaGreatDoorPathRes
import Derived.Handy
namespace Go.Proofs.YtddfijlgehpjfaaGreatDoor
open Go.RowKit

/-- the number at the letter `i` of the step of a number -/
def uG (x : Int) (i : Nat) : Int := if x = (i : Int) + 1 then 1 else if x = -((i : Int) + 1) then -1 else 0
def mvG (x : Int) : Mv := ⟨uG x 0, uG x 1, uG x 2⟩
def stG (D : Nat) (x : Int) : List Int := stepOf D (mvG x)
def pthG (D : Nat) (z : List Int) : List (List Int) := z.map (stG D)
def Six (x : Int) : Prop := x = -3 ∨ x = -2 ∨ x = -1 ∨ x = 1 ∨ x = 2 ∨ x = 3
theorem six_of {d : Int} {z : List Int} (h : GoodD d z) : ∀ x ∈ z, Six x := fun x hx => by
  have h1 := h.lo x hx
  have h2 := h.hi x hx
  have h3 := h.d3
  have h4 := h.ne x hx
  unfold Six
  omega
theorem uG_bd (x : Int) (i : Nat) : -1 ≤ uG x i ∧ uG x i ≤ 1 := by
  unfold uG
  split
  · omega
  · split <;> omega
theorem stG_length {D : Nat} (h : D ≤ 3) (x : Int) : (stG D x).length = D := stepOf_length h _
theorem stG_get {D : Nat} (_h : D ≤ 3) (x : Int) (i : Nat) (hi : i < (stG D x).length) : (stG D x)[i] = uG x i := by
  have hi2 : i < ([uG x 0, uG x 1, uG x 2] : List Int).length := by
    have : (stG D x).length ≤ ([uG x 0, uG x 1, uG x 2] : List Int).length := by simp [stG, stepOf, mvG]; omega
    omega
  have e : (stG D x)[i] = ([uG x 0, uG x 1, uG x 2] : List Int)[i] := by simp [stG, stepOf, mvG]
  rw [e]
  have : i = 0 ∨ i = 1 ∨ i = 2 := by simp at hi2; omega
  rcases this with rfl | rfl | rfl <;> rfl
theorem pthG_length (D : Nat) (z : List Int) : (pthG D z).length = z.length := by simp [pthG]
theorem pthG_ok {D : Nat} {z : List Int} (h : GoodD (D : Int) z) : pathB (D : Int) (pthG D z) = true := by
  have hd : 1 ≤ D ∧ D ≤ 3 := by have := h.d1; have := h.d3; omega
  refine pathB_good (by unfold inB; simp; omega) (by rw [pthG_length]; exact h.len) fun i hi => ?_
  have hi' : i < z.length := by rwa [pthG_length] at hi
  have e : (pthG D z)[i] = stG D z[i] := by simp [pthG]
  rw [e]
  refine stepB_good (by rw [stG_length hd.2]) fun j hj => ?_
  rw [stG_get hd.2]
  have := uG_bd z[i] j
  unfold inB
  simp
  omega
theorem pthG_take {D : Nat} {z : List Int} {k : Nat} (h : k < z.length) : pthG D (z.take (k + 1)) = pthG D (z.take k) ++ [stG D z[k]] := by
  unfold pthG; rw [List.take_succ_eq_append_getElem h, List.map_append]; rfl
theorem mvG_take {z : List Int} {k : Nat} (h : k < z.length) : (z.map mvG).take (k + 1) = (z.map mvG).take k ++ [mvG z[k]] := by
  rw [List.take_succ_eq_append_getElem (by simpa using h), List.getElem_map]
/-- the row of noughts with a one at the letter of a number -/
theorem stG_set {D : Nat} (hD : D ≤ 3) (x : Int) (j : Nat) (s : Int) (_hj : j < D) (hx : (x = (j : Int) + 1 ∧ s = 1) ∨ (x = -((j : Int) + 1) ∧ s = -1)) : (List.replicate D (0 : Int)).set j s = stG D x := by
  apply List.ext_getElem
  · simp [stG_length hD]
  · intro i h1 h2
    rw [stG_get hD, List.getElem_set, List.getElem_replicate]
    unfold uG
    by_cases e : j = i
    · subst e
      rw [if_pos rfl]
      rcases hx with ⟨h, rfl⟩ | ⟨h, rfl⟩
      · rw [if_pos h]
      · rw [if_neg (by omega), if_pos h]
    · rw [if_neg e, if_neg (by omega), if_neg (by omega)]

theorem moveAlong_c (x : Int) (hx : Six x) (w : World) :
    Calls Tryz.prog 54 #[.int .i64 x] w fun e w' => e = .returned (.agg #[.int .i64 (uG x 0), .int .i64 (uG x 1), .int .i64 (uG x 2)]) ∧ Below w.heap.size w w' := by
  unfold Six at hx
  rcases hx with rfl | rfl | rfl | rfl | rfl | rfl <;>
  · go_enter Tryz.func54, Tryz.ntmps54
    go_wp2
    exact bodyPost_ret (v := .agg #[.int .i64 (uG _ 0), .int .i64 (uG _ 1), .int .i64 (uG _ 2)]) (by simp [results, Tryz.results54, go_sem]; decide) rfl ⟨rfl, by go_grown⟩

section
variable (D : Nat) (a : Option Addr) (cap : Nat) (z : List Int) (hl : z.length ≤ 1048576) (w : World) (hr : IRow 0 w.heap.size w a z)
include hl hr
end
section
variable (d : Int) (a : Option Addr) (cap : Nat) (z : List Int) (hl : z.length ≤ 1048576) (w : World) (hr : IRow 0 w.heap.size w a z)
include hl hr
end
end Go.Proofs.YtddfijlgehpjfaaGreatDoor
