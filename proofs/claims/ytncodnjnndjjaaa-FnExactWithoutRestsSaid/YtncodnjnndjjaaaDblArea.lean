/-
  Contracts of DoubleArea, of the program and of its model: both return the same number and code.
-/
import Derived.Test.YtncodnjnndjjaaaEndOf
import Derived.RegionTactic
import Derived.BigRegion
namespace Go.Proofs.Ytncodnjnndjjaaa
open Go.RowKit

/-- what a function that returns a number and a code comes to -/
def IntPost (z : Int) (c : Int) (W : World) (e : Ending) (w' : World) : Prop := e = .returned (.tuple #[.int .i64 z, .int .i64 c]) ∧ Below W.heap.size W w'

/-- the double area of the first steps -/
def areaK (ps : List (List Int)) (i m : Nat) : Nat → Int
  | 0 => 0
  | k + 1 => areaK ps i m k + (posK ps k i * (ps.getD k []).getD m 0 - posK ps k m * (ps.getD k []).getD i 0)
theorem areaK_bd {L : Nat} {ps : List (List Int)} (h : SmallP L ps) (i m : Nat) : ∀ k : Nat, k ≤ 12 → -(240000 * (k : Int)) ≤ areaK ps i m k ∧ areaK ps i m k ≤ 240000 * k
  | 0, _ => by simp [areaK]
  | k + 1, hk => by
    have ih := areaK_bd h i m k (by omega)
    have a := mul_small (posK_bd12 h (k := k) (by omega) i) (h.get k m)
    have b := mul_small (posK_bd12 h (k := k) (by omega) m) (h.get k i)
    simp only [areaK]
    omega
theorem areaK_succ (ps : List (List Int)) (i m k : Nat) : areaK ps i m (k + 1) = areaK ps i m k + (posK ps k i * (ps.getD k []).getD m 0 - posK ps k m * (ps.getD k []).getD i 0) := rfl

section
variable (lo hi : Nat) (L : Int) (a : Option Addr) (cap : Nat) (ps : List (List Int)) (i m : Int) (hl : ps.length ≤ 1048576) (hs : flat ps ≤ 1048576) (w : World) (hr : PRow lo hi w a ps)
include hl hs hr
end

theorem Tri.at_ {w : World} {g : Nat} {f : Nat → Int} (h : Tri w g (f 0) (f 1) (f 2)) {i : Nat} (hi : i < 3) : w.cell? ⟨g, i, none⟩ = some (.int .i64 (f i)) := by
  have : i = 0 ∨ i = 1 ∨ i = 2 := by omega
  rcases this with rfl | rfl | rfl
  · exact h.2.1
  · exact h.2.2.1
  · exact h.2.2.2.1

end Go.Proofs.Ytncodnjnndjjaaa
