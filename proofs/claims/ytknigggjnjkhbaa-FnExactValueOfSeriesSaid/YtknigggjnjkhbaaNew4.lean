/-
  Boxes of a fraction, beside calls that make memory.
  newSeries of the program at longer rows of terms (sums of two series): New has it.
-/
import Derived.Test.YtknigggjnjkhbaaAddP
import Derived.Test.YtknigggjnjkhbaaNew
namespace Go.Proofs.Ytknigggjnjkhbaa
open Go.RowKit

theorem Box2.next {w w' : World} {g : Nat} {a b : Int} (h : Box2 w g a b) (hb : Below w.heap.size w w') : Box2 w' g a b := h.below hb h.1
theorem Box2.drew {w : World} {g : Nat} {a b : Int} (h : Box2 w g a b) : Box2 w.drew g a b := h
theorem Box2.alloc {w : World} {g : Nat} {a b : Int} (h : Box2 w g a b) (o : Obj) : Box2 (w.alloc o) g a b := h.next (below1 w o)
theorem Box2.newAt {w : World} {g : Nat} {a b : Int} {t : TypeId} (h : g = w.heap.size) : Box2 (w.alloc (.cells #[.int .i64 a, .int .i64 b] t)) g a b := by
  subst h
  exact Box2.new w a b t
theorem Box2.fill {w : World} {g : Nat} {x y : Int} (h : Box2 w g 0 0) : Box2 ((w.setCell ⟨g, 0, none⟩ (.int .i64 x)).setCell ⟨g, 1, none⟩ (.int .i64 y)) g x y := h.store x y
/-- a fraction in a box of its own, and a mark -/
def FrCut (wb : World) (a b : Int) (v v' : Value) (wy : World) : Prop := ∃ g, v = .pointer (some ⟨g, 0, none⟩) ∧ v' = .bool true ∧ wb.heap.size ≤ g ∧ Below wb.heap.size wb wy ∧ Box2 wy g a b
def FrCut1 (wb : World) (a b : Int) (v : Value) (wy : World) : Prop := ∃ g, v = .pointer (some ⟨g, 0, none⟩) ∧ wb.heap.size ≤ g ∧ Below wb.heap.size wb wy ∧ Box2 wy g a b
/-- the same, with whatever mark -/
def FrCutB (wb : World) (a b : Int) (ok : Bool) (v v' : Value) (wy : World) : Prop := ∃ g, v = .pointer (some ⟨g, 0, none⟩) ∧ v' = .bool ok ∧ wb.heap.size ≤ g ∧ Below wb.heap.size wb wy ∧ Box2 wy g a b
end Go.Proofs.Ytknigggjnjkhbaa


