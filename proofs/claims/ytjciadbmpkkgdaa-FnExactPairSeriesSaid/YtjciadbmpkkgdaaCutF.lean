/-
  A law's value that stands behind a drawn order: a fraction in a box, the code in its slot.
-/
import Derived.Test.YtjciadbmpkkgdaaPairS
import Derived.Test.YtjciadbmpkkgdaaCutW
namespace Go.Proofs.Ytjciadbmpkkgdaa
open Go.RowKit

def CutF (w2 : World) (n d c : Int) (v6 v7 : Value) (wy : World) : Prop := FCut w2 n d v6 wy ∧ v7 = .int .i64 c
theorem CutF.new {w2 wF : World} {n d c : Int} {t : TypeId} (hF : Below w2.heap.size w2 wF) : CutF w2 n d c (.pointer (some ⟨wF.heap.size, 0, none⟩)) (.int .i64 c) (wF.alloc (.cells #[.int .i64 n, .int .i64 d] t)) :=
  ⟨⟨wF.heap.size, rfl, hF.size, hF.alloc hF.size _, Box2.new _ _ _ _⟩, rfl⟩
theorem CutF.old {w2 wF : World} {n d c : Int} {g : Nat} (zz : Box2 wF g 0 0) (hF : Below w2.heap.size w2 wF) (hg : w2.heap.size ≤ g) : CutF w2 n d c (.pointer (some ⟨g, 0, none⟩)) (.int .i64 c) ((wF.setCell ⟨g, 0, none⟩ (.int .i64 n)).setCell ⟨g, 1, none⟩ (.int .i64 d)) :=
  ⟨⟨g, rfl, hg, (hF.setCell (p := ⟨g, 0, none⟩) hg _).setCell (p := ⟨g, 1, none⟩) hg _, zz.store n d⟩, rfl⟩
theorem held33p {i j g : Nat} {a b c x y z p q : Value} {W w' : World} (hb : Below W.heap.size W w') (hi : i < W.heap.size) (hj : j < W.heap.size) (hg : W.heap.size ≤ g)
    (h : W.cell? ⟨i, 0, none⟩ = some a ∧ W.cell? ⟨i, 1, none⟩ = some b ∧ W.cell? ⟨i, 2, none⟩ = some c ∧ W.cell? ⟨j, 0, none⟩ = some x ∧ W.cell? ⟨j, 1, none⟩ = some y ∧ W.cell? ⟨j, 2, none⟩ = some z) :
    ((w'.setCell ⟨g, 0, none⟩ p).setCell ⟨g, 1, none⟩ q).cell? ⟨i, 0, none⟩ = some a ∧ ((w'.setCell ⟨g, 0, none⟩ p).setCell ⟨g, 1, none⟩ q).cell? ⟨i, 1, none⟩ = some b ∧ ((w'.setCell ⟨g, 0, none⟩ p).setCell ⟨g, 1, none⟩ q).cell? ⟨i, 2, none⟩ = some c ∧
      ((w'.setCell ⟨g, 0, none⟩ p).setCell ⟨g, 1, none⟩ q).cell? ⟨j, 0, none⟩ = some x ∧ ((w'.setCell ⟨g, 0, none⟩ p).setCell ⟨g, 1, none⟩ q).cell? ⟨j, 1, none⟩ = some y ∧ ((w'.setCell ⟨g, 0, none⟩ p).setCell ⟨g, 1, none⟩ q).cell? ⟨j, 2, none⟩ = some z := by
  rw [far_pair (by omega), far_pair (by omega), far_pair (by omega), far_pair (by omega), far_pair (by omega), far_pair (by omega)]
  exact held33 hb hi hj h
end Go.Proofs.Ytjciadbmpkkgdaa
