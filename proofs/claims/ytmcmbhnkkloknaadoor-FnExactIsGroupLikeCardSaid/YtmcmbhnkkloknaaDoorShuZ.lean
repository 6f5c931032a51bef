/-
  The program's ShuffleWords where it gives words: it appends a term for each word that its walk yields.
-/
import Derived.Test.YtmcmbhnkkloknaaDoorShuY
import Derived.Test.YtmcmbhnkkloknaaDoorShuF
import Derived.Test.YtmcmbhnkkloknaaDoorNew
import Derived.Test.YtmcmbhnkkloknaaDoorNew4
import Derived.Test.YtmcmbhnkkloknaaDoorUnitS
import Derived.Test.YtmcmbhnkkloknaaDoorMapV
import Derived.RangeFuncBox
import Derived.RangeFuncNested
import Derived.RangeFuncCalls
import Derived.RangeFuncLeaves
import Derived.RangeFuncFrom
import Derived.Shelf.Abstract
import Derived.WalkKit
import Derived.OwnWalkIn
import Derived.TacticsInMore
import Derived.LoopNIn
import Derived.LoopIn
import Derived.Shelf.RegionOpen
import Derived.Test.YtmcmbhnkkloknaaDoorPwR
namespace Go.Proofs.YtmcmbhnkkloknaaDoor
open Go.RowKit Go.Shelf
set_option linter.unusedVariables false

attribute [local go_sem] Oper.semAt_some

theorem keeps_below2 {W W' : World} (h : Below W.heap.size W W') : KeepsOthers W W' := ⟨h.size, fun _ _ hk _ => (h.block _ (Array.getElem?_eq_some_iff.1 hk).1).trans hk⟩
theorem own_below' {W W' : World} {base : Nat} {e : TypeId} {size : Nat} {v : Value} {n : Nat} {xs : List Value} (h : W.ownsRow base e size v n xs) (hb : Below W.heap.size W W') : W'.ownsRow base e size v n xs := by
  refine h.kept (⟨hb.os, hb.tape, hb.output, hb.size, fun k hk _ => hb.block k hk⟩ : W.grownBy W' none) ?_
  rcases h.2 with ⟨rfl, _⟩ | ⟨g, cap, cur, rfl, _⟩
  · exact .inl rfl
  · exact .inr (by simp [Value.ownBlock])
theorem made_kept2 {W W' : World} {row : Option Nat} {g m : Nat} (h : Made W g m) (hg : W.grownBy W' row) (hrow : ∀ r, row = some r → ∃ o : Obj, W.heap[r]? = some o ∧ o.isCells = false) : Made W' g m :=
  ⟨Nat.lt_of_lt_of_le h.1 hg.size, fun j hj => by
    obtain ⟨⟨v, hv⟩, hf⟩ := h.2 j hj
    exact ⟨⟨v, cell_kept hv hg hrow⟩, (frozen_kept hv hg hrow).trans hf⟩⟩
def tmE (x : ByteArray × Nat) : Tm := ⟨x.1, (x.2 : Int), 1⟩
theorem each_terms {D : Nat} (hD : D ≤ 3) {v u : ByteArray} (hv : wordB (D : Int) v.data.toList = true) (hu : wordB (D : Int) u.data.toList = true) : (eachL v.data.toList u.data.toList (v.size + u.size) ByteArray.empty).map tmE = shL D v u := by
  rw [eachL_is hD hv hu, List.map_map]
  rfl
theorem areWithin_c (n : Int) (v u : ByteArray) (hv : v.size ≤ 1048576) (hu : u.size ≤ 1048576) (W : World) : Calls Tryd.prog 39 #[.int .i64 n, .string v, .string u] W fun e w' => e = .returned (.bool (decide ((v.size : Int) + (u.size : Int) ≤ n))) ∧ w' = W := by
  go_enter Tryd.func39, Tryd.ntmps39
  go_wp2
  go_ret
  exact ⟨rfl, rfl⟩
end Go.Proofs.YtmcmbhnkkloknaaDoor
