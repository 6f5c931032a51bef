/-
  The model's ShuffleWords where it gives words: its loop over them.
-/
import Derived.Test.YtmcmbhnkkloknaaDoorShuX
namespace Go.Proofs.YtmcmbhnkkloknaaDoor
open Go.RowKit
set_option linter.unusedVariables false

/-- the term of a word of a shuffle, and all of them -/
def shT (v w s : ByteArray) : Tm := ⟨s, ((shN v.data.toList w.data.toList s.data.toList : Nat) : Int), 1⟩
def shL (D : Nat) (v w : ByteArray) : List Tm := ((wordsL D (v.size + w.size)).filter (shP v w)).map (shT v w)
theorem shL_few {D : Nat} {v w : ByteArray} (hD : D ≤ 3) (h : v.size + w.size ≤ 5) : (shL D v w).length ≤ 1000 := by
  have := wordsL_few (d := D) (n := v.size + w.size) hD h
  unfold shL
  rw [List.length_map]
  have h2 := List.length_filter_le (shP v w) (wordsL D (v.size + w.size))
  omega
theorem take_map_next {α β : Type} (f : α → β) (l : List α) (i : Nat) (h : i < l.length) : (l.take (i + 1)).map f = (l.take i).map f ++ [f l[i]] := by
  rw [List.take_succ_eq_append_getElem h, List.map_append]
  rfl
theorem cell_of_heap {w w' : World} (h : w'.heap = w.heap) (p : Addr) : w'.cell? p = w.cell? p := by unfold World.cell?; rw [h]
theorem frozen_of_heap {w w' : World} (h : w'.heap = w.heap) (p : Addr) : w'.frozen? p = w.frozen? p := by unfold World.frozen?; rw [h]
theorem cell_heap {w w' : World} {b : Nat} (h : w'.heap[b]? = w.heap[b]?) (k : Nat) : w'.cell? ⟨b, k, none⟩ = w.cell? ⟨b, k, none⟩ := by unfold World.cell?; simp only [h]
theorem OwnT.of_heap {w w' : World} {B : Nat} {v : Value} {ts : List Tm} (h : OwnT w B v ts) (e : w'.heap = w.heap) : OwnT w' B v ts := by
  unfold OwnT World.ownsRow at h ⊢
  rw [e]; exact h
theorem Blk.of_heap {w w' : World} {g : Nat} {t : TypeId} {cs : Array Value} (h : Blk w g t cs) (e : w'.heap = w.heap) : Blk w' g t cs := by
  unfold Blk at h ⊢
  rw [e]; exact h
/-- where the loop over the words stands -/
def ShRel (F : Nat → List Tm) (m B n b : Nat) (x y : Value) (W : World) (vi : Value) (wr : World) : Prop :=
  ∃ (k : Nat) (a : Option Addr) (l c : Nat), k ≤ m ∧ vi = .int .i64 k ∧ l = (F k).length ∧ OwnT wr B (.slice a l c) (F k) ∧ (Value.slice a l c).ownBlock ≠ some n ∧ (Value.slice a l c).ownBlock ≠ some b ∧ Blk wr n 30 #[x, y, .slice a l c] ∧ Below B W wr ∧ wr.heap[b]? = W.heap[b]?
theorem ShRel.step {F : Nat → List Tm} {m B n b : Nat} {x y : Value} {W wr w2 : World} {k lv cv gg cg : Nat} {av : Option Addr} (t : Tm) (hk : k + 1 ≤ m) (hF : F (k + 1) = F k ++ [t])
    (hl : lv = (F k).length) (hO : OwnT wr B (.slice av lv cv) (F k)) (hn : (Value.slice av lv cv).ownBlock ≠ some n) (hb : (Value.slice av lv cv).ownBlock ≠ some b) (hBl : Blk wr n 30 #[x, y, .slice av lv cv]) (hB : Below B W wr) (hH : wr.heap[b]? = W.heap[b]?) (hnB : B ≤ n) (hBw : B ≤ wr.heap.size) (hnb : n ≠ b) (hbw : b < wr.heap.size)
    (hown : w2.ownsRow B 59 3 (.slice (some ⟨gg, 0, none⟩) (lv + 1) cg) (lv + 1) (cellsT (F k) ++ [.string t.s, .int .i64 t.n, .int .i64 t.d]))
    (hgrow : (wr.alloc (.cells #[.string t.s, .int .i64 t.n, .int .i64 t.d] 59)).grownBy w2 (Value.slice av lv cv).ownBlock) (hat : (Value.slice av lv cv).ownBlock = some gg ∨ gg = wr.heap.size + 1) :
    ShRel F m B n b x y W (.int .i64 ((k : Int) + 1)) (w2.setCell ⟨n, 2, none⟩ (.slice (some ⟨gg, 0, none⟩) (lv + 1) cg)) := by
  have hlt := hBl.lt
  have hne : gg ≠ n := by
    rcases hat with h | h
    · intro e; rw [h, e] at hn; exact hn rfl
    · omega
  have hneb : gg ≠ b := by
    rcases hat with h | h
    · intro e; rw [h, e] at hb; exact hb rfl
    · omega
  have hl2 : lv + 1 = (F (k + 1)).length := by rw [hF, hl]; simp
  refine ⟨k + 1, some ⟨gg, 0, none⟩, lv + 1, cg, hk, by go_num, hl2, ?_, ?_, ?_, ?_, ?_, ?_⟩
  · refine OwnT.far ?_ (fun e => hne (by simpa [Value.ownBlock] using e)) _
    unfold OwnT
    rw [← hl2, hF, cellsT_append]
    exact hown
  · intro e; exact hne (by simpa [Value.ownBlock] using e)
  · intro e; exact hneb (by simpa [Value.ownBlock] using e)
  · have h1 : Blk (wr.alloc (.cells #[.string t.s, .int .i64 t.n, .int .i64 t.d] 59)) n 30 #[x, y, .slice av lv cv] := hBl.alloc _
    exact (h1.grown hgrow (Ne.symm hn)).set_ 2 _
  · have h1 : Below B W (wr.alloc (.cells #[.string t.s, .int .i64 t.n, .int .i64 t.d] 59)) := hB.alloc hBw _
    exact (h1.trans (below_of_grown hgrow (fun g h => (hO.lt g h).1) (by simp; omega))).setCell (p := ⟨n, 2, none⟩) hnB _
  · rw [Below.heap_setCell _ _ _ b (fun e => hnb e.symm)]
    exact ((hgrow.block b (by simp; omega) (fun e => hb e.symm)).trans (Below.heap_alloc wr _ b hbw)).trans hH
/-- the number of a word, as one step of a region that draws -/
theorem step_num {ops : Array Oper} {o : Oper} {a : Act} {w : World} {K : Act → World → Prop} {Q : Exit → Act → World → Prop} {E : Prop} (hg : o.guard = none) (x y z : Operand)
    (ho : o.op = .call { callee := .value (.func 48), args := #[x, y, z], argTypes := #[9, 9, 9] }) (v u s : ByteArray) (hx : a.eval x = .string v) (hy : a.eval y = .string u) (hz : a.eval z = .string s) (r : Int)
    (hN : ∀ W : World, Calls Tryd.prog 48 #[.string v, .string u, .string s] W fun e w' => e = .returned (.int .i64 r) ∧ ∃ m, w' = W.drewN m)
    (h : ∀ w', w'.heap = w.heap → Below w.heap.size w w' → K (a.put o.dst (.int .i64 r)) w') : if Region.wanted o (yielded ops a.tmps) = true then Oper.wp Tryd.prog o a w K Q else E := by
  have hw : Region.wanted o (yielded ops a.tmps) = true := by simp [Region.wanted, hg]
  rw [if_pos hw]
  unfold Oper.wp
  have hrun : (execOp a.eval o).run Tryd.prog w = .ok (.enter 48 #[.string v, .string u, .string s]) w := by
    simpa [execOp, ho, resolve, invoke, Deferred.ofValue, go_sem] using (⟨hx, hy, hz⟩ : _ ∧ _ ∧ _)
  rw [hrun, Oper.upon_enter]
  refine (hN w).mono ?_
  rintro e w' ⟨rfl, m, rfl⟩
  exact h _ rfl (below_drewN m)
end Go.Proofs.YtmcmbhnkkloknaaDoor
