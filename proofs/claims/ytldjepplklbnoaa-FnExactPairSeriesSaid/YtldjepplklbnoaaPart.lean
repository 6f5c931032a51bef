/-
  The part of a length, of the model: the terms that are kept one by one.
-/
import Derived.Test.YtldjepplklbnoaaTol
import Derived.Test.YtldjepplklbnoaaNew
import Derived.Test.YtldjepplklbnoaaOwn
import Derived.WalkSpells
import Derived.StillTactics
import Derived.StillTailTactics
import Derived.OwnWalk
import Derived.Laws.Pointers
namespace Go.Proofs.Ytldjepplklbnoaa
open Go.RowKit

def Blk (w : World) (g : Nat) (t : TypeId) (cs : Array Value) : Prop := w.heap[g]? = some (.cells cs t (0, 0))
section
variable {w w' : World} {g : Nat} {t : TypeId} {cs : Array Value}
theorem Blk.lt (h : Blk w g t cs) : g < w.heap.size := by
  rcases Nat.lt_or_ge g w.heap.size with hlt | hge
  · exact hlt
  · unfold Blk at h; rw [Array.getElem?_eq_none hge] at h; cases h
theorem Blk.cell (h : Blk w g t cs) (i : Nat) : w.cell? ⟨g, i, none⟩ = cs[i]? := cell_of_row w g i cs t (0, 0) h
theorem Blk.frozen (h : Blk w g t cs) (i : Nat) : w.frozen? ⟨g, i, none⟩ = false := by
  unfold Blk at h
  simp [World.frozen?, h]
theorem Blk.new (w : World) (t : TypeId) (cs : Array Value) : Blk (w.alloc (.cells cs t)) w.heap.size t cs := heap_alloc_new w _
theorem Blk.alloc (h : Blk w g t cs) (o : Obj) : Blk (w.alloc o) g t cs := (Below.heap_alloc w o g h.lt).trans h
theorem Blk.set_ (h : Blk w g t cs) (i : Nat) (u : Value) : Blk (w.setCell ⟨g, i, none⟩ u) g t (cs.setIfInBounds i u) := by
  unfold Blk at h ⊢
  simp [World.setCell, Array.getElem?_modify, h]
theorem Blk.far (h : Blk w g t cs) {p : Addr} (hp : g ≠ p.block) (u : Value) : Blk (w.setCell p u) g t cs := (Below.heap_setCell w p u g hp).trans h
theorem Blk.below {B : Nat} (h : Blk w g t cs) (hb : Below B w w') (hg : g < B) : Blk w' g t cs := (hb.block g hg).trans h
theorem Blk.grown {row : Option Nat} (h : Blk w g t cs) (hb : w.grownBy w' row) (hg : some g ≠ row) : Blk w' g t cs := (hb.block g h.lt hg).trans h
end

theorem OwnT.emptyRow {w : World} {base g : Nat} (h : Blk w g 49 #[]) (hb : base ≤ g) : OwnT w base (.slice (some ⟨g, 0, none⟩) 0 0) [] :=
  ⟨rfl, .inr ⟨g, 0, #[], rfl, hb, h, Nat.le_refl _, Nat.zero_le _, rfl, rfl⟩⟩

theorem OwnT.mono {w : World} {base base' : Nat} {v : Value} {ts : List Tm} (h : OwnT w base v ts) (hb : base' ≤ base) : OwnT w base' v ts := by
  rcases h with ⟨hl, h | ⟨g, cap, cur, rfl, hbg, rest⟩⟩
  · exact ⟨hl, .inl h⟩
  · exact ⟨hl, .inr ⟨g, cap, cur, rfl, Nat.le_trans hb hbg, rest⟩⟩

def EmptyPost (L V : Int) (W : World) (e : Ending) (w' : World) : Prop :=
  ∃ g, e = .returned (.agg #[.int .i64 L, .int .i64 V, .slice (some ⟨g, 0, none⟩) 0 0]) ∧ OwnT w' W.heap.size (.slice (some ⟨g, 0, none⟩) 0 0) [] ∧ Below W.heap.size W w'
/-- what a function that returns a series alone comes to -/
def SerOnly (L V : Int) (ts : List Tm) (W : World) (e : Ending) (w' : World) : Prop :=
  ∃ (a : Option Addr) (cap : Nat), e = .returned (.agg #[.int .i64 L, .int .i64 V, .slice a ts.length cap]) ∧ Below W.heap.size W w' ∧ NewRow W.heap.size w'.heap.size w' a ts

theorem filter_snoc {p : Tm → Bool} {ts : List Tm} {k : Nat} (hk : k < ts.length) : (ts.take (k + 1)).filter p = (ts.take k).filter p ++ (if p ts[k] then [ts[k]] else []) := by
  rw [List.take_succ_eq_append_getElem hk, List.filter_append]
  congr 1
  by_cases h : p ts[k] = true <;> simp [h]
theorem filter_le {p : Tm → Bool} {ts : List Tm} {k : Nat} : ((ts.take k).filter p).length ≤ ts.length :=
  Nat.le_trans (List.length_filter_le _ _) (by rw [List.length_take]; omega)

theorem own_far {w : World} {base n : Nat} {v : Value} {ts : List Tm} (h : OwnT w base v ts) (hn : n < base) : v.ownBlock ≠ some n := fun e => by
  have := (h.lt n e).1
  omega

theorem frozen_alloc_lt {w : World} (o : Obj) {n i : Nat} (h : n < w.heap.size) : (w.alloc o).drew.frozen? ⟨n, i, none⟩ = w.frozen? ⟨n, i, none⟩ := (below1 w o).frozen (p := ⟨n, i, none⟩) h

/-- where such a loop stands: so many rounds are done, and what they have kept is owned by the value in the variable's third cell -/
def AccRel (F : Nat → List Tm) (m B n : Nat) (x y : Value) (W : World) (vi : Value) (wr : World) : Prop :=
  ∃ (k : Nat) (a : Option Addr) (l c : Nat), k ≤ m ∧ vi = .int .i64 k ∧ l = (F k).length ∧ OwnT wr B (.slice a l c) (F k) ∧ (Value.slice a l c).ownBlock ≠ some n ∧ Blk wr n 32 #[x, y, .slice a l c] ∧ Below B W wr
theorem AccRel.step {F : Nat → List Tm} {m B n : Nat} {x y : Value} {W wr w2 : World} {k lv cv gg cg : Nat} {av : Option Addr} (t : Tm) (hk : k + 1 ≤ m) (hF : F (k + 1) = F k ++ [t])
    (hl : lv = (F k).length) (hO : OwnT wr B (.slice av lv cv) (F k)) (hn : (Value.slice av lv cv).ownBlock ≠ some n) (hBl : Blk wr n 32 #[x, y, .slice av lv cv]) (hB : Below B W wr) (hnB : B ≤ n) (hBw : B ≤ wr.heap.size)
    (hown : w2.ownsRow B 49 3 (.slice (some ⟨gg, 0, none⟩) (lv + 1) cg) (lv + 1) (cellsT (F k) ++ [.string t.s, .int .i64 t.n, .int .i64 t.d]))
    (hgrow : ((wr.alloc (.cells #[.string t.s, .int .i64 t.n, .int .i64 t.d] 49)).drew).grownBy w2 (Value.slice av lv cv).ownBlock) (hat : (Value.slice av lv cv).ownBlock = some gg ∨ gg = wr.heap.size + 1) :
    AccRel F m B n x y W (.int .i64 ((k : Int) + 1)) (w2.setCell ⟨n, 2, none⟩ (.slice (some ⟨gg, 0, none⟩) (lv + 1) cg)) := by
  have hlt := hBl.lt
  have hne : gg ≠ n := by
    rcases hat with h | h
    · intro e; rw [h, e] at hn; exact hn rfl
    · omega
  have hl2 : lv + 1 = (F (k + 1)).length := by rw [hF, hl]; simp
  refine ⟨k + 1, some ⟨gg, 0, none⟩, lv + 1, cg, hk, by go_num, hl2, ?_, ?_, ?_, ?_⟩
  · refine OwnT.far ?_ (fun e => hne (by simpa [Value.ownBlock] using e)) _
    unfold OwnT
    rw [← hl2, hF, cellsT_append]
    exact hown
  · intro e; exact hne (by simpa [Value.ownBlock] using e)
  · have h1 : Blk (wr.alloc (.cells #[.string t.s, .int .i64 t.n, .int .i64 t.d] 49)).drew n 32 #[x, y, .slice av lv cv] := hBl.alloc _
    exact (h1.grown hgrow (Ne.symm hn)).set_ 2 _
  · have h1 : Below B W (wr.alloc (.cells #[.string t.s, .int .i64 t.n, .int .i64 t.d] 49)).drew := by
      have h := hB.alloc hBw (.cells #[.string t.s, .int .i64 t.n, .int .i64 t.d] 49)
      exact ⟨h.os, h.tape, h.output, h.size, h.block⟩
    exact (h1.trans (below_of_grown hgrow (fun g h => (hO.lt g h).1) (by simp; omega))).setCell (p := ⟨n, 2, none⟩) hnB _
theorem AccRel.skip {F : Nat → List Tm} {m B n : Nat} {x y : Value} {W wr : World} {k lv cv : Nat} {av : Option Addr} (hk : k + 1 ≤ m) (hF : F (k + 1) = F k)
    (hl : lv = (F k).length) (hO : OwnT wr B (.slice av lv cv) (F k)) (hn : (Value.slice av lv cv).ownBlock ≠ some n) (hBl : Blk wr n 32 #[x, y, .slice av lv cv]) (hB : Below B W wr) :
    AccRel F m B n x y W (.int .i64 ((k : Int) + 1)) wr :=
  ⟨k + 1, av, lv, cv, hk, by go_num, by rw [hF]; exact hl, by rw [hF]; exact hO, hn, hBl, hB⟩

end Go.Proofs.Ytldjepplklbnoaa
