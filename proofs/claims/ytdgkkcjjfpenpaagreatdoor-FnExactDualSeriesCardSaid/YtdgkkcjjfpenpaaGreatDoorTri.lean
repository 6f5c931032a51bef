/-
  A series and a mark that a call returns, in one form whether it fits or not; boxes of three cells; rows that lie in neither of two blocks.
-/
import Derived.Test.YtdgkkcjjfpenpaaGreatDoorSumL
import Derived.Test.YtdgkkcjjfpenpaaGreatDoorPrM
namespace Go.Proofs.YtdgkkcjjfpenpaaGreatDoor
open Go.RowKit

/-- a series and its mark, as one: all zero if something does not fit -/
def SumU (L V : Int) (r : Option (List Tm)) (lo : Nat) (X Y : Int) (a : Option Addr) (l c : Nat) (ok : Bool) (w' : World) : Prop :=
  match r with
  | none => X = 0 ∧ Y = 0 ∧ a = none ∧ l = 0 ∧ c = 0 ∧ ok = false
  | some ts => X = L ∧ Y = V ∧ l = ts.length ∧ ok = true ∧ NewRow lo w'.heap.size w' a ts
theorem SumPost.u {L V : Int} {r : Option (List Tm)} {W w' : World} {e : Ending} (h : SumPost L V r W e w') :
    ∃ (X Y : Int) (a : Option Addr) (l c : Nat) (ok : Bool), e = .returned (.tuple #[.agg #[.int .i64 X, .int .i64 Y, .slice a l c], .bool ok]) ∧ Below W.heap.size W w' ∧ SumU L V r W.heap.size X Y a l c ok w' := by
  cases r with
  | none => exact ⟨0, 0, none, 0, 0, false, h.1, h.2, rfl, rfl, rfl, rfl, rfl, rfl⟩
  | some ts =>
    obtain ⟨a, c, e, hb, hN⟩ := h
    exact ⟨L, V, a, ts.length, c, true, e, hb, rfl, rfl, rfl, rfl, hN⟩
theorem SumU.back {L V X Y : Int} {r : Option (List Tm)} {lo l c : Nat} {a : Option Addr} {ok : Bool} {W w' : World} (h : SumU L V r lo X Y a l c ok w') (hb : Below W.heap.size W w') (hl : W.heap.size ≤ lo) :
    SumPost L V r W (.returned (.tuple #[.agg #[.int .i64 X, .int .i64 Y, .slice a l c], .bool ok])) w' := by
  cases r with
  | none => obtain ⟨rfl, rfl, rfl, rfl, rfl, rfl⟩ := h; exact ⟨rfl, hb⟩
  | some ts => obtain ⟨rfl, rfl, rfl, rfl, hN⟩ := h; exact ⟨a, c, rfl, hb, hN.mono hl (Nat.le_refl _)⟩
theorem SumU.mono {L V X Y : Int} {r : Option (List Tm)} {lo lo' l c : Nat} {a : Option Addr} {ok : Bool} {w' : World} (h : SumU L V r lo X Y a l c ok w') (hl : lo' ≤ lo) : SumU L V r lo' X Y a l c ok w' := by
  cases r with
  | none => exact h
  | some ts => exact ⟨h.1, h.2.1, h.2.2.1, h.2.2.2.1, h.2.2.2.2.mono hl (Nat.le_refl _)⟩
theorem SumU.below {L V X Y : Int} {r : Option (List Tm)} {lo l c : Nat} {a : Option Addr} {ok : Bool} {w' w2 : World} (h : SumU L V r lo X Y a l c ok w') (hb : Below w'.heap.size w' w2) : SumU L V r lo X Y a l c ok w2 := by
  cases r with
  | none => exact h
  | some ts => exact ⟨h.1, h.2.1, h.2.2.1, h.2.2.2.1, (h.2.2.2.2.below hb (Nat.le_refl _)).mono (Nat.le_refl _) hb.size⟩
theorem SumU.far {L V X Y : Int} {r : Option (List Tm)} {lo l c n i : Nat} {a : Option Addr} {ok : Bool} {w' : World} {u : Value} (h : SumU L V r lo X Y a l c ok w') (hn : n < lo) : SumU L V r lo X Y a l c ok (w'.setCell ⟨n, i, none⟩ u) := by
  cases r with
  | none => exact h
  | some ts => exact ⟨h.1, h.2.1, h.2.2.1, h.2.2.2.1, (h.2.2.2.2.far1s hn).mono (Nat.le_refl _) (by simp)⟩
/-- block g is a box of three cells and may be written -/
def T3 (w : World) (g : Nat) (x y z : Value) : Prop := g < w.heap.size ∧ w.cell? ⟨g, 0, none⟩ = some x ∧ w.cell? ⟨g, 1, none⟩ = some y ∧ w.cell? ⟨g, 2, none⟩ = some z ∧
  w.frozen? ⟨g, 0, none⟩ = false ∧ w.frozen? ⟨g, 1, none⟩ = false ∧ w.frozen? ⟨g, 2, none⟩ = false
theorem T3.below {w w' : World} {B g : Nat} {x y z : Value} (h : T3 w g x y z) (hb : Below B w w') (hg : g < B) : T3 w' g x y z := by
  obtain ⟨h0, h1, h2, h3, h4, h5, h6⟩ := h
  exact ⟨Nat.lt_of_lt_of_le h0 hb.size, (hb.cell (p := ⟨g, 0, none⟩) hg).trans h1, (hb.cell (p := ⟨g, 1, none⟩) hg).trans h2, (hb.cell (p := ⟨g, 2, none⟩) hg).trans h3,
    (hb.frozen (p := ⟨g, 0, none⟩) hg).trans h4, (hb.frozen (p := ⟨g, 1, none⟩) hg).trans h5, (hb.frozen (p := ⟨g, 2, none⟩) hg).trans h6⟩
theorem T3.next {w w' : World} {g : Nat} {x y z : Value} (h : T3 w g x y z) (hb : Below w.heap.size w w') : T3 w' g x y z := h.below hb h.1
theorem T3.new (w : World) (x y : Int) (a : Option Addr) (l c : Nat) (t : TypeId) : T3 (w.alloc (.cells #[.int .i64 x, .int .i64 y, .slice a l c] t)) w.heap.size (.int .i64 x) (.int .i64 y) (.slice a l c) :=
  ⟨by simp, by go_simp, by go_simp, by go_simp, by go_simp, by go_simp, by go_simp⟩
theorem T3.newAt {w : World} {g : Nat} {x y : Int} {a : Option Addr} {l c : Nat} {t : TypeId} (h : g = w.heap.size) : T3 (w.alloc (.cells #[.int .i64 x, .int .i64 y, .slice a l c] t)) g (.int .i64 x) (.int .i64 y) (.slice a l c) := by
  subst h
  exact T3.new w x y a l c t
theorem T3.alloc {w : World} {g : Nat} {x y z : Value} (h : T3 w g x y z) (o : Obj) : T3 (w.alloc o) g x y z := h.next (below1 w o)
theorem T3.drew {w : World} {g : Nat} {x y z : Value} (h : T3 w g x y z) : T3 w.drew g x y z := h
theorem T3.far {w : World} {g n i : Nat} {x y z u : Value} (h : T3 w g x y z) (hn : n ≠ g) : T3 (w.setCell ⟨n, i, none⟩ u) g x y z := by
  obtain ⟨h0, h1, h2, h3, h4, h5, h6⟩ := h
  refine ⟨by simpa using h0, ?_, ?_, ?_, by simpa using h4, by simpa using h5, by simpa using h6⟩
  · rw [World.cell?_setCell_far _ _ _ _ hn]; exact h1
  · rw [World.cell?_setCell_far _ _ _ _ hn]; exact h2
  · rw [World.cell?_setCell_far _ _ _ _ hn]; exact h3
theorem T3.set3 {w : World} {g : Nat} {x y z x' y' z' : Value} (h : T3 w g x y z) : T3 (((w.setCell ⟨g, 0, none⟩ x').setCell ⟨g, 1, none⟩ y').setCell ⟨g, 2, none⟩ z') g x' y' z' := by
  obtain ⟨h0, h1, h2, h3, h4, h5, h6⟩ := h
  have n1 : (⟨g, 0, none⟩ : Addr) ≠ ⟨g, 1, none⟩ := by simp
  have n2 : (⟨g, 2, none⟩ : Addr) ≠ ⟨g, 0, none⟩ := by simp
  have n3 : (⟨g, 2, none⟩ : Addr) ≠ ⟨g, 1, none⟩ := by simp
  refine ⟨by simpa using h0, ?_, ?_, ?_, by simpa using h4, by simpa using h5, by simpa using h6⟩
  · rw [World.cell?_setCell_other _ _ _ _ n2, World.cell?_setCell_other _ _ _ _ n1.symm]
    exact World.cell?_setCell_same _ _ _ h1
  · rw [World.cell?_setCell_other _ _ _ _ n3]
    exact World.cell?_setCell_same _ _ _ ((World.cell?_setCell_other _ _ _ _ n1).trans h2)
  · exact World.cell?_setCell_same _ _ _ ((World.cell?_setCell_other _ _ _ _ n3.symm).trans ((World.cell?_setCell_other _ _ _ _ n2.symm).trans h3))
/-- a fresh box that is filled -/
theorem T3.fill {w : World} {g : Nat} {x' y' z' : Value} (h : T3 w g (.int .i64 0) (.int .i64 0) (.slice none 0 0)) : T3 (((w.setCell ⟨g, 0, none⟩ x').setCell ⟨g, 1, none⟩ y').setCell ⟨g, 2, none⟩ z') g x' y' z' := h.set3
/-- a row of terms that lies neither in block p nor in block q -/
def RowF (B p q : Nat) (w : World) (a : Option Addr) (ts : List Tm) : Prop := ts = [] ∨ ∃ g, a = some ⟨g, 0, none⟩ ∧ B ≤ g ∧ g ≠ p ∧ g ≠ q ∧ Made w g (ts.length * 3) ∧ TermsIn w g 0 ts
theorem RowF.of {lo hi B p q : Nat} {w : World} {a : Option Addr} {ts : List Tm} (h : NewRow lo hi w a ts) (hB : B ≤ lo) (hp : p < lo ∨ hi ≤ p) (hq : q < lo ∨ hi ≤ q) : RowF B p q w a ts := by
  rcases h with h | ⟨g, e, h1, h2, h3, h4⟩
  · exact .inl h
  · exact .inr ⟨g, e, by omega, by omega, by omega, h3, h4⟩
theorem RowF.newRow {B p q : Nat} {w : World} {a : Option Addr} {ts : List Tm} (h : RowF B p q w a ts) : NewRow B w.heap.size w a ts := by
  rcases h with h | ⟨g, e, h1, _, _, h3, h4⟩
  · exact .inl h
  · exact .inr ⟨g, e, h1, h3.1, h3, h4⟩
theorem RowF.below {B p q : Nat} {w w' : World} {a : Option Addr} {ts : List Tm} (h : RowF B p q w a ts) (hb : Below w.heap.size w w') : RowF B p q w' a ts := by
  rcases h with h | ⟨g, e, h1, hp, hq, h3, h4⟩
  · exact .inl h
  · exact .inr ⟨g, e, h1, hp, hq, h3.below hb h3.1, h4.below hb h3.1⟩
theorem RowF.alloc {B p q : Nat} {w : World} {a : Option Addr} {ts : List Tm} (h : RowF B p q w a ts) (o : Obj) : RowF B p q (w.alloc o) a ts := h.below (below1 w o)
theorem RowF.set {B p q n i : Nat} {w : World} {a : Option Addr} {ts : List Tm} {u : Value} (h : RowF B p q w a ts) (hn : n = p ∨ n = q) : RowF B p q (w.setCell ⟨n, i, none⟩ u) a ts := by
  rcases h with h | ⟨g, e, h1, hp, hq, h3, h4⟩
  · exact .inl h
  · exact .inr ⟨g, e, h1, hp, hq, h3.set _ _, h4.setCell (by show n ≠ g; omega) _⟩
/-- a call that returns a series and its mark, stored into a box of its own -/
def SerCut (wb : World) (L V : Int) (r : Option (List Tm)) (v v' : Value) (wy : World) : Prop :=
  ∃ (g : Nat) (X Y : Int) (a : Option Addr) (l c : Nat) (ok : Bool), v = .pointer (some ⟨g, 0, none⟩) ∧ v' = .bool ok ∧ wb.heap.size ≤ g ∧ Below wb.heap.size wb wy ∧ T3 wy g (.int .i64 X) (.int .i64 Y) (.slice a l c) ∧ SumU L V r wb.heap.size X Y a l c ok wy
end Go.Proofs.YtdgkkcjjfpenpaaGreatDoor
