/-
  A row of terms that an argument brings, and cells behind calls.
  The last step of a row without package-level variables, from a walk of which 'nothing that was there has changed' is known, and no more.
  What functions that return a series leave behind; rows of terms, boxes of variables, and how they stand behind calls.
-/
import Derived.Test.YtolbgdgoambliaaImpIs
import Derived.Test.YtolbgdgoambliaaArith
import Derived.Test.YtolbgdgoambliaaSer
import Derived.WalkKit
import Derived.ProofKit
import Derived.OpenShut
import Derived.Lib.SmallJoins
import Derived.Deep.RegionHeld3
import Derived.Deep.DeepCutAuto
namespace Go.Proofs.Ytolbgdgoambliaa
open Go.RowKit

/-- an argument's terms: none, or a row in memory -/
def Row (w : World) (a : Option Addr) (ts : List Tm) : Prop := ts = [] ∨ ∃ b off, a = some ⟨b, off, none⟩ ∧ b < w.heap.size ∧ TermsIn w b off ts
theorem Row.below {w w' : World} {a : Option Addr} {ts : List Tm} (h : Row w a ts) (hb : Below w.heap.size w w') : Row w' a ts := by
  rcases h with h | ⟨b, off, h1, h2, h3⟩
  · exact .inl h
  · exact .inr ⟨b, off, h1, Nat.lt_of_lt_of_le h2 hb.size, h3.below hb h2⟩

theorem held33 {i j : Nat} {a b c x y z : Value} {W w' : World} (hb : Below W.heap.size W w') (hi : i < W.heap.size) (hj : j < W.heap.size)
    (h : W.cell? ⟨i, 0, none⟩ = some a ∧ W.cell? ⟨i, 1, none⟩ = some b ∧ W.cell? ⟨i, 2, none⟩ = some c ∧ W.cell? ⟨j, 0, none⟩ = some x ∧ W.cell? ⟨j, 1, none⟩ = some y ∧ W.cell? ⟨j, 2, none⟩ = some z) :
    w'.cell? ⟨i, 0, none⟩ = some a ∧ w'.cell? ⟨i, 1, none⟩ = some b ∧ w'.cell? ⟨i, 2, none⟩ = some c ∧ w'.cell? ⟨j, 0, none⟩ = some x ∧ w'.cell? ⟨j, 1, none⟩ = some y ∧ w'.cell? ⟨j, 2, none⟩ = some z :=
  ⟨(hb.cell (p := ⟨i, 0, none⟩) hi).trans h.1, (hb.cell (p := ⟨i, 1, none⟩) hi).trans h.2.1, (hb.cell (p := ⟨i, 2, none⟩) hi).trans h.2.2.1,
    (hb.cell (p := ⟨j, 0, none⟩) hj).trans h.2.2.2.1, (hb.cell (p := ⟨j, 1, none⟩) hj).trans h.2.2.2.2.1, (hb.cell (p := ⟨j, 2, none⟩) hj).trans h.2.2.2.2.2⟩
end Go.Proofs.Ytolbgdgoambliaa

namespace Go.Proofs.Ytolbgdgoambliaa
open Go.ChangeShapes Go.WideShapes Go.ChangeAt Go.RowKit

theorem seatOwn : ownKnob Try.prog.godebug = none := by kernel_rfl

section
variable {H : Type} {enc : TypeId × Value → H} {P : Program}
/-- A call that answers one bool, over arguments that read as before: what 'Below' gives serves in the place of the marks of all addresses. -/
theorem shut_below {f : Func} {s : ChangeSpec} {fresh handsOn again : Bool} {W W' : World} {args : Array Value} {v : Value} {ds : List (DataW H)} {pa : List MemPlace}
    (hW : DataW.Whole enc P f.params.toList s.vars false W args.toList ds [] pa)
    (hres : ∀ (b : Nat) (sp : Nat → Bool) (hd : Bool), DataW.TrodAll enc P W' b sp hd f.resultTypes.toList (v.resultList f.resultTypes.size) (s.fn H (ds ++ [])).results [])
    (hargs : ∀ sp : Nat → Bool, (∀ p ∈ pa, sp p.block = true) → DataW.TrodAll enc P W' 0 sp true f.params.toList args.toList (s.fn H (ds ++ [])).args pa)
    (hvars : ∀ sp : Nat → Bool, DataW.TrodVars enc P W' sp s.vars (s.fn H (ds ++ [])).vars [])
    (hb : Below W.heap.size W W')
    (hok : ∀ (j : Nat) (t : TypeId) (r : Value), f.resultTypes[j]? = some t → (v.resultList f.resultTypes.size)[j]? = some r → Value.okWide P W' .any 0 t r) :
    s.post enc P f false fresh handsOn again W args v W' := by
  have hlt : ∀ p ∈ pa, p.block < W.heap.size := fun p hp => hW.lt p hp
  have hold : ∀ p ∈ pa, (fun b => decide (b < W.heap.size)) p.block = true := fun p hp => by simpa using hlt p hp
  refine ⟨ds, [], pa, [], pa, [], hW, hres _ _ _, hargs _ hold, hvars _, World.keptBut_mono (fun p hp => ⟨hp, Or.inr (by simpa using hp)⟩) (hb.frame (· ∈ pa)), fun _ => ?_⟩
  obtain ⟨_, _, _, _, _, hz, _⟩ := hW
  refine ⟨hok, _, _, ([] ++ pa) ++ [], ⟨[] ++ pa, [], trodAll_append (hargs _ (fun _ _ => rfl)) (hres _ _ _), hvars _, rfl, ?_, ?_⟩, ?_⟩
  · intro b off hp
    have hin : MemPlace.cell b off ∈ pa := by simpa using hp
    rw [hb.frozen (hlt _ hin)]
    exact hz b off hin
  · intro ha; cases ha
  · intro p hp _
    simpa using hp
end

/-- Four cells of two neighbouring blocks stand behind a call that changes nothing that was there. -/
theorem held4 {n : Nat} {a b c d : Value} {W w' : World} (hb : Below W.heap.size W w') (hn : n + 1 < W.heap.size)
    (h : W.cell? ⟨n, 0, none⟩ = some a ∧ W.cell? ⟨n, 1, none⟩ = some b ∧ W.cell? ⟨n + 1, 0, none⟩ = some c ∧ W.cell? ⟨n + 1, 1, none⟩ = some d) :
    w'.cell? ⟨n, 0, none⟩ = some a ∧ w'.cell? ⟨n, 1, none⟩ = some b ∧ w'.cell? ⟨n + 1, 0, none⟩ = some c ∧ w'.cell? ⟨n + 1, 1, none⟩ = some d :=
  ⟨(hb.cell (p := ⟨n, 0, none⟩) (by show n < _; omega)).trans h.1, (hb.cell (p := ⟨n, 1, none⟩) (by show n < _; omega)).trans h.2.1,
    (hb.cell (p := ⟨n + 1, 0, none⟩) hn).trans h.2.2.1, (hb.cell (p := ⟨n + 1, 1, none⟩) hn).trans h.2.2.2⟩
/-- .. and behind a pair stored into another block. -/
theorem held4_store {n g : Nat} {a b c d u v : Value} {w' : World} (hg : n + 1 < g)
    (h : w'.cell? ⟨n, 0, none⟩ = some a ∧ w'.cell? ⟨n, 1, none⟩ = some b ∧ w'.cell? ⟨n + 1, 0, none⟩ = some c ∧ w'.cell? ⟨n + 1, 1, none⟩ = some d) :
    ((w'.setCell ⟨g, 0, none⟩ u).setCell ⟨g, 1, none⟩ v).cell? ⟨n, 0, none⟩ = some a ∧ ((w'.setCell ⟨g, 0, none⟩ u).setCell ⟨g, 1, none⟩ v).cell? ⟨n, 1, none⟩ = some b ∧
      ((w'.setCell ⟨g, 0, none⟩ u).setCell ⟨g, 1, none⟩ v).cell? ⟨n + 1, 0, none⟩ = some c ∧ ((w'.setCell ⟨g, 0, none⟩ u).setCell ⟨g, 1, none⟩ v).cell? ⟨n + 1, 1, none⟩ = some d := by
  refine ⟨?_, ?_, ?_, ?_⟩
  · rw [World.cell?_setCell_far _ _ _ _ (by show g ≠ n; omega), World.cell?_setCell_far _ _ _ _ (by show g ≠ n; omega)]; exact h.1
  · rw [World.cell?_setCell_far _ _ _ _ (by show g ≠ n; omega), World.cell?_setCell_far _ _ _ _ (by show g ≠ n; omega)]; exact h.2.1
  · rw [World.cell?_setCell_far _ _ _ _ (by show g ≠ n + 1; omega), World.cell?_setCell_far _ _ _ _ (by show g ≠ n + 1; omega)]; exact h.2.2.1
  · rw [World.cell?_setCell_far _ _ _ _ (by show g ≠ n + 1; omega), World.cell?_setCell_far _ _ _ _ (by show g ≠ n + 1; omega)]; exact h.2.2.2
theorem pair_stored {g : Nat} {u v x y : Value} {w' : World} (h0 : w'.cell? ⟨g, 0, none⟩ = some u) (h1 : w'.cell? ⟨g, 1, none⟩ = some v) :
    ((w'.setCell ⟨g, 0, none⟩ x).setCell ⟨g, 1, none⟩ y).cell? ⟨g, 0, none⟩ = some x ∧ ((w'.setCell ⟨g, 0, none⟩ x).setCell ⟨g, 1, none⟩ y).cell? ⟨g, 1, none⟩ = some y := by
  have n1 : (⟨g, 0, none⟩ : Addr) ≠ ⟨g, 1, none⟩ := by simp
  have e : (w'.setCell ⟨g, 0, none⟩ x).cell? ⟨g, 1, none⟩ = some v := (World.cell?_setCell_other _ _ _ _ n1).trans h1
  exact ⟨(World.cell?_setCell_other _ _ _ _ n1.symm).trans (World.cell?_setCell_same _ _ _ h0), World.cell?_setCell_same _ _ _ e⟩

/-- Six cells of three blocks stand behind a call, and behind a pair stored into a newer block. -/
theorem held6 {i j k : Nat} {a b c d x y : Value} {W w' : World} (hb : Below W.heap.size W w') (hi : i < W.heap.size) (hj : j < W.heap.size) (hk : k < W.heap.size)
    (h : W.cell? ⟨i, 0, none⟩ = some a ∧ W.cell? ⟨i, 1, none⟩ = some b ∧ W.cell? ⟨j, 0, none⟩ = some c ∧ W.cell? ⟨j, 1, none⟩ = some d ∧ W.cell? ⟨k, 0, none⟩ = some x ∧ W.cell? ⟨k, 1, none⟩ = some y) :
    w'.cell? ⟨i, 0, none⟩ = some a ∧ w'.cell? ⟨i, 1, none⟩ = some b ∧ w'.cell? ⟨j, 0, none⟩ = some c ∧ w'.cell? ⟨j, 1, none⟩ = some d ∧ w'.cell? ⟨k, 0, none⟩ = some x ∧ w'.cell? ⟨k, 1, none⟩ = some y :=
  ⟨(hb.cell (p := ⟨i, 0, none⟩) hi).trans h.1, (hb.cell (p := ⟨i, 1, none⟩) hi).trans h.2.1, (hb.cell (p := ⟨j, 0, none⟩) hj).trans h.2.2.1,
    (hb.cell (p := ⟨j, 1, none⟩) hj).trans h.2.2.2.1, (hb.cell (p := ⟨k, 0, none⟩) hk).trans h.2.2.2.2.1, (hb.cell (p := ⟨k, 1, none⟩) hk).trans h.2.2.2.2.2⟩
theorem far_pair {g n o : Nat} {u v : Value} {w' : World} (h : n < g) : ((w'.setCell ⟨g, 0, none⟩ u).setCell ⟨g, 1, none⟩ v).cell? ⟨n, o, none⟩ = w'.cell? ⟨n, o, none⟩ := by
  rw [World.cell?_setCell_far _ _ _ _ (by show g ≠ n; omega), World.cell?_setCell_far _ _ _ _ (by show g ≠ n; omega)]
theorem held6_store {i j k g : Nat} {a b c d x y u v : Value} {w' : World} (hi : i < g) (hj : j < g) (hk : k < g)
    (h : w'.cell? ⟨i, 0, none⟩ = some a ∧ w'.cell? ⟨i, 1, none⟩ = some b ∧ w'.cell? ⟨j, 0, none⟩ = some c ∧ w'.cell? ⟨j, 1, none⟩ = some d ∧ w'.cell? ⟨k, 0, none⟩ = some x ∧ w'.cell? ⟨k, 1, none⟩ = some y) :
    ((w'.setCell ⟨g, 0, none⟩ u).setCell ⟨g, 1, none⟩ v).cell? ⟨i, 0, none⟩ = some a ∧ ((w'.setCell ⟨g, 0, none⟩ u).setCell ⟨g, 1, none⟩ v).cell? ⟨i, 1, none⟩ = some b ∧
      ((w'.setCell ⟨g, 0, none⟩ u).setCell ⟨g, 1, none⟩ v).cell? ⟨j, 0, none⟩ = some c ∧ ((w'.setCell ⟨g, 0, none⟩ u).setCell ⟨g, 1, none⟩ v).cell? ⟨j, 1, none⟩ = some d ∧
      ((w'.setCell ⟨g, 0, none⟩ u).setCell ⟨g, 1, none⟩ v).cell? ⟨k, 0, none⟩ = some x ∧ ((w'.setCell ⟨g, 0, none⟩ u).setCell ⟨g, 1, none⟩ v).cell? ⟨k, 1, none⟩ = some y := by
  rw [far_pair hi, far_pair hi, far_pair hj, far_pair hj, far_pair hk, far_pair hk]
  exact h
theorem held6_alloc {i j k : Nat} {a b c d x y : Value} {w' : World} {o : Obj} (hi : i < w'.heap.size) (hj : j < w'.heap.size) (hk : k < w'.heap.size)
    (h : w'.cell? ⟨i, 0, none⟩ = some a ∧ w'.cell? ⟨i, 1, none⟩ = some b ∧ w'.cell? ⟨j, 0, none⟩ = some c ∧ w'.cell? ⟨j, 1, none⟩ = some d ∧ w'.cell? ⟨k, 0, none⟩ = some x ∧ w'.cell? ⟨k, 1, none⟩ = some y) :
    (w'.alloc o).cell? ⟨i, 0, none⟩ = some a ∧ (w'.alloc o).cell? ⟨i, 1, none⟩ = some b ∧ (w'.alloc o).cell? ⟨j, 0, none⟩ = some c ∧ (w'.alloc o).cell? ⟨j, 1, none⟩ = some d ∧ (w'.alloc o).cell? ⟨k, 0, none⟩ = some x ∧ (w'.alloc o).cell? ⟨k, 1, none⟩ = some y :=
  held6 (below1 w' o) hi hj hk h
theorem held6_swap {i j k : Nat} {a b c d x y : Value} {w' : World} {o u : Obj} (hi : i < w'.heap.size) (hj : j < w'.heap.size) (hk : k < w'.heap.size)
    (h : (w'.alloc o).cell? ⟨i, 0, none⟩ = some a ∧ (w'.alloc o).cell? ⟨i, 1, none⟩ = some b ∧ (w'.alloc o).cell? ⟨j, 0, none⟩ = some c ∧ (w'.alloc o).cell? ⟨j, 1, none⟩ = some d ∧ (w'.alloc o).cell? ⟨k, 0, none⟩ = some x ∧ (w'.alloc o).cell? ⟨k, 1, none⟩ = some y) :
    (w'.alloc u).cell? ⟨i, 0, none⟩ = some a ∧ (w'.alloc u).cell? ⟨i, 1, none⟩ = some b ∧ (w'.alloc u).cell? ⟨j, 0, none⟩ = some c ∧ (w'.alloc u).cell? ⟨j, 1, none⟩ = some d ∧ (w'.alloc u).cell? ⟨k, 0, none⟩ = some x ∧ (w'.alloc u).cell? ⟨k, 1, none⟩ = some y := by
  have e : ∀ (n o' : Nat) (o u : Obj), n < w'.heap.size → (w'.alloc u).cell? ⟨n, o', none⟩ = (w'.alloc o).cell? ⟨n, o', none⟩ := fun n o' o u hn =>
    ((below1 w' u).cell (p := ⟨n, o', none⟩) hn).trans ((below1 w' o).cell (p := ⟨n, o', none⟩) hn).symm
  rw [e i 0 o u hi, e i 1 o u hi, e j 0 o u hj, e j 1 o u hj, e k 0 o u hk, e k 1 o u hk]
  exact h
end Go.Proofs.Ytolbgdgoambliaa

namespace Go.Proofs.Ytolbgdgoambliaa
open Go.RowKit

theorem TermsIn.grown {w w' : World} {b off : Nat} {ts : List Tm} {r : Option Nat} (h : TermsIn w b off ts) (hg : w.grownBy w' r) (hlt : b < w.heap.size) (hne : some b ≠ r) : TermsIn w' b off ts := fun i hi =>
  ⟨(World.cell?_of_block (a := ⟨b, _, none⟩) (hg.block b hlt hne)).trans (h i hi).1, (World.cell?_of_block (a := ⟨b, _, none⟩) (hg.block b hlt hne)).trans (h i hi).2.1, (World.cell?_of_block (a := ⟨b, _, none⟩) (hg.block b hlt hne)).trans (h i hi).2.2⟩
theorem Made.grown {w w' : World} {g m : Nat} {r : Option Nat} (h : Made w g m) (hg : w.grownBy w' r) (hne : some g ≠ r) : Made w' g m :=
  ⟨Nat.lt_of_lt_of_le h.1 hg.size, fun j hj => by
    rw [World.cell?_of_block (a := ⟨g, j, none⟩) (hg.block g h.1 hne), World.frozen?_of_block (a := ⟨g, j, none⟩) (hg.block g h.1 hne)]; exact h.2 j hj⟩

/-- a row of terms that lies below a bound -/
def RowB (hi : Nat) (w : World) (a : Option Addr) (ts : List Tm) : Prop := ts = [] ∨ ∃ b off, a = some ⟨b, off, none⟩ ∧ b < hi ∧ TermsIn w b off ts
theorem RowB.of_row {w : World} {a : Option Addr} {ts : List Tm} (h : Row w a ts) : RowB w.heap.size w a ts := h
theorem RowB.row {hi : Nat} {w : World} {a : Option Addr} {ts : List Tm} (h : RowB hi w a ts) (hh : hi ≤ w.heap.size) : Row w a ts := by
  rcases h with h | ⟨b, off, h1, h2, h3⟩
  · exact .inl h
  · exact .inr ⟨b, off, h1, by omega, h3⟩
theorem RowB.below {hi B : Nat} {w w' : World} {a : Option Addr} {ts : List Tm} (h : RowB hi w a ts) (hb : Below B w w') (hh : hi ≤ B) : RowB hi w' a ts := by
  rcases h with h | ⟨b, off, h1, h2, h3⟩
  · exact .inl h
  · exact .inr ⟨b, off, h1, h2, h3.below hb (by omega)⟩
theorem RowB.grown {hi : Nat} {w w' : World} {a : Option Addr} {ts : List Tm} {r : Option Nat} (h : RowB hi w a ts) (hg : w.grownBy w' r) (hh : hi ≤ w.heap.size) (hr : ∀ g, r = some g → hi ≤ g) : RowB hi w' a ts := by
  rcases h with h | ⟨b, off, h1, h2, h3⟩
  · exact .inl h
  · exact .inr ⟨b, off, h1, h2, h3.grown hg (by omega) (fun e => by have := hr b e.symm; omega)⟩

/-- a new row of terms within bounds, which may be written -/
def NewRow (lo hi : Nat) (w : World) (a : Option Addr) (ts : List Tm) : Prop := ts = [] ∨ ∃ g, a = some ⟨g, 0, none⟩ ∧ lo ≤ g ∧ g < hi ∧ Made w g (ts.length * 3) ∧ TermsIn w g 0 ts
theorem NewRow.rowB {lo hi : Nat} {w : World} {a : Option Addr} {ts : List Tm} (h : NewRow lo hi w a ts) : RowB hi w a ts := by
  rcases h with h | ⟨g, h1, h2, h3, h4, h5⟩
  · exact .inl h
  · exact .inr ⟨g, 0, h1, h3, h5⟩
theorem NewRow.row {lo hi : Nat} {w : World} {a : Option Addr} {ts : List Tm} (h : NewRow lo hi w a ts) : Row w a ts := by
  rcases h with h | ⟨g, h1, h2, h3, h4, h5⟩
  · exact .inl h
  · exact .inr ⟨g, 0, h1, h4.1, h5⟩
theorem NewRow.mono {lo hi lo' hi' : Nat} {w : World} {a : Option Addr} {ts : List Tm} (h : NewRow lo hi w a ts) (h1 : lo' ≤ lo) (h2 : hi ≤ hi') : NewRow lo' hi' w a ts := by
  rcases h with h | ⟨g, e, a1, a2, a3, a4⟩
  · exact .inl h
  · exact .inr ⟨g, e, by omega, by omega, a3, a4⟩
theorem NewRow.below {lo hi B : Nat} {w w' : World} {a : Option Addr} {ts : List Tm} (h : NewRow lo hi w a ts) (hb : Below B w w') (hh : hi ≤ B) : NewRow lo hi w' a ts := by
  rcases h with h | ⟨g, h1, h2, h3, h4, h5⟩
  · exact .inl h
  · exact .inr ⟨g, h1, h2, h3, h4.below hb (by omega), h5.below hb (by omega)⟩
theorem NewRow.grown {lo hi : Nat} {w w' : World} {a : Option Addr} {ts : List Tm} {r : Option Nat} (h : NewRow lo hi w a ts) (hg : w.grownBy w' r) (hr : ∀ g, r = some g → g < lo ∨ hi ≤ g) : NewRow lo hi w' a ts := by
  rcases h with h | ⟨g, h1, h2, h3, h4, h5⟩
  · exact .inl h
  · have hne : some g ≠ r := fun e => by have := hr g e.symm; omega
    exact .inr ⟨g, h1, h2, h3, h4.grown hg hne, h5.grown hg h4.1 hne⟩
theorem NewRow.of_to {lo : Nat} {w : World} {g : Nat} {ts : List Tm} (h1 : lo ≤ g) (h2 : Made w g (ts.length * 3)) (h3 : TermsIn w g 0 ts) : NewRow lo w.heap.size w (some ⟨g, 0, none⟩) ts :=
  .inr ⟨g, rfl, h1, h2.1, h2, h3⟩

/-- cells that are known: block, place, value -/
def Cs (w : World) (l : List (Nat × Nat × Value)) : Prop := ∀ p ∈ l, p.1 < w.heap.size ∧ w.cell? ⟨p.1, p.2.1, none⟩ = some p.2.2
theorem Cs.nil (w : World) : Cs w [] := fun p hp => by cases hp
theorem Cs.get {w : World} {l : List (Nat × Nat × Value)} (h : Cs w l) (i : Nat) {n o : Nat} {v : Value} (hi : l[i]? = some (n, o, v)) : w.cell? ⟨n, o, none⟩ = some v := (h _ (List.mem_of_getElem? hi)).2
theorem Cs.below {B : Nat} {w w' : World} {l : List (Nat × Nat × Value)} (h : Cs w l) (hb : Below B w w') (hB : w.heap.size ≤ B) : Cs w' l := fun p hp =>
  ⟨Nat.lt_of_lt_of_le (h p hp).1 hb.size, (hb.cell (p := ⟨p.1, p.2.1, none⟩) (by have := (h p hp).1; show p.1 < B; omega)).trans (h p hp).2⟩
theorem Cs.grown {w w' : World} {l : List (Nat × Nat × Value)} {r : Option Nat} (h : Cs w l) (hg : w.grownBy w' r) (hr : ∀ p ∈ l, some p.1 ≠ r) : Cs w' l := fun p hp =>
  ⟨Nat.lt_of_lt_of_le (h p hp).1 hg.size, (World.cell?_of_block (a := ⟨p.1, p.2.1, none⟩) (hg.block p.1 (h p hp).1 (hr p hp))).trans (h p hp).2⟩
theorem Cs.cons {w : World} {l : List (Nat × Nat × Value)} {n o : Nat} {v : Value} (h : Cs w l) (hn : n < w.heap.size) (hc : w.cell? ⟨n, o, none⟩ = some v) : Cs w ((n, o, v) :: l) := fun p hp => by
  rcases List.mem_cons.1 hp with rfl | hp
  · exact ⟨hn, hc⟩
  · exact h p hp
theorem Cs.alloc {w : World} {l : List (Nat × Nat × Value)} (h : Cs w l) (o : Obj) : Cs (w.alloc o) l := h.below (below1 w o) (Nat.le_refl _)
theorem Cs.box2 {w : World} {l : List (Nat × Nat × Value)} (h : Cs w l) (x y : Value) (t : TypeId) : Cs (w.alloc (.cells #[x, y] t)) ((w.heap.size, 0, x) :: (w.heap.size, 1, y) :: l) :=
  ((h.alloc _).cons (by simp) (by go_simp)).cons (by simp) (by go_simp)
theorem Cs.box3 {w : World} {l : List (Nat × Nat × Value)} (h : Cs w l) (x y z : Value) (t : TypeId) : Cs (w.alloc (.cells #[x, y, z] t)) ((w.heap.size, 0, x) :: (w.heap.size, 1, y) :: (w.heap.size, 2, z) :: l) :=
  (((h.alloc _).cons (by simp) (by go_simp)).cons (by simp) (by go_simp)).cons (by simp) (by go_simp)

theorem below_of_grown {B : Nat} {w w' : World} {r : Option Nat} (hg : w.grownBy w' r) (hr : ∀ g, r = some g → B ≤ g) (hB : B ≤ w.heap.size) : Below B w w' :=
  ⟨hg.os, hg.tape, hg.output, hg.size, fun i hi => hg.block i (by omega) (fun e => by have := hr i e.symm; omega)⟩

/-- what a function that returns a series and a code comes to -/
def SerPost (L V : Int) (ts : List Tm) (c : Int) (W : World) (e : Ending) (w' : World) : Prop :=
  ∃ (a : Option Addr) (cap : Nat), e = .returned (.tuple #[.agg #[.int .i64 L, .int .i64 V, .slice a ts.length cap], .int .i64 c]) ∧ Below W.heap.size W w' ∧ NewRow W.heap.size w'.heap.size w' a ts

/-- what marking comes to: at most one block within the bounds has changed -/
def MarkR (lo hi : Nat) (a : Option Addr) (ts' : List Tm) (k' : Int) (W : World) (e : Ending) (w' : World) : Prop :=
  ∃ r : Option Nat, e = .returned (.int .i64 k') ∧ W.grownBy w' r ∧ (∀ g, r = some g → lo ≤ g ∧ g < hi) ∧ NewRow lo hi w' a ts'

end Go.Proofs.Ytolbgdgoambliaa
