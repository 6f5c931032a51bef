/-
  A row of terms that an argument brings, and cells behind calls.
  The last step of a row without package-level variables, from a walk of which 'nothing that was there has changed' is known, and no more.
-/
import Derived.Test.YtgcjpenlcokgjaaGreatDoorImpIs
import Derived.Test.YtgcjpenlcokgjaaGreatDoorArith
import Derived.WalkKit
import Derived.ProofKit
import Derived.OpenShut
import Derived.Lib.SmallJoins
import Derived.Deep.RegionHeld3
import Derived.Deep.DeepCutAuto
namespace Go.Proofs.YtgcjpenlcokgjaaGreatDoor
open Go.RowKit

/-- an argument's terms: none, or a row in memory -/
def Row (w : World) (a : Option Addr) (ts : List Tm) : Prop := ts = [] ∨ ∃ b off, a = some ⟨b, off, none⟩ ∧ b < w.heap.size ∧ TermsIn w b off ts
theorem Row.below {w w' : World} {a : Option Addr} {ts : List Tm} (h : Row w a ts) (hb : Below w.heap.size w w') : Row w' a ts := by
  rcases h with h | ⟨b, off, h1, h2, h3⟩
  · exact .inl h
  · exact .inr ⟨b, off, h1, Nat.lt_of_lt_of_le h2 hb.size, h3.below hb h2⟩

theorem szTermS_row (a : Option Addr) (cap : Nat) (ts : List Tm) (hl : ts.length ≤ maxLen) (hs : ∀ i (h : i < ts.length), (ts[i]).s.size ≤ maxLen) (left : Int) (h0 : 0 ≤ left ∧ left ≤ 1048576) (w : World) (hr : Row w a ts) :
    Calls Tryz.prog 8 #[.slice a ts.length cap, .int .i64 left] w (SzPost ts.length left w) := by
  by_cases hbig : left < (ts.length : Int)
  · exact szTermS_big _ ts.length cap a rfl hl left h0 hbig w
  · rcases hr with rfl | ⟨b, off, rfl, hb, ht⟩
    · have e0 : (0 : Int) ≤ left := h0.1
      go_enter Tryz.func8, Tryz.ntmps8
      go_wp2
      go_loopw [1, 5] (fun vl vi wr => vl = .int .i64 left ∧ vi = .int .i64 0 ∧ wr = w) (fun _ _ _ => 0)
      case atStart => exact ⟨rfl, rfl, rfl⟩
      case round =>
        obtain ⟨rfl, rfl, rfl⟩ := hrel
        go_wp2
        go_ret
        exact ⟨.inr ⟨left, h0.1, h0.2, by simpa using h0.1, rfl⟩, Below.refl _ _⟩
    · exact szTermS_c b off cap ts left h0 (by omega) hs w hb ht

theorem held33 {i j : Nat} {a b c x y z : Value} {W w' : World} (hb : Below W.heap.size W w') (hi : i < W.heap.size) (hj : j < W.heap.size)
    (h : W.cell? ⟨i, 0, none⟩ = some a ∧ W.cell? ⟨i, 1, none⟩ = some b ∧ W.cell? ⟨i, 2, none⟩ = some c ∧ W.cell? ⟨j, 0, none⟩ = some x ∧ W.cell? ⟨j, 1, none⟩ = some y ∧ W.cell? ⟨j, 2, none⟩ = some z) :
    w'.cell? ⟨i, 0, none⟩ = some a ∧ w'.cell? ⟨i, 1, none⟩ = some b ∧ w'.cell? ⟨i, 2, none⟩ = some c ∧ w'.cell? ⟨j, 0, none⟩ = some x ∧ w'.cell? ⟨j, 1, none⟩ = some y ∧ w'.cell? ⟨j, 2, none⟩ = some z :=
  ⟨(hb.cell (p := ⟨i, 0, none⟩) hi).trans h.1, (hb.cell (p := ⟨i, 1, none⟩) hi).trans h.2.1, (hb.cell (p := ⟨i, 2, none⟩) hi).trans h.2.2.1,
    (hb.cell (p := ⟨j, 0, none⟩) hj).trans h.2.2.2.1, (hb.cell (p := ⟨j, 1, none⟩) hj).trans h.2.2.2.2.1, (hb.cell (p := ⟨j, 2, none⟩) hj).trans h.2.2.2.2.2⟩
end Go.Proofs.YtgcjpenlcokgjaaGreatDoor

namespace Go.Proofs.YtgcjpenlcokgjaaGreatDoor
open Go.ChangeShapes Go.WideShapes Go.ChangeAt Go.RowKit

theorem seatOwn : ownKnob Tryz.prog.godebug = none := by kernel_rfl

section
variable {H : Type} {enc : TypeId × Value → H} {P : Program}
/-- A call that answers one bool, over arguments that read as before: what 'Below' gives serves in the place of the marks of all addresses. -/
theorem shut_below {f : Func} {s : ChangeSpec} {fresh handsOn again : Bool} {W W' : World} {args : Array Value} {v : Value} {ds : List (DataW H)} {pa : List MemPlace}
    (hW : DataW.Whole enc P f.params.toList s.vars false W args.toList ds [] pa)
    (hres : ∀ (b : Nat) (sp : Nat → Bool) (hd : Bool), DataW.TrodAll enc P W' b sp hd f.resultTypes.toList (v.resultList f.resultTypes.size) (s.fn H (ds ++ [])).results [])
    (hargs : ∀ sp : Nat → Bool, (∀ p ∈ pa, sp p.block = true) → DataW.TrodAll enc P W' 0 sp true f.params.toList args.toList (s.fn H (ds ++ [])).args pa)
    (hvars : ∀ sp : Nat → Bool, DataW.TrodVars enc P W' sp s.vars (s.fn H (ds ++ [])).vars [])
    (hb : Below W.heap.size W W')
    (hok : ∀ (j : Nat) (t : TypeId) (r : Value), f.resultTypes[j]? = some t → (v.resultList f.resultTypes.size)[j]? = some r → Value.okWide P W' .any 0 t r) :
    s.post enc P f false fresh handsOn again W args v W' := by
  have hlt : ∀ p ∈ pa, p.block < W.heap.size := fun p hp => hW.lt p hp
  have hold : ∀ p ∈ pa, (fun b => decide (b < W.heap.size)) p.block = true := fun p hp => by simpa using hlt p hp
  refine ⟨ds, [], pa, [], pa, [], hW, hres _ _ _, hargs _ hold, hvars _, World.keptBut_mono (fun p hp => ⟨hp, Or.inr (by simpa using hp)⟩) (hb.frame (· ∈ pa)), fun _ => ?_⟩
  obtain ⟨_, _, _, _, _, hz, _⟩ := hW
  refine ⟨hok, _, _, ([] ++ pa) ++ [], ⟨[] ++ pa, [], trodAll_append (hargs _ (fun _ _ => rfl)) (hres _ _ _), hvars _, rfl, ?_, ?_⟩, ?_⟩
  · intro b off hp
    have hin : MemPlace.cell b off ∈ pa := by simpa using hp
    rw [hb.frozen (hlt _ hin)]
    exact hz b off hin
  · intro ha; cases ha
  · intro p hp _
    simpa using hp
end

/-- A fraction of the laws' own package, by value: opened and shut again. -/
theorem lawsFraction_cells : Tryz.prog.cellsOf 52 = 2 := by kernel_rfl
theorem shut_frac {H : Type} {enc : TypeId × Value → H} {n d : Int} (wn : (Lit.int .i64 n).wf = true) (wd : (Lit.int .i64 d).wf = true) (W' : World) (b : Nat) (sp : Nat → Bool) (hd : Bool) :
    DataW.Trod enc Tryz.prog W' b sp hd 52 (.agg #[.int .i64 n, .int .i64 d]) (.agg [.lit (.int .i64 n), .lit (.int .i64 d)]) [] :=
  Joins.shut_agg2 (y0 := (.lit (.int .i64 n), [])) (y1 := (.lit (.int .i64 d), [])) Tryz.underlying52 (by kernel_rfl) lawsFraction_cells ⟨1, by simp [DataW.trod, Tryz.underlying2, wn]⟩ ⟨1, by simp [DataW.trod, Tryz.underlying2, wd]⟩

/-- Four cells of two neighbouring blocks stand behind a call that changes nothing that was there. -/
theorem held4 {n : Nat} {a b c d : Value} {W w' : World} (hb : Below W.heap.size W w') (hn : n + 1 < W.heap.size)
    (h : W.cell? ⟨n, 0, none⟩ = some a ∧ W.cell? ⟨n, 1, none⟩ = some b ∧ W.cell? ⟨n + 1, 0, none⟩ = some c ∧ W.cell? ⟨n + 1, 1, none⟩ = some d) :
    w'.cell? ⟨n, 0, none⟩ = some a ∧ w'.cell? ⟨n, 1, none⟩ = some b ∧ w'.cell? ⟨n + 1, 0, none⟩ = some c ∧ w'.cell? ⟨n + 1, 1, none⟩ = some d :=
  ⟨(hb.cell (p := ⟨n, 0, none⟩) (by show n < _; omega)).trans h.1, (hb.cell (p := ⟨n, 1, none⟩) (by show n < _; omega)).trans h.2.1,
    (hb.cell (p := ⟨n + 1, 0, none⟩) hn).trans h.2.2.1, (hb.cell (p := ⟨n + 1, 1, none⟩) hn).trans h.2.2.2⟩
/-- .. and behind a pair stored into another block. -/
theorem held4_store {n g : Nat} {a b c d u v : Value} {w' : World} (hg : n + 1 < g)
    (h : w'.cell? ⟨n, 0, none⟩ = some a ∧ w'.cell? ⟨n, 1, none⟩ = some b ∧ w'.cell? ⟨n + 1, 0, none⟩ = some c ∧ w'.cell? ⟨n + 1, 1, none⟩ = some d) :
    ((w'.setCell ⟨g, 0, none⟩ u).setCell ⟨g, 1, none⟩ v).cell? ⟨n, 0, none⟩ = some a ∧ ((w'.setCell ⟨g, 0, none⟩ u).setCell ⟨g, 1, none⟩ v).cell? ⟨n, 1, none⟩ = some b ∧
      ((w'.setCell ⟨g, 0, none⟩ u).setCell ⟨g, 1, none⟩ v).cell? ⟨n + 1, 0, none⟩ = some c ∧ ((w'.setCell ⟨g, 0, none⟩ u).setCell ⟨g, 1, none⟩ v).cell? ⟨n + 1, 1, none⟩ = some d := by
  refine ⟨?_, ?_, ?_, ?_⟩
  · rw [World.cell?_setCell_far _ _ _ _ (by show g ≠ n; omega), World.cell?_setCell_far _ _ _ _ (by show g ≠ n; omega)]; exact h.1
  · rw [World.cell?_setCell_far _ _ _ _ (by show g ≠ n; omega), World.cell?_setCell_far _ _ _ _ (by show g ≠ n; omega)]; exact h.2.1
  · rw [World.cell?_setCell_far _ _ _ _ (by show g ≠ n + 1; omega), World.cell?_setCell_far _ _ _ _ (by show g ≠ n + 1; omega)]; exact h.2.2.1
  · rw [World.cell?_setCell_far _ _ _ _ (by show g ≠ n + 1; omega), World.cell?_setCell_far _ _ _ _ (by show g ≠ n + 1; omega)]; exact h.2.2.2
theorem toFraction_g (n d : Int) (w : World) :
    Calls Tryz.prog 69 #[.agg #[.int .i64 n, .int .i64 d]] w fun e w' => e = .returned (.agg #[.int .i64 n, .int .i64 d]) ∧ Below w.heap.size w w' ∧ w.heap.size < w'.heap.size := by
  go_enter Tryz.func69, Tryz.ntmps69
  go_wp2
  refine bodyPost_ret (v := .agg #[.int .i64 n, .int .i64 d]) (by simp [results, Tryz.results69, go_sem]) rfl ⟨rfl, ?_, by simp; omega⟩
  go_grown
theorem pair_stored {g : Nat} {u v x y : Value} {w' : World} (h0 : w'.cell? ⟨g, 0, none⟩ = some u) (h1 : w'.cell? ⟨g, 1, none⟩ = some v) :
    ((w'.setCell ⟨g, 0, none⟩ x).setCell ⟨g, 1, none⟩ y).cell? ⟨g, 0, none⟩ = some x ∧ ((w'.setCell ⟨g, 0, none⟩ x).setCell ⟨g, 1, none⟩ y).cell? ⟨g, 1, none⟩ = some y := by
  have n1 : (⟨g, 0, none⟩ : Addr) ≠ ⟨g, 1, none⟩ := by simp
  have e : (w'.setCell ⟨g, 0, none⟩ x).cell? ⟨g, 1, none⟩ = some v := (World.cell?_setCell_other _ _ _ _ n1).trans h1
  exact ⟨(World.cell?_setCell_other _ _ _ _ n1.symm).trans (World.cell?_setCell_same _ _ _ h0), World.cell?_setCell_same _ _ _ e⟩

/-- Six cells of three blocks stand behind a call, and behind a pair stored into a newer block. -/
theorem held6 {i j k : Nat} {a b c d x y : Value} {W w' : World} (hb : Below W.heap.size W w') (hi : i < W.heap.size) (hj : j < W.heap.size) (hk : k < W.heap.size)
    (h : W.cell? ⟨i, 0, none⟩ = some a ∧ W.cell? ⟨i, 1, none⟩ = some b ∧ W.cell? ⟨j, 0, none⟩ = some c ∧ W.cell? ⟨j, 1, none⟩ = some d ∧ W.cell? ⟨k, 0, none⟩ = some x ∧ W.cell? ⟨k, 1, none⟩ = some y) :
    w'.cell? ⟨i, 0, none⟩ = some a ∧ w'.cell? ⟨i, 1, none⟩ = some b ∧ w'.cell? ⟨j, 0, none⟩ = some c ∧ w'.cell? ⟨j, 1, none⟩ = some d ∧ w'.cell? ⟨k, 0, none⟩ = some x ∧ w'.cell? ⟨k, 1, none⟩ = some y :=
  ⟨(hb.cell (p := ⟨i, 0, none⟩) hi).trans h.1, (hb.cell (p := ⟨i, 1, none⟩) hi).trans h.2.1, (hb.cell (p := ⟨j, 0, none⟩) hj).trans h.2.2.1,
    (hb.cell (p := ⟨j, 1, none⟩) hj).trans h.2.2.2.1, (hb.cell (p := ⟨k, 0, none⟩) hk).trans h.2.2.2.2.1, (hb.cell (p := ⟨k, 1, none⟩) hk).trans h.2.2.2.2.2⟩
theorem far_pair {g n o : Nat} {u v : Value} {w' : World} (h : n < g) : ((w'.setCell ⟨g, 0, none⟩ u).setCell ⟨g, 1, none⟩ v).cell? ⟨n, o, none⟩ = w'.cell? ⟨n, o, none⟩ := by
  rw [World.cell?_setCell_far _ _ _ _ (by show g ≠ n; omega), World.cell?_setCell_far _ _ _ _ (by show g ≠ n; omega)]
theorem held6_store {i j k g : Nat} {a b c d x y u v : Value} {w' : World} (hi : i < g) (hj : j < g) (hk : k < g)
    (h : w'.cell? ⟨i, 0, none⟩ = some a ∧ w'.cell? ⟨i, 1, none⟩ = some b ∧ w'.cell? ⟨j, 0, none⟩ = some c ∧ w'.cell? ⟨j, 1, none⟩ = some d ∧ w'.cell? ⟨k, 0, none⟩ = some x ∧ w'.cell? ⟨k, 1, none⟩ = some y) :
    ((w'.setCell ⟨g, 0, none⟩ u).setCell ⟨g, 1, none⟩ v).cell? ⟨i, 0, none⟩ = some a ∧ ((w'.setCell ⟨g, 0, none⟩ u).setCell ⟨g, 1, none⟩ v).cell? ⟨i, 1, none⟩ = some b ∧
      ((w'.setCell ⟨g, 0, none⟩ u).setCell ⟨g, 1, none⟩ v).cell? ⟨j, 0, none⟩ = some c ∧ ((w'.setCell ⟨g, 0, none⟩ u).setCell ⟨g, 1, none⟩ v).cell? ⟨j, 1, none⟩ = some d ∧
      ((w'.setCell ⟨g, 0, none⟩ u).setCell ⟨g, 1, none⟩ v).cell? ⟨k, 0, none⟩ = some x ∧ ((w'.setCell ⟨g, 0, none⟩ u).setCell ⟨g, 1, none⟩ v).cell? ⟨k, 1, none⟩ = some y := by
  rw [far_pair hi, far_pair hi, far_pair hj, far_pair hj, far_pair hk, far_pair hk]
  exact h
theorem held6_alloc {i j k : Nat} {a b c d x y : Value} {w' : World} {o : Obj} (hi : i < w'.heap.size) (hj : j < w'.heap.size) (hk : k < w'.heap.size)
    (h : w'.cell? ⟨i, 0, none⟩ = some a ∧ w'.cell? ⟨i, 1, none⟩ = some b ∧ w'.cell? ⟨j, 0, none⟩ = some c ∧ w'.cell? ⟨j, 1, none⟩ = some d ∧ w'.cell? ⟨k, 0, none⟩ = some x ∧ w'.cell? ⟨k, 1, none⟩ = some y) :
    (w'.alloc o).cell? ⟨i, 0, none⟩ = some a ∧ (w'.alloc o).cell? ⟨i, 1, none⟩ = some b ∧ (w'.alloc o).cell? ⟨j, 0, none⟩ = some c ∧ (w'.alloc o).cell? ⟨j, 1, none⟩ = some d ∧ (w'.alloc o).cell? ⟨k, 0, none⟩ = some x ∧ (w'.alloc o).cell? ⟨k, 1, none⟩ = some y :=
  held6 (below1 w' o) hi hj hk h
theorem held6_swap {i j k : Nat} {a b c d x y : Value} {w' : World} {o u : Obj} (hi : i < w'.heap.size) (hj : j < w'.heap.size) (hk : k < w'.heap.size)
    (h : (w'.alloc o).cell? ⟨i, 0, none⟩ = some a ∧ (w'.alloc o).cell? ⟨i, 1, none⟩ = some b ∧ (w'.alloc o).cell? ⟨j, 0, none⟩ = some c ∧ (w'.alloc o).cell? ⟨j, 1, none⟩ = some d ∧ (w'.alloc o).cell? ⟨k, 0, none⟩ = some x ∧ (w'.alloc o).cell? ⟨k, 1, none⟩ = some y) :
    (w'.alloc u).cell? ⟨i, 0, none⟩ = some a ∧ (w'.alloc u).cell? ⟨i, 1, none⟩ = some b ∧ (w'.alloc u).cell? ⟨j, 0, none⟩ = some c ∧ (w'.alloc u).cell? ⟨j, 1, none⟩ = some d ∧ (w'.alloc u).cell? ⟨k, 0, none⟩ = some x ∧ (w'.alloc u).cell? ⟨k, 1, none⟩ = some y := by
  have e : ∀ (n o' : Nat) (o u : Obj), n < w'.heap.size → (w'.alloc u).cell? ⟨n, o', none⟩ = (w'.alloc o).cell? ⟨n, o', none⟩ := fun n o' o u hn =>
    ((below1 w' u).cell (p := ⟨n, o', none⟩) hn).trans ((below1 w' o).cell (p := ⟨n, o', none⟩) hn).symm
  rw [e i 0 o u hi, e i 1 o u hi, e j 0 o u hj, e j 1 o u hj, e k 0 o u hk, e k 1 o u hk]
  exact h
end Go.Proofs.YtgcjpenlcokgjaaGreatDoor
