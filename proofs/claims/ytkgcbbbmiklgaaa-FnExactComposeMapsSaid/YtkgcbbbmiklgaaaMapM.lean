/-
  Maps from places to moves that a call makes itself: what they hold, as a function; the laws at the operations. (Besides MapV and MapF.)
-/
import Derived.Test.YtkgcbbbmiklgaaaMvs
import Derived.Maps.OwnSet
import Derived.Maps.Views
import Derived.Maps.Keyed
import Derived.OwnWalk
import Derived.KernelRfl
import Derived.WalkArith
namespace Go.Proofs.Ytkgcbbbmiklgaaa
open Go.RowKit
open Go.WideElems (Fit)
open Go.WideAt Go.WideMaps Go.ChangeMaps Go.Maps

/-- how a move reads -/
def moveR (v : Value) : Option (DataW Unit × List MemPlace) :=
  match v with
  | .agg vs => match vs.toList with
    | [.int .i64 a, .int .i64 b, .int .i64 c] => some (.agg [.lit (.int .i64 a), .lit (.int .i64 b), .lit (.int .i64 c)], [])
    | _ => none
  | _ => none
def mvV (m : Mv) : Value := .agg #[.int .i64 m.a, .int .i64 m.b, .int .i64 m.c]
theorem moveR_mk (m : Mv) : moveR (mvV m) = some (.agg [.lit (.int .i64 m.a), .lit (.int .i64 m.b), .lit (.int .i64 m.c)], []) := rfl
theorem moveR_inv {v : Value} {y : DataW Unit × List MemPlace} (h : moveR v = some y) : ∃ m, v = mvV m ∧ y = (.agg [.lit (.int .i64 m.a), .lit (.int .i64 m.b), .lit (.int .i64 m.c)], []) := by
  unfold moveR at h
  split at h
  · rename_i vs
    split at h
    · rename_i a b c he
      cases h
      refine ⟨⟨a, b, c⟩, ?_, rfl⟩
      unfold mvV
      congr 1
      exact Array.toList_inj.1 he
    · cases h
  · cases h
def encM (o : Option Mv) : DataW Unit := match o with | none => .nil | some m => .agg [.lit (.int .i64 m.a), .lit (.int .i64 m.b), .lit (.int .i64 m.c)]
theorem encM_none {o : Option Mv} (h : encM o = .nil) : o = none := by
  cases o with
  | none => rfl
  | some p => cases h
theorem encM_some {o : Option Mv} {m : Mv} (h : encM o = .agg [.lit (.int .i64 m.a), .lit (.int .i64 m.b), .lit (.int .i64 m.c)]) : o = some m := by
  cases o with
  | none => cases h
  | some p =>
    obtain ⟨a, b, c⟩ := p
    obtain ⟨a', b', c'⟩ := m
    simp only [encM, DataW.agg.injEq, List.cons.injEq, DataW.lit.injEq, Lit.int.injEq, true_and, and_true] at h
    rw [h.1, h.2.1, h.2.2]

/-- places that are keys -/
def SmallI (p : Int) : Prop := 0 ≤ p ∧ p ≤ 1000000000
def kI (p : Int) : Lit := .int .i64 p
theorem keyI_mk {p : Int} (h : SmallI p) : keyOf Try.prog 3 (.int .i64 p) = some (kI p) := by
  have h1 : (Lit.int .i64 p).wf = true := WalkArith.wf_i64 (by unfold SmallI at h; omega)
  refine keyOf_of_mapKey ?_
  simp [mapKey, Try.underlying3, h1, kI]
theorem keyI : Maps.Keyed Try.prog 3 := Maps.int_keyed Try.underlying3
theorem kI_inj {p q : Int} (h : kI p = kI q) : p = q := by
  unfold kI at h
  injection h
theorem zeroM (w : World) : (zeroValue 51).run Try.prog w = .ok (.agg #[.int .i64 0, .int .i64 0, .int .i64 0]) w := by kernel_rfl

/-- block b is a map of at most n entries that holds f -/
def MapM (w : World) (b n : Nat) (f : Int → Option Mv) : Prop :=
  ∃ D : DataW Unit, w.ownsMap Try.prog 3 moveR b n D ∧ ∀ p, SmallI p → D.atKey (kI p) .nil = encM (f p)
theorem MapM.made (w : World) : MapM (w.alloc (.map #[] 0)) w.heap.size 0 (fun _ => none) := ⟨_, World.ownsMap_made w _ _ _, fun _ _ => rfl⟩
theorem MapM.lt {w : World} {b n : Nat} {f : Int → Option Mv} (h : MapM w b n f) : b < w.heap.size := by obtain ⟨D, h, _⟩ := h; exact h.lt
theorem MapM.grown {w w' : World} {b n : Nat} {f : Int → Option Mv} {r : Option Nat} (h : MapM w b n f) (hg : w.grownBy w' r) (hne : some b ≠ r) : MapM w' b n f := by
  obtain ⟨D, h, hf⟩ := h
  exact ⟨D, h.kept hg hne, hf⟩
theorem MapM.alloc {w : World} {b n : Nat} {f : Int → Option Mv} (h : MapM w b n f) (o : Obj) : MapM (w.alloc o) b n f := by
  obtain ⟨D, h, hf⟩ := h
  exact ⟨D, h.alloc o, hf⟩
theorem MapM.below {w w' : World} {B b n : Nat} {f : Int → Option Mv} (h : MapM w b n f) (hb : Below B w w') (hlt : b < B) : MapM w' b n f := by
  obtain ⟨D, ⟨es, clock, hh, rest⟩, hf⟩ := h
  exact ⟨D, ⟨es, clock, (hb.block b hlt).trans hh, rest⟩, hf⟩
theorem MapM.mono {w : World} {b n n' : Nat} {f : Int → Option Mv} (h : MapM w b n f) (hn : n ≤ n') : MapM w b n' f := by
  obtain ⟨D, h, hf⟩ := h
  exact ⟨D, h.mono hn, hf⟩
/-- f, changed at one place -/
def putM (f : Int → Option Mv) (s : Int) (o : Option Mv) : Int → Option Mv := fun t => if t = s then o else f t
/-- a lookup's value alone -/
def lookM1 (o : Option Mv) : Value := match o with | none => .agg #[.int .i64 0, .int .i64 0, .int .i64 0] | some m => mvV m
def lookM (o : Option Mv) : Value := match o with | none => .tuple #[.agg #[.int .i64 0, .int .i64 0, .int .i64 0], .bool false] | some m => .tuple #[mvV m, .bool true]

section
variable {w : World} {b n : Nat} {f : Int → Option Mv}
theorem MapM.run_look (h : MapM w b n f) (s : Int) (hs : SmallI s) : (Instr.lookup 71 (.map (some b)) (.int .i64 s) true).run Try.prog w = .ok (lookM (f s)) w := by
  obtain ⟨D, ⟨es, clock, hb, F, _, rfl⟩, hf⟩ := h
  rcases Maps.fit_look true keyI Try.underlying71 (zeroM w) hb F (keyI_mk hs) with ⟨hrun, _, hat⟩ | ⟨e0, y, _, _, hrun, hRv, hat, _⟩
  · have e := encM_none ((hf s hs).symm.trans (hat .nil))
    rw [e]
    exact hrun
  · obtain ⟨m', hv, rfl⟩ := moveR_inv hRv
    have e := encM_some ((hf s hs).symm.trans (hat .nil))
    rw [e]
    rw [hv] at hrun
    exact hrun
theorem MapM.run_lookM1 (h : MapM w b n f) (s : Int) (hs : SmallI s) : (Instr.lookup 71 (.map (some b)) (.int .i64 s) false).run Try.prog w = .ok (lookM1 (f s)) w := by
  obtain ⟨D, ⟨es, clock, hb, F, _, rfl⟩, hf⟩ := h
  rcases Maps.fit_look false keyI Try.underlying71 (zeroM w) hb F (keyI_mk hs) with ⟨hrun, _, hat⟩ | ⟨e0, y, _, _, hrun, hRv, hat, _⟩
  · have e := encM_none ((hf s hs).symm.trans (hat .nil))
    rw [e]
    exact hrun
  · obtain ⟨m', hv, rfl⟩ := moveR_inv hRv
    have e := encM_some ((hf s hs).symm.trans (hat .nil))
    rw [e]
    rw [hv] at hrun
    exact hrun
theorem MapM.run_put (h : MapM w b n f) (hn : n < maxLen) (s : Int) (hs : SmallI s) (m : Mv) :
    ∃ w', (Instr.mapUpdate 71 (.map (some b)) (.int .i64 s) (mvV m)).run Try.prog w = .ok () w' ∧ MapM w' b (n + 1) (putM f s (some m)) ∧ w.grownBy w' (some b) := by
  obtain ⟨D, h, hf⟩ := h
  obtain ⟨w', hrun, h2, hg⟩ := h.update keyI Try.underlying71 hn (keyI_mk hs) (moveR_mk m)
  refine ⟨w', hrun, ⟨_, h2, fun t ht => ?_⟩, hg⟩
  have hD : Maps.IsMap D := by obtain ⟨es, clock, _, _, _, e⟩ := h; exact ⟨_, e⟩
  unfold putM
  by_cases e : t = s
  · subst e
    rw [if_pos rfl, Maps.atKey_put_same hD (by trivial)]
    rfl
  · rw [if_neg e, Maps.atKey_put_other (fun h => e (kI_inj h))]
    exact hf t ht
end

section
variable {ops : Array Oper} {rest : List Oper} {o : Oper} {a : Act} {w : World} {Q : Exit → Act → World → Prop} {b n : Nat} {f : Int → Option Mv}
theorem wpList_lookM (hg : o.guard = none) (m x : Operand) (hop : o.op = Op.lookup 71 m x true) (hm : a.eval m = .map (some b)) (h : MapM w b n f) (s : Int) (hx : a.eval x = .int .i64 s) (hs : SmallI s)
    (hK : wpList Try.prog ops Q rest (a.put o.dst (lookM (f s))) w) : wpList Try.prog ops Q (o :: rest) a w := by
  have hrun := h.run_look s hs
  refine wpList_plain hg fun K' hK' => ?_
  unfold Oper.wp
  simp [execOp, hop, hm, hx, hrun, Result.andThen]
  exact hK' _ _ hK
theorem wpList_lookM1 (hg : o.guard = none) (m x : Operand) (hop : o.op = Op.lookup 71 m x false) (hm : a.eval m = .map (some b)) (h : MapM w b n f) (s : Int) (hx : a.eval x = .int .i64 s) (hs : SmallI s)
    (hK : wpList Try.prog ops Q rest (a.put o.dst (lookM1 (f s))) w) : wpList Try.prog ops Q (o :: rest) a w := by
  have hrun := h.run_lookM1 s hs
  refine wpList_plain hg fun K' hK' => ?_
  unfold Oper.wp
  simp [execOp, hop, hm, hx, hrun, Result.andThen]
  exact hK' _ _ hK
theorem wpList_putM (hg : o.guard = none) (m x v : Operand) (hop : o.op = Op.mapUpdate 71 m x v) (hm : a.eval m = .map (some b)) (h : MapM w b n f) (hn : n < maxLen) (s : Int) (hx : a.eval x = .int .i64 s) (hs : SmallI s) (u0 u1 u2 : Int) (hv : a.eval v = .agg #[.int .i64 u0, .int .i64 u1, .int .i64 u2])
    (hK : ∀ w', MapM w' b (n + 1) (putM f s (some ⟨u0, u1, u2⟩)) → w.grownBy w' (some b) → wpList Try.prog ops Q rest (a.put o.dst undef) w') : wpList Try.prog ops Q (o :: rest) a w := by
  obtain ⟨w', hrun, r1, r2⟩ := h.run_put hn s hs ⟨u0, u1, u2⟩
  unfold mvV at hrun
  refine wpList_plain hg fun K' hK' => ?_
  unfold Oper.wp
  simp [execOp, hop, hm, hx, hv, hrun, Result.andThen]
  exact hK' _ _ (hK w' r1 r2)
end
end Go.Proofs.Ytkgcbbbmiklgaaa
