/-
  Maps from words to fractions that a call makes itself: what they hold, as a function; the laws at the operations.
-/
import Derived.Test.YtldjepplklbnoaaWords
import Derived.Test.YtldjepplklbnoaaFind
import Derived.Maps.OwnSet
import Derived.Maps.Views
import Derived.OwnWalk
import Derived.KernelRfl
namespace Go.Proofs.Ytldjepplklbnoaa
open Go.RowKit
open Go.WideElems (Fit)
open Go.WideAt Go.WideMaps Go.ChangeMaps Go.Maps

theorem data_eq' {a b : ByteArray} (h : a.data.toList = b.data.toList) : a = b := by
  cases a; cases b; simp only at h; rw [Array.toList_inj.1 h]

/-- how a fraction reads -/
def fracR (v : Value) : Option (DataW Unit × List MemPlace) :=
  match v with
  | .agg vs => match vs.toList with
    | [.int .i64 n, .int .i64 d] => some (.agg [.lit (.int .i64 n), .lit (.int .i64 d)], [])
    | _ => none
  | _ => none
theorem fracR_mk (n d : Int) : fracR (.agg #[.int .i64 n, .int .i64 d]) = some (.agg [.lit (.int .i64 n), .lit (.int .i64 d)], []) := rfl
theorem fracR_inv {v : Value} {y : DataW Unit × List MemPlace} (h : fracR v = some y) : ∃ n d, v = .agg #[.int .i64 n, .int .i64 d] ∧ y = (.agg [.lit (.int .i64 n), .lit (.int .i64 d)], []) := by
  unfold fracR at h
  split at h
  · rename_i vs
    split at h
    · rename_i n d he
      cases h
      refine ⟨n, d, ?_, rfl⟩
      congr 1
      exact Array.toList_inj.1 he
    · cases h
  · cases h
def encF (o : Option (Int × Int)) : DataW Unit := match o with | none => .nil | some (n, d) => .agg [.lit (.int .i64 n), .lit (.int .i64 d)]
theorem encF_none {o : Option (Int × Int)} (h : encF o = .nil) : o = none := by
  cases o with
  | none => rfl
  | some p => cases h
theorem encF_some {o : Option (Int × Int)} {n d : Int} (h : encF o = .agg [.lit (.int .i64 n), .lit (.int .i64 d)]) : o = some (n, d) := by
  cases o with
  | none => cases h
  | some p =>
    obtain ⟨a, b⟩ := p
    simp only [encF, DataW.agg.injEq, List.cons.injEq, DataW.lit.injEq, Lit.int.injEq, true_and, and_true] at h
    rw [h.1, h.2]

theorem keyS : Maps.Keyed Try.prog 9 := Maps.string_keyed Try.underlying9
theorem zeroF (w : World) : (zeroValue 27).run Try.prog w = .ok (.agg #[.int .i64 0, .int .i64 0]) w := by kernel_rfl

/-- block b is a map of at most n entries that holds f -/
def MapV (w : World) (b n : Nat) (f : ByteArray → Option (Int × Int)) : Prop :=
  ∃ D : DataW Unit, w.ownsMap Try.prog 9 fracR b n D ∧ ∀ s, D.atKey (.string s.data.toList) .nil = encF (f s)
theorem MapV.made (w : World) : MapV (w.alloc (.map #[] 0)) w.heap.size 0 (fun _ => none) := ⟨_, World.ownsMap_made w _ _ _, fun _ => rfl⟩
theorem MapV.lt {w : World} {b n : Nat} {f : ByteArray → Option (Int × Int)} (h : MapV w b n f) : b < w.heap.size := by obtain ⟨D, h, _⟩ := h; exact h.lt
theorem MapV.grown {w w' : World} {b n : Nat} {f : ByteArray → Option (Int × Int)} {r : Option Nat} (h : MapV w b n f) (hg : w.grownBy w' r) (hne : some b ≠ r) : MapV w' b n f := by
  obtain ⟨D, h, hf⟩ := h
  exact ⟨D, h.kept hg hne, hf⟩
theorem MapV.alloc {w : World} {b n : Nat} {f : ByteArray → Option (Int × Int)} (h : MapV w b n f) (o : Obj) : MapV (w.alloc o) b n f := by
  obtain ⟨D, h, hf⟩ := h
  exact ⟨D, h.alloc o, hf⟩
theorem MapV.below {w w' : World} {B b n : Nat} {f : ByteArray → Option (Int × Int)} (h : MapV w b n f) (hb : Below B w w') (hlt : b < B) : MapV w' b n f := by
  obtain ⟨D, ⟨es, clock, hh, rest⟩, hf⟩ := h
  exact ⟨D, ⟨es, clock, (hb.block b hlt).trans hh, rest⟩, hf⟩
theorem MapV.congr {w : World} {b n : Nat} {f g : ByteArray → Option (Int × Int)} (h : MapV w b n f) (e : ∀ s, f s = g s) : MapV w b n g := by
  obtain ⟨D, h, hf⟩ := h
  exact ⟨D, h, fun s => by rw [hf, e]⟩
theorem MapV.mono {w : World} {b n n' : Nat} {f : ByteArray → Option (Int × Int)} (h : MapV w b n f) (hn : n ≤ n') : MapV w b n' f := by
  obtain ⟨D, h, hf⟩ := h
  exact ⟨D, h.mono hn, hf⟩

/-- f, changed at one word -/
def setF (f : ByteArray → Option (Int × Int)) (s : ByteArray) (o : Option (Int × Int)) : ByteArray → Option (Int × Int) := fun t => if t = s then o else f t
def lookV (o : Option (Int × Int)) : Value := match o with | none => .tuple #[.agg #[.int .i64 0, .int .i64 0], .bool false] | some (n, d) => .tuple #[.agg #[.int .i64 n, .int .i64 d], .bool true]

section
variable {w : World} {b n : Nat} {f : ByteArray → Option (Int × Int)}
theorem MapV.run_look (h : MapV w b n f) (s : ByteArray) (hs : s.size ≤ maxLen) : (Instr.lookup 45 (.map (some b)) (.string s) true).run Try.prog w = .ok (lookV (f s)) w := by
  obtain ⟨D, ⟨es, clock, hb, F, _, rfl⟩, hf⟩ := h
  rcases Maps.fit_look true keyS Try.underlying45 (zeroF w) hb F (keyOf_string_mk Try.underlying9 hs) with ⟨hrun, _, hat⟩ | ⟨e0, y, _, _, hrun, hRv, hat, _⟩
  · have e := encF_none ((hf s).symm.trans (hat .nil))
    rw [e]
    exact hrun
  · obtain ⟨n', d', hv, rfl⟩ := fracR_inv hRv
    have e := encF_some ((hf s).symm.trans (hat .nil))
    rw [e]
    rw [hv] at hrun
    exact hrun
theorem MapV.run_put (h : MapV w b n f) (hn : n < maxLen) (s : ByteArray) (hs : s.size ≤ maxLen) (x d : Int) :
    ∃ w', (Instr.mapUpdate 45 (.map (some b)) (.string s) (.agg #[.int .i64 x, .int .i64 d])).run Try.prog w = .ok () w' ∧ MapV w' b (n + 1) (setF f s (some (x, d))) ∧ w.grownBy w' (some b) := by
  obtain ⟨D, h, hf⟩ := h
  obtain ⟨w', hrun, h2, hg⟩ := h.update keyS Try.underlying45 hn (keyOf_string_mk Try.underlying9 hs) (fracR_mk x d)
  refine ⟨w', hrun, ⟨_, h2, fun t => ?_⟩, hg⟩
  have hD : Maps.IsMap D := by obtain ⟨es, clock, _, _, _, e⟩ := h; exact ⟨_, e⟩
  unfold setF
  by_cases e : t = s
  · subst e
    rw [if_pos rfl, Maps.atKey_put_same hD (by trivial)]
    rfl
  · rw [if_neg e, Maps.atKey_put_other (fun h => e (data_eq' (by injection h)))]
    exact hf t
theorem MapV.run_del (h : MapV w b n f) (s : ByteArray) (hs : s.size ≤ maxLen) (ty : TypeId) :
    ∃ w', (Builtin.delete_ #[45, 9] ty #[.map (some b), .string s]).run Try.prog w = .ok (.tuple #[]) w' ∧ MapV w' b n (setF f s none) ∧ w.mapTurned w' b := by
  obtain ⟨D, h, hf⟩ := h
  obtain ⟨w', hrun, h2, hg⟩ := h.drop keyS Try.underlying45 (keyOf_string_mk Try.underlying9 hs) ty
  refine ⟨w', hrun, ⟨_, h2, fun t => ?_⟩, hg⟩
  unfold setF
  by_cases e : t = s
  · subst e
    rw [if_pos rfl, Maps.atKey_del_same]
    rfl
  · rw [if_neg e, Maps.atKey_del_other (fun h => e (data_eq' (by injection h)))]
    exact hf t
end

section
variable {ops : Array Oper} {rest : List Oper} {o : Oper} {a : Act} {w : World} {Q : Exit → Act → World → Prop} {b n : Nat} {f : ByteArray → Option (Int × Int)}
theorem wpList_lookV (hg : o.guard = none) (m x : Operand) (hop : o.op = Op.lookup 45 m x true) (hm : a.eval m = .map (some b)) (h : MapV w b n f) (s : ByteArray) (hx : a.eval x = .string s) (hs : s.size ≤ maxLen)
    (hK : wpList Try.prog ops Q rest (a.put o.dst (lookV (f s))) w) : wpList Try.prog ops Q (o :: rest) a w := by
  refine wpList_plain hg fun K' hK' => ?_
  have hrun := h.run_look s hs
  unfold Oper.wp
  simp [execOp, hop, hm, hx, hrun, Result.andThen]
  exact hK' _ _ hK
theorem wpList_putV (hg : o.guard = none) (m x v : Operand) (hop : o.op = Op.mapUpdate 45 m x v ∨ o.op = Op.insert 45 m x v) (hm : a.eval m = .map (some b)) (h : MapV w b n f) (hn : n < maxLen) (s : ByteArray) (hx : a.eval x = .string s) (hs : s.size ≤ maxLen) (p d : Int) (hv : a.eval v = .agg #[.int .i64 p, .int .i64 d])
    (hK : ∀ w', MapV w' b (n + 1) (setF f s (some (p, d))) → w.grownBy w' (some b) → wpList Try.prog ops Q rest (a.put o.dst undef) w') : wpList Try.prog ops Q (o :: rest) a w := by
  refine wpList_plain hg fun K' hK' => ?_
  obtain ⟨w', hrun, r1, r2⟩ := h.run_put hn s hs p d
  rcases hop with hop | hop
  · unfold Oper.wp
    simp [execOp, hop, hm, hx, hv, hrun, Result.andThen]
    exact hK' _ _ (hK w' r1 r2)
  · unfold Oper.wp
    simp [execOp, hop, hm, hx, hv, hrun, Result.andThen]
    exact hK' _ _ (hK w' r1 r2)
theorem wpList_delV (hg : o.guard = none) (m x : Operand) (hop : o.op = Op.call { callee := Callee.builtin Builtin.delete, args := #[m, x], argTypes := #[45, 9] }) (hm : a.eval m = .map (some b)) (h : MapV w b n f) (s : ByteArray) (hx : a.eval x = .string s) (hs : s.size ≤ maxLen)
    (hK : ∀ w', MapV w' b n (setF f s none) → w.mapTurned w' b → wpList Try.prog ops Q rest (a.put o.dst (.tuple #[])) w') : wpList Try.prog ops Q (o :: rest) a w := by
  refine wpList_plain hg fun K' hK' => ?_
  obtain ⟨w', hrun, r1, r2⟩ := h.run_del s hs o.type
  unfold Oper.wp
  simp [execOp, hop, resolve, invoke, builtin, hm, hx, hrun, Result.andThen]
  exact hK' _ _ (hK w' r1 r2)
end
end Go.Proofs.Ytldjepplklbnoaa
