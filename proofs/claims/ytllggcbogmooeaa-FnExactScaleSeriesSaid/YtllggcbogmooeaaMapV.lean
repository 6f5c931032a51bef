/-
  Maps from words to fractions that a call makes itself: what they hold, as a function; the laws at the operations.
-/
import Derived.Test.YtllggcbogmooeaaWords
import Derived.Test.YtllggcbogmooeaaFind
import Derived.Maps.OwnSet
import Derived.Maps.Views
import Derived.OwnWalk
import Derived.KernelRfl
namespace Go.Proofs.Ytllggcbogmooeaa
open Go.RowKit
open Go.WideElems (Fit)
open Go.WideAt Go.WideMaps Go.ChangeMaps Go.Maps

theorem data_eq' {a b : ByteArray} (h : a.data.toList = b.data.toList) : a = b := by
  cases a; cases b; simp only at h; rw [Array.toList_inj.1 h]

/-- how a fraction reads -/
def fracR (v : Value) : Option (DataW Unit × List MemPlace) :=
  match v with
  | .agg vs => match vs.toList with
    | [.int .i64 n, .int .i64 d] => some (.agg [.lit (.int .i64 n), .lit (.int .i64 d)], [])
    | _ => none
  | _ => none
theorem fracR_mk (n d : Int) : fracR (.agg #[.int .i64 n, .int .i64 d]) = some (.agg [.lit (.int .i64 n), .lit (.int .i64 d)], []) := rfl
theorem fracR_inv {v : Value} {y : DataW Unit × List MemPlace} (h : fracR v = some y) : ∃ n d, v = .agg #[.int .i64 n, .int .i64 d] ∧ y = (.agg [.lit (.int .i64 n), .lit (.int .i64 d)], []) := by
  unfold fracR at h
  split at h
  · rename_i vs
    split at h
    · rename_i n d he
      cases h
      refine ⟨n, d, ?_, rfl⟩
      congr 1
      exact Array.toList_inj.1 he
    · cases h
  · cases h
def encF (o : Option (Int × Int)) : DataW Unit := match o with | none => .nil | some (n, d) => .agg [.lit (.int .i64 n), .lit (.int .i64 d)]
theorem encF_none {o : Option (Int × Int)} (h : encF o = .nil) : o = none := by
  cases o with
  | none => rfl
  | some p => cases h
theorem encF_some {o : Option (Int × Int)} {n d : Int} (h : encF o = .agg [.lit (.int .i64 n), .lit (.int .i64 d)]) : o = some (n, d) := by
  cases o with
  | none => cases h
  | some p =>
    obtain ⟨a, b⟩ := p
    simp only [encF, DataW.agg.injEq, List.cons.injEq, DataW.lit.injEq, Lit.int.injEq, true_and, and_true] at h
    rw [h.1, h.2]

theorem keyS : Maps.Keyed Try.prog 9 := Maps.string_keyed Try.underlying9
theorem zeroF (w : World) : (zeroValue 53).run Try.prog w = .ok (.agg #[.int .i64 0, .int .i64 0]) w := by kernel_rfl

/-- block b is a map of at most n entries that holds f -/
def MapV (w : World) (b n : Nat) (f : ByteArray → Option (Int × Int)) : Prop :=
  ∃ D : DataW Unit, w.ownsMap Try.prog 9 fracR b n D ∧ ∀ s, D.atKey (.string s.data.toList) .nil = encF (f s)
theorem MapV.made (w : World) : MapV (w.alloc (.map #[] 0)) w.heap.size 0 (fun _ => none) := ⟨_, World.ownsMap_made w _ _ _, fun _ => rfl⟩
theorem MapV.lt {w : World} {b n : Nat} {f : ByteArray → Option (Int × Int)} (h : MapV w b n f) : b < w.heap.size := by obtain ⟨D, h, _⟩ := h; exact h.lt
theorem MapV.grown {w w' : World} {b n : Nat} {f : ByteArray → Option (Int × Int)} {r : Option Nat} (h : MapV w b n f) (hg : w.grownBy w' r) (hne : some b ≠ r) : MapV w' b n f := by
  obtain ⟨D, h, hf⟩ := h
  exact ⟨D, h.kept hg hne, hf⟩
theorem MapV.alloc {w : World} {b n : Nat} {f : ByteArray → Option (Int × Int)} (h : MapV w b n f) (o : Obj) : MapV (w.alloc o) b n f := by
  obtain ⟨D, h, hf⟩ := h
  exact ⟨D, h.alloc o, hf⟩
theorem MapV.below {w w' : World} {B b n : Nat} {f : ByteArray → Option (Int × Int)} (h : MapV w b n f) (hb : Below B w w') (hlt : b < B) : MapV w' b n f := by
  obtain ⟨D, ⟨es, clock, hh, rest⟩, hf⟩ := h
  exact ⟨D, ⟨es, clock, (hb.block b hlt).trans hh, rest⟩, hf⟩
theorem MapV.congr {w : World} {b n : Nat} {f g : ByteArray → Option (Int × Int)} (h : MapV w b n f) (e : ∀ s, f s = g s) : MapV w b n g := by
  obtain ⟨D, h, hf⟩ := h
  exact ⟨D, h, fun s => by rw [hf, e]⟩
theorem MapV.mono {w : World} {b n n' : Nat} {f : ByteArray → Option (Int × Int)} (h : MapV w b n f) (hn : n ≤ n') : MapV w b n' f := by
  obtain ⟨D, h, hf⟩ := h
  exact ⟨D, h.mono hn, hf⟩

/-- f, changed at one word -/
def setF (f : ByteArray → Option (Int × Int)) (s : ByteArray) (o : Option (Int × Int)) : ByteArray → Option (Int × Int) := fun t => if t = s then o else f t
def lookV (o : Option (Int × Int)) : Value := match o with | none => .tuple #[.agg #[.int .i64 0, .int .i64 0], .bool false] | some (n, d) => .tuple #[.agg #[.int .i64 n, .int .i64 d], .bool true]

section
variable {w : World} {b n : Nat} {f : ByteArray → Option (Int × Int)}
end

section
variable {ops : Array Oper} {rest : List Oper} {o : Oper} {a : Act} {w : World} {Q : Exit → Act → World → Prop} {b n : Nat} {f : ByteArray → Option (Int × Int)}
end
end Go.Proofs.Ytllggcbogmooeaa
