/-
  Maps from words to fractions that a call makes itself: what they hold, as a function; the laws at the operations.
  Plain mathematics of pairings: the sum of the products of the values that two series have at the same words. No program is named here.
-/
import Derived.Test.YtgcjpenlcokgjaaGreatDoorWordW
import Derived.Test.YtgcjpenlcokgjaaGreatDoorTol
import Derived.Maps.OwnSet
import Derived.Maps.Views
import Derived.OwnWalk
import Derived.KernelRfl
namespace Go.Proofs.YtgcjpenlcokgjaaGreatDoor
open Go.RowKit
open Go.WideElems (Fit)
open Go.WideAt Go.WideMaps Go.ChangeMaps Go.Maps

theorem data_eq' {a b : ByteArray} (h : a.data.toList = b.data.toList) : a = b := by
  cases a; cases b; simp only at h; rw [Array.toList_inj.1 h]

/-- how a fraction reads -/
def fracR (v : Value) : Option (DataW Unit × List MemPlace) :=
  match v with
  | .agg vs => match vs.toList with
    | [.int .i64 n, .int .i64 d] => some (.agg [.lit (.int .i64 n), .lit (.int .i64 d)], [])
    | _ => none
  | _ => none
theorem fracR_mk (n d : Int) : fracR (.agg #[.int .i64 n, .int .i64 d]) = some (.agg [.lit (.int .i64 n), .lit (.int .i64 d)], []) := rfl
theorem fracR_inv {v : Value} {y : DataW Unit × List MemPlace} (h : fracR v = some y) : ∃ n d, v = .agg #[.int .i64 n, .int .i64 d] ∧ y = (.agg [.lit (.int .i64 n), .lit (.int .i64 d)], []) := by
  unfold fracR at h
  split at h
  · rename_i vs
    split at h
    · rename_i n d he
      cases h
      refine ⟨n, d, ?_, rfl⟩
      congr 1
      exact Array.toList_inj.1 he
    · cases h
  · cases h
def encF (o : Option (Int × Int)) : DataW Unit := match o with | none => .nil | some (n, d) => .agg [.lit (.int .i64 n), .lit (.int .i64 d)]
theorem encF_none {o : Option (Int × Int)} (h : encF o = .nil) : o = none := by
  cases o with
  | none => rfl
  | some p => cases h
theorem encF_some {o : Option (Int × Int)} {n d : Int} (h : encF o = .agg [.lit (.int .i64 n), .lit (.int .i64 d)]) : o = some (n, d) := by
  cases o with
  | none => cases h
  | some p =>
    obtain ⟨a, b⟩ := p
    simp only [encF, DataW.agg.injEq, List.cons.injEq, DataW.lit.injEq, Lit.int.injEq, true_and, and_true] at h
    rw [h.1, h.2]

theorem keyS : Maps.Keyed Tryz.prog 9 := Maps.string_keyed Tryz.underlying9
theorem zeroF (w : World) : (zeroValue 58).run Tryz.prog w = .ok (.agg #[.int .i64 0, .int .i64 0]) w := by kernel_rfl

/-- block b is a map of at most n entries that holds f -/
def MapV (w : World) (b n : Nat) (f : ByteArray → Option (Int × Int)) : Prop :=
  ∃ D : DataW Unit, w.ownsMap Tryz.prog 9 fracR b n D ∧ ∀ s, D.atKey (.string s.data.toList) .nil = encF (f s)
theorem MapV.made (w : World) : MapV (w.alloc (.map #[] 0)) w.heap.size 0 (fun _ => none) := ⟨_, World.ownsMap_made w _ _ _, fun _ => rfl⟩
theorem MapV.lt {w : World} {b n : Nat} {f : ByteArray → Option (Int × Int)} (h : MapV w b n f) : b < w.heap.size := by obtain ⟨D, h, _⟩ := h; exact h.lt
theorem MapV.grown {w w' : World} {b n : Nat} {f : ByteArray → Option (Int × Int)} {r : Option Nat} (h : MapV w b n f) (hg : w.grownBy w' r) (hne : some b ≠ r) : MapV w' b n f := by
  obtain ⟨D, h, hf⟩ := h
  exact ⟨D, h.kept hg hne, hf⟩
theorem MapV.alloc {w : World} {b n : Nat} {f : ByteArray → Option (Int × Int)} (h : MapV w b n f) (o : Obj) : MapV (w.alloc o) b n f := by
  obtain ⟨D, h, hf⟩ := h
  exact ⟨D, h.alloc o, hf⟩
theorem MapV.below {w w' : World} {B b n : Nat} {f : ByteArray → Option (Int × Int)} (h : MapV w b n f) (hb : Below B w w') (hlt : b < B) : MapV w' b n f := by
  obtain ⟨D, ⟨es, clock, hh, rest⟩, hf⟩ := h
  exact ⟨D, ⟨es, clock, (hb.block b hlt).trans hh, rest⟩, hf⟩
theorem MapV.congr {w : World} {b n : Nat} {f g : ByteArray → Option (Int × Int)} (h : MapV w b n f) (e : ∀ s, f s = g s) : MapV w b n g := by
  obtain ⟨D, h, hf⟩ := h
  exact ⟨D, h, fun s => by rw [hf, e]⟩
theorem MapV.mono {w : World} {b n n' : Nat} {f : ByteArray → Option (Int × Int)} (h : MapV w b n f) (hn : n ≤ n') : MapV w b n' f := by
  obtain ⟨D, h, hf⟩ := h
  exact ⟨D, h.mono hn, hf⟩

/-- f, changed at one word -/
def setF (f : ByteArray → Option (Int × Int)) (s : ByteArray) (o : Option (Int × Int)) : ByteArray → Option (Int × Int) := fun t => if t = s then o else f t
def lookV (o : Option (Int × Int)) : Value := match o with | none => .tuple #[.agg #[.int .i64 0, .int .i64 0], .bool false] | some (n, d) => .tuple #[.agg #[.int .i64 n, .int .i64 d], .bool true]

section
variable {w : World} {b n : Nat} {f : ByteArray → Option (Int × Int)}
theorem MapV.run_look (h : MapV w b n f) (s : ByteArray) (hs : s.size ≤ maxLen) : (Instr.lookup 68 (.map (some b)) (.string s) true).run Tryz.prog w = .ok (lookV (f s)) w := by
  obtain ⟨D, ⟨es, clock, hb, F, _, rfl⟩, hf⟩ := h
  rcases Maps.fit_look true keyS Tryz.underlying68 (zeroF w) hb F (keyOf_string_mk Tryz.underlying9 hs) with ⟨hrun, _, hat⟩ | ⟨e0, y, _, _, hrun, hRv, hat, _⟩
  · have e := encF_none ((hf s).symm.trans (hat .nil))
    rw [e]
    exact hrun
  · obtain ⟨n', d', hv, rfl⟩ := fracR_inv hRv
    have e := encF_some ((hf s).symm.trans (hat .nil))
    rw [e]
    rw [hv] at hrun
    exact hrun
theorem MapV.run_put (h : MapV w b n f) (hn : n < maxLen) (s : ByteArray) (hs : s.size ≤ maxLen) (x d : Int) :
    ∃ w', (Instr.mapUpdate 68 (.map (some b)) (.string s) (.agg #[.int .i64 x, .int .i64 d])).run Tryz.prog w = .ok () w' ∧ MapV w' b (n + 1) (setF f s (some (x, d))) ∧ w.grownBy w' (some b) := by
  obtain ⟨D, h, hf⟩ := h
  obtain ⟨w', hrun, h2, hg⟩ := h.update keyS Tryz.underlying68 hn (keyOf_string_mk Tryz.underlying9 hs) (fracR_mk x d)
  refine ⟨w', hrun, ⟨_, h2, fun t => ?_⟩, hg⟩
  have hD : Maps.IsMap D := by obtain ⟨es, clock, _, _, _, e⟩ := h; exact ⟨_, e⟩
  unfold setF
  by_cases e : t = s
  · subst e
    rw [if_pos rfl, Maps.atKey_put_same hD (by trivial)]
    rfl
  · rw [if_neg e, Maps.atKey_put_other (fun h => e (data_eq' (by injection h)))]
    exact hf t
theorem MapV.run_del (h : MapV w b n f) (s : ByteArray) (hs : s.size ≤ maxLen) (ty : TypeId) :
    ∃ w', (Builtin.delete_ #[68, 9] ty #[.map (some b), .string s]).run Tryz.prog w = .ok (.tuple #[]) w' ∧ MapV w' b n (setF f s none) ∧ w.mapTurned w' b := by
  obtain ⟨D, h, hf⟩ := h
  obtain ⟨w', hrun, h2, hg⟩ := h.drop keyS Tryz.underlying68 (keyOf_string_mk Tryz.underlying9 hs) ty
  refine ⟨w', hrun, ⟨_, h2, fun t => ?_⟩, hg⟩
  unfold setF
  by_cases e : t = s
  · subst e
    rw [if_pos rfl, Maps.atKey_del_same]
    rfl
  · rw [if_neg e, Maps.atKey_del_other (fun h => e (data_eq' (by injection h)))]
    exact hf t
end

section
variable {ops : Array Oper} {rest : List Oper} {o : Oper} {a : Act} {w : World} {Q : Exit → Act → World → Prop} {b n : Nat} {f : ByteArray → Option (Int × Int)}
theorem wpList_lookV (hg : o.guard = none) (m x : Operand) (hop : o.op = Op.lookup 68 m x true) (hm : a.eval m = .map (some b)) (h : MapV w b n f) (s : ByteArray) (hx : a.eval x = .string s) (hs : s.size ≤ maxLen)
    (hK : wpList Tryz.prog ops Q rest (a.put o.dst (lookV (f s))) w) : wpList Tryz.prog ops Q (o :: rest) a w := by
  refine wpList_plain hg fun K' hK' => ?_
  have hrun := h.run_look s hs
  unfold Oper.wp
  simp [execOp, hop, hm, hx, hrun, Result.andThen]
  exact hK' _ _ hK
theorem wpList_putV (hg : o.guard = none) (m x v : Operand) (hop : o.op = Op.mapUpdate 68 m x v ∨ o.op = Op.insert 68 m x v) (hm : a.eval m = .map (some b)) (h : MapV w b n f) (hn : n < maxLen) (s : ByteArray) (hx : a.eval x = .string s) (hs : s.size ≤ maxLen) (p d : Int) (hv : a.eval v = .agg #[.int .i64 p, .int .i64 d])
    (hK : ∀ w', MapV w' b (n + 1) (setF f s (some (p, d))) → w.grownBy w' (some b) → wpList Tryz.prog ops Q rest (a.put o.dst undef) w') : wpList Tryz.prog ops Q (o :: rest) a w := by
  refine wpList_plain hg fun K' hK' => ?_
  obtain ⟨w', hrun, r1, r2⟩ := h.run_put hn s hs p d
  rcases hop with hop | hop
  · unfold Oper.wp
    simp [execOp, hop, hm, hx, hv, hrun, Result.andThen]
    exact hK' _ _ (hK w' r1 r2)
  · unfold Oper.wp
    simp [execOp, hop, hm, hx, hv, hrun, Result.andThen]
    exact hK' _ _ (hK w' r1 r2)
theorem wpList_delV (hg : o.guard = none) (m x : Operand) (hop : o.op = Op.call { callee := Callee.builtin Builtin.delete, args := #[m, x], argTypes := #[68, 9] }) (hm : a.eval m = .map (some b)) (h : MapV w b n f) (s : ByteArray) (hx : a.eval x = .string s) (hs : s.size ≤ maxLen)
    (hK : ∀ w', MapV w' b n (setF f s none) → w.mapTurned w' b → wpList Tryz.prog ops Q rest (a.put o.dst (.tuple #[])) w') : wpList Tryz.prog ops Q (o :: rest) a w := by
  refine wpList_plain hg fun K' hK' => ?_
  obtain ⟨w', hrun, r1, r2⟩ := h.run_del s hs o.type
  unfold Oper.wp
  simp [execOp, hop, resolve, invoke, builtin, hm, hx, hrun, Result.andThen]
  exact hK' _ _ (hK w' r1 r2)
end
end Go.Proofs.YtgcjpenlcokgjaaGreatDoor

namespace Go.Proofs.YtgcjpenlcokgjaaGreatDoor

/-- one term's share: nothing where the other series has no value -/
def pairStep (ys : List Tm) (acc : Int × Int) (t : Tm) : Option (Int × Int) :=
  if (valL t.s.data.toList ys).1 = 0 then some acc else
  if fOk (t.n * (valL t.s.data.toList ys).1) (t.d * (valL t.s.data.toList ys).2) then
    (if fOk (acc.1 * fD (t.n * (valL t.s.data.toList ys).1) (t.d * (valL t.s.data.toList ys).2) + fN (t.n * (valL t.s.data.toList ys).1) (t.d * (valL t.s.data.toList ys).2) * acc.2) (acc.2 * fD (t.n * (valL t.s.data.toList ys).1) (t.d * (valL t.s.data.toList ys).2)) then
      some (fN (acc.1 * fD (t.n * (valL t.s.data.toList ys).1) (t.d * (valL t.s.data.toList ys).2) + fN (t.n * (valL t.s.data.toList ys).1) (t.d * (valL t.s.data.toList ys).2) * acc.2) (acc.2 * fD (t.n * (valL t.s.data.toList ys).1) (t.d * (valL t.s.data.toList ys).2)),
        fD (acc.1 * fD (t.n * (valL t.s.data.toList ys).1) (t.d * (valL t.s.data.toList ys).2) + fN (t.n * (valL t.s.data.toList ys).1) (t.d * (valL t.s.data.toList ys).2) * acc.2) (acc.2 * fD (t.n * (valL t.s.data.toList ys).1) (t.d * (valL t.s.data.toList ys).2)))
    else none)
  else none
def pairL (ys : List Tm) : List Tm → Int × Int → Option (Int × Int)
  | [], acc => some acc
  | t :: r, acc => match pairStep ys acc t with
    | none => none
    | some a => pairL ys r a
theorem fOk_isFp {n d : Int} (h : fOk n d = true) : isF (fN n d) (fD n d) = true := by
  have h2 : lowOk n d = true := by
    unfold fOk at h
    rw [Bool.and_eq_true] at h
    exact h.2
  unfold fN fD
  rw [if_pos h, if_pos h]
  exact h2
theorem pair_skip {ys : List Tm} {acc : Int × Int} {t : Tm} {p q : Int} (hv : valL t.s.data.toList ys = (p, q)) (h : p = 0) : pairStep ys acc t = some acc := by
  unfold pairStep
  rw [hv]
  simp [h]
theorem pair_bad1 {ys : List Tm} {acc : Int × Int} {t : Tm} {p q : Int} (hv : valL t.s.data.toList ys = (p, q)) (h : p ≠ 0) (h1 : fOk (t.n * p) (t.d * q) = false) : pairStep ys acc t = none := by
  unfold pairStep
  rw [hv]
  simp [h, h1]
theorem pair_bad2 {ys : List Tm} {a b : Int} {t : Tm} {p q x y : Int} (hv : valL t.s.data.toList ys = (p, q)) (h : p ≠ 0) (h1 : fOk (t.n * p) (t.d * q) = true) (hx : fN (t.n * p) (t.d * q) = x) (hy : fD (t.n * p) (t.d * q) = y)
    (h2 : fOk (a * y + x * b) (b * y) = false) : pairStep ys (a, b) t = none := by
  unfold pairStep
  rw [hv]
  simp only
  rw [if_neg h, if_pos h1, hx, hy, if_neg (by rw [h2]; simp)]
theorem pair_good {ys : List Tm} {a b : Int} {t : Tm} {p q x y : Int} (hv : valL t.s.data.toList ys = (p, q)) (h : p ≠ 0) (h1 : fOk (t.n * p) (t.d * q) = true) (hx : fN (t.n * p) (t.d * q) = x) (hy : fD (t.n * p) (t.d * q) = y)
    (h2 : fOk (a * y + x * b) (b * y) = true) : pairStep ys (a, b) t = some (fN (a * y + x * b) (b * y), fD (a * y + x * b) (b * y)) := by
  unfold pairStep
  rw [hv]
  simp only
  rw [if_neg h, if_pos h1, hx, hy, if_pos h2]
theorem pair_next {ys xs : List Tm} {k : Nat} (hk : k < xs.length) (acc : Int × Int) : pairL ys (xs.drop k) acc = match pairStep ys acc xs[k] with
    | none => none
    | some a => pairL ys (xs.drop (k + 1)) a := by
  rw [List.drop_eq_getElem_cons hk]
  rfl
/-- what a series holds in a map: its first k terms -/
def valV (ts : List Tm) : Nat → ByteArray → Option (Int × Int)
  | 0 => fun _ => none
  | k + 1 => if h : k < ts.length then setF (valV ts k) (ts[k]).s (some ((ts[k]).n, (ts[k]).d)) else valV ts k
theorem valV_succ {ts : List Tm} {k : Nat} (h : k < ts.length) : valV ts (k + 1) = setF (valV ts k) (ts[k]).s (some ((ts[k]).n, (ts[k]).d)) := by
  show (if h : k < ts.length then _ else _) = _
  rw [dif_pos h]
theorem valV_over {ts : List Tm} {k : Nat} (h : ¬ k < ts.length) : valV ts (k + 1) = valV ts k := by
  show (if h : k < ts.length then _ else _) = _
  rw [dif_neg h]
theorem valV_none {ts : List Tm} {s : ByteArray} : ∀ (k : Nat), (∀ i (h : i < ts.length), i < k → (ts[i]).s ≠ s) → valV ts k s = none
  | 0, _ => rfl
  | k + 1, hn => by
    by_cases h : k < ts.length
    · rw [valV_succ h]
      unfold setF
      rw [if_neg (fun e => hn k h (by omega) e.symm)]
      exact valV_none k (fun i hi hik => hn i hi (by omega))
    · rw [valV_over h]
      exact valV_none k (fun i hi hik => hn i hi (by omega))
theorem valV_at {ts : List Tm} (hd : ts.Pairwise (fun a b => a.s ≠ b.s)) {i : Nat} (hi : i < ts.length) : ∀ (k : Nat), i < k → valV ts k (ts[i]).s = some ((ts[i]).n, (ts[i]).d)
  | 0, h => by omega
  | k + 1, h => by
    by_cases hk : k < ts.length
    · rw [valV_succ hk]
      unfold setF
      by_cases e : i = k
      · subst e; rw [if_pos rfl]
      · have hne : (ts[i]).s ≠ (ts[k]).s := List.pairwise_iff_getElem.1 hd i k hi hk (by omega)
        rw [if_neg hne]
        exact valV_at hd hi k (by omega)
    · rw [valV_over hk]
      exact valV_at hd hi k (by omega)
/-- the map's answer and the search's -/
theorem valV_valL {ts : List Tm} (hd : ts.Pairwise (fun a b => a.s ≠ b.s)) (hn : ∀ t ∈ ts, t.n ≠ 0) (s : ByteArray) :
    (valV ts ts.length s = none ∧ valL s.data.toList ts = (0, 1)) ∨ (∃ t ∈ ts, valV ts ts.length s = some (t.n, t.d) ∧ valL s.data.toList ts = (t.n, t.d) ∧ t.n ≠ 0) := by
  by_cases h : ∃ i, ∃ (hi : i < ts.length), (ts[i]).s = s
  · obtain ⟨i, hi, rfl⟩ := h
    refine .inr ⟨ts[i], List.getElem_mem hi, valV_at hd hi _ hi, valL_at ts i hi (fun j hj hji => ?_) rfl, hn _ (List.getElem_mem hi)⟩
    exact fun e => List.pairwise_iff_getElem.1 hd j i hj hi hji (data_eq e)
  · refine .inl ⟨valV_none _ (fun i hi _ e => h ⟨i, hi, e⟩), valL_none ts (fun j hj e => h ⟨j, hj, data_eq e⟩)⟩
end Go.Proofs.YtgcjpenlcokgjaaGreatDoor
