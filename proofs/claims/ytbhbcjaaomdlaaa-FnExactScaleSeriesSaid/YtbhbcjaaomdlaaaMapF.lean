/-
  Maps from fractions to fractions that a call makes itself: what they hold, as a function; the laws at the operations. (Besides MapV, whose keys are words.)
-/
import Derived.Test.YtbhbcjaaomdlaaaSer
import Derived.Test.YtbhbcjaaomdlaaaOpenR
import Derived.Test.YtbhbcjaaomdlaaaMapV
import Derived.Maps.Keyed
import Derived.DeepKeys4
import Derived.WalkArith
namespace Go.Proofs.Ytbhbcjaaomdlaaa
open Go.RowKit
open Go.WideElems (Fit)
open Go.WideAt Go.WideMaps Go.ChangeMaps Go.Maps

/-- the parts of a fraction that is a key -/
def SmallF (p : Int × Int) : Prop := p.1.natAbs ≤ 1000000000 ∧ p.2.natAbs ≤ 1000000000
/-- how a fraction reads as a key -/
def kF (p : Int × Int) : Lit := .string (keyBytes [.int .i64 p.1, .int .i64 p.2])
theorem i64_wf {n : Int} (h : n.natAbs ≤ 1000000000) : (Lit.int .i64 n).wf = true := WalkArith.wf_i64 (by omega)
theorem keyTF : Try.prog.keyType 38 = true := by kernel_rfl
theorem cellsF : Try.prog.cellsOf 38 = 2 := by kernel_rfl
theorem cellsI : Try.prog.cellsOf 2 = 1 := by kernel_rfl
theorem typesP : 0 < Try.prog.types.size := of_decide_eq_true (by kernel_rfl)
theorem typesN : ∃ m, Try.prog.types.size = m + 1 := ⟨Try.prog.types.size - 1, by have := typesP; omega⟩
theorem keyF_mk {p : Int × Int} (h : SmallF p) : keyOf Try.prog 38 (.agg #[.int .i64 p.1, .int .i64 p.2]) = some (kF p) := by
  have h1 := i64_wf h.1
  have h2 := i64_wf h.2
  obtain ⟨m, hm⟩ := typesN
  unfold keyOf kF
  rw [Try.underlying38, hm]
  simp [keyTF, Value.formed, Try.underlying38, cellsF, Value.cells, Program.keyLits, cellsI, Try.underlying2, h1, h2]
theorem keyF : Maps.Keyed Try.prog 38 := Keyed.of_law (deep_law_laid seatLaid (m := 2) (by omega) (of_decide_eq_true (by kernel_rfl)) (by kernel_rfl) (by kernel_rfl))
theorem kF_inj {p q : Int × Int} (hp : SmallF p) (hq : SmallF q) (h : kF p = kF q) : p = q := by
  have h1 := keyF_mk hp
  rw [h] at h1
  have h2 := keyF.inj h1 (keyF_mk hq)
  simp only [Value.agg.injEq] at h2
  have h3 := congrArg Array.toList h2
  simp at h3
  exact Prod.ext h3.1 h3.2

/-- block b is a map of at most n entries that holds f -/
def MapF (w : World) (b n : Nat) (f : Int × Int → Option (Int × Int)) : Prop :=
  ∃ D : DataW Unit, w.ownsMap Try.prog 38 fracR b n D ∧ ∀ p, SmallF p → D.atKey (kF p) .nil = encF (f p)
theorem MapF.made (w : World) : MapF (w.alloc (.map #[] 0)) w.heap.size 0 (fun _ => none) := ⟨_, World.ownsMap_made w _ _ _, fun _ _ => rfl⟩
theorem MapF.lt {w : World} {b n : Nat} {f : Int × Int → Option (Int × Int)} (h : MapF w b n f) : b < w.heap.size := by obtain ⟨D, h, _⟩ := h; exact h.lt
theorem MapF.grown {w w' : World} {b n : Nat} {f : Int × Int → Option (Int × Int)} {r : Option Nat} (h : MapF w b n f) (hg : w.grownBy w' r) (hne : some b ≠ r) : MapF w' b n f := by
  obtain ⟨D, h, hf⟩ := h
  exact ⟨D, h.kept hg hne, hf⟩
theorem MapF.alloc {w : World} {b n : Nat} {f : Int × Int → Option (Int × Int)} (h : MapF w b n f) (o : Obj) : MapF (w.alloc o) b n f := by
  obtain ⟨D, h, hf⟩ := h
  exact ⟨D, h.alloc o, hf⟩
theorem MapF.below {w w' : World} {B b n : Nat} {f : Int × Int → Option (Int × Int)} (h : MapF w b n f) (hb : Below B w w') (hlt : b < B) : MapF w' b n f := by
  obtain ⟨D, ⟨es, clock, hh, rest⟩, hf⟩ := h
  exact ⟨D, ⟨es, clock, (hb.block b hlt).trans hh, rest⟩, hf⟩
theorem MapF.mono {w : World} {b n n' : Nat} {f : Int × Int → Option (Int × Int)} (h : MapF w b n f) (hn : n ≤ n') : MapF w b n' f := by
  obtain ⟨D, h, hf⟩ := h
  exact ⟨D, h.mono hn, hf⟩
/-- f, changed at one fraction -/
def putF (f : Int × Int → Option (Int × Int)) (s : Int × Int) (o : Option (Int × Int)) : Int × Int → Option (Int × Int) := fun t => if t = s then o else f t
/-- a lookup's value alone -/
def look1 (o : Option (Int × Int)) : Value := match o with | none => .agg #[.int .i64 0, .int .i64 0] | some (n, d) => .agg #[.int .i64 n, .int .i64 d]

section
variable {w : World} {b n : Nat} {f : Int × Int → Option (Int × Int)}
theorem MapF.run_look (h : MapF w b n f) (s : Int × Int) (hs : SmallF s) : (Instr.lookup 56 (.map (some b)) (.agg #[.int .i64 s.1, .int .i64 s.2]) true).run Try.prog w = .ok (lookV (f s)) w := by
  obtain ⟨D, ⟨es, clock, hb, F, _, rfl⟩, hf⟩ := h
  rcases Maps.fit_look true keyF Try.underlying56 (zeroF w) hb F (keyF_mk hs) with ⟨hrun, _, hat⟩ | ⟨e0, y, _, _, hrun, hRv, hat, _⟩
  · have e := encF_none ((hf s hs).symm.trans (hat .nil))
    rw [e]
    exact hrun
  · obtain ⟨n', d', hv, rfl⟩ := fracR_inv hRv
    have e := encF_some ((hf s hs).symm.trans (hat .nil))
    rw [e]
    rw [hv] at hrun
    exact hrun
theorem MapF.run_look1 (h : MapF w b n f) (s : Int × Int) (hs : SmallF s) : (Instr.lookup 56 (.map (some b)) (.agg #[.int .i64 s.1, .int .i64 s.2]) false).run Try.prog w = .ok (look1 (f s)) w := by
  obtain ⟨D, ⟨es, clock, hb, F, _, rfl⟩, hf⟩ := h
  rcases Maps.fit_look false keyF Try.underlying56 (zeroF w) hb F (keyF_mk hs) with ⟨hrun, _, hat⟩ | ⟨e0, y, _, _, hrun, hRv, hat, _⟩
  · have e := encF_none ((hf s hs).symm.trans (hat .nil))
    rw [e]
    exact hrun
  · obtain ⟨n', d', hv, rfl⟩ := fracR_inv hRv
    have e := encF_some ((hf s hs).symm.trans (hat .nil))
    rw [e]
    rw [hv] at hrun
    exact hrun
theorem MapF.run_put (h : MapF w b n f) (hn : n < maxLen) (s : Int × Int) (hs : SmallF s) (x d : Int) :
    ∃ w', (Instr.mapUpdate 56 (.map (some b)) (.agg #[.int .i64 s.1, .int .i64 s.2]) (.agg #[.int .i64 x, .int .i64 d])).run Try.prog w = .ok () w' ∧ MapF w' b (n + 1) (putF f s (some (x, d))) ∧ w.grownBy w' (some b) := by
  obtain ⟨D, h, hf⟩ := h
  obtain ⟨w', hrun, h2, hg⟩ := h.update keyF Try.underlying56 hn (keyF_mk hs) (fracR_mk x d)
  refine ⟨w', hrun, ⟨_, h2, fun t ht => ?_⟩, hg⟩
  have hD : Maps.IsMap D := by obtain ⟨es, clock, _, _, _, e⟩ := h; exact ⟨_, e⟩
  unfold putF
  by_cases e : t = s
  · subst e
    rw [if_pos rfl, Maps.atKey_put_same hD (by trivial)]
    rfl
  · rw [if_neg e, Maps.atKey_put_other (fun h => e (kF_inj ht hs h))]
    exact hf t ht
end

section
variable {ops : Array Oper} {rest : List Oper} {o : Oper} {a : Act} {w : World} {Q : Exit → Act → World → Prop} {b n : Nat} {f : Int × Int → Option (Int × Int)}
theorem wpList_lookF (hg : o.guard = none) (m x : Operand) (hop : o.op = Op.lookup 56 m x true) (hm : a.eval m = .map (some b)) (h : MapF w b n f) (s1 s2 : Int) (hx : a.eval x = .agg #[.int .i64 s1, .int .i64 s2]) (hs : SmallF (s1, s2))
    (hK : wpList Try.prog ops Q rest (a.put o.dst (lookV (f (s1, s2)))) w) : wpList Try.prog ops Q (o :: rest) a w := by
  have hrun := h.run_look (s1, s2) hs
  simp only at hrun
  refine wpList_plain hg fun K' hK' => ?_
  unfold Oper.wp
  simp [execOp, hop, hm, hx, hrun, Result.andThen]
  exact hK' _ _ hK
theorem wpList_lookF1 (hg : o.guard = none) (m x : Operand) (hop : o.op = Op.lookup 56 m x false) (hm : a.eval m = .map (some b)) (h : MapF w b n f) (s1 s2 : Int) (hx : a.eval x = .agg #[.int .i64 s1, .int .i64 s2]) (hs : SmallF (s1, s2))
    (hK : wpList Try.prog ops Q rest (a.put o.dst (look1 (f (s1, s2)))) w) : wpList Try.prog ops Q (o :: rest) a w := by
  have hrun := h.run_look1 (s1, s2) hs
  simp only at hrun
  refine wpList_plain hg fun K' hK' => ?_
  unfold Oper.wp
  simp [execOp, hop, hm, hx, hrun, Result.andThen]
  exact hK' _ _ hK
theorem wpList_putF (hg : o.guard = none) (m x v : Operand) (hop : o.op = Op.mapUpdate 56 m x v) (hm : a.eval m = .map (some b)) (h : MapF w b n f) (hn : n < maxLen) (s1 s2 : Int) (hx : a.eval x = .agg #[.int .i64 s1, .int .i64 s2]) (hs : SmallF (s1, s2)) (p d : Int) (hv : a.eval v = .agg #[.int .i64 p, .int .i64 d])
    (hK : ∀ w', MapF w' b (n + 1) (putF f (s1, s2) (some (p, d))) → w.grownBy w' (some b) → wpList Try.prog ops Q rest (a.put o.dst undef) w') : wpList Try.prog ops Q (o :: rest) a w := by
  obtain ⟨w', hrun, r1, r2⟩ := h.run_put hn (s1, s2) hs p d
  simp only at hrun
  refine wpList_plain hg fun K' hK' => ?_
  unfold Oper.wp
  simp [execOp, hop, hm, hx, hv, hrun, Result.andThen]
  exact hK' _ _ (hK w' r1 r2)
end
end Go.Proofs.Ytbhbcjaaomdlaaa
