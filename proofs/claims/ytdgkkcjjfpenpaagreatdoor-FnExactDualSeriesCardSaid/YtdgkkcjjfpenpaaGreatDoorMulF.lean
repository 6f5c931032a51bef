/-
  Maps from fractions to fractions that a call makes itself: what they hold, as a function; the laws at the operations. (Besides MapV, whose keys are words.)
  The program's multiplesOf: the product by a fraction of each value that terms have, as a map.
-/
import Derived.Test.YtdgkkcjjfpenpaaGreatDoorSer
import Derived.Test.YtdgkkcjjfpenpaaGreatDoorOpenR
import Derived.Test.YtdgkkcjjfpenpaaGreatDoorMapV
import Derived.Test.YtdgkkcjjfpenpaaGreatDoorCode
import Derived.Test.YtdgkkcjjfpenpaaGreatDoorRes
import Derived.Maps.Keyed
import Derived.DeepKeys4
import Derived.WalkArith
namespace Go.Proofs.YtdgkkcjjfpenpaaGreatDoor
open Go.RowKit
open Go.WideElems (Fit)
open Go.WideAt Go.WideMaps Go.ChangeMaps Go.Maps

/-- the parts of a fraction that is a key -/
def SmallF (p : Int × Int) : Prop := p.1.natAbs ≤ 1000000000 ∧ p.2.natAbs ≤ 1000000000
/-- how a fraction reads as a key -/
def kF (p : Int × Int) : Lit := .string (keyBytes [.int .i64 p.1, .int .i64 p.2])
theorem i64_wf {n : Int} (h : n.natAbs ≤ 1000000000) : (Lit.int .i64 n).wf = true := WalkArith.wf_i64 (by omega)
theorem keyTF : Tryz.prog.keyType 44 = true := by kernel_rfl
theorem cellsF : Tryz.prog.cellsOf 44 = 2 := by kernel_rfl
theorem cellsIm : Tryz.prog.cellsOf 2 = 1 := by kernel_rfl
theorem typesPm : 0 < Tryz.prog.types.size := of_decide_eq_true (by kernel_rfl)
theorem typesNm : ∃ m, Tryz.prog.types.size = m + 1 := ⟨Tryz.prog.types.size - 1, by have := typesPm; omega⟩
theorem keyF_mk {p : Int × Int} (h : SmallF p) : keyOf Tryz.prog 44 (.agg #[.int .i64 p.1, .int .i64 p.2]) = some (kF p) := by
  have h1 := i64_wf h.1
  have h2 := i64_wf h.2
  obtain ⟨m, hm⟩ := typesNm
  unfold keyOf kF
  rw [Tryz.underlying44, hm]
  simp [keyTF, Value.formed, Tryz.underlying44, cellsF, Value.cells, Program.keyLits, cellsIm, Tryz.underlying2, h1, h2]
theorem keyF : Maps.Keyed Tryz.prog 44 := Keyed.of_law (deep_law_laid seatLaid (m := 2) (by omega) (of_decide_eq_true (by kernel_rfl)) (by kernel_rfl) (by kernel_rfl))
theorem kF_inj {p q : Int × Int} (hp : SmallF p) (hq : SmallF q) (h : kF p = kF q) : p = q := by
  have h1 := keyF_mk hp
  rw [h] at h1
  have h2 := keyF.inj h1 (keyF_mk hq)
  simp only [Value.agg.injEq] at h2
  have h3 := congrArg Array.toList h2
  simp at h3
  exact Prod.ext h3.1 h3.2

/-- block b is a map of at most n entries that holds f -/
def MapF (w : World) (b n : Nat) (f : Int × Int → Option (Int × Int)) : Prop :=
  ∃ D : DataW Unit, w.ownsMap Tryz.prog 44 fracR b n D ∧ ∀ p, SmallF p → D.atKey (kF p) .nil = encF (f p)
theorem MapF.made (w : World) : MapF (w.alloc (.map #[] 0)) w.heap.size 0 (fun _ => none) := ⟨_, World.ownsMap_made w _ _ _, fun _ _ => rfl⟩
theorem MapF.lt {w : World} {b n : Nat} {f : Int × Int → Option (Int × Int)} (h : MapF w b n f) : b < w.heap.size := by obtain ⟨D, h, _⟩ := h; exact h.lt
theorem MapF.grown {w w' : World} {b n : Nat} {f : Int × Int → Option (Int × Int)} {r : Option Nat} (h : MapF w b n f) (hg : w.grownBy w' r) (hne : some b ≠ r) : MapF w' b n f := by
  obtain ⟨D, h, hf⟩ := h
  exact ⟨D, h.kept hg hne, hf⟩
theorem MapF.alloc {w : World} {b n : Nat} {f : Int × Int → Option (Int × Int)} (h : MapF w b n f) (o : Obj) : MapF (w.alloc o) b n f := by
  obtain ⟨D, h, hf⟩ := h
  exact ⟨D, h.alloc o, hf⟩
theorem MapF.below {w w' : World} {B b n : Nat} {f : Int × Int → Option (Int × Int)} (h : MapF w b n f) (hb : Below B w w') (hlt : b < B) : MapF w' b n f := by
  obtain ⟨D, ⟨es, clock, hh, rest⟩, hf⟩ := h
  exact ⟨D, ⟨es, clock, (hb.block b hlt).trans hh, rest⟩, hf⟩
theorem MapF.mono {w : World} {b n n' : Nat} {f : Int × Int → Option (Int × Int)} (h : MapF w b n f) (hn : n ≤ n') : MapF w b n' f := by
  obtain ⟨D, h, hf⟩ := h
  exact ⟨D, h.mono hn, hf⟩
/-- f, changed at one fraction -/
def putFm (f : Int × Int → Option (Int × Int)) (s : Int × Int) (o : Option (Int × Int)) : Int × Int → Option (Int × Int) := fun t => if t = s then o else f t
/-- a lookup's value alone -/
def look1 (o : Option (Int × Int)) : Value := match o with | none => .agg #[.int .i64 0, .int .i64 0] | some (n, d) => .agg #[.int .i64 n, .int .i64 d]

section
variable {w : World} {b n : Nat} {f : Int × Int → Option (Int × Int)}
theorem MapF.run_look (h : MapF w b n f) (s : Int × Int) (hs : SmallF s) : (Instr.lookup 88 (.map (some b)) (.agg #[.int .i64 s.1, .int .i64 s.2]) true).run Tryz.prog w = .ok (lookV (f s)) w := by
  obtain ⟨D, ⟨es, clock, hb, F, _, rfl⟩, hf⟩ := h
  rcases Maps.fit_look true keyF Tryz.underlying88 (zeroF w) hb F (keyF_mk hs) with ⟨hrun, _, hat⟩ | ⟨e0, y, _, _, hrun, hRv, hat, _⟩
  · have e := encF_none ((hf s hs).symm.trans (hat .nil))
    rw [e]
    exact hrun
  · obtain ⟨n', d', hv, rfl⟩ := fracR_inv hRv
    have e := encF_some ((hf s hs).symm.trans (hat .nil))
    rw [e]
    rw [hv] at hrun
    exact hrun
theorem MapF.run_look1 (h : MapF w b n f) (s : Int × Int) (hs : SmallF s) : (Instr.lookup 88 (.map (some b)) (.agg #[.int .i64 s.1, .int .i64 s.2]) false).run Tryz.prog w = .ok (look1 (f s)) w := by
  obtain ⟨D, ⟨es, clock, hb, F, _, rfl⟩, hf⟩ := h
  rcases Maps.fit_look false keyF Tryz.underlying88 (zeroF w) hb F (keyF_mk hs) with ⟨hrun, _, hat⟩ | ⟨e0, y, _, _, hrun, hRv, hat, _⟩
  · have e := encF_none ((hf s hs).symm.trans (hat .nil))
    rw [e]
    exact hrun
  · obtain ⟨n', d', hv, rfl⟩ := fracR_inv hRv
    have e := encF_some ((hf s hs).symm.trans (hat .nil))
    rw [e]
    rw [hv] at hrun
    exact hrun
theorem MapF.run_put (h : MapF w b n f) (hn : n < maxLen) (s : Int × Int) (hs : SmallF s) (x d : Int) :
    ∃ w', (Instr.mapUpdate 88 (.map (some b)) (.agg #[.int .i64 s.1, .int .i64 s.2]) (.agg #[.int .i64 x, .int .i64 d])).run Tryz.prog w = .ok () w' ∧ MapF w' b (n + 1) (putFm f s (some (x, d))) ∧ w.grownBy w' (some b) := by
  obtain ⟨D, h, hf⟩ := h
  obtain ⟨w', hrun, h2, hg⟩ := h.update keyF Tryz.underlying88 hn (keyF_mk hs) (fracR_mk x d)
  refine ⟨w', hrun, ⟨_, h2, fun t ht => ?_⟩, hg⟩
  have hD : Maps.IsMap D := by obtain ⟨es, clock, _, _, _, e⟩ := h; exact ⟨_, e⟩
  unfold putFm
  by_cases e : t = s
  · subst e
    rw [if_pos rfl, Maps.atKey_put_same hD (by trivial)]
    rfl
  · rw [if_neg e, Maps.atKey_put_other (fun h => e (kF_inj ht hs h))]
    exact hf t ht
end

section
variable {ops : Array Oper} {rest : List Oper} {o : Oper} {a : Act} {w : World} {Q : Exit → Act → World → Prop} {b n : Nat} {f : Int × Int → Option (Int × Int)}
theorem wpList_lookF (hg : o.guard = none) (m x : Operand) (hop : o.op = Op.lookup 88 m x true) (hm : a.eval m = .map (some b)) (h : MapF w b n f) (s1 s2 : Int) (hx : a.eval x = .agg #[.int .i64 s1, .int .i64 s2]) (hs : SmallF (s1, s2))
    (hK : wpList Tryz.prog ops Q rest (a.put o.dst (lookV (f (s1, s2)))) w) : wpList Tryz.prog ops Q (o :: rest) a w := by
  have hrun := h.run_look (s1, s2) hs
  simp only at hrun
  refine wpList_plain hg fun K' hK' => ?_
  unfold Oper.wp
  simp [execOp, hop, hm, hx, hrun, Result.andThen]
  exact hK' _ _ hK
theorem wpList_lookF1 (hg : o.guard = none) (m x : Operand) (hop : o.op = Op.lookup 88 m x false) (hm : a.eval m = .map (some b)) (h : MapF w b n f) (s1 s2 : Int) (hx : a.eval x = .agg #[.int .i64 s1, .int .i64 s2]) (hs : SmallF (s1, s2))
    (hK : wpList Tryz.prog ops Q rest (a.put o.dst (look1 (f (s1, s2)))) w) : wpList Tryz.prog ops Q (o :: rest) a w := by
  have hrun := h.run_look1 (s1, s2) hs
  simp only at hrun
  refine wpList_plain hg fun K' hK' => ?_
  unfold Oper.wp
  simp [execOp, hop, hm, hx, hrun, Result.andThen]
  exact hK' _ _ hK
theorem wpList_putF (hg : o.guard = none) (m x v : Operand) (hop : o.op = Op.mapUpdate 88 m x v) (hm : a.eval m = .map (some b)) (h : MapF w b n f) (hn : n < maxLen) (s1 s2 : Int) (hx : a.eval x = .agg #[.int .i64 s1, .int .i64 s2]) (hs : SmallF (s1, s2)) (p d : Int) (hv : a.eval v = .agg #[.int .i64 p, .int .i64 d])
    (hK : ∀ w', MapF w' b (n + 1) (putFm f (s1, s2) (some (p, d))) → w.grownBy w' (some b) → wpList Tryz.prog ops Q rest (a.put o.dst undef) w') : wpList Tryz.prog ops Q (o :: rest) a w := by
  obtain ⟨w', hrun, r1, r2⟩ := h.run_put hn (s1, s2) hs p d
  simp only at hrun
  refine wpList_plain hg fun K' hK' => ?_
  unfold Oper.wp
  simp [execOp, hop, hm, hx, hv, hrun, Result.andThen]
  exact hK' _ _ (hK w' r1 r2)
end
end Go.Proofs.YtdgkkcjjfpenpaaGreatDoor

namespace Go.Proofs.YtdgkkcjjfpenpaaGreatDoor
open Go.RowKit

/-- a product of fractions -/
def prodFm (p q : Int) (x : Int × Int) : Int × Int := (fN (x.1 * p) (x.2 * q), fD (x.1 * p) (x.2 * q))
/-- the map after some terms -/
def mulF (ts : List Tm) (p q : Int) : Nat → Int × Int → Option (Int × Int)
  | 0 => fun _ => none
  | k + 1 => match ts[k]? with
    | none => mulF ts p q k
    | some t => putFm (mulF ts p q k) (t.n, t.d) (some (prodFm p q (t.n, t.d)))
theorem mulF_succ {ts : List Tm} {p q : Int} {k : Nat} (h : k < ts.length) : mulF ts p q (k + 1) = putFm (mulF ts p q k) ((ts[k]).n, (ts[k]).d) (some (prodFm p q ((ts[k]).n, (ts[k]).d))) := by
  simp only [mulF, List.getElem?_eq_getElem h]
theorem mulF_some {ts : List Tm} {p q : Int} : ∀ (k : Nat), k ≤ ts.length → ∀ x v, mulF ts p q k x = some v → v = prodFm p q x ∧ ∃ i, ∃ h : i < ts.length, i < k ∧ x = ((ts[i]).n, (ts[i]).d)
  | 0, _, x, v, h => by simp [mulF] at h
  | k + 1, hk, x, v, h => by
    have hlt : k < ts.length := by omega
    rw [mulF_succ hlt] at h
    unfold putFm at h
    by_cases e : x = ((ts[k]).n, (ts[k]).d)
    · rw [if_pos e] at h
      injection h with h
      exact ⟨by rw [← h, e], k, hlt, by omega, e⟩
    · rw [if_neg e] at h
      obtain ⟨h1, i, hi, hik, h2⟩ := mulF_some k (by omega) x v h
      exact ⟨h1, i, hi, by omega, h2⟩
theorem mulF_known {ts : List Tm} {p q : Int} {k : Nat} (h : k < ts.length) {v : Int × Int} (hv : mulF ts p q k ((ts[k]).n, (ts[k]).d) = some v) : mulF ts p q (k + 1) = mulF ts p q k := by
  rw [mulF_succ h]
  funext x
  unfold putFm
  by_cases e : x = ((ts[k]).n, (ts[k]).d)
  · rw [if_pos e, e, hv, (mulF_some k (by omega) _ _ hv).1]
  · rw [if_neg e]
theorem mulF_at {ts : List Tm} {p q : Int} : ∀ (k : Nat), k ≤ ts.length → ∀ i, i < k → ∀ h : i < ts.length, mulF ts p q k ((ts[i]).n, (ts[i]).d) = some (prodFm p q ((ts[i]).n, (ts[i]).d))
  | 0, _, i, hi, _ => by omega
  | k + 1, hk, i, hi, h => by
    have hlt : k < ts.length := by omega
    rw [mulF_succ hlt]
    unfold putFm
    by_cases e : ((ts[i]).n, (ts[i]).d) = ((ts[k]).n, (ts[k]).d)
    · rw [if_pos e, e]
    · rw [if_neg e]
      have : i ≠ k := fun h => e (by subst h; rfl)
      exact mulF_at k (by omega) i (by omega) h
/-- all products are fractions -/
def okAll (ts : List Tm) (p q : Int) : Bool := ts.all fun t => fOk (t.n * p) (t.d * q)

theorem ok_next {ts : List Tm} {p q : Int} {k : Nat} (hk : k < ts.length) (hO : ∀ i (h : i < ts.length), i < k → fOk ((ts[i]).n * p) ((ts[i]).d * q) = true) (h : fOk ((ts[k]).n * p) ((ts[k]).d * q) = true) : ∀ i (h : i < ts.length), i < k + 1 → fOk ((ts[i]).n * p) ((ts[i]).d * q) = true := fun i hi hik => by
  by_cases e : i = k
  · subst e
    exact h
  · exact hO i hi (by omega)
theorem ok_known {ts : List Tm} {p q : Int} {k : Nat} (hk : k < ts.length) (hO : ∀ i (h : i < ts.length), i < k → fOk ((ts[i]).n * p) ((ts[i]).d * q) = true) {v : Int × Int} (hv : mulF ts p q k ((ts[k]).n, (ts[k]).d) = some v) : ∀ i (h : i < ts.length), i < k + 1 → fOk ((ts[i]).n * p) ((ts[i]).d * q) = true := by
  refine ok_next hk hO ?_
  obtain ⟨_, i, hi, hik, he⟩ := mulF_some k (by omega) _ _ hv
  injection he with e1 e2
  rw [e1, e2]
  exact hO i hi hik
theorem okAll_true {ts : List Tm} {p q : Int} (hO : ∀ i (h : i < ts.length), i < ts.length → fOk ((ts[i]).n * p) ((ts[i]).d * q) = true) : okAll ts p q = true := by
  unfold okAll
  rw [List.all_eq_true]
  intro t ht
  obtain ⟨i, hi, rfl⟩ := List.getElem_of_mem ht
  exact hO i hi hi
theorem okAll_false {ts : List Tm} {p q : Int} {k : Nat} (hk : k < ts.length) (h : fOk ((ts[k]).n * p) ((ts[k]).d * q) = false) : okAll ts p q = false := by
  unfold okAll
  rw [List.all_eq_false]
  exact ⟨ts[k], List.getElem_mem hk, by rw [h]; simp⟩

def MulPost (ts : List Tm) (p q : Int) (W : World) (e : Ending) (w' : World) : Prop :=
  Below W.heap.size W w' ∧ (okAll ts p q = true → ∃ b, e = .returned (.tuple #[.map (some b), .int .i64 0]) ∧ W.heap.size ≤ b ∧ MapF w' b ts.length (mulF ts p q ts.length)) ∧ (okAll ts p q = false → e = .returned (.tuple #[.map none, .int .i64 3]))

set_option maxRecDepth 100000 in
set_option maxHeartbeats 4000000 in
theorem multiplesOf_c (p q : Int) (hpq : isF p q = true) (a : Option Addr) (cap : Nat) (ts : List Tm) (hl : ts.length ≤ 1048576) (hF : ∀ t ∈ ts, isF t.n t.d = true) (w : World) (hr : Row w a ts) :
    Calls Tryz.prog 60 #[.slice a ts.length cap, .agg #[.int .i64 p, .int .i64 q]] w (MulPost ts p q w) := by
  have hmm := @run_makeMap Tryz.prog
  have HR := Lib.hid hr
  have HF := Lib.hid hF
  have HQ := Lib.hid hpq
  clear hr hF hpq
  go_enter Tryz.func60, Tryz.ntmps60
  go_wp2
  clear hmm
  go_loopw [16] (fun vi wr => ∃ k : Nat, k ≤ ts.length ∧ vi = .int .i64 k ∧ Below (w.heap.size + 1) (w.alloc (.cells #[.int .i64 p, .int .i64 q] 44)) wr ∧ w.heap.size + 1 < wr.heap.size ∧ MapF wr (w.heap.size + 1) k (mulF ts p q k) ∧ ∀ i (h : i < ts.length), i < k → fOk ((ts[i]).n * p) ((ts[i]).d * q) = true) (fun vi _ => ts.length - (intOf vi).toNat)
  case atStart =>
    refine ⟨0, Nat.zero_le _, rfl, ?_, by simp, ?_, fun i h hi => by omega⟩
    · have h := below1 (w.alloc (.cells #[.int .i64 p, .int .i64 q] 44)) (.map #[] 0)
      rw [World.size_alloc] at h
      exact h
    · have h := MapF.made (w.alloc (.cells #[.int .i64 p, .int .i64 q] 44))
      rw [World.size_alloc] at h
      exact h
  case round =>
    obtain ⟨k, hk, rfl, hB, hz, hM, hO⟩ := hrel
    have HB := Lib.hid hB
    have HM := Lib.hid hM
    have HO := Lib.hid hO
    have HW : Hid (Below w.heap.size w wr) := Lib.hid ((below1 w (.cells #[.int .i64 p, .int .i64 q] 44)).trans (hB.mono (by omega)))
    have q0 : wr.cell? ⟨w.heap.size, 0, none⟩ = some (.int .i64 p) := (hB.cell (p := ⟨w.heap.size, 0, none⟩) (Nat.lt_succ_self _)).trans (by go_simp)
    have q1 : wr.cell? ⟨w.heap.size, 1, none⟩ = some (.int .i64 q) := (hB.cell (p := ⟨w.heap.size, 1, none⟩) (Nat.lt_succ_self _)).trans (by go_simp)
    have hz0 : w.heap.size < wr.heap.size := by omega
    have hz1 : w.heap.size < wr.heap.size + 1 := by omega
    clear hB hM hO
    by_cases hlt : k < ts.length
    · rcases HR.out with h | ⟨b, off, rfl, hb, ht⟩
      · rw [h] at hlt; simp at hlt
      obtain ⟨c0, c1, c2⟩ := ht.below HW.out hb k hlt
      have hv := HF.out _ (List.getElem_mem hlt)
      have HV := Lib.hid (mulF_succ (p := p) (q := q) hlt)
      have HK := Lib.hid (fun v hv => mulF_known (p := p) (q := q) hlt (v := v) hv)
      have HOk := Lib.hid (fun v hv => ok_known (p := p) (q := q) hlt HO.out (v := v) hv)
      have HOn := Lib.hid (fun h => ok_next (p := p) (q := q) hlt HO.out h)
      have HOf := Lib.hid (fun h => okAll_false (p := p) (q := q) hlt h)
      obtain ⟨s, n, d, het⟩ : ∃ s n d, ts[k] = ⟨s, n, d⟩ := ⟨_, _, _, rfl⟩
      rw [het] at c0 c1 c2 hv HV HK HOk HOn HOf
      simp only at c0 c1 c2 hv HV HK HOk HOn HOf
      have hF2 := isF_out hv
      have hsm : SmallF (n, d) := ⟨by simp only; omega, by simp only; omega⟩
      have HSm := Lib.hid hsm
      have hmr : mulR n d p q = (fN (n * p) (d * q), fD (n * p) (d * q), fC (n * p) (d * q)) := by rw [mulR_y hv HQ.out]; rfl
      have hmu := fun W => iMul_c_y n d p q hv HQ.out W
      simp only [hmr] at hmu
      have HMu := Lib.hid hmu
      clear hmu hmr
      clear het ht hv hF2 hsm
      cases hf : mulF ts p q k (n, d) with
      | some v =>
        have hOk := HOk.out v hf
        have hKn := HK.out v hf
        obtain ⟨x, y⟩ := v
        have HFf := Lib.hid hf
        have HOk2 := Lib.hid hOk
        have HKn := Lib.hid hKn
        clear hf hOk hKn
        go_wp2_with (at_lookup; refine wpList_lookF rfl _ _ rfl rfl (HM.out.alloc _) n d rfl HSm.out ?_; rw [HFf.out]; simp only [lookV])
        go_roundw
        case rel => exact ⟨k + 1, by omega, by go_num, HB.out.trans ((below2 wr _ _).mono (by omega)), by simp; omega, by rw [HKn.out]; exact ((HM.out.alloc _).alloc _).mono (Nat.le_succ _), HOk2.out⟩
        case measure => simp [intOf]; omega
      | none =>
        have HFf := Lib.hid hf
        clear hf
        go_wp2_with (first | (at_lookup; refine wpList_lookF rfl _ _ rfl rfl (HM.out.alloc _) n d rfl HSm.out ?_; rw [HFf.out]; simp only [lookV]) | fail)
        refine (HMu.out _).mono ?_
        rintro e w2 ⟨rfl, hb2⟩
        have hW2 := hb2
        simp only [World.size_alloc] at hW2
        have t1 : w2.cell? ⟨wr.heap.size, 1, none⟩ = some (.int .i64 n) := (hW2.cell (p := ⟨wr.heap.size, 1, none⟩) (show wr.heap.size < wr.heap.size + 1 + 1 by omega)).trans (by go_simp)
        have t2 : w2.cell? ⟨wr.heap.size, 2, none⟩ = some (.int .i64 d) := (hW2.cell (p := ⟨wr.heap.size, 2, none⟩) (show wr.heap.size < wr.heap.size + 1 + 1 by omega)).trans (by go_simp)
        have hz2 := hW2.size
        simp only [World.size_alloc] at hz2
        have HB2 := Lib.hid (HB.out.trans (((below2 wr (.cells #[.string s, .int .i64 n, .int .i64 d] 46) (.cells #[.int .i64 0, .int .i64 0] 44)).mono (by omega)).trans (hW2.mono (by omega))))
        have HM2 := Lib.hid (((HM.out.alloc (.cells #[.string s, .int .i64 n, .int .i64 d] 46)).alloc (.cells #[.int .i64 0, .int .i64 0] 44)).below hW2 (by omega))
        have hz3 : w.heap.size + 1 < w2.heap.size := by omega
        have hz4 : wr.heap.size < w2.heap.size := by omega
        clear hb2 hW2
        cases hok : fOk (n * p) (d * q) with
        | false =>
          have hfC : fC (n * p) (d * q) = 3 := by simp [fC, hok]
          rw [hfC]
          have HE := Lib.hid (HOf.out hok)
          go_wp2
          go_ret2
          exact ⟨(below1 w _).trans ((HB2.out.trans ((below1 w2 _).mono (by omega))).mono (by omega)), fun h => absurd (HE.out.symm.trans h) (by simp), fun _ => rfl⟩
        | true =>
          have hfC : fC (n * p) (d * q) = 0 := by simp [fC, hok]
          rw [hfC]
          have HE := Lib.hid (HOn.out hok)
          go_wp2_with (refine wpList_putF rfl _ _ _ rfl rfl (HM2.out.alloc _) (by unfold maxLen; omega) n d rfl HSm.out (fN (n * p) (d * q)) (fD (n * p) (d * q)) rfl ?_)
          intro w3 hM3 hG3
          have HM3 := Lib.hid (show MapF w3 (w.heap.size + 1) (k + 1) (mulF ts p q (k + 1)) from by rw [HV.out]; exact hM3)
          have HB3 := Lib.hid ((HB2.out.trans ((below1 w2 (.cells #[.int .i64 (fN (n * p) (d * q)), .int .i64 (fD (n * p) (d * q))] 44)).mono (by omega))).trans (below_of_grown (B := w.heap.size + 1) hG3 (fun g h => by cases h; omega) (by simp; omega)))
          have hz5 : w.heap.size + 1 < w3.heap.size := by have := hG3.size; simp at this; omega
          clear hM3 hG3
          go_wp2
          go_roundw
          case rel => exact ⟨k + 1, by omega, by go_num, HB3.out, hz5, HM3.out, HE.out⟩
          case measure => simp [intOf]; omega
    · obtain rfl : k = ts.length := by omega
      go_wp2
      go_ret2
      exact ⟨HW.out, fun _ => ⟨w.heap.size + 1, rfl, by omega, HM.out⟩, fun h => absurd ((okAll_true HO.out).symm.trans h) (by simp)⟩
end Go.Proofs.YtdgkkcjjfpenpaaGreatDoor
