/-
  Maps from pairs of words to numbers that a call makes itself: what they hold, as a function; the laws at the operations; a range over such a map. (Besides MapV, MapF, RngV.)
-/
import Derived.Test.YtdgkkcjjfpenpaaGreatDoorEndOf
import Derived.Maps.OwnSet
import Derived.Maps.Views
import Derived.Maps.Keyed
import Derived.Maps.RangeWalk
import Derived.WideKeyEntry
import Derived.DeepKeys4
import Derived.OwnWalk
import Derived.KernelRfl
import Derived.WalkArith
namespace Go.Proofs.YtdgkkcjjfpenpaaGreatDoor
open Go.RowKit
open Go.WideElems (Fit)
open Go.WideAt Go.WideMaps Go.ChangeMaps Go.Maps

/-- how a number reads -/
def nmR (v : Value) : Option (DataW Unit × List MemPlace) :=
  match v with
  | .int .i64 n => some (.lit (.int .i64 n), [])
  | _ => none
theorem nmR_mk (n : Int) : nmR (.int .i64 n) = some (.lit (.int .i64 n), []) := rfl
theorem nmR_inv {v : Value} {y : DataW Unit × List MemPlace} (h : nmR v = some y) : ∃ n, v = .int .i64 n ∧ y = (.lit (.int .i64 n), []) := by
  unfold nmR at h
  split at h
  · rename_i n
    cases h
    exact ⟨n, rfl, rfl⟩
  · cases h
def encN (o : Option Int) : DataW Unit := match o with | none => .nil | some n => .lit (.int .i64 n)
theorem encN_none {o : Option Int} (h : encN o = .nil) : o = none := by
  cases o with
  | none => rfl
  | some p => cases h
theorem encN_some {o : Option Int} {n : Int} (h : encN o = .lit (.int .i64 n)) : o = some n := by
  cases o with
  | none => cases h
  | some p =>
    simp only [encN, DataW.lit.injEq, Lit.int.injEq, true_and] at h
    rw [h]

/-- two words -/
abbrev Pw := ByteArray × ByteArray
def SmP (p : Pw) : Prop := p.1.size ≤ maxLen ∧ p.2.size ≤ maxLen
def pwV (p : Pw) : Value := .agg #[.string p.1, .string p.2]
def kP (p : Pw) : Lit := .string (keyBytes [.string p.1.data.toList, .string p.2.data.toList])
theorem keyTP : Tryz.prog.keyType 108 = true := by kernel_rfl
theorem cellsP : Tryz.prog.cellsOf 108 = 2 := by kernel_rfl
theorem cellsSt : Tryz.prog.cellsOf 9 = 1 := by kernel_rfl
theorem typesP : 0 < Tryz.prog.types.size := of_decide_eq_true (by kernel_rfl)
theorem typesN : ∃ m, Tryz.prog.types.size = m + 1 := ⟨Tryz.prog.types.size - 1, by have := typesP; omega⟩
theorem keyP_mk {p : Pw} (h : SmP p) : keyOf Tryz.prog 108 (pwV p) = some (kP p) := by
  have h1 := h.1
  have h2 := h.2
  obtain ⟨m, hm⟩ := typesN
  unfold keyOf kP pwV
  rw [Tryz.underlying108, hm]
  simp [keyTP, Value.formed, Tryz.underlying108, cellsP, Value.cells, Program.keyLits, cellsSt, Tryz.underlying9, h1, h2, List.range, List.range.loop]
theorem keyP : Maps.Keyed Tryz.prog 108 := Keyed.of_law (deep_law_laid (show laidOutB Tryz.prog = true by kernel_rfl) (m := 2) (by omega) (of_decide_eq_true (by kernel_rfl)) (by kernel_rfl) (by kernel_rfl))
theorem kP_inj {p q : Pw} (hp : SmP p) (hq : SmP q) (h : kP p = kP q) : p = q := by
  have h1 := keyP_mk hp
  rw [h] at h1
  have h2 := keyP.inj h1 (keyP_mk hq)
  unfold pwV at h2
  simp only [Value.agg.injEq] at h2
  have h3 := congrArg Array.toList h2
  simp at h3
  exact Prod.ext h3.1 h3.2
set_option maxRecDepth 100000 in
theorem keyP_inv {key : Value} {kl : Lit} (h : keyOf Tryz.prog 108 key = some kl) : ∃ p, key = pwV p ∧ SmP p ∧ kl = kP p := by
  have h0 := h
  obtain ⟨m, hm⟩ := typesN
  unfold keyOf at h
  rw [Tryz.underlying108, hm] at h
  simp only at h
  split at h
  · rename_i hf
    rw [Bool.and_eq_true] at hf
    obtain ⟨l, hl, _⟩ := Option.map_eq_some_iff.1 h
    simp only [Program.keyLits, Tryz.underlying108] at hl
    rw [cellsP] at hl
    split at hl
    · obtain ⟨ls, hls, _⟩ := Option.map_eq_some_iff.1 hl
      cases key with
      | agg cs =>
        rename_i hlen
        simp only [Value.cells] at hlen hls
        obtain ⟨x, y, hxy⟩ : ∃ x y, cs.toList = [x, y] := by
          cases hc : cs.toList with
          | nil => rw [hc] at hlen; cases hlen
          | cons x r =>
            cases r with
            | nil => rw [hc] at hlen; cases hlen
            | cons y r =>
              cases r with
              | nil => exact ⟨x, y, rfl⟩
              | cons z r => rw [hc] at hlen; simp at hlen
        rw [hxy, cellsSt] at hls
        have hk : ∀ v u, Tryz.prog.keyLits (m + 1) 9 [v] = some u → ∃ s : ByteArray, v = .string s ∧ s.size ≤ maxLen := by
          intro v u hv
          simp only [Program.keyLits, Tryz.underlying9] at hv
          cases v with
          | string s =>
            simp only at hv
            split at hv
            · rename_i hs; exact ⟨s, rfl, hs⟩
            · cases hv
          | _ => cases hv
        simp only [List.range, List.range.loop, List.mapM_cons, List.mapM_nil, Nat.zero_mul, Nat.one_mul, List.drop_zero, List.take_succ_cons, List.take_zero, List.drop_succ_cons] at hls
        obtain ⟨u1, hu1, hls⟩ := Option.bind_eq_some_iff.1 hls
        obtain ⟨u2, hu2, _⟩ := Option.bind_eq_some_iff.1 hls
        obtain ⟨u2, hu2, _⟩ := Option.bind_eq_some_iff.1 hu2
        obtain ⟨s1, rfl, h1⟩ := hk _ _ hu1
        obtain ⟨s2, rfl, h2⟩ := hk _ _ hu2
        have hcs : cs = #[.string s1, .string s2] := by rw [← Array.toList_inj, hxy]
        subst hcs
        refine ⟨(s1, s2), rfl, ⟨h1, h2⟩, ?_⟩
        have h9 := keyP_mk (p := (s1, s2)) ⟨h1, h2⟩
        unfold pwV at h9
        rw [h9] at h0
        exact (Option.some.inj h0).symm
      | _ => rename_i hlen; simp [Value.cells] at hlen
    · cases hl
  · cases h

theorem lawP : WideMaps.KeyLaw Tryz.prog 108 := deep_law_laid (show laidOutB Tryz.prog = true by kernel_rfl) (m := 2) (by omega) (of_decide_eq_true (by kernel_rfl)) (by kernel_rfl) (by kernel_rfl)
theorem zeroN (w : World) : (zeroValue 2).run Tryz.prog w = .ok (.int .i64 0) w := by kernel_rfl
/-- block b is a map of at most n entries that holds f -/
def MapP (w : World) (b n : Nat) (f : Pw → Option Int) : Prop :=
  ∃ D : DataW Unit, w.ownsMap Tryz.prog 108 nmR b n D ∧ ∀ p, SmP p → D.atKey (kP p) .nil = encN (f p)
theorem MapP.made (w : World) : MapP (w.alloc (.map #[] 0)) w.heap.size 0 (fun _ => none) := ⟨_, World.ownsMap_made w _ _ _, fun _ _ => rfl⟩
theorem MapP.lt {w : World} {b n : Nat} {f : Pw → Option Int} (h : MapP w b n f) : b < w.heap.size := by obtain ⟨D, h, _⟩ := h; exact h.lt
theorem MapP.grown {w w' : World} {b n : Nat} {f : Pw → Option Int} {r : Option Nat} (h : MapP w b n f) (hg : w.grownBy w' r) (hne : some b ≠ r) : MapP w' b n f := by
  obtain ⟨D, h, hf⟩ := h
  exact ⟨D, h.kept hg hne, hf⟩
theorem MapP.alloc {w : World} {b n : Nat} {f : Pw → Option Int} (h : MapP w b n f) (o : Obj) : MapP (w.alloc o) b n f := by
  obtain ⟨D, h, hf⟩ := h
  exact ⟨D, h.alloc o, hf⟩
theorem MapP.drew {w : World} {b n : Nat} {f : Pw → Option Int} (h : MapP w b n f) : MapP w.drew b n f := by
  obtain ⟨D, ⟨es, clock, hh, rest⟩, hf⟩ := h
  exact ⟨D, ⟨es, clock, hh, rest⟩, hf⟩
theorem MapP.setCell {w : World} {b n : Nat} {f : Pw → Option Int} (h : MapP w b n f) {a : Addr} (ha : b ≠ a.block) (u : Value) : MapP (w.setCell a u) b n f := by
  obtain ⟨D, h, hf⟩ := h
  exact ⟨D, h.setCell ha u, hf⟩
theorem MapP.below {w w' : World} {B b n : Nat} {f : Pw → Option Int} (h : MapP w b n f) (hb : Below B w w') (hlt : b < B) : MapP w' b n f := by
  obtain ⟨D, ⟨es, clock, hh, rest⟩, hf⟩ := h
  exact ⟨D, ⟨es, clock, (hb.block b hlt).trans hh, rest⟩, hf⟩
theorem MapP.mono {w : World} {b n n' : Nat} {f : Pw → Option Int} (h : MapP w b n f) (hn : n ≤ n') : MapP w b n' f := by
  obtain ⟨D, h, hf⟩ := h
  exact ⟨D, h.mono hn, hf⟩
/-- f, changed at one pair -/
def putP (f : Pw → Option Int) (s : Pw) (x : Int) : Pw → Option Int := fun t => if t = s then some x else f t
/-- a lookup's value alone -/
def nv (o : Option Int) : Int := o.getD 0

section
variable {w : World} {b n : Nat} {f : Pw → Option Int}
theorem MapP.run_look1 (h : MapP w b n f) (s : Pw) (hs : SmP s) : (Instr.lookup 110 (.map (some b)) (pwV s) false).run Tryz.prog w = .ok (.int .i64 (nv (f s))) w := by
  obtain ⟨D, ⟨es, clock, hb, F, _, rfl⟩, hf⟩ := h
  rcases Maps.fit_look false keyP Tryz.underlying110 (zeroN w) hb F (keyP_mk hs) with ⟨hrun, _, hat⟩ | ⟨e0, y, _, _, hrun, hRv, hat, _⟩
  · have e := encN_none ((hf s hs).symm.trans (hat .nil))
    rw [e]
    exact hrun
  · obtain ⟨n', hv, rfl⟩ := nmR_inv hRv
    have e := encN_some ((hf s hs).symm.trans (hat .nil))
    rw [e]
    rw [hv] at hrun
    exact hrun
theorem MapP.run_put (h : MapP w b n f) (hn : n < maxLen) (s : Pw) (hs : SmP s) (x : Int) :
    ∃ w', (Instr.mapUpdate 110 (.map (some b)) (pwV s) (.int .i64 x)).run Tryz.prog w = .ok () w' ∧ MapP w' b (n + 1) (putP f s x) ∧ w.grownBy w' (some b) := by
  obtain ⟨D, h, hf⟩ := h
  obtain ⟨w', hrun, h2, hg⟩ := h.update keyP Tryz.underlying110 hn (keyP_mk hs) (nmR_mk x)
  refine ⟨w', hrun, ⟨_, h2, fun t ht => ?_⟩, hg⟩
  have hD : Maps.IsMap D := by obtain ⟨es, clock, _, _, _, e⟩ := h; exact ⟨_, e⟩
  unfold putP
  by_cases e : t = s
  · subst e
    rw [if_pos rfl, Maps.atKey_put_same hD (by trivial)]
    rfl
  · rw [if_neg e, Maps.atKey_put_other (fun h => e (kP_inj ht hs h))]
    exact hf t ht
/-- the entry is made or found, and what follows: either way a lookup gives the same number, and the store makes the same map -/
theorem MapP.run_entry (h : MapP w b n f) (hn : n < maxLen) (s : Pw) (hs : SmP s) :
    ∃ (v0 : Value) (st : Nat) (w1 : World), (Instr.mapEntry 110 (.map (some b)) (pwV s)).run Tryz.prog w = .ok (.tuple #[v0, goInt st]) w1 ∧
      (Instr.lookup 110 (.map (some b)) (pwV s) false).run Tryz.prog w1 = .ok (.int .i64 (nv (f s))) w1 ∧ w.grownBy w1 (some b) ∧
      ∀ x, ∃ w2, (Instr.entryStore 110 (.map (some b)) (goInt st) (.int .i64 x)).run Tryz.prog w1 = .ok () w2 ∧ MapP w2 b (n + 1) (putP f s x) ∧ w.grownBy w2 (some b) := by
  have h0 := h
  obtain ⟨D, ⟨es, clock, hb, F, hl, hD⟩, hf⟩ := h
  obtain ⟨v0, st, es1, clock1, hE, _, hSt⟩ := WideElems.entry_then_store lawP Tryz.underlying110 zeroN hb F (keyP_mk hs)
  have hlt := (Array.getElem?_eq_some_iff.1 hb).1
  have hW : (setBlock w b (.map es1 clock1)).heap[b]? = some (.map es1 clock1) := by
    simp [setBlock, hlt]
  have hlook : (Instr.lookup 110 (.map (some b)) (pwV s) false).run Tryz.prog (setBlock w b (.map es1 clock1)) = .ok (.int .i64 (nv (f s))) (setBlock w b (.map es1 clock1)) ∧ w.grownBy (setBlock w b (.map es1 clock1)) (some b) := by
    obtain ⟨s1, s2, _⟩ := F.stamped
    rcases lawP.find w (keyP_mk hs) es.toList F.keys with ⟨h1, h2⟩ | ⟨j, e0, h1, h2, h3⟩
    · have hE2 : (Instr.mapEntry 110 (.map (some b)) (pwV s)).run Tryz.prog w = .ok (.tuple #[.int .i64 0, goInt clock]) (setBlock w b (.map (es.push ⟨pwV s, .int .i64 0, clock⟩) (clock + 1))) := by
        simp [Instr.mapEntry, run_underlying Tryz.underlying110, MapKept.run_getObj_map hb, lawP.check w false (keyP_mk hs), h1, MapKept.run_setObj_map _ hb, Result.andThen, setBlock]
      have hU : (Instr.mapUpdate 110 (.map (some b)) (pwV s) (.int .i64 0)).run Tryz.prog w = .ok () (setBlock w b (.map (es.push ⟨pwV s, .int .i64 0, clock⟩) (clock + 1))) := by
        simp [Instr.mapUpdate, run_underlying Tryz.underlying110, MapKept.run_getObj_map hb, lawP.check w false (keyP_mk hs), h1, MapKept.run_setObj_map _ hb, Result.andThen, setBlock]
      rw [hE] at hE2
      injection hE2 with _ hE2
      obtain ⟨w', hr3, hm, hg⟩ := h0.run_put hn s hs 0
      rw [hU, ← hE2] at hr3
      injection hr3 with _ hr3
      rw [hr3]
      refine ⟨?_, hg⟩
      have h9 := hm.run_look1 s hs
      have e : nv (putP f s 0 s) = nv (f s) := by
        have hf0 : f s = none := by
          rcases Maps.fit_look false keyP Tryz.underlying110 (zeroN w) hb F (keyP_mk hs) with ⟨_, _, hat⟩ | ⟨e0, y, he0, hk0, _⟩
          · exact encN_none ((hf s hs).symm.trans (by rw [hD]; exact hat .nil))
          · exact absurd hk0 (h2 _ he0)
        rw [hf0]; simp [putP, nv]
      rw [e] at h9; exact h9
    · have hj : es[j]? = some e0 := by simpa using h2
      have hsame : es.modify j (fun e => { e with key := pwV s }) = es := by
        apply Array.ext'
        rw [Array.toList_modify, modify_eq_set _ _ _ _ h2]
        have : ({ e0 with key := pwV s } : MapEntry) = e0 := by rw [← h3]
        rw [this]
        exact WideElems.set_self _ _ _ h2
      have hE2 : (Instr.mapEntry 110 (.map (some b)) (pwV s)).run Tryz.prog w = .ok (.tuple #[e0.val, goInt e0.born]) (setBlock w b (.map es clock)) := by
        simp [Instr.mapEntry, run_underlying Tryz.underlying110, MapKept.run_getObj_map hb, lawP.check w false (keyP_mk hs), h1, hj, h3, lawP.stays w (keyP_mk hs), hsame, MapKept.run_setObj_map _ hb, Result.andThen, setBlock]
      rw [hE] at hE2
      injection hE2 with _ hE2
      have hself : setBlock w b (.map es clock) = w := by
        unfold setBlock
        have : w.heap.setIfInBounds b (.map es clock) = w.heap := by
          apply Array.ext'
          rw [Array.toList_setIfInBounds]
          exact WideElems.set_self _ _ _ (by simpa using hb)
        rw [this]
      rw [hE2, hself]
      exact ⟨h0.run_look1 s hs, World.grownBy.refl _ _⟩
  refine ⟨v0, st, _, hE, hlook.1, hlook.2, fun x => ?_⟩
  obtain ⟨es', clock', hr1, hr2⟩ := hSt _ (.int .i64 x) hW
  obtain ⟨w', hr3, hm, hg⟩ := h0.run_put hn s hs x
  rw [hr2] at hr3
  injection hr3 with _ hr3
  have e : setBlock (setBlock w b (.map es1 clock1)) b (.map es' clock') = w' := by
    rw [← hr3]; simp [setBlock]
  exact ⟨_, hr1, e ▸ hm, e ▸ hg⟩
end
end Go.Proofs.YtdgkkcjjfpenpaaGreatDoor
