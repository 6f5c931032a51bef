/-
  Plain mathematics: adding a multiple of a series, word by word, is putting its scaled terms one by one. No program is named here.
  The model's l02Add: the terms of a multiple of the second series are put into the first one by one.
  The program adds a multiple of one map of values to another: word by word, or a fraction does not fit and the call panics.
-/
import Derived.Test.YtdgkkcjjfpenpaaGreatDoorPrM
import Derived.Test.YtdgkkcjjfpenpaaGreatDoorGate
import Derived.Deep.RegionLaw
import Derived.Deep.RegionHeld2
import Derived.Deep.RegionHeld3
import Derived.Laws.NewBlocks
namespace Go.Proofs.YtdgkkcjjfpenpaaGreatDoor
open Go.RowKit

/-- one word's share of a multiple that is added -/
def addStep (g : VF) (a b : Int) (f : VF) (s : ByteArray) : Option VF :=
  match g s with
  | none => some f
  | some v => (apS (valF f s).1 (valF f s).2 v.1 v.2 a b).map fun r => setF f s (nzF r)
def addK (g : VF) (a b : Int) : List ByteArray → VF → Option VF
  | [], f => some f
  | s :: ws, f => (addStep g a b f s).bind (addK g a b ws)
theorem addK_app {g : VF} {a b : Int} : ∀ {us vs : List ByteArray} {f : VF}, addK g a b (us ++ vs) f = (addK g a b us f).bind (addK g a b vs)
  | [], vs, f => rfl
  | s :: us, vs, f => by
    show (addStep g a b f s).bind (addK g a b (us ++ vs)) = ((addStep g a b f s).bind (addK g a b us)).bind (addK g a b vs)
    cases addStep g a b f s with
    | none => rfl
    | some h => exact addK_app
theorem addK_snoc {g : VF} {a b : Int} {ws : List ByteArray} {k : Nat} (hk : k < ws.length) {f h : VF} (e : addK g a b (ws.take k) f = some h) : addK g a b (ws.take (k + 1)) f = addStep g a b h ws[k] := by
  rw [List.take_succ_eq_append_getElem hk, addK_app, e]
  show (addStep g a b h ws[k]).bind (addK g a b []) = _
  cases addStep g a b h ws[k] <;> rfl
theorem addK_dead {g : VF} {a b : Int} {ws : List ByteArray} {f : VF} (k : Nat) (e : addK g a b (ws.take k) f = none) : addK g a b ws f = none := by
  rw [← List.take_append_drop k ws, addK_app, e]; rfl
theorem addStep_none {g : VF} {a b : Int} {f : VF} {s : ByteArray} (h : g s = none) : addStep g a b f s = some f := by unfold addStep; rw [h]
theorem addStep_some {g : VF} {a b : Int} {f : VF} {s : ByteArray} {v : Int × Int} (h : g s = some v) : addStep g a b f s = (apS (valF f s).1 (valF f s).2 v.1 v.2 a b).map fun r => setF f s (nzF r) := by unfold addStep; rw [h]
theorem GoodV.addStep {ws : List ByteArray} {g : VF} {a b : Int} {f h : VF} {s : ByteArray} (hf : GoodV ws f) (hs : s ∈ ws) (e : addStep g a b f s = some h) : GoodV ws h := by
  unfold Go.Proofs.YtdgkkcjjfpenpaaGreatDoor.addStep at e
  split at e
  · injection e with e; rw [← e]; exact hf
  · obtain ⟨r, h1, rfl⟩ := Option.map_eq_some_iff.1 e
    exact hf.set_ hs (apS_isF h1)
theorem GoodV.addK {vs : List ByteArray} {g : VF} {a b : Int} : ∀ {ws : List ByteArray} {f h : VF}, GoodV vs f → (∀ s ∈ ws, s ∈ vs) → addK g a b ws f = some h → GoodV vs h
  | [], f, h, hf, _, e => by
    unfold Go.Proofs.YtdgkkcjjfpenpaaGreatDoor.addK at e
    injection e with e; rw [← e]; exact hf
  | s :: ws, f, h, hf, hs, e => by
    unfold Go.Proofs.YtdgkkcjjfpenpaaGreatDoor.addK at e
    obtain ⟨f', h1, h2⟩ := Option.bind_eq_some_iff.1 e
    exact (hf.addStep (hs s (by simp)) h1).addK (fun t ht => hs t (by simp [ht])) h2

/-- a value that is added at a word -/
def putF (f : VF) (s : ByteArray) (x y : Int) : Option VF :=
  match f s with
  | none => some (setF f s (nzF (x, y)))
  | some v => if fOk (v.1 * y + x * v.2) (v.2 * y) = true then some (setF f s (nzF (fN (v.1 * y + x * v.2) (v.2 * y), fD (v.1 * y + x * v.2) (v.2 * y)))) else none
theorem addStep_put {g : VF} {a b : Int} {f : VF} {s : ByteArray} {v : Int × Int} (h : g s = some v) : addStep g a b f s = if fOk (v.1 * a) (v.2 * b) = true then putF f s (fN (v.1 * a) (v.2 * b)) (fD (v.1 * a) (v.2 * b)) else none := by
  rw [addStep_some h]
  cases hok : fOk (v.1 * a) (v.2 * b) with
  | false => rw [apS_bad1 hok]; rfl
  | true =>
    have hp := fOk_isFp hok
    rw [if_pos rfl]
    unfold putF apS
    rw [hok, if_pos rfl]
    generalize fN (v.1 * a) (v.2 * b) = x at *
    generalize fD (v.1 * a) (v.2 * b) = y at *
    cases hf : f s with
    | none =>
      rw [valF_none hf]
      have e := isF_self hp
      simp only [Int.zero_mul, Int.zero_add, Int.mul_one, Int.one_mul]
      rw [e.1, e.2.1, e.2.2]
      rfl
    | some w =>
      rw [valF_some hf]
      simp only
      split <;> rfl
theorem setF_other {f : VF} {s t : ByteArray} {o : Option (Int × Int)} (h : t ≠ s) : setF f s o t = f t := if_neg h
theorem setF_same {f : VF} {s : ByteArray} {o : Option (Int × Int)} : setF f s o s = o := if_pos rfl
theorem termsOf_cons (f : VF) (s : ByteArray) (ws : List ByteArray) : termsOf f (s :: ws) = (match f s with | none => termsOf f ws | some p => ⟨s, p.1, p.2⟩ :: termsOf f ws) := by
  unfold termsOf
  cases h : f s <;> simp [h]
theorem termsOf_other {f : VF} {s : ByteArray} {o : Option (Int × Int)} : ∀ {ws : List ByteArray}, s ∉ ws → termsOf (setF f s o) ws = termsOf f ws
  | [], _ => rfl
  | t :: ws, h => by
    have h1 : t ≠ s := fun e => h (by simp [e])
    have ih := termsOf_other (f := f) (o := o) (ws := ws) (fun e : s ∈ ws => h (List.mem_cons_of_mem _ e))
    rw [termsOf_cons, termsOf_cons, setF_other h1, ih]
theorem conT_nz (s : ByteArray) (x y : Int) (r : List Tm) : conT ⟨s, x, y⟩ r = (match nzF (x, y) with | none => r | some p => ⟨s, p.1, p.2⟩ :: r) := by
  unfold conT nzF
  by_cases h : x = 0
  · simp [h]
  · simp [h]
/-- putting a term is adding its value -/
theorem putL_termsOf {f : VF} {s : ByteArray} {x y : Int} : ∀ {ws : List ByteArray}, ws.Pairwise lessW → s ∈ ws → putL (termsOf f ws) ⟨s, x, y⟩ = (putF f s x y).map fun h => termsOf h ws
  | [], _, h => by cases h
  | w :: ws, hp, hm => by
    rw [List.pairwise_cons] at hp
    by_cases e : s = w
    · subst e
      have hns : s ∉ ws := fun hc => by
        have := hp.1 s hc
        unfold lessW at this
        rw [lessL_irrefl] at this
        cases this
      have hrest : ∀ o, termsOf (setF f s o) ws = termsOf f ws := fun o => termsOf_other hns
      unfold putF
      rw [termsOf_cons]
      cases hf : f s with
      | none =>
        simp only [Option.map_some]
        rw [termsOf_cons, setF_same, hrest, ← conT_nz]
        cases hr : termsOf f ws with
        | nil => rfl
        | cons t r =>
          have ht : t.s ∈ ws := (termsOf_iff.1 (show t ∈ termsOf f ws by rw [hr]; simp)).1
          have hlt : lessT ⟨s, x, y⟩ t = true := hp.1 _ ht
          have h1 : lessT t ⟨s, x, y⟩ = false := by
            cases hc : lessT t ⟨s, x, y⟩ with
            | false => rfl
            | true =>
              have := lessT_trans hlt hc
              rw [lessT_irrefl] at this
              cases this
          have h2 : t.s ≠ s := fun e => by rw [e] at ht; exact hns ht
          simp only [putL, h1, Bool.false_eq_true, if_false, putHere, h2]
      | some v =>
        have h1 : lessT ⟨s, v.1, v.2⟩ ⟨s, x, y⟩ = false := lessL_irrefl _
        simp only [putL, h1, Bool.false_eq_true, if_false, putHere, if_true, sumT, sumN, sumD]
        by_cases hok : fOk (v.1 * y + x * v.2) (v.2 * y) = true
        · rw [if_pos (show sumOk ⟨s, v.1, v.2⟩ ⟨s, x, y⟩ = true from hok), if_pos hok]
          simp only [Option.map_some]
          rw [termsOf_cons, setF_same, hrest, ← conT_nz]
        · rw [if_neg (show ¬ sumOk ⟨s, v.1, v.2⟩ ⟨s, x, y⟩ = true from hok), if_neg hok]
          rfl
    · have hm2 : s ∈ ws := by
        rcases List.mem_cons.1 hm with h | h
        · exact absurd h e
        · exact h
      have ih := putL_termsOf (f := f) (x := x) (y := y) hp.2 hm2
      have hlt : lessT ⟨w, 0, 0⟩ ⟨s, x, y⟩ = true := hp.1 s hm2
      have hne : w ≠ s := fun h => e h.symm
      have hh : ∀ h, putF f s x y = some h → h w = f w := fun h he => by
        unfold putF at he
        split at he
        · injection he with he; rw [← he]; exact setF_other hne
        · split at he
          · injection he with he; rw [← he]; exact setF_other hne
          · cases he
      rw [termsOf_cons]
      cases hf : f w with
      | none =>
        simp only
        rw [ih]
        cases hp' : putF f s x y with
        | none => rfl
        | some h => simp only [Option.map_some]; rw [termsOf_cons, hh h hp', hf]
      | some v =>
        simp only
        have hlt2 : lessT ⟨w, v.1, v.2⟩ ⟨s, x, y⟩ = true := hlt
        simp only [putL, hlt2, if_true]
        rw [ih]
        cases hp' : putF f s x y with
        | none => rfl
        | some h => simp only [Option.map_some]; rw [termsOf_cons, hh h hp', hf]

/-- the multiple of terms, if it fits -/
def scaledL (a b : Int) : List Tm → Option (List Tm)
  | [] => some []
  | t :: r => if fOk (a * t.n) (b * t.d) = true then (scaledL a b r).map (⟨t.s, fN (a * t.n) (b * t.d), fD (a * t.n) (b * t.d)⟩ :: ·) else none
theorem scaledL_app (a b : Int) : ∀ us vs : List Tm, scaledL a b (us ++ vs) = (scaledL a b us).bind fun r => (scaledL a b vs).map (r ++ ·)
  | [], vs => by
    show scaledL a b vs = _
    simp [scaledL]
  | t :: us, vs => by
    have ih := scaledL_app a b us vs
    simp only [List.cons_append, scaledL]
    rw [ih]
    split
    · cases scaledL a b us with
      | none => rfl
      | some r =>
        cases scaledL a b vs with
        | none => simp
        | some r2 => simp
    · rfl
theorem scaledL_snoc {a b : Int} {ts : List Tm} {k : Nat} (hk : k < ts.length) {r : List Tm} (e : scaledL a b (ts.take k) = some r) :
    scaledL a b (ts.take (k + 1)) = if fOk (a * (ts[k]).n) (b * (ts[k]).d) = true then some (r ++ [⟨(ts[k]).s, fN (a * (ts[k]).n) (b * (ts[k]).d), fD (a * (ts[k]).n) (b * (ts[k]).d)⟩]) else none := by
  rw [List.take_succ_eq_append_getElem hk, scaledL_app, e]
  simp only [Option.bind_some]
  unfold scaledL
  split <;> rfl
theorem scaledL_dead {a b : Int} {ts : List Tm} (k : Nat) (e : scaledL a b (ts.take k) = none) : scaledL a b ts = none := by
  rw [← List.take_append_drop k ts, scaledL_app, e]; rfl
theorem scaledL_length {a b : Int} : ∀ {ts r : List Tm}, scaledL a b ts = some r → r.length = ts.length
  | [], r, h => by simp only [scaledL, Option.some.injEq] at h; rw [← h]
  | t :: ts, r, h => by
    unfold scaledL at h
    split at h
    · obtain ⟨r', h1, rfl⟩ := Option.map_eq_some_iff.1 h
      simp [scaledL_length h1]
    · cases h
theorem scaledL_mem {a b : Int} : ∀ {ts r : List Tm}, scaledL a b ts = some r → ∀ t ∈ r, isF t.n t.d = true ∧ ∃ u ∈ ts, u.s = t.s
  | [], r, h => by
    simp only [scaledL, Option.some.injEq] at h
    rw [← h]
    intro t ht
    cases ht
  | u :: ts, r, h => by
    unfold scaledL at h
    split at h
    · rename_i hok
      obtain ⟨r', h1, rfl⟩ := Option.map_eq_some_iff.1 h
      intro t ht
      rcases List.mem_cons.1 ht with rfl | ht
      · exact ⟨fOk_isFp hok, u, by simp, rfl⟩
      · obtain ⟨h2, v, h3, h4⟩ := scaledL_mem h1 t ht
        exact ⟨h2, v, by simp [h3], h4⟩
    · cases h
theorem addK_put {vs : List ByteArray} (hv : vs.Pairwise lessW) {g : VF} {a b : Int} : ∀ {ws : List ByteArray}, (∀ s ∈ ws, s ∈ vs) → ∀ f : VF,
    ((scaledL a b (termsOf g ws)).bind fun us => putAll (termsOf f vs) us) = (addK g a b ws f).map fun h => termsOf h vs
  | [], _, f => rfl
  | s :: ws, hin, f => by
    have ih := fun f => addK_put hv (g := g) (a := a) (b := b) (ws := ws) (fun t ht => hin t (by simp [ht])) f
    have hs := hin s (by simp)
    rw [termsOf_cons]
    show _ = ((addStep g a b f s).bind (addK g a b ws)).map fun h => termsOf h vs
    cases hg : g s with
    | none =>
      rw [addStep_none hg]
      exact ih f
    | some v =>
      rw [addStep_put hg]
      simp only
      unfold scaledL
      simp only
      rw [Int.mul_comm v.1 a, Int.mul_comm v.2 b]
      cases hok : fOk (a * v.1) (b * v.2) with
      | false => rfl
      | true =>
        simp only [if_true]
        have hput := putL_termsOf (f := f) (x := fN (a * v.1) (b * v.2)) (y := fD (a * v.1) (b * v.2)) hv hs
        cases hsc : scaledL a b (termsOf g ws) with
        | none =>
          simp only [Option.map_none, Option.bind_none]
          cases hp : putF f s (fN (a * v.1) (b * v.2)) (fD (a * v.1) (b * v.2)) with
          | none => rfl
          | some h =>
            have := ih h
            rw [hsc] at this
            exact this
        | some us =>
          simp only [Option.map_some, Option.bind_some]
          unfold putAll
          rw [hput]
          cases hp : putF f s (fN (a * v.1) (b * v.2)) (fD (a * v.1) (b * v.2)) with
          | none => rfl
          | some h =>
            have := ih h
            rw [hsc] at this
            exact this
end Go.Proofs.YtdgkkcjjfpenpaaGreatDoor

namespace Go.Proofs.YtdgkkcjjfpenpaaGreatDoor
open Go.RowKit

def ScCut (w1 : World) (N D : Int) (ok : Bool) (v8 v9 : Value) (wy : World) : Prop :=
  ∃ g, v8 = .pointer (some ⟨g, 0, none⟩) ∧ v9 = .bool ok ∧ w1.heap.size ≤ g ∧ g < wy.heap.size ∧ Below w1.heap.size w1 wy ∧ wy.cell? ⟨g, 0, none⟩ = some (.int .i64 N) ∧ wy.cell? ⟨g, 1, none⟩ = some (.int .i64 D)
theorem gr_set (w : World) (b i : Nat) (u : Value) : w.grownBy (w.setCell ⟨b, i, none⟩ u) (some b) := ⟨rfl, rfl, rfl, by simp, fun k _ hk => Below.heap_setCell _ _ _ k (fun e => hk (by rw [e]))⟩
theorem scaled_bd {a b : Int} {ts r : List Tm} (h : scaledL a b ts = some r) : ∀ t ∈ r, bdT t := fun t ht => by
  have := isF_abs (scaledL_mem h t ht).1
  exact ⟨this.1, this.2.1⟩
theorem OwnT.one_more {w2 : World} {base lv gg cg : Nat} {us : List Tm} {s : ByteArray} {N D : Int} (hl : lv = us.length)
    (h : w2.ownsRow base 46 3 (.slice (some ⟨gg, 0, none⟩) (lv + 1) cg) (lv + 1) (cellsT us ++ [.string s, .int .i64 N, .int .i64 D])) : OwnT w2 base (.slice (some ⟨gg, 0, none⟩) (lv + 1) cg) (us ++ [⟨s, N, D⟩]) := by
  unfold OwnT
  rw [List.length_append, cellsT_append, ← hl]
  exact h

end Go.Proofs.YtdgkkcjjfpenpaaGreatDoor

namespace Go.Proofs.YtdgkkcjjfpenpaaGreatDoor
open Go.RowKit

/-- what adding to a map of values comes to -/
def AddPost (r : Option VF) (b n : Nat) (W : World) (e : Ending) (w' : World) : Prop :=
  match r with
  | none => e = .panicked [misP 3] ∧ W.grownBy w' (some b)
  | some h => e = .returned (.tuple #[]) ∧ MapV w' b n h ∧ W.grownBy w' (some b)
theorem gr_cell {w w' : World} {b n i : Nat} (h : w.grownBy w' (some b)) (hn : n < w.heap.size) (hne : n ≠ b) : w'.cell? ⟨n, i, none⟩ = w.cell? ⟨n, i, none⟩ := World.cell?_of_block (h.block n hn (fun e => by injection e with e; exact hne e))
theorem SRow.grown {w w' : World} {a : Option Addr} {ss : List ByteArray} {b : Nat} (h : SRow w a ss) (hg : w.grownBy w' (some b)) (hb : ∀ p, a = some p → p.block ≠ b) : SRow w' a ss := by
  rcases h with h | ⟨c, o, h1, h2, h3⟩
  · exact .inl h
  · exact .inr ⟨c, o, h1, Nat.lt_of_lt_of_le h2 hg.size, fun i hi => (gr_cell hg h2 (hb _ h1)).trans (h3 i hi)⟩

end Go.Proofs.YtdgkkcjjfpenpaaGreatDoor
