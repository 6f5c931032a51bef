/-
  Plain mathematics: adding a multiple of a series, word by word, is putting its scaled terms one by one. No program is named here.
  The model's l02Add: the terms of a multiple of the second series are put into the first one by one.
  The program adds a multiple of one map of values to another: word by word, or a fraction does not fit and the call panics.
-/
import Derived.Test.YteljpgoaaelbfaaGreatDoorPrM
import Derived.Test.YteljpgoaaelbfaaGreatDoorGate
import Derived.Deep.RegionLaw
import Derived.Deep.RegionHeld2
import Derived.Deep.RegionHeld3
import Derived.Laws.NewBlocks
namespace Go.Proofs.YteljpgoaaelbfaaGreatDoor
open Go.RowKit

/-- one word's share of a multiple that is added -/
def addStep (g : VF) (a b : Int) (f : VF) (s : ByteArray) : Option VF :=
  match g s with
  | none => some f
  | some v => (apS (valF f s).1 (valF f s).2 v.1 v.2 a b).map fun r => setF f s (nzF r)
def addK (g : VF) (a b : Int) : List ByteArray → VF → Option VF
  | [], f => some f
  | s :: ws, f => (addStep g a b f s).bind (addK g a b ws)
theorem addK_app {g : VF} {a b : Int} : ∀ {us vs : List ByteArray} {f : VF}, addK g a b (us ++ vs) f = (addK g a b us f).bind (addK g a b vs)
  | [], vs, f => rfl
  | s :: us, vs, f => by
    show (addStep g a b f s).bind (addK g a b (us ++ vs)) = ((addStep g a b f s).bind (addK g a b us)).bind (addK g a b vs)
    cases addStep g a b f s with
    | none => rfl
    | some h => exact addK_app
theorem addK_snoc {g : VF} {a b : Int} {ws : List ByteArray} {k : Nat} (hk : k < ws.length) {f h : VF} (e : addK g a b (ws.take k) f = some h) : addK g a b (ws.take (k + 1)) f = addStep g a b h ws[k] := by
  rw [List.take_succ_eq_append_getElem hk, addK_app, e]
  show (addStep g a b h ws[k]).bind (addK g a b []) = _
  cases addStep g a b h ws[k] <;> rfl
theorem addK_dead {g : VF} {a b : Int} {ws : List ByteArray} {f : VF} (k : Nat) (e : addK g a b (ws.take k) f = none) : addK g a b ws f = none := by
  rw [← List.take_append_drop k ws, addK_app, e]; rfl
theorem addStep_none {g : VF} {a b : Int} {f : VF} {s : ByteArray} (h : g s = none) : addStep g a b f s = some f := by unfold addStep; rw [h]
theorem addStep_some {g : VF} {a b : Int} {f : VF} {s : ByteArray} {v : Int × Int} (h : g s = some v) : addStep g a b f s = (apS (valF f s).1 (valF f s).2 v.1 v.2 a b).map fun r => setF f s (nzF r) := by unfold addStep; rw [h]
theorem GoodV.addStep {ws : List ByteArray} {g : VF} {a b : Int} {f h : VF} {s : ByteArray} (hf : GoodV ws f) (hs : s ∈ ws) (e : addStep g a b f s = some h) : GoodV ws h := by
  unfold Go.Proofs.YteljpgoaaelbfaaGreatDoor.addStep at e
  split at e
  · injection e with e; rw [← e]; exact hf
  · obtain ⟨r, h1, rfl⟩ := Option.map_eq_some_iff.1 e
    exact hf.set_ hs (apS_isF h1)
theorem GoodV.addK {vs : List ByteArray} {g : VF} {a b : Int} : ∀ {ws : List ByteArray} {f h : VF}, GoodV vs f → (∀ s ∈ ws, s ∈ vs) → addK g a b ws f = some h → GoodV vs h
  | [], f, h, hf, _, e => by
    unfold Go.Proofs.YteljpgoaaelbfaaGreatDoor.addK at e
    injection e with e; rw [← e]; exact hf
  | s :: ws, f, h, hf, hs, e => by
    unfold Go.Proofs.YteljpgoaaelbfaaGreatDoor.addK at e
    obtain ⟨f', h1, h2⟩ := Option.bind_eq_some_iff.1 e
    exact (hf.addStep (hs s (by simp)) h1).addK (fun t ht => hs t (by simp [ht])) h2

/-- a value that is added at a word -/
def putF (f : VF) (s : ByteArray) (x y : Int) : Option VF :=
  match f s with
  | none => some (setF f s (nzF (x, y)))
  | some v => if fOk (v.1 * y + x * v.2) (v.2 * y) = true then some (setF f s (nzF (fN (v.1 * y + x * v.2) (v.2 * y), fD (v.1 * y + x * v.2) (v.2 * y)))) else none
theorem addStep_put {g : VF} {a b : Int} {f : VF} {s : ByteArray} {v : Int × Int} (h : g s = some v) : addStep g a b f s = if fOk (v.1 * a) (v.2 * b) = true then putF f s (fN (v.1 * a) (v.2 * b)) (fD (v.1 * a) (v.2 * b)) else none := by
  rw [addStep_some h]
  cases hok : fOk (v.1 * a) (v.2 * b) with
  | false => rw [apS_bad1 hok]; rfl
  | true =>
    have hp := fOk_isFp hok
    rw [if_pos rfl]
    unfold putF apS
    rw [hok, if_pos rfl]
    generalize fN (v.1 * a) (v.2 * b) = x at *
    generalize fD (v.1 * a) (v.2 * b) = y at *
    cases hf : f s with
    | none =>
      rw [valF_none hf]
      have e := isF_self hp
      simp only [Int.zero_mul, Int.zero_add, Int.mul_one, Int.one_mul]
      rw [e.1, e.2.1, e.2.2]
      rfl
    | some w =>
      rw [valF_some hf]
      simp only
      split <;> rfl
theorem setF_other {f : VF} {s t : ByteArray} {o : Option (Int × Int)} (h : t ≠ s) : setF f s o t = f t := if_neg h
theorem setF_same {f : VF} {s : ByteArray} {o : Option (Int × Int)} : setF f s o s = o := if_pos rfl
theorem termsOf_cons (f : VF) (s : ByteArray) (ws : List ByteArray) : termsOf f (s :: ws) = (match f s with | none => termsOf f ws | some p => ⟨s, p.1, p.2⟩ :: termsOf f ws) := by
  unfold termsOf
  cases h : f s <;> simp [h]
theorem termsOf_other {f : VF} {s : ByteArray} {o : Option (Int × Int)} : ∀ {ws : List ByteArray}, s ∉ ws → termsOf (setF f s o) ws = termsOf f ws
  | [], _ => rfl
  | t :: ws, h => by
    have h1 : t ≠ s := fun e => h (by simp [e])
    have ih := termsOf_other (f := f) (o := o) (ws := ws) (fun e : s ∈ ws => h (List.mem_cons_of_mem _ e))
    rw [termsOf_cons, termsOf_cons, setF_other h1, ih]
theorem conT_nz (s : ByteArray) (x y : Int) (r : List Tm) : conT ⟨s, x, y⟩ r = (match nzF (x, y) with | none => r | some p => ⟨s, p.1, p.2⟩ :: r) := by
  unfold conT nzF
  by_cases h : x = 0
  · simp [h]
  · simp [h]
/-- putting a term is adding its value -/
theorem putL_termsOf {f : VF} {s : ByteArray} {x y : Int} : ∀ {ws : List ByteArray}, ws.Pairwise lessW → s ∈ ws → putL (termsOf f ws) ⟨s, x, y⟩ = (putF f s x y).map fun h => termsOf h ws
  | [], _, h => by cases h
  | w :: ws, hp, hm => by
    rw [List.pairwise_cons] at hp
    by_cases e : s = w
    · subst e
      have hns : s ∉ ws := fun hc => by
        have := hp.1 s hc
        unfold lessW at this
        rw [lessL_irrefl] at this
        cases this
      have hrest : ∀ o, termsOf (setF f s o) ws = termsOf f ws := fun o => termsOf_other hns
      unfold putF
      rw [termsOf_cons]
      cases hf : f s with
      | none =>
        simp only [Option.map_some]
        rw [termsOf_cons, setF_same, hrest, ← conT_nz]
        cases hr : termsOf f ws with
        | nil => rfl
        | cons t r =>
          have ht : t.s ∈ ws := (termsOf_iff.1 (show t ∈ termsOf f ws by rw [hr]; simp)).1
          have hlt : lessT ⟨s, x, y⟩ t = true := hp.1 _ ht
          have h1 : lessT t ⟨s, x, y⟩ = false := by
            cases hc : lessT t ⟨s, x, y⟩ with
            | false => rfl
            | true =>
              have := lessT_trans hlt hc
              rw [lessT_irrefl] at this
              cases this
          have h2 : t.s ≠ s := fun e => by rw [e] at ht; exact hns ht
          simp only [putL, h1, Bool.false_eq_true, if_false, putHere, h2]
      | some v =>
        have h1 : lessT ⟨s, v.1, v.2⟩ ⟨s, x, y⟩ = false := lessL_irrefl _
        simp only [putL, h1, Bool.false_eq_true, if_false, putHere, if_true, sumT, sumN, sumD]
        by_cases hok : fOk (v.1 * y + x * v.2) (v.2 * y) = true
        · rw [if_pos (show sumOk ⟨s, v.1, v.2⟩ ⟨s, x, y⟩ = true from hok), if_pos hok]
          simp only [Option.map_some]
          rw [termsOf_cons, setF_same, hrest, ← conT_nz]
        · rw [if_neg (show ¬ sumOk ⟨s, v.1, v.2⟩ ⟨s, x, y⟩ = true from hok), if_neg hok]
          rfl
    · have hm2 : s ∈ ws := by
        rcases List.mem_cons.1 hm with h | h
        · exact absurd h e
        · exact h
      have ih := putL_termsOf (f := f) (x := x) (y := y) hp.2 hm2
      have hlt : lessT ⟨w, 0, 0⟩ ⟨s, x, y⟩ = true := hp.1 s hm2
      have hne : w ≠ s := fun h => e h.symm
      have hh : ∀ h, putF f s x y = some h → h w = f w := fun h he => by
        unfold putF at he
        split at he
        · injection he with he; rw [← he]; exact setF_other hne
        · split at he
          · injection he with he; rw [← he]; exact setF_other hne
          · cases he
      rw [termsOf_cons]
      cases hf : f w with
      | none =>
        simp only
        rw [ih]
        cases hp' : putF f s x y with
        | none => rfl
        | some h => simp only [Option.map_some]; rw [termsOf_cons, hh h hp', hf]
      | some v =>
        simp only
        have hlt2 : lessT ⟨w, v.1, v.2⟩ ⟨s, x, y⟩ = true := hlt
        simp only [putL, hlt2, if_true]
        rw [ih]
        cases hp' : putF f s x y with
        | none => rfl
        | some h => simp only [Option.map_some]; rw [termsOf_cons, hh h hp', hf]

/-- the multiple of terms, if it fits -/
def scaledL (a b : Int) : List Tm → Option (List Tm)
  | [] => some []
  | t :: r => if fOk (a * t.n) (b * t.d) = true then (scaledL a b r).map (⟨t.s, fN (a * t.n) (b * t.d), fD (a * t.n) (b * t.d)⟩ :: ·) else none
theorem scaledL_app (a b : Int) : ∀ us vs : List Tm, scaledL a b (us ++ vs) = (scaledL a b us).bind fun r => (scaledL a b vs).map (r ++ ·)
  | [], vs => by
    show scaledL a b vs = _
    simp [scaledL]
  | t :: us, vs => by
    have ih := scaledL_app a b us vs
    simp only [List.cons_append, scaledL]
    rw [ih]
    split
    · cases scaledL a b us with
      | none => rfl
      | some r =>
        cases scaledL a b vs with
        | none => simp
        | some r2 => simp
    · rfl
theorem scaledL_snoc {a b : Int} {ts : List Tm} {k : Nat} (hk : k < ts.length) {r : List Tm} (e : scaledL a b (ts.take k) = some r) :
    scaledL a b (ts.take (k + 1)) = if fOk (a * (ts[k]).n) (b * (ts[k]).d) = true then some (r ++ [⟨(ts[k]).s, fN (a * (ts[k]).n) (b * (ts[k]).d), fD (a * (ts[k]).n) (b * (ts[k]).d)⟩]) else none := by
  rw [List.take_succ_eq_append_getElem hk, scaledL_app, e]
  simp only [Option.bind_some]
  unfold scaledL
  split <;> rfl
theorem scaledL_dead {a b : Int} {ts : List Tm} (k : Nat) (e : scaledL a b (ts.take k) = none) : scaledL a b ts = none := by
  rw [← List.take_append_drop k ts, scaledL_app, e]; rfl
theorem scaledL_length {a b : Int} : ∀ {ts r : List Tm}, scaledL a b ts = some r → r.length = ts.length
  | [], r, h => by simp only [scaledL, Option.some.injEq] at h; rw [← h]
  | t :: ts, r, h => by
    unfold scaledL at h
    split at h
    · obtain ⟨r', h1, rfl⟩ := Option.map_eq_some_iff.1 h
      simp [scaledL_length h1]
    · cases h
theorem scaledL_mem {a b : Int} : ∀ {ts r : List Tm}, scaledL a b ts = some r → ∀ t ∈ r, isF t.n t.d = true ∧ ∃ u ∈ ts, u.s = t.s
  | [], r, h => by
    simp only [scaledL, Option.some.injEq] at h
    rw [← h]
    intro t ht
    cases ht
  | u :: ts, r, h => by
    unfold scaledL at h
    split at h
    · rename_i hok
      obtain ⟨r', h1, rfl⟩ := Option.map_eq_some_iff.1 h
      intro t ht
      rcases List.mem_cons.1 ht with rfl | ht
      · exact ⟨fOk_isFp hok, u, by simp, rfl⟩
      · obtain ⟨h2, v, h3, h4⟩ := scaledL_mem h1 t ht
        exact ⟨h2, v, by simp [h3], h4⟩
    · cases h
theorem addK_put {vs : List ByteArray} (hv : vs.Pairwise lessW) {g : VF} {a b : Int} : ∀ {ws : List ByteArray}, (∀ s ∈ ws, s ∈ vs) → ∀ f : VF,
    ((scaledL a b (termsOf g ws)).bind fun us => putAll (termsOf f vs) us) = (addK g a b ws f).map fun h => termsOf h vs
  | [], _, f => rfl
  | s :: ws, hin, f => by
    have ih := fun f => addK_put hv (g := g) (a := a) (b := b) (ws := ws) (fun t ht => hin t (by simp [ht])) f
    have hs := hin s (by simp)
    rw [termsOf_cons]
    show _ = ((addStep g a b f s).bind (addK g a b ws)).map fun h => termsOf h vs
    cases hg : g s with
    | none =>
      rw [addStep_none hg]
      exact ih f
    | some v =>
      rw [addStep_put hg]
      simp only
      unfold scaledL
      simp only
      rw [Int.mul_comm v.1 a, Int.mul_comm v.2 b]
      cases hok : fOk (a * v.1) (b * v.2) with
      | false => rfl
      | true =>
        simp only [if_true]
        have hput := putL_termsOf (f := f) (x := fN (a * v.1) (b * v.2)) (y := fD (a * v.1) (b * v.2)) hv hs
        cases hsc : scaledL a b (termsOf g ws) with
        | none =>
          simp only [Option.map_none, Option.bind_none]
          cases hp : putF f s (fN (a * v.1) (b * v.2)) (fD (a * v.1) (b * v.2)) with
          | none => rfl
          | some h =>
            have := ih h
            rw [hsc] at this
            exact this
        | some us =>
          simp only [Option.map_some, Option.bind_some]
          unfold putAll
          rw [hput]
          cases hp : putF f s (fN (a * v.1) (b * v.2)) (fD (a * v.1) (b * v.2)) with
          | none => rfl
          | some h =>
            have := ih h
            rw [hsc] at this
            exact this
end Go.Proofs.YteljpgoaaelbfaaGreatDoor

namespace Go.Proofs.YteljpgoaaelbfaaGreatDoor
open Go.RowKit

def ScCut (w1 : World) (N D : Int) (ok : Bool) (v8 v9 : Value) (wy : World) : Prop :=
  ∃ g, v8 = .pointer (some ⟨g, 0, none⟩) ∧ v9 = .bool ok ∧ w1.heap.size ≤ g ∧ g < wy.heap.size ∧ Below w1.heap.size w1 wy ∧ wy.cell? ⟨g, 0, none⟩ = some (.int .i64 N) ∧ wy.cell? ⟨g, 1, none⟩ = some (.int .i64 D)
theorem gr_set (w : World) (b i : Nat) (u : Value) : w.grownBy (w.setCell ⟨b, i, none⟩ u) (some b) := ⟨rfl, rfl, rfl, by simp, fun k _ hk => Below.heap_setCell _ _ _ k (fun e => hk (by rw [e]))⟩
theorem scaled_bd {a b : Int} {ts r : List Tm} (h : scaledL a b ts = some r) : ∀ t ∈ r, bdT t := fun t ht => by
  have := isF_abs (scaledL_mem h t ht).1
  exact ⟨this.1, this.2.1⟩
theorem OwnT.one_more {w2 : World} {base lv gg cg : Nat} {us : List Tm} {s : ByteArray} {N D : Int} (hl : lv = us.length)
    (h : w2.ownsRow base 74 3 (.slice (some ⟨gg, 0, none⟩) (lv + 1) cg) (lv + 1) (cellsT us ++ [.string s, .int .i64 N, .int .i64 D])) : OwnT w2 base (.slice (some ⟨gg, 0, none⟩) (lv + 1) cg) (us ++ [⟨s, N, D⟩]) := by
  unfold OwnT
  rw [List.length_append, cellsT_append, ← hl]
  exact h

set_option maxRecDepth 100000 in
set_option maxHeartbeats 8000000 in
theorem l02Add_c (L V L2 V2 a b : Int) (ha : a.natAbs ≤ 1000000000) (hb : b.natAbs ≤ 1000000000) (a1 a2 : Option Addr) (c1 c2 : Nat) (ts ys : List Tm) (hl1 : ts.length ≤ 1048576) (hl2 : ys.length ≤ 1048576) (bd1 : ∀ t ∈ ts, bdT t) (bd2 : ∀ t ∈ ys, bdT t) (w : World) (t1 : Row w a1 ts) (t2 : Row w a2 ys) :
    Calls Tryz.prog 19 #[.agg #[.int .i64 L, .int .i64 V, .slice a1 ts.length c1], .agg #[.int .i64 L2, .int .i64 V2, .slice a2 ys.length c2], .agg #[.int .i64 a, .int .i64 b]] w (SumPost L V ((scaledL a b ys).bind fun us => putAll ts us) w) := by
  obtain ⟨i0, hi0, hi1, hi2, hi3⟩ := info_parts info_term
  have HT1 := Lib.hid t1
  have HT2 := Lib.hid t2
  have HD1 := Lib.hid bd1
  have HD2 := Lib.hid bd2
  clear t1 t2 bd1 bd2
  go_enter Tryz.func19, Tryz.ntmps19
  go_wp2_with fail
  refine (l01Empty_c L V _ rfl _).mono ?_
  rintro e w1 ⟨g1, rfl, hO, hb1⟩
  have hz1 : w.heap.size + 1 + 1 + 1 < w1.heap.size := by have := hb1.size; simp at this; omega
  have HO := Lib.hid (show OwnT w1 (w.heap.size + 1 + 1 + 1 + 1) (.slice (some ⟨g1, 0, none⟩) 0 0) [] from by simpa using hO)
  have HB := Lib.hid (show Below (w.heap.size + 1 + 1 + 1 + 1) ((((w.alloc (.cells #[.int .i64 L, .int .i64 V, .slice a1 ts.length c1] 26)).alloc (.cells #[.int .i64 L2, .int .i64 V2, .slice a2 ys.length c2] 26)).alloc (.cells #[.int .i64 a, .int .i64 b] 44)).alloc (.cells #[.int .i64 0, .int .i64 0, .slice none 0 0] 26)) w1 from by simpa using hb1)
  have hz1' : w.heap.size + 1 + 1 + 1 + 1 ≤ w1.heap.size := by omega
  have hz0 : w.heap.size < w1.heap.size := by omega
  have HW0 := Lib.hid (show Below w.heap.size w ((((w.alloc (.cells #[.int .i64 L, .int .i64 V, .slice a1 ts.length c1] 26)).alloc (.cells #[.int .i64 L2, .int .i64 V2, .slice a2 ys.length c2] 26)).alloc (.cells #[.int .i64 a, .int .i64 b] 44)).alloc (.cells #[.int .i64 0, .int .i64 0, .slice none 0 0] 26)) from (below3 w _ _ _).alloc (by simp; omega) _)
  obtain ⟨hc, hf⟩ := bcellB HB.out
  have x2 : w1.cell? ⟨w.heap.size, 2, none⟩ = some (.slice a1 ts.length c1) := (hc _ _ (by omega)).trans (by go_simp)
  clear hb1 hO hc hf
  go_wp2_with (at_builtin; go_loud (refine wpList_append_terms rfl _ _ rfl (w.heap.size + 1 + 1 + 1 + 1) (.slice (some ⟨g1, 0, none⟩) 0 0) 0 [] ts rfl rfl (HO.out.alloc _) _ ts.length _ rfl rfl (((HT1.out.below (HW0.out.trans (HB.out.mono (by omega)))).below (below1 w1 _)).src rfl) (by omega) (by simp; omega) ?_))
  intro a3 q3 w3 hO3 hG3 hloc3
  have HB3 := Lib.hid ((HB.out.alloc (by omega) _).trans (own_grown (HO.out.alloc _) hG3 (by simp; omega)))
  have hne3 : (Value.slice (some ⟨g1, 0, none⟩) 0 0).ownBlock ≠ some w1.heap.size := fun e => by have := (HO.out.lt _ e).2; omega
  have HBl := Lib.hid ((Blk.new w1 26 #[.int .i64 L, .int .i64 V, .slice (some ⟨g1, 0, none⟩) 0 0]).grown hG3 (Ne.symm hne3))
  have hz3 : w1.heap.size + 1 ≤ w3.heap.size := by have := hG3.size; simpa using this
  have n2 : w3.cell? ⟨w1.heap.size, 2, none⟩ = some (.slice (some ⟨g1, 0, none⟩) 0 0) := HBl.out.cell 2
  have nf : w3.frozen? ⟨w1.heap.size, 2, none⟩ = false := HBl.out.frozen 2
  have HBz := Lib.hid (HB3.out.setCell (p := ⟨w1.heap.size, 2, none⟩) (by show _ ≤ w1.heap.size; omega) (.slice a3 ts.length q3))
  have HBlz := Lib.hid (HBl.out.set_ 2 (.slice a3 ts.length q3))
  have hO4 := hO3.far (p := ⟨w1.heap.size, 2, none⟩) (fun e => by
    rcases hloc3 with h | h
    · rw [h] at e; exact hne3 e
    · rw [h] at e; simp at e) (.slice a3 ts.length q3)
  obtain ⟨a', c', he, hle3, hNz⟩ := hO4.newRow
  injection he with e1 e2 e3
  subst e1 e3
  have HNz := Lib.hid (show NewRow (w.heap.size + 1 + 1 + 1 + 1) w3.heap.size (w3.setCell ⟨w1.heap.size, 2, none⟩ (.slice a3 ts.length q3)) a3 ts from by simpa using hNz)
  have hle3' : ts.length ≤ q3 := by simpa using hle3
  clear hO3 hG3 hloc3 hne3 x2 hO4 hNz e2 hle3
  go_wp2_with fail
  go_loopw [9, 10] (fun vs vi wr => ∃ (k : Nat) (av : Option Addr) (lv cv : Nat) (us : List Tm), k ≤ ys.length ∧ vi = .int .i64 k ∧ vs = .slice av lv cv ∧ scaledL a b (ys.take k) = some us ∧ lv = us.length ∧ OwnT wr w3.heap.size (.slice av lv cv) us ∧ Below w3.heap.size (w3.setCell ⟨w1.heap.size, 2, none⟩ (.slice a3 ts.length q3)) wr) (fun _ vi _ => ys.length - (intOf vi).toNat)
  case atStart =>
    clear n2 nf
    refine ⟨0, some ⟨w3.heap.size, 0, none⟩, 0, 0, [], Nat.zero_le _, rfl, rfl, rfl, rfl, OwnT.emptyRow (by have h := Blk.new (w3.setCell ⟨w1.heap.size, 2, none⟩ (.slice a3 ts.length q3)) 74 #[]; rwa [World.size_setCell] at h) (Nat.le_refl _), ?_⟩
    have h := below1 (w3.setCell ⟨w1.heap.size, 2, none⟩ (.slice a3 ts.length q3)) (.cells #[] 74)
    simpa using h
  case round =>
    clear n2 nf
    obtain ⟨k, av, lv, cv, us, hk, rfl, rfl, hsc, hlv, hO, hBr⟩ := hrel
    have HSc := Lib.hid hsc
    have HLv := Lib.hid hlv
    have HO := Lib.hid hO
    have HBr := Lib.hid hBr
    have hzr := hBr.size
    simp only [World.size_setCell] at hzr
    have hlb : lv ≤ 1048576 := by
      have h := scaledL_length hsc
      rw [List.length_take] at h
      omega
    clear hsc hlv hO hBr
    have HBa := Lib.hid (HBz.out.trans (HBr.out.mono (by omega)))
    have HW := Lib.hid (HW0.out.trans (HBa.out.mono (by omega)))
    have bc := bcellB HBa.out
    have y2 : wr.cell? ⟨w.heap.size + 1, 2, none⟩ = some (.slice a2 ys.length c2) := (bc.1 _ _ (by omega)).trans (by go_simp)
    have k0 : wr.cell? ⟨w.heap.size + 1 + 1, 0, none⟩ = some (.int .i64 a) := (bc.1 _ _ (by omega)).trans (by go_simp)
    have k1 : wr.cell? ⟨w.heap.size + 1 + 1, 1, none⟩ = some (.int .i64 b) := (bc.1 _ _ (by omega)).trans (by go_simp)
    clear bc
    by_cases hlt : k < ys.length
    · rcases HT2.out with hh | ⟨b2, o2, rfl, hb2, ht2⟩
      · rw [hh] at hlt; simp at hlt
      obtain ⟨c0, c1', c2'⟩ := ht2.below HW.out hb2 k hlt
      have HSn := Lib.hid (scaledL_snoc hlt HSc.out)
      have HDd := Lib.hid (scaledL_dead (a := a) (b := b) (ts := ys) (k + 1))
      have hbd := HD2.out _ (List.getElem_mem hlt)
      obtain ⟨s, n, d, het⟩ : ∃ s n d, ys[k] = ⟨s, n, d⟩ := ⟨_, _, _, rfl⟩
      rw [het] at c0 c1' c2' HSn hbd
      simp only at c0 c1' c2' HSn
      have hbd1 : n.natAbs ≤ 1000000000 := hbd.1
      have hbd2 : d.natAbs ≤ 1000000000 := hbd.2
      have hkI : (0 : Int) ≤ (k : Int) := by omega
      have hkL : (k : Int) < (ys.length : Int) := by omega
      have hb2r : b2 < wr.heap.size := by omega
      have hw1r : w.heap.size + 1 < wr.heap.size := by omega
      have hw2r : w.heap.size + 1 + 1 < wr.heap.size := by omega
      clear het hbd ht2
      go_upto_region 7 with fail
      go_cut [11, 12] (ScCut wr (fN (a * n) (b * d)) (fD (a * n) (b * d)) (fOk (a * n) (b * d)))
      case first =>
        go_region_held3 (fun w' => w'.cell? ⟨b2, o2 + k * 3 + 1, none⟩ = some (.int .i64 n) ∧ w'.cell? ⟨b2, o2 + k * 3 + 2, none⟩ = some (.int .i64 d) ∧ w'.cell? ⟨w.heap.size + 1 + 1, 0, none⟩ = some (.int .i64 a) ∧ w'.cell? ⟨w.heap.size + 1 + 1, 1, none⟩ = some (.int .i64 b) ∧ w'.cell? ⟨w.heap.size + 1, 2, none⟩ = some (.slice (some ⟨b2, o2, none⟩) ys.length c2))
          (first | exact ⟨f0, f1, f2, f3, f4⟩ | (rw [far_pair hb2r, far_pair hb2r, far_pair hw2r, far_pair hw2r, far_pair hw1r]; exact ⟨f0, f1, f2, f3, f4⟩) | go_keep)
          (first
            | (go_at_call 43; refine (l01TimesFrac_c a b n d ha hb hbd1 hbd2 wr.drew).mono ?_; rintro e w5 ⟨rfl, hb0⟩; have hb5 : Below wr.heap.size wr w5 := ⟨hb0.os, hb0.tape, hb0.output, hb0.size, hb0.block⟩; have f0 := (hb5.cell (p := ⟨b2, o2 + k * 3 + 1, none⟩) (by show b2 < _; omega)).trans c1'; have f1 := (hb5.cell (p := ⟨b2, o2 + k * 3 + 2, none⟩) (by show b2 < _; omega)).trans c2'; have f2 := (hb5.cell (p := ⟨w.heap.size + 1 + 1, 0, none⟩) (by show w.heap.size + 1 + 1 < _; omega)).trans k0; have f3 := (hb5.cell (p := ⟨w.heap.size + 1 + 1, 1, none⟩) (by show w.heap.size + 1 + 1 < _; omega)).trans k1; have f4 := (hb5.cell (p := ⟨w.heap.size + 1, 2, none⟩) (by show w.heap.size + 1 < _; omega)).trans y2)
            | (go_at_call 43; refine (l01TimesFrac_c a b n d ha hb hbd1 hbd2 (wr.alloc (.cells #[.int .i64 0, .int .i64 0] 44)).drew).mono ?_; rintro e w5 ⟨rfl, hb0⟩; have hb5 : Below wr.heap.size wr w5 := (below1 wr (.cells #[.int .i64 0, .int .i64 0] 44)).trans ⟨hb0.os, hb0.tape, hb0.output, hb0.size, fun j hj => hb0.block j (by simp; omega)⟩; have g0 : w5.cell? ⟨wr.heap.size, 0, none⟩ = some (.int .i64 0) := (hb0.cell (p := ⟨wr.heap.size, 0, none⟩) (by simp)).trans (by go_simp); have g1 : w5.cell? ⟨wr.heap.size, 1, none⟩ = some (.int .i64 0) := (hb0.cell (p := ⟨wr.heap.size, 1, none⟩) (by simp)).trans (by go_simp); have z2 : w5.frozen? ⟨wr.heap.size, 0, none⟩ = false := (hb0.frozen (p := ⟨wr.heap.size, 0, none⟩) (by simp)).trans (by go_simp); have z3 : w5.frozen? ⟨wr.heap.size, 1, none⟩ = false := (hb0.frozen (p := ⟨wr.heap.size, 1, none⟩) (by simp)).trans (by go_simp); have f0 := (hb5.cell (p := ⟨b2, o2 + k * 3 + 1, none⟩) (by show b2 < _; omega)).trans c1'; have f1 := (hb5.cell (p := ⟨b2, o2 + k * 3 + 2, none⟩) (by show b2 < _; omega)).trans c2'; have f2 := (hb5.cell (p := ⟨w.heap.size + 1 + 1, 0, none⟩) (by show w.heap.size + 1 + 1 < _; omega)).trans k0; have f3 := (hb5.cell (p := ⟨w.heap.size + 1 + 1, 1, none⟩) (by show w.heap.size + 1 + 1 < _; omega)).trans k1; have f4 := (hb5.cell (p := ⟨w.heap.size + 1, 2, none⟩) (by show w.heap.size + 1 < _; omega)).trans y2))
        all_goals (go_wp2_with fail; go_meet)
        · exact ⟨w5.heap.size, rfl, rfl, hb5.size, by simp, hb5.alloc hb5.size _, by go_simp, by go_simp⟩
        · have hp := pair_stored (x := .int .i64 (fN (a * n) (b * d))) (y := .int .i64 (fD (a * n) (b * d))) g0 g1
          have hz5 : wr.heap.size < w5.heap.size := by have := hb0.size; simp at this; omega
          exact ⟨wr.heap.size, rfl, rfl, Nat.le_refl _, by simpa using hz5, (hb5.setCell (p := ⟨wr.heap.size, 0, none⟩) (Nat.le_refl _) _).setCell (p := ⟨wr.heap.size, 1, none⟩) (Nat.le_refl _) _, hp.1, hp.2⟩
      case rest =>
        obtain ⟨g, rfl, rfl, hg1, hg2, hbc, g0, g1⟩ := hcut
        obtain ⟨w5, rfl⟩ : ∃ w5 : World, w5 = wc := ⟨_, rfl⟩
        have hz5 := hbc.size
        have bc := bcellB hbc
        have x3 : w5.cell? ⟨w.heap.size + 1, 2, none⟩ = some (.slice (some ⟨b2, o2, none⟩) ys.length c2) := (bc.1 _ _ hw1r).trans y2
        have d0 : w5.cell? ⟨b2, o2 + k * 3, none⟩ = some (.string s) := (bc.1 _ _ hb2r).trans c0
        have HO5 := Lib.hid (HO.out.below hbc (fun g h => (HO.out.lt g h).2))
        have HB5 := Lib.hid (HBr.out.trans (hbc.mono (by omega)))
        have HBb := Lib.hid (HBa.out.trans (hbc.mono (by omega)))
        have hz35 : w3.heap.size ≤ w5.heap.size := by omega
        clear bc hbc c0 c1' c2' y2 k0 k1
        cases hok : fOk (a * n) (b * d) with
        | false =>
          have HN : Hid (scaledL a b ys = none) := Lib.hid (HDd.out (by rw [HSn.out, if_neg (by rw [hok]; decide)]))
          have bc6 := bcellB HBb.out
          have e0 : w5.cell? ⟨w.heap.size + 1 + 1 + 1, 0, none⟩ = some (.int .i64 0) := (bc6.1 _ _ (by omega)).trans (by go_simp)
          have e1 : w5.cell? ⟨w.heap.size + 1 + 1 + 1, 1, none⟩ = some (.int .i64 0) := (bc6.1 _ _ (by omega)).trans (by go_simp)
          have e2 : w5.cell? ⟨w.heap.size + 1 + 1 + 1, 2, none⟩ = some (.slice none 0 0) := (bc6.1 _ _ (by omega)).trans (by go_simp)
          have r0 : w5.frozen? ⟨w.heap.size + 1 + 1 + 1, 0, none⟩ = false := (bc6.2 _ _ (by omega)).trans (by go_simp)
          have r1 : w5.frozen? ⟨w.heap.size + 1 + 1 + 1, 1, none⟩ = false := (bc6.2 _ _ (by omega)).trans (by go_simp)
          have r2 : w5.frozen? ⟨w.heap.size + 1 + 1 + 1, 2, none⟩ = false := (bc6.2 _ _ (by omega)).trans (by go_simp)
          clear bc6
          have HB6 := Lib.hid (HW0.out.trans (HBb.out.mono (by omega)))
          clear hok
          go_wp2_with fail
          rw [HN.out]
          refine bodyPost_ret (v := .tuple #[.agg #[.int .i64 0, .int .i64 0, .slice none 0 0], .bool false]) (by simp [results, Tryz.results19, go_sem, e0, e1, e2]) rfl ?_
          exact ⟨rfl, ((HB6.out.setCell (p := ⟨w.heap.size + 1 + 1 + 1, 0, none⟩) (by show _ ≤ w.heap.size + 1 + 1 + 1; omega) _).setCell (p := ⟨w.heap.size + 1 + 1 + 1, 1, none⟩) (by show _ ≤ w.heap.size + 1 + 1 + 1; omega) _).setCell (p := ⟨w.heap.size + 1 + 1 + 1, 2, none⟩) (by show _ ≤ w.heap.size + 1 + 1 + 1; omega) _⟩
        | true =>
          have HS2 := Lib.hid (show scaledL a b (ys.take (k + 1)) = some (us ++ [⟨s, fN (a * n) (b * d), fD (a * n) (b * d)⟩]) from by rw [HSn.out, if_pos hok])
          clear hok HSn HDd
          generalize fN (a * n) (b * d) = N at *
          generalize fD (a * n) (b * d) = D at *
          go_upto_region 10 with fail
          go_region_law
            ((refine step_append_lies _ (by rfl) _ _ _ (by rfl) w3.heap.size 74 i0 _ 3 32 Tryz.underlying24 hi0 hi1 hi2 hi3 rfl (by omega) (.slice av lv cv) lv (cellsT us) (by rfl) (by have h := HO5.out; unfold OwnT at h; rw [← HLv.out] at h; exact (h.alloc _).drew)
                ⟨w5.heap.size, 0, none⟩ 1 1 [.string s, .int .i64 N, .int .i64 D] (by rfl) (by rfl) (World.news_of_block (cs := #[.string s, .int .i64 N, .int .i64 D]) (t := 74) (fr := (0, 0)) (heap_alloc_new w5 _)) (by simp [Value.oneCell'])
                (by omega) (by unfold maxLen; omega) (by omega) (by simp; omega) (w5.heap.size + 1) (by simp) ?_; intro gg cg w6 hown1 hgrow hat hlt2))
          all_goals
            have HB7 := Lib.hid (HB5.out.trans ((Below.drew ((below1 w5 (.cells #[.string s, .int .i64 N, .int .i64 D] 74)).mono hz35)).trans (below_of_grown hgrow (fun g h => (HO5.out.lt g h).1) (by simp; omega))))
            have HO7 := Lib.hid (OwnT.one_more HLv.out hown1)
            clear hown1 hgrow hat
            go_wp2
            go_roundw
            case rel => exact ⟨k + 1, some ⟨gg, 0, none⟩, lv + 1, cg, _, by omega, by go_num, rfl, HS2.out, by rw [HLv.out, List.length_append]; rfl, HO7.out, HB7.out⟩
            case measure => simp [intOf]; omega
    · obtain rfl : k = ys.length := by omega
      have hge : ¬ (ys.length : Int) < (ys.length : Int) := by omega
      have HScA := Lib.hid (show scaledL a b ys = some us from by have h := HSc.out; rwa [List.take_length] at h)
      have HDu := Lib.hid (scaled_bd HScA.out)
      obtain ⟨a', c', he, hle, hNs⟩ := HO.out.newRow
      injection he with e1 e2 e3
      subst e1 e3
      have HNs := Lib.hid hNs
      have HBlr := Lib.hid (HBlz.out.below HBr.out (by omega))
      have HNr := Lib.hid ((HNz.out.below HBr.out (Nat.le_refl _)).mono (Nat.le_refl _) hzr)
      have hul : us.length ≤ 1048576 := by rw [← HLv.out]; exact hlb
      clear e2 hNs k0 k1
      go_wp2_with fail
      obtain ⟨wo, rfl⟩ : ∃ wo : World, wo = wr := ⟨_, rfl⟩
      go_loopw [13] (fun vi wr => ∃ (k : Nat) (xv : Option Addr) (lx cx : Nat) (xs : List Tm), k ≤ us.length ∧ vi = .int .i64 k ∧ putAll ts (us.take k) = some xs ∧ lx = xs.length ∧ lx ≤ cx ∧ NewRow (w.heap.size + 1 + 1 + 1 + 1) wr.heap.size wr xv xs ∧ Blk wr w1.heap.size 26 #[.int .i64 L, .int .i64 V, .slice xv lx cx] ∧ wo.grownBy wr (some w1.heap.size) ∧ (∀ t ∈ xs, bdT t)) (fun vi _ => us.length - (intOf vi).toNat)
      case atStart => exact ⟨0, a3, ts.length, q3, ts, Nat.zero_le _, rfl, rfl, rfl, hle3', HNr.out, HBlr.out, gr_below (Below.refl _ _), HD1.out⟩
      case round =>
        obtain ⟨k, xv, lx, cx, xs, hk, rfl, hpa, hlx, hlc, hN, hBl, hG, hbd⟩ := hrel
        have HPA := Lib.hid hpa
        have HLx := Lib.hid hlx
        have HN := Lib.hid hN
        have HBk := Lib.hid hBl
        have HG := Lib.hid hG
        have HBd := Lib.hid hbd
        have hzn := hBl.lt
        have hzq := hG.size
        have n2 : wr.cell? ⟨w1.heap.size, 2, none⟩ = some (.slice xv lx cx) := hBl.cell 2
        have nf : wr.frozen? ⟨w1.heap.size, 2, none⟩ = false := hBl.frozen 2
        have HBq := Lib.hid (HBa.out.trans (below_of_grown (B := w.heap.size + 1 + 1 + 1 + 1) hG (fun g e => by injection e with e; omega) (by omega)))
        have hlb2 : lx ≤ 2097152 := by
          have h := putAll_length hpa
          rw [List.length_take] at h
          omega
        clear hpa hlx hN hBl hG hbd
        by_cases hlt : k < us.length
        · rcases HNs.out with hh | ⟨gs, rfl, hgs1, hgs2, _, hts⟩
          · rw [hh] at hlt; simp at hlt
          have HPT := Lib.hid (putAll_take (ts := ts) hlt)
          have hby := HDu.out _ (List.getElem_mem hlt)
          obtain ⟨c0, c1', c2'⟩ := (hts.grown HG.out hgs2 (fun e => by injection e with e; omega)) k hlt
          obtain ⟨s, n, d, het⟩ : ∃ s n d, us[k] = ⟨s, n, d⟩ := ⟨_, _, _, rfl⟩
          rw [het] at c0 c1' c2' hby HPT
          simp only [Nat.zero_add] at c0 c1' c2' hby HPT
          clear het hts
          have hb1 := hby.1
          have hb2 := hby.2
          clear hby
          have hkI : (0 : Int) ≤ (k : Int) := by omega
          have hkL : (k : Int) < (us.length : Int) := by omega
          have hkL2 : (k : Int) < (lv : Int) := by rw [HLv.out]; exact hkL
          have hgq : gs < wr.heap.size := by omega
          go_upto_region 14 with fail
          have HC := l01Put_c xv lx cx xs HLx.out s n d ⟨hb1, hb2⟩ HBd.out hlb2 hlc wr.drew HN.out.row
          cases hp : putL xs ⟨s, n, d⟩ with
          | none =>
            rw [hp] at HC
            go_cut [14, 15] (fun s8 s9 wy => Below wr.heap.size wr wy ∧ s8 = .slice none 0 0 ∧ s9 = .bool false)
            case first =>
              go_region_held3 (fun w' => w'.cell? ⟨w1.heap.size, 2, none⟩ = some (.slice xv lx cx) ∧ w'.cell? ⟨gs, k * 3, none⟩ = some (.string s) ∧ w'.cell? ⟨gs, k * 3 + 1, none⟩ = some (.int .i64 n) ∧ w'.cell? ⟨gs, k * 3 + 2, none⟩ = some (.int .i64 d))
                (go_keep)
                ((go_at_call 44; refine HC.mono ?_; rintro e w5 ⟨rfl, hB5⟩; have bc := bcellB hB5; have z1 := (bc.1 _ 2 hzn).trans n2; have z2 := (bc.1 gs (k * 3) hgq).trans c0; have z3 := (bc.1 gs (k * 3 + 1) hgq).trans c1'; have z4 := (bc.1 gs (k * 3 + 2) hgq).trans c2'))
              all_goals (go_wp2_with fail; go_meet)
              exact ⟨⟨hB5.os, hB5.tape, hB5.output, hB5.size, hB5.block⟩, rfl, rfl⟩
            case rest =>
              obtain ⟨hbc, rfl, rfl⟩ := hcut
              obtain ⟨w6, rfl⟩ : ∃ w6 : World, w6 = wc := ⟨_, rfl⟩
              have hdead : putAll ts us = none := putAll_dead (k + 1) (by rw [HPT.out, HPA.out]; exact hp)
              have HN2 : Hid (((scaledL a b ys).bind fun us => putAll ts us) = none) := Lib.hid (by rw [HScA.out]; exact hdead)
              have HBb := Lib.hid (HBq.out.trans (hbc.mono (by omega)))
              have HB6 := Lib.hid (HW0.out.trans (HBb.out.mono (by omega)))
              have hz6 := hbc.size
              have bc6 := bcellB HBb.out
              have e0 : w6.cell? ⟨w.heap.size + 1 + 1 + 1, 0, none⟩ = some (.int .i64 0) := (bc6.1 _ _ (by omega)).trans (by go_simp)
              have e1 : w6.cell? ⟨w.heap.size + 1 + 1 + 1, 1, none⟩ = some (.int .i64 0) := (bc6.1 _ _ (by omega)).trans (by go_simp)
              have e2 : w6.cell? ⟨w.heap.size + 1 + 1 + 1, 2, none⟩ = some (.slice none 0 0) := (bc6.1 _ _ (by omega)).trans (by go_simp)
              have r0 : w6.frozen? ⟨w.heap.size + 1 + 1 + 1, 0, none⟩ = false := (bc6.2 _ _ (by omega)).trans (by go_simp)
              have r1 : w6.frozen? ⟨w.heap.size + 1 + 1 + 1, 1, none⟩ = false := (bc6.2 _ _ (by omega)).trans (by go_simp)
              have r2 : w6.frozen? ⟨w.heap.size + 1 + 1 + 1, 2, none⟩ = false := (bc6.2 _ _ (by omega)).trans (by go_simp)
              clear bc6
              clear hbc hdead hp HC
              go_wp2_with fail
              rw [HN2.out]
              refine bodyPost_ret (v := .tuple #[.agg #[.int .i64 0, .int .i64 0, .slice none 0 0], .bool false]) (by simp [results, Tryz.results19, go_sem, e0, e1, e2]) rfl ?_
              exact ⟨rfl, ((HB6.out.setCell (p := ⟨w.heap.size + 1 + 1 + 1, 0, none⟩) (by show _ ≤ w.heap.size + 1 + 1 + 1; omega) _).setCell (p := ⟨w.heap.size + 1 + 1 + 1, 1, none⟩) (by show _ ≤ w.heap.size + 1 + 1 + 1; omega) _).setCell (p := ⟨w.heap.size + 1 + 1 + 1, 2, none⟩) (by show _ ≤ w.heap.size + 1 + 1 + 1; omega) _⟩
          | some r =>
            rw [hp] at HC
            go_cut [14, 15] (fun s8 s9 wy => ∃ (a : Option Addr) (cap : Nat), Below wr.heap.size wr wy ∧ s8 = .slice a r.length cap ∧ s9 = .bool true ∧ r.length ≤ cap ∧ NewRow wr.heap.size wy.heap.size wy a r)
            case first =>
              go_region_held3 (fun w' => w'.cell? ⟨w1.heap.size, 2, none⟩ = some (.slice xv lx cx) ∧ w'.cell? ⟨gs, k * 3, none⟩ = some (.string s) ∧ w'.cell? ⟨gs, k * 3 + 1, none⟩ = some (.int .i64 n) ∧ w'.cell? ⟨gs, k * 3 + 2, none⟩ = some (.int .i64 d))
                (go_keep)
                ((go_at_call 44; refine HC.mono ?_; rintro e w5 ⟨a5, c5, rfl, hlc5, hB5, hN5⟩; have bc := bcellB hB5; have z1 := (bc.1 _ 2 hzn).trans n2; have z2 := (bc.1 gs (k * 3) hgq).trans c0; have z3 := (bc.1 gs (k * 3 + 1) hgq).trans c1'; have z4 := (bc.1 gs (k * 3 + 2) hgq).trans c2'))
              all_goals (go_wp2_with fail; go_meet)
              exact ⟨a5, c5, ⟨hB5.os, hB5.tape, hB5.output, hB5.size, hB5.block⟩, rfl, rfl, hlc5, hN5⟩
            case rest =>
              obtain ⟨a5, c5, hbc, rfl, rfl, hlc5, hN5⟩ := hcut
              obtain ⟨w6, rfl⟩ : ∃ w6 : World, w6 = wc := ⟨_, rfl⟩
              have hsz := hbc.size
              have bc := bcellB hbc
              have n6 : w6.cell? ⟨w1.heap.size, 2, none⟩ = some (.slice xv lx cx) := (bc.1 _ _ hzn).trans n2
              have nf6 : w6.frozen? ⟨w1.heap.size, 2, none⟩ = false := (bc.2 _ _ hzn).trans nf
              clear bc
              go_wp2_with fail
              have hN6 := (hN5.far1s (n := w1.heap.size) (i := 2) (x := .slice a5 r.length c5) hzn).mono (show w.heap.size + 1 + 1 + 1 + 1 ≤ _ by omega) (show _ ≤ (w6.setCell ⟨w1.heap.size, 2, none⟩ (.slice a5 r.length c5)).heap.size by simp)
              refine ⟨⟨k + 1, a5, r.length, c5, r, by omega, by first | rfl | simp, by rw [HPT.out, HPA.out]; exact hp, rfl, hlc5, hN6, (HBk.out.below hbc hzn).set_ 2 _, gr_trans HG.out (gr_trans (gr_below hbc) (gr_set w6 w1.heap.size 2 _)), putL_bd ⟨hb1, hb2⟩ HBd.out hp⟩, ?_⟩
              show us.length - ((k : Int) + 1).toNat < us.length - ((k : Int)).toNat
              omega
        · have hge2 : ¬ (k : Int) < (us.length : Int) := by omega
          have hge3 : ¬ (k : Int) < (lv : Int) := by rw [HLv.out]; exact hge2
          have bc6 := bcellB HBq.out
          have e0 : wr.cell? ⟨w.heap.size + 1 + 1 + 1, 0, none⟩ = some (.int .i64 0) := (bc6.1 _ _ (by omega)).trans (by go_simp)
          have e1 : wr.cell? ⟨w.heap.size + 1 + 1 + 1, 1, none⟩ = some (.int .i64 0) := (bc6.1 _ _ (by omega)).trans (by go_simp)
          have e2 : wr.cell? ⟨w.heap.size + 1 + 1 + 1, 2, none⟩ = some (.slice none 0 0) := (bc6.1 _ _ (by omega)).trans (by go_simp)
          have r0 : wr.frozen? ⟨w.heap.size + 1 + 1 + 1, 0, none⟩ = false := (bc6.2 _ _ (by omega)).trans (by go_simp)
          have r1 : wr.frozen? ⟨w.heap.size + 1 + 1 + 1, 1, none⟩ = false := (bc6.2 _ _ (by omega)).trans (by go_simp)
          have r2 : wr.frozen? ⟨w.heap.size + 1 + 1 + 1, 2, none⟩ = false := (bc6.2 _ _ (by omega)).trans (by go_simp)
          clear bc6
          have m0 : wr.cell? ⟨w1.heap.size, 0, none⟩ = some (.int .i64 L) := HBk.out.cell 0
          have m1 : wr.cell? ⟨w1.heap.size, 1, none⟩ = some (.int .i64 V) := HBk.out.cell 1
          have HB6 := Lib.hid (HW0.out.trans (HBq.out.mono (by omega)))
          have HPB : Hid (((scaledL a b ys).bind fun us => putAll ts us) = some xs) := Lib.hid (by rw [HScA.out]; show putAll ts us = some xs; rw [← HPA.out, List.take_of_length_le (by omega)])
          go_wp2_with fail
          rw [HPB.out]
          refine bodyPost_ret (v := .tuple #[.agg #[.int .i64 L, .int .i64 V, .slice xv xs.length cx], .bool true]) (by rw [← HLx.out]; simp [results, Tryz.results19, go_sem, e0, e1, e2]) rfl ?_
          exact ⟨xv, cx, rfl, ((HB6.out.setCell (p := ⟨w.heap.size + 1 + 1 + 1, 0, none⟩) (by show _ ≤ w.heap.size + 1 + 1 + 1; omega) _).setCell (p := ⟨w.heap.size + 1 + 1 + 1, 1, none⟩) (by show _ ≤ w.heap.size + 1 + 1 + 1; omega) _).setCell (p := ⟨w.heap.size + 1 + 1 + 1, 2, none⟩) (by show _ ≤ w.heap.size + 1 + 1 + 1; omega) _, (((HN.out.far1s (by omega)).far1s (by omega)).far1s (by omega)).mono (by omega) (by simp)⟩
end Go.Proofs.YteljpgoaaelbfaaGreatDoor

namespace Go.Proofs.YteljpgoaaelbfaaGreatDoor
open Go.RowKit

/-- what adding to a map of values comes to -/
def AddPost (r : Option VF) (b n : Nat) (W : World) (e : Ending) (w' : World) : Prop :=
  match r with
  | none => e = .panicked [misP 3] ∧ W.grownBy w' (some b)
  | some h => e = .returned (.tuple #[]) ∧ MapV w' b n h ∧ W.grownBy w' (some b)
theorem gr_cell {w w' : World} {b n i : Nat} (h : w.grownBy w' (some b)) (hn : n < w.heap.size) (hne : n ≠ b) : w'.cell? ⟨n, i, none⟩ = w.cell? ⟨n, i, none⟩ := World.cell?_of_block (h.block n hn (fun e => by injection e with e; exact hne e))
theorem SRow.grown {w w' : World} {a : Option Addr} {ss : List ByteArray} {b : Nat} (h : SRow w a ss) (hg : w.grownBy w' (some b)) (hb : ∀ p, a = some p → p.block ≠ b) : SRow w' a ss := by
  rcases h with h | ⟨c, o, h1, h2, h3⟩
  · exact .inl h
  · exact .inr ⟨c, o, h1, Nat.lt_of_lt_of_le h2 hg.size, fun i hi => (gr_cell hg h2 (hb _ h1)).trans (h3 i hi)⟩

set_option maxRecDepth 100000 in
set_option maxHeartbeats 8000000 in
theorem addMultiple_c (L V : Int) (A : Option Addr) (cap : Nat) (ws : List ByteArray) (hl : ws.length ≤ 100000) (hs : ∀ s ∈ ws, s.size ≤ 1000) (f g : VF) (hf : GoodV ws f) (hg : ∀ s p, g s = some p → isF p.1 p.2 = true) (a b : Int) (ha : isF a b = true) (bs n bx m : Nat) (hn : n ≤ 900000) (hne : bx ≠ bs) (w : World) (hr : SRow w A ws) (hA : ∀ p, A = some p → p.block ≠ bs) (m1 : MapV w bs n f) (m2 : MapV w bx m g) :
    Calls Tryz.prog 30 #[.agg #[.int .i64 L, .int .i64 V, .slice A ws.length cap], .map (some bs), .map (some bx), .agg #[.int .i64 a, .int .i64 b]] w (AddPost (addK g a b ws f) bs (n + ws.length) w) := by
  have HR := Lib.hid hr
  have HA := Lib.hid hA
  have HS := Lib.hid hs
  have HF2 := Lib.hid hg
  have HGd := Lib.hid hf
  have HI := Lib.hid ha
  have HM1 := Lib.hid m1
  have HM2 := Lib.hid m2
  have hb1 := m1.lt
  have hb2 := m2.lt
  have HNe := Lib.hid hne
  clear hr hA hs hf hg ha m1 m2 hne
  go_enter Tryz.func30, Tryz.ntmps30
  go_wp2_with fail
  go_loopw [15] (fun vi wr => ∃ (k : Nat) (h : VF), k ≤ ws.length ∧ vi = .int .i64 k ∧ addK g a b (ws.take k) f = some h ∧ GoodV ws h ∧ MapV wr bs (n + k) h ∧ w.grownBy wr (some bs) ∧ wr.cell? ⟨w.heap.size + 1, 0, none⟩ = some (.int .i64 a) ∧ wr.cell? ⟨w.heap.size + 1, 1, none⟩ = some (.int .i64 b) ∧ w.heap.size + 1 < wr.heap.size) (fun vi _ => ws.length - (intOf vi).toNat)
  case atStart => exact ⟨0, f, Nat.zero_le _, rfl, rfl, HGd.out, (HM1.out.alloc _).alloc _, gr_below (below2 _ _ _), by go_simp, by go_simp, by simp⟩
  case round =>
    obtain ⟨k, h, hk, rfl, hP, hG, hM, hB, d0, d1, hzr⟩ := hrel
    have HP := Lib.hid hP
    have HG := Lib.hid hG
    have HM := Lib.hid hM
    have HB := Lib.hid hB
    have hbs := hM.lt
    have hzw := hB.size
    clear hP hG hM hB
    by_cases hlt : k < ws.length
    · rcases HR.out with hh | ⟨b0, off, rfl, hb0, ht⟩
      · rw [hh] at hlt; simp at hlt
      have hb0s : b0 ≠ bs := HA.out _ rfl
      have c0 := (gr_cell (i := off + k) HB.out hb0 hb0s).trans (ht k hlt)
      have hsz := HS.out _ (List.getElem_mem hlt)
      have HSn := Lib.hid (addK_snoc hlt HP.out)
      have HDd := Lib.hid (addK_dead (ws := ws) (f := f) (g := g) (a := a) (b := b) (k + 1))
      have HIn := Lib.hid (List.getElem_mem hlt)
      obtain ⟨s, hse⟩ : ∃ s, ws[k] = s := ⟨_, rfl⟩
      rw [hse] at c0 hsz HSn HIn
      have hsm : s.size ≤ maxLen := by unfold maxLen; omega
      have HMx := Lib.hid (HM2.out.grown HB.out (fun e => HNe.out (by injection e)))
      clear hse ht
      cases hgs : g s with
      | none =>
        have HGs := Lib.hid hgs
        have HStep := Lib.hid (HSn.out.trans (addStep_none hgs))
        clear hgs
        go_wp2_with (at_lookup; refine wpList_lookV rfl _ _ rfl rfl HMx.out s rfl hsm ?_; rw [HGs.out]; simp only [lookV])
        go_roundw
        case rel => exact ⟨k + 1, h, by omega, by go_num, HStep.out, HG.out, (HM.out.alloc _).mono (by omega), gr_trans HB.out (gr_below (below1 _ _)), (World.cell?_alloc_past _ _ _ hzr).trans d0, (World.cell?_alloc_past _ _ _ hzr).trans d1, by simp; omega⟩
        case measure => simp [intOf]; omega
      | some v =>
        obtain ⟨x, d⟩ := v
        have HGs := Lib.hid hgs
        have HStep := Lib.hid (HSn.out.trans (addStep_some hgs))
        have HIx := Lib.hid (HF2.out _ _ hgs)
        have HIv := Lib.hid (valF_isF HG.out s)
        clear hgs
        obtain ⟨p, q, hpq⟩ : ∃ p q, valF h s = (p, q) := ⟨_, _, rfl⟩
        rw [hpq] at HIv HStep
        have HPQ := Lib.hid hpq
        have HAp := Lib.hid (apR_apS p q x d a b)
        have hzr1 : w.heap.size + 1 < wr.heap.size := hzr
        have hn1 : w.heap.size + 1 ≠ bs := by omega
        have hn2 : wr.heap.size ≠ bs := by omega
        clear hpq
        go_upto_region 6 with (at_lookup; refine wpList_lookV rfl _ _ rfl rfl HMx.out s rfl hsm ?_; rw [HGs.out]; simp only [lookV])
        have e0 := (World.cell?_alloc_past (.cells #[.int .i64 x, .int .i64 d] 44) _ _ hzr1).trans d0
        have e1 := (World.cell?_alloc_past (.cells #[.int .i64 x, .int .i64 d] 44) _ _ hzr1).trans d1
        have e2 : (wr.alloc (.cells #[.int .i64 x, .int .i64 d] 44)).cell? ⟨wr.heap.size, 0, none⟩ = some (.int .i64 x) := by go_simp
        have e3 : (wr.alloc (.cells #[.int .i64 x, .int .i64 d] 44)).cell? ⟨wr.heap.size, 1, none⟩ = some (.int .i64 d) := by go_simp
        have HMa := Lib.hid (HM.out.alloc (.cells #[.int .i64 x, .int .i64 d] 44))
        have HB1 := Lib.hid (gr_trans HB.out (gr_below (below1 wr (.cells #[.int .i64 x, .int .i64 d] 44))))
        have hz1 : (wr.alloc (.cells #[.int .i64 x, .int .i64 d] 44)).heap.size = wr.heap.size + 1 := by simp
        generalize wr.alloc (.cells #[.int .i64 x, .int .i64 d] 44) = wa at *
        have hbsa : bs < wa.heap.size := by omega
        cases hr : apS p q x d a b with
        | none =>
          rw [hr] at HAp HStep
          simp only at HAp
          have HDn := Lib.hid (HDd.out HStep.out)
          clear hr
          go_region_held2 (fun w' => w'.cell? ⟨w.heap.size + 1, 0, none⟩ = some (.int .i64 a) ∧ w'.cell? ⟨w.heap.size + 1, 1, none⟩ = some (.int .i64 b) ∧ w'.cell? ⟨wr.heap.size, 0, none⟩ = some (.int .i64 x) ∧ w'.cell? ⟨wr.heap.size, 1, none⟩ = some (.int .i64 d))
            (first | exact ⟨z0, z1, z2, z3⟩ | exact ⟨e0, e1, e2, e3⟩ | go_keep)
            (first
              | (go_at_call 59; refine (at_c bs (n + k) h s hsm wa.drew HMa.out).mono ?_; rw [HPQ.out]; rintro e w2 ⟨rfl, hb0⟩; have hb2 : Below wa.heap.size wa w2 := ⟨hb0.os, hb0.tape, hb0.output, hb0.size, hb0.block⟩; have z0 := (hb2.cell (p := ⟨w.heap.size + 1, 0, none⟩) (by show w.heap.size + 1 < _; omega)).trans e0; have z1 := (hb2.cell (p := ⟨w.heap.size + 1, 1, none⟩) (by show w.heap.size + 1 < _; omega)).trans e1; have z2 := (hb2.cell (p := ⟨wr.heap.size, 0, none⟩) (by show wr.heap.size < _; omega)).trans e2; have z3 := (hb2.cell (p := ⟨wr.heap.size, 1, none⟩) (by show wr.heap.size < _; omega)).trans e3)
              | (go_at_call 58; refine (addProduct_c p q x d a b HIv.out HIx.out HI.out _).mono ?_; rw [HAp.out]; rintro e w3 ⟨rfl, hb3⟩; have hb3' := hb2.trans (hb3.mono hb2.size); have z0 := (hb3'.cell (p := ⟨w.heap.size + 1, 0, none⟩) (by show w.heap.size + 1 < _; omega)).trans e0; have z1 := (hb3'.cell (p := ⟨w.heap.size + 1, 1, none⟩) (by show w.heap.size + 1 < _; omega)).trans e1; have z2 := (hb3'.cell (p := ⟨wr.heap.size, 0, none⟩) (by show wr.heap.size < _; omega)).trans e2; have z3 := (hb3'.cell (p := ⟨wr.heap.size, 1, none⟩) (by show wr.heap.size < _; omega)).trans e3)
              | (go_at_call 57; refine fitting_dead 0 0 _ _ (fun w4 hb4 => ⟨rfl, by rw [HDn.out]; exact ⟨rfl, gr_trans HB1.out (gr_below (hb3'.trans (hb4.mono hb3'.size)))⟩⟩) ?_; intro hF)
              | (go_at_call 56; refine dead_call hF (.tuple #[]) ?_)
              | fail)
          all_goals exact hF.out.elim
        | some r =>
          obtain ⟨r1, r2⟩ := r
          rw [hr] at HAp HStep
          simp only at HAp
          have HIr := Lib.hid (show isF r1 r2 = true from apS_isF hr)
          clear hr
          go_region_held3 (fun w' => w'.cell? ⟨w.heap.size + 1, 0, none⟩ = some (.int .i64 a) ∧ w'.cell? ⟨w.heap.size + 1, 1, none⟩ = some (.int .i64 b) ∧ w'.cell? ⟨wr.heap.size, 0, none⟩ = some (.int .i64 x) ∧ w'.cell? ⟨wr.heap.size, 1, none⟩ = some (.int .i64 d))
            (first | exact ⟨z0, z1, z2, z3⟩ | exact ⟨e0, e1, e2, e3⟩ | go_keep)
            (first
              | (go_at_call 59; refine (at_c bs (n + k) h s hsm wa.drew HMa.out).mono ?_; rw [HPQ.out]; rintro e w2 ⟨rfl, hb0⟩; have hb2 : Below wa.heap.size wa w2 := ⟨hb0.os, hb0.tape, hb0.output, hb0.size, hb0.block⟩; have z0 := (hb2.cell (p := ⟨w.heap.size + 1, 0, none⟩) (by show w.heap.size + 1 < _; omega)).trans e0; have z1 := (hb2.cell (p := ⟨w.heap.size + 1, 1, none⟩) (by show w.heap.size + 1 < _; omega)).trans e1; have z2 := (hb2.cell (p := ⟨wr.heap.size, 0, none⟩) (by show wr.heap.size < _; omega)).trans e2; have z3 := (hb2.cell (p := ⟨wr.heap.size, 1, none⟩) (by show wr.heap.size < _; omega)).trans e3)
              | (go_at_call 58; refine (addProduct_c p q x d a b HIv.out HIx.out HI.out _).mono ?_; rw [HAp.out]; rintro e w3 ⟨rfl, hb3⟩; have hb3' := hb2.trans (hb3.mono hb2.size); have z0 := (hb3'.cell (p := ⟨w.heap.size + 1, 0, none⟩) (by show w.heap.size + 1 < _; omega)).trans e0; have z1 := (hb3'.cell (p := ⟨w.heap.size + 1, 1, none⟩) (by show w.heap.size + 1 < _; omega)).trans e1; have z2 := (hb3'.cell (p := ⟨wr.heap.size, 0, none⟩) (by show wr.heap.size < _; omega)).trans e2; have z3 := (hb3'.cell (p := ⟨wr.heap.size, 1, none⟩) (by show wr.heap.size < _; omega)).trans e3)
              | (go_at_call 57; refine (fitting_ok r1 r2 _).mono ?_; rintro e w4 ⟨rfl, hb4⟩; have hb4' := hb3'.trans (hb4.mono hb3'.size); have z0 := (hb4'.cell (p := ⟨w.heap.size + 1, 0, none⟩) (by show w.heap.size + 1 < _; omega)).trans e0; have z1 := (hb4'.cell (p := ⟨w.heap.size + 1, 1, none⟩) (by show w.heap.size + 1 < _; omega)).trans e1; have z2 := (hb4'.cell (p := ⟨wr.heap.size, 0, none⟩) (by show wr.heap.size < _; omega)).trans e2; have z3 := (hb4'.cell (p := ⟨wr.heap.size, 1, none⟩) (by show wr.heap.size < _; omega)).trans e3)
              | (go_at_call 56; refine (put_c bs (n + k) h s r1 r2 HIr.out (by omega) hsm _ (HMa.out.below hb4' hbsa)).mono ?_; rintro e w5 ⟨rfl, hM5, hG5⟩; have z0 := (gr_cell (i := 0) hG5 (by have := hb4'.size; omega) hn1).trans z0; have z1 := (gr_cell (i := 1) hG5 (by have := hb4'.size; omega) hn1).trans z1; have z2 := (gr_cell (i := 0) hG5 (by have := hb4'.size; omega) hn2).trans z2; have z3 := (gr_cell (i := 1) hG5 (by have := hb4'.size; omega) hn2).trans z3)
              | fail)
          all_goals
            have HM5 := Lib.hid hM5
            have HG5 := Lib.hid (gr_trans HB1.out (gr_trans (gr_below hb4') hG5))
            have hz5 := hG5.size
            have hz4 := hb4'.size
            have y0 := z0
            have y1 := z1
            clear hM5 hG5 e0 e1 e2 e3 c0 z0 z1 z2 z3
            go_wp2
            go_roundw
            case rel => exact ⟨k + 1, setF h s (nzF (r1, r2)), by omega, by go_num, HStep.out, HG.out.set_ HIn.out HIr.out, HM5.out, HG5.out, y0, y1, by omega⟩
            case measure => simp [intOf]; omega
    · obtain rfl : k = ws.length := by omega
      have hP := HP.out
      rw [List.take_length] at hP
      have HV := Lib.hid hP
      clear hP
      go_wp2
      rw [HV.out]
      first | go_end0 | refine bodyPost_ret (results_none rfl _ _ _) rfl ?_
      exact ⟨rfl, HM.out, HB.out⟩
end Go.Proofs.YteljpgoaaelbfaaGreatDoor
