/-
  Plain mathematics: what the Dynkin map makes of a series' terms, one by one.
  Plain mathematics: the sum of the brackets of coordinates, one by one; over the terms and over all Lyndon words it is the same.
-/
import Derived.Test.YtgcjpenlcokgjaaGreatDoorBvM
namespace Go.Proofs.YtgcjpenlcokgjaaGreatDoor
open Go.RowKit

/-- a term's share: its value divided by its letters -/
def shN (t : Tm) : Int := fN (t.n * 1) (t.d * (t.s.size : Int))
def shD (t : Tm) : Int := fD (t.n * 1) (t.d * (t.s.size : Int))
def shOk (t : Tm) : Bool := fOk (t.n * 1) (t.d * (t.s.size : Int))
def dynOne (ws : List ByteArray) (t : Tm) (f : VF) : Option VF := if shOk t = true then (leftW ws t.s).bind fun g => addK g (shN t) (shD t) ws f else none
def dynTo (ws : List ByteArray) (ts : List Tm) : Nat → Option VF
  | 0 => some fun _ => none
  | k + 1 => (dynTo ws ts k).bind fun f => match ts[k]? with
    | none => some f
    | some t => if t.s.size = 0 then some f else dynOne ws t f
def dynV (ws : List ByteArray) (ts : List Tm) : Option VF := dynTo ws ts ts.length
theorem dyn_skip {ws : List ByteArray} {ts : List Tm} {k : Nat} {f : VF} (hk : k < ts.length) (h0 : (ts[k]).s.size = 0) (h : dynTo ws ts k = some f) : dynTo ws ts (k + 1) = some f := by
  rw [dynTo, h, Option.bind_some, List.getElem?_eq_getElem hk]
  simp only
  rw [if_pos h0]
theorem dyn_next {ws : List ByteArray} {ts : List Tm} {k : Nat} {f : VF} (hk : k < ts.length) (h0 : ¬ (ts[k]).s.size = 0) (h : dynTo ws ts k = some f) : dynTo ws ts (k + 1) = dynOne ws ts[k] f := by
  rw [dynTo, h, Option.bind_some, List.getElem?_eq_getElem hk]
  simp only
  rw [if_neg h0]
theorem dyn_dead {ws : List ByteArray} {ts : List Tm} {k : Nat} (h : dynTo ws ts k = none) : ∀ {m : Nat}, k ≤ m → dynTo ws ts m = none
  | 0, hm => by
    obtain rfl : k = 0 := by omega
    exact h
  | m + 1, hm => by
    by_cases e : k = m + 1
    · rw [← e]; exact h
    · rw [dynTo, dyn_dead h (show k ≤ m by omega)]; rfl
theorem dyn_first {ws : List ByteArray} {ts : List Tm} : ∀ k : Nat, (∀ j (h : j < ts.length), j < k → (ts[j]).s.size = 0) → dynTo ws ts k = some fun _ => none
  | 0, _ => rfl
  | k + 1, h => by
    have ih := dyn_first (ws := ws) k (fun j hj hjk => h j hj (by omega))
    by_cases hk : k < ts.length
    · exact dyn_skip hk (h k hk (by omega)) ih
    · rw [dynTo, ih, Option.bind_some, List.getElem?_eq_none (by omega)]
theorem one_bad {ws : List ByteArray} {t : Tm} {f : VF} (h : shOk t = false) : dynOne ws t f = none := by unfold dynOne; rw [h]; rfl
theorem one_none {ws : List ByteArray} {t : Tm} {f : VF} (h : leftW ws t.s = none) : dynOne ws t f = none := by
  unfold dynOne
  rw [h]
  split <;> rfl
theorem one_some {ws : List ByteArray} {t : Tm} {f g : VF} (h : shOk t = true) (h2 : leftW ws t.s = some g) : dynOne ws t f = addK g (shN t) (shD t) ws f := by
  unfold dynOne
  rw [h, h2]
  rfl
theorem good_nil (ws : List ByteArray) : GoodV ws (fun _ => none) := GoodV.none ws
theorem dyn_good {ws : List ByteArray} {ts : List Tm} : ∀ {k : Nat} {f : VF}, dynTo ws ts k = some f → GoodV ws f
  | 0, f, h => by
    injection h with h
    subst h
    exact GoodV.none _
  | k + 1, f, h => by
    rw [dynTo] at h
    obtain ⟨g, h1, h2⟩ := Option.bind_eq_some_iff.1 h
    have hg := dyn_good h1
    split at h2
    · injection h2 with h2
      subst h2
      exact hg
    · split at h2
      · injection h2 with h2
        subst h2
        exact hg
      · unfold dynOne at h2
        split at h2
        · obtain ⟨g2, _, h4⟩ := Option.bind_eq_some_iff.1 h2
          exact hg.addK (fun _ h => h) h4
        · cases h2
theorem sh_isF {t : Tm} (h : shOk t = true) : isF (shN t) (shD t) = true := fOk_isFp h
theorem allW_121 : ∀ D, 1 ≤ D → D ≤ 3 → ∀ N, N ≤ 5 → (D < 3 ∨ N ≤ 4) → (allW D N).length ≤ 121
  | 1, _, _, N, h, _ => by
    match N, h with
    | 0, _ | 1, _ | 2, _ | 3, _ | 4, _ | 5, _ => decide +kernel
  | 2, _, _, N, h, _ => by
    match N, h with
    | 0, _ | 1, _ | 2, _ | 3, _ | 4, _ | 5, _ => decide +kernel
  | 3, _, _, N, h, h4 => by
    match N, h4 with
    | 0, _ | 1, _ | 2, _ | 3, _ | 4, _ => decide +kernel
theorem few_ser {D N : Nat} {ts : List Tm} (h : serB D N ts = true) : ts.length ≤ 121 := by
  have hsh : shapeB (D : Int) (N : Int) = true := by unfold serB at h; rw [Bool.and_eq_true] at h; exact h.1
  have hD := shape_out hsh
  have e := (good_valV h).2
  have h1 := termsOf_len (valV ts ts.length) (allW D N)
  rw [e] at h1
  exact Nat.le_trans h1 (allW_121 D (by omega) (by omega) N (by omega) (by omega))
end Go.Proofs.YtgcjpenlcokgjaaGreatDoor

namespace Go.Proofs.YtgcjpenlcokgjaaGreatDoor
open Go.RowKit

open Classical in
/-- the values of a word's bracket -/
noncomputable def bW (ws : List ByteArray) (s : ByteArray) : Option VF := if h : ∃ b, BrkOf s b then brkV ws h.choose else none
theorem bW_is (ws : List ByteArray) {s : ByteArray} (h1 : 1 ≤ s.size) : ∃ b, BrkOf s b ∧ bW ws s = brkV ws b := by
  have h : ∃ b, BrkOf s b := brk_is s.size s (Nat.le_refl _) h1
  exact ⟨h.choose, h.choose_spec, by unfold bW; rw [dif_pos h]⟩
noncomputable def sumOne (ws : List ByteArray) (t : Tm) (f : VF) : Option VF := (bW ws t.s).bind fun g => addK g t.n t.d ws f
noncomputable def serTo (ws : List ByteArray) (ts : List Tm) : Nat → Option VF
  | 0 => some fun _ => none
  | k + 1 => (serTo ws ts k).bind fun f => match ts[k]? with
    | none => some f
    | some t => sumOne ws t f
noncomputable def serW (ws : List ByteArray) (ts : List Tm) : Option VF := serTo ws ts ts.length
theorem ser_next {ws : List ByteArray} {ts : List Tm} {k : Nat} {f : VF} (hk : k < ts.length) (h : serTo ws ts k = some f) : serTo ws ts (k + 1) = sumOne ws ts[k] f := by
  rw [serTo, h, Option.bind_some, List.getElem?_eq_getElem hk]
theorem ser_dead {ws : List ByteArray} {ts : List Tm} {k : Nat} (h : serTo ws ts k = none) : ∀ {m : Nat}, k ≤ m → serTo ws ts m = none
  | 0, hm => by
    obtain rfl : k = 0 := by omega
    exact h
  | m + 1, hm => by
    by_cases e : k = m + 1
    · rw [← e]; exact h
    · rw [serTo, ser_dead h (show k ≤ m by omega)]; rfl
theorem sum_none {ws : List ByteArray} {t : Tm} {f : VF} (h : bW ws t.s = none) : sumOne ws t f = none := by
  unfold sumOne
  rw [h]
  rfl
theorem sum_some {ws : List ByteArray} {t : Tm} {f g : VF} (h : bW ws t.s = some g) : sumOne ws t f = addK g t.n t.d ws f := by
  unfold sumOne
  rw [h]
  rfl
theorem ser_good {ws : List ByteArray} {ts : List Tm} : ∀ {k : Nat} {f : VF}, serTo ws ts k = some f → GoodV ws f
  | 0, f, h => by
    injection h with h
    subst h
    exact GoodV.none _
  | k + 1, f, h => by
    rw [serTo] at h
    obtain ⟨g, h1, h2⟩ := Option.bind_eq_some_iff.1 h
    have hg := ser_good h1
    split at h2
    · injection h2 with h2
      subst h2
      exact hg
    · unfold sumOne at h2
      obtain ⟨g2, _, h4⟩ := Option.bind_eq_some_iff.1 h2
      exact hg.addK (fun _ h => h) h4
/-- the same, word by word: of each word of a list whose value is found -/
noncomputable def crdTo (ws : List ByteArray) (v : VF) (l : List ByteArray) : Nat → Option VF
  | 0 => some fun _ => none
  | k + 1 => (crdTo ws v l k).bind fun f => match l[k]? with
    | none => some f
    | some s => match v s with
      | none => some f
      | some p => sumOne ws ⟨s, p.1, p.2⟩ f
theorem crd_skip {ws : List ByteArray} {v : VF} {l : List ByteArray} {k : Nat} {f : VF} (hk : k < l.length) (hv : v l[k] = none) (h : crdTo ws v l k = some f) : crdTo ws v l (k + 1) = some f := by
  rw [crdTo, h, Option.bind_some, List.getElem?_eq_getElem hk]
  simp only [hv]
theorem crd_next {ws : List ByteArray} {v : VF} {l : List ByteArray} {k : Nat} {f : VF} {p : Int × Int} (hk : k < l.length) (hv : v l[k] = some p) (h : crdTo ws v l k = some f) : crdTo ws v l (k + 1) = sumOne ws ⟨l[k], p.1, p.2⟩ f := by
  rw [crdTo, h, Option.bind_some, List.getElem?_eq_getElem hk]
  simp only [hv]
theorem crd_dead {ws : List ByteArray} {v : VF} {l : List ByteArray} {k : Nat} (h : crdTo ws v l k = none) : ∀ {m : Nat}, k ≤ m → crdTo ws v l m = none
  | 0, hm => by
    obtain rfl : k = 0 := by omega
    exact h
  | m + 1, hm => by
    by_cases e : k = m + 1
    · rw [← e]; exact h
    · rw [crdTo, crd_dead h (show k ≤ m by omega)]; rfl
theorem crd_serTo {ws : List ByteArray} {v : VF} {l : List ByteArray} : ∀ k, k ≤ l.length → crdTo ws v l k = serTo ws (termsOf v l) (termsOf v (l.take k)).length
  | 0, _ => by rw [List.take_zero]; rfl
  | k + 1, hk => by
    have ih := crd_serTo (ws := ws) (v := v) (l := l) k (by omega)
    have hlt : k < l.length := by omega
    have ht := termsOf_take (f := v) hlt
    have hall : termsOf v l = termsOf v (l.take (k + 1)) ++ termsOf v (l.drop (k + 1)) := by rw [← termsOf_app, List.take_append_drop]
    rw [crdTo, List.getElem?_eq_getElem hlt, ih]
    cases hv : v l[k] with
    | none =>
      rw [ht, hv, List.append_nil]
      cases serTo ws (termsOf v l) (termsOf v (l.take k)).length with
      | none => rfl
      | some f => simp only [Option.bind_some, hv]
    | some p =>
      have hm : (termsOf v l)[(termsOf v (l.take k)).length]? = some ⟨l[k], p.1, p.2⟩ := by
        rw [hall, ht, hv, List.append_assoc, List.getElem?_append_right (Nat.le_refl _), Nat.sub_self]
        rfl
      have hlen : (termsOf v (l.take (k + 1))).length = (termsOf v (l.take k)).length + 1 := by
        rw [ht, hv, List.length_append]
        rfl
      rw [hlen]
      show _ = (serTo ws (termsOf v l) (termsOf v (l.take k)).length).bind _
      rw [hm]
      simp only [hv]
theorem crd_ser {ws : List ByteArray} {v : VF} {l : List ByteArray} : crdTo ws v l l.length = serW ws (termsOf v l) := by
  rw [crd_serTo l.length (Nat.le_refl _), List.take_length]
  rfl
theorem termsOf_filter (v : VF) (p : ByteArray → Bool) : ∀ ws : List ByteArray, (∀ t ∈ termsOf v ws, p t.s = true) → termsOf v (ws.filter p) = termsOf v ws
  | [], _ => rfl
  | s :: r, h => by
    rw [termsOf_cons' v s r] at h
    cases hv : v s with
    | none =>
      rw [hv] at h
      have ih := termsOf_filter v p r h
      rw [termsOf_cons', hv]
      cases hp : p s with
      | false => rw [List.filter_cons_of_neg (by simp [hp])]; exact ih
      | true =>
        rw [List.filter_cons_of_pos hp, termsOf_cons', hv]
        exact ih
    | some q =>
      rw [hv] at h
      have ih := termsOf_filter v p r (fun t ht => h t (List.mem_cons_of_mem _ ht))
      have hp : p s = true := h _ (List.mem_cons_self ..)
      rw [List.filter_cons_of_pos hp, termsOf_cons', termsOf_cons', hv]
      simp only
      rw [ih]
/-- over all Lyndon words with the values of a list of coordinates: the list's own sum -/
theorem crd_giv {D N : Nat} {ts : List Tm} (h : serB D N ts = true) (hy : ∀ t ∈ ts, lynB t.s = true) :
    crdTo (allW D N) (valV ts ts.length) ((allW D N).filter lynB) ((allW D N).filter lynB).length = serW (allW D N) ts := by
  have e := (good_valV h).2
  rw [crd_ser, termsOf_filter _ _ _ (by rw [e]; exact hy), e]
end Go.Proofs.YtgcjpenlcokgjaaGreatDoor
