/-
  Plain mathematics: what the Dynkin map makes of a series' terms, one by one.
-/
import Derived.Test.YtjjkkaikinjmdaaGreatDoorBvM
namespace Go.Proofs.YtjjkkaikinjmdaaGreatDoor
open Go.RowKit

/-- a term's share: its value divided by its letters -/
def shN (t : Tm) : Int := fN (t.n * 1) (t.d * (t.s.size : Int))
def shD (t : Tm) : Int := fD (t.n * 1) (t.d * (t.s.size : Int))
def shOk (t : Tm) : Bool := fOk (t.n * 1) (t.d * (t.s.size : Int))
def dynOne (ws : List ByteArray) (t : Tm) (f : VF) : Option VF := if shOk t = true then (leftW ws t.s).bind fun g => addK g (shN t) (shD t) ws f else none
def dynTo (ws : List ByteArray) (ts : List Tm) : Nat → Option VF
  | 0 => some fun _ => none
  | k + 1 => (dynTo ws ts k).bind fun f => match ts[k]? with
    | none => some f
    | some t => if t.s.size = 0 then some f else dynOne ws t f
def dynV (ws : List ByteArray) (ts : List Tm) : Option VF := dynTo ws ts ts.length
theorem dyn_skip {ws : List ByteArray} {ts : List Tm} {k : Nat} {f : VF} (hk : k < ts.length) (h0 : (ts[k]).s.size = 0) (h : dynTo ws ts k = some f) : dynTo ws ts (k + 1) = some f := by
  rw [dynTo, h, Option.bind_some, List.getElem?_eq_getElem hk]
  simp only
  rw [if_pos h0]
theorem dyn_next {ws : List ByteArray} {ts : List Tm} {k : Nat} {f : VF} (hk : k < ts.length) (h0 : ¬ (ts[k]).s.size = 0) (h : dynTo ws ts k = some f) : dynTo ws ts (k + 1) = dynOne ws ts[k] f := by
  rw [dynTo, h, Option.bind_some, List.getElem?_eq_getElem hk]
  simp only
  rw [if_neg h0]
theorem dyn_dead {ws : List ByteArray} {ts : List Tm} {k : Nat} (h : dynTo ws ts k = none) : ∀ {m : Nat}, k ≤ m → dynTo ws ts m = none
  | 0, hm => by
    obtain rfl : k = 0 := by omega
    exact h
  | m + 1, hm => by
    by_cases e : k = m + 1
    · rw [← e]; exact h
    · rw [dynTo, dyn_dead h (show k ≤ m by omega)]; rfl
theorem dyn_first {ws : List ByteArray} {ts : List Tm} : ∀ k : Nat, (∀ j (h : j < ts.length), j < k → (ts[j]).s.size = 0) → dynTo ws ts k = some fun _ => none
  | 0, _ => rfl
  | k + 1, h => by
    have ih := dyn_first (ws := ws) k (fun j hj hjk => h j hj (by omega))
    by_cases hk : k < ts.length
    · exact dyn_skip hk (h k hk (by omega)) ih
    · rw [dynTo, ih, Option.bind_some, List.getElem?_eq_none (by omega)]
theorem one_bad {ws : List ByteArray} {t : Tm} {f : VF} (h : shOk t = false) : dynOne ws t f = none := by unfold dynOne; rw [h]; rfl
theorem one_none {ws : List ByteArray} {t : Tm} {f : VF} (h : leftW ws t.s = none) : dynOne ws t f = none := by
  unfold dynOne
  rw [h]
  split <;> rfl
theorem one_some {ws : List ByteArray} {t : Tm} {f g : VF} (h : shOk t = true) (h2 : leftW ws t.s = some g) : dynOne ws t f = addK g (shN t) (shD t) ws f := by
  unfold dynOne
  rw [h, h2]
  rfl
theorem good_nil (ws : List ByteArray) : GoodV ws (fun _ => none) := GoodV.none ws
theorem dyn_good {ws : List ByteArray} {ts : List Tm} : ∀ {k : Nat} {f : VF}, dynTo ws ts k = some f → GoodV ws f
  | 0, f, h => by
    injection h with h
    subst h
    exact GoodV.none _
  | k + 1, f, h => by
    rw [dynTo] at h
    obtain ⟨g, h1, h2⟩ := Option.bind_eq_some_iff.1 h
    have hg := dyn_good h1
    split at h2
    · injection h2 with h2
      subst h2
      exact hg
    · split at h2
      · injection h2 with h2
        subst h2
        exact hg
      · unfold dynOne at h2
        split at h2
        · obtain ⟨g2, _, h4⟩ := Option.bind_eq_some_iff.1 h2
          exact hg.addK (fun _ h => h) h4
        · cases h2
theorem sh_isF {t : Tm} (h : shOk t = true) : isF (shN t) (shD t) = true := fOk_isFp h
theorem allW_121 : ∀ D, 1 ≤ D → D ≤ 3 → ∀ N, N ≤ 5 → (D < 3 ∨ N ≤ 4) → (allW D N).length ≤ 121
  | 1, _, _, N, h, _ => by
    match N, h with
    | 0, _ | 1, _ | 2, _ | 3, _ | 4, _ | 5, _ => decide +kernel
  | 2, _, _, N, h, _ => by
    match N, h with
    | 0, _ | 1, _ | 2, _ | 3, _ | 4, _ | 5, _ => decide +kernel
  | 3, _, _, N, h, h4 => by
    match N, h4 with
    | 0, _ | 1, _ | 2, _ | 3, _ | 4, _ => decide +kernel
theorem few_ser {D N : Nat} {ts : List Tm} (h : serB D N ts = true) : ts.length ≤ 121 := by
  have hsh : shapeB (D : Int) (N : Int) = true := by unfold serB at h; rw [Bool.and_eq_true] at h; exact h.1
  have hD := shape_out hsh
  have e := (good_valV h).2
  have h1 := termsOf_len (valV ts ts.length) (allW D N)
  rw [e] at h1
  exact Nat.le_trans h1 (allW_121 D (by omega) (by omega) N (by omega) (by omega))
end Go.Proofs.YtjjkkaikinjmdaaGreatDoor
