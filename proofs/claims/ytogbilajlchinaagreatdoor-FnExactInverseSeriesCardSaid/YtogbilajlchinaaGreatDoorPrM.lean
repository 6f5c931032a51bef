/-
  Plain mathematics of products and multiples of series, as functions of words. No program is named here.
-/
import Derived.Test.YtogbilajlchinaaGreatDoorMapV
import Derived.Test.YtogbilajlchinaaGreatDoorRevM
import Derived.Test.YtogbilajlchinaaGreatDoorSumL
namespace Go.Proofs.YtogbilajlchinaaGreatDoor
open Go.RowKit

abbrev VF := ByteArray → Option (Int × Int)
/-- a sum with a product: both have to fit -/
def apS (a b n d p q : Int) : Option (Int × Int) :=
  if fOk (n * p) (d * q) = true then
    (if fOk (a * fD (n * p) (d * q) + fN (n * p) (d * q) * b) (b * fD (n * p) (d * q)) = true then
      some (fN (a * fD (n * p) (d * q) + fN (n * p) (d * q) * b) (b * fD (n * p) (d * q)), fD (a * fD (n * p) (d * q) + fN (n * p) (d * q) * b) (b * fD (n * p) (d * q)))
    else none)
  else none
section
variable {a b n d p q x y : Int}
theorem apS_bad1 (h : fOk (n * p) (d * q) = false) : apS a b n d p q = none := by
  unfold apS; rw [h]; rfl
theorem apS_bad2 (h : fOk (n * p) (d * q) = true) (hx : fN (n * p) (d * q) = x) (hy : fD (n * p) (d * q) = y) (h2 : fOk (a * y + x * b) (b * y) = false) : apS a b n d p q = none := by
  unfold apS; rw [h, hx, hy, h2]; rfl
theorem apS_good (h : fOk (n * p) (d * q) = true) (hx : fN (n * p) (d * q) = x) (hy : fD (n * p) (d * q) = y) (h2 : fOk (a * y + x * b) (b * y) = true) : apS a b n d p q = some (fN (a * y + x * b) (b * y), fD (a * y + x * b) (b * y)) := by
  unfold apS; rw [h, hx, hy, h2]; rfl
theorem apS_isF {r : Int × Int} (h : apS a b n d p q = some r) : isF r.1 r.2 = true := by
  unfold apS at h
  split at h
  · split at h
    · rename_i h1 h2
      injection h with h
      rw [← h]
      exact fOk_isFp h2
    · cases h
  · cases h
/-- a fraction in lowest terms comes to itself -/
theorem isF_self (h : isF x y = true) : fOk x y = true ∧ fN x y = x ∧ fD x y = y := by
  have h1 := isF_out h
  have h2 := low_unique (n := x) (d := y) (an := x) (ad := y) h1.2.2.2.2 h1.1 (by omega) rfl
  have h3 : fOk x y = true := by
    rw [fOk_of (by omega)]
    unfold lowOk
    rw [h2.1, h2.2]
    exact h
  have h4 := low_yes h3
  exact ⟨h3, h4.1.trans h2.1, h4.2.1.trans h2.2⟩
end

/-- one cut's share of a product -/
def cutStep (f g : VF) (s : ByteArray) (k : Nat) (acc : Int × Int) : Option (Int × Int) :=
  match f (s.extract 0 k) with
  | none => some acc
  | some x => match g (s.extract k s.size) with
    | none => some acc
    | some y => apS acc.1 acc.2 x.1 x.2 y.1 y.2
def cutsUp (f g : VF) (s : ByteArray) : Nat → Option (Int × Int)
  | 0 => some (0, 1)
  | k + 1 => (cutsUp f g s k).bind (cutStep f g s k)
theorem cutsUp_dead {f g : VF} {s : ByteArray} {k : Nat} (h : cutsUp f g s k = none) : ∀ {m : Nat}, k ≤ m → cutsUp f g s m = none
  | 0, hm => by obtain rfl : k = 0 := by omega
                exact h
  | m + 1, hm => by
    by_cases e : k = m + 1
    · subst e; exact h
    · rw [cutsUp, cutsUp_dead h (show k ≤ m by omega)]; rfl
theorem cutsUp_next {f g : VF} {s : ByteArray} {k : Nat} {acc : Int × Int} (h : cutsUp f g s k = some acc) : cutsUp f g s (k + 1) = cutStep f g s k acc := by
  rw [cutsUp, h]; rfl
theorem cutStep_1 {f g : VF} {s : ByteArray} {k : Nat} {acc : Int × Int} (h : f (s.extract 0 k) = none) : cutStep f g s k acc = some acc := by
  unfold cutStep; rw [h]
theorem cutStep_2 {f g : VF} {s : ByteArray} {k : Nat} {acc : Int × Int} (h : g (s.extract k s.size) = none) : cutStep f g s k acc = some acc := by
  unfold cutStep; rw [h]
  cases f (s.extract 0 k) <;> rfl
theorem cutStep_3 {f g : VF} {s : ByteArray} {k : Nat} {acc x y : Int × Int} (h : f (s.extract 0 k) = some x) (h2 : g (s.extract k s.size) = some y) : cutStep f g s k acc = apS acc.1 acc.2 x.1 x.2 y.1 y.2 := by
  unfold cutStep; rw [h, h2]
theorem cutStep_isF {f g : VF} {s : ByteArray} {k : Nat} {acc r : Int × Int} (ha : isF acc.1 acc.2 = true) (h : cutStep f g s k acc = some r) : isF r.1 r.2 = true := by
  unfold cutStep at h
  split at h
  · injection h with h; rw [← h]; exact ha
  · split at h
    · injection h with h; rw [← h]; exact ha
    · exact apS_isF h
theorem isF_01 : isF 0 1 = true := by decide
theorem cutsUp_isF {f g : VF} {s : ByteArray} : ∀ {k : Nat} {r : Int × Int}, cutsUp f g s k = some r → isF r.1 r.2 = true
  | 0, r, h => by rw [cutsUp] at h; injection h with h; rw [← h]; exact isF_01
  | k + 1, r, h => by
    rw [cutsUp] at h
    obtain ⟨acc, h1, h2⟩ := Option.bind_eq_some_iff.1 h
    exact cutStep_isF (cutsUp_isF h1) h2
def prodAt (f g : VF) (s : ByteArray) : Option (Int × Int) := cutsUp f g s (s.size + 1)
/-- no value where it is 0 -/
def nzF (p : Int × Int) : Option (Int × Int) := if p.1 = 0 then none else some p
theorem nzF_0 {p : Int × Int} (h : p.1 = 0) : nzF p = none := if_pos h
theorem nzF_1 {p : Int × Int} (h : p.1 ≠ 0) : nzF p = some p := if_neg h
def prodF (f g : VF) : VF := fun s => (prodAt f g s).bind nzF
def prodOk (f g : VF) (ws : List ByteArray) : Bool := ws.all fun s => (prodAt f g s).isSome
def inL (s : ByteArray) (ws : List ByteArray) : Bool := ws.any fun t => decide (t = s)
theorem inL_iff {s : ByteArray} {ws : List ByteArray} : inL s ws = true ↔ s ∈ ws := by
  unfold inL
  rw [List.any_eq_true]
  constructor
  · rintro ⟨t, h1, h2⟩
    rw [← of_decide_eq_true h2]
    exact h1
  · exact fun h => ⟨s, h, decide_eq_true rfl⟩
/-- a function on a list of words alone -/
def onL (ws : List ByteArray) (h : VF) : VF := fun s => if inL s ws = true then h s else none
/-- the product of two series' values, if all that it is made of fits -/
def prodV (f g : VF) (ws : List ByteArray) : Option VF := if prodOk f g ws = true then some (onL ws (prodF f g)) else none
theorem onL_nil (h : VF) : onL [] h = fun _ => none := by
  funext s; rfl
theorem onL_snoc {ws : List ByteArray} {k : Nat} (hk : k < ws.length) (h : VF) : onL (ws.take (k + 1)) h = setF (onL (ws.take k) h) ws[k] (h ws[k]) := by
  funext s
  unfold onL setF inL
  rw [List.take_succ_eq_append_getElem hk, List.any_append]
  by_cases e : s = ws[k]
  · subst e; simp
  · have e2 : decide (ws[k] = s) = false := decide_eq_false (fun h => e h.symm)
    rw [if_neg e]
    simp only [List.any_cons, List.any_nil, e2, Bool.or_false]
theorem prodOk_snoc {f g : VF} {ws : List ByteArray} {k : Nat} (hk : k < ws.length) : prodOk f g (ws.take (k + 1)) = (prodOk f g (ws.take k) && (prodAt f g ws[k]).isSome) := by
  unfold prodOk
  rw [List.take_succ_eq_append_getElem hk, List.all_append]
  simp
theorem prodOk_no {f g : VF} {ws : List ByteArray} {s : ByteArray} (hs : s ∈ ws) (h : prodAt f g s = none) : prodOk f g ws = false := by
  unfold prodOk
  rw [List.all_eq_false]
  exact ⟨s, hs, by rw [h]; simp⟩
theorem prodOk_append {f g : VF} {ws vs : List ByteArray} : prodOk f g (ws ++ vs) = (prodOk f g ws && prodOk f g vs) := by
  unfold prodOk; rw [List.all_append]
theorem prodV_none {f g : VF} {ws : List ByteArray} (h : prodOk f g ws = false) : prodV f g ws = none := by unfold prodV; rw [h]; rfl
theorem prodV_some {f g : VF} {ws : List ByteArray} (h : prodOk f g ws = true) : prodV f g ws = some (onL ws (prodF f g)) := if_pos h
theorem prodF_some {f g : VF} {s : ByteArray} {p : Int × Int} (h : prodAt f g s = some p) : prodF f g s = nzF p := by unfold prodF; rw [h]; rfl

/-- the values are fractions other than 0, at words of the list -/
def GoodV (ws : List ByteArray) (f : VF) : Prop := ∀ s p, f s = some p → s ∈ ws ∧ isF p.1 p.2 = true ∧ p.1 ≠ 0
theorem GoodV.none (ws : List ByteArray) : GoodV ws (fun _ => none) := fun s p h => by cases h
theorem GoodV.set_ {ws : List ByteArray} {f : VF} (h : GoodV ws f) {s : ByteArray} (hs : s ∈ ws) {p : Int × Int} (hp : isF p.1 p.2 = true) : GoodV ws (setF f s (nzF p)) := fun t q he => by
  unfold setF at he
  split at he
  · rename_i e
    subst e
    unfold nzF at he
    split at he
    · cases he
    · rename_i hz
      injection he with he
      subst he
      exact ⟨hs, hp, hz⟩
  · exact h t q he
theorem GoodV.prod {f g : VF} {ws : List ByteArray} : GoodV ws (onL ws (prodF f g)) := fun s p h => by
  unfold onL at h
  split at h
  · rename_i hs
    unfold prodF at h
    obtain ⟨r, h1, h2⟩ := Option.bind_eq_some_iff.1 h
    unfold nzF at h2
    split at h2
    · cases h2
    · rename_i hz
      injection h2 with h2
      subst h2
      exact ⟨inL_iff.1 hs, cutsUp_isF h1, hz⟩
  · cases h
theorem GoodV.prodV {f g h : VF} {ws : List ByteArray} (e : prodV f g ws = some h) : GoodV ws h := by
  unfold Go.Proofs.YtogbilajlchinaaGreatDoor.prodV at e
  split at e
  · injection e with e
    rw [← e]
    exact GoodV.prod
  · cases e

/-- the value at a word, 0 where there is none -/
def valF (f : VF) (s : ByteArray) : Int × Int := (f s).getD (0, 1)
theorem valF_none {f : VF} {s : ByteArray} (h : f s = none) : valF f s = (0, 1) := by unfold valF; rw [h]; rfl
theorem valF_some {f : VF} {s : ByteArray} {p : Int × Int} (h : f s = some p) : valF f s = p := by unfold valF; rw [h]; rfl
theorem valF_isF {ws : List ByteArray} {f : VF} (h : GoodV ws f) (s : ByteArray) : isF (valF f s).1 (valF f s).2 = true := by
  cases e : f s with
  | none => rw [valF_none e]; exact isF_01
  | some p => rw [valF_some e]; exact (h s p e).2.1
theorem valF_zero {ws : List ByteArray} {f : VF} (h : GoodV ws f) (s : ByteArray) (hz : (valF f s).1 = 0) : f s = none := by
  cases e : f s with
  | none => rfl
  | some p => rw [valF_some e] at hz; exact absurd hz (h s p e).2.2
theorem valF_nz {f : VF} {s : ByteArray} (hz : (valF f s).1 ≠ 0) : f s = some (valF f s) := by
  cases e : f s with
  | none => rw [valF_none e] at hz; exact absurd rfl hz
  | some p => rw [valF_some e]
theorem valL_termsOf {ws : List ByteArray} (hw : ws.Pairwise lessW) {f : VF} (hg : GoodV ws f) (s : ByteArray) : valL s.data.toList (termsOf f ws) = valF f s := by
  cases e : f s with
  | none =>
    rw [valF_none e]
    refine valL_none _ fun j hj he => ?_
    have h1 := (termsOf_iff.1 (List.getElem_mem hj)).2
    rw [data_eq he, e] at h1
    cases h1
  | some p =>
    rw [valF_some e]
    have hm : (⟨s, p.1, p.2⟩ : Tm) ∈ termsOf f ws := termsOf_iff.2 ⟨(hg s p e).1, e⟩
    obtain ⟨i, hi, ht⟩ := List.getElem_of_mem hm
    have ha := List.pairwise_iff_getElem.1 (termsOf_asc f hw)
    have := valL_at (w0 := s.data.toList) (termsOf f ws) i hi (fun j hj hji he => by
      have h2 := ha j i hj hi hji
      rw [ht] at h2
      have h3 : ((termsOf f ws)[j]).s = s := data_eq he
      unfold lessT at h2
      rw [h3, lessL_irrefl] at h2
      cases h2) (by rw [ht])
    rw [this, ht]
theorem termsOf_isF {ws : List ByteArray} {f : VF} (hg : GoodV ws f) : ∀ t ∈ termsOf f ws, isF t.n t.d = true ∧ t.n ≠ 0 := fun _ ht => (hg _ _ (termsOf_iff.1 ht).2).2
theorem termsOf_app (f : VF) (us vs : List ByteArray) : termsOf f (us ++ vs) = termsOf f us ++ termsOf f vs := by
  unfold termsOf; rw [List.filterMap_append]
theorem termsOf_onL (f : VF) (ws : List ByteArray) : ∀ us : List ByteArray, (∀ s ∈ us, s ∈ ws) → termsOf (onL ws f) us = termsOf f us
  | [], _ => rfl
  | s :: us, h => by
    have ih := termsOf_onL f ws us (fun t ht => h t (by simp [ht]))
    have e : onL ws f s = f s := by unfold onL; rw [if_pos (inL_iff.2 (h s (by simp)))]
    unfold termsOf at ih ⊢
    rw [List.filterMap_cons, List.filterMap_cons, ih, e]
theorem termsOf_cons' (f : VF) (s : ByteArray) (ws : List ByteArray) : termsOf f (s :: ws) = (match f s with | none => termsOf f ws | some p => ⟨s, p.1, p.2⟩ :: termsOf f ws) := by
  unfold termsOf
  cases h : f s <;> simp [h]
theorem word_in {D : Nat} : ∀ {j N : Nat} {s : ByteArray}, j ≤ N → s ∈ wordsL D j → s ∈ allW D N
  | j, 0, s, hj, h => by
    obtain rfl : j = 0 := by omega
    exact h
  | j, N + 1, s, hj, h => by
    rw [allW, List.mem_append]
    by_cases e : j = N + 1
    · subst e; exact .inr h
    · exact .inl (word_in (by omega) h)
/-- the values of a series' terms -/
theorem good_valV {D N : Nat} {ts : List Tm} (h : serB D N ts = true) : GoodV (allW D N) (valV ts ts.length) ∧ termsOf (valV ts ts.length) (allW D N) = ts := by
  have hsh : shapeB (D : Int) (N : Int) = true := by unfold serB at h; rw [Bool.and_eq_true] at h; exact h.1
  have hD := shape_out hsh
  have hn := List.pairwise_iff_getElem.1 (asc_pairwise (asc_of_ser h))
  have hne : ts.Pairwise (fun a b => a.s ≠ b.s) := List.pairwise_iff_getElem.2 fun i j hi hj hij e => by
    have := hn i j hi hj hij
    unfold lessT at this
    rw [e, lessL_irrefl] at this
    cases this
  have hin : ∀ t ∈ ts, t.s ∈ allW D N ∧ isF t.n t.d = true ∧ t.n ≠ 0 := fun t ht => by
    have h1 := ser_term h t ht
    simp only [termB, Bool.and_eq_true, Bool.not_eq_true', beq_eq_false_iff_ne, decide_eq_true_eq] at h1
    exact ⟨allW_all (by omega) N _ (by omega) h1.1.2, h1.2.1, h1.2.2⟩
  have hall : ∀ s p, valV ts ts.length s = some p → ∃ t ∈ ts, t.s = s ∧ p = (t.n, t.d) := fun s p e => by
    by_cases hx : ∃ i, ∃ (hi : i < ts.length), (ts[i]).s = s
    · obtain ⟨i, hi, rfl⟩ := hx
      rw [valV_at hne hi _ hi] at e
      injection e with e
      exact ⟨ts[i], List.getElem_mem hi, rfl, e.symm⟩
    · rw [valV_none _ (fun i hi _ e => hx ⟨i, hi, e⟩)] at e
      cases e
  refine ⟨fun s p e => ?_, termsOf_eq (by omega) (asc_pairwise (asc_of_ser h)) fun t => ?_⟩
  · obtain ⟨t, ht, rfl, rfl⟩ := hall s p e
    exact hin t ht
  · constructor
    · intro ht
      obtain ⟨i, hi, rfl⟩ := List.getElem_of_mem ht
      exact ⟨(hin _ ht).1, valV_at hne hi _ hi⟩
    · rintro ⟨_, e⟩
      obtain ⟨u, hu, h1, h2⟩ := hall _ _ e
      obtain ⟨s, n, d⟩ := t
      obtain ⟨s', n', d'⟩ := u
      simp only [Prod.mk.injEq] at h1 h2
      rw [h1, ← h2.1, ← h2.2] at hu
      exact hu
end Go.Proofs.YtogbilajlchinaaGreatDoor
