/-
  Putting a term over the terms of other words: where the program's way and the model's meet.
-/
import Derived.Test.YtbhbcjaaomdlaaaSumL
import Derived.Test.YtbhbcjaaomdlaaaTol
import Derived.ArgAppend
namespace Go.Proofs.Ytbhbcjaaomdlaaa
open Go.RowKit

/-- the terms of other words -/
def othL (s : ByteArray) (ts : List Tm) : List Tm := ts.filter fun t => decide (t.s ≠ s)
/-- the terms ahead, the new term if it isn't 0, the terms behind -/
def replT (ts : List Tm) (u : Tm) (i : Nat) (f : Bool) : List Tm := ts.take i ++ conT u (ts.drop (if f then i + 1 else i))

theorem drop_cons' {ts : List Tm} {i : Nat} (h : i < ts.length) : ts.drop i = ts[i] :: ts.drop (i + 1) := List.drop_eq_getElem_cons h
theorem oth_all {s : ByteArray} {l : List Tm} (h : ∀ t ∈ l, t.s ≠ s) : othL s l = l := List.filter_eq_self.2 fun t ht => by simpa using h t ht
theorem oth_append (s : ByteArray) (a b : List Tm) : othL s (a ++ b) = othL s a ++ othL s b := List.filter_append _ _
theorem oth_take {ts : List Tm} {s : ByteArray} {i : Nat} (hp : Place ts s.data.toList i) : othL s (ts.take i) = ts.take i := oth_all fun t ht => by
  obtain ⟨k, hk, rfl⟩ := List.getElem_of_mem ht
  rw [List.length_take] at hk
  rw [List.getElem_take]
  intro e
  exact place_before hp k (by omega) (by omega) (by rw [e])
theorem oth_behind {ts : List Tm} {s : ByteArray} {i j : Nat} (ha : Asc ts) (hp : Place ts s.data.toList i) (hj : i ≤ j) (hne : ∀ (h : j < ts.length), j = i → (ts[j]).s ≠ s) : othL s (ts.drop j) = ts.drop j := oth_all fun t ht => by
  obtain ⟨k, hk, rfl⟩ := List.getElem_of_mem ht
  rw [List.length_drop] at hk
  rw [List.getElem_drop]
  intro e
  by_cases h0 : j + k = i
  · have hk0 : k = 0 := by omega
    subst hk0
    exact hne (by omega) (by omega) (by simpa using e)
  · have h1 := ha i (j + k) (by omega) (by omega)
    rw [e] at h1
    have h2 := hp.2.2 i (by omega) (Nat.le_refl _)
    rw [h1] at h2
    cases h2
theorem put_oth {ts : List Tm} (u : Tm) {i : Nat} (ha : Asc ts) (hp : Place ts u.s.data.toList i) (f : Bool) (hf : (match ts[i]? with | some t => decide (t.s.data.toList = u.s.data.toList) | none => false) = f) :
    putL (othL u.s ts) u = some (replT ts u i f) := by
  have hE : othL u.s ts = ts.take i ++ ts.drop (if f then i + 1 else i) := by
    conv => lhs; rw [← List.take_append_drop i ts]
    rw [oth_append, oth_take hp]
    congr 1
    cases f with
    | true =>
      rw [if_pos rfl]
      by_cases hi : i < ts.length
      · rw [List.getElem?_eq_getElem hi] at hf
        simp only [decide_eq_true_eq] at hf
        have hs : (ts[i]).s = u.s := data_eq hf
        rw [drop_cons' hi]
        have : othL u.s (ts[i] :: ts.drop (i + 1)) = othL u.s (ts.drop (i + 1)) := List.filter_cons_of_neg (by simp [hs])
        rw [this]
        exact oth_behind ha hp (by omega) (fun _ h => by omega)
      · rw [List.getElem?_eq_none (by omega)] at hf
        cases hf
    | false =>
      simp only [Bool.false_eq_true, if_false]
      refine oth_behind ha hp (Nat.le_refl _) (fun h _ e => ?_)
      rw [List.getElem?_eq_getElem h] at hf
      simp only [decide_eq_false_iff_not] at hf
      exact hf (by rw [e])
  rw [hE]
  have hi := hp.1
  have hlen : (ts.take i).length = i := by rw [List.length_take]; omega
  have hj : ∀ (h : (if f then i + 1 else i) < ts.length), lessT (ts[if f then i + 1 else i]) u = false ∧ (ts[if f then i + 1 else i]).s ≠ u.s := fun h => by
    refine ⟨hp.2.2 _ h (by cases f <;> simp), fun e => ?_⟩
    cases f with
    | true =>
      simp only [if_true] at h e
      have h1 := ha i (i + 1) h (by omega)
      rw [e] at h1
      have h2 := hp.2.2 i (by omega) (Nat.le_refl _)
      rw [h1] at h2
      cases h2
    | false =>
      simp only [Bool.false_eq_true, if_false] at h e
      rw [List.getElem?_eq_getElem h] at hf
      simp only [decide_eq_false_iff_not] at hf
      exact hf (by rw [e])
  generalize hjj : (if f then i + 1 else i) = j at hj
  have hP := putL_at (ts.take i ++ ts.drop j) u i (by rw [List.length_append]; omega) (fun k hk hki => by
      rw [List.getElem_append_left (by omega), List.getElem_take]
      exact hp.2.1 k (by omega) hki) (fun t ht => by
      rw [List.getElem?_append_right (by omega), hlen, Nat.sub_self, List.getElem?_drop] at ht
      obtain ⟨h1, h2⟩ := List.getElem?_eq_some_iff.1 ht
      have h3 := (hj (by simpa using h1)).1
      rw [← h2]
      simpa using h3)
  rw [hP, List.drop_left' hlen, List.take_left' hlen]
  unfold replT
  rw [hjj]
  by_cases hl : j < ts.length
  · rw [drop_cons' hl]
    have h3 := (hj hl).2
    simp [putHere, h3]
  · rw [List.drop_eq_nil_of_le (by omega)]
    rfl
end Go.Proofs.Ytbhbcjaaomdlaaa
