/-
  Plain mathematics of the next Lyndon word: the least one greater than a word, of a list, in whatever order it is gone through. No program is named here.
-/
import Derived.Test.YtolbgdgoambliaaLynL
import Derived.Test.YtolbgdgoambliaaNeck
import Derived.Test.YtolbgdgoambliaaLy6
namespace Go.Proofs.Ytolbgdgoambliaa
open Go

/-- is v a Lyndon word greater than w? -/
def nxB (w v : ByteArray) : Bool := ltS w v && lynB v
def better (o : Option ByteArray) (v : ByteArray) : Bool := match o with
  | none => true
  | some b => ltS v b
def stepN (w : ByteArray) (o : Option ByteArray) (v : ByteArray) : Option ByteArray := if (nxB w v && better o v) = true then some v else o
def nextN (w : ByteArray) (vs : List ByteArray) : Option ByteArray := vs.foldl (stepN w) none
theorem nextN_snoc (w : ByteArray) (vs : List ByteArray) (v : ByteArray) : nextN w (vs ++ [v]) = stepN w (nextN w vs) v := by simp [nextN, List.foldl_append]
/-- the least Lyndon word greater than w that S holds of -/
def IsNx (w : ByteArray) (S : ByteArray → Prop) : Option ByteArray → Prop
  | none => ∀ v, S v → nxB w v = false
  | some b => S b ∧ nxB w b = true ∧ ∀ v, S v → nxB w v = true → ltS v b = false
theorem IsNx.step {w : ByteArray} {S : ByteArray → Prop} {o : Option ByteArray} (h : IsNx w S o) (v : ByteArray) : IsNx w (fun x => S x ∨ x = v) (stepN w o v) := by
  unfold stepN
  cases hn : nxB w v with
  | false =>
    rw [Bool.false_and, if_neg (by simp)]
    cases o with
    | none =>
      intro x hx
      rcases hx with hx | rfl
      · exact h x hx
      · exact hn
    | some b =>
      exact ⟨.inl h.1, h.2.1, fun x hx hxn => by
        rcases hx with hx | rfl
        · exact h.2.2 x hx hxn
        · rw [hn] at hxn; cases hxn⟩
  | true =>
    rw [Bool.true_and]
    cases o with
    | none =>
      rw [if_pos (show better none v = true from rfl)]
      exact ⟨.inr rfl, hn, fun x hx hxn => by
        rcases hx with hx | rfl
        · rw [h x hx] at hxn; cases hxn
        · exact ltS_irr _⟩
    | some b =>
      show IsNx w _ (if ltS v b = true then some v else some b)
      cases hv : ltS v b with
      | true =>
        rw [if_pos rfl]
        exact ⟨.inr rfl, hn, fun x hx hxn => by
          rcases hx with hx | rfl
          · cases hq : ltS x v with
            | false => rfl
            | true => have := ltS_trans hq hv; rw [h.2.2 x hx hxn] at this; cases this
          · exact ltS_irr _⟩
      | false =>
        rw [if_neg (by simp)]
        exact ⟨.inl h.1, h.2.1, fun x hx hxn => by
          rcases hx with hx | rfl
          · exact h.2.2 x hx hxn
          · exact hv⟩
theorem IsNx.fold {w : ByteArray} : ∀ (vs : List ByteArray) (S : ByteArray → Prop) (o : Option ByteArray), IsNx w S o → IsNx w (fun x => S x ∨ x ∈ vs) (vs.foldl (stepN w) o)
  | [], S, o, h => by
    have e : (fun x => S x ∨ x ∈ ([] : List ByteArray)) = S := by funext x; simp
    rw [e]; exact h
  | v :: vs, S, o, h => by
    have k := IsNx.fold vs _ _ (h.step v)
    have e : (fun x => (S x ∨ x = v) ∨ x ∈ vs) = (fun x => S x ∨ x ∈ v :: vs) := by funext x; simp [or_assoc]
    rw [e] at k; exact k
theorem nextN_is (w : ByteArray) (vs : List ByteArray) : IsNx w (fun x => x ∈ vs) (nextN w vs) := by
  have h := IsNx.fold (w := w) vs (fun _ => False) none (fun _ h => h.elim)
  have e : (fun x => False ∨ x ∈ vs) = (fun x => x ∈ vs) := by funext x; simp
  rw [e] at h; exact h
theorem IsNx.congr {w : ByteArray} {S T : ByteArray → Prop} {o : Option ByteArray} (h : IsNx w S o) (e : ∀ v, nxB w v = true → (S v ↔ T v)) : IsNx w T o := by
  cases o with
  | none =>
    intro v hv
    cases hn : nxB w v with
    | false => rfl
    | true =>
      have := h v ((e v hn).2 hv)
      rw [hn] at this; cases this
  | some b =>
    exact ⟨(e b h.2.1).1 h.1, h.2.1, fun v hv hn => h.2.2 v ((e v hn).2 hv) hn⟩
theorem IsNx.uniq {w : ByteArray} {S : ByteArray → Prop} : ∀ {o o' : Option ByteArray}, IsNx w S o → IsNx w S o' → o = o'
  | none, none, _, _ => rfl
  | none, some b, h, k => by have := h b k.1; rw [k.2.1] at this; cases this
  | some b, none, h, k => by have := k b h.1; rw [h.2.1] at this; cases this
  | some a, some b, h, k => by rw [ltS_tri (k.2.2 a h.1 h.2.1) (h.2.2 b k.1 k.2.1)]

/-- where a list that ascends passes w -/
theorem cut_at (less : Nat → Bool) : ∀ n : Nat, (∀ i j, i ≤ j → j < n → less i = false → less j = false) → ∃ k, k ≤ n ∧ (∀ t, t < k → less t = true) ∧ ∀ t, k ≤ t → t < n → less t = false
  | 0, _ => ⟨0, Nat.le_refl _, fun _ h => absurd h (Nat.not_lt_zero _), fun _ _ h => absurd h (Nat.not_lt_zero _)⟩
  | n + 1, hm => by
    obtain ⟨k, h1, h2, h3⟩ := cut_at less n (fun i j hij hj => hm i j hij (by omega))
    by_cases hk : k = n
    · subst hk
      cases hl : less k with
      | true => exact ⟨k + 1, Nat.le_refl _, fun t ht => by
          rcases Nat.lt_or_ge t k with h | h
          · exact h2 t h
          · obtain rfl : t = k := by omega
            exact hl, fun t h4 h5 => by omega⟩
      | false => exact ⟨k, by omega, h2, fun t h4 h5 => by
          obtain rfl : t = k := by omega
          exact hl⟩
    · exact ⟨k, by omega, h2, fun t h4 h5 => hm k t h4 h5 (h3 k (Nat.le_refl _) (by omega))⟩

theorem sortB_ne : ∀ {L : List (List UInt8)}, sortB L = true → L.Pairwise (fun a b => Op.bytesLess a b = true)
  | [], _ => .nil
  | [_], _ => .cons (fun _ h => by cases h) .nil
  | a :: b :: r, h => by
    have h' : Op.bytesLess a b = true ∧ sortB (b :: r) = true := by simpa [sortB] using h
    have k := sortB_ne h'.2
    refine .cons (fun x hx => ?_) k
    rcases List.mem_cons.1 hx with rfl | hx
    · exact h'.1
    · exact nl_trans _ _ _ h'.1 (List.rel_of_pairwise_cons k hx)
/-- what the program's search in its list comes to: i is where the list passes w, and one on if w stands there -/
theorem found_is {ss : List ByteArray} {w : ByteArray} (hs : ∀ i j (hi : i < ss.length) (hj : j < ss.length), i < j → ltS ss[i] ss[j] = true) (hl : ∀ v ∈ ss, ltS w v = true → lynB v = true) {k : Nat} (hk : k ≤ ss.length)
    (h1 : ∀ t (h : t < ss.length), t < k → ltS ss[t] w = true) (h2 : ∀ t (h : t < ss.length), k ≤ t → ltS ss[t] w = false) :
    IsNx w (fun v => v ∈ ss) (ss[if ∃ h : k < ss.length, ss[k] = w then k + 1 else k]?) := by
  obtain ⟨i, hi⟩ : ∃ i, (if ∃ h : k < ss.length, ss[k] = w then k + 1 else k) = i := ⟨_, rfl⟩
  rw [hi]
  have below : ∀ t (h : t < ss.length), t < i → ltS w ss[t] = false := fun t h ht => by
    by_cases hf : ∃ h : k < ss.length, ss[k] = w
    · rw [if_pos hf] at hi
      obtain ⟨hk2, he⟩ := hf
      rcases Nat.lt_or_ge t k with h3 | h3
      · exact ltS_asym (h1 t h h3)
      · obtain rfl : t = k := by omega
        rw [he]; exact ltS_irr _
    · rw [if_neg hf] at hi
      exact ltS_asym (h1 t h (by omega))
  have above : ∀ t (h : t < ss.length), i ≤ t → ltS w ss[t] = true := fun t h ht => by
    by_cases hf : ∃ h : k < ss.length, ss[k] = w
    · rw [if_pos hf] at hi
      obtain ⟨hk2, he⟩ := hf
      rw [← he]
      exact hs k t hk2 h (by omega)
    · rw [if_neg hf] at hi
      cases hq : ltS w ss[t] with
      | true => rfl
      | false =>
        have e := ltS_tri hq (h2 t h (by omega))
        rcases Nat.lt_or_ge k t with h3 | h3
        · have a1 := hs k t (by omega) h h3
          have a2 := h2 k (by omega) (Nat.le_refl _)
          rw [e] at a2
          rw [a1] at a2; cases a2
        · obtain rfl : t = k := by omega
          exact absurd ⟨h, e.symm⟩ hf
  by_cases hlt : i < ss.length
  · rw [List.getElem?_eq_getElem hlt]
    have hm := List.getElem_mem hlt
    have ha := above i hlt (Nat.le_refl _)
    refine ⟨hm, by unfold nxB; rw [ha, hl _ hm ha]; rfl, fun v hv hn => ?_⟩
    obtain ⟨t, ht, rfl⟩ := List.getElem_of_mem hv
    have hw : ltS w ss[t] = true := by unfold nxB at hn; exact (Bool.and_eq_true _ _ ▸ hn).1
    rcases Nat.lt_or_ge t i with h3 | h3
    · rw [below t ht h3] at hw; cases hw
    · rcases Nat.lt_or_ge i t with h4 | h4
      · exact ltS_asym (hs i t hlt ht h4)
      · obtain rfl : t = i := by omega
        exact ltS_irr _
  · rw [List.getElem?_eq_none (by omega)]
    intro v hv
    obtain ⟨t, ht, rfl⟩ := List.getElem_of_mem hv
    unfold nxB
    rw [below t ht (by omega)]; rfl
end Go.Proofs.Ytolbgdgoambliaa
