/-
  Plain mathematics: the words that the program yields for a shuffle are the model's: those of the letters whose number is not 0, in order.
-/
import Derived.Test.YtdgkkcjjfpenpaaGreatDoorShuE
import Derived.Test.YtdgkkcjjfpenpaaGreatDoorPrM
import Derived.Test.YtdgkkcjjfpenpaaGreatDoorSerU
namespace Go.Proofs.YtdgkkcjjfpenpaaGreatDoor
set_option linter.unusedVariables false

theorem asc_same {α : Type} {R : α → α → Prop} (hirr : ∀ a, ¬ R a a) (htr : ∀ a b c, R a b → R b c → R a c) : ∀ {l l' : List α}, l.Pairwise R → l'.Pairwise R → (∀ x, x ∈ l ↔ x ∈ l') → l = l'
  | [], [], _, _, _ => rfl
  | [], b :: l', _, _, h => by have := (h b).2 (List.mem_cons_self ..); cases this
  | a :: l, [], _, _, h => by have := (h a).1 (List.mem_cons_self ..); cases this
  | a :: l, b :: l', h1, h2, h => by
    obtain ⟨ha, k1⟩ := List.pairwise_cons.1 h1
    obtain ⟨hb, k2⟩ := List.pairwise_cons.1 h2
    have e : a = b := by
      rcases List.mem_cons.1 ((h a).1 (List.mem_cons_self ..)) with e | e
      · exact e
      · rcases List.mem_cons.1 ((h b).2 (List.mem_cons_self ..)) with e2 | e2
        · exact e2.symm
        · exact absurd (htr _ _ _ (ha b e2) (hb a e)) (hirr a)
    subst e
    congr 1
    refine asc_same hirr htr k1 k2 fun x => ?_
    constructor
    · intro hx
      rcases List.mem_cons.1 ((h x).1 (List.mem_cons_of_mem _ hx)) with e | e
      · subst e; exact absurd (ha x hx) (hirr x)
      · exact e
    · intro hx
      rcases List.mem_cons.1 ((h x).2 (List.mem_cons_of_mem _ hx)) with e | e
      · subst e; exact absurd (hb x hx) (hirr x)
      · exact e
/-- every letter of a word of a shuffle is one of the two words' -/
theorem shN_letters : ∀ (u v w : List UInt8), shN v w u ≠ 0 → ∀ c ∈ u, c ∈ v ∨ c ∈ w
  | [], v, w, _, c, h => by cases h
  | a :: u, v, w, h, c, hc => by
    rw [shN] at h
    have key : (v.head? = some a ∧ shN v.tail w u ≠ 0) ∨ (w.head? = some a ∧ shN v w.tail u ≠ 0) := by
      by_cases h1 : v.head? = some a
      · by_cases h2 : shN v.tail w u = 0
        · right
          rw [if_pos h1, h2] at h
          by_cases h3 : w.head? = some a
          · rw [if_pos h3] at h; exact ⟨h3, by omega⟩
          · rw [if_neg h3] at h; exact absurd rfl h
        · exact .inl ⟨h1, h2⟩
      · right
        rw [if_neg h1] at h
        by_cases h3 : w.head? = some a
        · rw [if_pos h3] at h; exact ⟨h3, by omega⟩
        · rw [if_neg h3] at h; exact absurd rfl h
    rcases key with ⟨h1, h2⟩ | ⟨h1, h2⟩
    · rcases List.mem_cons.1 hc with rfl | hc
      · left; exact List.mem_of_mem_head? h1
      · rcases shN_letters u _ _ h2 c hc with h3 | h3
        · left; exact List.mem_of_mem_tail h3
        · right; exact h3
    · rcases List.mem_cons.1 hc with rfl | hc
      · right; exact List.mem_of_mem_head? h1
      · rcases shN_letters u _ _ h2 c hc with h3 | h3
        · left; exact h3
        · right; exact List.mem_of_mem_tail h3
theorem eachL_num {v w : List UInt8} : ∀ {m : Nat} {beg : ByteArray} {x : ByteArray × Nat}, x ∈ eachL v w m beg → x.2 = shN v w x.1.data.toList ∧ x.2 ≠ 0
  | 0, beg, x, h => by
    rw [eachL] at h
    split at h
    · cases h
    · rename_i h0
      obtain rfl := List.mem_singleton.1 h
      exact ⟨rfl, h0⟩
  | m + 1, beg, x, h => by
    rw [eachL, List.mem_append, List.mem_append] at h
    rcases h with (h | h) | h
    · exact eachL_num h
    · exact eachL_num h
    · exact eachL_num h
/-- what goes on from a beginning by m letters of three -/
def GoesOn (m : Nat) (beg s : ByteArray) : Prop := ∃ us : List UInt8, us.length = m ∧ (∀ c ∈ us, c = 48 ∨ c = 49 ∨ c = 50) ∧ s.data.toList = beg.data.toList ++ us
theorem eachL_mem {v w : List UInt8} : ∀ {m : Nat} {beg s : ByteArray}, s ∈ (eachL v w m beg).map (·.1) ↔ GoesOn m beg s ∧ shN v w s.data.toList ≠ 0
  | 0, beg, s => by
    rw [eachL]
    split
    · rename_i h0
      constructor
      · intro h; cases h
      · rintro ⟨⟨us, h1, _, h2⟩, h3⟩
        rw [List.eq_nil_of_length_eq_zero h1, List.append_nil] at h2
        rw [h2] at h3
        exact absurd h0 h3
    · rename_i h0
      simp only [List.map_cons, List.map_nil, List.mem_singleton]
      constructor
      · rintro rfl
        exact ⟨⟨[], rfl, fun c h => (by cases h), by rw [List.append_nil]⟩, h0⟩
      · rintro ⟨⟨us, h1, _, h2⟩, h3⟩
        rw [List.eq_nil_of_length_eq_zero h1, List.append_nil] at h2
        exact data_eq h2
  | m + 1, beg, s => by
    rw [eachL, List.map_append, List.map_append, List.mem_append, List.mem_append, eachL_mem, eachL_mem, eachL_mem]
    constructor
    · have key : ∀ i, i < 3 → GoesOn m (beg ++ lt i) s → GoesOn (m + 1) beg s := fun i hi h => by
        obtain ⟨us, h1, h2, h3⟩ := h
        refine ⟨UInt8.ofNat (48 + i) :: us, by simp [h1], fun c hc => ?_, by rw [h3, app_list, lt_list, List.append_assoc]; rfl⟩
        rcases List.mem_cons.1 hc with rfl | hc
        · obtain rfl | rfl | rfl : i = 0 ∨ i = 1 ∨ i = 2 := by omega
          · exact .inl rfl
          · exact .inr (.inl rfl)
          · exact .inr (.inr rfl)
        · exact h2 c hc
      rintro ((⟨h1, h2⟩ | ⟨h1, h2⟩) | ⟨h1, h2⟩)
      · exact ⟨key 0 (by omega) h1, h2⟩
      · exact ⟨key 1 (by omega) h1, h2⟩
      · exact ⟨key 2 (by omega) h1, h2⟩
    · rintro ⟨⟨us, h1, h2, h3⟩, h4⟩
      cases us with
      | nil => cases h1
      | cons c us =>
        have h1' : us.length = m := by simpa using h1
        have key : ∀ i, c = UInt8.ofNat (48 + i) → GoesOn m (beg ++ lt i) s := fun i e => ⟨us, h1', fun c hc => h2 c (List.mem_cons_of_mem _ hc), by rw [h3, app_list, lt_list, List.append_assoc, e]; rfl⟩
        rcases h2 c (List.mem_cons_self ..) with e | e | e
        · exact .inl (.inl ⟨key 0 e, h4⟩)
        · exact .inl (.inr ⟨key 1 e, h4⟩)
        · exact .inr ⟨key 2 e, h4⟩
theorem lessW_irr (a : ByteArray) : ¬ lessW a a := fun h => by
  unfold lessW lessL at h
  rw [if_pos rfl, bl_irrefl] at h
  cases h
theorem lessW_trans (a b c : ByteArray) (h1 : lessW a b) (h2 : lessW b c) : lessW a c := lessL_trans h1 h2
theorem goesOn_size {m : Nat} {beg s : ByteArray} (h : GoesOn m beg s) : s.size = beg.size + m := by
  obtain ⟨us, h1, _, h3⟩ := h
  have := congrArg List.length h3
  rw [List.length_append, h1] at this
  exact this
theorem less_of_letters {m : Nat} {beg s t : ByteArray} {i j : Nat} (hij : i < j) (hj : j < 3) (h1 : GoesOn m (beg ++ lt i) s) (h2 : GoesOn m (beg ++ lt j) t) : lessW s t := by
  have e1 := goesOn_size h1
  have e2 := goesOn_size h2
  obtain ⟨us, a1, _, a3⟩ := h1
  obtain ⟨vs, b1, _, b3⟩ := h2
  have hz : s.data.toList.length = t.data.toList.length := by
    rw [a3, b3, List.length_append, List.length_append, app_list, app_list, List.length_append, List.length_append, a1, b1]; rfl
  unfold lessW lessL
  rw [if_pos hz, a3, b3]
  refine bl_append _ _ _ _ ?_ ?_
  · rw [app_list, app_list, List.length_append, List.length_append]; rfl
  · rw [app_list, app_list, lt_list, lt_list]
    refine bl_same _ _ _ ?_
    rcases (show (i = 0 ∧ j = 1) ∨ (i = 0 ∧ j = 2) ∨ (i = 1 ∧ j = 2) by omega) with ⟨rfl, rfl⟩ | ⟨rfl, rfl⟩ | ⟨rfl, rfl⟩ <;> decide
theorem eachL_asc {v w : List UInt8} : ∀ {m : Nat} {beg : ByteArray}, ((eachL v w m beg).map (·.1)).Pairwise lessW
  | 0, beg => by
    rw [eachL]
    split
    · exact List.Pairwise.nil
    · exact List.pairwise_singleton _ _
  | m + 1, beg => by
    rw [eachL, List.map_append, List.map_append, List.pairwise_append, List.pairwise_append]
    refine ⟨⟨eachL_asc, eachL_asc, fun a ha b hb => ?_⟩, eachL_asc, fun a ha b hb => ?_⟩
    · exact less_of_letters (by omega) (by omega) (eachL_mem.1 ha).1 (eachL_mem.1 hb).1
    · rcases List.mem_append.1 ha with ha | ha
      · exact less_of_letters (by omega) (by omega) (eachL_mem.1 ha).1 (eachL_mem.1 hb).1
      · exact less_of_letters (by omega) (by omega) (eachL_mem.1 ha).1 (eachL_mem.1 hb).1
theorem letB_3 {c : UInt8} (h : letB 3 c = true) : c = 48 ∨ c = 49 ∨ c = 50 := by
  simp only [letB, decide_eq_true_eq] at h
  have : c.toNat = 48 ∨ c.toNat = 49 ∨ c.toNat = 50 := by omega
  rcases this with h | h | h
  · exact .inl (UInt8.toNat_inj.1 h)
  · exact .inr (.inl (UInt8.toNat_inj.1 h))
  · exact .inr (.inr (UInt8.toNat_inj.1 h))
theorem wordB_up {D : Nat} (hD : D ≤ 3) {l : List UInt8} (h : wordB (D : Int) l = true) : wordB 3 l = true := by
  unfold wordB at h ⊢
  rw [List.all_eq_true] at h ⊢
  intro c hc
  have := h c hc
  simp only [letB, decide_eq_true_eq] at this ⊢
  omega
/-- **the words that the program yields are the model's** -/
theorem eachL_words {D : Nat} (hD : D ≤ 3) {v w : List UInt8} (hv : wordB (D : Int) v = true) (hw : wordB (D : Int) w = true) (n : Nat) :
    (eachL v w n ByteArray.empty).map (·.1) = (wordsL D n).filter fun s => decide (shN v w s.data.toList ≠ 0) := by
  refine asc_same lessW_irr lessW_trans eachL_asc ((wordsL_asc hD n).filter _) fun s => ?_
  rw [eachL_mem, List.mem_filter]
  simp only [decide_eq_true_eq]
  constructor
  · rintro ⟨h1, h2⟩
    refine ⟨wordsL_all hD n s (by have := goesOn_size h1; simpa using this) ?_, h2⟩
    unfold wordB at hv hw ⊢
    rw [List.all_eq_true] at hv hw ⊢
    intro c hc
    rcases shN_letters _ _ _ h2 c hc with h | h
    · exact hv c h
    · exact hw c h
  · rintro ⟨h1, h2⟩
    refine ⟨⟨s.data.toList, ?_, fun c hc => ?_, rfl⟩, h2⟩
    · exact wordsL_size D n s h1
    · have h3 := wordB_up hD (wordsL_B hD n s h1)
      unfold wordB at h3
      rw [List.all_eq_true] at h3
      exact letB_3 (h3 c hc)
theorem eachL_is {D : Nat} (hD : D ≤ 3) {v w : List UInt8} (hv : wordB (D : Int) v = true) (hw : wordB (D : Int) w = true) (n : Nat) :
    eachL v w n ByteArray.empty = ((wordsL D n).filter fun s => decide (shN v w s.data.toList ≠ 0)).map fun s => (s, shN v w s.data.toList) := by
  rw [← eachL_words hD hv hw n, List.map_map]
  have h : ∀ l : List (ByteArray × Nat), (∀ x ∈ l, x.2 = shN v w x.1.data.toList) → l = l.map ((fun s => (s, shN v w s.data.toList)) ∘ fun x => x.1) := by
    intro l
    induction l with
    | nil => intro _; rfl
    | cons x l ih =>
      intro hx
      rw [List.map_cons, ← ih fun y hy => hx y (List.mem_cons_of_mem _ hy)]
      congr 1
      exact Prod.ext rfl (hx x (List.mem_cons_self ..))
  exact h _ fun x hx => (eachL_num hx).1
end Go.Proofs.YtdgkkcjjfpenpaaGreatDoor
