/-
  Plain mathematics: a series has at most 1024 terms, for its words are different ones of few letters; letters by their numbers. No program is named here.
-/
import Derived.Test.YtlaaldpejjlbkaaDoorPartOf
namespace Go.Proofs.YtlaaldpejjlbkaaDoor

def codeU : List UInt8 → Nat
  | [] => 0
  | c :: l => (c.toNat - 47) + 4 * codeU l
theorem codeU_lt : ∀ {l : List UInt8}, wordB 3 l = true → codeU l < 4 ^ l.length
  | [], _ => by simp [codeU]
  | c :: l, h => by
    simp only [wordB, List.all_cons, Bool.and_eq_true] at h
    have h1 := letB_true h.1
    have ih := codeU_lt (l := l) h.2
    simp only [codeU, List.length_cons, Nat.pow_succ]
    omega
theorem codeU_inj : ∀ {l m : List UInt8}, wordB 3 l = true → wordB 3 m = true → codeU l = codeU m → l = m
  | [], [], _, _, _ => rfl
  | [], c :: m, _, h, e => by
    simp only [wordB, List.all_cons, Bool.and_eq_true] at h
    have h1 := letB_true h.1
    simp only [codeU] at e
    omega
  | c :: l, [], h, _, e => by
    simp only [wordB, List.all_cons, Bool.and_eq_true] at h
    have h1 := letB_true h.1
    simp only [codeU] at e
    omega
  | c :: l, d :: m, h, k, e => by
    simp only [wordB, List.all_cons, Bool.and_eq_true] at h k
    have h1 := letB_true h.1
    have k1 := letB_true k.1
    simp only [codeU] at e
    have e1 : c = d := UInt8.toNat_inj.1 (by omega)
    subst e1
    have e2 := codeU_inj (l := l) (m := m) h.2 k.2 (by omega)
    rw [e2]
theorem sub_len : ∀ (xs ys : List Nat), xs.Pairwise (fun a b => a ≠ b) → (∀ x ∈ xs, x ∈ ys) → xs.length ≤ ys.length
  | [], _, _, _ => Nat.zero_le _
  | x :: xs, ys, h, hm => by
    rw [List.pairwise_cons] at h
    have h1 := hm x (by simp)
    have ih := sub_len xs (ys.erase x) h.2 (fun y hy => (List.mem_erase_of_ne (fun e => h.1 y hy e.symm)).2 (hm y (by simp [hy])))
    rw [List.length_erase_of_mem h1] at ih
    have := List.length_pos_of_mem h1
    rw [List.length_cons]
    omega
def letU (i : Nat) : UInt8 := UInt8.ofNat (48 + (i : Int)).toNat
theorem letU_of {d : Int} {c : UInt8} (h : letB d c = true) : letU (c.toNat - 48) = c := by
  have h1 := letB_true h
  have e : (48 + ((c.toNat - 48 : Nat) : Int)).toNat = c.toNat := by omega
  unfold letU
  rw [e]
  exact UInt8.ofNat_toNat
theorem letU_inj {i j : Nat} (hi : i < 3) (hj : j < 3) (h : letU i = letU j) : i = j := by
  have h1 : i = 0 ∨ i = 1 ∨ i = 2 := by omega
  have h2 : j = 0 ∨ j = 1 ∨ j = 2 := by omega
  rcases h1 with rfl | rfl | rfl <;> rcases h2 with rfl | rfl | rfl <;> first | rfl | (exfalso; revert h; decide)
theorem wordB_three {d : Int} (hd : d ≤ 3) {l : List UInt8} (h : wordB d l = true) : wordB 3 l = true := by
  simp only [wordB, List.all_eq_true] at h ⊢
  intro c hc
  have := letB_true (h c hc)
  exact letB_yes (by omega) (by omega)
theorem ser_few {L V : Int} {ts : List Tm} (h : serB L V ts = true) : ts.length ≤ 1024 := by
  have hLV := shape_out (show shapeB L V = true from by have h := h; unfold serB at h; rw [Bool.and_eq_true] at h; exact h.1)
  have hw : ∀ t ∈ ts, wordB 3 t.s.data.toList = true ∧ t.s.data.toList.length ≤ 5 := fun t ht => by
    have h1 := ser_term h t ht
    simp only [termB, Bool.and_eq_true, decide_eq_true_eq] at h1
    refine ⟨wordB_three (by omega) h1.1.2, ?_⟩
    rw [size_list]
    omega
  have hp : (ts.map fun t => codeU t.s.data.toList).Pairwise (fun a b => a ≠ b) := by
    rw [List.pairwise_map, List.pairwise_iff_getElem]
    intro i j hi hj hij e
    have h1 := asc_of_ser h i j hj hij
    have h2 := codeU_inj (hw _ (List.getElem_mem hi)).1 (hw _ (List.getElem_mem hj)).1 e
    rw [h2, lessL_irrefl] at h1
    cases h1
  have := sub_len _ (List.range 1024) hp (fun x hx => by
    obtain ⟨t, ht, rfl⟩ := List.mem_map.1 hx
    have h1 := codeU_lt (hw t ht).1
    have h2 : 4 ^ t.s.data.toList.length ≤ 4 ^ 5 := Nat.pow_le_pow_right (by omega) (hw t ht).2
    rw [List.mem_range]
    omega)
  simpa using this
theorem ser_letters {L V : Int} {ts : List Tm} (h : serB L V ts = true) : ∀ t ∈ ts, wordB L t.s.data.toList = true := fun t ht => by
  have h1 := ser_term h t ht
  simp only [termB, Bool.and_eq_true] at h1
  exact h1.1.2
end Go.Proofs.YtlaaldpejjlbkaaDoor
