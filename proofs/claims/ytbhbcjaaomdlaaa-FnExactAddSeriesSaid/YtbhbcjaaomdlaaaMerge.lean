/-
  Plain mathematics of the program's way to add two rows of terms: how far it has come, round by round.
-/
import Derived.Test.YtbhbcjaaomdlaaaSumL
namespace Go.Proofs.Ytbhbcjaaomdlaaa

/-- so far: `acc` has been gathered, the places i and j are reached -/
def MergeAt (ts ys acc : List Tm) (i j : Nat) : Prop := i ≤ ts.length ∧ j ≤ ys.length ∧ mergeL ts ys = (mergeL (ts.drop i) (ys.drop j)).map (acc ++ ·) ∧ acc.length ≤ i + j ∧ ∀ t ∈ acc, bdT t

theorem MergeAt.start (ts ys : List Tm) : MergeAt ts ys [] 0 0 := ⟨Nat.zero_le _, Nat.zero_le _, by simp, Nat.le_refl _, fun _ h => by cases h⟩

theorem MergeAt.lt {ts ys acc : List Tm} {i j : Nat} {x y : Tm} (h : MergeAt ts ys acc i j) (hx : ts[i]? = some x) (hy : ys[j]? = some y) (hl : lessT x y = true) (hb : bdT x) : MergeAt ts ys (acc ++ [x]) (i + 1) j := by
  obtain ⟨h1, h2, h3, h4, h5⟩ := h
  obtain ⟨hi, ex⟩ := List.getElem?_eq_some_iff.1 hx
  obtain ⟨hj, ey⟩ := List.getElem?_eq_some_iff.1 hy
  refine ⟨by omega, h2, ?_, by simp; omega, fun t ht => ?_⟩
  · rw [h3, List.drop_eq_getElem_cons hi, List.drop_eq_getElem_cons hj, ex, ey, mergeL]
    simp only [hl, if_true, Option.map_map]
    congr 1
    funext r
    simp
  · rcases List.mem_append.1 ht with ht | ht
    · exact h5 t ht
    · rw [List.mem_singleton.1 ht]; exact hb

theorem MergeAt.gt {ts ys acc : List Tm} {i j : Nat} {x y : Tm} (h : MergeAt ts ys acc i j) (hx : ts[i]? = some x) (hy : ys[j]? = some y) (hl : lessT x y = false) (he : x.s ≠ y.s) (hb : bdT y) : MergeAt ts ys (acc ++ [y]) i (j + 1) := by
  obtain ⟨h1, h2, h3, h4, h5⟩ := h
  obtain ⟨hi, ex⟩ := List.getElem?_eq_some_iff.1 hx
  obtain ⟨hj, ey⟩ := List.getElem?_eq_some_iff.1 hy
  refine ⟨h1, by omega, ?_, by simp; omega, fun t ht => ?_⟩
  · rw [h3, List.drop_eq_getElem_cons hi, List.drop_eq_getElem_cons hj, ex, ey, mergeL]
    simp only [hl, he, Bool.false_eq_true, if_false, Option.map_map]
    congr 1
    funext r
    simp
  · rcases List.mem_append.1 ht with ht | ht
    · exact h5 t ht
    · rw [List.mem_singleton.1 ht]; exact hb

theorem MergeAt.bad {ts ys acc : List Tm} {i j : Nat} {x y : Tm} (h : MergeAt ts ys acc i j) (hx : ts[i]? = some x) (hy : ys[j]? = some y) (hl : lessT x y = false) (he : x.s = y.s) (ho : sumOk x y = false) : mergeL ts ys = none := by
  obtain ⟨h1, h2, h3, h4, h5⟩ := h
  obtain ⟨hi, ex⟩ := List.getElem?_eq_some_iff.1 hx
  obtain ⟨hj, ey⟩ := List.getElem?_eq_some_iff.1 hy
  rw [h3, List.drop_eq_getElem_cons hi, List.drop_eq_getElem_cons hj, ex, ey, mergeL]
  simp [hl, he, ho]

theorem MergeAt.eq {ts ys acc : List Tm} {i j : Nat} {x y : Tm} (h : MergeAt ts ys acc i j) (hx : ts[i]? = some x) (hy : ys[j]? = some y) (hl : lessT x y = false) (he : x.s = y.s) (ho : sumOk x y = true) :
    MergeAt ts ys (acc ++ (if (sumT x y).n = 0 then [] else [sumT x y])) (i + 1) (j + 1) := by
  obtain ⟨h1, h2, h3, h4, h5⟩ := h
  obtain ⟨hi, ex⟩ := List.getElem?_eq_some_iff.1 hx
  obtain ⟨hj, ey⟩ := List.getElem?_eq_some_iff.1 hy
  refine ⟨by omega, by omega, ?_, ?_, fun t ht => ?_⟩
  · rw [h3, List.drop_eq_getElem_cons hi, List.drop_eq_getElem_cons hj, ex, ey, mergeL]
    simp only [hl, he, ho, Bool.false_eq_true, if_false, if_true, Option.map_map]
    congr 1
    funext r
    simp only [Function.comp, conT]
    split <;> simp
  · split <;> simp <;> omega
  · rcases List.mem_append.1 ht with ht | ht
    · exact h5 t ht
    · split at ht
      · cases ht
      · rw [List.mem_singleton.1 ht]; exact f_bd _ _

theorem mergeL_end : ∀ (xs ys : List Tm), (xs = [] ∨ ys = []) → mergeL xs ys = some (xs ++ ys)
  | [], ys, _ => by simp [mergeL]
  | x :: xs, [], _ => by simp [mergeL]
  | x :: xs, y :: ys, h => by rcases h with h | h <;> cases h
theorem MergeAt.done {ts ys acc : List Tm} {i j : Nat} (h : MergeAt ts ys acc i j) (hd : ts.length ≤ i ∨ ys.length ≤ j) : mergeL ts ys = some (acc ++ ts.drop i ++ ys.drop j) := by
  obtain ⟨h1, h2, h3, h4, h5⟩ := h
  rw [h3, mergeL_end _ _ (by rcases hd with h | h; exact .inl (List.drop_eq_nil_of_le h); exact .inr (List.drop_eq_nil_of_le h))]
  simp
theorem mergeL_length : ∀ {xs ys r : List Tm}, mergeL xs ys = some r → r.length ≤ xs.length + ys.length
  | [], ys, r, h => by simp only [mergeL, Option.some.injEq] at h; subst h; simp
  | x :: xs, [], r, h => by simp only [mergeL, Option.some.injEq] at h; subst h; simp
  | x :: xs, y :: ys, r, h => by
    rw [mergeL] at h
    split at h
    · obtain ⟨r', h1, rfl⟩ := Option.map_eq_some_iff.1 h
      have := mergeL_length h1
      simp at *; omega
    · split at h
      · split at h
        · obtain ⟨r', h1, rfl⟩ := Option.map_eq_some_iff.1 h
          have := mergeL_length h1
          have := conT_length (sumT x y) r'
          simp at *; omega
        · cases h
      · obtain ⟨r', h1, rfl⟩ := Option.map_eq_some_iff.1 h
        have := mergeL_length h1
        simp at *; omega
  termination_by xs ys => xs.length + ys.length
end Go.Proofs.Ytbhbcjaaomdlaaa
