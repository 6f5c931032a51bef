/-
  Iterated sums: the plain mathematics. No program is named here: sums at letters, strict and weak, from the first entry on and from the last; what both sides hold on the way; how large the sums can be.
-/
namespace Go.Proofs.Ytncodnjnndjjaaa
/-- the strict sum (false) or the weak sum (true) of rows of numbers at letters -/
def sumS (wk : Bool) : List (List Int) → List Nat → Int
  | _, [] => 1
  | [], _ :: _ => 0
  | p :: ps, c :: ks => sumS wk ps (c :: ks) + p.getD c 0 * (if wk then sumS wk (p :: ps) ks else sumS wk ps ks)
termination_by ps ks => ps.length + ks.length
theorem sumS_nil (wk : Bool) (ps : List (List Int)) : sumS wk ps [] = 1 := by cases ps <;> rw [sumS]
theorem sumS_none (wk : Bool) (c : Nat) (ks : List Nat) : sumS wk [] (c :: ks) = 0 := by rw [sumS]
theorem sumS_strict (p : List Int) (ps : List (List Int)) (c : Nat) (ks : List Nat) : sumS false (p :: ps) (c :: ks) = sumS false ps (c :: ks) + p.getD c 0 * sumS false ps ks := by rw [sumS]; simp
theorem sumS_weak (p : List Int) (ps : List (List Int)) (c : Nat) (ks : List Nat) : sumS true (p :: ps) (c :: ks) = sumS true ps (c :: ks) + p.getD c 0 * sumS true (p :: ps) ks := by rw [sumS]; simp
theorem sumS_snone (wk : Bool) (c : Nat) (ks : List Nat) : sumS wk [] (ks ++ [c]) = 0 := by cases ks <;> simp [sumS_none]
/-- one entry more at the end, and one letter more at the end: strict -/
theorem sumS_ssnoc (p : List Int) (c : Nat) : ∀ (ps : List (List Int)) (ks : List Nat), sumS false (ps ++ [p]) (ks ++ [c]) = sumS false ps (ks ++ [c]) + sumS false ps ks * p.getD c 0
  | [], [] => by simp [sumS_strict, sumS_none, sumS_nil]
  | [], k :: ks => by simp [sumS_strict, sumS_none, sumS_snone]
  | q :: ps, [] => by
    have h := sumS_ssnoc p c ps []
    simp only [List.nil_append, List.cons_append, sumS_strict, sumS_nil] at h ⊢
    omega
  | q :: ps, k :: ks => by
    have h1 := sumS_ssnoc p c ps (k :: ks)
    have h2 := sumS_ssnoc p c ps ks
    simp only [List.cons_append, sumS_strict] at h1 h2 ⊢
    rw [h1, h2, Int.mul_add, Int.add_mul, Int.mul_assoc]
    omega
termination_by ps ks => ps.length + ks.length
theorem sumS_wsnoc (p : List Int) (c : Nat) : ∀ (ps : List (List Int)) (ks : List Nat), sumS true (ps ++ [p]) (ks ++ [c]) = sumS true ps (ks ++ [c]) + sumS true (ps ++ [p]) ks * p.getD c 0
  | [], [] => by simp [sumS_weak, sumS_none, sumS_nil]
  | [], k :: ks => by
    have h := sumS_wsnoc p c [] ks
    simp only [List.nil_append, List.cons_append, sumS_weak, sumS_none, sumS_snone] at h ⊢
    rw [h, Int.zero_add, Int.zero_add, Int.zero_add, Int.zero_add, Int.mul_assoc]
  | q :: ps, [] => by
    have h := sumS_wsnoc p c ps []
    simp only [List.nil_append, List.cons_append, sumS_weak, sumS_nil] at h ⊢
    omega
  | q :: ps, k :: ks => by
    have h1 := sumS_wsnoc p c ps (k :: ks)
    have h2 := sumS_wsnoc p c (q :: ps) ks
    simp only [List.cons_append, sumS_weak] at h1 h2 ⊢
    rw [h1, h2, Int.mul_add, Int.add_mul, Int.mul_assoc]
    omega
termination_by ps ks => ps.length + ks.length

def accS (f : Nat → Int) : Nat → Int
  | 0 => 0
  | n + 1 => accS f n + 100 * f (n + 1)
/-- how large the sums can be: by letters and entries -/
def bdS : Nat → Nat → Int
  | 0, _ => 1
  | k + 1, n => accS (bdS k) n
theorem accS_pos {f : Nat → Int} (h : ∀ n, 0 ≤ f n) : ∀ n, 0 ≤ accS f n
  | 0 => by simp [accS]
  | n + 1 => by have := accS_pos h n; have := h (n + 1); simp only [accS]; omega
theorem bdS_pos : ∀ k n, 0 ≤ bdS k n
  | 0, n => by simp [bdS]
  | k + 1, n => accS_pos (bdS_pos k) n
theorem bdS_mono (k n : Nat) : bdS k n ≤ bdS k (n + 1) := by
  cases k with
  | zero => simp [bdS]
  | succ k => have := bdS_pos k (n + 1); simp only [bdS, accS]; omega
theorem mul_b100 {x y b : Int} (hx : -100 ≤ x ∧ x ≤ 100) (hy : -b ≤ y ∧ y ≤ b) : -(100 * b) ≤ x * y ∧ x * y ≤ 100 * b := by
  have h1 := Int.mul_nonneg (show 0 ≤ 100 - x by omega) (show 0 ≤ b + y by omega)
  have h2 := Int.mul_nonneg (show 0 ≤ 100 + x by omega) (show 0 ≤ b - y by omega)
  have h3 := Int.mul_nonneg (show 0 ≤ 100 - x by omega) (show 0 ≤ b - y by omega)
  have h4 := Int.mul_nonneg (show 0 ≤ 100 + x by omega) (show 0 ≤ b + y by omega)
  simp only [Int.sub_mul, Int.add_mul, Int.mul_add, Int.mul_sub] at h1 h2 h3 h4
  omega
theorem sumS_bd (wk : Bool) : ∀ (ps : List (List Int)) (_h : ∀ p ∈ ps, ∀ c, -100 ≤ p.getD c 0 ∧ p.getD c 0 ≤ 100) (ks : List Nat), -(bdS ks.length ps.length) ≤ sumS wk ps ks ∧ sumS wk ps ks ≤ bdS ks.length ps.length
  | ps, _, [] => by simp [sumS_nil, bdS]
  | [], _, c :: ks => by simp [sumS_none, bdS, accS]
  | p :: ps, h, c :: ks => by
    have h1 := sumS_bd wk ps (fun q hq => h q (by simp [hq])) (c :: ks)
    have h2 := h p (by simp) c
    simp only [List.length_cons, bdS, accS] at h1 ⊢
    cases wk with
    | false =>
      have h3 := sumS_bd false ps (fun q hq => h q (by simp [hq])) ks
      have h4 := mul_b100 h2 h3
      have h5 := bdS_mono ks.length ps.length
      rw [sumS_strict]
      omega
    | true =>
      have h3 := sumS_bd true (p :: ps) h ks
      simp only [List.length_cons] at h3
      have h4 := mul_b100 h2 h3
      rw [sumS_weak]
      omega
termination_by ps _ ks => ps.length + ks.length
theorem bdS_12 : ∀ k, k ≤ 5 → ∀ n, n ≤ 12 → bdS k n ≤ 43680000000000 := by decide +kernel
theorem sumS_in (wk : Bool) {ps : List (List Int)} (h : ∀ p ∈ ps, ∀ c, -100 ≤ p.getD c 0 ∧ p.getD c 0 ≤ 100) {ks : List Nat} (hk : ks.length ≤ 5) (hp : ps.length ≤ 12) : -43680000000000 ≤ sumS wk ps ks ∧ sumS wk ps ks ≤ 43680000000000 := by
  have h1 := sumS_bd wk ps h ks
  have h2 := bdS_12 ks.length hk ps.length hp
  omega

/-- the sums at all places from which on entries are taken -/
def behL (wk : Bool) (ps : List (List Int)) (ks : List Nat) : List Int := (List.range (ps.length + 1)).map fun i => sumS wk (ps.drop i) ks
theorem behL_length (wk : Bool) (ps : List (List Int)) (ks : List Nat) : (behL wk ps ks).length = ps.length + 1 := by simp [behL]
theorem behL_get (wk : Bool) (ps : List (List Int)) (ks : List Nat) (i : Nat) (h : i < (behL wk ps ks).length) : (behL wk ps ks)[i] = sumS wk (ps.drop i) ks := by simp [behL]
/-- the row while places are filled from the last one on: those from `u` on stand -/
def nexL (wk : Bool) (ps : List (List Int)) (ks : List Nat) (u : Nat) : List Int := (List.range (ps.length + 1)).map fun i => if u ≤ i then sumS wk (ps.drop i) ks else 0
theorem nexL_length (wk : Bool) (ps : List (List Int)) (ks : List Nat) (u : Nat) : (nexL wk ps ks u).length = ps.length + 1 := by simp [nexL]
theorem nexL_get (wk : Bool) (ps : List (List Int)) (ks : List Nat) (u i : Nat) (h : i < (nexL wk ps ks u).length) : (nexL wk ps ks u)[i] = if u ≤ i then sumS wk (ps.drop i) ks else 0 := by simp [nexL]
theorem nexL_zero (wk : Bool) (ps : List (List Int)) (c : Nat) (ks : List Nat) : nexL wk ps (c :: ks) ps.length = List.replicate (ps.length + 1) 0 := by
  apply List.ext_getElem
  · simp [nexL_length]
  · intro i h1 h2
    rw [nexL_get, List.getElem_replicate]
    have hi : i < ps.length + 1 := by simpa [nexL_length] using h1
    by_cases h : ps.length ≤ i
    · rw [if_pos h, List.drop_eq_nil_of_le h, sumS_none]
    · rw [if_neg h]
theorem nexL_done (wk : Bool) (ps : List (List Int)) (ks : List Nat) : nexL wk ps ks 0 = behL wk ps ks := by simp [nexL, behL]
/-- one place more -/
theorem nexL_set (wk : Bool) (ps : List (List Int)) (c : Nat) (ks : List Nat) (u : Nat) (hu : u < ps.length) :
    (nexL wk ps (c :: ks) (u + 1)).set u (sumS wk (ps.drop (u + 1)) (c :: ks) + (ps[u]).getD c 0 * sumS wk (ps.drop (if wk then u else u + 1)) ks) = nexL wk ps (c :: ks) u := by
  apply List.ext_getElem
  · simp [nexL_length]
  · intro i h1 h2
    rw [List.getElem_set, nexL_get wk ps (c :: ks) u i h2]
    by_cases e : u = i
    · subst e
      rw [if_pos rfl, if_pos (Nat.le_refl _)]
      have hd : ps.drop u = ps[u] :: ps.drop (u + 1) := List.drop_eq_getElem_cons hu
      cases wk with
      | false => rw [hd, sumS_strict]; simp
      | true => rw [hd, sumS_weak]; simp
    · rw [if_neg e, nexL_get]
      by_cases h : u + 1 ≤ i
      · rw [if_pos h, if_pos (by omega)]
      · rw [if_neg h, if_neg (by omega)]
/-- the first row: ones -/
def onesL (m j : Nat) : List Int := (List.range m).map fun i => if i < j then 1 else 0
theorem onesL_length (m j : Nat) : (onesL m j).length = m := by simp [onesL]
theorem onesL_get (m j i : Nat) (h : i < (onesL m j).length) : (onesL m j)[i] = if i < j then 1 else 0 := by simp [onesL]
theorem onesL_zero (m : Nat) : onesL m 0 = List.replicate m 0 := by
  apply List.ext_getElem
  · simp [onesL_length]
  · intro i h1 h2
    rw [onesL_get, List.getElem_replicate, if_neg (Nat.not_lt_zero _)]
theorem onesL_set (m j : Nat) : (onesL m j).set j 1 = onesL m (j + 1) := by
  apply List.ext_getElem
  · simp [onesL_length]
  · intro i h1 h2
    rw [List.getElem_set, onesL_get m (j + 1) i h2]
    by_cases e : j = i
    · subst e; rw [if_pos rfl, if_pos (by omega)]
    · rw [if_neg e, onesL_get]
      by_cases h : i < j
      · rw [if_pos h, if_pos (by omega)]
      · rw [if_neg h, if_neg (by omega)]
theorem onesL_done (wk : Bool) (ps : List (List Int)) : onesL (ps.length + 1) (ps.length + 1) = behL wk ps [] := by
  apply List.ext_getElem
  · simp [onesL_length, behL_length]
  · intro i h1 h2
    rw [onesL_get, behL_get, sumS_nil, if_pos (by simpa [onesL_length] using h1)]

/-- the program's six sums while an entry is taken in: those at beginnings of the word with at most `u` letters are the new ones in the weak way, those with more in the strict way -/
def sixL (wk : Bool) (ps : List (List Int)) (ks : List Nat) (j u : Nat) : List Int :=
  (List.range 6).map fun m => if m ≤ ks.length then sumS wk (ps.take (if (if wk then m ≤ u else u < m) then j + 1 else j)) (ks.take m) else 0
theorem sixL_length (wk : Bool) (ps : List (List Int)) (ks : List Nat) (j u : Nat) : (sixL wk ps ks j u).length = 6 := by simp [sixL]
theorem sixL_get (wk : Bool) (ps : List (List Int)) (ks : List Nat) (j u m : Nat) (h : m < (sixL wk ps ks j u).length) (hm : m ≤ ks.length) : (sixL wk ps ks j u)[m] = sumS wk (ps.take (if (if wk then m ≤ u else u < m) then j + 1 else j)) (ks.take m) := by
  simp [sixL, hm]
theorem sixL_off (wk : Bool) (ps : List (List Int)) (ks : List Nat) (j u m : Nat) (h : m < (sixL wk ps ks j u).length) (hm : ¬ m ≤ ks.length) : (sixL wk ps ks j u)[m] = 0 := by
  simp [sixL, hm]
theorem sixL_start (wk : Bool) (ps : List (List Int)) (ks : List Nat) : sixL wk ps ks 0 (if wk then 0 else ks.length) = [1, 0, 0, 0, 0, 0] := by
  apply List.ext_getElem
  · simp [sixL_length]
  · intro m h1 h2
    have h6 : m < 6 := by simpa [sixL_length] using h1
    have hR : ([1, 0, 0, 0, 0, 0] : List Int)[m] = if m = 0 then 1 else 0 := by
      have : m = 0 ∨ m = 1 ∨ m = 2 ∨ m = 3 ∨ m = 4 ∨ m = 5 := by omega
      rcases this with rfl | rfl | rfl | rfl | rfl | rfl <;> rfl
    rw [hR]
    by_cases hm : m ≤ ks.length
    · rw [sixL_get _ _ _ _ _ _ _ hm]
      by_cases h0 : m = 0
      · subst h0; simp [sumS_nil]
      · rw [if_neg h0]
        have hw : (if (if wk then m ≤ (if wk then 0 else ks.length) else (if wk then 0 else ks.length) < m) then 0 + 1 else 0) = 0 := by
          cases wk <;> simp <;> omega
        rw [hw, List.take_zero]
        cases ks with
        | nil => simp at hm; omega
        | cons c ks =>
          obtain ⟨m', rfl⟩ : ∃ m', m = m' + 1 := ⟨m - 1, by omega⟩
          rw [List.take_succ_cons, sumS_none]
    · rw [sixL_off _ _ _ _ _ _ _ hm, if_neg (by omega)]
theorem sixL_next (wk : Bool) (ps : List (List Int)) (ks : List Nat) (j : Nat) : sixL wk ps ks j (if wk then ks.length else 0) = sixL wk ps ks (j + 1) (if wk then 0 else ks.length) := by
  apply List.ext_getElem
  · simp [sixL_length]
  · intro m h1 h2
    by_cases hm : m ≤ ks.length
    · rw [sixL_get _ _ _ _ _ _ _ hm, sixL_get _ _ _ _ _ _ _ hm]
      cases wk with
      | true =>
        by_cases h0 : m = 0
        · subst h0; simp [sumS_nil]
        · simp [hm, h0]
      | false =>
        by_cases h0 : m = 0
        · subst h0; simp [sumS_nil]
        · simp [show 0 < m by omega, show ¬ ks.length < m by omega]
    · rw [sixL_off _ _ _ _ _ _ _ hm, sixL_off _ _ _ _ _ _ _ hm]
/-- one sum more: strict (from the last letter on) -/
theorem sixL_sset (ps : List (List Int)) (ks : List Nat) (j k : Nat) (hj : j < ps.length) (hk : k < ks.length) (_h6 : ks.length ≤ 5) :
    (sixL false ps ks j (k + 1)).set (k + 1) (sumS false (ps.take j) (ks.take (k + 1)) + sumS false (ps.take j) (ks.take k) * (ps[j]).getD ks[k] 0) = sixL false ps ks j k := by
  apply List.ext_getElem
  · simp [sixL_length]
  · intro m h1 h2
    rw [List.getElem_set]
    by_cases e : k + 1 = m
    · subst e
      rw [if_pos rfl, sixL_get _ _ _ _ _ _ _ (by omega)]
      simp only [Bool.false_eq_true, if_false]
      rw [if_pos (Nat.lt_succ_self _), List.take_succ_eq_append_getElem hj, List.take_succ_eq_append_getElem hk, sumS_ssnoc]
    · rw [if_neg e]
      by_cases hm : m ≤ ks.length
      · rw [sixL_get _ _ _ _ _ _ _ hm, sixL_get _ _ _ _ _ _ _ hm]
        simp only [Bool.false_eq_true, if_false]
        by_cases h : k + 1 < m
        · rw [if_pos h, if_pos (by omega)]
        · rw [if_neg h, if_neg (by omega)]
      · rw [sixL_off _ _ _ _ _ _ _ hm, sixL_off _ _ _ _ _ _ _ hm]
/-- one sum more: weak (from the first letter on) -/
theorem sixL_wset (ps : List (List Int)) (ks : List Nat) (j k : Nat) (hj : j < ps.length) (hk : k < ks.length) (_h6 : ks.length ≤ 5) :
    (sixL true ps ks j k).set (k + 1) (sumS true (ps.take j) (ks.take (k + 1)) + sumS true (ps.take (j + 1)) (ks.take k) * (ps[j]).getD ks[k] 0) = sixL true ps ks j (k + 1) := by
  apply List.ext_getElem
  · simp [sixL_length]
  · intro m h1 h2
    rw [List.getElem_set]
    by_cases e : k + 1 = m
    · subst e
      rw [if_pos rfl, sixL_get _ _ _ _ _ _ _ (by omega)]
      simp only [if_true]
      rw [if_pos (Nat.le_refl _), List.take_succ_eq_append_getElem hj, List.take_succ_eq_append_getElem hk, sumS_wsnoc]
    · rw [if_neg e]
      by_cases hm : m ≤ ks.length
      · rw [sixL_get _ _ _ _ _ _ _ hm, sixL_get _ _ _ _ _ _ _ hm]
        simp only [if_true]
        by_cases h : m ≤ k
        · rw [if_pos h, if_pos (by omega)]
        · rw [if_neg h, if_neg (by omega)]
      · rw [sixL_off _ _ _ _ _ _ _ hm, sixL_off _ _ _ _ _ _ _ hm]
end Go.Proofs.Ytncodnjnndjjaaa
