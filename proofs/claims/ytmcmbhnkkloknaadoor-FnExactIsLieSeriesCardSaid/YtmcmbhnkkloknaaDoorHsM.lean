/-
  Plain mathematics: whether a series has wanted values at the shuffles of all pairs of words: the first pair that does not, or for which something does not fit, decides.
-/
import Derived.Test.YtmcmbhnkkloknaaDoorShV
import Derived.Test.YtmcmbhnkkloknaaDoorPrM
import Derived.Test.YtmcmbhnkkloknaaDoorSerU
namespace Go.Proofs.YtmcmbhnkkloknaaDoor
set_option linter.unusedVariables false

/-- a pair of words -/
abbrev Pq := ByteArray × ByteArray
/-- what one pair comes to: none where something does not fit -/
def hsAt (ys : List Tm) (D : Nat) (want : Pq → Option (Int × Int)) (p : Pq) : Option Bool :=
  (want p).bind fun q => (pairL ys (shL D p.1 p.2) (0, 1)).map fun a => decide (a = q)
theorem hsAt_1 {ys : List Tm} {D : Nat} {want : Pq → Option (Int × Int)} {p : Pq} (h : want p = none) : hsAt ys D want p = none := by unfold hsAt; rw [h]; rfl
theorem hsAt_2 {ys : List Tm} {D : Nat} {want : Pq → Option (Int × Int)} {p : Pq} {q : Int × Int} (h : want p = some q) (h2 : pairL ys (shL D p.1 p.2) (0, 1) = none) : hsAt ys D want p = none := by unfold hsAt; rw [h, Option.bind_some, h2]; rfl
theorem hsAt_3 {ys : List Tm} {D : Nat} {want : Pq → Option (Int × Int)} {p : Pq} {q a : Int × Int} (h : want p = some q) (h2 : pairL ys (shL D p.1 p.2) (0, 1) = some a) : hsAt ys D want p = some (decide (a = q)) := by unfold hsAt; rw [h, Option.bind_some, h2]; rfl
def hsL (st : Pq → Option Bool) : List Pq → Bool × Int
  | [] => (true, 0)
  | p :: r => match st p with
    | none => (false, 3)
    | some false => (false, 0)
    | some true => hsL st r
theorem hsL_none {st : Pq → Option Bool} {p : Pq} {r : List Pq} (h : st p = none) : hsL st (p :: r) = (false, 3) := by rw [hsL, h]
theorem hsL_no {st : Pq → Option Bool} {p : Pq} {r : List Pq} (h : st p = some false) : hsL st (p :: r) = (false, 0) := by rw [hsL, h]
theorem hsL_yes {st : Pq → Option Bool} {p : Pq} {r : List Pq} (h : st p = some true) : hsL st (p :: r) = hsL st r := by rw [hsL, h]
/-- the pairs of a word with words that are not too long together with it -/
def pqAt (n : Nat) (ws : List ByteArray) (v : ByteArray) : List Pq := (ws.filter fun w => decide (v.size + w.size ≤ n)).map fun w => (v, w)
def pqL (n : Nat) (ws vs : List ByteArray) : List Pq := vs.flatMap (pqAt n ws)
theorem pqAt_yes {n : Nat} {ws : List ByteArray} {v : ByteArray} {j : Nat} (hj : j < ws.length) (h : v.size + (ws[j]).size ≤ n) : pqAt n (ws.drop j) v = (v, ws[j]) :: pqAt n (ws.drop (j + 1)) v := by
  unfold pqAt
  rw [List.drop_eq_getElem_cons hj, List.filter_cons_of_pos (by simpa using h), List.map_cons]
theorem pqAt_no {n : Nat} {ws : List ByteArray} {v : ByteArray} {j : Nat} (hj : j < ws.length) (h : ¬ v.size + (ws[j]).size ≤ n) : pqAt n (ws.drop j) v = pqAt n (ws.drop (j + 1)) v := by
  unfold pqAt
  rw [List.drop_eq_getElem_cons hj, List.filter_cons_of_neg (by simpa using h)]
theorem pqAt_end {n : Nat} {ws : List ByteArray} {v : ByteArray} {j : Nat} (hj : ws.length ≤ j) : pqAt n (ws.drop j) v = [] := by
  rw [List.drop_eq_nil_of_le hj]; rfl
theorem pqAt_stop {n : Nat} {ws : List ByteArray} (hs : ws.Pairwise fun a b => a.size ≤ b.size) {v : ByteArray} {j : Nat} (hj : j < ws.length) (h : ¬ v.size + (ws[j]).size ≤ n) : pqAt n (ws.drop j) v = [] := by
  unfold pqAt
  rw [List.map_eq_nil_iff, List.filter_eq_nil_iff]
  intro w hw
  obtain ⟨k, hk, rfl⟩ := List.getElem_of_mem hw
  rw [List.length_drop] at hk
  rw [List.getElem_drop]
  have hle : (ws[j]).size ≤ (ws[j + k]'(by omega)).size := by
    by_cases e : k = 0
    · subst e; exact Nat.le_refl _
    · exact List.pairwise_iff_getElem.1 hs j (j + k) hj (by omega) (by omega)
  simp only [decide_eq_true_eq]
  omega
theorem pqL_next {n : Nat} {ws vs : List ByteArray} {i : Nat} (hi : i < vs.length) : pqL n ws (vs.drop i) = pqAt n (ws.drop 0) vs[i] ++ pqL n ws (vs.drop (i + 1)) := by
  unfold pqL
  rw [List.drop_eq_getElem_cons hi, List.flatMap_cons]
  rfl
theorem pqL_end {n : Nat} {ws vs : List ByteArray} {i : Nat} (hi : vs.length ≤ i) : pqL n ws (vs.drop i) = [] := by
  unfold pqL
  rw [List.drop_eq_nil_of_le hi]; rfl
/-- the words of 1 to m letters -/
def upW (D : Nat) : Nat → List ByteArray
  | 0 => []
  | m + 1 => upW D m ++ wordsL D (m + 1)
theorem allW_up (D : Nat) : ∀ m, allW D m = ByteArray.empty :: upW D m
  | 0 => rfl
  | m + 1 => by rw [allW, allW_up D m, upW, List.cons_append]
theorem upW_size (D : Nat) : ∀ m, ∀ s ∈ upW D m, 1 ≤ s.size ∧ s.size ≤ m
  | 0, s, h => by cases h
  | m + 1, s, h => by
    rw [upW] at h
    rcases List.mem_append.1 h with h | h
    · have := upW_size D m s h; omega
    · have := wordsL_size D (m + 1) s h; omega
theorem upW_B {D : Nat} (hD : D ≤ 3) : ∀ m, ∀ s ∈ upW D m, wordB (D : Int) s.data.toList = true
  | 0, s, h => by cases h
  | m + 1, s, h => by
    rw [upW] at h
    rcases List.mem_append.1 h with h | h
    · exact upW_B hD m s h
    · exact wordsL_B hD (m + 1) s h
theorem upW_len (D m : Nat) : (upW D m).length + 1 = (allW D m).length := by rw [allW_up]; simp
theorem upW_up (D : Nat) : ∀ m, (upW D m).Pairwise fun a b => a.size ≤ b.size
  | 0 => List.Pairwise.nil
  | m + 1 => by
    rw [upW, List.pairwise_append]
    refine ⟨upW_up D m, ?_, fun a ha b hb => ?_⟩
    · rw [List.pairwise_iff_getElem]
      intro i j hi hj _
      have h1 := wordsL_size D (m + 1) _ (List.getElem_mem hi)
      have h2 := wordsL_size D (m + 1) _ (List.getElem_mem hj)
      omega
    · have h1 := upW_size D m a ha
      have h2 := wordsL_size D (m + 1) b hb
      omega
theorem pqAt_app {n : Nat} {ws us : List ByteArray} {v : ByteArray} (h : ∀ w ∈ us, ¬ v.size + w.size ≤ n) : pqAt n (ws ++ us) v = pqAt n ws v := by
  unfold pqAt
  rw [List.filter_append]
  have e : (us.filter fun w => decide (v.size + w.size ≤ n)) = [] := List.filter_eq_nil_iff.2 fun w hw => by simpa using h w hw
  rw [e, List.append_nil]
/-- the pairs of words of the program are the model's: a word of the greatest length goes with none -/
theorem pqL_same (D m : Nat) : pqL (m + 1) (upW D (m + 1)) (upW D (m + 1)) = pqL (m + 1) (upW D m) (upW D m) := by
  unfold pqL
  rw [upW, List.flatMap_append]
  have h2 : (wordsL D (m + 1)).flatMap (pqAt (m + 1) (upW D m ++ wordsL D (m + 1))) = [] := by
    rw [List.flatMap_eq_nil_iff]
    intro v hv
    have h := wordsL_size D (m + 1) v hv
    unfold pqAt
    rw [List.map_eq_nil_iff, List.filter_eq_nil_iff]
    intro w hw
    simp only [decide_eq_true_eq]
    rcases List.mem_append.1 hw with h3 | h3
    · have := upW_size D m w h3; omega
    · have := wordsL_size D (m + 1) w h3; omega
  rw [h2, List.append_nil]
  have key : ∀ vs : List ByteArray, (∀ v ∈ vs, 1 ≤ v.size) → vs.flatMap (pqAt (m + 1) (upW D m ++ wordsL D (m + 1))) = vs.flatMap (pqAt (m + 1) (upW D m)) := by
    intro vs
    induction vs with
    | nil => intro _; rfl
    | cons v vs ih =>
      intro h
      rw [List.flatMap_cons, List.flatMap_cons, ih fun u hu => h u (List.mem_cons_of_mem _ hu)]
      rw [pqAt_app]
      intro w hw
      have h1 := wordsL_size D (m + 1) w hw
      have h3 := h v (List.mem_cons_self ..)
      omega
  exact key _ fun v hv => (upW_size D m v hv).1
end Go.Proofs.YtmcmbhnkkloknaaDoor
