/-
  Square matrices by their entries; products of words; the program's product of two matrices.
-/
import Derived.Test.YtknigggjnjkhbaaTabM
import Derived.Test.YtknigggjnjkhbaaSqOf
namespace Go.Proofs.Ytknigggjnjkhbaa
open Go.RowKit

abbrev MF := Nat → Nat → Int
/-- the rows of a square matrix -/
def tabF (n : Nat) (F : MF) : List (List Int) := (List.range n).map fun i => (List.range n).map (F i)
theorem tabF_length (n : Nat) (F : MF) : (tabF n F).length = n := by simp [tabF]
theorem tabF_row {n i : Nat} {F : MF} (h : i < (tabF n F).length) : (tabF n F)[i] = (List.range n).map (F i) := by simp [tabF]
theorem tabF_rowlen {n i : Nat} {F : MF} (h : i < (tabF n F).length) : ((tabF n F)[i]).length = n := by simp [tabF]
theorem tabF_get {n i j : Nat} {F : MF} (h : i < (tabF n F).length) (hj : j < ((tabF n F)[i]).length) : ((tabF n F)[i])[j] = F i j := by simp [tabF]
theorem tabF_congr {n : Nat} {F G : MF} (h : ∀ i j, i < n → j < n → F i j = G i j) : tabF n F = tabF n G := by
  unfold tabF
  refine List.map_congr_left fun i hi => List.map_congr_left fun j hj => ?_
  exact h i j (List.mem_range.1 hi) (List.mem_range.1 hj)
theorem flat_le {n : Nat} : ∀ ps : List (List Int), (∀ z ∈ ps, z.length ≤ n) → flat ps ≤ ps.length * n
  | [], _ => by simp [flat]
  | z :: r, h => by
    have h1 := flat_le r (fun y hy => h y (by simp [hy]))
    have h2 := h z (by simp)
    simp only [flat, List.length_cons, Nat.add_mul, Nat.one_mul]
    omega
theorem flat_tabF {n : Nat} (hn : n ≤ 6) (F : MF) : flat (tabF n F) ≤ 36 := by
  have h := flat_le (n := n) (tabF n F) (fun z hz => by
    obtain ⟨i, hi, rfl⟩ := List.mem_iff_getElem.1 hz
    rw [tabF_rowlen]; exact Nat.le_refl _)
  rw [tabF_length] at h
  have := Nat.mul_le_mul hn hn
  omega
/-- a list of lists by its entries -/
def entF (ps : List (List Int)) : MF := fun i j => (ps.getD i []).getD j 0
def Sq (n : Nat) (ps : List (List Int)) : Prop := ps.length = n ∧ ∀ i (h : i < ps.length), (ps[i]).length = n
theorem getD_at {α : Type} {l : List α} {i : Nat} {d : α} (h : i < l.length) : l.getD i d = l[i] := by
  rw [List.getD_eq_getElem?_getD, List.getElem?_eq_getElem h]; rfl
theorem Sq.tab {n : Nat} {ps : List (List Int)} (h : Sq n ps) : ps = tabF n (entF ps) := by
  refine List.ext_getElem (by rw [tabF_length]; exact h.1) fun i h1 h2 => ?_
  rw [tabF_row]
  refine List.ext_getElem (by simp [h.2 i h1]) fun j h3 h4 => ?_
  simp only [List.getElem_map, List.getElem_range, entF]
  rw [getD_at h1, getD_at h3]

/-- one entry of a row of rows -/
theorem PRow.ent {lo hi : Nat} {w : World} {a : Option Addr} {n : Nat} {F : MF} (h : PRow lo hi w a (tabF n F)) {i : Nat} (hi' : i < n) :
    ∃ b off a' c, a = some ⟨b, off, none⟩ ∧ b < hi ∧ w.cell? ⟨b, off + i, none⟩ = some (.slice a' n c) ∧ ∃ b' off', a' = some ⟨b', off', none⟩ ∧ (lo ≤ b' ∧ b' < hi) ∧ ∀ j, j < n → w.cell? ⟨b', off' + j, none⟩ = some (.int .i64 (F i j)) := by
  have hl := tabF_length n F
  rcases h with h | ⟨b, off, e, a1, a2, a3⟩
  · rw [h] at hl; simp at hl; omega
  · obtain ⟨a', c, q, r⟩ := a3 i (by omega)
    rw [tabF_rowlen] at q
    refine ⟨b, off, a', c, e, a2, q, ?_⟩
    rcases r with r | ⟨b', off', e', h1, h2, h3⟩
    · have := tabF_rowlen (n := n) (F := F) (i := i) (by omega)
      rw [r] at this
      simp at this
      omega
    · refine ⟨b', off', e', ⟨h1, h2⟩, fun j hj => ?_⟩
      have hj' : j < ((tabF n F)[i]'(by omega)).length := by rw [tabF_rowlen]; exact hj
      rw [h3 j hj', tabF_get]

/-- a grid by its entries -/
def GridF (n h g : Nat) (w : World) (f : MF) : Prop :=
  h ≠ g ∧ Made w h n ∧ Made w g (n * n) ∧ (∀ i, i < n → ∃ c, w.cell? ⟨h, i, none⟩ = some (.slice (some ⟨g, i * n, none⟩) n c)) ∧ ∀ i j, i < n → j < n → w.cell? ⟨g, i * n + j, none⟩ = some (.int .i64 (f i j))
theorem GridF.below {B n h g : Nat} {w w' : World} {f : MF} (k : GridF n h g w f) (hb : Below B w w') (h1 : h < B) (h2 : g < B) : GridF n h g w' f :=
  ⟨k.1, k.2.1.below hb h1, k.2.2.1.below hb h2, fun i hi => by obtain ⟨c, q⟩ := k.2.2.2.1 i hi; exact ⟨c, (hb.cell (p := ⟨h, i, none⟩) h1).trans q⟩, fun i j hi hj => (hb.cell (p := ⟨g, _, none⟩) h2).trans (k.2.2.2.2 i j hi hj)⟩
theorem GridF.set {n h g : Nat} {w : World} {f : MF} (k : GridF n h g w f) {i j : Nat} (hi : i < n) (hj : j < n) (x : Int) :
    GridF n h g (w.setCell ⟨g, i * n + j, none⟩ (.int .i64 x)) (fun r c => if r = i ∧ c = j then x else f r c) := by
  obtain ⟨k1, k2, k3, k4, k5⟩ := k
  have hfit := row_fits (n := n) hi
  refine ⟨k1, k2.set _ _, k3.set _ _, fun r hr => ?_, fun r c hr hc => ?_⟩
  · obtain ⟨c, q⟩ := k4 r hr
    exact ⟨c, by rw [World.cell?_setCell_other _ _ _ _ (fun e => by injection e with e; exact k1 e.symm)]; exact q⟩
  · show _ = some (Value.int .i64 (if r = i ∧ c = j then x else f r c))
    by_cases e : r = i ∧ c = j
    · obtain ⟨rfl, rfl⟩ := e
      rw [if_pos ⟨rfl, rfl⟩]
      obtain ⟨⟨u, hu⟩, _⟩ := k3.2 (r * n + c) (by omega)
      exact World.cell?_setCell_same _ _ _ hu
    · rw [if_neg e]
      have hne : i * n + j ≠ r * n + c := by
        rcases Nat.lt_trichotomy i r with h1 | h1 | h1
        · have := rows_apart (n := n) h1; omega
        · subst h1; omega
        · have := rows_apart (n := n) h1; omega
      rw [World.cell?_setCell_other _ _ _ _ (fun e2 => by injection e2 with _ e3; omega)]
      exact k5 r c hr hc
theorem GridP.f {n lo hi : Nat} {w : World} {a : Option Addr} {F : MF} (k : GridP n lo hi w a (tabF n F)) : ∃ h g, a = some ⟨h, 0, none⟩ ∧ lo ≤ h ∧ h < hi ∧ lo ≤ g ∧ g < hi ∧ GridF n h g w F := by
  obtain ⟨h, g, C, e, a1, a2, a3, a4, k1, k2, k3, k4⟩ := k
  have hl := tabF_length n F
  rw [hl] at k2 k3
  refine ⟨h, g, e, a1, a2, a3, a4, k1, k2, k3, fun i hi => ⟨C i, (k4 i (by omega)).1⟩, fun i j hi hj => ?_⟩
  have hj' : j < ((tabF n F)[i]'(by omega)).length := by rw [tabF_rowlen]; exact hj
  rw [(k4 i (by omega)).2.2 j hj', tabF_get]
theorem GridF.p {n lo hi h g : Nat} {w : World} {F : MF} (k : GridF n h g w F) (a1 : lo ≤ h) (a2 : h < hi) (a3 : lo ≤ g) (a4 : g < hi) : GridP n lo hi w (some ⟨h, 0, none⟩) (tabF n F) := by
  obtain ⟨k1, k2, k3, k4, k5⟩ := k
  have hl := tabF_length n F
  have e : ∀ i, ∃ c, i < n → w.cell? ⟨h, i, none⟩ = some (.slice (some ⟨g, i * n, none⟩) n c) := fun i => by
    by_cases hi : i < n
    · obtain ⟨c, q⟩ := k4 i hi
      exact ⟨c, fun _ => q⟩
    · exact ⟨0, fun q => absurd q hi⟩
  refine ⟨h, g, fun i => Classical.choose (e i), rfl, a1, a2, a3, a4, k1, by rw [hl]; exact k2, by rw [hl]; exact k3, fun i hi => ⟨Classical.choose_spec (e i) (by omega), tabF_rowlen _, fun j hj => ?_⟩⟩
  have hj2 : j < n := by rw [tabF_rowlen] at hj; exact hj
  rw [tabF_get]
  exact k5 i j (by omega) hj2
theorem sqL_tab (n : Nat) (v : Int) : sqL n v = tabF n (fun _ _ => v) := by
  refine List.ext_getElem (by simp [sqL, tabF]) fun i h1 h2 => ?_
  refine List.ext_getElem (by simp [sqL, tabF]) fun j h3 h4 => ?_
  simp [sqL, tabF]

-- products
def dotT (A B : MF) (i j : Nat) : Nat → Int
  | 0 => 0
  | k + 1 => dotT A B i j k + A i k * B k j
def mulT (n : Nat) (A B : MF) : MF := fun i j => dotT A B i j n
def unitT : MF := fun i j => if i = j then 1 else 0
def BdF (n : Nat) (M : Int) (A : MF) : Prop := ∀ i j, i < n → j < n → -M ≤ A i j ∧ A i j ≤ M
theorem prod_bd {x y : Int} (hx : -1000000000 ≤ x ∧ x ≤ 1000000000) (hy : -1000 ≤ y ∧ y ≤ 1000) : -1000000000000 ≤ x * y ∧ x * y ≤ 1000000000000 := by
  have h1 : (x * y).natAbs ≤ 1000000000 * 1000 := by
    rw [Int.natAbs_mul]
    exact Nat.mul_le_mul (by omega) (by omega)
  omega
theorem dotT_bd {n : Nat} {A B : MF} (hA : BdF n 1000000000 A) (hB : BdF n 1000 B) {i j : Nat} (hi : i < n) (hj : j < n) : ∀ k, k ≤ n → -(1000000000000 * (k : Int)) ≤ dotT A B i j k ∧ dotT A B i j k ≤ 1000000000000 * (k : Int)
  | 0, _ => by simp [dotT]
  | k + 1, hk => by
    have h1 := dotT_bd hA hB hi hj k (by omega)
    have h2 := prod_bd (hA i k hi (by omega)) (hB k j (by omega) hj)
    rw [dotT]
    omega

/-- what a product comes to -/
def MulPost (n : Nat) (F : MF) (W : World) (e : Ending) (w' : World) : Prop :=
  ∃ (a : Option Addr) (c : Nat), e = .returned (.tuple #[.slice a n c, .int .i64 0]) ∧ Below W.heap.size W w' ∧ GridP n W.heap.size w'.heap.size w' a (tabF n F)

theorem addWhole_c (x y z : Int) (hx : -6000000000000 ≤ x ∧ x ≤ 6000000000000) (hp : -1000000000000 ≤ y * z ∧ y * z ≤ 1000000000000) (w : World) :
    Calls Try.prog 69 #[.int .i64 x, .int .i64 y, .int .i64 z] w fun e w' => e = .returned (.tuple #[.int .i64 (x + y * z), .int .i64 0]) ∧ w = w' := by
  go_enter Try.func69, Try.ntmps69
  go_wp2
  go_ret2
  exact ⟨rfl, rfl⟩
end Go.Proofs.Ytknigggjnjkhbaa
