/-
  The search for a term: the order of words is strict and transitive; the contracts of the binary search and of the model's search.
-/
import Derived.Test.YtldjepplklbnoaaImpIs
namespace Go.Proofs.Ytldjepplklbnoaa
open Go.RowKit

theorem bl_irrefl : ∀ a : List UInt8, Op.bytesLess a a = false
  | [] => rfl
  | x :: a => by simp [Op.bytesLess, bl_irrefl a]
theorem bl_trans : ∀ a b c : List UInt8, Op.bytesLess a b = true → Op.bytesLess b c = true → Op.bytesLess a c = true
  | _, [], c, h, _ => by simp [Op.bytesLess] at h
  | _, _ :: _, [], _, h => by simp [Op.bytesLess] at h
  | [], _ :: _, _ :: _, _, _ => rfl
  | x :: a, y :: b, z :: c, h1, h2 => by
    simp only [Op.bytesLess, Bool.or_eq_true, decide_eq_true_eq, Bool.and_eq_true, beq_iff_eq] at h1 h2 ⊢
    rcases h1 with h1 | ⟨rfl, h1⟩
    · rcases h2 with h2 | ⟨rfl, _⟩
      · exact .inl (UInt8.lt_trans h1 h2)
      · exact .inl h1
    · rcases h2 with h2 | ⟨rfl, h2⟩
      · exact .inl h2
      · exact .inr ⟨rfl, bl_trans a b c h1 h2⟩
theorem lessL_irrefl (a : List UInt8) : lessL a a = false := by simp [lessL, bl_irrefl]
theorem lessL_trans {a b c : List UInt8} (h1 : lessL a b = true) (h2 : lessL b c = true) : lessL a c = true := by
  unfold lessL at *
  by_cases e1 : a.length = b.length
  · rw [if_pos e1] at h1
    by_cases e2 : b.length = c.length
    · rw [if_pos e2] at h2
      rw [if_pos (e1.trans e2)]
      exact bl_trans a b c h1 h2
    · rw [if_neg e2] at h2
      simp only [decide_eq_true_eq] at h2
      rw [if_neg (by omega)]
      simp only [decide_eq_true_eq]; omega
  · rw [if_neg e1] at h1
    simp only [decide_eq_true_eq] at h1
    by_cases e2 : b.length = c.length
    · rw [if_neg (by omega)]
      simp only [decide_eq_true_eq]; omega
    · rw [if_neg e2] at h2
      simp only [decide_eq_true_eq] at h2
      rw [if_neg (by omega)]
      simp only [decide_eq_true_eq]; omega
theorem cb_zero : ∀ a b : List UInt8, Lib.compareBytes a b = 0 ↔ a = b
  | [], [] => by simp [Lib.compareBytes]
  | [], _ :: _ => by simp [Lib.compareBytes]
  | _ :: _, [] => by simp [Lib.compareBytes]
  | x :: a, y :: b => by
    have ih := cb_zero a b
    by_cases h1 : x < y
    · have : x ≠ y := by rintro rfl; exact absurd h1 (UInt8.lt_irrefl _)
      simp [Lib.compareBytes, h1, this]
    · by_cases h2 : y < x
      · have : x ≠ y := by rintro rfl; exact absurd h2 (UInt8.lt_irrefl _)
        simp [Lib.compareBytes, h1, h2, this]
      · have h3 : x = y := UInt8.le_antisymm (UInt8.not_lt.1 h2) (UInt8.not_lt.1 h1)
        subst h3
        simp [Lib.compareBytes, h1, ih]
theorem cmpL_zero (a b : List UInt8) : cmpL a b = 0 ↔ a = b := by
  unfold cmpL
  by_cases h : a.length = b.length
  · rw [if_pos h]; exact cb_zero a b
  · have hne : a ≠ b := fun e => h (by rw [e])
    rw [if_neg h]
    split <;> simp [hne]

/-- the words of a list of terms ascend -/
def Asc (ts : List Tm) : Prop := ∀ i j (hj : j < ts.length) (hij : i < j), lessL (ts[i]'(Nat.lt_trans hij hj)).s.data.toList (ts[j]).s.data.toList = true
theorem asc_of_ser {L V : Int} {ts : List Tm} (h : serB L V ts = true) : Asc ts := by
  have hall : ∀ k, k < ts.length → goodAt L V ts k = true := by
    unfold serB at h
    rw [Bool.and_eq_true, List.all_eq_true] at h
    exact fun k hk => h.2 k (List.mem_range.2 hk)
  have step : ∀ k (hk : k + 1 < ts.length), lessL (ts[k]'(by omega)).s.data.toList (ts[k + 1]).s.data.toList = true := fun k hk => by
    have g := hall (k + 1) hk
    simp only [goodAt, List.getElem?_eq_getElem hk, List.getElem?_eq_getElem (show k < ts.length by omega), Bool.and_eq_true] at g
    exact g.2
  intro i j hj hij
  induction j with
  | zero => omega
  | succ j ih =>
    by_cases e : i = j
    · subst e; exact step i hj
    · exact lessL_trans (ih (by omega) (by omega)) (step j hj)

/-- the place at which a word stands or would stand -/
def Place (ts : List Tm) (w : List UInt8) (i : Nat) : Prop := i ≤ ts.length ∧ (∀ j (h : j < ts.length), j < i → lessL (ts[j]).s.data.toList w = true) ∧ (∀ j (h : j < ts.length), i ≤ j → lessL (ts[j]).s.data.toList w = false)
theorem place_before {ts : List Tm} {w : List UInt8} {i : Nat} (h : Place ts w i) (j : Nat) (hj : j < ts.length) (hji : j < i) : (ts[j]).s.data.toList ≠ w := by
  intro e
  have := h.2.1 j hj hji
  rw [e, lessL_irrefl] at this
  cases this
theorem place_behind {ts : List Tm} {w : List UInt8} {i : Nat} (ha : Asc ts) (h : Place ts w i) (j : Nat) (hj : j < ts.length) (hij : i < j) : (ts[j]).s.data.toList ≠ w := by
  intro e
  have h1 := ha i j hj hij
  rw [e] at h1
  rw [h.2.2 i (by omega) (Nat.le_refl _)] at h1
  cases h1

end Go.Proofs.Ytldjepplklbnoaa
