/-
  Plain mathematics of texts compared letter by letter.
  The model's test for Lyndon words of chapter 6.
-/
import Derived.Test.YtolbgdgoambliaaNeck
import Derived.Test.YtolbgdgoambliaaOrd
import Derived.WalkLawsBesides
namespace Go.Proofs.Ytolbgdgoambliaa
open Go

theorem nl_irr : ∀ a : List UInt8, Op.bytesLess a a = false
  | [] => rfl
  | x :: a => by simp [Op.bytesLess, nl_irr a]
theorem nl_trans : ∀ a b c : List UInt8, Op.bytesLess a b = true → Op.bytesLess b c = true → Op.bytesLess a c = true
  | _, [], c, h, _ => by simp [Op.bytesLess] at h
  | _, _ :: _, [], _, h => by simp [Op.bytesLess] at h
  | [], _ :: _, _ :: _, _, _ => rfl
  | x :: a, y :: b, z :: c, h1, h2 => by
    simp only [Op.bytesLess, Bool.or_eq_true, decide_eq_true_eq, Bool.and_eq_true, beq_iff_eq] at h1 h2 ⊢
    rcases h1 with h1 | ⟨rfl, h1⟩
    · rcases h2 with h2 | ⟨rfl, _⟩
      · exact .inl (UInt8.lt_trans h1 h2)
      · exact .inl h1
    · rcases h2 with h2 | ⟨rfl, h2⟩
      · exact .inl h2
      · exact .inr ⟨rfl, nl_trans a b c h1 h2⟩
theorem nl_tri : ∀ a b : List UInt8, Op.bytesLess a b = false → Op.bytesLess b a = false → a = b
  | [], [], _, _ => rfl
  | [], _ :: _, h, _ => by simp [Op.bytesLess] at h
  | _ :: _, [], _, h => by simp [Op.bytesLess] at h
  | x :: a, y :: b, h1, h2 => by
    simp only [Op.bytesLess, Bool.or_eq_false_iff, decide_eq_false_iff_not, Bool.and_eq_false_iff, beq_eq_false_iff_ne] at h1 h2
    have e : x = y := UInt8.toNat_inj.1 (by
      have a1 : ¬ x.toNat < y.toNat := fun h => h1.1 (UInt8.lt_iff_toNat_lt.2 h)
      have a2 : ¬ y.toNat < x.toNat := fun h => h2.1 (UInt8.lt_iff_toNat_lt.2 h)
      omega)
    subst e
    rw [nl_tri a b (h1.2.resolve_left (fun h => h rfl)) (h2.2.resolve_left (fun h => h rfl))]
theorem ltS_irr (a : ByteArray) : ltS a a = false := nl_irr _
theorem ltS_trans {a b c : ByteArray} (h1 : ltS a b = true) (h2 : ltS b c = true) : ltS a c = true := nl_trans _ _ _ h1 h2
theorem toList_inj {a b : ByteArray} (h : a.toList = b.toList) : a = b := by
  rw [ByteArray.toList_eq, ByteArray.toList_eq] at h
  cases a; cases b
  simpa using h
theorem ltS_tri {a b : ByteArray} (h1 : ltS a b = false) (h2 : ltS b a = false) : a = b := toList_inj (nl_tri _ _ h1 h2)
theorem ltS_asym {a b : ByteArray} (h : ltS a b = true) : ltS b a = false := by
  cases h2 : ltS b a with
  | false => rfl
  | true => have := ltS_trans h h2; rw [ltS_irr] at this; cases this
/-- 'v > w', as the model's text has it -/
theorem gt_is (v w : ByteArray) : (!(Op.bytesLess v.toList w.toList || v.toList == w.toList)) = ltS w v := by
  cases h : ltS w v with
  | true =>
    have h1 : Op.bytesLess v.toList w.toList = false := ltS_asym h
    have h2 : (v.toList == w.toList) = false := by
      rw [beq_eq_false_iff_ne]
      intro e
      unfold ltS at h
      rw [e, nl_irr] at h
      cases h
    rw [h1, h2]; rfl
  | false =>
    cases h1 : Op.bytesLess v.toList w.toList with
    | true => rfl
    | false =>
      have e := nl_tri _ _ h1 h
      rw [e]; simp
theorem lt_yes {s t : ByteArray} (h : ltS s t = true) : Op.bytesLess t.toList s.toList = false ∧ (t.toList == s.toList) = false := by
  refine ⟨ltS_asym h, ?_⟩
  rw [beq_eq_false_iff_ne]
  intro e
  unfold ltS at h
  rw [e, nl_irr] at h
  cases h
theorem lt_no {s t : ByteArray} (h : ltS s t = false) : Op.bytesLess t.toList s.toList = true ∨ (Op.bytesLess t.toList s.toList = false ∧ (t.toList == s.toList) = true) := by
  cases h2 : Op.bytesLess t.toList s.toList with
  | true => exact .inl rfl
  | false => exact .inr ⟨rfl, by rw [ltS_tri h h2]; simp⟩
end Go.Proofs.Ytolbgdgoambliaa

namespace Go.Proofs.Ytolbgdgoambliaa
open Go.RowKit

end Go.Proofs.Ytolbgdgoambliaa
