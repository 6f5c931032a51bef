/-
  Plain mathematics of texts compared letter by letter.
  The model's test for Lyndon words of chapter 6.
-/
import Derived.Test.YtgcjpenlcokgjaaGreatDoorLyn
import Derived.Test.YtgcjpenlcokgjaaGreatDoorOrd
import Derived.WalkLawsBesides
namespace Go.Proofs.YtgcjpenlcokgjaaGreatDoor
open Go

theorem nl_irr : ∀ a : List UInt8, Op.bytesLess a a = false
  | [] => rfl
  | x :: a => by simp [Op.bytesLess, nl_irr a]
theorem nl_trans : ∀ a b c : List UInt8, Op.bytesLess a b = true → Op.bytesLess b c = true → Op.bytesLess a c = true
  | _, [], c, h, _ => by simp [Op.bytesLess] at h
  | _, _ :: _, [], _, h => by simp [Op.bytesLess] at h
  | [], _ :: _, _ :: _, _, _ => rfl
  | x :: a, y :: b, z :: c, h1, h2 => by
    simp only [Op.bytesLess, Bool.or_eq_true, decide_eq_true_eq, Bool.and_eq_true, beq_iff_eq] at h1 h2 ⊢
    rcases h1 with h1 | ⟨rfl, h1⟩
    · rcases h2 with h2 | ⟨rfl, _⟩
      · exact .inl (UInt8.lt_trans h1 h2)
      · exact .inl h1
    · rcases h2 with h2 | ⟨rfl, h2⟩
      · exact .inl h2
      · exact .inr ⟨rfl, nl_trans a b c h1 h2⟩
theorem nl_tri : ∀ a b : List UInt8, Op.bytesLess a b = false → Op.bytesLess b a = false → a = b
  | [], [], _, _ => rfl
  | [], _ :: _, h, _ => by simp [Op.bytesLess] at h
  | _ :: _, [], _, h => by simp [Op.bytesLess] at h
  | x :: a, y :: b, h1, h2 => by
    simp only [Op.bytesLess, Bool.or_eq_false_iff, decide_eq_false_iff_not, Bool.and_eq_false_iff, beq_eq_false_iff_ne] at h1 h2
    have e : x = y := UInt8.toNat_inj.1 (by
      have a1 : ¬ x.toNat < y.toNat := fun h => h1.1 (UInt8.lt_iff_toNat_lt.2 h)
      have a2 : ¬ y.toNat < x.toNat := fun h => h2.1 (UInt8.lt_iff_toNat_lt.2 h)
      omega)
    subst e
    rw [nl_tri a b (h1.2.resolve_left (fun h => h rfl)) (h2.2.resolve_left (fun h => h rfl))]
theorem ltS_irr (a : ByteArray) : ltS a a = false := nl_irr _
theorem ltS_trans {a b c : ByteArray} (h1 : ltS a b = true) (h2 : ltS b c = true) : ltS a c = true := nl_trans _ _ _ h1 h2
theorem toList_inj {a b : ByteArray} (h : a.toList = b.toList) : a = b := by
  rw [ByteArray.toList_eq, ByteArray.toList_eq] at h
  cases a; cases b
  simpa using h
theorem ltS_tri {a b : ByteArray} (h1 : ltS a b = false) (h2 : ltS b a = false) : a = b := toList_inj (nl_tri _ _ h1 h2)
theorem ltS_asym {a b : ByteArray} (h : ltS a b = true) : ltS b a = false := by
  cases h2 : ltS b a with
  | false => rfl
  | true => have := ltS_trans h h2; rw [ltS_irr] at this; cases this
/-- 'v > w', as the model's text has it -/
theorem gt_is (v w : ByteArray) : (!(Op.bytesLess v.toList w.toList || v.toList == w.toList)) = ltS w v := by
  cases h : ltS w v with
  | true =>
    have h1 : Op.bytesLess v.toList w.toList = false := ltS_asym h
    have h2 : (v.toList == w.toList) = false := by
      rw [beq_eq_false_iff_ne]
      intro e
      unfold ltS at h
      rw [e, nl_irr] at h
      cases h
    rw [h1, h2]; rfl
  | false =>
    cases h1 : Op.bytesLess v.toList w.toList with
    | true => rfl
    | false =>
      have e := nl_tri _ _ h1 h
      rw [e]; simp
theorem lt_yes {s t : ByteArray} (h : ltS s t = true) : Op.bytesLess t.toList s.toList = false ∧ (t.toList == s.toList) = false := by
  refine ⟨ltS_asym h, ?_⟩
  rw [beq_eq_false_iff_ne]
  intro e
  unfold ltS at h
  rw [e, nl_irr] at h
  cases h
theorem lt_no {s t : ByteArray} (h : ltS s t = false) : Op.bytesLess t.toList s.toList = true ∨ (Op.bytesLess t.toList s.toList = false ∧ (t.toList == s.toList) = true) := by
  cases h2 : Op.bytesLess t.toList s.toList with
  | true => exact .inl rfl
  | false => exact .inr ⟨rfl, by rw [ltS_tri h h2]; simp⟩
end Go.Proofs.YtgcjpenlcokgjaaGreatDoor

namespace Go.Proofs.YtgcjpenlcokgjaaGreatDoor
open Go.RowKit

theorem l06Lyndon_c (s : ByteArray) (hs : s.size ≤ maxLen) (w : World) :
    Calls Tryz.prog 62 #[.string s] w fun e w' => e = .returned (.bool (lynB s)) ∧ w = w' := by
  unfold maxLen at hs
  go_enter Tryz.func62, Tryz.ntmps62
  go_wp2
  go_loop [3] (fun i => ∃ k : Nat, 1 ≤ k ∧ (k ≤ s.size ∨ k = 1) ∧ i = .int .i64 k ∧ lynTo s k = true) (fun i => s.size - (intOf i).toNat)
  case atStart => exact ⟨1, Nat.le_refl _, .inr rfl, rfl, lynTo_one s⟩
  case round =>
    obtain ⟨k, hk1, hk, rfl, hw⟩ := hrel
    have Hw := Lib.hid hw
    clear hw
    by_cases hlt : k < s.size
    · cases hl : Op.bytesLess s.toList (s.extract k s.size).toList with
      | true =>
        have HN := Lib.hid (lynTo_succ Hw.out hl)
        obtain ⟨ha, hb⟩ := lt_yes (s := s) (t := s.extract k s.size) hl
        clear hl
        go_wp2
        go_round
        case rel => exact ⟨k + 1, by omega, by omega, by go_num, HN.out⟩
        case measure => simp [intOf]; omega
      | false =>
        have HN := Lib.hid (lynB_no hk1 hlt hl)
        rcases lt_no (s := s) (t := s.extract k s.size) hl with ha | ⟨ha, hb⟩
        · clear hl
          go_wp2
          go_ret
          exact ⟨ret_bool HN.out.symm, rfl⟩
        · clear hl
          go_wp2
          go_ret
          exact ⟨ret_bool HN.out.symm, rfl⟩
    · by_cases h0 : 0 < s.size
      · have HN := Lib.hid (lynB_yes h0 (by have e := Hw.out; rwa [show k = s.size from by omega] at e))
        go_wp2
        go_ret
        exact ⟨ret_bool HN.out.symm, rfl⟩
      · have HN := Lib.hid (lynB_empty (s := s) (by omega))
        go_wp2
        go_ret
        exact ⟨ret_bool HN.out.symm, rfl⟩
end Go.Proofs.YtgcjpenlcokgjaaGreatDoor
