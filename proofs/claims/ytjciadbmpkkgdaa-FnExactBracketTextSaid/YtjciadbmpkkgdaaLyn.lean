/-
  Contracts of the functions that ask whether a word is a Lyndon word, of the program and of its model.
-/
import Derived.Test.YtjciadbmpkkgdaaWordW
import Derived.Test.YtjciadbmpkkgdaaLynM
import Derived.WalkLawsBesides
namespace Go.Proofs.Ytjciadbmpkkgdaa
open Go.RowKit

theorem l05Lyndon_c (s : ByteArray) (hs : s.size ≤ maxLen) (w : World) :
    Calls Try.prog 71 #[.string s] w fun e w' => e = .returned (.bool (lynB s)) ∧ w = w' := by
  unfold maxLen at hs
  go_enter Try.func71, Try.ntmps71
  go_wp2
  go_loop [3] (fun i => ∃ k : Nat, 1 ≤ k ∧ (k ≤ s.size ∨ k = 1) ∧ i = .int .i64 k ∧ lynTo s k = true) (fun i => s.size - (intOf i).toNat)
  case atStart => exact ⟨1, Nat.le_refl _, .inr rfl, rfl, lynTo_one s⟩
  case round =>
    obtain ⟨k, hk1, hk, rfl, hw⟩ := hrel
    have Hw := Lib.hid hw
    clear hw
    by_cases hlt : k < s.size
    · cases hl : Op.bytesLess s.toList (s.extract k s.size).toList with
      | true =>
        have HN := Lib.hid (lynTo_succ Hw.out hl)
        have hl2 : (!Op.bytesLess s.toList (s.extract k s.size).toList) = false := by rw [hl]; rfl
        clear hl
        go_wp2
        go_round
        case rel => exact ⟨k + 1, by omega, by omega, by go_num, HN.out⟩
        case measure => simp [intOf]; omega
      | false =>
        have HN := Lib.hid (lynB_no hk1 hlt hl)
        have hl2 : (!Op.bytesLess s.toList (s.extract k s.size).toList) = true := by rw [hl]; rfl
        clear hl
        go_wp2
        go_ret
        exact ⟨ret_bool HN.out.symm, rfl⟩
    · by_cases h0 : 0 < s.size
      · have HN := Lib.hid (lynB_yes h0 (by have e := Hw.out; rwa [show k = s.size from by omega] at e))
        go_wp2
        go_ret
        exact ⟨ret_bool HN.out.symm, rfl⟩
      · have HN := Lib.hid (lynB_empty (s := s) (by omega))
        go_wp2
        go_ret
        exact ⟨ret_bool HN.out.symm, rfl⟩

theorem isLyndon_c (s : ByteArray) (hs : s.size ≤ maxLen) (w : World) :
    Calls Try.prog 74 #[.string s] w fun e w' => e = .returned (.bool (lynB s)) ∧ w = w' := by
  unfold maxLen at hs
  go_enter Try.func74, Try.ntmps74
  go_wp2
  go_loop [3] (fun i => ∃ k : Nat, 1 ≤ k ∧ (k ≤ s.size ∨ k = 1) ∧ i = .int .i64 k ∧ lynTo s k = true) (fun i => s.size - (intOf i).toNat)
  case atStart => exact ⟨1, Nat.le_refl _, .inr rfl, rfl, lynTo_one s⟩
  case round =>
    obtain ⟨k, hk1, hk, rfl, hw⟩ := hrel
    have Hw := Lib.hid hw
    clear hw
    by_cases hlt : k < s.size
    · cases hl : Op.bytesLess s.toList (s.extract k s.size).toList with
      | true =>
        have HN := Lib.hid (lynTo_succ Hw.out hl)
        have hl2 : (!Op.bytesLess s.toList (s.extract k s.size).toList) = false := by rw [hl]; rfl
        clear hl
        go_wp2
        go_round
        case rel => exact ⟨k + 1, by omega, by omega, by go_num, HN.out⟩
        case measure => simp [intOf]; omega
      | false =>
        have HN := Lib.hid (lynB_no hk1 hlt hl)
        have hl2 : (!Op.bytesLess s.toList (s.extract k s.size).toList) = true := by rw [hl]; rfl
        clear hl
        go_wp2
        go_ret
        exact ⟨ret_bool HN.out.symm, rfl⟩
    · by_cases h0 : 0 < s.size
      · have HN := Lib.hid (lynB_yes h0 (by have e := Hw.out; rwa [show k = s.size from by omega] at e))
        have HE := Lib.hid (isEmpty_no h0)
        go_wp2
        go_ret
        exact ⟨ret_bool (by rw [HN.out, HE.out]; rfl), rfl⟩
      · have h0' : s.size = 0 := by omega
        have HN := Lib.hid (lynB_empty h0')
        obtain rfl := size_zero h0'
        go_wp2
        go_ret
        exact ⟨ret_bool HN.out.symm, rfl⟩

theorem isShortWord_c (d : Int) (s : ByteArray) (hs : s.size ≤ maxLen) (w : World) :
    Calls Try.prog 73 #[.int .i64 d, .string s] w fun e w' => e = .returned (.bool (shortB d 8 s)) ∧ w = w' := by
  by_cases h1 : 1 ≤ d ∧ d ≤ 3
  · have e1 := inB_yes h1
    cases e2 : (decide ((s.size : Int) ≤ 8) && wordB d s.data.toList) with
    | _ =>
      have HB := Lib.hid (show shortB d 8 s = (decide ((s.size : Int) ≤ 8) && wordB d s.data.toList) by
        have e : decide ((s.size : Int) ≤ 8) = decide (s.size ≤ 8) := by
          apply decide_eq_decide.2; omega
        simp only [shortB, h1, and_self, decide_true, Bool.true_and, e])
      have E2 := Lib.hid e2
      clear e2
      go_enter Try.func73, Try.ntmps73
      go_wp2_with (first | (go_at_call 50; refine (isBetween_c _ _ _ _).mono ?_; rintro e w' ⟨rfl, rfl⟩) | (go_at_call 40; refine (isWord_c _ _ _ hs _).mono ?_; rw [E2.out]; rintro e w' ⟨rfl, rfl⟩))
      go_ret
      exact ⟨ret_bool (by rw [HB.out, E2.out]), rfl⟩
  · have e1 := inB_no h1
    have HB := Lib.hid (show shortB d 8 s = false by simp only [shortB, h1, decide_false, Bool.false_and])
    clear h1
    go_enter Try.func73, Try.ntmps73
    go_wp2_with (go_at_call 50; refine (isBetween_c _ _ _ _).mono ?_; rintro e w' ⟨rfl, rfl⟩)
    go_ret
    exact ⟨ret_bool HB.out.symm, rfl⟩

theorem l05Word_c (d : Int) (n : Nat) (s : ByteArray) (hs : s.size ≤ maxLen) (w : World) :
    Calls Try.prog 70 #[.int .i64 d, .string s, .int .i64 n] w fun e w' => e = .returned (.bool (shortB d n s)) ∧ w = w' := by
  by_cases h1 : 1 ≤ d ∧ d ≤ 3
  · have e1 := inB_yes h1
    by_cases h2 : s.size ≤ n
    · have HB := Lib.hid (show shortB d n s = wordB d s.data.toList by simp only [shortB, h1, h2, and_self, decide_true, Bool.true_and])
      have h2' : (s.size : Int) ≤ (n : Int) := by omega
      clear h2
      go_enter Try.func70, Try.ntmps70
      go_wp2_with (first | (go_at_call 48; refine (l01In_c _ _ _ _).mono ?_; rintro e w' ⟨rfl, rfl⟩) | (go_at_call 45; refine (l01Word_c _ _ hs _).mono ?_; rintro e w' ⟨rfl, rfl⟩))
      go_ret
      exact ⟨ret_bool HB.out.symm, rfl⟩
    · have HB := Lib.hid (show shortB d n s = false by simp only [shortB, h2, decide_false, Bool.false_and, Bool.and_false])
      have h2' : ¬ (s.size : Int) ≤ (n : Int) := by omega
      clear h2
      go_enter Try.func70, Try.ntmps70
      go_wp2_with (first | (go_at_call 48; refine (l01In_c _ _ _ _).mono ?_; rintro e w' ⟨rfl, rfl⟩))
      go_ret
      exact ⟨ret_bool HB.out.symm, rfl⟩
  · have e1 := inB_no h1
    have HB := Lib.hid (show shortB d n s = false by simp only [shortB, h1, decide_false, Bool.false_and])
    clear h1
    go_enter Try.func70, Try.ntmps70
    go_wp2_with (go_at_call 48; refine (l01In_c _ _ _ _).mono ?_; rintro e w' ⟨rfl, rfl⟩)
    go_ret
    exact ⟨ret_bool HB.out.symm, rfl⟩
end Go.Proofs.Ytjciadbmpkkgdaa
