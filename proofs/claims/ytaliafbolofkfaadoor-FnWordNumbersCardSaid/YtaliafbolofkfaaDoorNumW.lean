/-
  Contracts of NumberOfWord, of the program and of its model: both return the same number and code.
-/
import Derived.Test.YtaliafbolofkfaaDoorOrd
namespace Go.Proofs.YtaliafbolofkfaaDoor
open Go.RowKit

theorem ret_two {a b c : Int} (h : a = b) : Ending.returned (.tuple #[.int .i64 a, .int .i64 c]) = .returned (.tuple #[.int .i64 b, .int .i64 c]) := by rw [h]

theorem iNum_bad (d : Int) (s : ByteArray) (hs : s.size ≤ maxLen) (h : ¬ (1 ≤ d ∧ d ≤ 3) ∨ ¬ s.size ≤ 5 ∨ wordB d s.data.toList = false) (w : World) :
    Calls Tryd.prog 8 #[.int .i64 d, .string s] w fun e w' => e = .returned (.tuple #[.int .i64 0, .int .i64 2]) ∧ w = w' := by
  by_cases h1 : 1 ≤ d ∧ d ≤ 3
  · have e1 := inB_yes h1
    have e2 : (decide ((s.size : Int) ≤ 5) && wordB d s.data.toList) = false := by
      rcases h with h | h | h
      · exact absurd h1 h
      · simp only [show ¬ (s.size : Int) ≤ 5 from by omega, decide_false, Bool.false_and]
      · rw [h, Bool.and_false]
    have E2 := Lib.hid e2
    clear h e2
    go_enter Tryd.func8, Tryd.ntmps8
    go_wp2_with (first | (go_at_call 19; refine (isBetween_c _ _ _ _).mono ?_; rintro e w' ⟨rfl, rfl⟩) | (go_at_call 24; refine (isWord_c _ _ _ hs _).mono ?_; rw [E2.out]; rintro e w' ⟨rfl, rfl⟩))
    go_ret2
    exact ⟨rfl, rfl⟩
  · have e1 := inB_no h1
    clear h h1
    go_enter Tryd.func8, Tryd.ntmps8
    go_wp2_with (go_at_call 19; refine (isBetween_c _ _ _ _).mono ?_; rintro e w' ⟨rfl, rfl⟩)
    go_ret2
    exact ⟨rfl, rfl⟩

theorem iNum_good (d : Int) (s : ByteArray) (h1 : 1 ≤ d ∧ d ≤ 3) (h2 : s.size ≤ 5) (h3 : wordB d s.data.toList = true) (w : World) :
    Calls Tryd.prog 8 #[.int .i64 d, .string s] w fun e w' => e = .returned (.tuple #[.int .i64 (numW d s.data.toList), .int .i64 0]) ∧ w = w' := by
  have hs : s.size ≤ maxLen := by unfold maxLen; omega
  have e1 := inB_yes h1
  have E2 := Lib.hid (show (decide ((s.size : Int) ≤ 5) && wordB d s.data.toList) = true by rw [h3]; simp; omega)
  have H3 := Lib.hid h3
  clear h3
  go_enter Tryd.func8, Tryd.ntmps8
  go_wp2_with (first | (go_at_call 19; refine (isBetween_c _ _ _ _).mono ?_; rintro e w' ⟨rfl, rfl⟩) | (go_at_call 24; refine (isWord_c _ _ _ hs _).mono ?_; rw [E2.out]; rintro e w' ⟨rfl, rfl⟩))
  go_loop [6, 19] (fun vn vi => ∃ k : Nat, k ≤ s.size ∧ vi = .int .i64 k ∧ vn = .int .i64 (numW d (s.data.toList.take k))) (fun _ i => s.size - (intOf i).toNat)
  case atStart => exact ⟨0, Nat.zero_le _, rfl, rfl⟩
  case round =>
    obtain ⟨k, hk, rfl, rfl⟩ := hrel
    have b1 := num_bd d h1 _ H3.out k (by simpa using hk) (by simpa using h2)
    by_cases hlt : k < s.size
    · have Hts := Lib.hid (take_snoc s k hlt)
      have HL := Lib.hid (letB_mod (wordB_gets H3.out k hlt))
      have HS := Lib.hid (numW_snoc d (s.data.toList.take k) s[k])
      generalize numW d (s.data.toList.take k) = x at *
      have b2 := mul3 h1 b1
      go_wp2
      go_round
      case rel => exact ⟨k + 1, by omega, by go_num, by rw [Hts.out, HS.out, HL.out]⟩
      case measure => simp [intOf]; omega
    · obtain rfl : k = s.size := by omega
      go_wp2
      go_ret2
      exact ⟨ret_two (by rw [take_all]), rfl⟩

theorem sNum_bad (d : Int) (s : ByteArray) (hs : s.size ≤ maxLen) (h : ¬ (1 ≤ d ∧ d ≤ 3) ∨ ¬ s.size ≤ 5 ∨ wordB d s.data.toList = false) (w : World) :
    Calls Tryd.prog 10 #[.int .i64 d, .string s] w fun e w' => e = .returned (.tuple #[.int .i64 0, .int .i64 2]) ∧ w = w' := by
  by_cases h1 : 1 ≤ d ∧ d ≤ 3
  · have e1 := inB_yes h1
    by_cases h2 : (5 : Int) < (s.size : Int)
    · clear h
      go_enter Tryd.func10, Tryd.ntmps10
      go_wp2_with (first | (go_at_call 22; refine (l01In_c _ _ _ _).mono ?_; rintro e w' ⟨rfl, rfl⟩))
      go_ret2
      exact ⟨rfl, rfl⟩
    · have e2 : wordB d s.data.toList = false := by
        rcases h with h | h | h
        · exact absurd h1 h
        · omega
        · exact h
      clear h
      go_enter Tryd.func10, Tryd.ntmps10
      go_wp2_with (first | (go_at_call 22; refine (l01In_c _ _ _ _).mono ?_; rintro e w' ⟨rfl, rfl⟩) | (go_at_call 26; refine (l01Word_c _ _ hs _).mono ?_; rintro e w' ⟨rfl, rfl⟩))
      go_ret2
      exact ⟨rfl, rfl⟩
  · have e1 := inB_no h1
    clear h h1
    go_enter Tryd.func10, Tryd.ntmps10
    go_wp2_with (go_at_call 22; refine (l01In_c _ _ _ _).mono ?_; rintro e w' ⟨rfl, rfl⟩)
    go_ret2
    exact ⟨rfl, rfl⟩

theorem sNum_good (d : Int) (s : ByteArray) (h1 : 1 ≤ d ∧ d ≤ 3) (h2 : s.size ≤ 5) (h3 : wordB d s.data.toList = true) (w : World) :
    Calls Tryd.prog 10 #[.int .i64 d, .string s] w fun e w' => e = .returned (.tuple #[.int .i64 (numW d s.data.toList), .int .i64 0]) ∧ w = w' := by
  have hs : s.size ≤ maxLen := by unfold maxLen; omega
  have e1 := inB_yes h1
  have H3 := Lib.hid h3
  have HN := Lib.hid (num_eq d s.data.toList s.data.toList.length (Nat.le_refl _))
  go_enter Tryd.func10, Tryd.ntmps10
  go_wp2_with (first | (go_at_call 22; refine (l01In_c _ _ _ _).mono ?_; rintro e w' ⟨rfl, rfl⟩) | (go_at_call 26; refine (l01Word_c _ _ hs _).mono ?_; rintro e w' ⟨rfl, rfl⟩))
  clear h3
  go_loop [6, 7, 8] (fun va vo vi => ∃ k : Nat, k ≤ s.size ∧ vi = .int .i64 k ∧ va = .int .i64 (aheadW d k) ∧ vo = .int .i64 (ownW d (s.data.toList.take k))) (fun _ _ i => s.size - (intOf i).toNat)
  case atStart => exact ⟨0, Nat.zero_le _, rfl, rfl, rfl⟩
  case round =>
    obtain ⟨k, hk, rfl, rfl, rfl⟩ := hrel
    have b1 := own_bd d h1 _ H3.out k (by simpa using hk)
    have b2 := pow_bd d h1 k (by omega)
    have b3 := ahead_bd d h1 k (by omega)
    by_cases hlt : k < s.size
    · have Hts := Lib.hid (take_snoc s k hlt)
      have HL := Lib.hid (letB_mod (wordB_gets H3.out k hlt))
      have HS := Lib.hid (ownW_snoc d (s.data.toList.take k) s[k])
      have HA : Hid (aheadW d (k + 1) = aheadW d k + d ^ k) := Lib.hid rfl
      generalize ownW d (s.data.toList.take k) = x at *
      have b4 := mul3 h1 (show 0 ≤ x ∧ x ≤ 243 by omega)
      go_wp2_with (go_at_call 23; refine (l01Count_c _ _ h1 (by omega) _).mono ?_; rintro e w' ⟨rfl, rfl⟩)
      go_round
      case rel => exact ⟨k + 1, by omega, by go_num, by rw [HA.out], by rw [Hts.out, HS.out, HL.out]⟩
      case measure => simp [intOf]; omega
    · obtain rfl : k = s.size := by omega
      go_wp2
      go_ret2
      refine ⟨ret_two ?_, rfl⟩
      have e := HN.out
      rw [List.take_length, size_list] at e
      rw [e, take_all]
end Go.Proofs.YtaliafbolofkfaaDoor
