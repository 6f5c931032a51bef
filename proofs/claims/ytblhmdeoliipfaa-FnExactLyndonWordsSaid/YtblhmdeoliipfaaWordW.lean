/-
  Contracts of the functions that look at words.
-/
import Derived.Test.YtblhmdeoliipfaaFrac
import Derived.Test.YtblhmdeoliipfaaWords
namespace Go.Proofs.Ytblhmdeoliipfaa
open Go.RowKit

theorem ret_bool {a b : Bool} (h : a = b) : Ending.returned (.bool a) = .returned (.bool b) := by rw [h]

theorem l01Word_c (d : Int) (s : ByteArray) (hs : s.size ≤ maxLen) (w : World) :
    Calls Try.prog 51 #[.int .i64 d, .string s] w fun e w' => e = .returned (.bool (wordB d s.data.toList)) ∧ w = w' := by
  unfold maxLen at hs
  go_enter Try.func51, Try.ntmps51
  go_wp2
  go_loop [5] (fun i => ∃ k : Nat, k ≤ s.size ∧ i = .int .i64 k ∧ wordB d (s.data.toList.take k) = true) (fun i => s.size - (intOf i).toNat)
  case atStart => exact ⟨0, Nat.zero_le _, rfl, rfl⟩
  case round =>
    obtain ⟨k, hk, rfl, hw⟩ := hrel
    have Hw := Lib.hid hw
    clear hw
    by_cases hlt : k < s.size
    · have Hts := Lib.hid (take_snoc s k hlt)
      by_cases h1 : (s[k].toNat : Int) < 48
      · have HF := Lib.hid (letB_low (d := d) h1)
        go_wp2
        go_ret
        exact ⟨ret_bool (wordB_nos k hlt HF.out).symm, rfl⟩
      · by_cases h2 : d ≤ ((s[k].toNat : Int) - 48) % 256
        · have HF := Lib.hid (letB_high (d := d) (c := s[k]) (by have := s[k].toNat_lt; omega))
          go_wp2
          go_ret
          exact ⟨ret_bool (wordB_nos k hlt HF.out).symm, rfl⟩
        · have HF := Lib.hid (letB_yes (d := d) (c := s[k]) (by omega) (by have := s[k].toNat_lt; omega))
          go_wp2
          go_round
          case rel => exact ⟨k + 1, by omega, by go_num, by rw [Hts.out, wordB_snoc, Hw.out, HF.out]; rfl⟩
          case measure => simp [intOf]; omega
    · go_wp2
      go_ret
      refine ⟨ret_bool ?_, rfl⟩
      have e := Hw.out
      rw [show k = s.size from by omega, take_all] at e
      exact e.symm

theorem isWord_c (d n : Int) (s : ByteArray) (hs : s.size ≤ maxLen) (w : World) :
    Calls Try.prog 54 #[.int .i64 d, .int .i64 n, .string s] w fun e w' => e = .returned (.bool (decide ((s.size : Int) ≤ n) && wordB d s.data.toList)) ∧ w = w' := by
  unfold maxLen at hs
  by_cases hn : n < (s.size : Int)
  · have Hd : Hid (decide ((s.size : Int) ≤ n) = false) := by simpa [Hid] using hn
    go_enter Try.func54, Try.ntmps54
    go_wp2
    go_ret
    exact ⟨ret_bool (by rw [Hd.out]; rfl), rfl⟩
  have Hd : Hid (decide ((s.size : Int) ≤ n) = true) := by simpa [Hid] using hn
  go_enter Try.func54, Try.ntmps54
  go_wp2
  go_loop [14] (fun i => ∃ k : Nat, k ≤ s.size ∧ i = .int .i64 k ∧ wordB d (s.data.toList.take k) = true) (fun i => s.size - (intOf i).toNat)
  case atStart => exact ⟨0, Nat.zero_le _, rfl, rfl⟩
  case round =>
    obtain ⟨k, hk, rfl, hw⟩ := hrel
    have Hw := Lib.hid hw
    clear hw
    by_cases hlt : k < s.size
    · have Hts := Lib.hid (take_snoc s k hlt)
      by_cases h1 : (s[k].toNat : Int) < 48
      · have HF := Lib.hid (letB_low (d := d) h1)
        go_wp2
        go_ret
        exact ⟨ret_bool (by simp [wordB_nos k hlt HF.out]), rfl⟩
      · by_cases h2 : d ≤ ((s[k].toNat : Int) - 48) % 256
        · have HF := Lib.hid (letB_high (d := d) (c := s[k]) (by have := s[k].toNat_lt; omega))
          go_wp2
          go_ret
          exact ⟨ret_bool (by simp [wordB_nos k hlt HF.out]), rfl⟩
        · have HF := Lib.hid (letB_yes (d := d) (c := s[k]) (by omega) (by have := s[k].toNat_lt; omega))
          go_wp2
          go_round
          case rel => exact ⟨k + 1, by omega, by go_num, by rw [Hts.out, wordB_snoc, Hw.out, HF.out]; rfl⟩
          case measure => simp [intOf]; omega
    · go_wp2
      go_ret
      refine ⟨ret_bool ?_, rfl⟩
      have e := Hw.out
      rw [show k = s.size from by omega, take_all] at e
      simp [e]

theorem l01Count_c (d : Int) (n : Nat) (hd : 1 ≤ d ∧ d ≤ 3) (hn : n ≤ 5) (w : World) :
    Calls Try.prog 102 #[.int .i64 d, .int .i64 n] w fun e w' => e = .returned (.int .i64 (d ^ n)) ∧ w = w' := by
  go_enter Try.func102, Try.ntmps102
  go_wp2
  go_loop [1, 5] (fun vn vo => ∃ k : Nat, k ≤ n ∧ vn = .int .i64 ((n - k : Nat) : Int) ∧ vo = .int .i64 (d ^ k)) (fun vn _ => (intOf vn).toNat)
  case atStart => exact ⟨0, Nat.zero_le _, rfl, by rw [Int.pow_zero]⟩
  case round =>
    obtain ⟨k, hk, rfl, rfl⟩ := hrel
    have b1 := pow_bd d hd k (by omega)
    by_cases hlt : k < n
    · have b2 := pow_bd d hd (k + 1) (by omega)
      rw [Int.pow_succ] at b2
      have e1 : (0 : Int) < ((n - k : Nat) : Int) := by omega
      have HP := Lib.hid (Int.pow_succ d k)
      generalize d ^ k = x at *
      go_wp2
      go_round
      case rel => exact ⟨k + 1, by omega, by congr 1; omega, by rw [HP.out]⟩
      case measure => simp [intOf]; omega
    · obtain rfl : k = n := by omega
      have e0 : ((k - k : Nat) : Int) = 0 := by omega
      go_wp2
      go_ret
      exact ⟨rfl, rfl⟩
end Go.Proofs.Ytblhmdeoliipfaa
