/-
  Plain mathematics of words: letters, numbers of words. No program is named here.
  Contracts of the functions that look at words.
  The order of words: the contracts of the functions that compare words, of the program and of its model.
-/
import Derived.Test.YtolbgdgoambliaaArith
import Derived.Lib.Bytealg
import Derived.Lib.Walk
import Derived.WalkLawsBesides
namespace Go.Proofs.Ytolbgdgoambliaa
/-- is the byte a letter for `d` letters? is the list a word for `d` letters? -/
def letB (d : Int) (c : UInt8) : Bool := decide (48 ≤ (c.toNat : Int) ∧ (c.toNat : Int) - 48 < d)
def wordB (d : Int) (l : List UInt8) : Bool := l.all (letB d)
theorem wordB_nil (d : Int) : wordB d [] = true := rfl
theorem wordB_snoc (d : Int) (l : List UInt8) (c : UInt8) : wordB d (l ++ [c]) = (wordB d l && letB d c) := by simp [wordB]
theorem letB_yes {d : Int} {c : UInt8} (h1 : 48 ≤ (c.toNat : Int)) (h2 : (c.toNat : Int) - 48 < d) : letB d c = true := by simp [letB, h1, h2]
theorem letB_low {d : Int} {c : UInt8} (h1 : (c.toNat : Int) < 48) : letB d c = false := by simp only [letB, decide_eq_false_iff_not]; omega
theorem letB_high {d : Int} {c : UInt8} (h1 : d ≤ (c.toNat : Int) - 48) : letB d c = false := by simp only [letB, decide_eq_false_iff_not]; omega
theorem letB_true {d : Int} {c : UInt8} (h : letB d c = true) : 48 ≤ (c.toNat : Int) ∧ (c.toNat : Int) - 48 < d := by simpa [letB] using h
theorem wordB_take {d : Int} {l : List UInt8} (h : wordB d l = true) (k : Nat) : wordB d (l.take k) = true := by
  unfold wordB at *; rw [List.all_eq_true] at *; exact fun x hx => h x (List.mem_of_mem_take hx)
theorem wordB_get {d : Int} {l : List UInt8} (h : wordB d l = true) (k : Nat) (hk : k < l.length) : letB d l[k] = true := by
  unfold wordB at h; rw [List.all_eq_true] at h; exact h _ (List.getElem_mem hk)
theorem wordB_no {d : Int} {l : List UInt8} (k : Nat) (hk : k < l.length) (h : letB d l[k] = false) : wordB d l = false := by
  cases hw : wordB d l with
  | false => rfl
  | true => rw [wordB_get hw k hk] at h; cases h
theorem take_snoc (s : ByteArray) (k : Nat) (h : k < s.size) : s.data.toList.take (k + 1) = s.data.toList.take k ++ [s[k]] := by
  rw [List.take_succ_eq_append_getElem (by simpa using h)]; rfl
theorem take_all (s : ByteArray) : s.data.toList.take s.size = s.data.toList := List.take_of_length_le (by simp)
theorem get_list (s : ByteArray) (k : Nat) (h : k < s.size) : s[k] = s.data.toList[k]'(by simpa using h) := rfl

theorem wordB_nos {d : Int} {s : ByteArray} (k : Nat) (hk : k < s.size) (h : letB d s[k] = false) : wordB d s.data.toList = false :=
  wordB_no k (by simpa using hk) h
theorem wordB_gets {d : Int} {s : ByteArray} (hw : wordB d s.data.toList = true) (k : Nat) (hk : k < s.size) : letB d s[k] = true :=
  wordB_get hw k (by simpa using hk)

/-- the number of a word, by the two ways of reckoning -/
def numW (d : Int) (l : List UInt8) : Int := l.foldl (fun a c => a * d + ((c.toNat : Int) - 48) + 1) 0
def ownW (d : Int) (l : List UInt8) : Int := l.foldl (fun a c => a * d + ((c.toNat : Int) - 48)) 0
def aheadW (d : Int) : Nat → Int
  | 0 => 0
  | k + 1 => aheadW d k + d ^ k
theorem numW_snoc (d : Int) (l : List UInt8) (c : UInt8) : numW d (l ++ [c]) = numW d l * d + ((c.toNat : Int) - 48) + 1 := by simp [numW]
theorem ownW_snoc (d : Int) (l : List UInt8) (c : UInt8) : ownW d (l ++ [c]) = ownW d l * d + ((c.toNat : Int) - 48) := by simp [ownW]
theorem aheadW_mul (d : Int) (k : Nat) : aheadW d k * d + 1 = aheadW d (k + 1) := by
  induction k with
  | zero => simp [aheadW]
  | succ k ih =>
    show (aheadW d k + d ^ k) * d + 1 = aheadW d (k + 1) + d ^ (k + 1)
    rw [Int.add_mul, Int.pow_succ]; omega
theorem num_eq (d : Int) (l : List UInt8) : ∀ k, k ≤ l.length → numW d (l.take k) = aheadW d k + ownW d (l.take k)
  | 0, _ => by simp [numW, aheadW, ownW]
  | k + 1, h => by
    have ih := num_eq d l k (by omega)
    rw [List.take_succ_eq_append_getElem (by omega), numW_snoc, ownW_snoc, ih, Int.add_mul, ← aheadW_mul]
    omega
theorem pow_bd (d : Int) (hd : 1 ≤ d ∧ d ≤ 3) (k : Nat) (hk : k ≤ 5) : 1 ≤ d ^ k ∧ d ^ k ≤ 243 := by
  have h : d = 1 ∨ d = 2 ∨ d = 3 := by omega
  have hk' : k = 0 ∨ k = 1 ∨ k = 2 ∨ k = 3 ∨ k = 4 ∨ k = 5 := by omega
  rcases h with rfl | rfl | rfl <;> rcases hk' with rfl | rfl | rfl | rfl | rfl | rfl <;> decide
theorem ahead_bd (d : Int) (hd : 1 ≤ d ∧ d ≤ 3) (k : Nat) (hk : k ≤ 6) : 0 ≤ aheadW d k ∧ aheadW d k ≤ 364 := by
  have h : d = 1 ∨ d = 2 ∨ d = 3 := by omega
  have hk' : k = 0 ∨ k = 1 ∨ k = 2 ∨ k = 3 ∨ k = 4 ∨ k = 5 ∨ k = 6 := by omega
  rcases h with rfl | rfl | rfl <;> rcases hk' with rfl | rfl | rfl | rfl | rfl | rfl | rfl <;> decide
theorem own_bd (d : Int) (hd : 1 ≤ d ∧ d ≤ 3) (l : List UInt8) (h : wordB d l = true) : ∀ k, k ≤ l.length → 0 ≤ ownW d (l.take k) ∧ ownW d (l.take k) < d ^ k
  | 0, _ => by simp [ownW]
  | k + 1, hk => by
    have hi := own_bd d hd l h k (by omega)
    have hl := letB_true (wordB_get h k (by omega))
    rw [List.take_succ_eq_append_getElem (by omega), ownW_snoc, Int.pow_succ]
    generalize ownW d (l.take k) = x at *
    generalize d ^ k = y at *
    have e : d = 1 ∨ d = 2 ∨ d = 3 := by omega
    rcases e with rfl | rfl | rfl <;> omega
theorem num_bd (d : Int) (hd : 1 ≤ d ∧ d ≤ 3) (l : List UInt8) (h : wordB d l = true) (k : Nat) (hk : k ≤ l.length) (hl : l.length ≤ 5) : 0 ≤ numW d (l.take k) ∧ numW d (l.take k) ≤ 606 := by
  have e := num_eq d l k hk
  have a := ahead_bd d hd k (by omega)
  have b := own_bd d hd l h k hk
  have c := pow_bd d hd k (by omega)
  omega

/-- what NumberOfWord comes to: the number and the code -/
def numR (d : Int) (l : List UInt8) : Int × Int := if (decide (1 ≤ d ∧ d ≤ 3) && decide (l.length ≤ 5)) && wordB d l then (numW d l, 0) else (0, 2)
theorem numR_d {d : Int} {l : List UInt8} (h : ¬ (1 ≤ d ∧ d ≤ 3)) : numR d l = (0, 2) := by simp only [numR, h, decide_false, Bool.false_and, Bool.false_eq_true, if_false]
theorem numR_l {d : Int} {l : List UInt8} (h : ¬ l.length ≤ 5) : numR d l = (0, 2) := by simp only [numR, h, decide_false, Bool.and_false, Bool.false_and, Bool.false_eq_true, if_false]
theorem numR_w {d : Int} {l : List UInt8} (h : wordB d l = false) : numR d l = (0, 2) := by simp only [numR, h, Bool.and_false, Bool.false_eq_true, if_false]
theorem numR_y {d : Int} {l : List UInt8} (h1 : 1 ≤ d ∧ d ≤ 3) (h2 : l.length ≤ 5) (h3 : wordB d l = true) : numR d l = (numW d l, 0) := by simp [numR, h1, h2, h3]
theorem size_list (s : ByteArray) : s.data.toList.length = s.size := by simp
theorem mul3 {x d : Int} (hd : 1 ≤ d ∧ d ≤ 3) {B : Int} (hx : 0 ≤ x ∧ x ≤ B) : 0 ≤ x * d ∧ x * d ≤ B * 3 := by
  have e : d = 1 ∨ d = 2 ∨ d = 3 := by omega
  rcases e with rfl | rfl | rfl <;> omega
theorem letB_mod {d : Int} {c : UInt8} (h : letB d c = true) : ((c.toNat : Int) - 48) % 256 = (c.toNat : Int) - 48 := by
  have := letB_true h
  have := c.toNat_lt
  omega
end Go.Proofs.Ytolbgdgoambliaa

namespace Go.Proofs.Ytolbgdgoambliaa
open Go.RowKit

theorem ret_bool {a b : Bool} (h : a = b) : Ending.returned (.bool a) = .returned (.bool b) := by rw [h]

theorem l01Word_c (d : Int) (s : ByteArray) (hs : s.size ≤ maxLen) (w : World) :
    Calls Try.prog 52 #[.int .i64 d, .string s] w fun e w' => e = .returned (.bool (wordB d s.data.toList)) ∧ w = w' := by
  unfold maxLen at hs
  go_enter Try.func52, Try.ntmps52
  go_wp2
  go_loop [5] (fun i => ∃ k : Nat, k ≤ s.size ∧ i = .int .i64 k ∧ wordB d (s.data.toList.take k) = true) (fun i => s.size - (intOf i).toNat)
  case atStart => exact ⟨0, Nat.zero_le _, rfl, rfl⟩
  case round =>
    obtain ⟨k, hk, rfl, hw⟩ := hrel
    have Hw := Lib.hid hw
    clear hw
    by_cases hlt : k < s.size
    · have Hts := Lib.hid (take_snoc s k hlt)
      by_cases h1 : (s[k].toNat : Int) < 48
      · have HF := Lib.hid (letB_low (d := d) h1)
        go_wp2
        go_ret
        exact ⟨ret_bool (wordB_nos k hlt HF.out).symm, rfl⟩
      · by_cases h2 : d ≤ ((s[k].toNat : Int) - 48) % 256
        · have HF := Lib.hid (letB_high (d := d) (c := s[k]) (by have := s[k].toNat_lt; omega))
          go_wp2
          go_ret
          exact ⟨ret_bool (wordB_nos k hlt HF.out).symm, rfl⟩
        · have HF := Lib.hid (letB_yes (d := d) (c := s[k]) (by omega) (by have := s[k].toNat_lt; omega))
          go_wp2
          go_round
          case rel => exact ⟨k + 1, by omega, by go_num, by rw [Hts.out, wordB_snoc, Hw.out, HF.out]; rfl⟩
          case measure => simp [intOf]; omega
    · go_wp2
      go_ret
      refine ⟨ret_bool ?_, rfl⟩
      have e := Hw.out
      rw [show k = s.size from by omega, take_all] at e
      exact e.symm

theorem areLetters_c (d : Int) (s : ByteArray) (hs : s.size ≤ maxLen) (w : World) :
    Calls Try.prog 60 #[.int .i64 d, .string s] w fun e w' => e = .returned (.bool (wordB d s.data.toList)) ∧ w = w' := by
  unfold maxLen at hs
  go_enter Try.func60, Try.ntmps60
  go_wp2
  go_loop [8] (fun i => ∃ k : Nat, k ≤ s.size ∧ i = .int .i64 k ∧ wordB d (s.data.toList.take k) = true) (fun i => s.size - (intOf i).toNat)
  case atStart => exact ⟨0, Nat.zero_le _, rfl, rfl⟩
  case round =>
    obtain ⟨k, hk, rfl, hw⟩ := hrel
    have Hw := Lib.hid hw
    clear hw
    by_cases hlt : k < s.size
    · have Hts := Lib.hid (take_snoc s k hlt)
      by_cases h1 : (s[k].toNat : Int) < 48
      · have HF := Lib.hid (letB_low (d := d) h1)
        go_wp2
        go_ret
        exact ⟨ret_bool (wordB_nos k hlt HF.out).symm, rfl⟩
      · by_cases h2 : d ≤ ((s[k].toNat : Int) - 48) % 256
        · have HF := Lib.hid (letB_high (d := d) (c := s[k]) (by have := s[k].toNat_lt; omega))
          go_wp2
          go_ret
          exact ⟨ret_bool (wordB_nos k hlt HF.out).symm, rfl⟩
        · have HF := Lib.hid (letB_yes (d := d) (c := s[k]) (by omega) (by have := s[k].toNat_lt; omega))
          go_wp2
          go_round
          case rel => exact ⟨k + 1, by omega, by go_num, by rw [Hts.out, wordB_snoc, Hw.out, HF.out]; rfl⟩
          case measure => simp [intOf]; omega
    · go_wp2
      go_ret
      refine ⟨ret_bool ?_, rfl⟩
      have e := Hw.out
      rw [show k = s.size from by omega, take_all] at e
      exact e.symm

theorem isWord_c (d n : Int) (s : ByteArray) (hs : s.size ≤ maxLen) (w : World) :
    Calls Try.prog 49 #[.int .i64 d, .int .i64 n, .string s] w fun e w' => e = .returned (.bool (decide ((s.size : Int) ≤ n) && wordB d s.data.toList)) ∧ w = w' := by
  have HL := Lib.hid (areLetters_c d s hs w)
  unfold maxLen at hs
  by_cases hn : (s.size : Int) ≤ n
  · have Hd : Hid (decide ((s.size : Int) ≤ n) = true) := by simpa [Hid] using hn
    go_enter Try.func49, Try.ntmps49
    go_wp2_with fail
    refine HL.out.mono ?_
    rintro e w' ⟨rfl, rfl⟩
    go_wp2
    go_ret
    exact ⟨ret_bool (by rw [Hd.out]; simp), rfl⟩
  · have Hd : Hid (decide ((s.size : Int) ≤ n) = false) := by simpa [Hid] using hn
    go_enter Try.func49, Try.ntmps49
    go_wp2
    go_ret
    exact ⟨ret_bool (by rw [Hd.out]; rfl), rfl⟩

theorem l01Count_c (d : Int) (n : Nat) (hd : 1 ≤ d ∧ d ≤ 3) (hn : n ≤ 5) (w : World) :
    Calls Try.prog 56 #[.int .i64 d, .int .i64 n] w fun e w' => e = .returned (.int .i64 (d ^ n)) ∧ w = w' := by
  go_enter Try.func56, Try.ntmps56
  go_wp2
  go_loop [1, 5] (fun vn vo => ∃ k : Nat, k ≤ n ∧ vn = .int .i64 ((n - k : Nat) : Int) ∧ vo = .int .i64 (d ^ k)) (fun vn _ => (intOf vn).toNat)
  case atStart => exact ⟨0, Nat.zero_le _, rfl, by rw [Int.pow_zero]⟩
  case round =>
    obtain ⟨k, hk, rfl, rfl⟩ := hrel
    have b1 := pow_bd d hd k (by omega)
    by_cases hlt : k < n
    · have b2 := pow_bd d hd (k + 1) (by omega)
      rw [Int.pow_succ] at b2
      have e1 : (0 : Int) < ((n - k : Nat) : Int) := by omega
      have HP := Lib.hid (Int.pow_succ d k)
      generalize d ^ k = x at *
      go_wp2
      go_round
      case rel => exact ⟨k + 1, by omega, by congr 1; omega, by rw [HP.out]⟩
      case measure => simp [intOf]; omega
    · obtain rfl : k = n := by omega
      have e0 : ((k - k : Nat) : Int) = 0 := by omega
      go_wp2
      go_ret
      exact ⟨rfl, rfl⟩
end Go.Proofs.Ytolbgdgoambliaa

namespace Go.Proofs.Ytolbgdgoambliaa
open Go.RowKit

/-- does a word come ahead of another one? and the number that says so -/
def lessL (a b : List UInt8) : Bool := if a.length = b.length then Op.bytesLess a b else decide (a.length < b.length)
def cmpL (a b : List UInt8) : Int := if a.length = b.length then Lib.compareBytes a b else if a.length < b.length then -1 else 1

theorem cmpL_eq (a b : ByteArray) : (if (if (a.size : Int) < (b.size : Int) then (-1 : Int) else if (b.size : Int) < (a.size : Int) then 1 else 0) = 0 then Lib.compareBytes a.data.toList b.data.toList else (if (a.size : Int) < (b.size : Int) then (-1 : Int) else if (b.size : Int) < (a.size : Int) then 1 else 0)) = cmpL a.data.toList b.data.toList := by
  unfold cmpL
  have e1 : a.data.toList.length = a.size := by simp
  have e2 : b.data.toList.length = b.size := by simp
  rw [e1, e2]
  rcases Nat.lt_trichotomy a.size b.size with h | h | h
  · rw [if_pos (show (a.size : Int) < b.size by omega), if_neg (by omega), if_neg (by omega), if_pos h]
  · rw [if_neg (show ¬ (a.size : Int) < b.size by omega), if_neg (show ¬ (b.size : Int) < a.size by omega), if_pos rfl, if_pos h]
  · rw [if_neg (show ¬ (a.size : Int) < b.size by omega), if_pos (show (b.size : Int) < a.size by omega), if_neg (by omega), if_neg (by omega), if_neg (by omega)]

theorem cmpL_lt : ∀ (a b : List UInt8), (Lib.compareBytes a b < 0) ↔ Op.bytesLess a b = true
  | [], [] => by simp [Lib.compareBytes, Op.bytesLess]
  | [], _ :: _ => by simp [Lib.compareBytes, Op.bytesLess]
  | _ :: _, [] => by simp [Lib.compareBytes, Op.bytesLess]
  | x :: a, y :: b => by
    have ih := cmpL_lt a b
    by_cases h1 : x < y
    · simp [Lib.compareBytes, Op.bytesLess, h1]
    · by_cases h2 : y < x
      · have h3 : ¬ x = y := by rintro rfl; exact h1 h2
        simp [Lib.compareBytes, Op.bytesLess, h1, h2, h3]
      · have h3 : x = y := by
          have := UInt8.le_antisymm (UInt8.not_lt.1 h2) (UInt8.not_lt.1 h1)
          exact this
        subst h3
        simp [Lib.compareBytes, Op.bytesLess, h1, ih]
theorem lessL_cmp (a b : List UInt8) : (cmpL a b < 0) ↔ lessL a b = true := by
  unfold cmpL lessL
  by_cases h : a.length = b.length
  · rw [if_pos h, if_pos h]; exact cmpL_lt a b
  · rw [if_neg h, if_neg h]
    by_cases h2 : a.length < b.length
    · simp [h2]
    · simp [h2]
end Go.Proofs.Ytolbgdgoambliaa
