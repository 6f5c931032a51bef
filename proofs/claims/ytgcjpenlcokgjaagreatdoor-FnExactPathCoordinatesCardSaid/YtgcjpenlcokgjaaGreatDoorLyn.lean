/-
  Plain mathematics of Lyndon words: a word with letters that is less than each of its proper ends. No program is named here.
  Contracts of the functions that ask whether a word is a Lyndon word, of the program and of its model.
-/
import Derived.Test.YtgcjpenlcokgjaaGreatDoorOrd
import Derived.WalkKit
import Derived.WalkLawsBesides
namespace Go.Proofs.YtgcjpenlcokgjaaGreatDoor

/-- is a text less than another one? -/
def ltS (a b : ByteArray) : Bool := Op.bytesLess a.toList b.toList
/-- what is left of a text behind its first i letters -/
def endS (s : ByteArray) (i : Nat) : ByteArray := s.extract i s.size
/-- is a text less than its ends from 1 to k - 1? -/
def lynTo (s : ByteArray) (k : Nat) : Bool := (List.range k).all fun j => decide (j = 0) || ltS s (endS s j)
/-- is a text a Lyndon word? -/
def lynB (s : ByteArray) : Bool := decide (0 < s.size) && lynTo s s.size
theorem lynTo_one (s : ByteArray) : lynTo s 1 = true := by simp [lynTo]
theorem lynTo_zero (s : ByteArray) : lynTo s 0 = true := by simp [lynTo]
theorem lynTo_succ {s : ByteArray} {k : Nat} (h : lynTo s k = true) (hl : ltS s (endS s k) = true) : lynTo s (k + 1) = true := by
  unfold lynTo at *
  rw [List.range_succ, List.all_append, h]
  simp [hl]
theorem lynTo_no {s : ByteArray} {k n : Nat} (h1 : 1 ≤ k) (hk : k < n) (hl : ltS s (endS s k) = false) : lynTo s n = false := by
  cases h : lynTo s n with
  | false => rfl
  | true =>
    have e := (List.all_eq_true.1 h) k (List.mem_range.2 hk)
    simp [hl] at e
    omega
theorem lynB_no {s : ByteArray} {k : Nat} (h1 : 1 ≤ k) (hk : k < s.size) (hl : ltS s (endS s k) = false) : lynB s = false := by
  rw [lynB, lynTo_no h1 hk hl, Bool.and_false]
theorem lynB_yes {s : ByteArray} (h0 : 0 < s.size) (h : lynTo s s.size = true) : lynB s = true := by simp [lynB, h0, h]
theorem lynB_true {s : ByteArray} (h : lynB s = true) : 0 < s.size ∧ lynTo s s.size = true := by simpa [lynB] using h
theorem lynB_empty {s : ByteArray} (h : s.size = 0) : lynB s = false := by simp [lynB, h]
theorem lynB_letter {s : ByteArray} (h : s.size = 1) : lynB s = true := lynB_yes (by omega) (by rw [h]; exact lynTo_one s)
theorem endS_size (s : ByteArray) (i : Nat) : (endS s i).size = s.size - i := by simp [endS, ByteArray.size_extract]
theorem size_zero {s : ByteArray} (h : s.size = 0) : s = ByteArray.empty := by
  simpa using h
theorem isEmpty_no {s : ByteArray} (h : 0 < s.size) : s.toList.isEmpty = false := by
  have h3 : s.size = s.data.size := rfl
  rw [ByteArray.toList_eq, List.isEmpty_eq_false_iff]
  intro e
  have h2 : s.data.size = 0 := by rw [← Array.length_toList, e]; rfl
  omega
/-- are the arguments a word as told? -/
def shortB (d : Int) (n : Nat) (s : ByteArray) : Bool := decide (1 ≤ d ∧ d ≤ 3) && (decide (s.size ≤ n) && wordB d s.data.toList)
theorem shortB_true {d : Int} {n : Nat} {s : ByteArray} (h : shortB d n s = true) : (1 ≤ d ∧ d ≤ 3) ∧ s.size ≤ n ∧ wordB d s.data.toList = true := by
  simp only [shortB, Bool.and_eq_true, decide_eq_true_eq] at h
  exact h
end Go.Proofs.YtgcjpenlcokgjaaGreatDoor

namespace Go.Proofs.YtgcjpenlcokgjaaGreatDoor
open Go.RowKit

theorem isLyndon_c (s : ByteArray) (hs : s.size ≤ maxLen) (w : World) :
    Calls Tryz.prog 70 #[.string s] w fun e w' => e = .returned (.bool (lynB s)) ∧ w = w' := by
  unfold maxLen at hs
  go_enter Tryz.func70, Tryz.ntmps70
  go_wp2
  go_loop [3] (fun i => ∃ k : Nat, 1 ≤ k ∧ (k ≤ s.size ∨ k = 1) ∧ i = .int .i64 k ∧ lynTo s k = true) (fun i => s.size - (intOf i).toNat)
  case atStart => exact ⟨1, Nat.le_refl _, .inr rfl, rfl, lynTo_one s⟩
  case round =>
    obtain ⟨k, hk1, hk, rfl, hw⟩ := hrel
    have Hw := Lib.hid hw
    clear hw
    by_cases hlt : k < s.size
    · cases hl : Op.bytesLess s.toList (s.extract k s.size).toList with
      | true =>
        have HN := Lib.hid (lynTo_succ Hw.out hl)
        have hl2 : (!Op.bytesLess s.toList (s.extract k s.size).toList) = false := by rw [hl]; rfl
        clear hl
        go_wp2
        go_round
        case rel => exact ⟨k + 1, by omega, by omega, by go_num, HN.out⟩
        case measure => simp [intOf]; omega
      | false =>
        have HN := Lib.hid (lynB_no hk1 hlt hl)
        have hl2 : (!Op.bytesLess s.toList (s.extract k s.size).toList) = true := by rw [hl]; rfl
        clear hl
        go_wp2
        go_ret
        exact ⟨ret_bool HN.out.symm, rfl⟩
    · by_cases h0 : 0 < s.size
      · have HN := Lib.hid (lynB_yes h0 (by have e := Hw.out; rwa [show k = s.size from by omega] at e))
        have HE := Lib.hid (isEmpty_no h0)
        go_wp2
        go_ret
        exact ⟨ret_bool (by rw [HN.out, HE.out]; rfl), rfl⟩
      · have h0' : s.size = 0 := by omega
        have HN := Lib.hid (lynB_empty h0')
        obtain rfl := size_zero h0'
        go_wp2
        go_ret
        exact ⟨ret_bool HN.out.symm, rfl⟩

end Go.Proofs.YtgcjpenlcokgjaaGreatDoor
