/-
  Plain mathematics of Lyndon words: a word with letters that is less than each of its proper ends. No program is named here.
  Contracts of the functions that ask whether a word is a Lyndon word, of the program and of its model.
  Plain mathematics of necklaces: the least of the turned words. No program is named here.
  Contracts of NecklaceOf, of the program and of its model.
-/
import Derived.Test.YtolbgdgoambliaaOrd
import Derived.Test.YtolbgdgoambliaaShelf
import Derived.Test.YtolbgdgoambliaaRes
import Derived.WalkKit
import Derived.WalkLawsBesides
namespace Go.Proofs.Ytolbgdgoambliaa

/-- is a text less than another one? -/
def ltS (a b : ByteArray) : Bool := Op.bytesLess a.toList b.toList
/-- what is left of a text behind its first i letters -/
def endS (s : ByteArray) (i : Nat) : ByteArray := s.extract i s.size
/-- is a text less than its ends from 1 to k - 1? -/
def lynTo (s : ByteArray) (k : Nat) : Bool := (List.range k).all fun j => decide (j = 0) || ltS s (endS s j)
/-- is a text a Lyndon word? -/
def lynB (s : ByteArray) : Bool := decide (0 < s.size) && lynTo s s.size
theorem lynTo_one (s : ByteArray) : lynTo s 1 = true := by simp [lynTo]
theorem lynTo_zero (s : ByteArray) : lynTo s 0 = true := by simp [lynTo]
theorem lynTo_succ {s : ByteArray} {k : Nat} (h : lynTo s k = true) (hl : ltS s (endS s k) = true) : lynTo s (k + 1) = true := by
  unfold lynTo at *
  rw [List.range_succ, List.all_append, h]
  simp [hl]
theorem lynTo_no {s : ByteArray} {k n : Nat} (h1 : 1 ≤ k) (hk : k < n) (hl : ltS s (endS s k) = false) : lynTo s n = false := by
  cases h : lynTo s n with
  | false => rfl
  | true =>
    have e := (List.all_eq_true.1 h) k (List.mem_range.2 hk)
    simp [hl] at e
    omega
theorem lynB_no {s : ByteArray} {k : Nat} (h1 : 1 ≤ k) (hk : k < s.size) (hl : ltS s (endS s k) = false) : lynB s = false := by
  rw [lynB, lynTo_no h1 hk hl, Bool.and_false]
theorem lynB_yes {s : ByteArray} (h0 : 0 < s.size) (h : lynTo s s.size = true) : lynB s = true := by simp [lynB, h0, h]
theorem lynB_true {s : ByteArray} (h : lynB s = true) : 0 < s.size ∧ lynTo s s.size = true := by simpa [lynB] using h
theorem lynB_empty {s : ByteArray} (h : s.size = 0) : lynB s = false := by simp [lynB, h]
theorem lynB_letter {s : ByteArray} (h : s.size = 1) : lynB s = true := lynB_yes (by omega) (by rw [h]; exact lynTo_one s)
theorem endS_size (s : ByteArray) (i : Nat) : (endS s i).size = s.size - i := by simp [endS, ByteArray.size_extract]
theorem size_zero {s : ByteArray} (h : s.size = 0) : s = ByteArray.empty := by
  simpa using h
theorem isEmpty_no {s : ByteArray} (h : 0 < s.size) : s.toList.isEmpty = false := by
  have h3 : s.size = s.data.size := rfl
  rw [ByteArray.toList_eq, List.isEmpty_eq_false_iff]
  intro e
  have h2 : s.data.size = 0 := by rw [← Array.length_toList, e]; rfl
  omega
/-- are the arguments a word as told? -/
def shortB (d : Int) (n : Nat) (s : ByteArray) : Bool := decide (1 ≤ d ∧ d ≤ 3) && (decide (s.size ≤ n) && wordB d s.data.toList)
theorem shortB_true {d : Int} {n : Nat} {s : ByteArray} (h : shortB d n s = true) : (1 ≤ d ∧ d ≤ 3) ∧ s.size ≤ n ∧ wordB d s.data.toList = true := by
  simp only [shortB, Bool.and_eq_true, decide_eq_true_eq] at h
  exact h
end Go.Proofs.Ytolbgdgoambliaa

namespace Go.Proofs.Ytolbgdgoambliaa
open Go.RowKit

theorem l05Lyndon_c (s : ByteArray) (hs : s.size ≤ maxLen) (w : World) :
    Calls Try.prog 33 #[.string s] w fun e w' => e = .returned (.bool (lynB s)) ∧ w = w' := by
  unfold maxLen at hs
  go_enter Try.func33, Try.ntmps33
  go_wp2
  go_loop [3] (fun i => ∃ k : Nat, 1 ≤ k ∧ (k ≤ s.size ∨ k = 1) ∧ i = .int .i64 k ∧ lynTo s k = true) (fun i => s.size - (intOf i).toNat)
  case atStart => exact ⟨1, Nat.le_refl _, .inr rfl, rfl, lynTo_one s⟩
  case round =>
    obtain ⟨k, hk1, hk, rfl, hw⟩ := hrel
    have Hw := Lib.hid hw
    clear hw
    by_cases hlt : k < s.size
    · cases hl : Op.bytesLess s.toList (s.extract k s.size).toList with
      | true =>
        have HN := Lib.hid (lynTo_succ Hw.out hl)
        have hl2 : (!Op.bytesLess s.toList (s.extract k s.size).toList) = false := by rw [hl]; rfl
        clear hl
        go_wp2
        go_round
        case rel => exact ⟨k + 1, by omega, by omega, by go_num, HN.out⟩
        case measure => simp [intOf]; omega
      | false =>
        have HN := Lib.hid (lynB_no hk1 hlt hl)
        have hl2 : (!Op.bytesLess s.toList (s.extract k s.size).toList) = true := by rw [hl]; rfl
        clear hl
        go_wp2
        go_ret
        exact ⟨ret_bool HN.out.symm, rfl⟩
    · by_cases h0 : 0 < s.size
      · have HN := Lib.hid (lynB_yes h0 (by have e := Hw.out; rwa [show k = s.size from by omega] at e))
        go_wp2
        go_ret
        exact ⟨ret_bool HN.out.symm, rfl⟩
      · have HN := Lib.hid (lynB_empty (s := s) (by omega))
        go_wp2
        go_ret
        exact ⟨ret_bool HN.out.symm, rfl⟩

theorem isLyndon_c (s : ByteArray) (hs : s.size ≤ maxLen) (w : World) :
    Calls Try.prog 30 #[.string s] w fun e w' => e = .returned (.bool (lynB s)) ∧ w = w' := by
  unfold maxLen at hs
  go_enter Try.func30, Try.ntmps30
  go_wp2
  go_loop [3] (fun i => ∃ k : Nat, 1 ≤ k ∧ (k ≤ s.size ∨ k = 1) ∧ i = .int .i64 k ∧ lynTo s k = true) (fun i => s.size - (intOf i).toNat)
  case atStart => exact ⟨1, Nat.le_refl _, .inr rfl, rfl, lynTo_one s⟩
  case round =>
    obtain ⟨k, hk1, hk, rfl, hw⟩ := hrel
    have Hw := Lib.hid hw
    clear hw
    by_cases hlt : k < s.size
    · cases hl : Op.bytesLess s.toList (s.extract k s.size).toList with
      | true =>
        have HN := Lib.hid (lynTo_succ Hw.out hl)
        have hl2 : (!Op.bytesLess s.toList (s.extract k s.size).toList) = false := by rw [hl]; rfl
        clear hl
        go_wp2
        go_round
        case rel => exact ⟨k + 1, by omega, by omega, by go_num, HN.out⟩
        case measure => simp [intOf]; omega
      | false =>
        have HN := Lib.hid (lynB_no hk1 hlt hl)
        have hl2 : (!Op.bytesLess s.toList (s.extract k s.size).toList) = true := by rw [hl]; rfl
        clear hl
        go_wp2
        go_ret
        exact ⟨ret_bool HN.out.symm, rfl⟩
    · by_cases h0 : 0 < s.size
      · have HN := Lib.hid (lynB_yes h0 (by have e := Hw.out; rwa [show k = s.size from by omega] at e))
        have HE := Lib.hid (isEmpty_no h0)
        go_wp2
        go_ret
        exact ⟨ret_bool (by rw [HN.out, HE.out]; rfl), rfl⟩
      · have h0' : s.size = 0 := by omega
        have HN := Lib.hid (lynB_empty h0')
        obtain rfl := size_zero h0'
        go_wp2
        go_ret
        exact ⟨ret_bool HN.out.symm, rfl⟩

theorem isShortWord_c (d : Int) (s : ByteArray) (hs : s.size ≤ maxLen) (w : World) :
    Calls Try.prog 26 #[.int .i64 d, .string s] w fun e w' => e = .returned (.bool (shortB d 8 s)) ∧ w = w' := by
  by_cases h1 : 1 ≤ d ∧ d ≤ 3
  · have e1 := inB_yes h1
    cases e2 : (decide ((s.size : Int) ≤ 8) && wordB d s.data.toList) with
    | _ =>
      have HB := Lib.hid (show shortB d 8 s = (decide ((s.size : Int) ≤ 8) && wordB d s.data.toList) by
        have e : decide ((s.size : Int) ≤ 8) = decide (s.size ≤ 8) := by
          apply decide_eq_decide.2; omega
        simp only [shortB, h1, and_self, decide_true, Bool.true_and, e])
      have E2 := Lib.hid e2
      clear e2
      go_enter Try.func26, Try.ntmps26
      go_wp2_with (first | (go_at_call 37; refine (isBetween_c _ _ _ _).mono ?_; rintro e w' ⟨rfl, rfl⟩) | (go_at_call 49; refine (isWord_c _ _ _ hs _).mono ?_; rw [E2.out]; rintro e w' ⟨rfl, rfl⟩))
      go_ret
      exact ⟨ret_bool (by rw [HB.out, E2.out]), rfl⟩
  · have e1 := inB_no h1
    have HB := Lib.hid (show shortB d 8 s = false by simp only [shortB, h1, decide_false, Bool.false_and])
    clear h1
    go_enter Try.func26, Try.ntmps26
    go_wp2_with (go_at_call 37; refine (isBetween_c _ _ _ _).mono ?_; rintro e w' ⟨rfl, rfl⟩)
    go_ret
    exact ⟨ret_bool HB.out.symm, rfl⟩

theorem l05Word_c (d : Int) (n : Nat) (s : ByteArray) (hs : s.size ≤ maxLen) (w : World) :
    Calls Try.prog 28 #[.int .i64 d, .string s, .int .i64 n] w fun e w' => e = .returned (.bool (shortB d n s)) ∧ w = w' := by
  by_cases h1 : 1 ≤ d ∧ d ≤ 3
  · have e1 := inB_yes h1
    by_cases h2 : s.size ≤ n
    · have HB := Lib.hid (show shortB d n s = wordB d s.data.toList by simp only [shortB, h1, h2, and_self, decide_true, Bool.true_and])
      have h2' : (s.size : Int) ≤ (n : Int) := by omega
      clear h2
      go_enter Try.func28, Try.ntmps28
      go_wp2_with (first | (go_at_call 41; refine (l01In_c _ _ _ _).mono ?_; rintro e w' ⟨rfl, rfl⟩) | (go_at_call 52; refine (l01Word_c _ _ hs _).mono ?_; rintro e w' ⟨rfl, rfl⟩))
      go_ret
      exact ⟨ret_bool HB.out.symm, rfl⟩
    · have HB := Lib.hid (show shortB d n s = false by simp only [shortB, h2, decide_false, Bool.false_and, Bool.and_false])
      have h2' : ¬ (s.size : Int) ≤ (n : Int) := by omega
      clear h2
      go_enter Try.func28, Try.ntmps28
      go_wp2_with (first | (go_at_call 41; refine (l01In_c _ _ _ _).mono ?_; rintro e w' ⟨rfl, rfl⟩))
      go_ret
      exact ⟨ret_bool HB.out.symm, rfl⟩
  · have e1 := inB_no h1
    have HB := Lib.hid (show shortB d n s = false by simp only [shortB, h1, decide_false, Bool.false_and])
    clear h1
    go_enter Try.func28, Try.ntmps28
    go_wp2_with (go_at_call 41; refine (l01In_c _ _ _ _).mono ?_; rintro e w' ⟨rfl, rfl⟩)
    go_ret
    exact ⟨ret_bool HB.out.symm, rfl⟩
end Go.Proofs.Ytolbgdgoambliaa

namespace Go.Proofs.Ytolbgdgoambliaa

/-- the word that arises if i letters are moved from the beginning to the end -/
def rotS (s : ByteArray) (i : Nat) : ByteArray := s.extract i s.size ++ s.extract 0 i
/-- the lesser of two texts -/
def minS (x y : ByteArray) : ByteArray := if (Op.bytesLess x.toList y.toList || x.toList == y.toList) = true then x else y
/-- the least of the first k turned words -/
def neckTo (s : ByteArray) : Nat → ByteArray
  | 0 => s
  | k + 1 => minS (neckTo s k) (rotS s k)
theorem extract_all (s : ByteArray) : s.extract 0 s.size = s := by simp
theorem rotS_zero (s : ByteArray) : rotS s 0 = s := by simp [rotS]
theorem minS_self (s : ByteArray) : minS s s = s := by simp [minS]
theorem neckTo_one (s : ByteArray) : neckTo s 1 = s := by
  show minS s (rotS s 0) = s
  rw [rotS_zero, minS_self]
theorem rotS_size (s : ByteArray) (i : Nat) (h : i ≤ s.size) : (rotS s i).size = s.size := by
  simp only [rotS, ByteArray.size_append, ByteArray.size_extract]
  omega
theorem neckTo_size (s : ByteArray) : ∀ k, k ≤ s.size → (neckTo s k).size = s.size
  | 0, _ => rfl
  | k + 1, h => by
    show (minS (neckTo s k) (rotS s k)).size = s.size
    unfold minS
    split
    · exact neckTo_size s k (by omega)
    · exact rotS_size s k (by omega)
theorem run_min_str {P : Program} (ts : Array TypeId) (t : TypeId) (x y : ByteArray) (w : World) : (Builtin.min_ ts t #[.string x, .string y]).run P w = .ok (.string (minS x y)) w := by
  simp [Builtin.min_, Builtin.min2, Op.stringOp, asBool, minS]
end Go.Proofs.Ytolbgdgoambliaa

namespace Go.Proofs.Ytolbgdgoambliaa
open Go.RowKit

theorem cloneS_c (s : ByteArray) (hs : s.size ≤ 1048576) (w : World) :
    Calls Try.prog 53 #[.string s] w fun e w' => e = .returned (.string s) ∧ Below w.heap.size w w' := by
  go_enter Try.func53, Try.ntmps53
  go_wp2_with fail
  refine (Try.stringslite_Clone s _ (by omega)).mono ?_
  rintro e w' ⟨rfl, hb⟩
  go_wp2
  go_ret
  exact ⟨rfl, hb⟩

/-- what a function that returns a text and a code comes to -/
def TextPost (s : ByteArray) (c : Int) (W : World) (e : Ending) (w' : World) : Prop := e = .returned (.tuple #[.string s, .int .i64 c]) ∧ Below W.heap.size W w'

end Go.Proofs.Ytolbgdgoambliaa
