/-
  Contracts of NecklaceOf, of the program and of its model.
-/
import Derived.Test.YtgelajjjghboaaaLyn
import Derived.Test.YtgelajjjghboaaaNeckM
import Derived.Test.YtgelajjjghboaaaShelf
import Derived.Test.YtgelajjjghboaaaShut
namespace Go.Proofs.Ytgelajjjghboaaa
open Go.RowKit

theorem cloneS_c (s : ByteArray) (hs : s.size ≤ 1048576) (w : World) :
    Calls Try.prog 42 #[.string s] w fun e w' => e = .returned (.string s) ∧ Below w.heap.size w w' := by
  go_enter Try.func42, Try.ntmps42
  go_wp2_with fail
  refine (Try.stringslite_Clone s _ (by omega)).mono ?_
  rintro e w' ⟨rfl, hb⟩
  go_wp2
  go_ret
  exact ⟨rfl, hb⟩

/-- what a function that returns a text and a code comes to -/
def TextPost (s : ByteArray) (c : Int) (W : World) (e : Ending) (w' : World) : Prop := e = .returned (.tuple #[.string s, .int .i64 c]) ∧ Below W.heap.size W w'

theorem sNecklaceOf_1 (d : Int) (s : ByteArray) (hs : s.size ≤ maxLen) (h : shortB d 8 s = false) (w : World) :
    Calls Try.prog 15 #[.int .i64 d, .string s] w (TextPost { data := #[] } 2 w) := by
  have H := Lib.hid h
  clear h
  go_enter Try.func15, Try.ntmps15
  go_wp2_with (first | (go_at_call 33; refine (l05Word_c _ 8 _ hs _).mono ?_; rw [H.out]; rintro e w' ⟨rfl, rfl⟩))
  go_ret2
  exact ⟨rfl, Below.refl _ _⟩
theorem iNecklaceOf_1 (d : Int) (s : ByteArray) (hs : s.size ≤ maxLen) (h : shortB d 8 s = false) (w : World) :
    Calls Try.prog 16 #[.int .i64 d, .string s] w (TextPost { data := #[] } 2 w) := by
  have H := Lib.hid h
  clear h
  go_enter Try.func16, Try.ntmps16
  go_wp2_with (first | (go_at_call 36; refine (isShortWord_c _ _ hs _).mono ?_; rw [H.out]; rintro e w' ⟨rfl, rfl⟩))
  go_ret2
  exact ⟨rfl, Below.refl _ _⟩
set_option maxHeartbeats 1000000 in
theorem sNecklaceOf_2 (d : Int) (s : ByteArray) (h : shortB d 8 s = true) (w : World) :
    Calls Try.prog 15 #[.int .i64 d, .string s] w (TextPost (neckTo s s.size) 0 w) := by
  have H := Lib.hid h
  have hs := (shortB_true h).2.1
  have hs2 : s.size ≤ maxLen := by unfold maxLen; omega
  clear h
  go_enter Try.func15, Try.ntmps15
  go_wp2_with (first | (go_at_call 33; refine (l05Word_c _ 8 _ hs2 _).mono ?_; rw [H.out]; rintro e w' ⟨rfl, rfl⟩) | fail)
  go_loopw [6, 7] (fun vb vi wr => ∃ k : Nat, 1 ≤ k ∧ (k ≤ s.size ∨ k = 1) ∧ vi = .int .i64 k ∧ vb = .string (neckTo s k) ∧ Below w.heap.size w wr) (fun _ vi _ => s.size - (intOf vi).toNat)
  case atStart => exact ⟨1, Nat.le_refl _, .inr rfl, rfl, by rw [neckTo_one], Below.refl _ _⟩
  case round =>
    obtain ⟨k, hk1, hk, rfl, rfl, hB⟩ := hrel
    have HB := Lib.hid hB
    clear hB
    by_cases hlt : k < s.size
    · have hmin := fun (ts : Array TypeId) (t : TypeId) (x y : ByteArray) (w : World) => run_min_str (P := Try.prog) ts t x y w
      have hadd : (s.extract k s.size).size + (s.extract 0 k).size ≤ 9223372036854775807 := by simp only [ByteArray.size_extract]; omega
      have HN : Hid (neckTo s (k + 1) = minS (neckTo s k) (s.extract k s.size ++ s.extract 0 k)) := Lib.hid rfl
      generalize neckTo s k = b at HN ⊢
      go_wp2_with fail
      go_region
      all_goals
        go_wp2
        go_roundw
        case rel => exact ⟨k + 1, by omega, by omega, by go_num, by rw [HN.out], HB.out.drew⟩
        case measure => simp [intOf]; omega
    · have HE : Hid (neckTo s s.size = neckTo s k) := Lib.hid (by
        by_cases h0 : s.size = k
        · rw [h0]
        · obtain rfl : k = 1 := by omega
          rw [neckTo_one, show s.size = 0 by omega]; rfl)
      go_wp2
      go_ret2
      exact ⟨by rw [HE.out]; rfl, HB.out⟩
set_option maxHeartbeats 1000000 in
theorem iNecklaceOf_2 (d : Int) (s : ByteArray) (h : shortB d 8 s = true) (w : World) :
    Calls Try.prog 16 #[.int .i64 d, .string s] w (TextPost (neckTo s s.size) 0 w) := by
  have H := Lib.hid h
  have hs := (shortB_true h).2.1
  have hs2 : s.size ≤ maxLen := by unfold maxLen; omega
  clear h
  go_enter Try.func16, Try.ntmps16
  go_wp2_with (first | (go_at_call 36; refine (isShortWord_c _ _ hs2 _).mono ?_; rw [H.out]; rintro e w' ⟨rfl, rfl⟩) | fail)
  go_loopw [6, 7, 15] (fun vb _ vi wr => ∃ k : Nat, k ≤ s.size ∧ vi = .int .i64 k ∧ vb = .string (neckTo s k) ∧ Below w.heap.size w wr) (fun _ _ vi _ => s.size - (intOf vi).toNat)
  case atStart => exact ⟨0, Nat.zero_le _, rfl, rfl, Below.refl _ _⟩
  case round =>
    obtain ⟨k, hk, rfl, rfl, hB⟩ := hrel
    have HB := Lib.hid hB
    clear hB
    by_cases hlt : k < s.size
    · have hmin := fun (ts : Array TypeId) (t : TypeId) (x y : ByteArray) (w : World) => run_min_str (P := Try.prog) ts t x y w
      have hadd : (s.extract k s.size).size + (s.extract 0 k).size ≤ 9223372036854775807 := by simp only [ByteArray.size_extract]; omega
      have HN : Hid (neckTo s (k + 1) = minS (neckTo s k) (s.extract k s.size ++ s.extract 0 k)) := Lib.hid rfl
      generalize neckTo s k = b at HN ⊢
      go_wp2_with fail
      go_region
      all_goals
        go_wp2
        go_roundw
        case rel => exact ⟨k + 1, by omega, by go_num, by rw [HN.out], HB.out.drew⟩
        case measure => simp [intOf]; omega
    · obtain rfl : k = s.size := by omega
      have hz := neckTo_size s s.size (Nat.le_refl _)
      have hz2 : (neckTo s s.size).size ≤ 1048576 := by omega
      have hz3 := HB.out.size
      obtain ⟨b, hb0⟩ : ∃ b, neckTo s s.size = b := ⟨_, rfl⟩
      rw [hb0] at hz2 ⊢
      have HE := Lib.hid hb0
      clear hz hb0
      go_wp2_with fail
      refine (cloneS_c b hz2 _).mono ?_
      rintro e w1 ⟨rfl, hb⟩
      go_wp2
      go_ret2
      exact ⟨by first | rfl | (rw [HE.out]; rfl), HB.out.trans (hb.mono hz3)⟩
theorem law_NecklaceOf (d : Int) (s : ByteArray) (hs : s.size ≤ maxLen) (w : World) :
    Calls Try.prog 5 #[.int .i64 d, .string s] w fun e w' => e = .returned (.bool true) ∧ Below w.heap.size w w' := by
  by_cases hbig : (1048576 : Int) < (s.size : Int)
  · go_enter Try.func5, Try.ntmps5
    go_wp2
    go_ret
    exact ⟨rfl, Below.refl _ _⟩
  have hc : ∃ (t : ByteArray) (c : Int), (∀ w, Calls Try.prog 15 #[.int .i64 d, .string s] w (TextPost t c w)) ∧ (∀ w, Calls Try.prog 16 #[.int .i64 d, .string s] w (TextPost t c w)) := by
    cases h : shortB d 8 s with
    | false => exact ⟨_, _, sNecklaceOf_1 d s hs h, iNecklaceOf_1 d s hs h⟩
    | true => exact ⟨_, _, sNecklaceOf_2 d s h, iNecklaceOf_2 d s h⟩
  obtain ⟨t, c, hS, hI⟩ := hc
  have HS := Lib.hid hS
  have HI := Lib.hid hI
  have hst : (t.toList != t.toList) = false := by simp
  clear hS hI
  go_enter Try.func5, Try.ntmps5
  go_wp2_with fail
  refine (HS.out _).mono ?_
  rintro e w1 ⟨rfl, hb1⟩
  go_wp2_with fail
  refine (HI.out _).mono ?_
  rintro e w2 ⟨rfl, hb2⟩
  have HB := Lib.hid (hb1.trans (hb2.mono hb1.size))
  clear hb1 hb2
  go_wp2
  go_ret
  exact ⟨rfl, HB.out⟩
end Go.Proofs.Ytgelajjjghboaaa
