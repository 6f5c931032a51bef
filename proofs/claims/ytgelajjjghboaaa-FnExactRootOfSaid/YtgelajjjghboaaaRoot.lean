/-
  Contracts of RootOf, of the program and of its model, and the law: both return the same root, power and code.
-/
import Derived.Test.YtgelajjjghboaaaNeck
import Derived.Test.YtgelajjjghboaaaRootM
import Derived.Deep.DeepCutAuto
import Derived.OwnWalk
namespace Go.Proofs.Ytgelajjjghboaaa
open Go.RowKit

/-- what a function that returns a text, a number and a code comes to -/
def RootPost (s : ByteArray) (p c : Int) (W : World) (e : Ending) (w' : World) : Prop := e = .returned (.tuple #[.string s, .int .i64 p, .int .i64 c]) ∧ Below W.heap.size W w'

theorem sRootOf_1 (d : Int) (s : ByteArray) (hs : s.size ≤ maxLen) (h : shortB d 8 s = false) (w : World) :
    Calls Try.prog 17 #[.int .i64 d, .string s] w (RootPost { data := #[] } 0 2 w) := by
  have H := Lib.hid h
  clear h
  go_enter Try.func17, Try.ntmps17
  go_wp2_with (first | (go_at_call 33; refine (l05Word_c _ 8 _ hs _).mono ?_; rw [H.out]; rintro e w' ⟨rfl, rfl⟩))
  go_ret3
  exact ⟨rfl, Below.refl _ _⟩
theorem iRootOf_1 (d : Int) (s : ByteArray) (hs : s.size ≤ maxLen) (h : shortB d 8 s = false) (w : World) :
    Calls Try.prog 18 #[.int .i64 d, .string s] w (RootPost { data := #[] } 0 2 w) := by
  have H := Lib.hid h
  clear h
  go_enter Try.func18, Try.ntmps18
  go_wp2_with (first | (go_at_call 36; refine (isShortWord_c _ _ hs _).mono ?_; rw [H.out]; rintro e w' ⟨rfl, rfl⟩))
  go_ret3
  exact ⟨rfl, Below.refl _ _⟩
theorem sRootOf_2 (d : Int) (s : ByteArray) (h : shortB d 8 s = true) (h0 : s.size = 0) (w : World) :
    Calls Try.prog 17 #[.int .i64 d, .string s] w (RootPost { data := #[] } 0 5 w) := by
  have H := Lib.hid h
  have hs2 : s.size ≤ maxLen := by unfold maxLen; omega
  have h0' : (s.size : Int) = 0 := by omega
  clear h
  go_enter Try.func17, Try.ntmps17
  go_wp2_with (first | (go_at_call 33; refine (l05Word_c _ 8 _ hs2 _).mono ?_; rw [H.out]; rintro e w' ⟨rfl, rfl⟩))
  go_ret3
  exact ⟨rfl, Below.refl _ _⟩
theorem iRootOf_2 (d : Int) (s : ByteArray) (h : shortB d 8 s = true) (h0 : s.size = 0) (w : World) :
    Calls Try.prog 18 #[.int .i64 d, .string s] w (RootPost { data := #[] } 0 5 w) := by
  have H := Lib.hid h
  have hs2 : s.size ≤ maxLen := by unfold maxLen; omega
  clear h
  obtain rfl := size_zero h0
  clear h0
  go_enter Try.func18, Try.ntmps18
  go_wp2_with (first | (go_at_call 36; refine (isShortWord_c _ _ hs2 _).mono ?_; rw [H.out]; rintro e w' ⟨rfl, rfl⟩))
  go_ret3
  exact ⟨rfl, Below.refl _ _⟩

theorem below_dN {B : Nat} {a w : World} (h : Below B a w) (n : Nat) : Below B a (w.drewN n) := ⟨h.os, h.tape, h.output, h.size, h.block⟩
theorem ret_root {t : ByteArray} {a b c : Int} (h : a = b) : Ending.returned (.tuple #[.string t, .int .i64 a, .int .i64 c]) = .returned (.tuple #[.string t, .int .i64 b, .int .i64 c]) := by rw [h]
theorem wrap_quo (a k : Nat) (h : a ≤ 8) : wrap64 ((a : Int) / (k : Int)) = ((a / k : Nat) : Int) := by
  have h1 : a / k ≤ a := Nat.div_le_self _ _
  rw [← Int.natCast_ediv]
  generalize a / k = q at *
  exact IntWalk.wrap64_in _ ⟨by omega, by omega⟩
theorem quo_nat (a b : Nat) : (a : Int).tdiv (b : Int) = ((a / b : Nat) : Int) := by
  rw [Int.tdiv_eq_ediv_of_nonneg (by omega), Int.natCast_ediv]
theorem rem_nat (a b : Nat) : (a : Int).tmod (b : Int) = ((a % b : Nat) : Int) := by
  rw [Int.tmod_eq_emod_of_nonneg (by omega), Int.natCast_emod]
theorem toList_eqB {a b : ByteArray} (h : a = b) : (a.toList == b.toList) = true := by rw [h]; simp
theorem toList_neB {a b : ByteArray} (h : a ≠ b) : (a.toList == b.toList) = false := by
  rw [beq_eq_false_iff_ne]
  intro e
  rw [ByteArray.toList_eq, ByteArray.toList_eq] at e
  exact h (bytes_eq.2 e)

set_option maxHeartbeats 1000000 in
theorem sRootOf_3 (d : Int) (s : ByteArray) (n : Nat) (hn : IsRoot s n) (h : shortB d 8 s = true) (w : World) :
    Calls Try.prog 17 #[.int .i64 d, .string s] w (RootPost (s.extract 0 n) ((s.size / n : Nat) : Int) 0 w) := by
  have H := Lib.hid h
  have HR := Lib.hid hn
  have hn1 := hn.1
  have hn2 := hn.2.1
  have hs := (shortB_true h).2.1
  have hs2 : s.size ≤ maxLen := by unfold maxLen; omega
  have hpos : ¬ (s.size : Int) = 0 := by omega
  clear h hn
  go_enter Try.func17, Try.ntmps17
  go_wp2_with (first | (go_at_call 33; refine (l05Word_c _ 8 _ hs2 _).mono ?_; rw [H.out]; rintro e w' ⟨rfl, rfl⟩) | fail)
  go_loopw [7] (fun vi wr => ∃ k : Nat, 1 ≤ k ∧ k ≤ n ∧ vi = .int .i64 k ∧ Below w.heap.size w wr) (fun vi _ => s.size - (intOf vi).toNat)
  case atStart => exact ⟨1, Nat.le_refl _, hn1, rfl, Below.refl _ _⟩
  case round =>
    obtain ⟨k, hk1, hk, rfl, hB⟩ := hrel
    have HB := Lib.hid hB
    clear hB
    have hrem := rem_nat s.size k
    have hk0 : ¬ (k : Int) = 0 := by omega
    by_cases hd : s.size % k = 0
    · have hdv : (((s.size % k : Nat) : Int) != 0) = false := by simp [hd]
      have hadd : (s.extract k s.size).size + (s.extract 0 k).size ≤ 9223372036854775807 := by simp only [ByteArray.size_extract]; omega
      by_cases hp : k = n
      · have hrot := toList_eqB (a := s.extract k s.size ++ s.extract 0 k) (b := s) (by have e := HR.out.2.2.1.2; rw [← hp] at e; exact e)
        have hquo := quo_nat s.size k
        subst hp
        go_wp2
        go_quiet (fail)
        go_wp2
        go_quiet (fail)
        go_wp2
        go_ret3
        exact ⟨ret_root (wrap_quo s.size k hs), below_dN (below_dN HB.out _) _⟩
      · have hrot := toList_neB (a := s.extract k s.size ++ s.extract 0 k) (b := s) (fun e => HR.out.2.2.2 k hk1 (by omega) ⟨Nat.dvd_of_mod_eq_zero hd, e⟩)
        go_wp2
        go_quiet (fail)
        go_wp2
        go_roundw
        case rel => exact ⟨k + 1, by omega, by omega, by go_num, below_dN HB.out _⟩
        case measure => simp [intOf]; omega
    · have hdv : (((s.size % k : Nat) : Int) != 0) = true := by simp; omega
      have hkn : k < n := by
        rcases Nat.lt_or_ge k n with hl | hg
        · exact hl
        · obtain rfl : k = n := by omega
          exact absurd (Nat.mod_eq_zero_of_dvd HR.out.2.2.1.1) hd
      go_wp2
      go_roundw
      case rel => exact ⟨k + 1, by omega, by omega, by go_num, HB.out⟩
      case measure => simp [intOf]; omega
set_option maxHeartbeats 2000000 in
theorem iRootOf_3 (d : Int) (s : ByteArray) (n : Nat) (hn : IsRoot s n) (h : shortB d 8 s = true) (w : World) :
    Calls Try.prog 18 #[.int .i64 d, .string s] w (RootPost (s.extract 0 n) ((s.size / n : Nat) : Int) 0 w) := by
  have H := Lib.hid h
  have HR := Lib.hid hn
  have hn1 := hn.1
  have hn2 := hn.2.1
  have hs := (shortB_true h).2.1
  have hs2 : s.size ≤ maxLen := by unfold maxLen; omega
  have hne := isEmpty_no (s := s) (by omega)
  clear h hn
  go_enter Try.func18, Try.ntmps18
  go_wp2_with (first | (go_at_call 36; refine (isShortWord_c _ _ hs2 _).mono ?_; rw [H.out]; rintro e w' ⟨rfl, rfl⟩) | fail)
  go_loopw [7] (fun vi wr => ∃ k : Nat, 1 ≤ k ∧ k ≤ n ∧ vi = .int .i64 k ∧ Below w.heap.size w wr) (fun vi _ => s.size - (intOf vi).toNat)
  case atStart => exact ⟨1, Nat.le_refl _, hn1, rfl, Below.refl _ _⟩
  case round =>
    obtain ⟨k, hk1, hk, rfl, hB⟩ := hrel
    have HB := Lib.hid hB
    have hz := hB.size
    clear hB
    have HW := Lib.hid (wrap_quo s.size k hs)
    have hk0 : ¬ (k : Int) = 0 := by omega
    have hq8 : s.size / k ≤ s.size := Nat.div_le_self _ _
    have hes : (s.extract 0 k).size = k := by rw [ByteArray.size_extract]; omega
    have hlen : (s.extract 0 k).size * (s.size / k) ≤ 140737488355328 := by
      rw [hes]
      have : k * (s.size / k) ≤ s.size := Nat.mul_div_le _ _
      omega
    have hP := perS_rep (s := s) hk1 (by omega)
    rw [show (s.extract 0 k).data.toList = List.take k s.data.toList from by simp [ByteArray.data_extract, Array.toList_extract, List.extract_eq_take_drop]] at hP
    obtain ⟨b, hb, hbk⟩ : ∃ b : Bool, (Lib.repeatL (List.take k s.data.toList) (s.size / k) == s.toList) = b ∧ (b = true ↔ k = n) := by
      have hT : ∀ l : List UInt8, ((⟨l.toArray⟩ : ByteArray) = s) ↔ l = s.toList := fun l => by
        rw [bytes_eq, ByteArray.toList_eq]
      rw [hT] at hP
      by_cases hp : k = n
      · refine ⟨true, beq_iff_eq.2 (hP.1 ?_), by simp [hp]⟩
        have e := HR.out.2.2.1
        rwa [← hp] at e
      · refine ⟨false, beq_eq_false_iff_ne.2 (fun e => HR.out.2.2.2 k hk1 (by omega) (hP.2 e)), by simp [hp]⟩
    have HBK := Lib.hid hbk
    clear hP hbk
    go_upto_region 6 with fail
    go_cut [23] (fun vb wy => vb = .bool (!b) ∧ Below wr.heap.size wr wy)
    case first =>
      go_region_with (go_at_call 43; rw [HW.out]; refine (Try.strings_Repeat _ _ _ (by omega) hlen).mono ?_; rintro e w1 ⟨rfl, hb1⟩)
      all_goals (go_wp2_with fail; go_meet)
      all_goals exact ⟨rfl, ⟨hb1.os, hb1.tape, hb1.output, hb1.size, hb1.block⟩⟩
    case rest =>
      obtain ⟨rfl, hBy⟩ := hcut
      have HB2 := Lib.hid (HB.out.trans (hBy.mono hz))
      have hz2 := HB2.out.size
      clear hb hlen hBy
      cases b with
      | false =>
        have hkn : k < n := by
          have e : ¬ k = n := fun e => by have := HBK.out.2 e; cases this
          omega
        go_wp2
        go_roundw
        case rel => exact ⟨k + 1, by omega, by omega, by go_num, HB2.out⟩
        case measure => simp [intOf]; omega
      | true =>
        obtain rfl := HBK.out.1 rfl
        have hcl : (s.extract 0 k).size ≤ 1048576 := by omega
        go_wp2_with fail
        go_region_with (go_at_call 42; refine (cloneS_c _ hcl _).mono ?_; rintro e w1 ⟨rfl, hb1⟩)
        all_goals (go_wp2_with fail; go_ret3)
        all_goals exact ⟨by first | exact ret_root HW.out | rfl, HB2.out.trans (Below.mono ⟨hb1.os, hb1.tape, hb1.output, hb1.size, hb1.block⟩ hz2)⟩
theorem law_RootOf (d : Int) (s : ByteArray) (hs : s.size ≤ maxLen) (w : World) :
    Calls Try.prog 6 #[.int .i64 d, .string s] w fun e w' => e = .returned (.bool true) ∧ Below w.heap.size w w' := by
  by_cases hbig : (1048576 : Int) < (s.size : Int)
  · go_enter Try.func6, Try.ntmps6
    go_wp2
    go_ret
    exact ⟨rfl, Below.refl _ _⟩
  have hc : ∃ (t : ByteArray) (p c : Int), (∀ w, Calls Try.prog 17 #[.int .i64 d, .string s] w (RootPost t p c w)) ∧ (∀ w, Calls Try.prog 18 #[.int .i64 d, .string s] w (RootPost t p c w)) := by
    cases h : shortB d 8 s with
    | false => exact ⟨_, _, _, sRootOf_1 d s hs h, iRootOf_1 d s hs h⟩
    | true =>
      by_cases h0 : s.size = 0
      · exact ⟨_, _, _, sRootOf_2 d s h h0, iRootOf_2 d s h h0⟩
      · obtain ⟨n, hn⟩ := root_is (s := s) (by omega)
        exact ⟨_, _, _, sRootOf_3 d s n hn h, iRootOf_3 d s n hn h⟩
  obtain ⟨t, p, c, hS, hI⟩ := hc
  have HS := Lib.hid hS
  have HI := Lib.hid hI
  have hst : (t.toList != t.toList) = false := by simp
  clear hS hI
  go_enter Try.func6, Try.ntmps6
  go_wp2_with fail
  refine (HS.out _).mono ?_
  rintro e w1 ⟨rfl, hb1⟩
  go_wp2_with fail
  refine (HI.out _).mono ?_
  rintro e w2 ⟨rfl, hb2⟩
  have HB := Lib.hid (hb1.trans (hb2.mono hb1.size))
  clear hb1 hb2
  go_wp2
  go_ret
  exact ⟨rfl, HB.out⟩
end Go.Proofs.Ytgelajjjghboaaa
