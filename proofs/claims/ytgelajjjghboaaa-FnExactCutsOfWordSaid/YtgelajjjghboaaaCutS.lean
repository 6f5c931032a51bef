/-
  Contracts of CutOf, of the program and of its model.
-/
import Derived.Test.YtgelajjjghboaaaNeck
import Derived.Test.YtgelajjjghboaaaCutM
import Derived.Test.YtgelajjjghboaaaWordsOf
namespace Go.Proofs.Ytgelajjjghboaaa
open Go.RowKit

theorem below_dN2 {B : Nat} {a w : World} (h : Below B a w) (n : Nat) : Below B a (w.drewN n) := ⟨h.os, h.tape, h.output, h.size, h.block⟩

theorem l05Cut_c (s : ByteArray) (i : Nat) (hi : IsCut s i) (hs : s.size ≤ 1048576) (w : World) :
    Calls Try.prog 44 #[.string s] w fun e w' => e = .returned (.int .i64 i) ∧ w = w' := by
  have HI := Lib.hid hi
  have hi1 := hi.1
  have hi2 := hi.2.1
  clear hi
  go_enter Try.func44, Try.ntmps44
  go_wp2_with fail
  go_loop [3] (fun vi => ∃ k : Nat, 1 ≤ k ∧ k ≤ i ∧ vi = .int .i64 k) (fun vi => s.size - (intOf vi).toNat)
  case atStart => exact ⟨1, Nat.le_refl _, hi1, rfl⟩
  case round =>
    obtain ⟨k, hk1, hk, rfl⟩ := hrel
    have hz : (s.extract k s.size).size ≤ maxLen := by simp only [ByteArray.size_extract]; unfold maxLen; omega
    by_cases hp : k = i
    · have HB : Hid (lynB (s.extract k s.size) = true) := Lib.hid (by rw [hp]; exact HI.out.2.2.1)
      subst hp
      go_wp2_with (go_at_call 40; refine (l05Lyndon_c _ hz _).mono ?_; rw [HB.out]; rintro e w' ⟨rfl, rfl⟩)
      go_ret
      exact ⟨rfl, rfl⟩
    · have HB : Hid (lynB (s.extract k s.size) = false) := Lib.hid (HI.out.2.2.2 k hk1 (by omega))
      go_wp2_with (go_at_call 40; refine (l05Lyndon_c _ hz _).mono ?_; rw [HB.out]; rintro e w' ⟨rfl, rfl⟩)
      go_round
      case rel => exact ⟨k + 1, by omega, by omega, by go_num⟩
      case measure => simp [intOf]; omega

theorem aheadOf_c (s : ByteArray) (i : Nat) (hi : IsCut s i) (hs : s.size ≤ 1048576) (w : World) :
    Calls Try.prog 45 #[.string s] w fun e w' => e = .returned (.tuple #[.string (s.extract 0 i), .string (s.extract i s.size)]) ∧ Below w.heap.size w w' := by
  have HI := Lib.hid hi
  have hi1 := hi.1
  have hi2 := hi.2.1
  clear hi
  go_enter Try.func45, Try.ntmps45
  go_wp2_with fail
  go_loop [4] (fun vi => ∃ k : Nat, 1 ≤ k ∧ k ≤ i ∧ vi = .int .i64 k) (fun vi => s.size - (intOf vi).toNat)
  case atStart => exact ⟨1, Nat.le_refl _, hi1, rfl⟩
  case round =>
    obtain ⟨k, hk1, hk, rfl⟩ := hrel
    have hz : (s.extract k s.size).size ≤ maxLen := by simp only [ByteArray.size_extract]; unfold maxLen; omega
    by_cases hp : k = i
    · have HB : Hid (lynB (s.extract k s.size) = true) := Lib.hid (by rw [hp]; exact HI.out.2.2.1)
      subst hp
      go_wp2_with (first | (go_at_call 41; refine (isLyndon_c _ hz _).mono ?_; rw [HB.out]; rintro e w' ⟨rfl, rfl⟩) | fail)
      go_quiet (fail)
      go_wp2
      go_ret2
      exact ⟨rfl, below_dN2 (Below.refl _ _) _⟩
    · have HB : Hid (lynB (s.extract k s.size) = false) := Lib.hid (HI.out.2.2.2 k hk1 (by omega))
      go_wp2_with (go_at_call 41; refine (isLyndon_c _ hz _).mono ?_; rw [HB.out]; rintro e w' ⟨rfl, rfl⟩)
      go_round
      case rel => exact ⟨k + 1, by omega, by omega, by go_num⟩
      case measure => simp [intOf]; omega

theorem copied_c (s : ByteArray) (hs : s.size ≤ 1048576) (w : World) :
    Calls Try.prog 46 #[.string s] w fun e w' => e = .returned (.string s) ∧ Below w.heap.size w w' := by
  go_enter Try.func46, Try.ntmps46
  go_wp2_with fail
  refine (cloneS_c s hs _).mono ?_
  rintro e w' ⟨rfl, hb⟩
  go_wp2
  go_ret
  exact ⟨rfl, hb⟩

theorem sCutOf_1 (d : Int) (s : ByteArray) (hs : s.size ≤ maxLen) (h : shortB d 8 s = false) (w : World) :
    Calls Try.prog 19 #[.int .i64 d, .string s] w (StrPost [] 2 w) := by
  have H := Lib.hid h
  clear h
  go_enter Try.func19, Try.ntmps19
  go_wp2_with (first | (go_at_call 33; refine (l05Word_c _ 8 _ hs _).mono ?_; rw [H.out]; rintro e w' ⟨rfl, rfl⟩))
  go_ret2
  exact ⟨none, 0, rfl, Below.refl _ _, .inl rfl⟩
theorem iCutOf_1 (d : Int) (s : ByteArray) (hs : s.size ≤ maxLen) (h : shortB d 8 s = false) (w : World) :
    Calls Try.prog 20 #[.int .i64 d, .string s] w (StrPost [] 2 w) := by
  have H := Lib.hid h
  clear h
  go_enter Try.func20, Try.ntmps20
  go_wp2_with (first | (go_at_call 36; refine (isShortWord_c _ _ hs _).mono ?_; rw [H.out]; rintro e w' ⟨rfl, rfl⟩))
  go_ret2
  exact ⟨none, 0, rfl, Below.refl _ _, .inl rfl⟩
theorem sCutOf_2 (d : Int) (s : ByteArray) (h : shortB d 8 s = true) (hb : s.size < 2 ∨ lynB s = false) (w : World) :
    Calls Try.prog 19 #[.int .i64 d, .string s] w (StrPost [] 5 w) := by
  have H := Lib.hid h
  have hs := (shortB_true h).2.1
  have hs2 : s.size ≤ maxLen := by unfold maxLen; omega
  clear h
  by_cases h2 : (s.size : Int) < 2
  · clear hb
    go_enter Try.func19, Try.ntmps19
    go_wp2_with (first | (go_at_call 33; refine (l05Word_c _ 8 _ hs2 _).mono ?_; rw [H.out]; rintro e w' ⟨rfl, rfl⟩))
    go_ret2
    exact ⟨none, 0, rfl, Below.refl _ _, .inl rfl⟩
  · have HL := Lib.hid (hb.resolve_left (by omega))
    clear hb
    go_enter Try.func19, Try.ntmps19
    go_wp2_with (first | (go_at_call 33; refine (l05Word_c _ 8 _ hs2 _).mono ?_; rw [H.out]; rintro e w' ⟨rfl, rfl⟩) | (go_at_call 40; refine (l05Lyndon_c _ hs2 _).mono ?_; rw [HL.out]; rintro e w' ⟨rfl, rfl⟩))
    go_ret2
    exact ⟨none, 0, rfl, Below.refl _ _, .inl rfl⟩
theorem iCutOf_2 (d : Int) (s : ByteArray) (h : shortB d 8 s = true) (hb : s.size < 2 ∨ lynB s = false) (w : World) :
    Calls Try.prog 20 #[.int .i64 d, .string s] w (StrPost [] 5 w) := by
  have H := Lib.hid h
  have hs := (shortB_true h).2.1
  have hs2 : s.size ≤ maxLen := by unfold maxLen; omega
  clear h
  by_cases h2 : (s.size : Int) < 2
  · clear hb
    go_enter Try.func20, Try.ntmps20
    go_wp2_with (first | (go_at_call 36; refine (isShortWord_c _ _ hs2 _).mono ?_; rw [H.out]; rintro e w' ⟨rfl, rfl⟩))
    go_ret2
    exact ⟨none, 0, rfl, Below.refl _ _, .inl rfl⟩
  · have HL := Lib.hid (hb.resolve_left (by omega))
    clear hb
    go_enter Try.func20, Try.ntmps20
    go_wp2_with (first | (go_at_call 36; refine (isShortWord_c _ _ hs2 _).mono ?_; rw [H.out]; rintro e w' ⟨rfl, rfl⟩) | (go_at_call 41; refine (isLyndon_c _ hs2 _).mono ?_; rw [HL.out]; rintro e w' ⟨rfl, rfl⟩))
    go_ret2
    exact ⟨none, 0, rfl, Below.refl _ _, .inl rfl⟩
theorem two_owned (w : World) (a b : ByteArray) : OwnS (w.alloc (.cells #[.string a, .string b] 9)) w.heap.size (.slice (some ⟨w.heap.size, 0, none⟩) 2 2) [a, b] :=
  ⟨rfl, .inr ⟨w.heap.size, 2, #[.string a, .string b], rfl, Nat.le_refl _, heap_alloc_new w _, Nat.le_refl _, by unfold maxLen; omega, rfl, rfl⟩⟩
theorem two_new (w : World) (a b : ByteArray) (B : Nat) (hB : B ≤ w.heap.size) : NewS B (w.alloc (.cells #[.string a, .string b] 9)).heap.size (w.alloc (.cells #[.string a, .string b] 9)) (some ⟨w.heap.size, 0, none⟩) [a, b] := by
  obtain ⟨a', c', he, hle, hN⟩ := (two_owned w a b).newS
  injection he with e1 e2 e3
  subst e1
  exact hN.mono hB (Nat.le_refl _)
set_option maxHeartbeats 1000000 in
theorem sCutOf_3 (d : Int) (s : ByteArray) (i : Nat) (hi : IsCut s i) (h : shortB d 8 s = true) (hl : lynB s = true) (w : World) :
    Calls Try.prog 19 #[.int .i64 d, .string s] w (StrPost [s.extract 0 i, s.extract i s.size] 0 w) := by
  have H := Lib.hid h
  have HL := Lib.hid hl
  have HI := Lib.hid hi
  have hi1 := hi.1
  have hi2 := hi.2.1
  have hs := (shortB_true h).2.1
  have hs2 : s.size ≤ maxLen := by unfold maxLen; omega
  have h2 : ¬ (s.size : Int) < 2 := by omega
  clear h hl hi
  go_enter Try.func19, Try.ntmps19
  go_wp2_with (first | (go_at_call 33; refine (l05Word_c _ 8 _ hs2 _).mono ?_; rw [H.out]; rintro e w' ⟨rfl, rfl⟩) | (go_at_call 40; refine (l05Lyndon_c _ hs2 _).mono ?_; rw [HL.out]; rintro e w' ⟨rfl, rfl⟩) | (go_at_call 44; refine (l05Cut_c _ i HI.out (by omega) _).mono ?_; rintro e w' ⟨rfl, rfl⟩) | fail)
  go_region
  all_goals (go_wp2_with fail; go_ret2)
  all_goals exact ⟨some ⟨w.heap.size, 0, none⟩, 2, rfl, ((below1 _ _).drew), two_new w.drew _ _ _ (Nat.le_refl _)⟩
set_option maxHeartbeats 1000000 in
theorem iCutOf_3 (d : Int) (s : ByteArray) (i : Nat) (hi : IsCut s i) (h : shortB d 8 s = true) (hl : lynB s = true) (w : World) :
    Calls Try.prog 20 #[.int .i64 d, .string s] w (StrPost [s.extract 0 i, s.extract i s.size] 0 w) := by
  have H := Lib.hid h
  have HL := Lib.hid hl
  have HI := Lib.hid hi
  have hi1 := hi.1
  have hi2 := hi.2.1
  have hs := (shortB_true h).2.1
  have hs2 : s.size ≤ maxLen := by unfold maxLen; omega
  have h2 : ¬ (s.size : Int) < 2 := by omega
  have z1 : (s.extract 0 i).size ≤ 1048576 := by simp only [ByteArray.size_extract]; omega
  have z2 : (s.extract i s.size).size ≤ 1048576 := by simp only [ByteArray.size_extract]; omega
  clear h hl hi
  go_enter Try.func20, Try.ntmps20
  go_wp2_with (first | (go_at_call 36; refine (isShortWord_c _ _ hs2 _).mono ?_; rw [H.out]; rintro e w' ⟨rfl, rfl⟩) | (go_at_call 41; refine (isLyndon_c _ hs2 _).mono ?_; rw [HL.out]; rintro e w' ⟨rfl, rfl⟩) | fail)
  refine (aheadOf_c s i HI.out (by omega) _).mono ?_
  rintro e w1 ⟨rfl, hb1⟩
  have hz1 := hb1.size
  go_wp2_with fail
  refine (copied_c _ z1 _).mono ?_
  rintro e w2 ⟨rfl, hb2⟩
  have hz2 := hb2.size
  go_wp2_with fail
  refine (copied_c _ z2 _).mono ?_
  rintro e w3 ⟨rfl, hb3⟩
  have hz3 := hb3.size
  have HB := Lib.hid (hb1.trans ((hb2.mono hz1).trans (hb3.mono (Nat.le_trans hz1 hz2))))
  clear hb1 hb2 hb3
  go_wp2
  go_ret2
  exact ⟨some ⟨w3.heap.size, 0, none⟩, 2, rfl, HB.out.trans ((below1 _ _).mono HB.out.size), two_new w3 _ _ _ HB.out.size⟩
end Go.Proofs.Ytgelajjjghboaaa
