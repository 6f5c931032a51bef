/-
  Plain mathematics of cuts and factors of words. No program is named here.
  Contracts of CutOf, of the program and of its model.
  Contracts of FactorsOf, of the program and of its model.
-/
import Derived.Test.YtolbgdgoambliaaNeck
import Derived.Test.YtolbgdgoambliaaMapV
namespace Go.Proofs.Ytolbgdgoambliaa

theorem least_nat (p : Nat → Prop) : ∀ (f a m : Nat), m = a + f → p m → ∃ n, a ≤ n ∧ n ≤ m ∧ p n ∧ ∀ j, a ≤ j → j < n → ¬ p j
  | 0, a, m, e, h => ⟨m, by omega, Nat.le_refl _, h, fun j h1 h2 => by omega⟩
  | f + 1, a, m, e, h => by
    by_cases ha : p a
    · exact ⟨a, Nat.le_refl _, by omega, ha, fun j h1 h2 => by omega⟩
    · obtain ⟨n, h1, h2, h3, h4⟩ := least_nat p f (a + 1) m (by omega) h
      exact ⟨n, by omega, h2, h3, fun j hj1 hj2 => by
        by_cases hj : j = a
        · subst hj; exact ha
        · exact h4 j (by omega) hj2⟩
theorem most_nat (p : Nat → Prop) : ∀ (m : Nat), 1 ≤ m → p 1 → ∃ n, 1 ≤ n ∧ n ≤ m ∧ p n ∧ ∀ j, n < j → j ≤ m → ¬ p j
  | 0, h, _ => by omega
  | m + 1, h, h1 => by
    by_cases hm : p (m + 1)
    · exact ⟨m + 1, h, Nat.le_refl _, hm, fun j h1 h2 => by omega⟩
    · by_cases h0 : m = 0
      · subst h0; exact absurd h1 hm
      · obtain ⟨n, a1, a2, a3, a4⟩ := most_nat p m (by omega) h1
        exact ⟨n, a1, by omega, a3, fun j hj1 hj2 => by
          by_cases hj : j = m + 1
          · subst hj; exact hm
          · exact a4 j hj1 (by omega)⟩
/-- where a word of at least two letters is cut -/
def IsCut (s : ByteArray) (i : Nat) : Prop := 1 ≤ i ∧ i < s.size ∧ lynB (endS s i) = true ∧ ∀ j, 1 ≤ j → j < i → lynB (endS s j) = false
theorem cut_is {s : ByteArray} (h : 2 ≤ s.size) : ∃ i, IsCut s i := by
  obtain ⟨n, h1, h2, h3, h4⟩ := least_nat (fun i => lynB (endS s i) = true) (s.size - 2) 1 (s.size - 1) (by omega) (lynB_letter (by rw [endS_size]; omega))
  exact ⟨n, h1, by omega, h3, fun j a b => Bool.eq_false_iff.2 (h4 j a b)⟩
/-- how many letters the first factor has -/
def IsPre (s : ByteArray) (n : Nat) : Prop := 1 ≤ n ∧ n ≤ s.size ∧ lynB (s.extract 0 n) = true ∧ ∀ j, n < j → j ≤ s.size → lynB (s.extract 0 j) = false
theorem pre_is {s : ByteArray} (h : 1 ≤ s.size) : ∃ n, IsPre s n := by
  obtain ⟨n, h1, h2, h3, h4⟩ := most_nat (fun i => lynB (s.extract 0 i) = true) s.size h (lynB_letter (by rw [ByteArray.size_extract]; omega))
  exact ⟨n, h1, h2, h3, fun j a b => Bool.eq_false_iff.2 (h4 j a b)⟩
/-- the factors of a word -/
inductive Facts : ByteArray → List ByteArray → Prop
  | done (s : ByteArray) : s.size = 0 → Facts s []
  | more (s : ByteArray) (n : Nat) (fs : List ByteArray) : IsPre s n → Facts (endS s n) fs → Facts s (s.extract 0 n :: fs)
theorem facts_is : ∀ (k : Nat) (s : ByteArray), s.size ≤ k → ∃ fs, Facts s fs ∧ fs.length ≤ s.size
  | 0, s, h => ⟨[], .done s (by omega), by simp⟩
  | k + 1, s, h => by
    by_cases h0 : s.size = 0
    · exact ⟨[], .done s h0, by simp⟩
    · obtain ⟨n, hn⟩ := pre_is (s := s) (by omega)
      have hn1 := hn.1
      have hn2 := hn.2.1
      obtain ⟨fs, h1, h2⟩ := facts_is k (endS s n) (by rw [endS_size]; omega)
      rw [endS_size] at h2
      exact ⟨_, .more s n fs hn h1, by simp only [List.length_cons]; omega⟩
theorem Facts.len : ∀ {s : ByteArray} {fs : List ByteArray}, Facts s fs → fs.length ≤ s.size
  | _, _, .done s h => by simp
  | _, _, .more s n fs h1 h2 => by
    have e := h2.len
    rw [endS_size] at e
    have a := h1.1
    have b := h1.2.1
    simp only [List.length_cons]
    omega
end Go.Proofs.Ytolbgdgoambliaa

namespace Go.Proofs.Ytolbgdgoambliaa
open Go.RowKit

theorem below_dN2 {B : Nat} {a w : World} (h : Below B a w) (n : Nat) : Below B a (w.drewN n) := ⟨h.os, h.tape, h.output, h.size, h.block⟩

theorem l05Cut_c (s : ByteArray) (i : Nat) (hi : IsCut s i) (hs : s.size ≤ 1048576) (w : World) :
    Calls Try.prog 34 #[.string s] w fun e w' => e = .returned (.int .i64 i) ∧ w = w' := by
  have HI := Lib.hid hi
  have hi1 := hi.1
  have hi2 := hi.2.1
  clear hi
  go_enter Try.func34, Try.ntmps34
  go_wp2_with fail
  go_loop [3] (fun vi => ∃ k : Nat, 1 ≤ k ∧ k ≤ i ∧ vi = .int .i64 k) (fun vi => s.size - (intOf vi).toNat)
  case atStart => exact ⟨1, Nat.le_refl _, hi1, rfl⟩
  case round =>
    obtain ⟨k, hk1, hk, rfl⟩ := hrel
    have hz : (s.extract k s.size).size ≤ maxLen := by simp only [ByteArray.size_extract]; unfold maxLen; omega
    by_cases hp : k = i
    · have HB : Hid (lynB (s.extract k s.size) = true) := Lib.hid (by rw [hp]; exact HI.out.2.2.1)
      subst hp
      go_wp2_with (go_at_call 33; refine (l05Lyndon_c _ hz _).mono ?_; rw [HB.out]; rintro e w' ⟨rfl, rfl⟩)
      go_ret
      exact ⟨rfl, rfl⟩
    · have HB : Hid (lynB (s.extract k s.size) = false) := Lib.hid (HI.out.2.2.2 k hk1 (by omega))
      go_wp2_with (go_at_call 33; refine (l05Lyndon_c _ hz _).mono ?_; rw [HB.out]; rintro e w' ⟨rfl, rfl⟩)
      go_round
      case rel => exact ⟨k + 1, by omega, by omega, by go_num⟩
      case measure => simp [intOf]; omega

theorem aheadOf_c (s : ByteArray) (i : Nat) (hi : IsCut s i) (hs : s.size ≤ 1048576) (w : World) :
    Calls Try.prog 31 #[.string s] w fun e w' => e = .returned (.tuple #[.string (s.extract 0 i), .string (s.extract i s.size)]) ∧ Below w.heap.size w w' := by
  have HI := Lib.hid hi
  have hi1 := hi.1
  have hi2 := hi.2.1
  clear hi
  go_enter Try.func31, Try.ntmps31
  go_wp2_with fail
  go_loop [4] (fun vi => ∃ k : Nat, 1 ≤ k ∧ k ≤ i ∧ vi = .int .i64 k) (fun vi => s.size - (intOf vi).toNat)
  case atStart => exact ⟨1, Nat.le_refl _, hi1, rfl⟩
  case round =>
    obtain ⟨k, hk1, hk, rfl⟩ := hrel
    have hz : (s.extract k s.size).size ≤ maxLen := by simp only [ByteArray.size_extract]; unfold maxLen; omega
    by_cases hp : k = i
    · have HB : Hid (lynB (s.extract k s.size) = true) := Lib.hid (by rw [hp]; exact HI.out.2.2.1)
      subst hp
      go_wp2_with (first | (go_at_call 30; refine (isLyndon_c _ hz _).mono ?_; rw [HB.out]; rintro e w' ⟨rfl, rfl⟩) | fail)
      go_quiet (fail)
      go_wp2
      go_ret2
      exact ⟨rfl, below_dN2 (Below.refl _ _) _⟩
    · have HB : Hid (lynB (s.extract k s.size) = false) := Lib.hid (HI.out.2.2.2 k hk1 (by omega))
      go_wp2_with (go_at_call 30; refine (isLyndon_c _ hz _).mono ?_; rw [HB.out]; rintro e w' ⟨rfl, rfl⟩)
      go_round
      case rel => exact ⟨k + 1, by omega, by omega, by go_num⟩
      case measure => simp [intOf]; omega

theorem copied_c (s : ByteArray) (hs : s.size ≤ 1048576) (w : World) :
    Calls Try.prog 32 #[.string s] w fun e w' => e = .returned (.string s) ∧ Below w.heap.size w w' := by
  go_enter Try.func32, Try.ntmps32
  go_wp2_with fail
  refine (cloneS_c s hs _).mono ?_
  rintro e w' ⟨rfl, hb⟩
  go_wp2
  go_ret
  exact ⟨rfl, hb⟩

theorem sCutOf_1 (d : Int) (s : ByteArray) (hs : s.size ≤ maxLen) (h : shortB d 8 s = false) (w : World) :
    Calls Try.prog 12 #[.int .i64 d, .string s] w (StrPost [] 2 w) := by
  have H := Lib.hid h
  clear h
  go_enter Try.func12, Try.ntmps12
  go_wp2_with (first | (go_at_call 28; refine (l05Word_c _ 8 _ hs _).mono ?_; rw [H.out]; rintro e w' ⟨rfl, rfl⟩))
  go_ret2
  exact ⟨none, 0, rfl, Below.refl _ _, .inl rfl⟩
theorem iCutOf_1 (d : Int) (s : ByteArray) (hs : s.size ≤ maxLen) (h : shortB d 8 s = false) (w : World) :
    Calls Try.prog 11 #[.int .i64 d, .string s] w (StrPost [] 2 w) := by
  have H := Lib.hid h
  clear h
  go_enter Try.func11, Try.ntmps11
  go_wp2_with (first | (go_at_call 26; refine (isShortWord_c _ _ hs _).mono ?_; rw [H.out]; rintro e w' ⟨rfl, rfl⟩))
  go_ret2
  exact ⟨none, 0, rfl, Below.refl _ _, .inl rfl⟩
theorem sCutOf_2 (d : Int) (s : ByteArray) (h : shortB d 8 s = true) (hb : s.size < 2 ∨ lynB s = false) (w : World) :
    Calls Try.prog 12 #[.int .i64 d, .string s] w (StrPost [] 5 w) := by
  have H := Lib.hid h
  have hs := (shortB_true h).2.1
  have hs2 : s.size ≤ maxLen := by unfold maxLen; omega
  clear h
  by_cases h2 : (s.size : Int) < 2
  · clear hb
    go_enter Try.func12, Try.ntmps12
    go_wp2_with (first | (go_at_call 28; refine (l05Word_c _ 8 _ hs2 _).mono ?_; rw [H.out]; rintro e w' ⟨rfl, rfl⟩))
    go_ret2
    exact ⟨none, 0, rfl, Below.refl _ _, .inl rfl⟩
  · have HL := Lib.hid (hb.resolve_left (by omega))
    clear hb
    go_enter Try.func12, Try.ntmps12
    go_wp2_with (first | (go_at_call 28; refine (l05Word_c _ 8 _ hs2 _).mono ?_; rw [H.out]; rintro e w' ⟨rfl, rfl⟩) | (go_at_call 33; refine (l05Lyndon_c _ hs2 _).mono ?_; rw [HL.out]; rintro e w' ⟨rfl, rfl⟩))
    go_ret2
    exact ⟨none, 0, rfl, Below.refl _ _, .inl rfl⟩
theorem iCutOf_2 (d : Int) (s : ByteArray) (h : shortB d 8 s = true) (hb : s.size < 2 ∨ lynB s = false) (w : World) :
    Calls Try.prog 11 #[.int .i64 d, .string s] w (StrPost [] 5 w) := by
  have H := Lib.hid h
  have hs := (shortB_true h).2.1
  have hs2 : s.size ≤ maxLen := by unfold maxLen; omega
  clear h
  by_cases h2 : (s.size : Int) < 2
  · clear hb
    go_enter Try.func11, Try.ntmps11
    go_wp2_with (first | (go_at_call 26; refine (isShortWord_c _ _ hs2 _).mono ?_; rw [H.out]; rintro e w' ⟨rfl, rfl⟩))
    go_ret2
    exact ⟨none, 0, rfl, Below.refl _ _, .inl rfl⟩
  · have HL := Lib.hid (hb.resolve_left (by omega))
    clear hb
    go_enter Try.func11, Try.ntmps11
    go_wp2_with (first | (go_at_call 26; refine (isShortWord_c _ _ hs2 _).mono ?_; rw [H.out]; rintro e w' ⟨rfl, rfl⟩) | (go_at_call 30; refine (isLyndon_c _ hs2 _).mono ?_; rw [HL.out]; rintro e w' ⟨rfl, rfl⟩))
    go_ret2
    exact ⟨none, 0, rfl, Below.refl _ _, .inl rfl⟩
theorem two_owned (w : World) (a b : ByteArray) : OwnS (w.alloc (.cells #[.string a, .string b] 9)) w.heap.size (.slice (some ⟨w.heap.size, 0, none⟩) 2 2) [a, b] :=
  ⟨rfl, .inr ⟨w.heap.size, 2, #[.string a, .string b], rfl, Nat.le_refl _, heap_alloc_new w _, Nat.le_refl _, by unfold maxLen; omega, rfl, rfl⟩⟩
theorem two_new (w : World) (a b : ByteArray) (B : Nat) (hB : B ≤ w.heap.size) : NewS B (w.alloc (.cells #[.string a, .string b] 9)).heap.size (w.alloc (.cells #[.string a, .string b] 9)) (some ⟨w.heap.size, 0, none⟩) [a, b] := by
  obtain ⟨a', c', he, hle, hN⟩ := (two_owned w a b).newS
  injection he with e1 e2 e3
  subst e1
  exact hN.mono hB (Nat.le_refl _)
set_option maxHeartbeats 1000000 in
theorem sCutOf_3 (d : Int) (s : ByteArray) (i : Nat) (hi : IsCut s i) (h : shortB d 8 s = true) (hl : lynB s = true) (w : World) :
    Calls Try.prog 12 #[.int .i64 d, .string s] w (StrPost [s.extract 0 i, s.extract i s.size] 0 w) := by
  have H := Lib.hid h
  have HL := Lib.hid hl
  have HI := Lib.hid hi
  have hi1 := hi.1
  have hi2 := hi.2.1
  have hs := (shortB_true h).2.1
  have hs2 : s.size ≤ maxLen := by unfold maxLen; omega
  have h2 : ¬ (s.size : Int) < 2 := by omega
  clear h hl hi
  go_enter Try.func12, Try.ntmps12
  go_wp2_with (first | (go_at_call 28; refine (l05Word_c _ 8 _ hs2 _).mono ?_; rw [H.out]; rintro e w' ⟨rfl, rfl⟩) | (go_at_call 33; refine (l05Lyndon_c _ hs2 _).mono ?_; rw [HL.out]; rintro e w' ⟨rfl, rfl⟩) | (go_at_call 34; refine (l05Cut_c _ i HI.out (by omega) _).mono ?_; rintro e w' ⟨rfl, rfl⟩) | fail)
  go_region
  all_goals (go_wp2_with fail; go_ret2)
  all_goals exact ⟨some ⟨w.heap.size, 0, none⟩, 2, rfl, ((below1 _ _).drew), two_new w.drew _ _ _ (Nat.le_refl _)⟩
set_option maxHeartbeats 1000000 in
theorem iCutOf_3 (d : Int) (s : ByteArray) (i : Nat) (hi : IsCut s i) (h : shortB d 8 s = true) (hl : lynB s = true) (w : World) :
    Calls Try.prog 11 #[.int .i64 d, .string s] w (StrPost [s.extract 0 i, s.extract i s.size] 0 w) := by
  have H := Lib.hid h
  have HL := Lib.hid hl
  have HI := Lib.hid hi
  have hi1 := hi.1
  have hi2 := hi.2.1
  have hs := (shortB_true h).2.1
  have hs2 : s.size ≤ maxLen := by unfold maxLen; omega
  have h2 : ¬ (s.size : Int) < 2 := by omega
  have z1 : (s.extract 0 i).size ≤ 1048576 := by simp only [ByteArray.size_extract]; omega
  have z2 : (s.extract i s.size).size ≤ 1048576 := by simp only [ByteArray.size_extract]; omega
  clear h hl hi
  go_enter Try.func11, Try.ntmps11
  go_wp2_with (first | (go_at_call 26; refine (isShortWord_c _ _ hs2 _).mono ?_; rw [H.out]; rintro e w' ⟨rfl, rfl⟩) | (go_at_call 30; refine (isLyndon_c _ hs2 _).mono ?_; rw [HL.out]; rintro e w' ⟨rfl, rfl⟩) | fail)
  refine (aheadOf_c s i HI.out (by omega) _).mono ?_
  rintro e w1 ⟨rfl, hb1⟩
  have hz1 := hb1.size
  go_wp2_with fail
  refine (copied_c _ z1 _).mono ?_
  rintro e w2 ⟨rfl, hb2⟩
  have hz2 := hb2.size
  go_wp2_with fail
  refine (copied_c _ z2 _).mono ?_
  rintro e w3 ⟨rfl, hb3⟩
  have hz3 := hb3.size
  have HB := Lib.hid (hb1.trans ((hb2.mono hz1).trans (hb3.mono (Nat.le_trans hz1 hz2))))
  clear hb1 hb2 hb3
  go_wp2
  go_ret2
  exact ⟨some ⟨w3.heap.size, 0, none⟩, 2, rfl, HB.out.trans ((below1 _ _).mono HB.out.size), two_new w3 _ _ _ HB.out.size⟩
end Go.Proofs.Ytolbgdgoambliaa

namespace Go.Proofs.Ytolbgdgoambliaa
open Go.RowKit

/-- what a function that returns words alone comes to -/
def ListPost (ss : List ByteArray) (W : World) (e : Ending) (w' : World) : Prop :=
  ∃ (a : Option Addr) (cap : Nat), e = .returned (.slice a ss.length cap) ∧ Below W.heap.size W w' ∧ NewS W.heap.size w'.heap.size w' a ss
/-- so far: the factors `acc` are gathered, the rest `t` is left -/
def FacAt (s : ByteArray) (fs : List ByteArray) (t : ByteArray) (acc : List ByteArray) : Prop := t.size ≤ s.size ∧ acc.length + t.size ≤ s.size ∧ ∃ r, Facts t r ∧ fs = acc ++ r
theorem FacAt.start {s : ByteArray} {fs : List ByteArray} (h : Facts s fs) : FacAt s fs s [] := ⟨Nat.le_refl _, by simp, fs, h, rfl⟩
theorem FacAt.step {s t : ByteArray} {fs acc : List ByteArray} (h : FacAt s fs t acc) (h0 : 0 < t.size) : ∃ n, IsPre t n ∧ FacAt s fs (t.extract n t.size) (acc ++ [t.extract 0 n]) := by
  obtain ⟨h1, h2, r, hr, he⟩ := h
  cases hr with
  | done _ h => omega
  | more _ n fs' hn hf =>
    have a := hn.1
    have b := hn.2.1
    refine ⟨n, hn, ?_, ?_, fs', hf, by rw [he]; simp⟩
    · rw [ByteArray.size_extract]; omega
    · rw [ByteArray.size_extract, List.length_append, List.length_singleton]; omega
theorem FacAt.end_ {s t : ByteArray} {fs acc : List ByteArray} (h : FacAt s fs t acc) (h0 : t.size = 0) : acc = fs := by
  obtain ⟨h1, h2, r, hr, he⟩ := h
  cases hr with
  | done _ h => rw [he]; simp
  | more _ n fs' hn hf =>
    have a := hn.1
    have b := hn.2.1
    omega

set_option maxRecDepth 100000 in
set_option maxHeartbeats 4000000 in
theorem l05Factors_c (s : ByteArray) (fs : List ByteArray) (hf : Facts s fs) (hs : s.size ≤ 1048576) (w : World) :
    Calls Try.prog 29 #[.string s] w (ListPost fs w) := by
  have HF := Lib.hid (FacAt.start hf)
  clear hf
  go_enter Try.func29, Try.ntmps29
  go_wp2_with fail
  go_loopw [0, 3, 4] (fun vt vo _ wr => ∃ (t : ByteArray) (acc : List ByteArray) (a : Option Addr) (l c : Nat), vt = .string t ∧ vo = .slice a l c ∧ l = acc.length ∧ FacAt s fs t acc ∧ OwnS wr w.heap.size (.slice a l c) acc ∧ Below w.heap.size w wr) (fun vt _ _ _ => match vt with | .string t => t.size | _ => 0)
  case atStart => exact ⟨s, [], _, 0, 0, rfl, rfl, rfl, HF.out, OwnS.emptyRow (heap_alloc_new w _) (Nat.le_refl _), below1 _ _⟩
  case round =>
    obtain ⟨t, acc, a, l, c, rfl, rfl, hl, hF, hO, hB⟩ := hrel
    have hts : t.size ≤ s.size := hF.1
    have hfew : l ≤ 1048576 := by have := hF.2.1; omega
    have HF1 := Lib.hid hF
    have HO := Lib.hid hO
    have HB := Lib.hid hB
    have HL := Lib.hid hl
    have hz := hB.size
    clear hF hO hB hl HF
    by_cases h0 : 0 < t.size
    · obtain ⟨n, hn, hnext⟩ := HF1.out.step h0
      have HN := Lib.hid hn
      have HX := Lib.hid hnext
      have hn1 := hn.1
      have hn2 := hn.2.1
      clear hn hnext
      obtain ⟨wo, rfl⟩ : ∃ wo : World, wo = wr := ⟨_, rfl⟩
      go_wp2_with fail
      go_loopw [4] (fun vn wr => ∃ k : Nat, n ≤ k ∧ k ≤ t.size ∧ vn = .int .i64 k ∧ wr = wo) (fun vn _ => (intOf vn).toNat)
      case atStart => exact ⟨t.size, hn2, Nat.le_refl _, rfl, rfl⟩
      case round =>
        obtain ⟨k, hk, hk2, rfl, rfl⟩ := hrel
        have hzz : (t.extract 0 k).size ≤ maxLen := by simp only [ByteArray.size_extract]; unfold maxLen; omega
        by_cases hp : k = n
        · subst hp
          have HBl : Hid (lynB (t.extract 0 k) = true) := Lib.hid HN.out.2.2.1
          have hadd : acc.length + 1 ≤ 4194304 := by have := HL.out; omega
          go_wp2_with (first | (go_at_call 33; refine (l05Lyndon_c _ hzz _).mono ?_; rw [HBl.out]; rintro e w' ⟨rfl, rfl⟩) | (at_builtin; refine wpList_append_strs rfl _ _ rfl w.heap.size (.slice a l c) l acc [t.extract 0 k] rfl HL.out (HO.out.alloc _) _ 1 1 rfl rfl (.inr ⟨_, 0, rfl, strs_one _ _⟩) (by omega) (by simp; omega) ?_))
          intro a3 c3 w3 hO3 hG3 _
          have HO3 := Lib.hid hO3
          have HB3 := Lib.hid (HB.out.trans (((below1 _ _).mono hz).trans (own_grownS (HO.out.alloc _) hG3 (by simp; omega))))
          clear hO3 hG3
          go_wp2
          go_roundw
          case rel => exact ⟨_, _, a3, l + 1, c3, rfl, rfl, by rw [HL.out]; simp, HX.out, HO3.out, HB3.out⟩
          case measure => simp only [ByteArray.size_extract]; omega
        · have HBl : Hid (lynB (t.extract 0 k) = false) := Lib.hid (HN.out.2.2.2 k (by omega) hk2)
          go_wp2_with (go_at_call 33; refine (l05Lyndon_c _ hzz _).mono ?_; rw [HBl.out]; rintro e w' ⟨rfl, rfl⟩)
          go_roundw
          case rel => exact ⟨k - 1, by omega, by omega, by congr 1; omega, trivial⟩
          case measure => simp [intOf]; omega
    · have HE := Lib.hid (HF1.out.end_ (by omega))
      go_wp2
      go_ret
      have hO := HO.out
      rw [HE.out] at hO
      obtain ⟨a', c', he, hle, hN⟩ := hO.newS
      injection he with e1 e2 e3
      subst e1 e3
      exact ⟨a, c, by first | rfl | (rw [e2]; rfl), HB.out, hN⟩

theorem behindFirst_c (s : ByteArray) (n : Nat) (hn : IsPre s n) (hs : s.size ≤ 1048576) (w : World) :
    Calls Try.prog 51 #[.string s] w fun e w' => e = .returned (.tuple #[.string (s.extract 0 n), .string (s.extract n s.size)]) ∧ Below w.heap.size w w' := by
  have HI := Lib.hid hn
  have hi1 := hn.1
  have hi2 := hn.2.1
  clear hn
  go_enter Try.func51, Try.ntmps51
  go_wp2_with fail
  go_loop [4] (fun vi => ∃ k : Nat, n ≤ k ∧ k ≤ s.size ∧ vi = .int .i64 k) (fun vi => (intOf vi).toNat)
  case atStart => exact ⟨s.size, hi2, Nat.le_refl _, rfl⟩
  case round =>
    obtain ⟨k, hk1, hk, rfl⟩ := hrel
    have hz : (s.extract 0 k).size ≤ maxLen := by simp only [ByteArray.size_extract]; unfold maxLen; omega
    by_cases hp : k = n
    · subst hp
      have HB : Hid (lynB (s.extract 0 k) = true) := Lib.hid HI.out.2.2.1
      go_wp2_with (first | (go_at_call 30; refine (isLyndon_c _ hz _).mono ?_; rw [HB.out]; rintro e w' ⟨rfl, rfl⟩) | fail)
      go_quiet (fail)
      go_wp2
      go_ret2
      exact ⟨rfl, below_dN2 (Below.refl _ _) _⟩
    · have HB : Hid (lynB (s.extract 0 k) = false) := Lib.hid (HI.out.2.2.2 k (by omega) hk)
      go_wp2_with (go_at_call 30; refine (isLyndon_c _ hz _).mono ?_; rw [HB.out]; rintro e w' ⟨rfl, rfl⟩)
      go_round
      case rel => exact ⟨k - 1, by omega, by omega, by congr 1; omega⟩
      case measure => simp [intOf]; omega
set_option maxRecDepth 100000 in
set_option maxHeartbeats 4000000 in
theorem pieces_c (s : ByteArray) (fs : List ByteArray) (hf : Facts s fs) (hs : s.size ≤ 1048576) (w : World) :
    Calls Try.prog 50 #[.string s, .func (.func 51) #[] #[]] w (ListPost fs w) := by
  have HF := Lib.hid (FacAt.start hf)
  clear hf
  go_enter Try.func50, Try.ntmps50
  go_wp2_with fail
  go_loopw [0, 5, 6, 7] (fun vt vo _ _ wr => ∃ (t : ByteArray) (acc : List ByteArray) (a : Option Addr) (l c : Nat), vt = .string t ∧ vo = .slice a l c ∧ l = acc.length ∧ FacAt s fs t acc ∧ OwnS wr w.heap.size (.slice a l c) acc ∧ Below w.heap.size w wr) (fun vt _ _ _ _ => match vt with | .string t => t.size | _ => 0)
  case atStart => exact ⟨s, [], _, 0, 0, rfl, rfl, rfl, HF.out, OwnS.nil _ _, Below.refl _ _⟩
  case round =>
    obtain ⟨t, acc, a, l, c, rfl, rfl, hl, hF, hO, hB⟩ := hrel
    have hts : t.size ≤ s.size := hF.1
    have hfew : l ≤ 1048576 := by have := hF.2.1; omega
    have HF1 := Lib.hid hF
    have HO := Lib.hid hO
    have HB := Lib.hid hB
    have HL := Lib.hid hl
    have hz := hB.size
    clear hF hO hB hl HF
    by_cases h0 : 0 < t.size
    · obtain ⟨n, hn, hnext⟩ := HF1.out.step h0
      have HN := Lib.hid hn
      have HX := Lib.hid hnext
      have hn1 := hn.1
      have hn2 := hn.2.1
      have hne := isEmpty_no h0
      have hcp : (t.extract 0 n).size ≤ 1048576 := by simp only [ByteArray.size_extract]; omega
      clear hn hnext
      go_wp2_with fail
      refine (behindFirst_c t n HN.out (by omega) _).mono ?_
      rintro e w1 ⟨rfl, hb1⟩
      have HO1 := Lib.hid (HO.out.below hb1 (fun g hg => (HO.out.lt g hg).2))
      have HB1 := Lib.hid (HB.out.trans (hb1.mono hz))
      have hz1 := HB1.out.size
      clear hb1
      go_wp2_with fail
      refine (copied_c _ hcp _).mono ?_
      rintro e w2 ⟨rfl, hb2⟩
      have HO2 := Lib.hid (HO1.out.below hb2 (fun g hg => (HO1.out.lt g hg).2))
      have HB2 := Lib.hid (HB1.out.trans (hb2.mono hz1))
      have hz2 := HB2.out.size
      clear hb2
      go_wp2_with (at_builtin; refine wpList_append_strs rfl _ _ rfl w.heap.size (.slice a l c) l acc [t.extract 0 n] rfl HL.out (HO2.out.alloc _) _ 1 1 rfl rfl (.inr ⟨_, 0, rfl, strs_one _ _⟩) (by omega) (by simp; omega) ?_)
      intro a3 c3 w3 hO3 hG3 _
      have HO3 := Lib.hid hO3
      have HB3 := Lib.hid (HB2.out.trans (((below1 _ _).mono hz2).trans (own_grownS (HO2.out.alloc _) hG3 (by simp; omega))))
      clear hO3 hG3
      go_wp2
      go_roundw
      case rel => exact ⟨_, _, a3, l + 1, c3, rfl, rfl, by rw [HL.out]; simp, HX.out, HO3.out, HB3.out⟩
      case measure => simp only [ByteArray.size_extract]; omega
    · have h0' : t.size = 0 := by omega
      have HE := Lib.hid (HF1.out.end_ h0')
      obtain rfl := size_zero h0'
      go_wp2
      go_ret
      have hO := HO.out
      rw [HE.out] at hO
      obtain ⟨a', c', he, hle, hN⟩ := hO.newS
      injection he with e1 e2 e3
      subst e1 e3
      exact ⟨a, c, by first | rfl | (rw [e2]; rfl), HB.out, hN⟩

theorem factors_c (s : ByteArray) (fs : List ByteArray) (hf : Facts s fs) (hs : s.size ≤ 1048576) (w : World) :
    Calls Try.prog 27 #[.string s] w (ListPost fs w) := by
  go_enter Try.func27, Try.ntmps27
  go_wp2_with fail
  refine (pieces_c s fs hf hs _).mono ?_
  rintro e w1 ⟨a, c, rfl, hb, hN⟩
  go_wp2
  go_ret
  exact ⟨a, c, rfl, hb, hN⟩

theorem sFactorsOf_1 (d : Int) (s : ByteArray) (hs : s.size ≤ maxLen) (h : shortB d 8 s = false) (w : World) :
    Calls Try.prog 7 #[.int .i64 d, .string s] w (StrPost [] 2 w) := by
  have H := Lib.hid h
  clear h
  go_enter Try.func7, Try.ntmps7
  go_wp2_with (first | (go_at_call 28; refine (l05Word_c _ 8 _ hs _).mono ?_; rw [H.out]; rintro e w' ⟨rfl, rfl⟩))
  go_ret2
  exact ⟨none, 0, rfl, Below.refl _ _, .inl rfl⟩
theorem iFactorsOf_1 (d : Int) (s : ByteArray) (hs : s.size ≤ maxLen) (h : shortB d 8 s = false) (w : World) :
    Calls Try.prog 6 #[.int .i64 d, .string s] w (StrPost [] 2 w) := by
  have H := Lib.hid h
  clear h
  go_enter Try.func6, Try.ntmps6
  go_wp2_with (first | (go_at_call 26; refine (isShortWord_c _ _ hs _).mono ?_; rw [H.out]; rintro e w' ⟨rfl, rfl⟩))
  go_ret2
  exact ⟨none, 0, rfl, Below.refl _ _, .inl rfl⟩
theorem sFactorsOf_2 (d : Int) (s : ByteArray) (fs : List ByteArray) (hf : Facts s fs) (h : shortB d 8 s = true) (w : World) :
    Calls Try.prog 7 #[.int .i64 d, .string s] w (StrPost fs 0 w) := by
  have H := Lib.hid h
  have hs := (shortB_true h).2.1
  have hs2 : s.size ≤ maxLen := by unfold maxLen; omega
  clear h
  go_enter Try.func7, Try.ntmps7
  go_wp2_with (first | (go_at_call 28; refine (l05Word_c _ 8 _ hs2 _).mono ?_; rw [H.out]; rintro e w' ⟨rfl, rfl⟩) | fail)
  refine (l05Factors_c s fs hf (by omega) _).mono ?_
  rintro e w1 ⟨a, c, rfl, hb, hN⟩
  go_wp2
  go_ret2
  exact ⟨a, c, rfl, hb, hN⟩
theorem iFactorsOf_2 (d : Int) (s : ByteArray) (fs : List ByteArray) (hf : Facts s fs) (h : shortB d 8 s = true) (w : World) :
    Calls Try.prog 6 #[.int .i64 d, .string s] w (StrPost fs 0 w) := by
  have H := Lib.hid h
  have hs := (shortB_true h).2.1
  have hs2 : s.size ≤ maxLen := by unfold maxLen; omega
  clear h
  go_enter Try.func6, Try.ntmps6
  go_wp2_with (first | (go_at_call 26; refine (isShortWord_c _ _ hs2 _).mono ?_; rw [H.out]; rintro e w' ⟨rfl, rfl⟩) | fail)
  refine (factors_c s fs hf (by omega) _).mono ?_
  rintro e w1 ⟨a, c, rfl, hb, hN⟩
  go_wp2
  go_ret2
  exact ⟨a, c, rfl, hb, hN⟩
end Go.Proofs.Ytolbgdgoambliaa
