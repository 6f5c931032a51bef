/-
  Contracts of FactorsOf, of the program and of its model.
-/
import Derived.Test.YtgelajjjghboaaaCutS
namespace Go.Proofs.Ytgelajjjghboaaa
open Go.RowKit

/-- what a function that returns words alone comes to -/
def ListPost (ss : List ByteArray) (W : World) (e : Ending) (w' : World) : Prop :=
  ∃ (a : Option Addr) (cap : Nat), e = .returned (.slice a ss.length cap) ∧ Below W.heap.size W w' ∧ NewS W.heap.size w'.heap.size w' a ss
/-- so far: the factors `acc` are gathered, the rest `t` is left -/
def FacAt (s : ByteArray) (fs : List ByteArray) (t : ByteArray) (acc : List ByteArray) : Prop := t.size ≤ s.size ∧ acc.length + t.size ≤ s.size ∧ ∃ r, Facts t r ∧ fs = acc ++ r
theorem FacAt.start {s : ByteArray} {fs : List ByteArray} (h : Facts s fs) : FacAt s fs s [] := ⟨Nat.le_refl _, by simp, fs, h, rfl⟩
theorem FacAt.step {s t : ByteArray} {fs acc : List ByteArray} (h : FacAt s fs t acc) (h0 : 0 < t.size) : ∃ n, IsPre t n ∧ FacAt s fs (t.extract n t.size) (acc ++ [t.extract 0 n]) := by
  obtain ⟨h1, h2, r, hr, he⟩ := h
  cases hr with
  | done _ h => omega
  | more _ n fs' hn hf =>
    have a := hn.1
    have b := hn.2.1
    refine ⟨n, hn, ?_, ?_, fs', hf, by rw [he]; simp⟩
    · rw [ByteArray.size_extract]; omega
    · rw [ByteArray.size_extract, List.length_append, List.length_singleton]; omega
theorem FacAt.end_ {s t : ByteArray} {fs acc : List ByteArray} (h : FacAt s fs t acc) (h0 : t.size = 0) : acc = fs := by
  obtain ⟨h1, h2, r, hr, he⟩ := h
  cases hr with
  | done _ h => rw [he]; simp
  | more _ n fs' hn hf =>
    have a := hn.1
    have b := hn.2.1
    omega

set_option maxRecDepth 100000 in
set_option maxHeartbeats 4000000 in
theorem l05Factors_c (s : ByteArray) (fs : List ByteArray) (hf : Facts s fs) (hs : s.size ≤ 1048576) (w : World) :
    Calls Try.prog 48 #[.string s] w (ListPost fs w) := by
  have HF := Lib.hid (FacAt.start hf)
  clear hf
  go_enter Try.func48, Try.ntmps48
  go_wp2_with fail
  go_loopw [0, 3, 4] (fun vt vo _ wr => ∃ (t : ByteArray) (acc : List ByteArray) (a : Option Addr) (l c : Nat), vt = .string t ∧ vo = .slice a l c ∧ l = acc.length ∧ FacAt s fs t acc ∧ OwnS wr w.heap.size (.slice a l c) acc ∧ Below w.heap.size w wr) (fun vt _ _ _ => match vt with | .string t => t.size | _ => 0)
  case atStart => exact ⟨s, [], _, 0, 0, rfl, rfl, rfl, HF.out, OwnS.emptyRow (heap_alloc_new w _) (Nat.le_refl _), below1 _ _⟩
  case round =>
    obtain ⟨t, acc, a, l, c, rfl, rfl, hl, hF, hO, hB⟩ := hrel
    have hts : t.size ≤ s.size := hF.1
    have hfew : l ≤ 1048576 := by have := hF.2.1; omega
    have HF1 := Lib.hid hF
    have HO := Lib.hid hO
    have HB := Lib.hid hB
    have HL := Lib.hid hl
    have hz := hB.size
    clear hF hO hB hl HF
    by_cases h0 : 0 < t.size
    · obtain ⟨n, hn, hnext⟩ := HF1.out.step h0
      have HN := Lib.hid hn
      have HX := Lib.hid hnext
      have hn1 := hn.1
      have hn2 := hn.2.1
      clear hn hnext
      obtain ⟨wo, rfl⟩ : ∃ wo : World, wo = wr := ⟨_, rfl⟩
      go_wp2_with fail
      go_loopw [4] (fun vn wr => ∃ k : Nat, n ≤ k ∧ k ≤ t.size ∧ vn = .int .i64 k ∧ wr = wo) (fun vn _ => (intOf vn).toNat)
      case atStart => exact ⟨t.size, hn2, Nat.le_refl _, rfl, rfl⟩
      case round =>
        obtain ⟨k, hk, hk2, rfl, rfl⟩ := hrel
        have hzz : (t.extract 0 k).size ≤ maxLen := by simp only [ByteArray.size_extract]; unfold maxLen; omega
        by_cases hp : k = n
        · subst hp
          have HBl : Hid (lynB (t.extract 0 k) = true) := Lib.hid HN.out.2.2.1
          have hadd : acc.length + 1 ≤ 4194304 := by have := HL.out; omega
          go_wp2_with (first | (go_at_call 40; refine (l05Lyndon_c _ hzz _).mono ?_; rw [HBl.out]; rintro e w' ⟨rfl, rfl⟩) | (at_builtin; refine wpList_append_strs rfl _ _ rfl w.heap.size (.slice a l c) l acc [t.extract 0 k] rfl HL.out (HO.out.alloc _) _ 1 1 rfl rfl (.inr ⟨_, 0, rfl, strs_one _ _⟩) (by omega) (by simp; omega) ?_))
          intro a3 c3 w3 hO3 hG3 _
          have HO3 := Lib.hid hO3
          have HB3 := Lib.hid (HB.out.trans (((below1 _ _).mono hz).trans (own_grownS (HO.out.alloc _) hG3 (by simp; omega))))
          clear hO3 hG3
          go_wp2
          go_roundw
          case rel => exact ⟨_, _, a3, l + 1, c3, rfl, rfl, by rw [HL.out]; simp, HX.out, HO3.out, HB3.out⟩
          case measure => simp only [ByteArray.size_extract]; omega
        · have HBl : Hid (lynB (t.extract 0 k) = false) := Lib.hid (HN.out.2.2.2 k (by omega) hk2)
          go_wp2_with (go_at_call 40; refine (l05Lyndon_c _ hzz _).mono ?_; rw [HBl.out]; rintro e w' ⟨rfl, rfl⟩)
          go_roundw
          case rel => exact ⟨k - 1, by omega, by omega, by congr 1; omega, trivial⟩
          case measure => simp [intOf]; omega
    · have HE := Lib.hid (HF1.out.end_ (by omega))
      go_wp2
      go_ret
      have hO := HO.out
      rw [HE.out] at hO
      obtain ⟨a', c', he, hle, hN⟩ := hO.newS
      injection he with e1 e2 e3
      subst e1 e3
      exact ⟨a, c, by first | rfl | (rw [e2]; rfl), HB.out, hN⟩

theorem behindFirst_c (s : ByteArray) (n : Nat) (hn : IsPre s n) (hs : s.size ≤ 1048576) (w : World) :
    Calls Try.prog 64 #[.string s] w fun e w' => e = .returned (.tuple #[.string (s.extract 0 n), .string (s.extract n s.size)]) ∧ Below w.heap.size w w' := by
  have HI := Lib.hid hn
  have hi1 := hn.1
  have hi2 := hn.2.1
  clear hn
  go_enter Try.func64, Try.ntmps64
  go_wp2_with fail
  go_loop [4] (fun vi => ∃ k : Nat, n ≤ k ∧ k ≤ s.size ∧ vi = .int .i64 k) (fun vi => (intOf vi).toNat)
  case atStart => exact ⟨s.size, hi2, Nat.le_refl _, rfl⟩
  case round =>
    obtain ⟨k, hk1, hk, rfl⟩ := hrel
    have hz : (s.extract 0 k).size ≤ maxLen := by simp only [ByteArray.size_extract]; unfold maxLen; omega
    by_cases hp : k = n
    · subst hp
      have HB : Hid (lynB (s.extract 0 k) = true) := Lib.hid HI.out.2.2.1
      go_wp2_with (first | (go_at_call 41; refine (isLyndon_c _ hz _).mono ?_; rw [HB.out]; rintro e w' ⟨rfl, rfl⟩) | fail)
      go_quiet (fail)
      go_wp2
      go_ret2
      exact ⟨rfl, below_dN2 (Below.refl _ _) _⟩
    · have HB : Hid (lynB (s.extract 0 k) = false) := Lib.hid (HI.out.2.2.2 k (by omega) hk)
      go_wp2_with (go_at_call 41; refine (isLyndon_c _ hz _).mono ?_; rw [HB.out]; rintro e w' ⟨rfl, rfl⟩)
      go_round
      case rel => exact ⟨k - 1, by omega, by omega, by congr 1; omega⟩
      case measure => simp [intOf]; omega
set_option maxRecDepth 100000 in
set_option maxHeartbeats 4000000 in
theorem pieces_c (s : ByteArray) (fs : List ByteArray) (hf : Facts s fs) (hs : s.size ≤ 1048576) (w : World) :
    Calls Try.prog 63 #[.string s, .func (.func 64) #[] #[]] w (ListPost fs w) := by
  have HF := Lib.hid (FacAt.start hf)
  clear hf
  go_enter Try.func63, Try.ntmps63
  go_wp2_with fail
  go_loopw [0, 5, 6, 7] (fun vt vo _ _ wr => ∃ (t : ByteArray) (acc : List ByteArray) (a : Option Addr) (l c : Nat), vt = .string t ∧ vo = .slice a l c ∧ l = acc.length ∧ FacAt s fs t acc ∧ OwnS wr w.heap.size (.slice a l c) acc ∧ Below w.heap.size w wr) (fun vt _ _ _ _ => match vt with | .string t => t.size | _ => 0)
  case atStart => exact ⟨s, [], _, 0, 0, rfl, rfl, rfl, HF.out, OwnS.nil _ _, Below.refl _ _⟩
  case round =>
    obtain ⟨t, acc, a, l, c, rfl, rfl, hl, hF, hO, hB⟩ := hrel
    have hts : t.size ≤ s.size := hF.1
    have hfew : l ≤ 1048576 := by have := hF.2.1; omega
    have HF1 := Lib.hid hF
    have HO := Lib.hid hO
    have HB := Lib.hid hB
    have HL := Lib.hid hl
    have hz := hB.size
    clear hF hO hB hl HF
    by_cases h0 : 0 < t.size
    · obtain ⟨n, hn, hnext⟩ := HF1.out.step h0
      have HN := Lib.hid hn
      have HX := Lib.hid hnext
      have hn1 := hn.1
      have hn2 := hn.2.1
      have hne := isEmpty_no h0
      have hcp : (t.extract 0 n).size ≤ 1048576 := by simp only [ByteArray.size_extract]; omega
      clear hn hnext
      go_wp2_with fail
      refine (behindFirst_c t n HN.out (by omega) _).mono ?_
      rintro e w1 ⟨rfl, hb1⟩
      have HO1 := Lib.hid (HO.out.below hb1 (fun g hg => (HO.out.lt g hg).2))
      have HB1 := Lib.hid (HB.out.trans (hb1.mono hz))
      have hz1 := HB1.out.size
      clear hb1
      go_wp2_with fail
      refine (copied_c _ hcp _).mono ?_
      rintro e w2 ⟨rfl, hb2⟩
      have HO2 := Lib.hid (HO1.out.below hb2 (fun g hg => (HO1.out.lt g hg).2))
      have HB2 := Lib.hid (HB1.out.trans (hb2.mono hz1))
      have hz2 := HB2.out.size
      clear hb2
      go_wp2_with (at_builtin; refine wpList_append_strs rfl _ _ rfl w.heap.size (.slice a l c) l acc [t.extract 0 n] rfl HL.out (HO2.out.alloc _) _ 1 1 rfl rfl (.inr ⟨_, 0, rfl, strs_one _ _⟩) (by omega) (by simp; omega) ?_)
      intro a3 c3 w3 hO3 hG3 _
      have HO3 := Lib.hid hO3
      have HB3 := Lib.hid (HB2.out.trans (((below1 _ _).mono hz2).trans (own_grownS (HO2.out.alloc _) hG3 (by simp; omega))))
      clear hO3 hG3
      go_wp2
      go_roundw
      case rel => exact ⟨_, _, a3, l + 1, c3, rfl, rfl, by rw [HL.out]; simp, HX.out, HO3.out, HB3.out⟩
      case measure => simp only [ByteArray.size_extract]; omega
    · have h0' : t.size = 0 := by omega
      have HE := Lib.hid (HF1.out.end_ h0')
      obtain rfl := size_zero h0'
      go_wp2
      go_ret
      have hO := HO.out
      rw [HE.out] at hO
      obtain ⟨a', c', he, hle, hN⟩ := hO.newS
      injection he with e1 e2 e3
      subst e1 e3
      exact ⟨a, c, by first | rfl | (rw [e2]; rfl), HB.out, hN⟩

theorem factors_c (s : ByteArray) (fs : List ByteArray) (hf : Facts s fs) (hs : s.size ≤ 1048576) (w : World) :
    Calls Try.prog 49 #[.string s] w (ListPost fs w) := by
  go_enter Try.func49, Try.ntmps49
  go_wp2_with fail
  refine (pieces_c s fs hf hs _).mono ?_
  rintro e w1 ⟨a, c, rfl, hb, hN⟩
  go_wp2
  go_ret
  exact ⟨a, c, rfl, hb, hN⟩

theorem sFactorsOf_1 (d : Int) (s : ByteArray) (hs : s.size ≤ maxLen) (h : shortB d 8 s = false) (w : World) :
    Calls Try.prog 24 #[.int .i64 d, .string s] w (StrPost [] 2 w) := by
  have H := Lib.hid h
  clear h
  go_enter Try.func24, Try.ntmps24
  go_wp2_with (first | (go_at_call 33; refine (l05Word_c _ 8 _ hs _).mono ?_; rw [H.out]; rintro e w' ⟨rfl, rfl⟩))
  go_ret2
  exact ⟨none, 0, rfl, Below.refl _ _, .inl rfl⟩
theorem iFactorsOf_1 (d : Int) (s : ByteArray) (hs : s.size ≤ maxLen) (h : shortB d 8 s = false) (w : World) :
    Calls Try.prog 25 #[.int .i64 d, .string s] w (StrPost [] 2 w) := by
  have H := Lib.hid h
  clear h
  go_enter Try.func25, Try.ntmps25
  go_wp2_with (first | (go_at_call 36; refine (isShortWord_c _ _ hs _).mono ?_; rw [H.out]; rintro e w' ⟨rfl, rfl⟩))
  go_ret2
  exact ⟨none, 0, rfl, Below.refl _ _, .inl rfl⟩
theorem sFactorsOf_2 (d : Int) (s : ByteArray) (fs : List ByteArray) (hf : Facts s fs) (h : shortB d 8 s = true) (w : World) :
    Calls Try.prog 24 #[.int .i64 d, .string s] w (StrPost fs 0 w) := by
  have H := Lib.hid h
  have hs := (shortB_true h).2.1
  have hs2 : s.size ≤ maxLen := by unfold maxLen; omega
  clear h
  go_enter Try.func24, Try.ntmps24
  go_wp2_with (first | (go_at_call 33; refine (l05Word_c _ 8 _ hs2 _).mono ?_; rw [H.out]; rintro e w' ⟨rfl, rfl⟩) | fail)
  refine (l05Factors_c s fs hf (by omega) _).mono ?_
  rintro e w1 ⟨a, c, rfl, hb, hN⟩
  go_wp2
  go_ret2
  exact ⟨a, c, rfl, hb, hN⟩
theorem iFactorsOf_2 (d : Int) (s : ByteArray) (fs : List ByteArray) (hf : Facts s fs) (h : shortB d 8 s = true) (w : World) :
    Calls Try.prog 25 #[.int .i64 d, .string s] w (StrPost fs 0 w) := by
  have H := Lib.hid h
  have hs := (shortB_true h).2.1
  have hs2 : s.size ≤ maxLen := by unfold maxLen; omega
  clear h
  go_enter Try.func25, Try.ntmps25
  go_wp2_with (first | (go_at_call 36; refine (isShortWord_c _ _ hs2 _).mono ?_; rw [H.out]; rintro e w' ⟨rfl, rfl⟩) | fail)
  refine (factors_c s fs hf (by omega) _).mono ?_
  rintro e w1 ⟨a, c, rfl, hb, hN⟩
  go_wp2
  go_ret2
  exact ⟨a, c, rfl, hb, hN⟩
end Go.Proofs.Ytgelajjjghboaaa
