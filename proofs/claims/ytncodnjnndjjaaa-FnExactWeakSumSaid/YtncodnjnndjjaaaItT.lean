/-
  Iterated sums: contracts of StrictSum and WeakSum, of the program and of the model.
-/
import Derived.Test.YtncodnjnndjjaaaItI
namespace Go.Proofs.Ytncodnjnndjjaaa
open Go.RowKit

section
variable (lo hi : Nat) (L : Int) (a : Option Addr) (cap : Nat) (ps : List (List Int)) (s : ByteArray) (hz : s.size ≤ 1048576) (hl : ps.length ≤ 1048576) (hs : flat ps ≤ 1048576) (w : World) (hr : PRow lo hi w a ps)
include hz hl hs hr
theorem l10Code_1 (h : pathB L ps = false) : Calls Try.prog 34 #[.int .i64 L, .slice a ps.length cap, .string s] w fun e w' => e = .returned (.int .i64 1) ∧ w = w' := by
  have _h9 := hz
  have H := Lib.hid (l04Is_c lo hi L a cap ps hl hs w hr)
  have HB := Lib.hid h
  clear hr h
  go_enter Try.func34, Try.ntmps34
  go_wp2_with (go_at_call 50; refine H.out.mono ?_; rw [HB.out]; rintro e w' ⟨rfl, rfl⟩)
  go_ret
  exact ⟨rfl, rfl⟩
theorem l10Code_2 (h : pathB L ps = true) (hw : wordB L s.data.toList = false) : Calls Try.prog 34 #[.int .i64 L, .slice a ps.length cap, .string s] w fun e w' => e = .returned (.int .i64 1) ∧ w = w' := by
  have H := Lib.hid (l04Is_c lo hi L a cap ps hl hs w hr)
  have HW := Lib.hid (l01Word_c L s (by unfold maxLen; omega) w)
  have HB := Lib.hid h
  have HC := Lib.hid hw
  clear hr h hw
  go_enter Try.func34, Try.ntmps34
  go_wp2_with (first | (go_at_call 50; refine H.out.mono ?_; rw [HB.out]; rintro e w' ⟨rfl, rfl⟩) | (go_at_call 58; refine HW.out.mono ?_; rw [HC.out]; rintro e w' ⟨rfl, rfl⟩))
  go_ret
  exact ⟨rfl, rfl⟩
theorem l10Code_3 (h : pathB L ps = true) (hw : wordB L s.data.toList = true) (h5 : ¬ s.size ≤ 5) : Calls Try.prog 34 #[.int .i64 L, .slice a ps.length cap, .string s] w fun e w' => e = .returned (.int .i64 2) ∧ w = w' := by
  have H := Lib.hid (l04Is_c lo hi L a cap ps hl hs w hr)
  have HW := Lib.hid (l01Word_c L s (by unfold maxLen; omega) w)
  have HB := Lib.hid h
  have HC := Lib.hid hw
  clear hr h hw
  go_enter Try.func34, Try.ntmps34
  go_wp2_with (first | (go_at_call 50; refine H.out.mono ?_; rw [HB.out]; rintro e w' ⟨rfl, rfl⟩) | (go_at_call 58; refine HW.out.mono ?_; rw [HC.out]; rintro e w' ⟨rfl, rfl⟩))
  go_ret
  exact ⟨rfl, rfl⟩
theorem l10Code_4 (h : pathB L ps = true) (hw : wordB L s.data.toList = true) (h5 : s.size ≤ 5) : Calls Try.prog 34 #[.int .i64 L, .slice a ps.length cap, .string s] w fun e w' => e = .returned (.int .i64 0) ∧ w = w' := by
  have H := Lib.hid (l04Is_c lo hi L a cap ps hl hs w hr)
  have HW := Lib.hid (l01Word_c L s (by unfold maxLen; omega) w)
  have HB := Lib.hid h
  have HC := Lib.hid hw
  clear hr h hw
  go_enter Try.func34, Try.ntmps34
  go_wp2_with (first | (go_at_call 50; refine H.out.mono ?_; rw [HB.out]; rintro e w' ⟨rfl, rfl⟩) | (go_at_call 58; refine HW.out.mono ?_; rw [HC.out]; rintro e w' ⟨rfl, rfl⟩))
  go_ret
  exact ⟨rfl, rfl⟩
end
theorem l10Told_c (n : Int) (h : -43680000000000 ≤ n ∧ n ≤ 43680000000000) (w : World) : Calls Try.prog 35 #[.int .i64 n] w fun e w' => e = .returned (.tuple #[.int .i64 n, .int .i64 0]) ∧ w = w' := by
  have hin : inB n (-1000000000000000) 1000000000000000 = true := inB_yes (by omega)
  have HI := Lib.hid hin
  clear hin h
  go_enter Try.func35, Try.ntmps35
  go_wp2_with (go_at_call 59; refine (l01In_c _ _ _ _).mono ?_; rw [HI.out]; rintro e w' ⟨rfl, rfl⟩)
  go_ret2
  exact ⟨rfl, rfl⟩

theorem OwnM.newM' {w : World} {base : Nat} {a : Option Addr} {l c : Nat} {ms : List Mv} (h : OwnM w base (.slice a l c) ms) : NewM base w.heap.size w a ms := h.at_.2


section
variable (lo hi : Nat) (L : Int) (a : Option Addr) (cap : Nat) (ps : List (List Int)) (s : ByteArray) (hz : s.size ≤ 1048576) (hl : ps.length ≤ 1048576) (hs : flat ps ≤ 1048576) (w : World) (hr : PRow lo hi w a ps)
include hz hl hs hr
theorem sStrictSum_no (c : Int) (hc : c = 1 ∨ c = 2) (H : Calls Try.prog 34 #[.int .i64 L, .slice a ps.length cap, .string s] w fun e w' => e = .returned (.int .i64 c) ∧ w = w') : Calls Try.prog 11 #[.int .i64 L, .slice a ps.length cap, .string s] w (IntPost 0 c w) := by
  have _h9 := hz; have _h8 := hl; have _h7 := hs; have _H6 := Lib.hid hr
  have HC := Lib.hid H
  have hc0 : ¬ c = 0 := by omega
  clear hr H hc
  go_enter Try.func11, Try.ntmps11
  go_wp2_with (go_at_call 34; refine HC.out.mono ?_; rintro e w' ⟨rfl, rfl⟩)
  go_ret2
  exact ⟨rfl, Below.refl _ _⟩
theorem sStrictSum_1 (h : pathB L ps = false) : Calls Try.prog 11 #[.int .i64 L, .slice a ps.length cap, .string s] w (IntPost 0 1 w) :=
  sStrictSum_no lo hi L a cap ps s hz hl hs w hr 1 (.inl rfl) (l10Code_1 lo hi L a cap ps s hz hl hs w hr h)
theorem sStrictSum_2 (h : pathB L ps = true) (hw : wordB L s.data.toList = false) : Calls Try.prog 11 #[.int .i64 L, .slice a ps.length cap, .string s] w (IntPost 0 1 w) :=
  sStrictSum_no lo hi L a cap ps s hz hl hs w hr 1 (.inl rfl) (l10Code_2 lo hi L a cap ps s hz hl hs w hr h hw)
theorem sStrictSum_3 (h : pathB L ps = true) (hw : wordB L s.data.toList = true) (h5 : ¬ s.size ≤ 5) : Calls Try.prog 11 #[.int .i64 L, .slice a ps.length cap, .string s] w (IntPost 0 2 w) :=
  sStrictSum_no lo hi L a cap ps s hz hl hs w hr 2 (.inr rfl) (l10Code_3 lo hi L a cap ps s hz hl hs w hr h hw h5)
theorem iStrictSum_1 (h : pathB L ps = false) : Calls Try.prog 13 #[.int .i64 L, .slice a ps.length cap, .string s] w (IntPost 0 1 w) := by
  have _h9 := hz
  have H := Lib.hid (iIsPath_c lo hi L a cap ps hl hs w hr)
  have HB := Lib.hid h
  clear hr h
  have HQ : Hid (Calls Try.prog 37 #[.int .i64 L, .slice a ps.length cap, .string s, .func (.func 38) #[] #[]] w (IntPost 0 1 w)) := by
    apply Lib.hid
    go_enter Try.func37, Try.ntmps37
    go_wp2_with (go_at_call 53; refine H.out.mono ?_; rw [HB.out]; rintro e w' ⟨rfl, rfl⟩)
    go_ret2
    exact ⟨rfl, Below.refl _ _⟩
  go_enter Try.func13, Try.ntmps13
  go_wp2_with fail
  refine HQ.out.mono ?_
  rintro e w1 ⟨rfl, hb1⟩
  have HB1 := Lib.hid hb1
  clear hb1
  go_wp2
  go_ret2
  exact ⟨rfl, HB1.out⟩
theorem iStrictSum_2 (h : pathB L ps = true) (hw : wordB L s.data.toList = false) : Calls Try.prog 13 #[.int .i64 L, .slice a ps.length cap, .string s] w (IntPost 0 1 w) := by
  have H := Lib.hid (iIsPath_c lo hi L a cap ps hl hs w hr)
  have HW := Lib.hid (areLetters_c L s (by unfold maxLen; omega) w)
  have HB := Lib.hid h
  have HC := Lib.hid hw
  clear hr h hw
  have HQ : Hid (Calls Try.prog 37 #[.int .i64 L, .slice a ps.length cap, .string s, .func (.func 38) #[] #[]] w (IntPost 0 1 w)) := by
    apply Lib.hid
    go_enter Try.func37, Try.ntmps37
    go_wp2_with (first | (go_at_call 53; refine H.out.mono ?_; rw [HB.out]; rintro e w' ⟨rfl, rfl⟩) | (go_at_call 60; refine HW.out.mono ?_; rw [HC.out]; rintro e w' ⟨rfl, rfl⟩))
    go_ret2
    exact ⟨rfl, Below.refl _ _⟩
  go_enter Try.func13, Try.ntmps13
  go_wp2_with fail
  refine HQ.out.mono ?_
  rintro e w1 ⟨rfl, hb1⟩
  have HB1 := Lib.hid hb1
  clear hb1
  go_wp2
  go_ret2
  exact ⟨rfl, HB1.out⟩
theorem iStrictSum_3 (h : pathB L ps = true) (hw : wordB L s.data.toList = true) (h5 : ¬ s.size ≤ 5) : Calls Try.prog 13 #[.int .i64 L, .slice a ps.length cap, .string s] w (IntPost 0 2 w) := by
  have H := Lib.hid (iIsPath_c lo hi L a cap ps hl hs w hr)
  have HW := Lib.hid (areLetters_c L s (by unfold maxLen; omega) w)
  have HB := Lib.hid h
  have HC := Lib.hid hw
  clear hr h hw
  have HQ : Hid (Calls Try.prog 37 #[.int .i64 L, .slice a ps.length cap, .string s, .func (.func 38) #[] #[]] w (IntPost 0 2 w)) := by
    apply Lib.hid
    go_enter Try.func37, Try.ntmps37
    go_wp2_with (first | (go_at_call 53; refine H.out.mono ?_; rw [HB.out]; rintro e w' ⟨rfl, rfl⟩) | (go_at_call 60; refine HW.out.mono ?_; rw [HC.out]; rintro e w' ⟨rfl, rfl⟩))
    go_ret2
    exact ⟨rfl, Below.refl _ _⟩
  go_enter Try.func13, Try.ntmps13
  go_wp2_with fail
  refine HQ.out.mono ?_
  rintro e w1 ⟨rfl, hb1⟩
  have HB1 := Lib.hid hb1
  clear hb1
  go_wp2
  go_ret2
  exact ⟨rfl, HB1.out⟩
end
section
variable (lo hi : Nat) (D : Nat) (a : Option Addr) (cap : Nat) (ps : List (List Int)) (s : ByteArray) (hz : s.size ≤ 1048576) (hl : ps.length ≤ 1048576) (hs : flat ps ≤ 1048576) (w : World) (hr : PRow lo hi w a ps) (hh : hi ≤ w.heap.size)
include hz hl hs hr hh
theorem sStrictSum_4 (h : pathB (D : Int) ps = true) (hP : SmallP D ps) (hw : wordB (D : Int) s.data.toList = true) (h5 : s.size ≤ 5) : Calls Try.prog 11 #[.int .i64 (D : Int), .slice a ps.length cap, .string s] w (IntPost (sumS false ps (letsN s)) 0 w) := by
  have HC := Lib.hid (l10Code_4 lo hi D a cap ps s hz hl hs w hr h hw h5)
  have HQ := Lib.hid (l10Sum_s lo hi D a cap ps s hP hw h5 w hr hh)
  have hbd := hP.sums false 0 (ks := letsN s) (by rw [letsN_length]; exact h5)
  rw [List.drop_zero] at hbd
  obtain ⟨R, hR⟩ : ∃ R, sumS false ps (letsN s) = R := ⟨_, rfl⟩
  rw [hR] at HQ hbd ⊢
  have HTd := Lib.hid (fun W => l10Told_c R hbd W)
  clear hr h hw hP hR
  go_enter Try.func11, Try.ntmps11
  go_wp2_with (go_at_call 34; refine HC.out.mono ?_; rintro e w' ⟨rfl, rfl⟩)
  refine HQ.out.mono ?_
  rintro e w1 ⟨rfl, hb1⟩
  have HB1 := Lib.hid hb1
  clear hb1
  go_wp2_with fail
  refine (HTd.out _).mono ?_
  rintro e w2 ⟨rfl, rfl⟩
  go_wp2
  go_ret2
  exact ⟨rfl, HB1.out⟩
theorem iStrictSum_4 (h : pathB (D : Int) ps = true) (hP : SmallP D ps) (hw : wordB (D : Int) s.data.toList = true) (h5 : s.size ≤ 5) : Calls Try.prog 13 #[.int .i64 (D : Int), .slice a ps.length cap, .string s] w (IntPost (sumS false ps (letsN s)) 0 w) := by
  have H := Lib.hid (iIsPath_c lo hi D a cap ps hl hs w hr)
  have HW := Lib.hid (areLetters_c D s (by unfold maxLen; omega) w)
  have HB := Lib.hid h
  have HC := Lib.hid hw
  have HLn := (show (ps.map mvOf).length = ps.length from by simp)
  have hm := movesOf_c lo hi a cap ps hP.1 (fun i hi => by rw [hP.len hi]; exact hP.2.2.1) w hr hh
  unfold MvsPost at hm
  rw [HLn] at hm
  have HMv := Lib.hid hm
  have HSum := Lib.hid (fun (W : World) (x : Option Addr) (q : Nat) hr => strictSumAt_c 0 W.heap.size D x q ps s hP hw h5 W hr (Nat.le_refl _))
  clear hr h hw hm HLn hP
  have HQ : Hid (Calls Try.prog 37 #[.int .i64 (D : Int), .slice a ps.length cap, .string s, .func (.func 38) #[] #[]] w (IntPost (sumS false ps (letsN s)) 0 w)) := by
    apply Lib.hid
    go_enter Try.func37, Try.ntmps37
    go_wp2_with (first | (go_at_call 53; refine H.out.mono ?_; rw [HB.out]; rintro e w' ⟨rfl, rfl⟩) | (go_at_call 60; refine HW.out.mono ?_; rw [HC.out]; rintro e w' ⟨rfl, rfl⟩))
    refine HMv.out.mono ?_
    rintro e w1 ⟨am, cm, rfl, hb1, hO1⟩
    have HB1 := Lib.hid hb1
    have HR1 := Lib.hid ((hO1.newM').row.mono (Nat.zero_le _) (Nat.le_refl _))
    clear hb1 hO1
    go_wp2_with fail
    refine (HSum.out w1 am cm HR1.out).mono ?_
    rintro e w2 ⟨rfl, hb2⟩
    have HB2 := Lib.hid (HB1.out.trans (hb2.mono HB1.out.size))
    clear hb2
    go_wp2
    go_ret2
    exact ⟨rfl, HB2.out⟩
  go_enter Try.func13, Try.ntmps13
  go_wp2_with fail
  refine HQ.out.mono ?_
  rintro e w1 ⟨rfl, hb1⟩
  have HB1 := Lib.hid hb1
  clear hb1
  go_wp2
  go_ret2
  exact ⟨rfl, HB1.out⟩
end


section
variable (lo hi : Nat) (L : Int) (a : Option Addr) (cap : Nat) (ps : List (List Int)) (s : ByteArray) (hz : s.size ≤ 1048576) (hl : ps.length ≤ 1048576) (hs : flat ps ≤ 1048576) (w : World) (hr : PRow lo hi w a ps)
include hz hl hs hr
theorem sWeakSum_no (c : Int) (hc : c = 1 ∨ c = 2) (H : Calls Try.prog 34 #[.int .i64 L, .slice a ps.length cap, .string s] w fun e w' => e = .returned (.int .i64 c) ∧ w = w') : Calls Try.prog 15 #[.int .i64 L, .slice a ps.length cap, .string s] w (IntPost 0 c w) := by
  have _h9 := hz; have _h8 := hl; have _h7 := hs; have _H6 := Lib.hid hr
  have HC := Lib.hid H
  have hc0 : ¬ c = 0 := by omega
  clear hr H hc
  go_enter Try.func15, Try.ntmps15
  go_wp2_with (go_at_call 34; refine HC.out.mono ?_; rintro e w' ⟨rfl, rfl⟩)
  go_ret2
  exact ⟨rfl, Below.refl _ _⟩
theorem sWeakSum_1 (h : pathB L ps = false) : Calls Try.prog 15 #[.int .i64 L, .slice a ps.length cap, .string s] w (IntPost 0 1 w) :=
  sWeakSum_no lo hi L a cap ps s hz hl hs w hr 1 (.inl rfl) (l10Code_1 lo hi L a cap ps s hz hl hs w hr h)
theorem sWeakSum_2 (h : pathB L ps = true) (hw : wordB L s.data.toList = false) : Calls Try.prog 15 #[.int .i64 L, .slice a ps.length cap, .string s] w (IntPost 0 1 w) :=
  sWeakSum_no lo hi L a cap ps s hz hl hs w hr 1 (.inl rfl) (l10Code_2 lo hi L a cap ps s hz hl hs w hr h hw)
theorem sWeakSum_3 (h : pathB L ps = true) (hw : wordB L s.data.toList = true) (h5 : ¬ s.size ≤ 5) : Calls Try.prog 15 #[.int .i64 L, .slice a ps.length cap, .string s] w (IntPost 0 2 w) :=
  sWeakSum_no lo hi L a cap ps s hz hl hs w hr 2 (.inr rfl) (l10Code_3 lo hi L a cap ps s hz hl hs w hr h hw h5)
theorem iWeakSum_1 (h : pathB L ps = false) : Calls Try.prog 16 #[.int .i64 L, .slice a ps.length cap, .string s] w (IntPost 0 1 w) := by
  have _h9 := hz
  have H := Lib.hid (iIsPath_c lo hi L a cap ps hl hs w hr)
  have HB := Lib.hid h
  clear hr h
  have HQ : Hid (Calls Try.prog 37 #[.int .i64 L, .slice a ps.length cap, .string s, .func (.func 39) #[] #[]] w (IntPost 0 1 w)) := by
    apply Lib.hid
    go_enter Try.func37, Try.ntmps37
    go_wp2_with (go_at_call 53; refine H.out.mono ?_; rw [HB.out]; rintro e w' ⟨rfl, rfl⟩)
    go_ret2
    exact ⟨rfl, Below.refl _ _⟩
  go_enter Try.func16, Try.ntmps16
  go_wp2_with fail
  refine HQ.out.mono ?_
  rintro e w1 ⟨rfl, hb1⟩
  have HB1 := Lib.hid hb1
  clear hb1
  go_wp2
  go_ret2
  exact ⟨rfl, HB1.out⟩
theorem iWeakSum_2 (h : pathB L ps = true) (hw : wordB L s.data.toList = false) : Calls Try.prog 16 #[.int .i64 L, .slice a ps.length cap, .string s] w (IntPost 0 1 w) := by
  have H := Lib.hid (iIsPath_c lo hi L a cap ps hl hs w hr)
  have HW := Lib.hid (areLetters_c L s (by unfold maxLen; omega) w)
  have HB := Lib.hid h
  have HC := Lib.hid hw
  clear hr h hw
  have HQ : Hid (Calls Try.prog 37 #[.int .i64 L, .slice a ps.length cap, .string s, .func (.func 39) #[] #[]] w (IntPost 0 1 w)) := by
    apply Lib.hid
    go_enter Try.func37, Try.ntmps37
    go_wp2_with (first | (go_at_call 53; refine H.out.mono ?_; rw [HB.out]; rintro e w' ⟨rfl, rfl⟩) | (go_at_call 60; refine HW.out.mono ?_; rw [HC.out]; rintro e w' ⟨rfl, rfl⟩))
    go_ret2
    exact ⟨rfl, Below.refl _ _⟩
  go_enter Try.func16, Try.ntmps16
  go_wp2_with fail
  refine HQ.out.mono ?_
  rintro e w1 ⟨rfl, hb1⟩
  have HB1 := Lib.hid hb1
  clear hb1
  go_wp2
  go_ret2
  exact ⟨rfl, HB1.out⟩
theorem iWeakSum_3 (h : pathB L ps = true) (hw : wordB L s.data.toList = true) (h5 : ¬ s.size ≤ 5) : Calls Try.prog 16 #[.int .i64 L, .slice a ps.length cap, .string s] w (IntPost 0 2 w) := by
  have H := Lib.hid (iIsPath_c lo hi L a cap ps hl hs w hr)
  have HW := Lib.hid (areLetters_c L s (by unfold maxLen; omega) w)
  have HB := Lib.hid h
  have HC := Lib.hid hw
  clear hr h hw
  have HQ : Hid (Calls Try.prog 37 #[.int .i64 L, .slice a ps.length cap, .string s, .func (.func 39) #[] #[]] w (IntPost 0 2 w)) := by
    apply Lib.hid
    go_enter Try.func37, Try.ntmps37
    go_wp2_with (first | (go_at_call 53; refine H.out.mono ?_; rw [HB.out]; rintro e w' ⟨rfl, rfl⟩) | (go_at_call 60; refine HW.out.mono ?_; rw [HC.out]; rintro e w' ⟨rfl, rfl⟩))
    go_ret2
    exact ⟨rfl, Below.refl _ _⟩
  go_enter Try.func16, Try.ntmps16
  go_wp2_with fail
  refine HQ.out.mono ?_
  rintro e w1 ⟨rfl, hb1⟩
  have HB1 := Lib.hid hb1
  clear hb1
  go_wp2
  go_ret2
  exact ⟨rfl, HB1.out⟩
end
section
variable (lo hi : Nat) (D : Nat) (a : Option Addr) (cap : Nat) (ps : List (List Int)) (s : ByteArray) (hz : s.size ≤ 1048576) (hl : ps.length ≤ 1048576) (hs : flat ps ≤ 1048576) (w : World) (hr : PRow lo hi w a ps) (hh : hi ≤ w.heap.size)
include hz hl hs hr hh
theorem sWeakSum_4 (h : pathB (D : Int) ps = true) (hP : SmallP D ps) (hw : wordB (D : Int) s.data.toList = true) (h5 : s.size ≤ 5) : Calls Try.prog 15 #[.int .i64 (D : Int), .slice a ps.length cap, .string s] w (IntPost (sumS true ps (letsN s)) 0 w) := by
  have HC := Lib.hid (l10Code_4 lo hi D a cap ps s hz hl hs w hr h hw h5)
  have HQ := Lib.hid (l10Sum_w lo hi D a cap ps s hP hw h5 w hr hh)
  have hbd := hP.sums true 0 (ks := letsN s) (by rw [letsN_length]; exact h5)
  rw [List.drop_zero] at hbd
  obtain ⟨R, hR⟩ : ∃ R, sumS true ps (letsN s) = R := ⟨_, rfl⟩
  rw [hR] at HQ hbd ⊢
  have HTd := Lib.hid (fun W => l10Told_c R hbd W)
  clear hr h hw hP hR
  go_enter Try.func15, Try.ntmps15
  go_wp2_with (go_at_call 34; refine HC.out.mono ?_; rintro e w' ⟨rfl, rfl⟩)
  refine HQ.out.mono ?_
  rintro e w1 ⟨rfl, hb1⟩
  have HB1 := Lib.hid hb1
  clear hb1
  go_wp2_with fail
  refine (HTd.out _).mono ?_
  rintro e w2 ⟨rfl, rfl⟩
  go_wp2
  go_ret2
  exact ⟨rfl, HB1.out⟩
theorem iWeakSum_4 (h : pathB (D : Int) ps = true) (hP : SmallP D ps) (hw : wordB (D : Int) s.data.toList = true) (h5 : s.size ≤ 5) : Calls Try.prog 16 #[.int .i64 (D : Int), .slice a ps.length cap, .string s] w (IntPost (sumS true ps (letsN s)) 0 w) := by
  have H := Lib.hid (iIsPath_c lo hi D a cap ps hl hs w hr)
  have HW := Lib.hid (areLetters_c D s (by unfold maxLen; omega) w)
  have HB := Lib.hid h
  have HC := Lib.hid hw
  have HLn := (show (ps.map mvOf).length = ps.length from by simp)
  have hm := movesOf_c lo hi a cap ps hP.1 (fun i hi => by rw [hP.len hi]; exact hP.2.2.1) w hr hh
  unfold MvsPost at hm
  rw [HLn] at hm
  have HMv := Lib.hid hm
  have HSum := Lib.hid (fun (W : World) (x : Option Addr) (q : Nat) hr => weakSumAt_c 0 W.heap.size D x q ps s hP hw h5 W hr (Nat.le_refl _))
  clear hr h hw hm HLn hP
  have HQ : Hid (Calls Try.prog 37 #[.int .i64 (D : Int), .slice a ps.length cap, .string s, .func (.func 39) #[] #[]] w (IntPost (sumS true ps (letsN s)) 0 w)) := by
    apply Lib.hid
    go_enter Try.func37, Try.ntmps37
    go_wp2_with (first | (go_at_call 53; refine H.out.mono ?_; rw [HB.out]; rintro e w' ⟨rfl, rfl⟩) | (go_at_call 60; refine HW.out.mono ?_; rw [HC.out]; rintro e w' ⟨rfl, rfl⟩))
    refine HMv.out.mono ?_
    rintro e w1 ⟨am, cm, rfl, hb1, hO1⟩
    have HB1 := Lib.hid hb1
    have HR1 := Lib.hid ((hO1.newM').row.mono (Nat.zero_le _) (Nat.le_refl _))
    clear hb1 hO1
    go_wp2_with fail
    refine (HSum.out w1 am cm HR1.out).mono ?_
    rintro e w2 ⟨rfl, hb2⟩
    have HB2 := Lib.hid (HB1.out.trans (hb2.mono HB1.out.size))
    clear hb2
    go_wp2
    go_ret2
    exact ⟨rfl, HB2.out⟩
  go_enter Try.func16, Try.ntmps16
  go_wp2_with fail
  refine HQ.out.mono ?_
  rintro e w1 ⟨rfl, hb1⟩
  have HB1 := Lib.hid hb1
  clear hb1
  go_wp2
  go_ret2
  exact ⟨rfl, HB1.out⟩
end

end Go.Proofs.Ytncodnjnndjjaaa
