/-
  ShuffleNumber's contracts, of the model; and what counts as good arguments.
-/
import Derived.Test.YtgcjpenlcokgjaaShuS
import Derived.Test.YtgcjpenlcokgjaaRes
namespace Go.Proofs.Ytgcjpenlcokgjaa
open Go.RowKit
set_option linter.unusedVariables false

/-- the code of ShuffleNumber -/
def shC (d : Int) (v w u : ByteArray) : Int := if inB d 1 3 && wordB d v.data.toList && wordB d w.data.toList && wordB d u.data.toList && decide (v.size ≤ 8) && decide (w.size ≤ 8) && decide (u.size ≤ 8) then 0 else 2
/-- its number -/
def shV (d : Int) (v w u : ByteArray) : Int := if shC d v w u = 0 then (shN v.data.toList w.data.toList u.data.toList : Nat) else 0
theorem shC_good {d : Int} {v w u : ByteArray} (h : shC d v w u = 0) : inB d 1 3 = true ∧ wordB d v.data.toList = true ∧ wordB d w.data.toList = true ∧ wordB d u.data.toList = true ∧ v.size ≤ 8 ∧ w.size ≤ 8 ∧ u.size ≤ 8 := by
  unfold shC at h
  split at h
  · rename_i h1
    simp only [Bool.and_eq_true, decide_eq_true_eq] at h1
    obtain ⟨⟨⟨⟨⟨⟨a, b⟩, c⟩, d⟩, e⟩, f⟩, g⟩ := h1
    exact ⟨a, b, c, d, e, f, g⟩
  · cases h
theorem shC_bad {d : Int} {v w u : ByteArray} (h : ¬ shC d v w u = 0) : shC d v w u = 2 := by
  unfold shC at h ⊢
  split
  · rename_i h1; rw [if_pos h1] at h; exact absurd rfl h
  · rfl
theorem below_drewN {W : World} (m : Nat) : Below W.heap.size W (W.drewN m) := have h := Below.refl W.heap.size W; ⟨h.os, h.tape, h.output, h.size, h.block⟩

set_option maxRecDepth 100000 in
theorem sShn_0 (d : Int) (v w u : ByteArray) (hv : v.size ≤ maxLen) (hw : w.size ≤ maxLen) (hu : u.size ≤ maxLen) (hin : inB d 1 3 = false) (W : World) :
    Calls Try.prog 19 #[.int .i64 d, .string v, .string w, .string u] W fun e w' => e = .returned (.tuple #[.int .i64 0, .int .i64 2]) ∧ Below W.heap.size W w' := by
  have Hin := Lib.hid hin
  clear hv hw hu hin
  go_enter Try.func19, Try.ntmps19
  go_wp2_with (first | (go_at_call 35; refine (l01In_c _ _ _ _).mono ?_; rw [Hin.out]; rintro e w' ⟨rfl, rfl⟩))
  go_ret2
  exact ⟨rfl, Below.refl _ _⟩

set_option maxRecDepth 100000 in
theorem sShn_1 (d : Int) (v w u : ByteArray) (hv : v.size ≤ maxLen) (hw : w.size ≤ maxLen) (hu : u.size ≤ maxLen) (hin : inB d 1 3 = true) (hwv : wordB d v.data.toList = false) (W : World) :
    Calls Try.prog 19 #[.int .i64 d, .string v, .string w, .string u] W fun e w' => e = .returned (.tuple #[.int .i64 0, .int .i64 2]) ∧ Below W.heap.size W w' := by
  have Hin := Lib.hid hin
  have Hwv := Lib.hid hwv
  have C1 := Lib.hid (fun W => l01Word_c d v hv W)
  rw [Hwv.out] at C1
  clear hv hw hu hin hwv
  go_enter Try.func19, Try.ntmps19
  go_wp2_with (first | (go_at_call 35; refine (l01In_c _ _ _ _).mono ?_; rw [Hin.out]; rintro e w' ⟨rfl, rfl⟩) | (go_at_call 36; (with_reducible refine (C1.out _).mono ?_); rintro e w' ⟨rfl, rfl⟩))
  go_ret2
  exact ⟨rfl, Below.refl _ _⟩

set_option maxRecDepth 100000 in
theorem sShn_2 (d : Int) (v w u : ByteArray) (hv : v.size ≤ maxLen) (hw : w.size ≤ maxLen) (hu : u.size ≤ maxLen) (hin : inB d 1 3 = true) (hwv : wordB d v.data.toList = true) (hww : wordB d w.data.toList = false) (W : World) :
    Calls Try.prog 19 #[.int .i64 d, .string v, .string w, .string u] W fun e w' => e = .returned (.tuple #[.int .i64 0, .int .i64 2]) ∧ Below W.heap.size W w' := by
  have Hin := Lib.hid hin
  have Hwv := Lib.hid hwv
  have Hww := Lib.hid hww
  have C1 := Lib.hid (fun W => l01Word_c d v hv W)
  have C2 := Lib.hid (fun W => l01Word_c d w hw W)
  rw [Hwv.out] at C1
  rw [Hww.out] at C2
  clear hv hw hu hin hwv hww
  go_enter Try.func19, Try.ntmps19
  go_wp2_with (first | (go_at_call 35; refine (l01In_c _ _ _ _).mono ?_; rw [Hin.out]; rintro e w' ⟨rfl, rfl⟩) | (go_at_call 36; (with_reducible refine (C1.out _).mono ?_); rintro e w' ⟨rfl, rfl⟩) | (go_at_call 36; (with_reducible refine (C2.out _).mono ?_); rintro e w' ⟨rfl, rfl⟩))
  go_ret2
  exact ⟨rfl, Below.refl _ _⟩

set_option maxRecDepth 100000 in
theorem sShn_3 (d : Int) (v w u : ByteArray) (hv : v.size ≤ maxLen) (hw : w.size ≤ maxLen) (hu : u.size ≤ maxLen) (hin : inB d 1 3 = true) (hwv : wordB d v.data.toList = true) (hww : wordB d w.data.toList = true) (hwu : wordB d u.data.toList = false) (W : World) :
    Calls Try.prog 19 #[.int .i64 d, .string v, .string w, .string u] W fun e w' => e = .returned (.tuple #[.int .i64 0, .int .i64 2]) ∧ Below W.heap.size W w' := by
  have Hin := Lib.hid hin
  have Hwv := Lib.hid hwv
  have Hww := Lib.hid hww
  have Hwu := Lib.hid hwu
  have C1 := Lib.hid (fun W => l01Word_c d v hv W)
  have C2 := Lib.hid (fun W => l01Word_c d w hw W)
  have C3 := Lib.hid (fun W => l01Word_c d u hu W)
  rw [Hwv.out] at C1
  rw [Hww.out] at C2
  rw [Hwu.out] at C3
  clear hv hw hu hin hwv hww hwu
  go_enter Try.func19, Try.ntmps19
  go_wp2_with (first | (go_at_call 35; refine (l01In_c _ _ _ _).mono ?_; rw [Hin.out]; rintro e w' ⟨rfl, rfl⟩) | (go_at_call 36; (with_reducible refine (C1.out _).mono ?_); rintro e w' ⟨rfl, rfl⟩) | (go_at_call 36; (with_reducible refine (C2.out _).mono ?_); rintro e w' ⟨rfl, rfl⟩) | (go_at_call 36; (with_reducible refine (C3.out _).mono ?_); rintro e w' ⟨rfl, rfl⟩))
  go_ret2
  exact ⟨rfl, Below.refl _ _⟩

set_option maxRecDepth 100000 in
theorem sShn_4 (d : Int) (v w u : ByteArray) (hv : v.size ≤ maxLen) (hw : w.size ≤ maxLen) (hu : u.size ≤ maxLen) (hin : inB d 1 3 = true) (hwv : wordB d v.data.toList = true) (hww : wordB d w.data.toList = true) (hwu : wordB d u.data.toList = true) (hlv : ¬ v.size ≤ 8) (W : World) :
    Calls Try.prog 19 #[.int .i64 d, .string v, .string w, .string u] W fun e w' => e = .returned (.tuple #[.int .i64 0, .int .i64 2]) ∧ Below W.heap.size W w' := by
  have Hin := Lib.hid hin
  have Hwv := Lib.hid hwv
  have Hww := Lib.hid hww
  have Hwu := Lib.hid hwu
  have C1 := Lib.hid (fun W => l01Word_c d v hv W)
  have C2 := Lib.hid (fun W => l01Word_c d w hw W)
  have C3 := Lib.hid (fun W => l01Word_c d u hu W)
  rw [Hwv.out] at C1
  rw [Hww.out] at C2
  rw [Hwu.out] at C3
  have hzv :  (8 : Int) < (v.size : Int) := by omega
  clear hv hw hu hin hwv hww hwu hlv
  go_enter Try.func19, Try.ntmps19
  go_wp2_with (first | (go_at_call 35; refine (l01In_c _ _ _ _).mono ?_; rw [Hin.out]; rintro e w' ⟨rfl, rfl⟩) | (go_at_call 36; (with_reducible refine (C1.out _).mono ?_); rintro e w' ⟨rfl, rfl⟩) | (go_at_call 36; (with_reducible refine (C2.out _).mono ?_); rintro e w' ⟨rfl, rfl⟩) | (go_at_call 36; (with_reducible refine (C3.out _).mono ?_); rintro e w' ⟨rfl, rfl⟩))
  go_ret2
  exact ⟨rfl, Below.refl _ _⟩

set_option maxRecDepth 100000 in
theorem sShn_5 (d : Int) (v w u : ByteArray) (hv : v.size ≤ maxLen) (hw : w.size ≤ maxLen) (hu : u.size ≤ maxLen) (hin : inB d 1 3 = true) (hwv : wordB d v.data.toList = true) (hww : wordB d w.data.toList = true) (hwu : wordB d u.data.toList = true) (hlv :  v.size ≤ 8) (hlw : ¬ w.size ≤ 8) (W : World) :
    Calls Try.prog 19 #[.int .i64 d, .string v, .string w, .string u] W fun e w' => e = .returned (.tuple #[.int .i64 0, .int .i64 2]) ∧ Below W.heap.size W w' := by
  have Hin := Lib.hid hin
  have Hwv := Lib.hid hwv
  have Hww := Lib.hid hww
  have Hwu := Lib.hid hwu
  have C1 := Lib.hid (fun W => l01Word_c d v hv W)
  have C2 := Lib.hid (fun W => l01Word_c d w hw W)
  have C3 := Lib.hid (fun W => l01Word_c d u hu W)
  rw [Hwv.out] at C1
  rw [Hww.out] at C2
  rw [Hwu.out] at C3
  have hzv : ¬ (8 : Int) < (v.size : Int) := by omega
  have hzw :  (8 : Int) < (w.size : Int) := by omega
  clear hv hw hu hin hwv hww hwu hlv hlw
  go_enter Try.func19, Try.ntmps19
  go_wp2_with (first | (go_at_call 35; refine (l01In_c _ _ _ _).mono ?_; rw [Hin.out]; rintro e w' ⟨rfl, rfl⟩) | (go_at_call 36; (with_reducible refine (C1.out _).mono ?_); rintro e w' ⟨rfl, rfl⟩) | (go_at_call 36; (with_reducible refine (C2.out _).mono ?_); rintro e w' ⟨rfl, rfl⟩) | (go_at_call 36; (with_reducible refine (C3.out _).mono ?_); rintro e w' ⟨rfl, rfl⟩))
  go_ret2
  exact ⟨rfl, Below.refl _ _⟩

set_option maxRecDepth 100000 in
theorem sShn_6 (d : Int) (v w u : ByteArray) (hv : v.size ≤ maxLen) (hw : w.size ≤ maxLen) (hu : u.size ≤ maxLen) (hin : inB d 1 3 = true) (hwv : wordB d v.data.toList = true) (hww : wordB d w.data.toList = true) (hwu : wordB d u.data.toList = true) (hlv :  v.size ≤ 8) (hlw :  w.size ≤ 8) (hlu : ¬ u.size ≤ 8) (W : World) :
    Calls Try.prog 19 #[.int .i64 d, .string v, .string w, .string u] W fun e w' => e = .returned (.tuple #[.int .i64 0, .int .i64 2]) ∧ Below W.heap.size W w' := by
  have Hin := Lib.hid hin
  have Hwv := Lib.hid hwv
  have Hww := Lib.hid hww
  have Hwu := Lib.hid hwu
  have C1 := Lib.hid (fun W => l01Word_c d v hv W)
  have C2 := Lib.hid (fun W => l01Word_c d w hw W)
  have C3 := Lib.hid (fun W => l01Word_c d u hu W)
  rw [Hwv.out] at C1
  rw [Hww.out] at C2
  rw [Hwu.out] at C3
  have hzv : ¬ (8 : Int) < (v.size : Int) := by omega
  have hzw : ¬ (8 : Int) < (w.size : Int) := by omega
  have hzu :  (8 : Int) < (u.size : Int) := by omega
  clear hv hw hu hin hwv hww hwu hlv hlw hlu
  go_enter Try.func19, Try.ntmps19
  go_wp2_with (first | (go_at_call 35; refine (l01In_c _ _ _ _).mono ?_; rw [Hin.out]; rintro e w' ⟨rfl, rfl⟩) | (go_at_call 36; (with_reducible refine (C1.out _).mono ?_); rintro e w' ⟨rfl, rfl⟩) | (go_at_call 36; (with_reducible refine (C2.out _).mono ?_); rintro e w' ⟨rfl, rfl⟩) | (go_at_call 36; (with_reducible refine (C3.out _).mono ?_); rintro e w' ⟨rfl, rfl⟩))
  go_ret2
  exact ⟨rfl, Below.refl _ _⟩

set_option maxRecDepth 100000 in
theorem sShn_7 (d : Int) (v w u : ByteArray) (hv : v.size ≤ maxLen) (hw : w.size ≤ maxLen) (hu : u.size ≤ maxLen) (hin : inB d 1 3 = true) (hwv : wordB d v.data.toList = true) (hww : wordB d w.data.toList = true) (hwu : wordB d u.data.toList = true) (hlv :  v.size ≤ 8) (hlw :  w.size ≤ 8) (hlu :  u.size ≤ 8) (W : World) :
    Calls Try.prog 19 #[.int .i64 d, .string v, .string w, .string u] W fun e w' => e = .returned (.tuple #[.int .i64 (shN v.data.toList w.data.toList u.data.toList : Nat), .int .i64 0]) ∧ Below W.heap.size W w' := by
  have HN := Lib.hid (fun W => num_all u.size v w u rfl hlu hlv hlw W)
  obtain ⟨x, hx⟩ : ∃ x, (shN v.data.toList w.data.toList u.data.toList) = x := ⟨_, rfl⟩
  rw [hx] at HN ⊢
  clear hx
  have Hin := Lib.hid hin
  have Hwv := Lib.hid hwv
  have Hww := Lib.hid hww
  have Hwu := Lib.hid hwu
  have C1 := Lib.hid (fun W => l01Word_c d v hv W)
  have C2 := Lib.hid (fun W => l01Word_c d w hw W)
  have C3 := Lib.hid (fun W => l01Word_c d u hu W)
  rw [Hwv.out] at C1
  rw [Hww.out] at C2
  rw [Hwu.out] at C3
  have hzv : ¬ (8 : Int) < (v.size : Int) := by omega
  have hzw : ¬ (8 : Int) < (w.size : Int) := by omega
  have hzu : ¬ (8 : Int) < (u.size : Int) := by omega
  clear hv hw hu hin hwv hww hwu hlv hlw hlu
  go_enter Try.func19, Try.ntmps19
  go_wp2_with (first | (go_at_call 35; refine (l01In_c _ _ _ _).mono ?_; rw [Hin.out]; rintro e w' ⟨rfl, rfl⟩) | (go_at_call 36; (with_reducible refine (C1.out _).mono ?_); rintro e w' ⟨rfl, rfl⟩) | (go_at_call 36; (with_reducible refine (C2.out _).mono ?_); rintro e w' ⟨rfl, rfl⟩) | (go_at_call 36; (with_reducible refine (C3.out _).mono ?_); rintro e w' ⟨rfl, rfl⟩) | (go_at_call 37; refine (HN.out _).mono ?_; rintro e w' ⟨rfl, m, rfl⟩))
  go_ret2
  exact ⟨rfl, below_drewN _⟩

theorem sShn_c (d : Int) (v w u : ByteArray) (hv : v.size ≤ maxLen) (hw : w.size ≤ maxLen) (hu : u.size ≤ maxLen) (W : World) :
    Calls Try.prog 19 #[.int .i64 d, .string v, .string w, .string u] W fun e w' => e = .returned (.tuple #[.int .i64 (shV d v w u), .int .i64 (shC d v w u)]) ∧ Below W.heap.size W w' := by
  by_cases h : shC d v w u = 0
  · obtain ⟨h1, h2, h3, h4, h5, h6, h7⟩ := shC_good h
    unfold shV
    rw [if_pos h, h]
    exact sShn_7 d v w u hv hw hu h1 h2 h3 h4 h5 h6 h7 W
  · unfold shV
    rw [if_neg h, shC_bad h]
    by_cases h1 : inB d 1 3 = true
    · by_cases h2 : wordB d v.data.toList = true
      · by_cases h3 : wordB d w.data.toList = true
        · by_cases h4 : wordB d u.data.toList = true
          · by_cases h5 : v.size ≤ 8
            · by_cases h6 : w.size ≤ 8
              · by_cases h7 : u.size ≤ 8
                · exact absurd (by simp [shC, h1, h2, h3, h4, h5, h6, h7]) h
                · exact sShn_6 d v w u hv hw hu h1 h2 h3 h4 h5 h6 h7 W
              · exact sShn_5 d v w u hv hw hu h1 h2 h3 h4 h5 h6 W
            · exact sShn_4 d v w u hv hw hu h1 h2 h3 h4 h5 W
          · exact sShn_3 d v w u hv hw hu h1 h2 h3 (by simpa using h4) W
        · exact sShn_2 d v w u hv hw hu h1 h2 (by simpa using h3) W
      · exact sShn_1 d v w u hv hw hu h1 (by simpa using h2) W
    · exact sShn_0 d v w u hv hw hu (by simpa using h1) W
end Go.Proofs.Ytgcjpenlcokgjaa
