/-
  Contracts of WordOfNumber, of the program and of its model, and of the program's way to write one letter.
-/
import Derived.Test.YtaalpchdahmgaaaDoorDig
import Derived.Test.YtaalpchdahmgaaaDoorWordW
import Derived.Test.YtaalpchdahmgaaaDoorMark
namespace Go.Proofs.YtaalpchdahmgaaaDoor
open Go.RowKit

theorem small_c (i : Int) (h : i = 0 ∨ i = 1 ∨ i = 2) (w : World) :
    Calls Tryd.prog 152 #[.int .i64 i] w fun e w' => e = .returned (.string (letW i)) ∧ w = w' := by
  rcases h with rfl | rfl | rfl
  all_goals
    go_enter Tryd.func152, Tryd.ntmps152
    go_wp2
    go_ret
    exact ⟨rfl, rfl⟩
theorem formatInt0_c (i : Int) (h : i = 0 ∨ i = 1 ∨ i = 2) (w : World) :
    Calls Tryd.prog 123 #[.int .i64 i, .int .i64 10] w fun e w' => e = .returned (.string (letW i)) ∧ w = w' := by
  have HI := Lib.hid h
  have h0 : 0 ≤ i := by omega
  have h1 : i ≤ 2 := by omega
  clear h
  go_enter Tryd.func123, Tryd.ntmps123
  go_wp2_with (go_at_call 152; refine (small_c _ HI.out _).mono ?_; rintro e w' ⟨rfl, rfl⟩)
  go_ret
  exact ⟨rfl, rfl⟩
theorem letterWord_c (i : Int) (h0 : 0 ≤ i) (h1 : i ≤ 2) (w : World) :
    Calls Tryd.prog 117 #[.int .i64 i] w fun e w' => e = .returned (.string (letW i)) ∧ w = w' := by
  have hf : ∀ w : World, Calls Tryd.prog 64 #[.int .i64 i, .int .i64 10] w fun e w' => e = .returned (.string (letW i)) ∧ w = w' := by
    intro w
    go_enter Tryd.func64, Tryd.ntmps64
    go_wp2_with (go_at_call 123; refine (formatInt0_c _ (by omega) _).mono ?_; rintro e w' ⟨rfl, rfl⟩)
    go_ret
    exact ⟨rfl, rfl⟩
  have HF := Lib.hid hf
  clear hf
  go_enter Tryd.func117, Tryd.ntmps117
  go_wp2_with (go_at_call 64; refine (HF.out _).mono ?_; rintro e w' ⟨rfl, rfl⟩)
  go_ret
  exact ⟨rfl, rfl⟩

theorem offs_bd {d : Int} (h : 1 ≤ d ∧ d ≤ 3) (k : Nat) (hk : k ≤ 6) : 0 ≤ offs d k ∧ offs d k ≤ 364 := by
  have hd : d = 1 ∨ d = 2 ∨ d = 3 := by omega
  have hk' : k = 0 ∨ k = 1 ∨ k = 2 ∨ k = 3 ∨ k = 4 ∨ k = 5 ∨ k = 6 := by omega
  rcases hd with rfl | rfl | rfl <;> rcases hk' with rfl | rfl | rfl | rfl | rfl | rfl | rfl <;> decide
theorem offs_next {d : Int} (k : Nat) : offs d (k + 1) * d + 1 = offs d (k + 2) := by
  have h : offs d (k + 1 + 1) - 1 = d * offs d (k + 1) := offs_step (k + 1)
  rw [Int.mul_comm, ← h]
  show offs d (k + 1 + 1) - 1 + 1 = offs d (k + 1 + 1)
  omega
theorem countWords_c (d : Int) (h : 1 ≤ d ∧ d ≤ 3) (w : World) :
    Calls Tryd.prog 116 #[.int .i64 d] w fun e w' => e = .returned (.int .i64 (offs d 6)) ∧ w = w' := by
  have h1 := h.1
  have h2 := h.2
  go_enter Tryd.func116, Tryd.ntmps116
  go_wp2
  go_loop [3, 4] (fun vc vi => ∃ k : Nat, k ≤ 5 ∧ vi = .int .i64 k ∧ vc = .int .i64 (offs d (k + 1))) (fun _ vi => 5 - (intOf vi).toNat)
  case atStart => exact ⟨0, by omega, rfl, by simp [offs]⟩
  case round =>
    obtain ⟨k, hk, rfl, rfl⟩ := hrel
    have hb := offs_bd h (k + 1) (by omega)
    by_cases hlt : k < 5
    · have HN := Lib.hid (offs_next (d := d) k)
      have hb2 := offs_bd h (k + 2) (by omega)
      have hm0 : 0 ≤ offs d (k + 1) * d := Int.mul_nonneg hb.1 (by omega)
      have hm1 : offs d (k + 1) * d ≤ 364 * 3 := Int.mul_le_mul hb.2 h2 (by omega) (by omega)
      generalize hgo : offs d (k + 1) = o at *
      clear hgo
      go_wp2
      go_round
      case rel => exact ⟨k + 1, by omega, by go_num, by rw [HN.out]⟩
      case measure => simp [intOf]; omega
    · obtain rfl : k = 5 := by omega
      go_wp2
      go_ret
      exact ⟨rfl, rfl⟩

theorem add_str (a b : ByteArray) : a.size + b.size = (a ++ b).size := (ByteArray.size_append ..).symm

theorem iWoN_1 (d k : Int) (h : inB d 1 3 = false) (w : World) :
    Calls Tryd.prog 49 #[.int .i64 d, .int .i64 k] w fun e w' => e = .returned (.tuple #[.string { data := #[] }, .int .i64 2]) ∧ w = w' := by
  have HI := Lib.hid h
  clear h
  go_enter Tryd.func49, Tryd.ntmps49
  go_wp2_with (go_at_call 58; refine (isBetween_c _ _ _ _).mono ?_; rw [HI.out]; rintro e w' ⟨rfl, rfl⟩)
  go_ret2
  exact ⟨rfl, rfl⟩
theorem iWoN_2 (d k : Int) (h : inB d 1 3 = true) (h2 : inB k 0 (offs d 6 - 1) = false) (w : World) :
    Calls Tryd.prog 49 #[.int .i64 d, .int .i64 k] w fun e w' => e = .returned (.tuple #[.string { data := #[] }, .int .i64 2]) ∧ w = w' := by
  have HI := Lib.hid h
  have HI2 := Lib.hid h2
  have hd := inB_true h
  have hb := offs_bd hd 6 (by omega)
  clear h h2
  go_enter Tryd.func49, Tryd.ntmps49
  go_wp2_with fail
  refine (isBetween_c _ _ _ _).mono ?_
  rw [HI.out]
  rintro e w' ⟨rfl, rfl⟩
  go_wp2_with fail
  refine (countWords_c d hd _).mono ?_
  rintro e w' ⟨rfl, rfl⟩
  go_wp2_with fail
  refine (isBetween_c _ _ _ _).mono ?_
  rw [HI2.out]
  rintro e w' ⟨rfl, rfl⟩
  go_wp2
  go_ret2
  exact ⟨rfl, rfl⟩
theorem wordI_zero (d : Int) (f : Nat) (acc : ByteArray) : wordI d f 0 acc = acc := by
  cases f with
  | zero => rfl
  | succ f => simp [wordI]
def WoNRel (d k : Int) (vk vs : Value) : Prop := ∃ (j : Int) (acc : ByteArray) (f : Nat), vk = .int .i64 j ∧ vs = .string acc ∧ 0 ≤ j ∧ j ≤ f ∧ f ≤ 364 ∧ acc.size + f ≤ 364 ∧ wordI d f j acc = wordI d 364 k ByteArray.empty
set_option maxHeartbeats 1000000 in
theorem iWoN_3 (d k : Int) (h : inB d 1 3 = true) (h2 : inB k 0 (offs d 6 - 1) = true) (w : World) :
    Calls Tryd.prog 49 #[.int .i64 d, .int .i64 k] w fun e w' => e = .returned (.tuple #[.string (wordI d 364 k ByteArray.empty), .int .i64 0]) ∧ w = w' := by
  have HI := Lib.hid h
  have HI2 := Lib.hid h2
  have hd := inB_true h
  have hd1 := hd.1
  have hd2 := hd.2
  have hk := inB_true h2
  have hb := offs_bd hd 6 (by omega)
  clear h h2
  go_enter Tryd.func49, Tryd.ntmps49
  go_wp2_with fail
  refine (isBetween_c _ _ _ _).mono ?_
  rw [HI.out]
  rintro e w' ⟨rfl, rfl⟩
  go_wp2_with fail
  refine (countWords_c d hd _).mono ?_
  rintro e w' ⟨rfl, rfl⟩
  go_wp2_with fail
  refine (isBetween_c _ _ _ _).mono ?_
  rw [HI2.out]
  rintro e w' ⟨rfl, rfl⟩
  go_wp2_with fail
  go_loop [1, 6] (WoNRel d k) (fun vk _ => (intOf vk).toNat)
  case atStart => exact ⟨k, ByteArray.empty, 364, rfl, rfl, by omega, by omega, by omega, by simp, rfl⟩
  case round =>
    obtain ⟨j, acc, f, rfl, rfl, h0, hj, hf, hs, hw⟩ := hrel
    have HW := Lib.hid hw
    clear hw
    by_cases hp : 0 < j
    · obtain ⟨g, rfl⟩ : ∃ g, f = g + 1 := ⟨f - 1, by omega⟩
      have m0 : 0 ≤ (j - 1) % d := Int.emod_nonneg _ (by omega)
      have m1 : (j - 1) % d ≤ 2 := by have := Int.emod_lt_of_pos (j - 1) (show 0 < d by omega); omega
      have q0 : 0 ≤ (j - 1) / d := Int.ediv_nonneg (by omega) (by omega)
      have q1 : (j - 1) / d ≤ j - 1 := Int.ediv_le_self _ (by omega)
      have hls0 := letW_size ((j - 1) % d)
      have hls : (letW ((j - 1) % d)).size ≤ 1 := by omega
      have HWs : Hid (wordI d g ((j - 1) / d) (letW ((j - 1) % d) ++ acc) = wordI d 364 k ByteArray.empty) := Lib.hid (by have e := HW.out; rw [wordI, if_pos hp] at e; exact e)
      have hsz : (letW ((j - 1) % d) ++ acc).size + g ≤ 364 := by rw [ByteArray.size_append, hls0]; omega
      clear hls0
      go_wp2_with (go_at_call 117; refine (letterWord_c _ m0 m1 _).mono ?_; rintro e w' ⟨rfl, rfl⟩)
      go_round
      case rel => exact ⟨(j - 1) / d, _, g, rfl, rfl, q0, by omega, by omega, hsz, HWs.out⟩
      case measure => simp [intOf]; omega
    · obtain rfl : j = 0 := by omega
      go_wp2
      go_ret2
      have e := HW.out
      rw [wordI_zero] at e
      exact ⟨by rw [← e]; rfl, rfl⟩
end Go.Proofs.YtaalpchdahmgaaaDoor
