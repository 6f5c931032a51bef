/-
  The contract of the model's WordOfNumber, and the law: both return the same word and code.
-/
import Derived.Test.YtaliafbolofkfaaDoorMapV
import Derived.Test.YtaliafbolofkfaaDoorRes
namespace Go.Proofs.YtaliafbolofkfaaDoor
open Go.RowKit

theorem sWoN_1 (d k : Int) (h : inB d 1 3 = false) (w : World) :
    Calls Tryd.prog 7 #[.int .i64 d, .int .i64 k] w fun e w' => e = .returned (.tuple #[.string { data := #[] }, .int .i64 2]) ∧ w = w' := by
  have HI := Lib.hid h
  clear h
  go_enter Tryd.func7, Tryd.ntmps7
  go_wp2_with (go_at_call 22; refine (l01In_c _ _ _ _).mono ?_; rw [HI.out]; rintro e w' ⟨rfl, rfl⟩)
  go_ret2
  exact ⟨rfl, rfl⟩
theorem sWoN_2 (d k : Int) (h : inB d 1 3 = true) (hk : k < 0) (w : World) :
    Calls Tryd.prog 7 #[.int .i64 d, .int .i64 k] w fun e w' => e = .returned (.tuple #[.string { data := #[] }, .int .i64 2]) ∧ w = w' := by
  have HI := Lib.hid h
  clear h
  go_enter Tryd.func7, Tryd.ntmps7
  go_wp2_with (go_at_call 22; refine (l01In_c _ _ _ _).mono ?_; rw [HI.out]; rintro e w' ⟨rfl, rfl⟩)
  go_ret2
  exact ⟨rfl, rfl⟩

def OutRel (d k : Int) (vk vn : Value) : Prop := ∃ (n : Nat) (r : Int), n ≤ 6 ∧ vn = .int .i64 n ∧ vk = .int .i64 r ∧ 0 ≤ r ∧ r ≤ k ∧ r = k - offs d n
def InRel (d : Int) (n : Nat) (r : Int) (w : World) (vk vn vo : Value) (wr : World) : Prop :=
  ∃ (j : Nat) (x : Int) (acc : ByteArray), vk = .int .i64 x ∧ vn = .int .i64 j ∧ vo = .string acc ∧ 0 ≤ x ∧ x ≤ 1000 ∧ j ≤ 5 ∧ acc.size + j ≤ 5 ∧ wordS d j x acc = wordS d n r ByteArray.empty ∧ Below w.heap.size w wr
/-- what the model's WordOfNumber comes to, from 0 on -/
def WoNPost (d k : Int) (W : World) (e : Ending) (w' : World) : Prop :=
  ((offs d 6 ≤ k ∧ e = .returned (.tuple #[.string { data := #[] }, .int .i64 2])) ∨ ∃ (n : Nat) (r : Int), n ≤ 5 ∧ 0 ≤ r ∧ r < d ^ n ∧ k = offs d n + r ∧ e = .returned (.tuple #[.string (wordS d n r ByteArray.empty), .int .i64 0])) ∧ Below W.heap.size W w'

set_option maxRecDepth 100000 in
set_option maxHeartbeats 2000000 in
theorem sWoN_3 (d k : Int) (h : inB d 1 3 = true) (hk : 0 ≤ k) (hkb : k ≤ 9223372036854775807) (w : World) :
    Calls Tryd.prog 7 #[.int .i64 d, .int .i64 k] w (WoNPost d k w) := by
  have HI := Lib.hid h
  have hd := inB_true h
  have hd1 := hd.1
  have hd2 := hd.2
  have HKB := Lib.hid hkb
  clear h hkb
  go_enter Tryd.func7, Tryd.ntmps7
  go_wp2_with (first | (go_at_call 22; refine (l01In_c _ _ _ _).mono ?_; rw [HI.out]; rintro e w' ⟨rfl, rfl⟩) | fail)
  go_loop [1, 6] (OutRel d k) (fun _ vn => 6 - (intOf vn).toNat)
  case atStart => exact ⟨0, k, by omega, rfl, rfl, hk, by omega, by simp [offs]⟩
  case round =>
    obtain ⟨n, r, hn, rfl, rfl, h0, hrk, hr⟩ := hrel
    have HR := Lib.hid hr
    clear hr
    by_cases hlt : n ≤ 5
    · have hp := pow_bd d hd n hlt
      obtain ⟨p, hpe⟩ : ∃ p, d ^ n = p := ⟨_, rfl⟩
      rw [hpe] at hp
      have HP := Lib.hid hpe
      have HC : Hid (∀ w : World, Calls Tryd.prog 23 #[.int .i64 d, .int .i64 n] w fun e w' => e = .returned (.int .i64 p) ∧ w = w') := Lib.hid (by rw [← hpe]; exact fun w => l01Count_c d n hd hlt w)
      clear hpe
      by_cases hge : p ≤ r
      · go_wp2_with (go_at_call 23; refine (HC.out _).mono ?_; rintro e w' ⟨rfl, rfl⟩)
        go_round
        case rel => exact ⟨n + 1, r - p, by omega, by go_num, by congr 1; exact IntWalk.wrap64_in _ ⟨by omega, by have := HKB.out; omega⟩, by omega, by omega, by have e := HR.out; rw [show offs d (n + 1) = offs d n + d ^ n from rfl, HP.out]; omega⟩
        case measure => simp [intOf]; omega
      · have HK : Hid (k = offs d n + r) := Lib.hid (by have e := HR.out; omega)
        go_wp2_with (first | (go_at_call 23; refine (HC.out _).mono ?_; rintro e w' ⟨rfl, rfl⟩) | fail)
        go_loopw [1, 6, 7] (InRel d n r w) (fun _ vn _ _ => (intOf vn).toNat)
        case atStart => exact ⟨n, r, ByteArray.empty, rfl, rfl, rfl, h0, by omega, hlt, by simpa using hlt, rfl, Below.refl _ _⟩
        case round =>
          obtain ⟨j, x, acc, rfl, rfl, rfl, hx, hx2, hj, hs, hw, hB⟩ := hrel
          have HW := Lib.hid hw
          clear hw
          by_cases hj0 : 0 < j
          · obtain ⟨i, rfl⟩ : ∃ i, j = i + 1 := ⟨j - 1, by omega⟩
            have m0 : 0 ≤ x % d := Int.emod_nonneg _ (by omega)
            have m1 : x % d ≤ 2 := by have := Int.emod_lt_of_pos x (show 0 < d by omega); omega
            have q1 : x / d ≤ x := Int.ediv_le_self _ hx
            have q0 : 0 ≤ x / d := Int.ediv_nonneg hx (by omega)
            have hcv := conv_byte (48 + x % d) (by omega) (by omega)
            have hsz : (letW (x % d) ++ acc).size + i ≤ 5 := by rw [ByteArray.size_append, letW_size]; omega
            have eI : ((i + 1 : Nat) : Int) - 1 = (i : Int) := by omega
            go_wp2
            go_roundw
            case rel => exact ⟨i, x / d, letW (x % d) ++ acc, rfl, by first | rfl | (congr 1; omega), rfl, q0, by omega, by omega, hsz, HW.out, hB.alloc hB.size _⟩
            case measure => simp [intOf]
          · obtain rfl : j = 0 := by omega
            go_wp2
            go_ret2
            have e : acc = wordS d n r ByteArray.empty := HW.out
            exact ⟨.inr ⟨n, r, hlt, h0, by rw [HP.out]; omega, HK.out, by rw [← e]; rfl⟩, hB⟩
    · obtain rfl : n = 6 := by omega
      go_wp2
      go_ret2
      exact ⟨.inl ⟨by have e := HR.out; omega, rfl⟩, Below.refl _ _⟩

theorem str_same (a : ByteArray) : (a.toList != a.toList) = false := by simp

theorem wf_bd {n : Int} (h : (Lit.int .i64 n).wf = true) : -9223372036854775808 ≤ n ∧ n ≤ 9223372036854775807 := by
  simp [Lit.wf, IntKind.min, IntKind.max, IntKind.signed, IntKind.bits] at h
  omega

end Go.Proofs.YtaliafbolofkfaaDoor
