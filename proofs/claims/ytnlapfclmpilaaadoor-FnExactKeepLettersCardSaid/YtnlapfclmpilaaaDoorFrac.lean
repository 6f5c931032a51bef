/-
  Contracts of the functions on fractions: what each returns, called in any world.
-/
import Derived.Test.YtnlapfclmpilaaaDoorRows
import Derived.Test.YtnlapfclmpilaaaDoorMath
import Derived.WalkKit
import Derived.Handy
import Derived.Lib.Hide
import Derived.Deep.QuietTactic
import Derived.BigQuiet
import Derived.WalkSmall
namespace Go.Proofs.YtnlapfclmpilaaaDoor
open Go.RowKit

theorem ret_int {k : IntKind} {a b : Int} (h : a = b) : Ending.returned (.int k a) = .returned (.int k b) := by rw [h]

theorem bcell {W w1 : World} (hb : Below W.heap.size W w1) : (∀ b o, b < W.heap.size → w1.cell? ⟨b, o, none⟩ = W.cell? ⟨b, o, none⟩) ∧ (∀ b o, b < W.heap.size → w1.frozen? ⟨b, o, none⟩ = W.frozen? ⟨b, o, none⟩) :=
  ⟨fun b o h => hb.cell (p := ⟨b, o, none⟩) h, fun b o h => hb.frozen (p := ⟨b, o, none⟩) h⟩

theorem bcellB {B : Nat} {W w1 : World} (hb : Below B W w1) : (∀ b o, b < B → w1.cell? ⟨b, o, none⟩ = W.cell? ⟨b, o, none⟩) ∧ (∀ b o, b < B → w1.frozen? ⟨b, o, none⟩ = W.frozen? ⟨b, o, none⟩) :=
  ⟨fun b o h => hb.cell (p := ⟨b, o, none⟩) h, fun b o h => hb.frozen (p := ⟨b, o, none⟩) h⟩
theorem below_step {B : Nat} {W0 wp wk : World} (hB : Below B W0 wp) (hb : Below wp.heap.size wp wk) (h : B ≤ W0.heap.size) : Below B W0 wk := hB.trans (hb.mono (Nat.le_trans h hB.size))
theorem below1 (w : World) (o1 : Obj) : Below w.heap.size w (w.alloc o1) := (Below.refl _ _).alloc (Nat.le_refl _) o1
theorem below2 (w : World) (o1 o2 : Obj) : Below w.heap.size w ((w.alloc o1).alloc o2) := (below1 w o1).alloc (by simp) o2
theorem below3 (w : World) (o1 o2 o3 : Obj) : Below w.heap.size w (((w.alloc o1).alloc o2).alloc o3) := (below2 w o1 o2).alloc (by simp; omega) o3
theorem below4 (w : World) (o1 o2 o3 o4 : Obj) : Below w.heap.size w ((((w.alloc o1).alloc o2).alloc o3).alloc o4) := (below3 w o1 o2 o3).alloc (by simp; omega) o4

theorem l01In_c (n lo hi : Int) (w : World) :
    Calls Tryd.prog 61 #[.int .i64 n, .int .i64 lo, .int .i64 hi] w fun e w' => e = .returned (.bool (inB n lo hi)) ∧ w = w' := by
  by_cases h1 : lo ≤ n <;> by_cases h2 : n ≤ hi
  all_goals
    go_enter Tryd.func61, Tryd.ntmps61
    go_wp2
    go_ret
    simp [inB, h1, h2]

theorem isBetween_c (n lo hi : Int) (w : World) :
    Calls Tryd.prog 64 #[.int .i64 n, .int .i64 lo, .int .i64 hi] w fun e w' => e = .returned (.bool (inB n lo hi)) ∧ w = w' := by
  by_cases h1 : lo ≤ n <;> by_cases h2 : n ≤ hi
  all_goals
    go_enter Tryd.func64, Tryd.ntmps64
    go_wp2
    go_ret
    simp [inB, h1, h2]

theorem l01Gcd_c (a0 b0 : Int) (ha : -4000000000000000000 ≤ a0 ∧ a0 ≤ 4000000000000000000) (hb : -4000000000000000000 ≤ b0 ∧ b0 ≤ 4000000000000000000) (w : World) :
    Calls Tryd.prog 62 #[.int .i64 a0, .int .i64 b0] w fun e w' => e = .returned (.int .i64 (gi a0 b0)) ∧ w = w' := by
  go_enter Tryd.func62, Tryd.ntmps62
  go_wp2
  go_loop [0, 1] (fun va vb => ∃ a b : Int, va = .int .i64 a ∧ vb = .int .i64 b ∧ (-4000000000000000000 ≤ a ∧ a ≤ 4000000000000000000) ∧ (-4000000000000000000 ≤ b ∧ b ≤ 4000000000000000000) ∧ gi a b = gi a0 b0) (fun _ vb => (intOf vb).natAbs)
  case atStart => exact ⟨a0, b0, rfl, rfl, ha, hb, rfl⟩
  case round =>
    obtain ⟨a, b, rfl, rfl, hia, hib, hg⟩ := hrel
    have Hg := Lib.hid hg
    clear hg
    by_cases hb0 : b = 0
    · subst hb0
      have hm : (a : Int) < -a ∨ -a ≤ a := by omega
      go_wp2
      all_goals
        go_ret
        refine ⟨ret_int ?_, rfl⟩
        rw [← Hg.out, gi_zero]
        omega
    · have e1 : (b != 0) = true := by simpa using hb0
      go_wp2
      have hlt := tmod_lt a b hb0
      go_round
      case rel => exact ⟨b, a.tmod b, rfl, rfl, hib, by omega, by rw [gi_tmod]; exact Hg.out⟩
      case measure => simpa [intOf] using hlt

theorem commonDivisor_c (a0 b0 : Int) (ha : -4000000000000000000 ≤ a0 ∧ a0 ≤ 4000000000000000000) (hb : 0 ≤ b0 ∧ b0 ≤ 4000000000000000000) (w : World) :
    Calls Tryd.prog 65 #[.int .i64 a0, .int .i64 b0] w fun e w' => e = .returned (.int .i64 (gi a0 b0)) ∧ ∃ n, w' = w.drewN n := by
  by_cases hneg : a0 < 0
  all_goals
    go_enter Tryd.func65, Tryd.ntmps65
    go_wp2
    go_loopw [0, 1] (fun va vb wr => ∃ a b : Int, va = .int .i64 a ∧ vb = .int .i64 b ∧ (0 ≤ a ∧ a ≤ 4000000000000000000) ∧ (0 ≤ b ∧ b ≤ 4000000000000000000) ∧ gi a b = gi a0 b0 ∧ ∃ n, wr = w.drewN n) (fun _ vb _ => (intOf vb).toNat)
    case atStart => first
      | exact ⟨a0, b0, rfl, rfl, by omega, by omega, rfl, 0, rfl⟩
      | exact ⟨-a0, b0, rfl, rfl, by omega, by omega, gi_neg_left a0 b0, 0, rfl⟩
    case round =>
      obtain ⟨a, b, rfl, rfl, hia, hib, hg, n, rfl⟩ := hrel
      have Hg := Lib.hid hg
      clear hg
      by_cases hb0 : b = 0
      · subst hb0
        go_wp2
        go_ret
        refine ⟨ret_int ?_, n, rfl⟩
        rw [← Hg.out, gi_zero]
        omega
      · have e1 : (b != 0) = true := by simpa using hb0
        have hlt : a % b < b := Int.emod_lt_of_pos _ (by omega)
        have hge : 0 ≤ a % b := Int.emod_nonneg _ hb0
        go_wp2
        go_quiet (fail)
        go_wp2
        go_roundw
        case rel => exact ⟨b, a % b, rfl, rfl, hib, by omega, by rw [gi_emod _ _ hia.1]; exact Hg.out, _, World.drewN_drewN _ _ _⟩
        case measure => simp [intOf]; omega
theorem l01IsFrac_c (n d : Int) (w : World) :
    Calls Tryd.prog 38 #[.agg #[.int .i64 n, .int .i64 d]] w fun e w' => e = .returned (.bool (isF n d)) ∧ Below w.heap.size w w' := by
  cases h1 : inB d 1 1000000000 with
  | false =>
    have Hf := Lib.hid (isF_den (n := n) h1)
    go_enter Tryd.func38, Tryd.ntmps38
    go_wp2_with (go_at_call 61; refine (l01In_c _ _ _ _).mono ?_; rintro e w' ⟨rfl, rfl⟩)
    go_ret
    exact ⟨by rw [Hf.out]; rfl, (Below.refl _ _).alloc (Nat.le_refl _) _⟩
  | true =>
    cases h2 : inB n (-1000000000) 1000000000 with
    | false =>
      have Hf := Lib.hid (isF_num (d := d) h2)
      go_enter Tryd.func38, Tryd.ntmps38
      go_wp2_with (go_at_call 61; refine (l01In_c _ _ _ _).mono ?_; rintro e w' ⟨rfl, rfl⟩)
      go_ret
      exact ⟨by rw [Hf.out]; rfl, (Below.refl _ _).alloc (Nat.le_refl _) _⟩
    | true =>
      have Hf := Lib.hid (isF_gi h1 h2)
      have a1 := inB_true h1
      have a2 := inB_true h2
      go_enter Tryd.func38, Tryd.ntmps38
      go_wp2_with (first | (go_at_call 61; refine (l01In_c _ _ _ _).mono ?_; rintro e w' ⟨rfl, rfl⟩) | (go_at_call 62; refine (l01Gcd_c _ _ (by omega) (by omega) _).mono ?_; rintro e w' ⟨rfl, rfl⟩))
      go_ret
      exact ⟨by rw [Hf.out]; rfl, (Below.refl _ _).alloc (Nat.le_refl _) _⟩

theorem isFraction_c (n d : Int) (w : World) :
    Calls Tryd.prog 43 #[.agg #[.int .i64 n, .int .i64 d]] w fun e w' => e = .returned (.bool (isF n d)) ∧ Below w.heap.size w w' := by
  cases h2 : inB n (-1000000000) 1000000000 with
  | false =>
    have Hf := Lib.hid (isF_num (d := d) h2)
    go_enter Tryd.func43, Tryd.ntmps43
    go_wp2_with (go_at_call 64; refine (isBetween_c _ _ _ _).mono ?_; rintro e w' ⟨rfl, rfl⟩)
    go_ret
    exact ⟨by rw [Hf.out]; rfl, (Below.refl _ _).alloc (Nat.le_refl _) _⟩
  | true =>
    cases h1 : inB d 1 1000000000 with
    | false =>
      have Hf := Lib.hid (isF_den (n := n) h1)
      go_enter Tryd.func43, Tryd.ntmps43
      go_wp2_with (go_at_call 64; refine (isBetween_c _ _ _ _).mono ?_; rintro e w' ⟨rfl, rfl⟩)
      go_ret
      exact ⟨by rw [Hf.out]; rfl, (Below.refl _ _).alloc (Nat.le_refl _) _⟩
    | true =>
      have Hf := Lib.hid (isF_gi h1 h2)
      have a1 := inB_true h1
      have a2 := inB_true h2
      go_enter Tryd.func43, Tryd.ntmps43
      go_wp2_with (first | (go_at_call 64; refine (isBetween_c _ _ _ _).mono ?_; rintro e w' ⟨rfl, rfl⟩) | (go_at_call 65; refine (commonDivisor_c _ _ (by omega) (by omega) _).mono ?_; rintro e w' ⟨rfl, nd, rfl⟩))
      go_ret
      exact ⟨by rw [Hf.out]; rfl, below_drewN ((Below.refl _ _).alloc (Nat.le_refl _) _) _⟩
end Go.Proofs.YtnlapfclmpilaaaDoor
