/-
  Power sums: powers of numbers, and sums within the limit: contracts of powerOf, addWithinLimit and l10Told.
-/
import Derived.Test.YtncodnjnndjjaaaPwA
import Derived.BigQuiet
namespace Go.Proofs.Ytncodnjnndjjaaa
open Go.RowKit

theorem ipow_bd {x : Int} (hx : -100 ≤ x ∧ x ≤ 100) {k : Nat} (hk : k ≤ 5) : -10000000000 ≤ x ^ k ∧ x ^ k ≤ 10000000000 := by
  have h1 : (x ^ k).natAbs ≤ 10000000000 := by
    rw [Int.natAbs_pow]
    have h2 : x.natAbs ≤ 100 := by omega
    exact Nat.le_trans (Nat.pow_le_pow_left h2 k) (Nat.le_trans (Nat.pow_le_pow_right (by decide) hk) (by decide))
  omega

theorem powerOf_c (x : Int) (hx : -100 ≤ x ∧ x ≤ 100) (k : Nat) (hk : k ≤ 5) (w : World) : Calls Try.prog 67 #[.int .i64 x, .int .i64 k] w fun e w' => e = .returned (.int .i64 (x ^ k)) ∧ w = w' := by
  go_enter Try.func67, Try.ntmps67
  go_wp2
  go_loop [5, 7] (fun v5 v7 => ∃ j : Nat, j ≤ k ∧ v5 = .int .i64 (x ^ j) ∧ v7 = .int .i64 j) (fun _ v7 => k - (intOf v7).toNat)
  case atStart => exact ⟨0, Nat.zero_le _, by rw [Int.pow_zero], rfl⟩
  case round =>
    obtain ⟨j, hj, rfl, rfl⟩ := hrel
    by_cases hlt : j < k
    · have h1 := ipow_bd hx (k := j + 1) (by omega)
      have hs : x ^ j * x = x ^ (j + 1) := (Int.pow_succ x j).symm
      obtain ⟨q, hq⟩ : ∃ q, x ^ j = q := ⟨_, rfl⟩
      obtain ⟨r, hr⟩ : ∃ r, x ^ (j + 1) = r := ⟨_, rfl⟩
      rw [hq, hr] at hs
      rw [hr] at h1
      rw [hq]
      have HR := Lib.hid hr
      have k1 : IntKind.i64.wrap (q * x) = r := by rw [hs]; exact IntWalk.i64_in _ (by omega)
      clear hq hr hs
      go_wp2
      go_round
      case rel => exact ⟨j + 1, by omega, by rw [HR.out], by go_num⟩
      case measure => simp [intOf]; omega
    · obtain rfl : j = k := by omega
      go_wp2
      go_ret
      exact ⟨rfl, rfl⟩

/-- the greatest sum -/
abbrev mxS : Int := 1000000000000000
/-- what a sum comes to by one product more -/
def addW (s a b : Int) : Option Int :=
  if 0 < max a (-a) ∧ inB b (-(mxS / max a (-a))) (mxS / max a (-a)) = false then none
  else if inB (s + a * b) (-mxS) mxS then some (s + a * b) else none
theorem addW_1 {s a b : Int} (h1 : 0 < max a (-a)) (h2 : inB b (-(mxS / max a (-a))) (mxS / max a (-a)) = false) : addW s a b = none := by unfold addW; rw [if_pos ⟨h1, h2⟩]
theorem addW_2 {s a b : Int} (h : ¬ (0 < max a (-a) ∧ inB b (-(mxS / max a (-a))) (mxS / max a (-a)) = false)) (h2 : inB (s + a * b) (-mxS) mxS = false) : addW s a b = none := by unfold addW; rw [if_neg h, h2]; rfl
theorem addW_3 {s a b : Int} (h : ¬ (0 < max a (-a) ∧ inB b (-(mxS / max a (-a))) (mxS / max a (-a)) = false)) (h2 : inB (s + a * b) (-mxS) mxS = true) : addW s a b = some (s + a * b) := by unfold addW; rw [if_neg h, h2]; rfl
theorem addW_in {s a b v : Int} (h : addW s a b = some v) : -mxS ≤ v ∧ v ≤ mxS := by
  unfold addW at h
  split at h
  · cases h
  · split at h
    · rename_i h2
      injection h with h
      exact h ▸ inB_true h2
    · cases h
theorem mulW_bd {a b : Int} (hb : -mxS ≤ b ∧ b ≤ mxS) (h : ¬ (0 < max a (-a) ∧ inB b (-(mxS / max a (-a))) (mxS / max a (-a)) = false)) : -mxS ≤ a * b ∧ a * b ≤ mxS := by
  by_cases h0 : 0 < max a (-a)
  · have h2 : inB b (-(mxS / max a (-a))) (mxS / max a (-a)) = true := by
      cases hc : inB b (-(mxS / max a (-a))) (mxS / max a (-a)) with
      | true => rfl
      | false => exact absurd ⟨h0, hc⟩ h
    have h3 := inB_true h2
    have h4 : (mxS / max a (-a)) * max a (-a) ≤ mxS := Int.ediv_mul_le _ (by omega)
    have h5 : (b.natAbs : Int) ≤ mxS / max a (-a) := by omega
    have h6 : (a.natAbs : Int) = max a (-a) := by omega
    have h7 : ((a * b).natAbs : Int) ≤ mxS := by
      rw [Int.natAbs_mul, Int.natCast_mul, h6, Int.mul_comm]
      exact Int.le_trans (Int.mul_le_mul_of_nonneg_right h5 (by omega)) h4
    omega
  · have h1 : a = 0 := by omega
    subst h1
    simp

theorem tdiv_neg_pos (s : Int) : Int.tdiv (-1000000000000000) s = -(mxS / s) := by
  rw [show (-1000000000000000 : Int) = -mxS from rfl, Int.neg_tdiv, Int.tdiv_eq_ediv_of_nonneg (by decide)]
theorem tdiv_pos_pos (s : Int) : Int.tdiv 1000000000000000 s = mxS / s := Int.tdiv_eq_ediv_of_nonneg (by decide)

/-- a sum and a code: the limit's, where there is none -/
def sumP (r : Option Int) : Value := match r with | none => .tuple #[.int .i64 0, .int .i64 3] | some v => .tuple #[.int .i64 v, .int .i64 0]
set_option maxHeartbeats 2000000 in
theorem addWithinLimit_c (s a b : Int) (hs : -mxS ≤ s ∧ s ≤ mxS) (ha : -10000000000 ≤ a ∧ a ≤ 10000000000) (hb : -mxS ≤ b ∧ b ≤ mxS) (w : World) :
    Calls Try.prog 66 #[.int .i64 s, .int .i64 a, .int .i64 b] w fun e w' => e = .returned (sumP (addW s a b)) ∧ Below w.heap.size w w' := by
  have hM : mxS = 1000000000000000 := rfl
  obtain ⟨z, hz⟩ : ∃ z, max a (-a) = z := ⟨_, rfl⟩
  have hzb : 0 ≤ z ∧ z ≤ 10000000000 := by omega
  have n1 : IntKind.i64.wrap (-a) = -a := IntWalk.i64_in _ (by omega)
  have HG := Lib.hid (fun h => mulW_bd (a := a) hb h)
  have HA1 := Lib.hid (fun h1 h2 => addW_1 (s := s) (a := a) (b := b) h1 h2)
  have HA2 := Lib.hid (fun h1 h2 => addW_2 (s := s) (a := a) (b := b) h1 h2)
  have HA3 := Lib.hid (fun h1 h2 => addW_3 (s := s) (a := a) (b := b) h1 h2)
  rw [hz] at HG HA1 HA2 HA3
  by_cases h0 : 0 < z
  · obtain ⟨m, hm⟩ : ∃ m, mxS / z = m := ⟨_, rfl⟩
    have hmb : 0 ≤ m ∧ m ≤ 1000000000000000 := by
      have h1 : 0 ≤ mxS / z := Int.ediv_nonneg (by decide) (by omega)
      have h2 : mxS / z ≤ mxS := Int.ediv_le_self _ (by decide)
      omega
    have q1 := tdiv_neg_pos z
    have q2 := tdiv_pos_pos z
    rw [hm] at q1 q2 HG HA1 HA2 HA3
    have q0 : z ≠ 0 := by omega
    have n2 : IntKind.i64.wrap (-Int.tdiv 1000000000000000 z) = -m := by rw [q2]; exact IntWalk.i64_in _ (by omega)
    have n3 : IntKind.i64.wrap (Int.tdiv 1000000000000000 z) = m := by rw [q2]; exact IntWalk.i64_in _ (by omega)
    have n4 : 1000000000000000 / z = m := hm
    cases hb1 : inB b (-m) m with
    | false =>
      have HR := Lib.hid (HA1.out h0 hb1)
      clear hM hzb hmb hm hs ha hb HG HA1 HA2 HA3 q1 q2
      go_enter Try.func66, Try.ntmps66
      go_wp2
      go_quiet ((go_at_call 75; exact Calls.quiet_of_same ((isBetween_c _ _ _ _).mono fun _ _ h => ⟨h.1, h.2.symm⟩)))
      go_wp2
      go_ret2
      exact ⟨by rw [HR.out]; rfl, below_drewN (Below.refl _ _) _⟩
    | true =>
      have hno : ¬ (0 < z ∧ inB b (-m) m = false) := fun h => by rw [hb1] at h; cases h.2
      have hab := HG.out hno
      have k1 : IntKind.i64.wrap (a * b) = a * b := IntWalk.i64_in _ (by omega)
      have k2 : IntKind.i64.wrap (s + a * b) = s + a * b := IntWalk.i64_in _ (by omega)
      have HA2' := Lib.hid (HA2.out hno)
      have HA3' := Lib.hid (HA3.out hno)
      obtain ⟨p, hp⟩ : ∃ p, a * b = p := ⟨_, rfl⟩
      rw [hp] at k1 k2 HA2' HA3'
      have HP := Lib.hid hp
      cases hin : inB (s + p) (-mxS) mxS with
      | false =>
        have HR := Lib.hid (HA2'.out hin)
        have HIn := Lib.hid (show inB (s + p) (-1000000000000000) 1000000000000000 = false from hin)
        rw [← hp] at k1
        clear hM hzb hmb hm hs ha hb HG HA1 HA2 HA3 HA2' HA3' q1 q2 hab hno hin
        rw [hp] at k1
        have k1' : IntKind.i64.wrap (a * b) = p := by rw [hp]; exact k1
        clear hp
        go_enter Try.func66, Try.ntmps66
        go_wp2
        go_quiet ((go_at_call 75; exact Calls.quiet_of_same ((isBetween_c _ _ _ _).mono fun _ _ h => ⟨h.1, h.2.symm⟩)))
        go_wp2_with (first | (go_at_call 75; refine (isBetween_c _ _ _ _).mono ?_; rw [HIn.out]; rintro e w' ⟨rfl, rfl⟩))
        go_ret2
        exact ⟨by rw [HR.out]; rfl, below_drewN (Below.refl _ _) _⟩
      | true =>
        have HR := Lib.hid (HA3'.out hin)
        have HIn := Lib.hid (show inB (s + p) (-1000000000000000) 1000000000000000 = true from hin)
        have k1' : IntKind.i64.wrap (a * b) = p := by rw [hp]; exact k1
        clear hM hzb hmb hm hs ha hb HG HA1 HA2 HA3 HA2' HA3' q1 q2 hab hno hin hp
        go_enter Try.func66, Try.ntmps66
        go_wp2
        go_quiet ((go_at_call 75; exact Calls.quiet_of_same ((isBetween_c _ _ _ _).mono fun _ _ h => ⟨h.1, h.2.symm⟩)))
        go_wp2_with (first | (go_at_call 75; refine (isBetween_c _ _ _ _).mono ?_; rw [HIn.out]; rintro e w' ⟨rfl, rfl⟩))
        go_ret2
        exact ⟨by rw [HR.out]; rfl, below_drewN (Below.refl _ _) _⟩
  · obtain rfl : z = 0 := by omega
    obtain rfl : a = 0 := by omega
    have hno : ¬ ((0 : Int) < 0 ∧ inB b (-(mxS / 0)) (mxS / 0) = false) := fun h => absurd h.1 (Int.lt_irrefl _)
    have hin : inB (s + 0 * b) (-mxS) mxS = true := inB_yes (by rw [Int.zero_mul]; omega)
    have hrs := HA3.out hno hin
    rw [Int.zero_mul, Int.add_zero] at hrs hin
    have HR := Lib.hid hrs
    have HIn := Lib.hid (show inB s (-1000000000000000) 1000000000000000 = true from hin)
    have k2 : IntKind.i64.wrap s = s := IntWalk.i64_in _ (by omega)
    clear hM hzb hs ha hb HG HA1 HA2 HA3 hno hin hrs hz n1 h0
    go_enter Try.func66, Try.ntmps66
    go_wp2
    go_quiet (fail)
    go_wp2_with (first | (go_at_call 75; refine (isBetween_c _ _ _ _).mono ?_; rw [HIn.out]; rintro e w' ⟨rfl, rfl⟩))
    go_ret2
    exact ⟨by rw [HR.out]; rfl, below_drewN (Below.refl _ _) _⟩
end Go.Proofs.Ytncodnjnndjjaaa
