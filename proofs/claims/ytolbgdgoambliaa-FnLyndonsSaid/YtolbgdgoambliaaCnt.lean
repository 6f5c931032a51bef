/-
  Contracts of CountLyndon, of the program and of its model.
-/
import Derived.Test.YtolbgdgoambliaaCntM
import Derived.Test.YtolbgdgoambliaaArith
import Derived.Test.YtolbgdgoambliaaRes
import Derived.WalkLawsBesides
import Derived.Deep.DeepCutAuto
namespace Go.Proofs.Ytolbgdgoambliaa
open Go.RowKit

theorem wrap_quoN (a k : Nat) (h : a ≤ 1000000000000) : wrap64 ((a : Int) / (k : Int)) = ((a / k : Nat) : Int) := by
  have h1 : a / k ≤ a := Nat.div_le_self _ _
  rw [← Int.natCast_ediv]
  generalize a / k = q at *
  exact IntWalk.wrap64_in _ ⟨by omega, by omega⟩
theorem rem_natN (a b : Nat) : (a : Int).tmod (b : Int) = ((a % b : Nat) : Int) := by
  rw [Int.tmod_eq_emod_of_nonneg (by omega), Int.natCast_emod]

set_option maxHeartbeats 1000000 in
theorem l05Moebius_c (n : Nat) (hn : n ≤ 20) (w : World) :
    Calls Try.prog 55 #[.int .i64 n] w fun e w' => e = .returned (.int .i64 (moe n)) ∧ w = w' := by
  go_enter Try.func55, Try.ntmps55
  go_wp2
  go_loop [0, 3, 4] (fun vn vo vk => ∃ (f k m : Nat) (o : Int), vn = .int .i64 m ∧ vo = .int .i64 o ∧ vk = .int .i64 k ∧ m < k + f ∧ 2 ≤ k ∧ k ≤ 21 ∧ m ≤ 20 ∧ -1 ≤ o ∧ o ≤ 1 ∧ moB f k m o = moe n) (fun _ _ vk => 22 - (intOf vk).toNat)
  case atStart => exact ⟨20, 2, n, 1, rfl, rfl, rfl, by omega, by omega, by omega, hn, by omega, by omega, rfl⟩
  case round =>
    obtain ⟨f, k, m, o, rfl, rfl, rfl, h1, h2, h3, h4, ho1, ho2, he⟩ := hrel
    have HE := Lib.hid he
    clear he
    by_cases hlt : k ≤ m
    · obtain ⟨g, rfl⟩ : ∃ g, f = g + 1 := ⟨f - 1, by omega⟩
      have hrem := rem_natN m k
      have hk0 : ¬ (k : Int) = 0 := by omega
      have hkm : (k : Int) ≤ (m : Int) := by omega
      by_cases hd : m % k = 0
      · have hdv : (((m % k : Nat) : Int) != 0) = false := by simp [hd]
        have hq := wrap_quoN m k (by omega)
        have hq1 : m / k ≤ m := Nat.div_le_self _ _
        have hrem2 := rem_natN (m / k) k
        by_cases hd2 : (m / k) % k = 0
        · have hdv2 : (((m / k % k : Nat) : Int) == 0) = true := by simp [hd2]
          have HZ := Lib.hid (show moe n = 0 by rw [← HE.out, moB, if_pos hlt, if_pos hd, if_pos hd2])
          generalize m / k = q at *
          go_wp2
          go_ret
          exact ⟨by rw [HZ.out]; rfl, rfl⟩
        · have hdv2 : (((m / k % k : Nat) : Int) == 0) = false := by rw [beq_eq_false_iff_ne]; intro e; exact hd2 (Int.natCast_eq_zero.1 e)
          have HN := Lib.hid (show moB g (k + 1) (m / k) (-o) = moe n by rw [← HE.out, moB, if_pos hlt, if_pos hd, if_neg hd2])
          generalize m / k = q at *
          go_wp2
          go_round
          case rel => exact ⟨g, k + 1, q, -o, by first | rfl | rw [hq], by first | rfl | (congr 1; exact IntWalk.wrap64_in _ ⟨by omega, by omega⟩), by go_num, by omega, by omega, by omega, by omega, by omega, by omega, HN.out⟩
          case measure => simp [intOf]; omega
      · have hdv : (((m % k : Nat) : Int) != 0) = true := by simp; omega
        have HN := Lib.hid (show moB g (k + 1) m o = moe n by rw [← HE.out, moB, if_pos hlt, if_neg hd])
        go_wp2
        go_round
        case rel => exact ⟨g, k + 1, m, o, rfl, rfl, by go_num, by omega, by omega, by omega, by omega, ho1, ho2, HN.out⟩
        case measure => simp [intOf]; omega
    · have HN := Lib.hid (show o = moe n by rw [← HE.out, moB_end (by omega)])
      have hkm : ¬ (k : Int) ≤ (m : Int) := by omega
      go_wp2
      go_ret
      exact ⟨by rw [← HN.out]; rfl, rfl⟩

theorem l01CountN_c (d : Int) (n : Nat) (hd : 1 ≤ d ∧ d ≤ 3) (hn : n ≤ 20) (w : World) :
    Calls Try.prog 56 #[.int .i64 d, .int .i64 n] w fun e w' => e = .returned (.int .i64 (d ^ n)) ∧ w = w' := by
  go_enter Try.func56, Try.ntmps56
  go_wp2
  go_loop [1, 5] (fun vn vo => ∃ k : Nat, k ≤ n ∧ vn = .int .i64 ((n - k : Nat) : Int) ∧ vo = .int .i64 (d ^ k)) (fun vn _ => (intOf vn).toNat)
  case atStart => exact ⟨0, Nat.zero_le _, rfl, by rw [Int.pow_zero]⟩
  case round =>
    obtain ⟨k, hk, rfl, rfl⟩ := hrel
    have b1 := pow_b hd (n := k) (by omega)
    by_cases hlt : k < n
    · have b2 := pow_b hd (n := k + 1) (by omega)
      rw [Int.pow_succ] at b2
      have e1 : (0 : Int) < ((n - k : Nat) : Int) := by omega
      have HP := Lib.hid (Int.pow_succ d k)
      generalize d ^ k = x at *
      go_wp2
      go_round
      case rel => exact ⟨k + 1, by omega, by congr 1; omega, by rw [HP.out]⟩
      case measure => simp [intOf]; omega
    · obtain rfl : k = n := by omega
      have e0 : ((k - k : Nat) : Int) = 0 := by omega
      go_wp2
      go_ret
      exact ⟨rfl, rfl⟩
set_option maxHeartbeats 2000000 in
theorem l05Count_c (d : Int) (n : Nat) (hd : 1 ≤ d ∧ d ≤ 3) (h1 : 1 ≤ n) (hn : n ≤ 20) (w : World) :
    Calls Try.prog 42 #[.int .i64 d, .int .i64 n] w fun e w' => e = .returned (.int .i64 (ap d 20 n / n)) ∧ Below w.heap.size w w' := by
  have hcb := cnt_b hd h1 hn
  go_enter Try.func42, Try.ntmps42
  go_wp2_with fail
  go_loopw [5, 6] (fun vs vk wr => ∃ k : Nat, k ≤ n ∧ vk = .int .i64 ((k + 1 : Nat) : Int) ∧ vs = .int .i64 (cS d n k) ∧ Below w.heap.size w wr) (fun _ vk _ => 22 - (intOf vk).toNat)
  case atStart => exact ⟨0, by omega, rfl, rfl, Below.refl _ _⟩
  case round =>
    obtain ⟨k, hk, rfl, rfl, hB⟩ := hrel
    have HB := Lib.hid hB
    clear hB
    have c1 := cS_b hd hn (k := k) (by omega)
    by_cases hlt : k < n
    · have hrem := rem_natN n (k + 1)
      have c2 := cS_b hd hn (k := k + 1) (by omega)
      have hk0 : ¬ ((k + 1 : Nat) : Int) = 0 := by omega
      have hkm : ((k + 1 : Nat) : Int) ≤ (n : Int) := by omega
      have HS : Hid (cS d n (k + 1) = cS d n k + (if n % (k + 1) = 0 then moe (k + 1) * d ^ (n / (k + 1)) else 0)) := Lib.hid rfl
      obtain ⟨K, hK⟩ : ∃ K : Nat, k + 1 = K := ⟨_, rfl⟩
      have HK := Lib.hid hK
      rw [hK] at hrem c2 hk0 hkm HS ⊢
      by_cases hdd : n % K = 0
      · have hdv : (((n % K : Nat) : Int) == 0) = true := by simp [hdd]
        have hq := wrap_quoN n K (by omega)
        have hq1 : n / K ≤ n := Nat.div_le_self _ _
        have hm := moe_b (n := K) (by omega)
        have hp := pow_b hd (n := n / K) (by omega)
        have HS2 := Lib.hid (show cS d n K = cS d n k + moe K * d ^ (n / K) by rw [HS.out, if_pos hdd])
        have hmu : -1000000000000 ≤ moe K * d ^ (n / K) ∧ moe K * d ^ (n / K) ≤ 1000000000000 := by
          have e := HS2.out
          have hmm : moe K = -1 ∨ moe K = 0 ∨ moe K = 1 := by omega
          rcases hmm with e | e | e <;> rw [e] <;> omega
        have HM := Lib.hid (l05Moebius_c K (by omega))
        have HC := Lib.hid (l01CountN_c d (n / K) hd (by omega))
        clear HS
        generalize d ^ (n / K) = x at *
        generalize moe K = y at *
        obtain ⟨z, hz⟩ : ∃ z, cS d n K = z := ⟨_, rfl⟩
        rw [hz] at c2 HS2
        have HZ := Lib.hid hz
        generalize cS d n k = c at *
        generalize n / K = q at *
        have hw1 : IntKind.i64.wrap (y * x) = y * x := IntWalk.i64_in _ ⟨by omega, by omega⟩
        have hw2 : IntKind.i64.wrap (c + y * x) = c + y * x := IntWalk.i64_in _ ⟨by have := HS2.out; omega, by have := HS2.out; omega⟩
        clear hdd hz hK
        go_wp2_with fail
        go_region_with (first | (go_at_call 55; refine (HM.out _).mono ?_; rintro e w' ⟨rfl, rfl⟩) | (go_at_call 56; (try rw [hq]); refine (HC.out _).mono ?_; rintro e w' ⟨rfl, rfl⟩))
        all_goals (go_wp2_with fail; go_roundw)
        case rel => exact ⟨K, by omega, by go_num, by rw [HZ.out, HS2.out], HB.out.drew⟩
        case measure => simp [intOf]; omega
        case rel => exact ⟨K, by omega, by go_num, by rw [HZ.out, HS2.out], HB.out.drew⟩
        case measure => simp [intOf]; omega
      · have hdv : (((n % K : Nat) : Int) == 0) = false := by simp; omega
        have HS2 := Lib.hid (show cS d n K = cS d n k by rw [HS.out, if_neg hdd]; omega)
        generalize cS d n k = c at *
        go_wp2
        go_roundw
        case rel => exact ⟨K, by omega, by go_num, by rw [HS2.out], HB.out⟩
        case measure => simp [intOf]; omega
    · obtain rfl : k = n := by omega
      have hcn := hcb.2
      rw [hcb.1] at c1 ⊢
      clear hcb
      obtain ⟨x, hx⟩ : ∃ x, ap d 20 k = x := ⟨_, rfl⟩
      rw [hx] at c1 hcn ⊢
      have HX := Lib.hid hx
      clear hx
      have hkm : ¬ ((k + 1 : Nat) : Int) ≤ (k : Int) := by omega
      have hk0 : ¬ (k : Int) = 0 := by omega
      have hq1 : x / (k : Int) ≤ x := Int.ediv_le_self _ hcn
      have hq0 : 0 ≤ x / (k : Int) := Int.ediv_nonneg hcn (by omega)
      go_wp2
      go_ret
      exact ⟨by rw [HX.out]; rfl, HB.out⟩
set_option maxHeartbeats 2000000 in
theorem countAperiodic_c (d : Int) (hd : 1 ≤ d ∧ d ≤ 3) : ∀ (f : Nat), f ≤ 20 → ∀ (n : Nat), 1 ≤ n → n ≤ f → ∀ w : World,
    Calls Try.prog 44 #[.int .i64 d, .int .i64 n] w fun e w' => e = .returned (.int .i64 (ap d f n)) ∧ w = w' := by
  intro f
  induction f with
  | zero => intro _ n h1 h2; omega
  | succ f ih =>
    intro hf n h1 hn w
    have HI := Lib.hid (ih (by omega))
    clear ih
    go_enter Try.func44, Try.ntmps44
    go_wp2_with fail
    go_loop [5, 8] (fun vc vi => ∃ k : Nat, k ≤ n ∧ vi = .int .i64 k ∧ vc = .int .i64 (d ^ k)) (fun _ vi => n - (intOf vi).toNat)
    case atStart => exact ⟨0, Nat.zero_le _, rfl, by rw [Int.pow_zero]⟩
    case round =>
      obtain ⟨k, hk, rfl, rfl⟩ := hrel
      have b1 := pow_b hd (n := k) (by omega)
      by_cases hlt : k < n
      · have b2 := pow_b hd (n := k + 1) (by omega)
        rw [Int.pow_succ] at b2
        have HP := Lib.hid (Int.pow_succ d k)
        generalize d ^ k = x at *
        go_wp2
        go_round
        case rel => exact ⟨k + 1, by omega, by go_num, by rw [HP.out]⟩
        case measure => simp [intOf]; omega
      · obtain rfl : k = n := by omega
        have hkk : ¬ (k : Int) < (k : Int) := by omega
        go_wp2_with fail
        go_loop [5, 6] (fun vc vi => ∃ j : Nat, j + 1 ≤ k ∧ vi = .int .i64 ((j + 1 : Nat) : Int) ∧ vc = .int .i64 (d ^ k - apSn (ap d f) k j)) (fun _ vi => k - (intOf vi).toNat)
        case atStart => exact ⟨0, h1, rfl, by simp [apSn]⟩
        case round =>
          obtain ⟨j, hj, rfl, rfl⟩ := hrel
          have c1 := apSn_b hd (f := f) (n := k) (k := j) (by omega) (by omega) (by omega)
          by_cases hlj : j + 1 < k
          · have hrem := rem_natN k (j + 1)
            have c2 := apSn_b hd (f := f) (n := k) (k := j + 1) (by omega) (by omega) (by omega)
            have hk0 : ¬ ((j + 1 : Nat) : Int) = 0 := by omega
            have hkm : ((j + 1 : Nat) : Int) < (k : Int) := by omega
            have HS : Hid (apSn (ap d f) k (j + 1) = apSn (ap d f) k j + (if k % (j + 1) = 0 then ap d f (j + 1) else 0)) := Lib.hid rfl
            obtain ⟨K, hK⟩ : ∃ K : Nat, j + 1 = K := ⟨_, rfl⟩
            have HK := Lib.hid hK
            rw [hK] at hrem c2 hk0 hkm HS ⊢
            by_cases hdd : k % K = 0
            · have hdv : (((k % K : Nat) : Int) == 0) = true := by simp [hdd]
              have ha := ap_b hd (f := f) (n := K) (by omega) (by omega)
              have HS2 := Lib.hid (show d ^ k - apSn (ap d f) k K = d ^ k - apSn (ap d f) k j - ap d f K by rw [HS.out, if_pos hdd]; omega)
              have HC := Lib.hid (HI.out K (by omega) (by omega))
              have hsub : d ^ k - apSn (ap d f) k j - ap d f K = d ^ k - apSn (ap d f) k K := HS2.out.symm
              rw [← hsub] at c2
              clear hsub HS
              generalize ap d f K = y at *
              generalize d ^ k - apSn (ap d f) k j = c at *
              go_wp2_with (first | (go_at_call 44; refine (HC.out _).mono ?_; rintro e w' ⟨rfl, rfl⟩))
              go_round
              case rel => exact ⟨K, by omega, by go_num, by rw [HS2.out]⟩
              case measure => simp [intOf]; omega
            · have hdv : (((k % K : Nat) : Int) == 0) = false := by simp; omega
              have HS2 := Lib.hid (show d ^ k - apSn (ap d f) k K = d ^ k - apSn (ap d f) k j by rw [HS.out, if_neg hdd]; omega)
              generalize d ^ k - apSn (ap d f) k j = c at *
              go_wp2
              go_round
              case rel => exact ⟨K, by omega, by go_num, by rw [HS2.out]⟩
              case measure => simp [intOf]; omega
          · have HE := Lib.hid (show ap d (f + 1) k = d ^ k - apSn (ap d f) k j by rw [ap, show k - 1 = j by omega])
            have hkm : ¬ ((j + 1 : Nat) : Int) < (k : Int) := by omega
            generalize d ^ k - apSn (ap d f) k j = c at *
            go_wp2
            go_ret
            exact ⟨by rw [HE.out]; rfl, rfl⟩

/-- what a function that returns a number and a code comes to -/
def NumbPost (x c : Int) (W : World) (e : Ending) (w' : World) : Prop := e = .returned (.tuple #[.int .i64 x, .int .i64 c]) ∧ Below W.heap.size W w'
theorem sCountLyndon_1 (d n : Int) (h : inB d 1 3 = false ∨ inB n 1 20 = false) (w : World) : Calls Try.prog 18 #[.int .i64 d, .int .i64 n] w (NumbPost 0 2 w) := by
  cases h1 : inB d 1 3 with
  | false =>
    have H1 := Lib.hid h1
    clear h h1
    go_enter Try.func18, Try.ntmps18
    go_wp2_with (first | (go_at_call 41; refine (l01In_c _ _ _ _).mono ?_; rw [H1.out]; rintro e w' ⟨rfl, rfl⟩))
    go_ret2
    exact ⟨rfl, Below.refl _ _⟩
  | true =>
    have H1 := Lib.hid h1
    have H2 := Lib.hid (h.resolve_left (by rw [h1]; simp))
    clear h h1
    go_enter Try.func18, Try.ntmps18
    go_wp2_with (first | (go_at_call 41; refine (l01In_c _ _ _ _).mono ?_; (first | rw [H1.out] | rw [H2.out]); rintro e w' ⟨rfl, rfl⟩))
    go_ret2
    exact ⟨rfl, Below.refl _ _⟩
theorem iCountLyndon_1 (d n : Int) (h : inB d 1 3 = false ∨ inB n 1 20 = false) (w : World) : Calls Try.prog 16 #[.int .i64 d, .int .i64 n] w (NumbPost 0 2 w) := by
  cases h1 : inB d 1 3 with
  | false =>
    have H1 := Lib.hid h1
    clear h h1
    go_enter Try.func16, Try.ntmps16
    go_wp2_with (first | (go_at_call 37; refine (isBetween_c _ _ _ _).mono ?_; rw [H1.out]; rintro e w' ⟨rfl, rfl⟩))
    go_ret2
    exact ⟨rfl, Below.refl _ _⟩
  | true =>
    have H1 := Lib.hid h1
    have H2 := Lib.hid (h.resolve_left (by rw [h1]; simp))
    clear h h1
    go_enter Try.func16, Try.ntmps16
    go_wp2_with (first | (go_at_call 37; refine (isBetween_c _ _ _ _).mono ?_; (first | rw [H1.out] | rw [H2.out]); rintro e w' ⟨rfl, rfl⟩))
    go_ret2
    exact ⟨rfl, Below.refl _ _⟩
theorem sCountLyndon_2 (d : Int) (n : Nat) (hd : 1 ≤ d ∧ d ≤ 3) (h1 : 1 ≤ n) (hn : n ≤ 20) (w : World) : Calls Try.prog 18 #[.int .i64 d, .int .i64 n] w (NumbPost (ap d 20 n / n) 0 w) := by
  have H1 := Lib.hid (inB_yes (n := d) (lo := 1) (hi := 3) hd)
  have H2 := Lib.hid (inB_yes (n := (n : Int)) (lo := 1) (hi := 20) (by omega))
  go_enter Try.func18, Try.ntmps18
  go_wp2_with (first | (go_at_call 41; refine (l01In_c _ _ _ _).mono ?_; (first | rw [H1.out] | rw [H2.out]); rintro e w' ⟨rfl, rfl⟩) | fail)
  refine (l05Count_c d n hd h1 hn _).mono ?_
  rintro e w1 ⟨rfl, hb⟩
  go_wp2
  go_ret2
  exact ⟨rfl, hb⟩
theorem iCountLyndon_2 (d : Int) (n : Nat) (hd : 1 ≤ d ∧ d ≤ 3) (h1 : 1 ≤ n) (hn : n ≤ 20) (w : World) : Calls Try.prog 16 #[.int .i64 d, .int .i64 n] w (NumbPost (ap d 20 n / n) 0 w) := by
  have H1 := Lib.hid (inB_yes (n := d) (lo := 1) (hi := 3) hd)
  have H2 := Lib.hid (inB_yes (n := (n : Int)) (lo := 1) (hi := 20) (by omega))
  have hcn := (cnt_b hd h1 hn).2
  have ha := ap_b hd (f := 20) (n := n) (by omega) hn
  have HC := Lib.hid (countAperiodic_c d hd 20 (by omega) n h1 hn)
  obtain ⟨x, hx⟩ : ∃ x, ap d 20 n = x := ⟨_, rfl⟩
  rw [hx] at hcn ha HC ⊢
  have hk0 : ¬ (n : Int) = 0 := by omega
  have hq1 : x / (n : Int) ≤ x := Int.ediv_le_self _ hcn
  have hq0 : 0 ≤ x / (n : Int) := Int.ediv_nonneg hcn (by omega)
  clear hx
  go_enter Try.func16, Try.ntmps16
  go_wp2_with (first | (go_at_call 37; refine (isBetween_c _ _ _ _).mono ?_; (first | rw [H1.out] | rw [H2.out]); rintro e w' ⟨rfl, rfl⟩) | (go_at_call 44; refine (HC.out _).mono ?_; rintro e w' ⟨rfl, rfl⟩))
  go_ret2
  exact ⟨rfl, Below.refl _ _⟩
end Go.Proofs.Ytolbgdgoambliaa
