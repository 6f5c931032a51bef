/-
  Plain mathematics of fractions in lowest terms: greatest common divisors and the pair that a quotient comes to. No program is named here.
  Contracts of the functions on fractions: what each returns, called in any world.
  Contracts of the functions that bring a quotient into lowest terms.
  Contracts of the sums, products and quotients of fractions, and of the laws' own copies and comparisons of fractions.
-/
import Derived.Test.YtolbgdgoambliaaRows
import Derived.WalkKit
import Derived.Handy
import Derived.Lib.Hide
import Derived.Deep.QuietTactic
import Derived.BigQuiet
import Derived.WalkSmall
import Derived.BigRegion
namespace Go.Proofs.Ytolbgdgoambliaa

/-- greatest common divisor of two integers, as an integer -/
def gi (a b : Int) : Int := (Int.gcd a b : Int)

theorem gi_nonneg (a b : Int) : 0 ≤ gi a b := by unfold gi; omega
theorem gi_zero (a : Int) : gi a 0 = a.natAbs := by simp [gi]
theorem gi_abs_left (a b : Int) : gi a.natAbs b = gi a b := by
  simp [gi, Int.gcd]
theorem gi_neg_left (a b : Int) : gi (-a) b = gi a b := by simp [gi]
theorem gi_tmod (a b : Int) : gi b (a.tmod b) = gi a b := by
  simp only [gi, Int.gcd]
  rw [Int.natAbs_tmod, Nat.gcd_comm b.natAbs, ← Nat.gcd_rec, Nat.gcd_comm]
theorem gi_emod (a b : Int) (ha : 0 ≤ a) : gi b (a % b) = gi a b := by
  rw [← Int.tmod_eq_emod_of_nonneg ha, gi_tmod]
theorem gi_pos {a b : Int} (hb : b ≠ 0) : 1 ≤ gi a b := by
  have : 0 < Int.gcd a b := Int.gcd_pos_of_ne_zero_right _ hb
  unfold gi; omega
theorem gi_dvd_left (a b : Int) : gi a b ∣ a := Int.gcd_dvd_left ..
theorem gi_dvd_right (a b : Int) : gi a b ∣ b := Int.gcd_dvd_right ..
theorem gi_le_right {a b : Int} (hb : 1 ≤ b) : gi a b ≤ b := Int.le_of_dvd (by omega) (gi_dvd_right a b)
theorem tmod_lt (a b : Int) (hb : b ≠ 0) : (a.tmod b).natAbs < b.natAbs := by
  rw [Int.natAbs_tmod]
  exact Nat.mod_lt _ (by omega)
theorem natAbs_max (a : Int) : max a (-a) = a.natAbs := by omega

/-- is the number within the bounds? -/
def inB (n lo hi : Int) : Bool := decide (lo ≤ n ∧ n ≤ hi)
theorem inB_yes {n lo hi : Int} (h : lo ≤ n ∧ n ≤ hi) : inB n lo hi = true := by simp [inB, h]
theorem inB_no {n lo hi : Int} (h : ¬ (lo ≤ n ∧ n ≤ hi)) : inB n lo hi = false := by simp only [inB, h, decide_false]
theorem inB_true {n lo hi : Int} (h : inB n lo hi = true) : lo ≤ n ∧ n ≤ hi := by simpa [inB] using h
theorem inB_false {n lo hi : Int} (h : inB n lo hi = false) : ¬ (lo ≤ n ∧ n ≤ hi) := by simpa [inB] using h
/-- is the pair a fraction in lowest terms within the limits? -/
def isF (n d : Int) : Bool := decide (1 ≤ d ∧ d ≤ 1000000000 ∧ -1000000000 ≤ n ∧ n ≤ 1000000000 ∧ gi n d = 1)
theorem isF_out {n d : Int} (h : isF n d = true) : 1 ≤ d ∧ d ≤ 1000000000 ∧ -1000000000 ≤ n ∧ n ≤ 1000000000 ∧ gi n d = 1 := by simpa [isF] using h

/-- lowest terms with a positive denominator, for `d` not 0 -/
def lowN (n d : Int) : Int := (if d < 0 then -n else n) / gi n d
def lowD (n d : Int) : Int := (if d < 0 then -d else d) / gi n d
def lowOk (n d : Int) : Bool := isF (lowN n d) (lowD n d)

theorem tdiv_neg_exact {n q : Int} (h : q ∣ n) : n.tdiv (-q) = (-n) / q := by
  rw [Int.tdiv_neg, Int.tdiv_eq_ediv_of_dvd h, Int.neg_ediv_of_dvd h]
theorem lowN_neg {n d : Int} (h : d < 0) : n.tdiv (-(gi n d)) = lowN n d := by
  rw [tdiv_neg_exact (gi_dvd_left n d)]; simp [lowN, h]
theorem lowD_neg {n d : Int} (h : d < 0) : d.tdiv (-(gi n d)) = lowD n d := by
  rw [tdiv_neg_exact (gi_dvd_right n d)]; simp [lowD, h]
theorem lowN_pos {n d : Int} (h : ¬ d < 0) : n.tdiv (gi n d) = lowN n d := by
  rw [Int.tdiv_eq_ediv_of_dvd (gi_dvd_left n d)]; simp [lowN, h]
theorem lowD_pos {n d : Int} (h : ¬ d < 0) : d.tdiv (gi n d) = lowD n d := by
  rw [Int.tdiv_eq_ediv_of_dvd (gi_dvd_right n d)]; simp [lowD, h]
theorem gi_neg_neg (n d : Int) : gi (-n) (-d) = gi n d := by simp [gi]
theorem lowN_flip {n d : Int} (h : d < 0) : (-n).tdiv (gi (-n) (-d)) = lowN n d := by
  have h2 : gi n d ∣ -n := Int.dvd_neg.2 (gi_dvd_left n d)
  rw [gi_neg_neg, Int.tdiv_eq_ediv_of_dvd h2]; simp [lowN, h]
theorem lowD_flip {n d : Int} (h : d < 0) : (-d).tdiv (gi (-n) (-d)) = lowD n d := by
  have h2 : gi n d ∣ -d := Int.dvd_neg.2 (gi_dvd_right n d)
  rw [gi_neg_neg, Int.tdiv_eq_ediv_of_dvd h2]; simp [lowD, h]

theorem low_unique {n d an ad : Int} (hc : gi an ad = 1) (hd1 : 1 ≤ ad) (hd : d ≠ 0) (h : n * ad = an * d) : lowN n d = an ∧ lowD n d = ad := by
  have hco : Int.gcd ad an = 1 := by unfold gi at hc; rw [Int.gcd_comm]; omega
  have hdv : ad ∣ an * d := ⟨n, by rw [Int.mul_comm ad n, h]⟩
  have hdv2 : ad ∣ d := by have := Int.dvd_gcd_mul_iff_dvd_mul.2 hdv; rw [hco] at this; simpa using this
  obtain ⟨k, rfl⟩ := hdv2
  have hn : n = an * k := by
    have e : n * ad = (an * k) * ad := by rw [h, Int.mul_comm ad k, Int.mul_assoc]
    exact Int.eq_of_mul_eq_mul_right (by omega) e
  subst hn
  have hk : k ≠ 0 := by rintro rfl; simp at hd
  have hg : gi (an * k) (ad * k) = (k.natAbs : Int) := by
    unfold gi; rw [Int.gcd_mul_right, Int.gcd_comm, hco]; simp
  unfold lowN lowD
  rw [hg]
  rcases Int.lt_or_gt_of_ne hk with hneg | hpos
  · have hdn : ad * k < 0 := Int.mul_neg_of_pos_of_neg (by omega) hneg
    rw [if_pos hdn, if_pos hdn, Int.ofNat_natAbs_of_nonpos (by omega), ← Int.mul_neg, ← Int.mul_neg]
    exact ⟨Int.mul_ediv_cancel _ (by omega), Int.mul_ediv_cancel _ (by omega)⟩
  · have hdp : ¬ ad * k < 0 := by have := Int.mul_pos (show 0 < ad by omega) hpos; omega
    rw [if_neg hdp, if_neg hdp, Int.natAbs_of_nonneg (by omega)]
    exact ⟨Int.mul_ediv_cancel _ (by omega), Int.mul_ediv_cancel _ (by omega)⟩

theorem low_cross {n d : Int} (hd : d ≠ 0) : lowN n d * d = n * lowD n d := by
  have h1 := gi_dvd_left n d
  have h2 := gi_dvd_right n d
  have hp := gi_pos (a := n) hd
  unfold lowN lowD
  generalize gi n d = g at *
  obtain ⟨u, rfl⟩ := h1
  obtain ⟨v, rfl⟩ := h2
  by_cases h : g * v < 0
  · rw [if_pos h, if_pos h, ← Int.mul_neg, ← Int.mul_neg, Int.mul_ediv_cancel_left _ (by omega), Int.mul_ediv_cancel_left _ (by omega)]
    simp only [Int.neg_mul, Int.mul_neg, Int.mul_assoc, Int.mul_left_comm]
  · rw [if_neg h, if_neg h, Int.mul_ediv_cancel_left _ (by omega), Int.mul_ediv_cancel_left _ (by omega)]
    simp only [Int.mul_assoc, Int.mul_left_comm]
theorem isF_den {n d : Int} (h : inB d 1 1000000000 = false) : isF n d = false := by
  have := inB_false h
  simp only [isF, decide_eq_false_iff_not]; omega
theorem isF_num {n d : Int} (h : inB n (-1000000000) 1000000000 = false) : isF n d = false := by
  have := inB_false h
  simp only [isF, decide_eq_false_iff_not]; omega
theorem isF_gi {n d : Int} (h1 : inB d 1 1000000000 = true) (h2 : inB n (-1000000000) 1000000000 = true) : isF n d = (gi n d == 1) := by
  have a1 := inB_true h1
  have a2 := inB_true h2
  by_cases hg : gi n d = 1
  · rw [hg]; simp only [isF, decide_eq_true_iff, beq_self_eq_true]; exact ⟨a1.1, a1.2, a2.1, a2.2, hg⟩
  · rw [show (gi n d == 1) = false from by simpa using hg]
    simp only [isF, decide_eq_false_iff_not]; omega
/-- does the quotient of two numbers fit, and what pair it is (0 and 0 where it does not) -/
def fOk (n d : Int) : Bool := d != 0 && lowOk n d
def fN (n d : Int) : Int := if fOk n d then lowN n d else 0
def fD (n d : Int) : Int := if fOk n d then lowD n d else 0
def fC (n d : Int) : Int := if fOk n d then 0 else 3
theorem fOk_zero (n : Int) : fOk n 0 = false := by simp [fOk]
theorem fOk_of {n d : Int} (h : d ≠ 0) : fOk n d = lowOk n d := by
  have : (d != 0) = true := by simpa using h
  simp [fOk, this]
theorem gi_le_abs {a b : Int} (hb : b ≠ 0) : gi a b ≤ b.natAbs := by
  have h := gi_dvd_right a b
  have h2 : gi a b ∣ (b.natAbs : Int) := Int.dvd_natAbs.2 h
  exact Int.le_of_dvd (by omega) h2
theorem tdiv_abs (n q : Int) : (n.tdiv q).natAbs ≤ n.natAbs := by
  rw [Int.natAbs_tdiv]
  exact Nat.div_le_self _ _
theorem ediv_tdiv {d q : Int} (h : 0 ≤ d) : d / q = d.tdiv q := (Int.tdiv_eq_ediv_of_nonneg h).symm
theorem low_yes {n d : Int} (h : fOk n d = true) : fN n d = lowN n d ∧ fD n d = lowD n d ∧ fC n d = 0 := by simp [fN, fD, fC, h]
theorem low_no {n d : Int} (h : fOk n d = false) : fN n d = 0 ∧ fD n d = 0 ∧ fC n d = 3 := by simp [fN, fD, fC, h]
/-- what a sum, product, quotient comes to: numerator, denominator, code -/
def q3 (n d : Int) : Int × Int × Int := (fN n d, fD n d, fC n d)
def bad3 (k : Int) : Int × Int × Int := (0, 0, k)
def addR (a b c d : Int) : Int × Int × Int := if isF a b && isF c d then q3 (a * d + c * b) (b * d) else bad3 1
def mulR (a b c d : Int) : Int × Int × Int := if isF a b && isF c d then q3 (a * c) (b * d) else bad3 1
def divR (a b c d : Int) : Int × Int × Int := if isF a b && isF c d then (if c = 0 then bad3 5 else q3 (a * d) (b * c)) else bad3 1
def ofR (n d : Int) : Int × Int × Int := if inB n (-1000000000000000000) 1000000000000000000 && inB d (-1000000000000000000) 1000000000000000000 then (if d = 0 then bad3 5 else q3 n d) else bad3 2
theorem addR_l {a b c d : Int} (h : isF a b = false) : addR a b c d = bad3 1 := by simp [addR, h]
theorem addR_r {a b c d : Int} (h : isF c d = false) : addR a b c d = bad3 1 := by simp [addR, h]
theorem addR_y {a b c d : Int} (h : isF a b = true) (h2 : isF c d = true) : addR a b c d = q3 (a * d + c * b) (b * d) := by simp [addR, h, h2]
theorem mulR_l {a b c d : Int} (h : isF a b = false) : mulR a b c d = bad3 1 := by simp [mulR, h]
theorem mulR_r {a b c d : Int} (h : isF c d = false) : mulR a b c d = bad3 1 := by simp [mulR, h]
theorem mulR_y {a b c d : Int} (h : isF a b = true) (h2 : isF c d = true) : mulR a b c d = q3 (a * c) (b * d) := by simp [mulR, h, h2]
theorem divR_l {a b c d : Int} (h : isF a b = false) : divR a b c d = bad3 1 := by simp [divR, h]
theorem divR_r {a b c d : Int} (h : isF c d = false) : divR a b c d = bad3 1 := by simp [divR, h]
theorem divR_z {a b c d : Int} (h : isF a b = true) (h2 : isF c d = true) (h0 : c = 0) : divR a b c d = bad3 5 := by
  unfold divR; rw [h, h2, if_pos (by rfl), if_pos h0]
theorem divR_y {a b c d : Int} (h : isF a b = true) (h2 : isF c d = true) (h0 : ¬ c = 0) : divR a b c d = q3 (a * d) (b * c) := by simp [divR, h, h2, h0]
theorem ofR_l {n d : Int} (h : inB n (-1000000000000000000) 1000000000000000000 = false) : ofR n d = bad3 2 := by simp [ofR, h]
theorem ofR_r {n d : Int} (h : inB d (-1000000000000000000) 1000000000000000000 = false) : ofR n d = bad3 2 := by simp [ofR, h]
theorem ofR_z {n d : Int} (h : inB n (-1000000000000000000) 1000000000000000000 = true) (h2 : inB d (-1000000000000000000) 1000000000000000000 = true) (h0 : d = 0) : ofR n d = bad3 5 := by
  unfold ofR; rw [h, h2, if_pos (by rfl), if_pos h0]
theorem ofR_y {n d : Int} (h : inB n (-1000000000000000000) 1000000000000000000 = true) (h2 : inB d (-1000000000000000000) 1000000000000000000 = true) (h0 : ¬ d = 0) : ofR n d = q3 n d := by
  unfold ofR; rw [h, h2, if_pos (by rfl), if_neg h0]
theorem isF_abs {n d : Int} (h : isF n d = true) : n.natAbs ≤ 1000000000 ∧ d.natAbs ≤ 1000000000 ∧ 1 ≤ d := by
  have := isF_out h
  omega
theorem isF_zero {d : Int} (h : isF 0 d = true) : d = 1 := by
  have := isF_out h
  have e : gi 0 d = d.natAbs := by simp [gi]
  omega
theorem q3_yes {n d : Int} (h : fOk n d = true) : q3 n d = (fN n d, fD n d, 0) := by simp [q3, (low_yes h).2.2]
theorem q3_no {n d : Int} (h : fOk n d = false) : q3 n d = (0, 0, 3) := by simp [q3, (low_no h).2.2, (low_no h).1, (low_no h).2.1]
end Go.Proofs.Ytolbgdgoambliaa

namespace Go.Proofs.Ytolbgdgoambliaa
open Go.RowKit

theorem ret_int {k : IntKind} {a b : Int} (h : a = b) : Ending.returned (.int k a) = .returned (.int k b) := by rw [h]

theorem bcell {W w1 : World} (hb : Below W.heap.size W w1) : (∀ b o, b < W.heap.size → w1.cell? ⟨b, o, none⟩ = W.cell? ⟨b, o, none⟩) ∧ (∀ b o, b < W.heap.size → w1.frozen? ⟨b, o, none⟩ = W.frozen? ⟨b, o, none⟩) :=
  ⟨fun b o h => hb.cell (p := ⟨b, o, none⟩) h, fun b o h => hb.frozen (p := ⟨b, o, none⟩) h⟩

theorem bcellB {B : Nat} {W w1 : World} (hb : Below B W w1) : (∀ b o, b < B → w1.cell? ⟨b, o, none⟩ = W.cell? ⟨b, o, none⟩) ∧ (∀ b o, b < B → w1.frozen? ⟨b, o, none⟩ = W.frozen? ⟨b, o, none⟩) :=
  ⟨fun b o h => hb.cell (p := ⟨b, o, none⟩) h, fun b o h => hb.frozen (p := ⟨b, o, none⟩) h⟩
theorem below_step {B : Nat} {W0 wp wk : World} (hB : Below B W0 wp) (hb : Below wp.heap.size wp wk) (h : B ≤ W0.heap.size) : Below B W0 wk := hB.trans (hb.mono (Nat.le_trans h hB.size))
theorem below1 (w : World) (o1 : Obj) : Below w.heap.size w (w.alloc o1) := (Below.refl _ _).alloc (Nat.le_refl _) o1
theorem below2 (w : World) (o1 o2 : Obj) : Below w.heap.size w ((w.alloc o1).alloc o2) := (below1 w o1).alloc (by simp) o2
theorem below3 (w : World) (o1 o2 o3 : Obj) : Below w.heap.size w (((w.alloc o1).alloc o2).alloc o3) := (below2 w o1 o2).alloc (by simp; omega) o3
theorem below4 (w : World) (o1 o2 o3 o4 : Obj) : Below w.heap.size w ((((w.alloc o1).alloc o2).alloc o3).alloc o4) := (below3 w o1 o2 o3).alloc (by simp; omega) o4

theorem l01In_c (n lo hi : Int) (w : World) :
    Calls Try.prog 41 #[.int .i64 n, .int .i64 lo, .int .i64 hi] w fun e w' => e = .returned (.bool (inB n lo hi)) ∧ w = w' := by
  by_cases h1 : lo ≤ n <;> by_cases h2 : n ≤ hi
  all_goals
    go_enter Try.func41, Try.ntmps41
    go_wp2
    go_ret
    simp [inB, h1, h2]

theorem isBetween_c (n lo hi : Int) (w : World) :
    Calls Try.prog 37 #[.int .i64 n, .int .i64 lo, .int .i64 hi] w fun e w' => e = .returned (.bool (inB n lo hi)) ∧ w = w' := by
  by_cases h1 : lo ≤ n <;> by_cases h2 : n ≤ hi
  all_goals
    go_enter Try.func37, Try.ntmps37
    go_wp2
    go_ret
    simp [inB, h1, h2]

end Go.Proofs.Ytolbgdgoambliaa

namespace Go.Proofs.Ytolbgdgoambliaa
open Go.RowKit

theorem wrap_id {x : Int} (h : x.natAbs ≤ 4000000000000000000) : wrap64 x = x := IntWalk.wrap64_in x ⟨by omega, by omega⟩
theorem qN_neg {n d : Int} (hd : d < 0) (hn : n.natAbs ≤ 4000000000000000000) : wrap64 (-n.tdiv (gi n d)) = lowN n d := by
  have := tdiv_abs n (gi n d)
  rw [wrap_id (by omega), ← Int.tdiv_neg, lowN_neg hd]
theorem qD_neg {n d : Int} (hd : d < 0) (hn : d.natAbs ≤ 4000000000000000000) : wrap64 (-d.tdiv (gi n d)) = lowD n d := by
  have := tdiv_abs d (gi n d)
  rw [wrap_id (by omega), ← Int.tdiv_neg, lowD_neg hd]
theorem qD_pos {n d : Int} (hd : ¬ d < 0) : d / (gi n d) = lowD n d := by
  rw [ediv_tdiv (by omega), lowD_pos hd]
end Go.Proofs.Ytolbgdgoambliaa

namespace Go.Proofs.Ytolbgdgoambliaa
open Go.RowKit

theorem mul_bd {a b : Int} (ha : a.natAbs ≤ 1000000000) (hb : b.natAbs ≤ 1000000000) : -1000000000000000000 ≤ a * b ∧ a * b ≤ 1000000000000000000 := by
  have h : (a * b).natAbs ≤ 1000000000 * 1000000000 := by rw [Int.natAbs_mul]; exact Nat.mul_le_mul ha hb
  omega

end Go.Proofs.Ytolbgdgoambliaa
