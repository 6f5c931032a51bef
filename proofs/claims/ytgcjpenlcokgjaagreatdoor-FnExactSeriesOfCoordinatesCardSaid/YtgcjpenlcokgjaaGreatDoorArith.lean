/-
  Contracts of the functions that bring a quotient into lowest terms.
  Contracts of the sums, products and quotients of fractions, and of the laws' own copies and comparisons of fractions.
-/
import Derived.Test.YtgcjpenlcokgjaaGreatDoorFrac
import Derived.BigRegion
namespace Go.Proofs.YtgcjpenlcokgjaaGreatDoor
open Go.RowKit

theorem wrap_id {x : Int} (h : x.natAbs ≤ 4000000000000000000) : wrap64 x = x := IntWalk.wrap64_in x ⟨by omega, by omega⟩
theorem qN_neg {n d : Int} (hd : d < 0) (hn : n.natAbs ≤ 4000000000000000000) : wrap64 (-n.tdiv (gi n d)) = lowN n d := by
  have := tdiv_abs n (gi n d)
  rw [wrap_id (by omega), ← Int.tdiv_neg, lowN_neg hd]
theorem qD_neg {n d : Int} (hd : d < 0) (hn : d.natAbs ≤ 4000000000000000000) : wrap64 (-d.tdiv (gi n d)) = lowD n d := by
  have := tdiv_abs d (gi n d)
  rw [wrap_id (by omega), ← Int.tdiv_neg, lowD_neg hd]
theorem qD_pos {n d : Int} (hd : ¬ d < 0) : d / (gi n d) = lowD n d := by
  rw [ediv_tdiv (by omega), lowD_pos hd]
theorem l01Frac_c (n d : Int) (hn : -4000000000000000000 ≤ n ∧ n ≤ 4000000000000000000) (hd : -4000000000000000000 ≤ d ∧ d ≤ 4000000000000000000) (w : World) :
    Calls Tryz.prog 148 #[.int .i64 n, .int .i64 d] w fun e w' => e = .returned (.tuple #[.agg #[.int .i64 (fN n d), .int .i64 (fD n d)], .bool (fOk n d)]) ∧ Below w.heap.size w w' := by
  by_cases h0 : d = 0
  · subst h0
    have Hf := Lib.hid (fOk_zero n)
    go_enter Tryz.func148, Tryz.ntmps148
    go_wp2
    refine bodyPost_ret (v := .tuple #[.agg #[.int .i64 0, .int .i64 0], .bool false]) (by simp [results, Tryz.results148, go_sem]) rfl ⟨?_, ?_⟩
    · rw [Hf.out, (low_no Hf.out).1, (low_no Hf.out).2.1]
    · exact (Below.refl _ _).alloc (Nat.le_refl _) _
  · have g1 := gi_pos (a := n) h0
    have g2 := gi_le_abs (a := n) h0
    have e0 : (d == 0) = false := by simpa using h0
    have Hk := Lib.hid (fOk_of (n := n) h0)
    by_cases hneg : d < 0
    all_goals
      cases hok : lowOk n d
      all_goals
        rw [hok] at Hk
        have hF : isF (lowN n d) (lowD n d) = _ := hok
        clear hok
        go_enter Tryz.func148, Tryz.ntmps148
        go_wp2_with (go_at_call 107; refine (l01Gcd_c _ _ (by omega) (by omega) _).mono ?_; rintro e w' ⟨rfl, rfl⟩)
        go_region
        go_wp2_with fail
        first
          | rw [qN_neg hneg (by omega), qD_neg hneg (by omega)]
          | rw [lowN_pos (by omega), qD_pos (by omega)]
        refine (l01IsFrac_c _ _ _).mono ?_
        rintro e w1 ⟨rfl, hb⟩
        obtain ⟨hc, hf⟩ := bcell hb
        have r0 : w1.cell? ⟨w.heap.size, 0, none⟩ = some (.int .i64 0) := (hc _ _ (by go_size)).trans (by go_simp)
        have r1 : w1.cell? ⟨w.heap.size, 1, none⟩ = some (.int .i64 0) := (hc _ _ (by go_size)).trans (by go_simp)
        have z0 : w1.frozen? ⟨w.heap.size, 0, none⟩ = false := (hf _ _ (by go_size)).trans (by go_simp)
        have z1 : w1.frozen? ⟨w.heap.size, 1, none⟩ = false := (hf _ _ (by go_size)).trans (by go_simp)
        have o0 : w1.cell? ⟨w.heap.size + 1, 0, none⟩ = some (.int .i64 (lowN n d)) := (hc _ _ (by go_size)).trans (by go_simp)
        have o1 : w1.cell? ⟨w.heap.size + 1, 1, none⟩ = some (.int .i64 (lowD n d)) := (hc _ _ (by go_size)).trans (by go_simp)
        have hW : Below w.heap.size w w1 := (below2 _ _ _).drew.trans (hb.mono (by simp; omega))
        clear hc hf hb
        rw [hF]
        clear hF
        go_wp2
        first
          | exact bodyPost_ret (v := .tuple #[.agg #[.int .i64 (lowN n d), .int .i64 (lowD n d)], .bool true]) (by simp [results, Tryz.results148, go_sem, r0, r1]) rfl ⟨by rw [Hk.out, (low_yes Hk.out).1, (low_yes Hk.out).2.1], ((hW.setCell (p := ⟨w.heap.size, 0, none⟩) (by simp) _).setCell (p := ⟨w.heap.size, 1, none⟩) (by simp) _)⟩
          | exact bodyPost_ret (v := .tuple #[.agg #[.int .i64 0, .int .i64 0], .bool false]) (by simp [results, Tryz.results148, go_sem, r0, r1]) rfl ⟨by rw [Hk.out, (low_no Hk.out).1, (low_no Hk.out).2.1], ((hW.setCell (p := ⟨w.heap.size, 0, none⟩) (by simp) _).setCell (p := ⟨w.heap.size, 1, none⟩) (by simp) _)⟩

theorem lowestTerms_c (n d : Int) (hn : -4000000000000000000 ≤ n ∧ n ≤ 4000000000000000000) (hd : -4000000000000000000 ≤ d ∧ d ≤ 4000000000000000000) (h0 : ¬ d = 0) (w : World) :
    Calls Tryz.prog 150 #[.int .i64 n, .int .i64 d] w fun e w' => e = .returned (.tuple #[.agg #[.int .i64 (fN n d), .int .i64 (fD n d)], .int .i64 (fC n d)]) ∧ Below w.heap.size w w' := by
  have g1 := gi_pos (a := n) h0
  have g2 := gi_le_abs (a := n) h0
  have g3 := gi_pos (a := -n) (b := -d) (by omega)
  have g4 := gi_le_abs (a := -n) (b := -d) (by omega)
  have Hk := Lib.hid (fOk_of (n := n) h0)
  by_cases hneg : d < 0
  all_goals
    cases hok : lowOk n d
    all_goals
      rw [hok] at Hk
      have hF : isF (lowN n d) (lowD n d) = _ := hok
      clear hok
      go_enter Tryz.func150, Tryz.ntmps150
      go_wp2_with (go_at_call 126; refine (commonDivisor_c _ _ (by omega) (by omega) _).mono ?_; rintro e w' ⟨rfl, nd, rfl⟩)
      go_region
      go_wp2_with fail
      first
        | rw [gi_neg_neg, qN_neg hneg (by omega), qD_neg hneg (by omega)]
        | rw [lowN_pos (by omega), qD_pos (by omega)]
      refine (isFraction_c _ _ _).mono ?_
      rintro e w1 ⟨rfl, hb⟩
      obtain ⟨hc, hf⟩ := bcell hb
      have r0 : w1.cell? ⟨w.heap.size, 0, none⟩ = some (.int .i64 0) := (hc _ _ (by go_size)).trans (by go_simp)
      have r1 : w1.cell? ⟨w.heap.size, 1, none⟩ = some (.int .i64 0) := (hc _ _ (by go_size)).trans (by go_simp)
      have z0 : w1.frozen? ⟨w.heap.size, 0, none⟩ = false := (hf _ _ (by go_size)).trans (by go_simp)
      have z1 : w1.frozen? ⟨w.heap.size, 1, none⟩ = false := (hf _ _ (by go_size)).trans (by go_simp)
      have o0 : w1.cell? ⟨w.heap.size + 1, 0, none⟩ = some (.int .i64 (lowN n d)) := (hc _ _ (by go_size)).trans (by go_simp)
      have o1 : w1.cell? ⟨w.heap.size + 1, 1, none⟩ = some (.int .i64 (lowD n d)) := (hc _ _ (by go_size)).trans (by go_simp)
      have hW : Below w.heap.size w w1 := (below_drewN (below2 w _ _) _).trans (hb.mono (by simp; omega))
      clear hc hf hb
      rw [hF]
      clear hF
      go_wp2
      first
        | exact bodyPost_ret (v := .tuple #[.agg #[.int .i64 (lowN n d), .int .i64 (lowD n d)], .int .i64 0]) (by simp [results, Tryz.results150, go_sem, r0, r1]) rfl ⟨by rw [(low_yes Hk.out).1, (low_yes Hk.out).2.1, (low_yes Hk.out).2.2], ((hW.setCell (p := ⟨w.heap.size, 0, none⟩) (by simp) _).setCell (p := ⟨w.heap.size, 1, none⟩) (by simp) _)⟩
        | exact bodyPost_ret (v := .tuple #[.agg #[.int .i64 0, .int .i64 0], .int .i64 3]) (by simp [results, Tryz.results150, go_sem, r0, r1]) rfl ⟨by rw [(low_no Hk.out).1, (low_no Hk.out).2.1, (low_no Hk.out).2.2], ((hW.setCell (p := ⟨w.heap.size, 0, none⟩) (by simp) _).setCell (p := ⟨w.heap.size, 1, none⟩) (by simp) _)⟩
end Go.Proofs.YtgcjpenlcokgjaaGreatDoor

namespace Go.Proofs.YtgcjpenlcokgjaaGreatDoor
open Go.RowKit

theorem toFraction_c (n d : Int) (w : World) :
    Calls Tryz.prog 69 #[.agg #[.int .i64 n, .int .i64 d]] w fun e w' => e = .returned (.agg #[.int .i64 n, .int .i64 d]) ∧ Below w.heap.size w w' := by
  go_enter Tryz.func69, Tryz.ntmps69
  go_wp2
  refine bodyPost_ret (v := .agg #[.int .i64 n, .int .i64 d]) (by simp [results, Tryz.results69, go_sem]) rfl ⟨rfl, ?_⟩
  go_grown

theorem eqFraction_same (a b : Int) (w : World) :
    Calls Tryz.prog 83 #[.agg #[.int .i64 a, .int .i64 b], .agg #[.int .i64 a, .int .i64 b]] w fun e w' => e = .returned (.bool true) ∧ Below w.heap.size w w' := by
  go_enter Tryz.func83, Tryz.ntmps83
  go_wp2
  go_ret
  exact ⟨rfl, below2 _ _ _⟩

theorem isZero_c (n d : Int) (w : World) :
    Calls Tryz.prog 86 #[.agg #[.int .i64 n, .int .i64 d]] w fun e w' => e = .returned (.bool (n == 0 && d == 1)) ∧ Below w.heap.size w w' := by
  go_enter Tryz.func86, Tryz.ntmps86
  go_wp2
  all_goals
    go_ret
    refine ⟨?_, below1 _ _⟩
    simp_all

theorem l01Zero_c (n d : Int) (w : World) :
    Calls Tryz.prog 64 #[.agg #[.int .i64 n, .int .i64 d]] w fun e w' => e = .returned (.bool (n == 0)) ∧ Below w.heap.size w w' := by
  go_enter Tryz.func64, Tryz.ntmps64
  go_wp2
  go_ret
  exact ⟨rfl, below1 _ _⟩

theorem mul_bd {a b : Int} (ha : a.natAbs ≤ 1000000000) (hb : b.natAbs ≤ 1000000000) : -1000000000000000000 ≤ a * b ∧ a * b ≤ 1000000000000000000 := by
  have h : (a * b).natAbs ≤ 1000000000 * 1000000000 := by rw [Int.natAbs_mul]; exact Nat.mul_le_mul ha hb
  omega

theorem l01Plus_c (a b c d : Int) (ha : a.natAbs ≤ 1000000000) (hb : b.natAbs ≤ 1000000000) (hc : c.natAbs ≤ 1000000000) (hd : d.natAbs ≤ 1000000000) (w : World) :
    Calls Tryz.prog 143 #[.agg #[.int .i64 a, .int .i64 b], .agg #[.int .i64 c, .int .i64 d]] w fun e w' =>
      e = .returned (.tuple #[.agg #[.int .i64 (fN (a * d + c * b) (b * d)), .int .i64 (fD (a * d + c * b) (b * d))], .bool (fOk (a * d + c * b) (b * d))]) ∧ Below w.heap.size w w' := by
  have m1 := mul_bd ha hd
  have m2 := mul_bd hc hb
  have m3 := mul_bd hb hd
  go_enter Tryz.func143, Tryz.ntmps143
  go_wp2_with fail
  refine (l01Frac_c _ _ (by omega) (by omega) _).mono ?_
  rintro e w1 ⟨rfl, hb⟩
  have bc := bcell hb
  have r0 : w1.cell? ⟨w.heap.size + 1 + 1, 0, none⟩ = some (.int .i64 0) := (bc.1 _ _ (by go_size)).trans (by go_simp)
  have r1 : w1.cell? ⟨w.heap.size + 1 + 1, 1, none⟩ = some (.int .i64 0) := (bc.1 _ _ (by go_size)).trans (by go_simp)
  have z0 : w1.frozen? ⟨w.heap.size + 1 + 1, 0, none⟩ = false := (bc.2 _ _ (by go_size)).trans (by go_simp)
  have z1 : w1.frozen? ⟨w.heap.size + 1 + 1, 1, none⟩ = false := (bc.2 _ _ (by go_size)).trans (by go_simp)
  have hW : Below w.heap.size w w1 := (below3 w _ _ _).trans (hb.mono (by simp; omega))
  have hz : w.heap.size + 1 + 1 < w1.heap.size := by have := hb.size; simp at this; omega
  clear bc hb
  go_wp2
  exact bodyPost_ret (v := .tuple #[.agg #[.int .i64 (fN (a * d + c * b) (b * d)), .int .i64 (fD (a * d + c * b) (b * d))], .bool (fOk (a * d + c * b) (b * d))]) (by simp [results, Tryz.results143, go_sem, r0, r1, hz]) rfl ⟨rfl, by go_grown⟩

theorem l01TimesFrac_c (a b c d : Int) (ha : a.natAbs ≤ 1000000000) (hb : b.natAbs ≤ 1000000000) (hc : c.natAbs ≤ 1000000000) (hd : d.natAbs ≤ 1000000000) (w : World) :
    Calls Tryz.prog 110 #[.agg #[.int .i64 a, .int .i64 b], .agg #[.int .i64 c, .int .i64 d]] w fun e w' =>
      e = .returned (.tuple #[.agg #[.int .i64 (fN (a * c) (b * d)), .int .i64 (fD (a * c) (b * d))], .bool (fOk (a * c) (b * d))]) ∧ Below w.heap.size w w' := by
  have m1 := mul_bd ha hc
  have m3 := mul_bd hb hd
  go_enter Tryz.func110, Tryz.ntmps110
  go_wp2_with fail
  refine (l01Frac_c _ _ (by omega) (by omega) _).mono ?_
  rintro e w1 ⟨rfl, hb⟩
  have bc := bcell hb
  have r0 : w1.cell? ⟨w.heap.size + 1 + 1, 0, none⟩ = some (.int .i64 0) := (bc.1 _ _ (by go_size)).trans (by go_simp)
  have r1 : w1.cell? ⟨w.heap.size + 1 + 1, 1, none⟩ = some (.int .i64 0) := (bc.1 _ _ (by go_size)).trans (by go_simp)
  have z0 : w1.frozen? ⟨w.heap.size + 1 + 1, 0, none⟩ = false := (bc.2 _ _ (by go_size)).trans (by go_simp)
  have z1 : w1.frozen? ⟨w.heap.size + 1 + 1, 1, none⟩ = false := (bc.2 _ _ (by go_size)).trans (by go_simp)
  have hW : Below w.heap.size w w1 := (below3 w _ _ _).trans (hb.mono (by simp; omega))
  have hz : w.heap.size + 1 + 1 < w1.heap.size := by have := hb.size; simp at this; omega
  clear bc hb
  go_wp2
  exact bodyPost_ret (v := .tuple #[.agg #[.int .i64 (fN (a * c) (b * d)), .int .i64 (fD (a * c) (b * d))], .bool (fOk (a * c) (b * d))]) (by simp [results, Tryz.results110, go_sem, r0, r1, hz]) rfl ⟨rfl, by go_grown⟩

end Go.Proofs.YtgcjpenlcokgjaaGreatDoor
