/-
  The model's sums of numbers times rows: one list, and several.
-/
import Derived.Test.YtkgcbbbmiklgaaaTrans
import Derived.BigRegion
namespace Go.Proofs.Ytkgcbbbmiklgaaa
open Go.RowKit

/-- the sum, over the first i numbers, of the number times the row's entry at k -/
def sumK (z : List Int) (ps : List (List Int)) (k : Nat) : Nat → Int
  | 0 => 0
  | i + 1 => sumK z ps k i + z.getD i 0 * (ps.getD i []).getD k 0
theorem sumK_succ (z : List Int) (ps : List (List Int)) (k i : Nat) : sumK z ps k (i + 1) = sumK z ps k i + z.getD i 0 * (ps.getD i []).getD k 0 := rfl
def rowIK (z : List Int) (ps : List (List Int)) (E i j : Nat) : List Int := (List.range E).map fun k => if k < j then sumK z ps k (i + 1) else sumK z ps k i
def rowL (z : List Int) (ps : List (List Int)) (E : Nat) : List Int := (List.range E).map fun k => sumK z ps k z.length
theorem rowL_length (z : List Int) (ps : List (List Int)) (E : Nat) : (rowL z ps E).length = E := by simp [rowL]
theorem rowIK_length (z : List Int) (ps : List (List Int)) (E i j : Nat) : (rowIK z ps E i j).length = E := by simp [rowIK]
theorem rowIK_get (z : List Int) (ps : List (List Int)) (E i j k : Nat) (h : k < (rowIK z ps E i j).length) : (rowIK z ps E i j)[k] = if k < j then sumK z ps k (i + 1) else sumK z ps k i := by simp [rowIK]
theorem rowIK_zero (z : List Int) (ps : List (List Int)) (E : Nat) : rowIK z ps E 0 0 = List.replicate E 0 := by
  apply List.ext_getElem
  · simp [rowIK]
  · intro i h1 h2
    simp [rowIK, sumK]
theorem rowIK_next (z : List Int) (ps : List (List Int)) (E i : Nat) : rowIK z ps E i E = rowIK z ps E (i + 1) 0 := by
  apply List.ext_getElem
  · simp [rowIK]
  · intro k h1 h2
    have : k < E := by simpa [rowIK] using h1
    rw [rowIK_get, rowIK_get, if_pos this, if_neg (by omega)]
theorem rowIK_set (z : List Int) (ps : List (List Int)) (E i j : Nat) (_hj : j < E) : (rowIK z ps E i j).set j (sumK z ps j (i + 1)) = rowIK z ps E i (j + 1) := by
  apply List.ext_getElem
  · simp [rowIK]
  · intro k h1 h2
    rw [List.getElem_set, rowIK_get z ps E i (j + 1) k h2]
    by_cases e : j = k
    · subst e
      rw [if_pos rfl, if_pos (by omega)]
    · rw [if_neg e, rowIK_get]
      by_cases hlt : k < j
      · rw [if_pos hlt, if_pos (by omega)]
      · rw [if_neg hlt, if_neg (by omega)]
theorem rowIK_end (z : List Int) (ps : List (List Int)) (E : Nat) : rowIK z ps E z.length 0 = rowL z ps E := by
  apply List.ext_getElem
  · simp [rowIK, rowL]
  · intro k h1 h2
    rw [rowIK_get, if_neg (by omega)]
    simp [rowL]
/-- a list of as many small numbers as there are rows -/
def FitR (E : Nat) (z : List Int) (ps : List (List Int)) : Prop := z.length ≤ ps.length ∧ SmallR E ps ∧ ∀ j (hj : j < z.length), -100 ≤ z[j] ∧ z[j] ≤ 100
theorem SmallR.get {E : Nat} {ps : List (List Int)} (h : SmallR E ps) (k i : Nat) : -100 ≤ (ps.getD k []).getD i 0 ∧ (ps.getD k []).getD i 0 ≤ 100 := by
  by_cases hk : k < ps.length
  · rw [getD_of hk]
    by_cases hi : i < (ps[k]).length
    · rw [getD_of hi]; exact (h.2.2.2.2 k hk).2 i hi
    · rw [List.getD_eq_getElem?_getD, List.getElem?_eq_none (by omega)]; simp
  · rw [List.getD_eq_getElem?_getD (l := ps), List.getElem?_eq_none (by omega)]; simp
theorem small_get {z : List Int} (h : ∀ j (hj : j < z.length), -100 ≤ z[j] ∧ z[j] ≤ 100) (i : Nat) : -100 ≤ z.getD i 0 ∧ z.getD i 0 ≤ 100 := by
  by_cases hi : i < z.length
  · rw [getD_of hi]; exact h i hi
  · rw [List.getD_eq_getElem?_getD, List.getElem?_eq_none (by omega)]; simp
theorem mul_twoR {a b : Int} (ha : -100 ≤ a ∧ a ≤ 100) (hb : -100 ≤ b ∧ b ≤ 100) : -10000 ≤ a * b ∧ a * b ≤ 10000 := by
  have h : (a * b).natAbs ≤ 100 * 100 := by rw [Int.natAbs_mul]; exact Nat.mul_le_mul (by omega) (by omega)
  omega
theorem sumK_bd {E : Nat} {z : List Int} {ps : List (List Int)} (h : FitR E z ps) (k : Nat) : ∀ i : Nat, -(10000 * (i : Int)) ≤ sumK z ps k i ∧ sumK z ps k i ≤ 10000 * i
  | 0 => by simp [sumK]
  | i + 1 => by
    have ih := sumK_bd h k i
    have g := mul_twoR (small_get h.2.2 i) (h.2.1.get i k)
    rw [sumK_succ]
    omega

set_option maxRecDepth 100000 in
set_option maxHeartbeats 8000000 in
theorem l07Row_c (lo hi lo2 hi2 E : Nat) (a0 : Option Addr) (cap0 : Nat) (z : List Int) (a : Option Addr) (cap : Nat) (ps : List (List Int)) (w : World) (hz : IRow lo2 hi2 w a0 z) (hh2 : hi2 ≤ w.heap.size) (hr : PRow lo hi w a ps) (hh : hi ≤ w.heap.size) (hF : FitR E z ps) :
    Calls Try.prog 63 #[.slice a0 z.length cap0, .int .i64 E, .slice a ps.length cap] w (IntsPost (rowL z ps E) w) := by
  have hE3 := hF.2.1.2.2.2.1
  have hD3 := hF.2.1.2.1
  have hzl := hF.1
  have HT := Lib.hid hr
  have HZ := Lib.hid hz
  have HF := Lib.hid hF
  obtain ⟨O, hmk, hmade⟩ := make_ints E (by omega)
  have HM := Lib.hid hmade
  have HE := Lib.hid (rowIK_end z ps E)
  have e0 : (0 : Int) ≤ (E : Int) := by omega
  clear hr hz hmade hF
  go_enter Try.func63, Try.ntmps63
  go_wp2
  clear hmk
  go_loopw [8] (fun vi wr => ∃ i : Nat, i ≤ z.length ∧ vi = .int .i64 i ∧ Below w.heap.size w wr ∧ Made wr w.heap.size E ∧ IntsIn wr w.heap.size 0 (rowIK z ps E i 0)) (fun vi _ => z.length - (intOf vi).toNat)
  case atStart => exact ⟨0, Nat.zero_le _, rfl, (Below.refl _ _).alloc (Nat.le_refl _) _, (HM.out _).1, by rw [rowIK_zero]; exact (HM.out _).2⟩
  case round =>
    obtain ⟨i, hi', rfl, hB, hM, hI⟩ := hrel
    have HBk := Lib.hid hB
    have HMk := Lib.hid hM
    have HIk := Lib.hid hI
    have hzw := hB.size
    clear hB hM hI
    obtain ⟨wo, rfl⟩ : ∃ wo : World, wo = wr := ⟨_, rfl⟩
    by_cases hlt : i < z.length
    · have hltp : i < ps.length := by omega
      have HG := Lib.hid (fun k => sumK_succ z ps k i)
      have HBD := Lib.hid (fun k => sumK_bd HF.out k i)
      have HPr := Lib.hid (fun k => mul_twoR (small_get HF.out.2.2 i) (HF.out.2.1.get i k))
      have hlen := (HF.out.2.1.2.2.2.2 i hltp).1
      have HGD := Lib.hid (getD_of (d := ([] : List Int)) hltp)
      have HGZ := Lib.hid (getD_of (d := (0 : Int)) hlt)
      obtain ⟨y, hey⟩ : ∃ y, ps[i] = y := ⟨_, rfl⟩
      have HEy := Lib.hid hey
      rw [hey] at hlen HGD
      subst hlen
      clear hey
      go_wp2
      go_loopw [9] (fun vj wr => ∃ j : Nat, j ≤ y.length ∧ vj = .int .i64 j ∧ Below w.heap.size wo wr ∧ Made wr w.heap.size y.length ∧ IntsIn wr w.heap.size 0 (rowIK z ps y.length i j)) (fun vj _ => y.length - (intOf vj).toNat)
      case atStart => exact ⟨0, Nat.zero_le _, rfl, Below.refl _ _, HMk.out, HIk.out⟩
      case round =>
        obtain ⟨j, hj, rfl, hB, hM, hI⟩ := hrel
        have HBj := Lib.hid hB
        have HMj := Lib.hid hM
        have HIj := Lib.hid hI
        have hzj := hB.size
        clear hM hI
        by_cases hltj : j < y.length
        · obtain ⟨b, off, a', c, rfl, q0, hI⟩ := HT.out.get (HBk.out.trans hB) hh hltp
          rw [HEy.out] at q0 hI
          rcases hI with h | ⟨b', o', rfl, _, _, hI'⟩
          · rw [h] at hltj; simp at hltj
          have q1 := hI' j hltj
          rcases HZ.out.below (HBk.out.trans hB) hh2 with h | ⟨bz, oz, rfl, _, _, hIz⟩
          · rw [h] at hlt; simp at hlt
          have q2 := hIz i hlt
          have q3 := HIj.out j (by rw [rowIK_length]; exact hltj)
          rw [rowIK_get, if_neg (Nat.lt_irrefl _), Nat.zero_add] at q3
          obtain ⟨-, f3⟩ := HMj.out.2 j hltj
          have hg := HG.out j
          have hbd := HBD.out j
          have hpr := HPr.out j
          rw [HGD.out, getD_of hltj, HGZ.out] at hg hpr
          obtain ⟨x, hx⟩ : ∃ x, z[i] = x := ⟨_, rfl⟩
          obtain ⟨v, hv⟩ : ∃ v, y[j] = v := ⟨_, rfl⟩
          obtain ⟨t, ht⟩ : ∃ t, sumK z ps j i = t := ⟨_, rfl⟩
          rw [hx, hv] at hg hpr
          rw [hx] at q2
          rw [hv] at q1
          rw [ht] at q3 hg hbd
          have HSum := Lib.hid hg
          have HSet := Lib.hid (rowIK_set z ps y.length i j hltj)
          have e1 : (0 : Int) ≤ (j : Int) := by omega
          have e2 : (j : Int) < (y.length : Int) := by omega
          have e3 : (0 : Int) ≤ (i : Int) := by omega
          have e4 : (i : Int) < (ps.length : Int) := by omega
          have e6 : (i : Int) < (z.length : Int) := by omega
          have e5 := HMj.out.1
          clear hB hI' hIz hx hv ht hg
          go_wp2
          go_region
          go_wp2
          go_roundw
          case rel => exact ⟨j + 1, by omega, by go_num, HBj.out.drew.setCell (p := ⟨w.heap.size, j, none⟩) (Nat.le_refl _) _, HMj.out.set _ _, by rw [← HSet.out, HSum.out]; exact IntsIn.upd (w := wr.drew) HIj.out (by rw [rowIK_length]; exact HMj.out) (by rw [rowIK_length]; exact hltj) _⟩
          case measure => simp [intOf]; omega
        · obtain rfl : j = y.length := by omega
          have HN := Lib.hid (rowIK_next z ps y.length i)
          clear hB
          go_wp2
          go_roundw
          case rel => exact ⟨i + 1, by omega, by go_num, HBk.out.trans HBj.out, HMj.out, by rw [← HN.out]; exact HIj.out⟩
          case measure => simp [intOf]; omega
    · obtain rfl : i = z.length := by omega
      have hI := HIk.out
      rw [HE.out] at hI
      have HIe := Lib.hid hI
      clear hI
      have HL := Lib.hid (rowL_length z ps E)
      go_wp2
      go_ret
      exact ⟨some ⟨w.heap.size, 0, none⟩, E, by rw [HL.out]; rfl, HBk.out, .inr ⟨w.heap.size, rfl, Nat.le_refl _, HMk.out.1, by rw [HL.out]; exact HMk.out, HIe.out⟩⟩
end Go.Proofs.Ytkgcbbbmiklgaaa
