/-
  Paths: what both the program and its model take for one.
  Contracts of IsPath, of the program and of its model: both return the same bool.
  Contracts of the check of one path and a level, of the program and of its model.
-/
import Derived.Test.YtknigggjnjkhbaaPaths
import Derived.Test.YtknigggjnjkhbaaUnitS
import Derived.Laws.Rows
import Derived.LoopN
namespace Go.Proofs.Ytknigggjnjkhbaa

def stepB (L : Int) (z : List Int) : Bool := decide ((z.length : Int) = L) && z.all fun x => inB x (-100) 100
def pathB (L : Int) (ps : List (List Int)) : Bool := inB L 1 3 && decide (ps.length ≤ 12) && ps.all (stepB L)
theorem pathB_letters {L : Int} {ps : List (List Int)} (h : inB L 1 3 = false) : pathB L ps = false := by simp [pathB, h]
theorem pathB_long {L : Int} {ps : List (List Int)} (h : ¬ ps.length ≤ 12) : pathB L ps = false := by simp [pathB, h]
theorem pathB_step {L : Int} {ps : List (List Int)} (i : Nat) (hi : i < ps.length) (h : stepB L ps[i] = false) : pathB L ps = false := by
  cases hp : ps.all (stepB L) with
  | false => simp [pathB, hp]
  | true =>
    have := List.all_eq_true.1 hp _ (List.getElem_mem hi)
    rw [h] at this; cases this
theorem pathB_good {L : Int} {ps : List (List Int)} (h1 : inB L 1 3 = true) (h2 : ps.length ≤ 12) (h : ∀ i (hi : i < ps.length), stepB L ps[i] = true) : pathB L ps = true := by
  have : ps.all (stepB L) = true := List.all_eq_true.2 fun z hz => by
    obtain ⟨i, hi, rfl⟩ := List.mem_iff_getElem.1 hz
    exact h i hi
  simp [pathB, h1, h2, this]
theorem stepB_size {L : Int} {z : List Int} (h : ¬ (z.length : Int) = L) : stepB L z = false := by simp [stepB, h]
theorem stepB_num {L : Int} {z : List Int} (i : Nat) (hi : i < z.length) (h : inB z[i] (-100) 100 = false) : stepB L z = false := by
  cases hp : z.all (fun x => inB x (-100) 100) with
  | false => simp [stepB, hp]
  | true =>
    have := List.all_eq_true.1 hp _ (List.getElem_mem hi)
    rw [h] at this; cases this
theorem stepB_good {L : Int} {z : List Int} (h1 : (z.length : Int) = L) (h : ∀ i (hi : i < z.length), inB z[i] (-100) 100 = true) : stepB L z = true := by
  have : (z.all fun x => inB x (-100) 100) = true := List.all_eq_true.2 fun x hx => by
    obtain ⟨i, hi, rfl⟩ := List.mem_iff_getElem.1 hx
    exact h i hi
  simp [stepB, h1, this]
theorem pathB_true {L : Int} {ps : List (List Int)} (h : pathB L ps = true) : inB L 1 3 = true ∧ ps.length ≤ 12 ∧ ∀ i (hi : i < ps.length), stepB L ps[i] = true := by
  unfold pathB at h
  simp only [Bool.and_eq_true, decide_eq_true_eq, List.all_eq_true] at h
  exact ⟨h.1.1, h.1.2, fun i hi => h.2 _ (List.getElem_mem hi)⟩
theorem stepB_true {L : Int} {z : List Int} (h : stepB L z = true) : (z.length : Int) = L ∧ ∀ i (hi : i < z.length), -100 ≤ z[i] ∧ z[i] ≤ 100 := by
  unfold stepB at h
  simp only [Bool.and_eq_true, decide_eq_true_eq, List.all_eq_true] at h
  exact ⟨h.1, fun i hi => inB_true (h.2 _ (List.getElem_mem hi))⟩
end Go.Proofs.Ytknigggjnjkhbaa

namespace Go.Proofs.Ytknigggjnjkhbaa
open Go.RowKit

theorem retB {a b : Bool} (h : a = b) : Ending.returned (.bool a) = .returned (.bool b) := by rw [h]

section
variable (lo hi : Nat) (L : Int) (a : Option Addr) (cap : Nat) (ps : List (List Int)) (hl : ps.length ≤ 1048576) (hs : flat ps ≤ 1048576) (w : World) (hr : PRow lo hi w a ps)
include hl hs hr

end

def numsB (z : List Int) : Bool := z.all fun x => inB x (-100) 100
theorem numsB_no {z : List Int} (i : Nat) (hi : i < z.length) (h : inB z[i] (-100) 100 = false) : numsB z = false := by
  cases hp : z.all (fun x => inB x (-100) 100) with
  | false => exact hp
  | true =>
    have := List.all_eq_true.1 hp _ (List.getElem_mem hi)
    rw [h] at this; cases this
theorem numsB_yes {z : List Int} (h : ∀ i (hi : i < z.length), inB z[i] (-100) 100 = true) : numsB z = true := List.all_eq_true.2 fun x hx => by
  obtain ⟨i, hi, rfl⟩ := List.mem_iff_getElem.1 hx
  exact h i hi
theorem stepB_nums {L : Int} {z : List Int} (h : (z.length : Int) = L) : stepB L z = numsB z := by simp [stepB, numsB, h]

theorem areAtMost_c (lo hi : Nat) (a : Option Addr) (cap : Nat) (z : List Int) (hl : z.length ≤ 1048576) (w : World) (hr : IRow lo hi w a z) :
    Calls Try.prog 85 #[.slice a z.length cap, .int .i64 100] w fun e w' => e = .returned (.bool (numsB z)) ∧ w = w' := by
  have HI := Lib.hid hr
  clear hr
  go_enter Try.func85, Try.ntmps85
  go_wp2
  go_loop [9] (fun vj => ∃ j : Nat, j ≤ z.length ∧ vj = .int .i64 j ∧ ∀ i (h : i < z.length), i < j → inB z[i] (-100) 100 = true) (fun vj => z.length - (intOf vj).toNat)
  case atStart => exact ⟨0, Nat.zero_le _, rfl, fun i _ h => absurd h (Nat.not_lt_zero _)⟩
  case round =>
    obtain ⟨j, hj, rfl, hg⟩ := hrel
    have HGj := Lib.hid hg
    clear hg
    by_cases hltj : j < z.length
    · rcases HI.out with h | ⟨b', o', rfl, _, _, hI'⟩
      · rw [h] at hltj; simp at hltj
      have c1 := hI' j hltj
      have HN := Lib.hid (fun h => numsB_no j hltj h)
      have HY := Lib.hid (fun (h : inB z[j] (-100) 100 = true) i (hi : i < z.length) (hij : i < j + 1) => show inB z[i] (-100) 100 = true from by
        by_cases e : i < j
        · exact HGj.out i hi e
        · obtain rfl : i = j := by omega
          exact h)
      obtain ⟨x, hx⟩ : ∃ x, z[j] = x := ⟨_, rfl⟩
      rw [hx] at c1 HN HY
      clear hx hI'
      cases hin : inB x (-100) 100 with
      | false =>
        have HR := Lib.hid (HN.out hin)
        go_wp2_with (go_at_call 63; refine (isBetween_c _ _ _ _).mono ?_; rintro e w' ⟨rfl, rfl⟩)
        go_ret
        exact ⟨retB HR.out.symm, rfl⟩
      | true =>
        have HR := Lib.hid (HY.out hin)
        go_wp2_with (go_at_call 63; refine (isBetween_c _ _ _ _).mono ?_; rintro e w' ⟨rfl, rfl⟩)
        go_round
        case rel => exact ⟨j + 1, by omega, by go_num, HR.out⟩
        case measure => simp [intOf]; omega
    · have HR := Lib.hid (numsB_yes (fun i hi => HGj.out i hi (by omega)))
      go_wp2
      go_ret
      exact ⟨retB HR.out.symm, rfl⟩

/-- do all rows have the same number of numbers, and none that is too great? -/
def rowsB (L : Int) (ps : List (List Int)) : Bool := ps.all (stepB L)
theorem rowsB_no {L : Int} {ps : List (List Int)} (i : Nat) (hi : i < ps.length) (h : stepB L ps[i] = false) : rowsB L ps = false := by
  cases hp : rowsB L ps with
  | false => rfl
  | true =>
    have := List.all_eq_true.1 hp _ (List.getElem_mem hi)
    rw [h] at this; cases this
theorem rowsB_yes {L : Int} {ps : List (List Int)} (h : ∀ i (hi : i < ps.length), stepB L ps[i] = true) : rowsB L ps = true := List.all_eq_true.2 fun z hz => by
  obtain ⟨i, hi, rfl⟩ := List.mem_iff_getElem.1 hz
  exact h i hi

set_option maxHeartbeats 1000000 in
theorem areRows_c (lo hi : Nat) (L : Int) (a : Option Addr) (cap : Nat) (ps : List (List Int)) (hl : ps.length ≤ 1048576) (hs : flat ps ≤ 1048576) (w : World) (hr : PRow lo hi w a ps) :
    Calls Try.prog 64 #[.slice a ps.length cap, .int .i64 L, .int .i64 100] w fun e w' => e = .returned (.bool (rowsB L ps)) ∧ w = w' := by
  have HT := Lib.hid hr
  clear hr
  go_enter Try.func64, Try.ntmps64
  go_wp2
  go_loop [11] (fun vi => ∃ k : Nat, k ≤ ps.length ∧ vi = .int .i64 k ∧ ∀ i (h : i < ps.length), i < k → stepB L ps[i] = true) (fun vi => ps.length - (intOf vi).toNat)
  case atStart => exact ⟨0, Nat.zero_le _, rfl, fun i _ h => absurd h (Nat.not_lt_zero _)⟩
  case round =>
    obtain ⟨k, hk, rfl, hg⟩ := hrel
    have HG := Lib.hid hg
    clear hg
    by_cases hlt : k < ps.length
    · obtain ⟨b, off, a', c, rfl, c0, hI⟩ := HT.out.get (Below.refl hi w) (Nat.le_refl _) hlt
      have HI := Lib.hid hI
      have hzl : (ps[k]).length ≤ 1048576 := by have := flat_one hlt; omega
      have HS := Lib.hid (fun h => rowsB_no (L := L) k hlt h)
      obtain ⟨z, hez⟩ : ∃ z, ps[k] = z := ⟨_, rfl⟩
      have HE := Lib.hid hez
      rw [hez] at c0 HI hzl HS
      clear hez hI
      by_cases h1 : (z.length : Int) = L
      · have HL1 := Lib.hid (stepB_nums h1)
        subst h1
        cases hnum : numsB z with
        | false =>
          have HR := Lib.hid (HS.out (by rw [HL1.out]; exact hnum))
          go_wp2_with (go_at_call 85; refine (areAtMost_c lo hi a' c z hzl _ HI.out).mono ?_; rw [hnum]; rintro e w' ⟨rfl, rfl⟩)
          go_ret
          exact ⟨retB HR.out.symm, rfl⟩
        | true =>
          have HR := Lib.hid (show stepB (z.length : Int) z = true from by rw [HL1.out]; exact hnum)
          go_wp2_with (go_at_call 85; refine (areAtMost_c lo hi a' c z hzl _ HI.out).mono ?_; rw [hnum]; rintro e w' ⟨rfl, rfl⟩)
          go_round
          case rel =>
            refine ⟨k + 1, by omega, by go_num, fun i hi hik => ?_⟩
            by_cases e : i < k
            · exact HG.out i hi e
            · obtain rfl : i = k := by omega
              rw [HE.out]; exact HR.out
          case measure => simp [intOf]; omega
      · have HR := Lib.hid (HS.out (stepB_size h1))
        go_wp2
        go_ret
        exact ⟨retB HR.out.symm, rfl⟩
    · have HR := Lib.hid (rowsB_yes (fun i hi => HG.out i hi (by omega)))
      go_wp2
      go_ret
      exact ⟨retB HR.out.symm, rfl⟩

theorem pathB_rows {L : Int} {ps : List (List Int)} (h1 : inB L 1 3 = true) (h2 : ps.length ≤ 12) : rowsB L ps = pathB L ps := by simp [pathB, rowsB, h1, h2]
end Go.Proofs.Ytknigggjnjkhbaa

namespace Go.Proofs.Ytknigggjnjkhbaa
open Go.RowKit

/-- the error of a path and a level -/
def codeP (L V : Int) (ps : List (List Int)) : Int := if pathB L ps = true then (if shapeB L V = true then 0 else 2) else 1
theorem codeP_1 {L V : Int} {ps : List (List Int)} (h : pathB L ps = false) : codeP L V ps = 1 := by simp [codeP, h]
theorem codeP_2 {L V : Int} {ps : List (List Int)} (h : pathB L ps = true) (h2 : shapeB L V = false) : codeP L V ps = 2 := by simp [codeP, h, h2]
theorem codeP_0 {L V : Int} {ps : List (List Int)} (h : pathB L ps = true) (h2 : shapeB L V = true) : codeP L V ps = 0 := by simp [codeP, h, h2]
end Go.Proofs.Ytknigggjnjkhbaa
