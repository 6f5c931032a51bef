/-
  Tables: what both the program and its model take for them; rows of numbers within a limit.
-/
import Derived.Test.YtknigggjnjkhbaaTabs
import Derived.Test.YtknigggjnjkhbaaPathC
namespace Go.Proofs.Ytknigggjnjkhbaa
open Go.RowKit

def numsM (M : Int) (z : List Int) : Bool := z.all fun x => inB x (-M) M
def rowM (M L : Int) (z : List Int) : Bool := decide ((z.length : Int) = L) && numsM M z
def rowsM (M L : Int) (ps : List (List Int)) : Bool := ps.all (rowM M L)
def tabB (L : Int) (ps : List (List Int)) : Bool := decide ((ps.length : Int) = L) && rowsM 1000 L ps
def wid (ts : Tabs) : Nat := (ts.getD 0 []).length
def tabsB (L : Int) (ts : Tabs) : Bool := inB L 1 3 && decide ((ts.length : Int) = L) && inB (wid ts : Int) 1 6 && ts.all (tabB (wid ts))
theorem all_no {α : Type} {f : α → Bool} {l : List α} (i : Nat) (hi : i < l.length) (h : f l[i] = false) : l.all f = false := by
  cases hp : l.all f with
  | false => rfl
  | true =>
    have := List.all_eq_true.1 hp _ (List.getElem_mem hi)
    rw [h] at this; cases this
theorem all_yes {α : Type} {f : α → Bool} {l : List α} (h : ∀ i (hi : i < l.length), f l[i] = true) : l.all f = true := List.all_eq_true.2 fun x hx => by
  obtain ⟨i, hi, rfl⟩ := List.mem_iff_getElem.1 hx
  exact h i hi
theorem rowM_size {M L : Int} {z : List Int} (h : ¬ (z.length : Int) = L) : rowM M L z = false := by simp [rowM, h]
theorem rowM_nums {M L : Int} {z : List Int} (h : (z.length : Int) = L) : rowM M L z = numsM M z := by simp [rowM, h]
theorem tabsB_1 {L : Int} {ts : Tabs} (h : inB L 1 3 = false) : tabsB L ts = false := by simp [tabsB, h]
theorem tabsB_2 {L : Int} {ts : Tabs} (h : ¬ (ts.length : Int) = L) : tabsB L ts = false := by simp [tabsB, h]
theorem tabsB_3 {L : Int} {ts : Tabs} (h : inB (wid ts : Int) 1 6 = false) : tabsB L ts = false := by simp [tabsB, h]
theorem tabsB_4 {L : Int} {ts : Tabs} (i : Nat) (hi : i < ts.length) (h : tabB (wid ts) ts[i] = false) : tabsB L ts = false := by simp [tabsB, all_no i hi h]
theorem tabsB_5 {ts : Tabs} (h1 : inB (ts.length : Int) 1 3 = true) (h : ∀ i (hi : i < ts.length), tabB (wid ts) ts[i] = true) : tabsB (ts.length : Int) ts = inB (wid ts : Int) 1 6 := by
  have h2 : (ts.all (tabB (wid ts))) = true := all_yes h
  unfold tabsB
  rw [h1, h2]
  simp
theorem tabB_size {L : Int} {ps : List (List Int)} (h : ¬ (ps.length : Int) = L) : tabB L ps = false := by simp [tabB, h]
theorem tabB_rows {L : Int} {ps : List (List Int)} (h : (ps.length : Int) = L) : tabB L ps = rowsM 1000 L ps := by simp [tabB, h]
theorem tabB_row {L : Int} {ps : List (List Int)} (i : Nat) (hi : i < ps.length) (h : rowM 1000 L ps[i] = false) : tabB L ps = false := by simp [tabB, rowsM, all_no i hi h]
theorem rowM_num {M L : Int} {z : List Int} (i : Nat) (hi : i < z.length) (h : inB z[i] (-M) M = false) : rowM M L z = false := by
  have e : numsM M z = false := all_no i hi h
  simp [rowM, e]
theorem rowM_good {M L : Int} {z : List Int} (h1 : (z.length : Int) = L) (h : ∀ i (hi : i < z.length), inB z[i] (-M) M = true) : rowM M L z = true := by
  rw [rowM_nums h1]; exact all_yes h
theorem tabsB_true {L : Int} {ts : Tabs} (h : tabsB L ts = true) : inB L 1 3 = true ∧ (ts.length : Int) = L ∧ inB (wid ts : Int) 1 6 = true ∧ ∀ i (hi : i < ts.length), tabB (wid ts) ts[i] = true := by
  unfold tabsB at h
  simp only [Bool.and_eq_true, decide_eq_true_eq, List.all_eq_true] at h
  exact ⟨h.1.1.1, h.1.1.2, h.1.2, fun i hi => h.2 _ (List.getElem_mem hi)⟩
theorem tabB_true {L : Int} {ps : List (List Int)} (h : tabB L ps = true) : (ps.length : Int) = L ∧ ∀ i (hi : i < ps.length), (ps[i].length : Int) = L ∧ ∀ j (hj : j < (ps[i]).length), -1000 ≤ (ps[i])[j] ∧ (ps[i])[j] ≤ 1000 := by
  unfold tabB rowsM at h
  simp only [Bool.and_eq_true, decide_eq_true_eq, List.all_eq_true] at h
  refine ⟨h.1, fun i hi => ?_⟩
  have h2 := h.2 _ (List.getElem_mem hi)
  unfold rowM numsM at h2
  simp only [Bool.and_eq_true, decide_eq_true_eq, List.all_eq_true] at h2
  exact ⟨h2.1, fun j hj => inB_true (h2.2 _ (List.getElem_mem hj))⟩

theorem areAtMostM_c (M : Int) (hM : 0 ≤ M ∧ M ≤ 1000000000000) (lo hi : Nat) (a : Option Addr) (cap : Nat) (z : List Int) (hl : z.length ≤ 1048576) (w : World) (hr : IRow lo hi w a z) :
    Calls Try.prog 85 #[.slice a z.length cap, .int .i64 M] w fun e w' => e = .returned (.bool (numsM M z)) ∧ w = w' := by
  have HI := Lib.hid hr
  clear hr
  go_enter Try.func85, Try.ntmps85
  go_wp2
  go_loop [9] (fun vj => ∃ j : Nat, j ≤ z.length ∧ vj = .int .i64 j ∧ ∀ i (h : i < z.length), i < j → inB z[i] (-M) M = true) (fun vj => z.length - (intOf vj).toNat)
  case atStart => exact ⟨0, Nat.zero_le _, rfl, fun i _ h => absurd h (Nat.not_lt_zero _)⟩
  case round =>
    obtain ⟨j, hj, rfl, hg⟩ := hrel
    have HGj := Lib.hid hg
    clear hg
    by_cases hltj : j < z.length
    · rcases HI.out with h | ⟨b', o', rfl, _, _, hI'⟩
      · rw [h] at hltj; simp at hltj
      have c1 := hI' j hltj
      have HN := Lib.hid (fun h => (all_no j hltj h : numsM M z = false))
      have HY := Lib.hid (fun (h : inB z[j] (-M) M = true) i (hi : i < z.length) (hij : i < j + 1) => show inB z[i] (-M) M = true from by
        by_cases e : i < j
        · exact HGj.out i hi e
        · obtain rfl : i = j := by omega
          exact h)
      obtain ⟨x, hx⟩ : ∃ x, z[j] = x := ⟨_, rfl⟩
      rw [hx] at c1 HN HY
      clear hx hI'
      cases hin : inB x (-M) M with
      | false =>
        have HR := Lib.hid (HN.out hin)
        go_wp2_with (go_at_call 63; refine (isBetween_c _ _ _ _).mono ?_; rw [hin]; rintro e w' ⟨rfl, rfl⟩)
        go_ret
        exact ⟨retB HR.out.symm, rfl⟩
      | true =>
        have HR := Lib.hid (HY.out hin)
        go_wp2_with (go_at_call 63; refine (isBetween_c _ _ _ _).mono ?_; rw [hin]; rintro e w' ⟨rfl, rfl⟩)
        go_round
        case rel => exact ⟨j + 1, by omega, by go_num, HR.out⟩
        case measure => simp [intOf]; omega
    · have HR := Lib.hid (show numsM M z = true from all_yes (fun i hi => HGj.out i hi (by omega)))
      go_wp2
      go_ret
      exact ⟨retB HR.out.symm, rfl⟩

set_option maxHeartbeats 1000000 in
theorem areRowsM_c (M : Int) (hM : 0 ≤ M ∧ M ≤ 1000000000000) (lo hi : Nat) (L : Int) (a : Option Addr) (cap : Nat) (ps : List (List Int)) (hl : ps.length ≤ 1048576) (hs : flat ps ≤ 1048576) (w : World) (hr : PRow lo hi w a ps) :
    Calls Try.prog 64 #[.slice a ps.length cap, .int .i64 L, .int .i64 M] w fun e w' => e = .returned (.bool (rowsM M L ps)) ∧ w = w' := by
  have HT := Lib.hid hr
  clear hr
  go_enter Try.func64, Try.ntmps64
  go_wp2
  go_loop [11] (fun vi => ∃ k : Nat, k ≤ ps.length ∧ vi = .int .i64 k ∧ ∀ i (h : i < ps.length), i < k → rowM M L ps[i] = true) (fun vi => ps.length - (intOf vi).toNat)
  case atStart => exact ⟨0, Nat.zero_le _, rfl, fun i _ h => absurd h (Nat.not_lt_zero _)⟩
  case round =>
    obtain ⟨k, hk, rfl, hg⟩ := hrel
    have HG := Lib.hid hg
    clear hg
    by_cases hlt : k < ps.length
    · obtain ⟨b, off, a', c, rfl, c0, hI⟩ := HT.out.get (Below.refl hi w) (Nat.le_refl _) hlt
      have HI := Lib.hid hI
      have hzl : (ps[k]).length ≤ 1048576 := by have := flat_one hlt; omega
      have HS := Lib.hid (fun h => (all_no k hlt h : rowsM M L ps = false))
      obtain ⟨z, hez⟩ : ∃ z, ps[k] = z := ⟨_, rfl⟩
      have HE := Lib.hid hez
      rw [hez] at c0 HI hzl HS
      clear hez hI
      by_cases h1 : (z.length : Int) = L
      · have HL1 := Lib.hid (rowM_nums (M := M) h1)
        subst h1
        cases hnum : numsM M z with
        | false =>
          have HR := Lib.hid (HS.out (by rw [HL1.out]; exact hnum))
          go_wp2_with (go_at_call 85; refine (areAtMostM_c M hM lo hi a' c z hzl _ HI.out).mono ?_; rw [hnum]; rintro e w' ⟨rfl, rfl⟩)
          go_ret
          exact ⟨retB HR.out.symm, rfl⟩
        | true =>
          have HR := Lib.hid (show rowM M (z.length : Int) z = true from by rw [HL1.out]; exact hnum)
          go_wp2_with (go_at_call 85; refine (areAtMostM_c M hM lo hi a' c z hzl _ HI.out).mono ?_; rw [hnum]; rintro e w' ⟨rfl, rfl⟩)
          go_round
          case rel =>
            refine ⟨k + 1, by omega, by go_num, fun i hi hik => ?_⟩
            by_cases e : i < k
            · exact HG.out i hi e
            · obtain rfl : i = k := by omega
              rw [HE.out]; exact HR.out
          case measure => simp [intOf]; omega
      · have HR := Lib.hid (HS.out (rowM_size h1))
        go_wp2
        go_ret
        exact ⟨retB HR.out.symm, rfl⟩
    · have HR := Lib.hid (show rowsM M L ps = true from all_yes (fun i hi => HG.out i hi (by omega)))
      go_wp2
      go_ret
      exact ⟨retB HR.out.symm, rfl⟩
end Go.Proofs.Ytknigggjnjkhbaa
