/-
  Contracts of IsMap, of the program and of its model: both return the same bool.
-/
import Derived.Test.YtkgcbbbmiklgaaaIsPath
namespace Go.Proofs.Ytkgcbbbmiklgaaa
open Go.RowKit

def mapB (D L : Int) (ps : List (List Int)) : Bool := inB D 1 3 && inB L 1 3 && decide ((ps.length : Int) = D) && rowsB L ps
theorem mapB_1 {D L : Int} {ps : List (List Int)} (h : inB D 1 3 = false) : mapB D L ps = false := by simp [mapB, h]
theorem mapB_2 {D L : Int} {ps : List (List Int)} (h : inB L 1 3 = false) : mapB D L ps = false := by simp [mapB, h]
theorem mapB_3 {D L : Int} {ps : List (List Int)} (h : ¬ (ps.length : Int) = D) : mapB D L ps = false := by simp [mapB, h]
theorem mapB_step {D L : Int} {ps : List (List Int)} (i : Nat) (hi : i < ps.length) (h : stepB L ps[i] = false) : mapB D L ps = false := by simp [mapB, rowsB_no i hi h]
theorem mapB_good {L : Int} {ps : List (List Int)} (h0 : inB (ps.length : Int) 1 3 = true) (h1 : inB L 1 3 = true) (h : ∀ i (hi : i < ps.length), stepB L ps[i] = true) : mapB (ps.length : Int) L ps = true := by simp [mapB, h0, h1, rowsB_yes h]
theorem mapB_rows {L : Int} {ps : List (List Int)} (h0 : inB (ps.length : Int) 1 3 = true) (h1 : inB L 1 3 = true) : rowsB L ps = mapB (ps.length : Int) L ps := by simp [mapB, h0, h1]
theorem mapB_true {D L : Int} {ps : List (List Int)} (h : mapB D L ps = true) : inB D 1 3 = true ∧ inB L 1 3 = true ∧ (ps.length : Int) = D ∧ ∀ i (hi : i < ps.length), stepB L ps[i] = true := by
  unfold mapB rowsB at h
  simp only [Bool.and_eq_true, decide_eq_true_eq, List.all_eq_true] at h
  exact ⟨h.1.1.1, h.1.1.2, h.1.2, fun i hi => h.2 _ (List.getElem_mem hi)⟩

section
variable (lo hi : Nat) (D L : Int) (a : Option Addr) (cap : Nat) (ps : List (List Int)) (hl : ps.length ≤ 1048576) (hs : flat ps ≤ 1048576) (w : World) (hr : PRow lo hi w a ps)
include hl hs hr

set_option maxHeartbeats 2000000 in
theorem l07Is_c : Calls Try.prog 42 #[.int .i64 D, .int .i64 L, .slice a ps.length cap] w fun e w' => e = .returned (.bool (mapB D L ps)) ∧ w = w' := by
  have HT := Lib.hid hr
  clear hr
  cases hD : inB D 1 3 with
  | false =>
    have HR := Lib.hid (mapB_1 (L := L) (ps := ps) hD)
    go_enter Try.func42, Try.ntmps42
    go_wp2_with (go_at_call 56; refine (l01In_c _ _ _ _).mono ?_; rw [hD]; rintro e w' ⟨rfl, rfl⟩)
    go_ret
    exact ⟨retB HR.out.symm, rfl⟩
  | true =>
    cases hL : inB L 1 3 with
    | false =>
      have HR := Lib.hid (mapB_2 (D := D) (ps := ps) hL)
      go_enter Try.func42, Try.ntmps42
      go_wp2_with (go_at_call 56; refine (l01In_c _ _ _ _).mono ?_; (first | rw [hD] | rw [hL]); rintro e w' ⟨rfl, rfl⟩)
      go_ret
      exact ⟨retB HR.out.symm, rfl⟩
    | true =>
    by_cases hn : (ps.length : Int) = D
    · subst hn
      have HL := Lib.hid hL
      have HD := Lib.hid hD
      go_enter Try.func42, Try.ntmps42
      go_wp2_with (go_at_call 56; refine (l01In_c _ _ _ _).mono ?_; (first | rw [hD] | rw [hL]); rintro e w' ⟨rfl, rfl⟩)
      clear hL hD
      go_loop [7] (fun vi => ∃ k : Nat, k ≤ ps.length ∧ vi = .int .i64 k ∧ ∀ i (h : i < ps.length), i < k → stepB L ps[i] = true) (fun vi => ps.length - (intOf vi).toNat)
      case atStart => exact ⟨0, Nat.zero_le _, rfl, fun i _ h => absurd h (Nat.not_lt_zero _)⟩
      case round =>
        obtain ⟨k, hk, rfl, hg⟩ := hrel
        have HG := Lib.hid hg
        clear hg
        by_cases hlt : k < ps.length
        · obtain ⟨b, off, a', c, rfl, c0, hI⟩ := HT.out.get (Below.refl hi w) (Nat.le_refl _) hlt
          have HI := Lib.hid hI
          have hzl : (ps[k]).length ≤ 1048576 := by have := flat_one hlt; omega
          have HS := Lib.hid (fun h => mapB_step (D := (ps.length : Int)) (L := L) k hlt h)
          obtain ⟨z, hez⟩ : ∃ z, ps[k] = z := ⟨_, rfl⟩
          have HE := Lib.hid hez
          rw [hez] at c0 HI hzl HS
          clear hez hI
          by_cases h1 : (z.length : Int) = L
          · subst h1
            go_wp2
            go_loop [8] (fun vj => ∃ j : Nat, j ≤ z.length ∧ vj = .int .i64 j ∧ ∀ i (h : i < z.length), i < j → inB z[i] (-100) 100 = true) (fun vj => z.length - (intOf vj).toNat)
            case atStart => exact ⟨0, Nat.zero_le _, rfl, fun i _ h => absurd h (Nat.not_lt_zero _)⟩
            case round =>
              obtain ⟨j, hj, rfl, hg⟩ := hrel
              have HGj := Lib.hid hg
              clear hg
              by_cases hltj : j < z.length
              · rcases HI.out with h | ⟨b', o', rfl, _, _, hI'⟩
                · rw [h] at hltj; simp at hltj
                have c1 := hI' j hltj
                have HN := Lib.hid (fun h => HS.out (stepB_num j hltj h))
                have HY := Lib.hid (fun (h : inB z[j] (-100) 100 = true) i (hi : i < z.length) (hij : i < j + 1) => show inB z[i] (-100) 100 = true from by
                  by_cases e : i < j
                  · exact HGj.out i hi e
                  · obtain rfl : i = j := by omega
                    exact h)
                obtain ⟨x, hx⟩ : ∃ x, z[j] = x := ⟨_, rfl⟩
                rw [hx] at c1 HN HY
                clear hx hI'
                cases hin : inB x (-100) 100 with
                | false =>
                  have HR := Lib.hid (HN.out hin)
                  go_wp2_with (go_at_call 56; refine (l01In_c _ _ _ _).mono ?_; rintro e w' ⟨rfl, rfl⟩)
                  go_ret
                  exact ⟨retB HR.out.symm, rfl⟩
                | true =>
                  have HR := Lib.hid (HY.out hin)
                  go_wp2_with (go_at_call 56; refine (l01In_c _ _ _ _).mono ?_; rintro e w' ⟨rfl, rfl⟩)
                  go_round
                  case rel => exact ⟨j + 1, by omega, by go_num, HR.out⟩
                  case measure => simp [intOf]; omega
              · have HR := Lib.hid (stepB_good (L := (z.length : Int)) rfl (fun i hi => HGj.out i hi (by omega)))
                go_wp2
                go_round
                case rel =>
                  refine ⟨k + 1, by omega, by go_num, fun i hi hik => ?_⟩
                  by_cases e : i < k
                  · exact HG.out i hi e
                  · obtain rfl : i = k := by omega
                    rw [HE.out]; exact HR.out
                case measure => simp [intOf]; omega
          · have HR := Lib.hid (HS.out (stepB_size h1))
            go_wp2
            go_ret
            exact ⟨retB HR.out.symm, rfl⟩
        · have HR := Lib.hid (mapB_good HD.out HL.out (fun i hi => HG.out i hi (by omega)))
          go_wp2
          go_ret
          exact ⟨retB HR.out.symm, rfl⟩
    · have HR := Lib.hid (mapB_3 (L := L) hn)
      go_enter Try.func42, Try.ntmps42
      go_wp2_with (go_at_call 56; refine (l01In_c _ _ _ _).mono ?_; (first | rw [hD] | rw [hL]); rintro e w' ⟨rfl, rfl⟩)
      go_ret
      exact ⟨retB HR.out.symm, rfl⟩

theorem sIsMap_c : Calls Try.prog 14 #[.int .i64 D, .int .i64 L, .slice a ps.length cap] w fun e w' => e = .returned (.bool (mapB D L ps)) ∧ w = w' := by
  have H := Lib.hid (l07Is_c lo hi D L a cap ps hl hs w hr)
  clear hr
  go_enter Try.func14, Try.ntmps14
  go_wp2_with fail
  refine H.out.mono ?_
  rintro e w' ⟨rfl, rfl⟩
  go_wp2
  go_ret
  exact ⟨rfl, rfl⟩

set_option maxHeartbeats 2000000 in
theorem iIsMap_c : Calls Try.prog 16 #[.int .i64 D, .int .i64 L, .slice a ps.length cap] w fun e w' => e = .returned (.bool (mapB D L ps)) ∧ w = w' := by
  have HT := Lib.hid hr
  clear hr
  cases hD : inB D 1 3 with
  | false =>
    have HR := Lib.hid (mapB_1 (L := L) (ps := ps) hD)
    go_enter Try.func16, Try.ntmps16
    go_wp2_with (go_at_call 44; refine (isBetween_c _ _ _ _).mono ?_; rw [hD]; rintro e w' ⟨rfl, rfl⟩)
    go_ret
    exact ⟨retB HR.out.symm, rfl⟩
  | true =>
    cases hL : inB L 1 3 with
    | false =>
      have HR := Lib.hid (mapB_2 (D := D) (ps := ps) hL)
      go_enter Try.func16, Try.ntmps16
      go_wp2_with (go_at_call 44; refine (isBetween_c _ _ _ _).mono ?_; (first | rw [hD] | rw [hL]); rintro e w' ⟨rfl, rfl⟩)
      go_ret
      exact ⟨retB HR.out.symm, rfl⟩
    | true =>
      by_cases hn : (ps.length : Int) = D
      · subst hn
        have HR := Lib.hid (mapB_rows (ps := ps) hD hL)
        go_enter Try.func16, Try.ntmps16
        go_wp2_with (first | (go_at_call 44; refine (isBetween_c _ _ _ _).mono ?_; (first | rw [hD] | rw [hL]); rintro e w' ⟨rfl, rfl⟩) | (go_at_call 45; refine (areRows_c lo hi L a cap ps hl hs _ HT.out).mono ?_; rw [HR.out]; rintro e w' ⟨rfl, rfl⟩))
        go_ret
        exact ⟨rfl, rfl⟩
      · have HR := Lib.hid (mapB_3 (L := L) hn)
        go_enter Try.func16, Try.ntmps16
        go_wp2_with (go_at_call 44; refine (isBetween_c _ _ _ _).mono ?_; (first | rw [hD] | rw [hL]); rintro e w' ⟨rfl, rfl⟩)
        go_ret
        exact ⟨retB HR.out.symm, rfl⟩
end
end Go.Proofs.Ytkgcbbbmiklgaaa
