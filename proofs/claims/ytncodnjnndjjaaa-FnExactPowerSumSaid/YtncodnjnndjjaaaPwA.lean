/-
  Power sums: compositions, powers, and a sum within the limit. Contracts of the small functions, of the program and of the model.
-/
import Derived.Test.YtncodnjnndjjaaaLst
namespace Go.Proofs.Ytncodnjnndjjaaa
open Go.RowKit

def partsB (m : Int) (p : List Int) : Bool := decide ((p.length : Int) ≤ m) && p.all fun x => inB x 1 5
theorem partsB_no {m : Int} {p : List Int} (h : (p.all fun x => inB x 1 5) = false) : partsB m p = false := by simp [partsB, h]
theorem partsB_long {m : Int} {p : List Int} (h : ¬ (p.length : Int) ≤ m) : partsB m p = false := by simp [partsB, h]
theorem partsB_yes {m : Int} {p : List Int} (h1 : (p.length : Int) ≤ m) (h2 : (p.all fun x => inB x 1 5) = true) : partsB m p = true := by simp [partsB, h1, h2]
theorem partsB_true {m : Int} {p : List Int} (h : partsB m p = true) : (p.length : Int) ≤ m ∧ ∀ x ∈ p, 1 ≤ x ∧ x ≤ 5 := by
  unfold partsB at h
  simp only [Bool.and_eq_true, decide_eq_true_eq] at h
  exact ⟨h.1, fun x hx => inB_true (List.all_eq_true.1 h.2 x hx)⟩

theorem isNoPart_c (x : Int) (w : World) : Calls Try.prog 63 #[.int .i64 x] w fun e w' => e = .returned (.bool (!(inB x 1 5))) ∧ w = w' := by
  go_enter Try.func63, Try.ntmps63
  go_wp2_with (go_at_call 75; refine (isBetween_c _ _ _ _).mono ?_; rintro e w' ⟨rfl, rfl⟩)
  go_ret
  exact ⟨rfl, rfl⟩

section
variable (lo hi : Nat) (a : Option Addr) (cap : Nat) (z : List Int) (hl : z.length ≤ 1048576) (w : World) (hr : IRow lo hi w a z)
include hl hr
set_option maxHeartbeats 1000000 in
theorem l10Parts_c (m : Int) : Calls Try.prog 41 #[.slice a z.length cap, .int .i64 m] w fun e w' => e = .returned (.bool (partsB m z)) ∧ w = w' := by
  have HT := Lib.hid hr
  clear hr
  go_enter Try.func41, Try.ntmps41
  go_wp2
  go_loop [5] (fun vi => ∃ k : Nat, k ≤ z.length ∧ vi = .int .i64 k ∧ ∀ i (h : i < z.length), i < k → inB z[i] 1 5 = true) (fun vi => z.length - (intOf vi).toNat)
  case atStart => exact ⟨0, Nat.zero_le _, rfl, fun i _ h => absurd h (Nat.not_lt_zero _)⟩
  case round =>
    obtain ⟨k, hk, rfl, hg⟩ := hrel
    have HG := Lib.hid hg
    clear hg
    by_cases hlt : k < z.length
    · rcases HT.out with h | ⟨b', o', rfl, _, _, hI'⟩
      · rw [h] at hlt; simp at hlt
      have c1 := hI' k hlt
      have HN := Lib.hid (fun h => (partsB_no (m := m) (allD_no k hlt h : (z.all fun x => inB x 1 5) = false)))
      have HY := Lib.hid (fun (h : inB z[k] 1 5 = true) i (hi : i < z.length) (hij : i < k + 1) => show inB z[i] 1 5 = true from by
        by_cases e : i < k
        · exact HG.out i hi e
        · obtain rfl : i = k := by omega
          exact h)
      obtain ⟨x, hx⟩ : ∃ x, z[k] = x := ⟨_, rfl⟩
      rw [hx] at c1 HN HY
      clear hx hI'
      cases hin : inB x 1 5 with
      | false =>
        have HR := Lib.hid (HN.out hin)
        go_wp2_with (go_at_call 59; refine (l01In_c _ _ _ _).mono ?_; rw [hin]; rintro e w' ⟨rfl, rfl⟩)
        go_ret
        exact ⟨retD HR.out.symm, rfl⟩
      | true =>
        have HR := Lib.hid (HY.out hin)
        go_wp2_with (go_at_call 59; refine (l01In_c _ _ _ _).mono ?_; rw [hin]; rintro e w' ⟨rfl, rfl⟩)
        go_round
        case rel => exact ⟨k + 1, by omega, by go_num, HR.out⟩
        case measure => simp [intOf]; omega
    · have HA := Lib.hid (show (z.all fun x => inB x 1 5) = true from allD_yes (fun i hi => HG.out i hi (by omega)))
      by_cases hml : (z.length : Int) ≤ m
      · have HR := Lib.hid (partsB_yes hml HA.out)
        go_wp2
        go_ret
        exact ⟨retD (HR.out.trans (by simp)).symm, rfl⟩
      · have HR := Lib.hid (partsB_long hml)
        go_wp2
        go_ret
        exact ⟨retD (HR.out.trans (by simp)).symm, rfl⟩

/-- what the search for a number that is no part comes to -/
def IdxP (z : List Int) (W : World) (e : Ending) (w' : World) : Prop := W = w' ∧ ((e = .returned (.int .i64 (-1)) ∧ (z.all fun x => inB x 1 5) = true) ∨ ∃ n : Nat, e = .returned (.int .i64 n) ∧ (z.all fun x => inB x 1 5) = false)
set_option maxHeartbeats 1000000 in
theorem indexNoPart_c : Calls Try.prog 80 #[.slice a z.length cap, .func (.func 63) #[] #[]] w (IdxP z w) := by
  have HT := Lib.hid hr
  clear hr
  go_enter Try.func80, Try.ntmps80
  go_wp2
  go_loop [8] (fun vi => ∃ k : Nat, k ≤ z.length ∧ vi = .int .i64 k ∧ ∀ i (h : i < z.length), i < k → inB z[i] 1 5 = true) (fun vi => z.length - (intOf vi).toNat)
  case atStart => exact ⟨0, Nat.zero_le _, rfl, fun i _ h => absurd h (Nat.not_lt_zero _)⟩
  case round =>
    obtain ⟨k, hk, rfl, hg⟩ := hrel
    have HG := Lib.hid hg
    clear hg
    by_cases hlt : k < z.length
    · rcases HT.out with h | ⟨b', o', rfl, _, _, hI'⟩
      · rw [h] at hlt; simp at hlt
      have c1 := hI' k hlt
      have HN := Lib.hid (fun h => (allD_no k hlt h : (z.all fun x => inB x 1 5) = false))
      have HY := Lib.hid (fun (h : inB z[k] 1 5 = true) i (hi : i < z.length) (hij : i < k + 1) => show inB z[i] 1 5 = true from by
        by_cases e : i < k
        · exact HG.out i hi e
        · obtain rfl : i = k := by omega
          exact h)
      obtain ⟨x, hx⟩ : ∃ x, z[k] = x := ⟨_, rfl⟩
      rw [hx] at c1 HN HY
      clear hx hI'
      have e0 : (0 : Int) ≤ (k : Int) := by omega
      have e1 : (k : Int) < (z.length : Int) := by omega
      cases hin : inB x 1 5 with
      | false =>
        have HR := Lib.hid (HN.out hin)
        go_wp2_with (go_at_call 63; refine (isNoPart_c _ _).mono ?_; rw [hin]; rintro e w' ⟨rfl, rfl⟩)
        go_ret
        exact ⟨rfl, .inr ⟨k, rfl, HR.out⟩⟩
      | true =>
        have HR := Lib.hid (HY.out hin)
        go_wp2_with (go_at_call 63; refine (isNoPart_c _ _).mono ?_; rw [hin]; rintro e w' ⟨rfl, rfl⟩)
        go_round
        case rel => exact ⟨k + 1, by omega, by go_num, HR.out⟩
        case measure => simp [intOf]; omega
    · have HA := Lib.hid (show (z.all fun x => inB x 1 5) = true from allD_yes (fun i hi => HG.out i hi (by omega)))
      go_wp2
      go_ret
      exact ⟨rfl, .inl ⟨rfl, HA.out⟩⟩
theorem containsNoPart_c : Calls Try.prog 62 #[.slice a z.length cap, .func (.func 63) #[] #[]] w fun e w' => e = .returned (.bool (!(z.all fun x => inB x 1 5))) ∧ w = w' := by
  have HX := Lib.hid (indexNoPart_c lo hi a cap z hl w hr)
  clear hr
  go_enter Try.func62, Try.ntmps62
  go_wp2_with fail
  refine HX.out.mono ?_
  rintro e w' ⟨rfl, ⟨rfl, h⟩ | ⟨n, rfl, h⟩⟩
  · have H := Lib.hid h
    clear h
    go_wp2
    go_ret
    exact ⟨by rw [H.out]; rfl, rfl⟩
  · have H := Lib.hid h
    clear h
    have hn : (0 : Int) ≤ (n : Int) := by omega
    go_wp2
    go_ret
    exact ⟨by rw [H.out]; simp, rfl⟩
theorem isComposition_c (m : Int) : Calls Try.prog 43 #[.slice a z.length cap, .int .i64 m] w fun e w' => e = .returned (.bool (partsB m z)) ∧ w = w' := by
  have HX := Lib.hid (containsNoPart_c lo hi a cap z hl w hr)
  clear hr
  go_enter Try.func43, Try.ntmps43
  by_cases hm : (z.length : Int) ≤ m
  · cases hp : (z.all fun x => inB x 1 5) with
    | true =>
      have H := Lib.hid (partsB_yes hm hp)
      rw [hp] at HX
      clear hp
      go_wp2_with (first | (go_at_call 62; refine HX.out.mono ?_; rintro e w' ⟨rfl, rfl⟩))
      go_ret
      exact ⟨retD (H.out.trans (by simp)).symm, rfl⟩
    | false =>
      have H := Lib.hid (partsB_no (m := m) hp)
      rw [hp] at HX
      clear hp
      go_wp2_with (first | (go_at_call 62; refine HX.out.mono ?_; rintro e w' ⟨rfl, rfl⟩))
      go_ret
      exact ⟨retD (H.out.trans (by simp)).symm, rfl⟩
  · have H := Lib.hid (partsB_long hm)
    go_wp2_with (first | (go_at_call 62; refine HX.out.mono ?_; rintro e w' ⟨rfl, rfl⟩))
    go_ret
    exact ⟨retD (H.out.trans (by simp)).symm, rfl⟩
end
end Go.Proofs.Ytncodnjnndjjaaa
