/-
  Group words: what both the program and its model take for one. Contracts of IsGroupWord, of the program and of its model: both return the same bool.
-/
import Derived.Test.YtncodnjnndjjaaaIntC
import Derived.BigQuiet
namespace Go.Proofs.Ytncodnjnndjjaaa
open Go.RowKit

theorem retD {a b : Bool} (h : a = b) : Ending.returned (.bool a) = .returned (.bool b) := by rw [h]
theorem allD_no {α : Type} {f : α → Bool} {l : List α} (i : Nat) (hi : i < l.length) (h : f l[i] = false) : l.all f = false := by
  cases hp : l.all f with
  | false => rfl
  | true =>
    have := List.all_eq_true.1 hp _ (List.getElem_mem hi)
    rw [h] at this; cases this
theorem allD_yes {α : Type} {f : α → Bool} {l : List α} (h : ∀ i (hi : i < l.length), f l[i] = true) : l.all f = true := List.all_eq_true.2 fun x hx => by
  obtain ⟨i, hi, rfl⟩ := List.mem_iff_getElem.1 hx
  exact h i hi
def numsD (d : Int) (z : List Int) : Bool := z.all fun x => inB x (-d) d
def nonz (z : List Int) : Bool := z.all fun x => decide (x ≠ 0)
def gltB (d : Int) (x : Int) : Bool := decide (x ≠ 0) && inB x (-d) d
def grpB (d : Int) (z : List Int) : Bool := inB d 1 3 && (decide (z.length ≤ 12) && z.all (gltB d))
theorem grpB_d {d : Int} {z : List Int} (h : inB d 1 3 = false) : grpB d z = false := by simp [grpB, h]
theorem grpB_long {d : Int} {z : List Int} (h : ¬ z.length ≤ 12) : grpB d z = false := by simp [grpB, h]
theorem grpB_no {d : Int} {z : List Int} (i : Nat) (hi : i < z.length) (h : gltB d z[i] = false) : grpB d z = false := by simp [grpB, allD_no i hi h]
theorem grpB_yes {d : Int} {z : List Int} (h1 : inB d 1 3 = true) (h2 : z.length ≤ 12) (h : ∀ i (hi : i < z.length), gltB d z[i] = true) : grpB d z = true := by simp [grpB, h1, h2, allD_yes h]
theorem grpB_nums {d : Int} {z : List Int} (h : numsD d z = false) : grpB d z = false := by
  cases hp : z.all (gltB d) with
  | false => simp [grpB, hp]
  | true =>
    have : numsD d z = true := List.all_eq_true.2 fun x hx => by
      have h3 := List.all_eq_true.1 hp x hx
      unfold gltB at h3
      simp only [Bool.and_eq_true] at h3
      exact h3.2
    rw [h] at this; cases this
theorem grpB_zero {d : Int} {z : List Int} (h : nonz z = false) : grpB d z = false := by
  cases hp : z.all (gltB d) with
  | false => simp [grpB, hp]
  | true =>
    have : nonz z = true := List.all_eq_true.2 fun x hx => by
      have h3 := List.all_eq_true.1 hp x hx
      unfold gltB at h3
      simp only [Bool.and_eq_true] at h3
      exact h3.1
    rw [h] at this; cases this
theorem grpB_good {d : Int} {z : List Int} (h1 : inB d 1 3 = true) (h2 : z.length ≤ 12) (h3 : numsD d z = true) (h4 : nonz z = true) : grpB d z = true :=
  grpB_yes h1 h2 fun i hi => by
    have h5 := List.all_eq_true.1 h3 _ (List.getElem_mem hi)
    have h6 := List.all_eq_true.1 h4 _ (List.getElem_mem hi)
    unfold gltB
    rw [h5, h6]; rfl
/-- the numbers of a group word: at most three, none of them nought -/
structure GoodD (d : Int) (z : List Int) : Prop where
  d1 : 1 ≤ d
  d3 : d ≤ 3
  len : z.length ≤ 12
  lo : ∀ x ∈ z, -d ≤ x
  hi : ∀ x ∈ z, x ≤ d
  ne : ∀ x ∈ z, x ≠ 0
theorem grpB_true {d : Int} {z : List Int} (h : grpB d z = true) : GoodD d z := by
  unfold grpB at h
  simp only [Bool.and_eq_true, decide_eq_true_eq, List.all_eq_true] at h
  obtain ⟨h1, h2, h3⟩ := h
  have h4 := inB_true h1
  have h5 : ∀ x ∈ z, x ≠ 0 ∧ -d ≤ x ∧ x ≤ d := fun x hx => by
    have h6 := h3 x hx
    unfold gltB at h6
    simp only [Bool.and_eq_true, decide_eq_true_eq] at h6
    exact ⟨h6.1, inB_true h6.2⟩
  exact ⟨h4.1, h4.2, h2, fun x hx => (h5 x hx).2.1, fun x hx => (h5 x hx).2.2, fun x hx => (h5 x hx).1⟩

section
variable (lo hi : Nat) (d : Int) (a : Option Addr) (cap : Nat) (z : List Int) (hl : z.length ≤ 1048576) (w : World) (hr : IRow lo hi w a z)
include hl hr

theorem areAtMostD_c (hd : 1 ≤ d ∧ d ≤ 3) :
    Calls Try.prog 61 #[.slice a z.length cap, .int .i64 d] w fun e w' => e = .returned (.bool (numsD d z)) ∧ w = w' := by
  have HI := Lib.hid hr
  clear hr
  go_enter Try.func61, Try.ntmps61
  go_wp2
  go_loop [9] (fun vj => ∃ j : Nat, j ≤ z.length ∧ vj = .int .i64 j ∧ ∀ i (h : i < z.length), i < j → inB z[i] (-d) d = true) (fun vj => z.length - (intOf vj).toNat)
  case atStart => exact ⟨0, Nat.zero_le _, rfl, fun i _ h => absurd h (Nat.not_lt_zero _)⟩
  case round =>
    obtain ⟨j, hj, rfl, hg⟩ := hrel
    have HGj := Lib.hid hg
    clear hg
    by_cases hltj : j < z.length
    · rcases HI.out with h | ⟨b', o', rfl, _, _, hI'⟩
      · rw [h] at hltj; simp at hltj
      have c1 := hI' j hltj
      have HN := Lib.hid (fun h => (allD_no j hltj h : numsD d z = false))
      have HY := Lib.hid (fun (h : inB z[j] (-d) d = true) i (hi : i < z.length) (hij : i < j + 1) => show inB z[i] (-d) d = true from by
        by_cases e : i < j
        · exact HGj.out i hi e
        · obtain rfl : i = j := by omega
          exact h)
      obtain ⟨x, hx⟩ : ∃ x, z[j] = x := ⟨_, rfl⟩
      rw [hx] at c1 HN HY
      clear hx hI'
      cases hin : inB x (-d) d with
      | false =>
        have HR := Lib.hid (HN.out hin)
        go_wp2_with (go_at_call 75; refine (isBetween_c _ _ _ _).mono ?_; rw [hin]; rintro e w' ⟨rfl, rfl⟩)
        go_ret
        exact ⟨retD HR.out.symm, rfl⟩
      | true =>
        have HR := Lib.hid (HY.out hin)
        go_wp2_with (go_at_call 75; refine (isBetween_c _ _ _ _).mono ?_; rw [hin]; rintro e w' ⟨rfl, rfl⟩)
        go_round
        case rel => exact ⟨j + 1, by omega, by go_num, HR.out⟩
        case measure => simp [intOf]; omega
    · have HR := Lib.hid (show numsD d z = true from allD_yes (fun i hi => HGj.out i hi (by omega)))
      go_wp2
      go_ret
      exact ⟨retD HR.out.symm, rfl⟩

end
end Go.Proofs.Ytncodnjnndjjaaa
