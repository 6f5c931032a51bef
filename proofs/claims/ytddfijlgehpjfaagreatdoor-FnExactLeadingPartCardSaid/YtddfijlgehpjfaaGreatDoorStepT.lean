/-
  The contract of the model's series of a step.
  The terms of a step's values are those of the model's series of the step.
-/
import Derived.Test.YtddfijlgehpjfaaGreatDoorStepI
import Derived.Test.YtddfijlgehpjfaaGreatDoorPartOf
import Derived.Test.YtddfijlgehpjfaaGreatDoorPaths
import Derived.Deep.AppendLies
import Derived.Deep.RegionLaw
namespace Go.Proofs.YtddfijlgehpjfaaGreatDoor
open Go.RowKit

/-- the terms of the first k numbers of a step -/
def stepT (zs : List Int) : Nat → List Tm
  | 0 => []
  | k + 1 => stepT zs k ++ (if zs.getD k 0 = 0 then [] else [⟨letW (k : Int), zs.getD k 0, 1⟩])
theorem stepT_len (zs : List Int) : ∀ k, (stepT zs k).length ≤ k
  | 0 => Nat.le_refl _
  | k + 1 => by
    have h := stepT_len zs k
    rw [stepT, List.length_append]
    split <;> simp <;> omega
end Go.Proofs.YtddfijlgehpjfaaGreatDoor

namespace Go.Proofs.YtddfijlgehpjfaaGreatDoor

theorem termsOf_nil_of {f : VF} : ∀ {ws : List ByteArray}, (∀ s ∈ ws, f s = none) → termsOf f ws = []
  | [], _ => rfl
  | s :: ws, h => by
    rw [termsOf_cons', h s (by simp)]
    exact termsOf_nil_of fun t ht => h t (by simp [ht])
theorem stepF_long {x0 x1 x2 : Int} {s : ByteArray} (h : 2 ≤ s.size) : stepF x0 x1 x2 s = none := by
  unfold stepF
  rw [setF_other (fun e => by rw [e, letW_size] at h; omega), setF_other (fun e => by rw [e, letW_size] at h; omega), setF_other (fun e => by rw [e, letW_size] at h; omega)]
  rfl
theorem allW_split {D : Nat} : ∀ {N : Nat}, 1 ≤ N → ∃ r, allW D N = allW D 1 ++ r ∧ ∀ s ∈ r, 2 ≤ s.size
  | 0, h => absurd h (by omega)
  | 1, _ => ⟨[], by simp, fun s hs => by cases hs⟩
  | n + 2, _ => by
    obtain ⟨r, e, hr⟩ := allW_split (D := D) (N := n + 1) (by omega)
    refine ⟨r ++ wordsL D (n + 2), by rw [allW, e, List.append_assoc], fun s hs => ?_⟩
    rcases List.mem_append.1 hs with h | h
    · exact hr s h
    · have := wordsL_size D (n + 2) s h
      omega
def stepV (zs : List Int) : VF := stepF (zs.getD 0 0) (zs.getD 1 0) (zs.getD 2 0)
theorem letW_ne {i j : Nat} (hi : i < 3) (hj : j < 3) (h : i ≠ j) : letW (i : Int) ≠ letW (j : Int) := fun e => by
  have e1 : (UInt8.ofNat (48 + (i : Int)).toNat) = UInt8.ofNat (48 + (j : Int)).toNat := by
    unfold letW at e
    injection e with e
    injection e with e
    injection e with e
  have e2 := congrArg UInt8.toNat e1
  rw [UInt8.toNat_ofNat', UInt8.toNat_ofNat'] at e2
  omega
theorem stepF_empty (x0 x1 x2 : Int) : stepF x0 x1 x2 ByteArray.empty = none := by
  have h : ∀ i : Int, ByteArray.empty ≠ letW i := fun i e => by
    have := congrArg ByteArray.size e
    rw [letW_size] at this
    cases this
  unfold stepF
  rw [setF_other (h 2), setF_other (h 1), setF_other (h 0)]
  rfl
theorem stepF_0 (x0 x1 x2 : Int) : stepF x0 x1 x2 (letW 0) = nzF (x0, 1) := by
  unfold stepF
  rw [setF_other (show letW 0 ≠ letW 2 from letW_ne (i := 0) (j := 2) (by decide) (by decide) (by decide)), setF_other (show letW 0 ≠ letW 1 from letW_ne (i := 0) (j := 1) (by decide) (by decide) (by decide)), setF_same]
theorem stepF_1 (x0 x1 x2 : Int) : stepF x0 x1 x2 (letW 1) = nzF (x1, 1) := by
  unfold stepF
  rw [setF_other (show letW 1 ≠ letW 2 from letW_ne (i := 1) (j := 2) (by decide) (by decide) (by decide)), setF_same]
theorem stepF_2 (x0 x1 x2 : Int) : stepF x0 x1 x2 (letW 2) = nzF (x2, 1) := by
  unfold stepF
  rw [setF_same]
theorem termsOf_nz {f : VF} {s : ByteArray} {x : Int} {ws : List ByteArray} (h : f s = nzF (x, 1)) : termsOf f (s :: ws) = (if x = 0 then [] else [⟨s, x, 1⟩]) ++ termsOf f ws := by
  rw [termsOf_cons', h]
  by_cases h0 : x = 0
  · rw [nzF_0 (show (x, (1 : Int)).1 = 0 from h0), if_pos h0]; rfl
  · rw [nzF_1 (show (x, (1 : Int)).1 ≠ 0 from h0), if_neg h0]; rfl
theorem allW_one (D : Nat) : allW D 1 = ByteArray.empty :: (List.range D).map fun (k : Nat) => letW (k : Int) := by
  have h : wordsL D 1 = (List.range D).map fun (k : Nat) => letW (k : Int) := by
    show nextL D (wordsL D 0) = _
    simp [nextL, wordsL, longer]
  show wordsL D 0 ++ wordsL D 1 = _
  rw [h]
  rfl
/-- the terms of a step's values are the model's -/
theorem step_terms {D N : Nat} (hD : 1 ≤ D ∧ D ≤ 3) (hN : 1 ≤ N) (zs : List Int) : termsOf (stepV zs) (allW D N) = stepT zs D := by
  obtain ⟨r, e, hr⟩ := allW_split (D := D) hN
  rw [e, termsOf_app, termsOf_nil_of (f := stepV zs) (fun s hs => stepF_long (hr s hs)), List.append_nil, allW_one, termsOf_cons', show stepV zs ByteArray.empty = none from stepF_empty _ _ _]
  have hd : D = 1 ∨ D = 2 ∨ D = 3 := by omega
  rcases hd with rfl | rfl | rfl
  · show termsOf (stepV zs) [letW 0] = _
    rw [termsOf_nz (f := stepV zs) (stepF_0 _ _ _)]
    simp [stepT, termsOf]
  · show termsOf (stepV zs) [letW 0, letW 1] = _
    rw [termsOf_nz (f := stepV zs) (stepF_0 _ _ _), termsOf_nz (f := stepV zs) (stepF_1 _ _ _)]
    simp [stepT, termsOf]
  · show termsOf (stepV zs) [letW 0, letW 1, letW 2] = _
    rw [termsOf_nz (f := stepV zs) (stepF_0 _ _ _), termsOf_nz (f := stepV zs) (stepF_1 _ _ _), termsOf_nz (f := stepV zs) (stepF_2 _ _ _)]
    simp [stepT, termsOf]
end Go.Proofs.YtddfijlgehpjfaaGreatDoor
