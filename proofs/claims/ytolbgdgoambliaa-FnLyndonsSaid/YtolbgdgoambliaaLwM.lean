/-
  What the program's list of Lyndon words holds: lengths, and that its words of n letters are the model's.
-/
import Derived.Test.YtolbgdgoambliaaLynL7
import Derived.Test.YtolbgdgoambliaaLynG
namespace Go.Proofs.Ytolbgdgoambliaa
open Go Go.RowKit

theorem extL_len (n : Nat) : ∀ (k i : Nat) (w : List UInt8), w.length ≤ n → (extL n k i w).length ≤ n
  | 0, _, w, h => h
  | k + 1, i, w, h => by
    rw [extL]
    split
    · exact extL_len n k _ _ (by simp; omega)
    · exact h
theorem raiseL_len {last : UInt8} {w w' : List UInt8} (h : raiseL last w = some w') : w'.length ≤ w.length := by
  unfold raiseL at h
  split at h
  · cases h
  · rename_i c r e
    obtain rfl := Option.some.inj h
    have h1 := (List.dropWhile_sublist (fun c => !decide (c < last)) (l := w.reverse)).length_le
    rw [e] at h1
    simp at h1 ⊢
    exact h1
theorem genL_len {last : UInt8} {n : Nat} : ∀ (f : Nat) (w : List UInt8) (L : List (List UInt8)), w.length ≤ n → genL last n f w = some L → L ≠ [] ∧ L.length ≤ f ∧ ∀ v ∈ L, v.length ≤ n
  | 0, _, _, _, h => by rw [genL] at h; cases h
  | f + 1, w, L, hw, h => by
    rw [genL] at h
    cases hr : raiseL last (extL n n 0 w) with
    | none =>
      rw [hr] at h
      obtain rfl := Option.some.inj h
      refine ⟨by simp, by simp, fun v hv => ?_⟩
      obtain rfl := List.mem_singleton.1 hv
      exact hw
    | some w' =>
      rw [hr] at h
      obtain ⟨L', h1, rfl⟩ := Option.map_eq_some_iff.1 h
      have h2 := genL_len f w' L' (Nat.le_trans (raiseL_len hr) (extL_len n n 0 w hw)) h1
      refine ⟨by simp, by simp; omega, fun v hv => ?_⟩
      rcases List.mem_cons.1 hv with rfl | h
      · exact hw
      · exact h2.2.2 v h
end Go.Proofs.Ytolbgdgoambliaa
