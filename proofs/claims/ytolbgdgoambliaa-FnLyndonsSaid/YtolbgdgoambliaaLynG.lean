/-
  Single steps of the program's list of Lyndon words, as its two labels take them.
-/
import Derived.Test.YtolbgdgoambliaaLynL
import Derived.Test.YtolbgdgoambliaaByA
import Derived.Test.YtolbgdgoambliaaMapV
namespace Go.Proofs.Ytolbgdgoambliaa
open Go Go.RowKit

theorem raiseL_nil (last : UInt8) : raiseL last [] = none := rfl
theorem raiseL_snoc (last : UInt8) (w : List UInt8) (c : UInt8) : raiseL last (w ++ [c]) = if c < last then some (w ++ [c + 1]) else raiseL last w := by
  unfold raiseL
  rw [List.reverse_append]
  simp only [List.reverse_cons, List.reverse_nil, List.nil_append, List.singleton_append, List.dropWhile_cons]
  by_cases h : c < last <;> simp [h]
theorem extL_step {n k i : Nat} {w : List UInt8} (h : w.length < n) : extL n (k + 1) i w = extL n k (i + 1) (w ++ [w.getD i 0]) := by rw [extL, if_pos h]
theorem extL_end {n i : Nat} {w : List UInt8} (h : ¬ w.length < n) : ∀ k, extL n k i w = w
  | 0 => rfl
  | k + 1 => by rw [extL, if_neg h]
/-- the bytes of a word, as the memory holds them -/
def bysL (w : List UInt8) : List Int := w.map fun c => (c.toNat : Int)
theorem bysL_length (w : List UInt8) : (bysL w).length = w.length := by simp [bysL]
theorem bysL_append (v w : List UInt8) : bysL (v ++ w) = bysL v ++ bysL w := by simp [bysL]
/-- what the label 'take' has before it -/
def TakeL (last : UInt8) (n f : Nat) (w : List UInt8) (r : List (List UInt8)) : Prop := genL last n f w = some r
/-- what the label 'raise' has before it -/
def RaiseL (last : UInt8) (n f : Nat) (w : List UInt8) (r : List (List UInt8)) : Prop := (match raiseL last w with | none => some [] | some w' => genL last n f w') = some r
theorem TakeL.next {last : UInt8} {n f : Nat} {w : List UInt8} {r : List (List UInt8)} (h : TakeL last n f w r) : ∃ f' r', f = f' + 1 ∧ r = w :: r' ∧ RaiseL last n f' (extL n n 0 w) r' := by
  unfold TakeL at h
  cases f with
  | zero => rw [genL] at h; cases h
  | succ f =>
    rw [genL] at h
    unfold RaiseL
    cases hr : raiseL last (extL n n 0 w) with
    | none => rw [hr] at h; exact ⟨f, [], rfl, (Option.some.inj h).symm, rfl⟩
    | some w' =>
      rw [hr] at h
      obtain ⟨r', h1, h2⟩ := Option.map_eq_some_iff.1 h
      exact ⟨f, r', rfl, h2.symm, h1⟩
theorem RaiseL.nil {last : UInt8} {n f : Nat} {r : List (List UInt8)} (h : RaiseL last n f [] r) : r = [] := (Option.some.inj h).symm
theorem RaiseL.up {last : UInt8} {n f : Nat} {w : List UInt8} {c : UInt8} {r : List (List UInt8)} (h : RaiseL last n f (w ++ [c]) r) (hc : c < last) : TakeL last n f (w ++ [c + 1]) r := by
  unfold RaiseL at h
  rw [raiseL_snoc, if_pos hc] at h
  exact h
theorem RaiseL.down {last : UInt8} {n f : Nat} {w : List UInt8} {c : UInt8} {r : List (List UInt8)} (h : RaiseL last n f (w ++ [c]) r) (hc : ¬ c < last) : RaiseL last n f w r := by
  unfold RaiseL at h
  rw [raiseL_snoc, if_neg hc] at h
  exact h
/-- a shorter slice of the same row -/
theorem OwnY.cut {w : World} {base : Nat} {g n c : Nat} {ss : List Int} {z : Int} (h : OwnY w base (.slice (some ⟨g, 0, none⟩) (n + 1) c) (ss ++ [z])) : OwnY w base (.slice (some ⟨g, 0, none⟩) n c) ss := by
  obtain ⟨h1, h2⟩ := h
  rcases h2 with ⟨h3, _⟩ | ⟨g', cap, cur, he, hb, hg, hn, hm, hs, ht⟩
  · cases h3
  · injection he with e1 e2 e3
    cases e1
    subst e3
    refine ⟨by simp [cellsY], .inr ⟨g, c, cur, ?_, hb, hg, ?_, hm, hs, ?_⟩⟩
    · have : n = ss.length := by simp at e2; exact e2
      rw [this]
    · simp at hn; omega
    · have := congrArg (List.take (ss.length * 1)) ht
      rw [List.take_take] at this
      simp [cellsY] at this ⊢
      exact this
/-- the last byte of the row stored anew -/
theorem OwnY.put {w : World} {base : Nat} {g n c : Nat} {ss : List Int} {z : Int} (h : OwnY w base (.slice (some ⟨g, 0, none⟩) (n + 1) c) (ss ++ [z])) (hn : n = ss.length) (y : Int) : OwnY (w.setCell ⟨g, n, none⟩ (.int .u8 y)) base (.slice (some ⟨g, 0, none⟩) (n + 1) c) (ss ++ [y]) := by
  subst hn
  have el : (ss ++ [z]).length = ss.length + 1 := by simp
  have el' : (ss ++ [y]).length = ss.length + 1 := by simp
  unfold OwnY at h ⊢
  rw [el] at h
  rw [el']
  have h2 := (World.ownsRow.stored h ss.length (.int .u8 y)).1
  have e : (cellsY (ss ++ [z])).set ss.length (.int .u8 y) = cellsY (ss ++ [y]) := by
    have e0 : ss.length = (ss.map (Value.int .u8)).length := by simp
    unfold cellsY
    rw [List.map_append, List.map_append, e0, List.set_append_right _ _ (Nat.le_refl _)]
    simp
  rw [e] at h2
  exact h2
end Go.Proofs.Ytolbgdgoambliaa
