/-
  Reduced words: neighbours that are opposite are left out as the numbers come. Contracts of the model's reduction, and of ReduceWord's program at one word.
-/
import Derived.Test.YtncodnjnndjjaaaGrp
import Derived.Handy
namespace Go.Proofs.Ytncodnjnndjjaaa
open Go.RowKit

/-- one number put behind a reduced word that is told from its end -/
def putR (st : List Int) (x : Int) : List Int := match st with
  | [] => [x]
  | y :: t => if y = -x then t else x :: y :: t
def redR (z : List Int) : List Int := z.foldl putR []
def redL (z : List Int) : List Int := (redR z).reverse
theorem redR_snoc (z : List Int) (x : Int) : redR (z ++ [x]) = putR (redR z) x := by simp [redR]
theorem redR_take {z : List Int} {k : Nat} (h : k < z.length) : redR (z.take (k + 1)) = putR (redR (z.take k)) z[k] := by
  rw [List.take_succ_eq_append_getElem h, redR_snoc]
theorem putR_len (st : List Int) (x : Int) : (putR st x).length ≤ st.length + 1 := by
  unfold putR
  split
  · simp
  · split <;> simp <;> omega
theorem foldR_len : ∀ (z st : List Int), (z.foldl putR st).length ≤ st.length + z.length
  | [], st => by simp
  | x :: r, st => by
    have h1 := foldR_len r (putR st x)
    have h2 := putR_len st x
    simp only [List.foldl_cons, List.length_cons]
    omega
theorem redR_len (z : List Int) : (redR z).length ≤ z.length := by have := foldR_len z []; simpa [redR] using this
theorem redL_len (z : List Int) : (redL z).length ≤ z.length := by unfold redL; rw [List.length_reverse]; exact redR_len z

theorem OwnI.cut {w : World} {base : Nat} {g n c : Nat} {ss : List Int} {z : Int} (h : OwnI w base (.slice (some ⟨g, 0, none⟩) (n + 1) c) (ss ++ [z])) : OwnI w base (.slice (some ⟨g, 0, none⟩) n c) ss := by
  obtain ⟨h1, h2⟩ := h
  rcases h2 with ⟨h3, _⟩ | ⟨g', cap, cur, he, hb, hg, hn, hm, hs, ht⟩
  · cases h3
  · injection he with e1 e2 e3
    cases e1
    subst e3
    refine ⟨by simp [cellsI], .inr ⟨g, c, cur, ?_, hb, hg, ?_, hm, hs, ?_⟩⟩
    · have : n = ss.length := by simp at e2; exact e2
      rw [this]
    · simp at hn; omega
    · have := congrArg (List.take (ss.length * 1)) ht
      rw [List.take_take] at this
      simp [cellsI] at this ⊢
      exact this
/-- the last number of an owned row -/
theorem OwnI.last {w : World} {base : Nat} {a : Option Addr} {l c : Nat} {ss : List Int} {z : Int} (h : OwnI w base (.slice a l c) (ss ++ [z])) :
    ∃ g, a = some ⟨g, 0, none⟩ ∧ l = ss.length + 1 ∧ l ≤ c ∧ base ≤ g ∧ g < w.heap.size ∧ w.cell? ⟨g, ss.length, none⟩ = some (.int .i64 z) := by
  obtain ⟨a', c', he, hle, hN⟩ := h.newI
  injection he with e1 e2 e3
  subst e1 e3
  rcases hN with h0 | ⟨g, rfl, hb, hg, _, hI⟩
  · simp at h0
  · refine ⟨g, rfl, by rw [e2]; simp, by rw [e2]; exact hle, hb, hg, ?_⟩
    have := hI ss.length (by simp)
    rw [Nat.zero_add] at this
    rw [this]
    simp

end Go.Proofs.Ytncodnjnndjjaaa
