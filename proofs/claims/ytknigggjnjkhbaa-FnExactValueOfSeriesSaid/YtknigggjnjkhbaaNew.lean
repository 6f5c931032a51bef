/-
  newTerms and newSeries of the program: a list, and a series, with copies of terms.
-/
import Derived.Test.YtknigggjnjkhbaaShelf
import Derived.Test.YtknigggjnjkhbaaRes
namespace Go.Proofs.Ytknigggjnjkhbaa
open Go.RowKit

theorem far_three {g n o i : Nat} {u v x : Value} {w' : World} (h : g ≠ n) : (((w'.setCell ⟨g, i, none⟩ u).setCell ⟨g, i + 1, none⟩ v).setCell ⟨g, i + 2, none⟩ x).cell? ⟨n, o, none⟩ = w'.cell? ⟨n, o, none⟩ := by
  rw [World.cell?_setCell_far _ _ _ _ (by show g ≠ n; exact h), World.cell?_setCell_far _ _ _ _ (by show g ≠ n; exact h), World.cell?_setCell_far _ _ _ _ (by show g ≠ n; exact h)]

theorem make_terms4 (n : Nat) (hn : n ≤ 4194304) : ∃ O : Obj, (∀ W : World, (Instr.makeSlice 31 (.int .i64 (n : Int)) (.int .i64 (n : Int))).run Try.prog W = .ok (.slice (some ⟨W.heap.size, 0, none⟩) n n) (W.alloc O)) ∧ ∀ W : World, Made (W.alloc O) W.heap.size (n * 3) := by
  obtain ⟨i, hi, hz, hs, hby⟩ := info_parts info_term
  refine ⟨.cells (madeCells #[.string ByteArray.empty, .int .i64 0, .int .i64 0] (n * 3)) 60, fun W => ?_, fun W => ⟨by simp, fun j hj => ?_⟩⟩
  · have h := run_make (P := Try.prog) W 31 60 i _ Try.underlying31 hi hz .i64 .i64 (n : Int) (n : Int) (by omega) (by omega) (by rw [hby]; omega) (by omega)
    simp only [Int.toNat_natCast, hs] at h
    exact h
  · refine ⟨⟨_, (World.cell?_alloc_new _ _ _ _).trans (Array.getElem?_eq_getElem (by rw [size_madeCells]; exact hj))⟩, ?_⟩
    simp

/-- what a copy of a list of terms comes to -/
def RowPost (ts : List Tm) (W : World) (e : Ending) (w' : World) : Prop :=
  ∃ g, e = .returned (.slice (some ⟨g, 0, none⟩) ts.length ts.length) ∧ Below W.heap.size W w' ∧ W.heap.size ≤ g ∧ Made w' g (ts.length * 3) ∧ TermsIn w' g 0 ts

end Go.Proofs.Ytknigggjnjkhbaa
