/-
  Contracts of UnitSeries, of the program and of its model: both return the same series and code.
  The model's UnitSeries.
-/
import Derived.Test.YtknigggjnjkhbaaPrM
import Derived.Test.YtknigggjnjkhbaaLv2
import Derived.Deep.RegionLaw
namespace Go.Proofs.Ytknigggjnjkhbaa
open Go.RowKit

set_option maxHeartbeats 1000000 in
theorem wholeFraction_c (x : Int) (w : World) : Calls Try.prog 31 #[.int .i64 x] w fun e w' => e = .returned (.agg #[.int .i64 x, .int .i64 1]) ∧ Below w.heap.size w w' := by
  go_enter Try.func31, Try.ntmps31
  go_wp2
  exact bodyPost_ret (v := .agg #[.int .i64 x, .int .i64 1]) (by simp [results, Try.results31, go_sem]) rfl ⟨rfl, by go_grown⟩

/-- the values of the unit -/
def unitF : ByteArray → Option (Int × Int) := setF (fun _ => none) ByteArray.empty (some (1, 1))
def UnitVPost (W : World) (e : Ending) (w' : World) : Prop := ∃ b, e = .returned (.map (some b)) ∧ W.heap.size ≤ b ∧ Below W.heap.size W w' ∧ MapV w' b 1 unitF
theorem allW_head (D : Nat) : ∀ n, ∃ r, allW D n = ByteArray.empty :: r ∧ ∀ s ∈ r, s ≠ ByteArray.empty
  | 0 => ⟨[], rfl, fun s h => by cases h⟩
  | n + 1 => by
    obtain ⟨r, e, h⟩ := allW_head D n
    refine ⟨r ++ wordsL D (n + 1), by rw [allW, e]; rfl, fun s hs => ?_⟩
    rcases List.mem_append.1 hs with hs | hs
    · exact h s hs
    · intro e0
      have := wordsL_size D (n + 1) s hs
      rw [e0] at this
      simp at this
theorem unit_terms (D n : Nat) : termsOf unitF (allW D n) = [⟨ByteArray.empty, 1, 1⟩] := by
  obtain ⟨r, e, h⟩ := allW_head D n
  rw [e]
  unfold termsOf
  rw [List.filterMap_cons]
  have h0 : unitF ByteArray.empty = some (1, 1) := by simp [unitF, setF]
  have h1 : r.filterMap (fun s => (unitF s).map fun p => (⟨s, p.1, p.2⟩ : Tm)) = [] := by
    rw [List.filterMap_eq_nil_iff]
    intro s hs
    have hne := h s hs
    simp [unitF, setF, hne]
  rw [h0, h1]
  rfl
end Go.Proofs.Ytknigggjnjkhbaa

namespace Go.Proofs.Ytknigggjnjkhbaa
open Go.RowKit

set_option maxHeartbeats 1000000 in
theorem l02One_c (x : Int) (w : World) : Calls Try.prog 52 #[.int .i64 x] w fun e w' => e = .returned (.agg #[.int .i64 x, .int .i64 1]) ∧ Below w.heap.size w w' := by
  go_enter Try.func52, Try.ntmps52
  go_wp2
  exact bodyPost_ret (v := .agg #[.int .i64 x, .int .i64 1]) (by simp [results, Try.results52, go_sem]) rfl ⟨rfl, by go_grown⟩

theorem row_new (W : World) (zs : Array Value) (s : ByteArray) (n d : Int) :
    TermsIn (W.alloc (.cells (#[.string s, .int .i64 n, .int .i64 d] ++ zs) 60)) W.heap.size 0 [⟨s, n, d⟩] ∧ Made (W.alloc (.cells (#[.string s, .int .i64 n, .int .i64 d] ++ zs) 60)) W.heap.size 3 := by
  refine ⟨fun i hi => ?_, by simp, fun j hj => ⟨?_, by simp⟩⟩
  · have h0 : i = 0 := by simpa using hi
    subst h0
    refine ⟨?_, ?_, ?_⟩ <;> (rw [World.cell?_alloc_new]; simp only [Nat.zero_add, Nat.zero_mul]; rw [Array.getElem?_append_left (by simp)]; rfl)
  · have h : j = 0 ∨ j = 1 ∨ j = 2 := by omega
    rcases h with rfl | rfl | rfl <;> exact ⟨_, by rw [World.cell?_alloc_new, Array.getElem?_append_left (by simp)]; rfl⟩

/-- where the unit's variable stands behind its append -/
def UCut (B : Nat) (W0 : World) (n : Nat) (L V : Int) (wy : World) : Prop :=
  ∃ gq G : Nat, n < wy.heap.size ∧ Below B W0 wy ∧ wy.cell? ⟨n, 0, none⟩ = some (.int .i64 L) ∧ wy.cell? ⟨n, 1, none⟩ = some (.int .i64 V) ∧ wy.cell? ⟨n, 2, none⟩ = some (.slice (some ⟨gq, 0, none⟩) 1 G) ∧
    NewRow B wy.heap.size wy (some ⟨gq, 0, none⟩) [⟨ByteArray.empty, 1, 1⟩]

end Go.Proofs.Ytknigggjnjkhbaa
