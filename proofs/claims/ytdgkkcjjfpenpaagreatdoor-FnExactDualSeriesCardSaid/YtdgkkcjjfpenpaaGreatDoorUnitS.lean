/-
  Contracts of UnitSeries, of the program and of its model: both return the same series and code.
  The model's UnitSeries.
-/
import Derived.Test.YtdgkkcjjfpenpaaGreatDoorPrM
import Derived.Test.YtdgkkcjjfpenpaaGreatDoorLv2
import Derived.Deep.RegionLaw
namespace Go.Proofs.YtdgkkcjjfpenpaaGreatDoor
open Go.RowKit

set_option maxHeartbeats 1000000 in
theorem wholeFraction_c (x : Int) (w : World) : Calls Tryz.prog 67 #[.int .i64 x] w fun e w' => e = .returned (.agg #[.int .i64 x, .int .i64 1]) ∧ Below w.heap.size w w' := by
  go_enter Tryz.func67, Tryz.ntmps67
  go_wp2
  exact bodyPost_ret (v := .agg #[.int .i64 x, .int .i64 1]) (by simp [results, Tryz.results67, go_sem]) rfl ⟨rfl, by go_grown⟩

/-- the values of the unit -/
def unitF : ByteArray → Option (Int × Int) := setF (fun _ => none) ByteArray.empty (some (1, 1))
def UnitVPost (W : World) (e : Ending) (w' : World) : Prop := ∃ b, e = .returned (.map (some b)) ∧ W.heap.size ≤ b ∧ Below W.heap.size W w' ∧ MapV w' b 1 unitF
set_option maxHeartbeats 1000000 in
theorem unitValues_c (w : World) : Calls Tryz.prog 54 #[] w (UnitVPost w) := by
  have hmm := @run_makeMap Tryz.prog
  go_enter Tryz.func54, Tryz.ntmps54
  go_wp2_with fail
  refine (wholeFraction_c _ _).mono ?_
  rintro e w1 ⟨rfl, hb1⟩
  have hz1 : w.heap.size < w1.heap.size := by have := hb1.size; simp at this; omega
  have HM := Lib.hid ((MapV.made w).below hb1 (by simp))
  have HB := Lib.hid ((below1 w _).trans (hb1.mono (by simp)))
  clear hb1 hmm
  go_wp2_with (refine wpList_putV rfl _ _ _ (.inr rfl) rfl HM.out (by unfold maxLen; omega) ByteArray.empty rfl (by decide) 1 1 rfl ?_)
  intro w2 hM2 hG2
  have HM2 := Lib.hid hM2
  have HB2 := Lib.hid (HB.out.trans (below_of_grown hG2 (fun g h => by cases h; exact Nat.le_refl _) (by omega)))
  clear hM2 hG2
  go_wp2
  go_ret
  exact ⟨w.heap.size, rfl, Nat.le_refl _, HB2.out, HM2.out⟩

theorem allW_head (D : Nat) : ∀ n, ∃ r, allW D n = ByteArray.empty :: r ∧ ∀ s ∈ r, s ≠ ByteArray.empty
  | 0 => ⟨[], rfl, fun s h => by cases h⟩
  | n + 1 => by
    obtain ⟨r, e, h⟩ := allW_head D n
    refine ⟨r ++ wordsL D (n + 1), by rw [allW, e]; rfl, fun s hs => ?_⟩
    rcases List.mem_append.1 hs with hs | hs
    · exact h s hs
    · intro e0
      have := wordsL_size D (n + 1) s hs
      rw [e0] at this
      simp at this
theorem unit_terms (D n : Nat) : termsOf unitF (allW D n) = [⟨ByteArray.empty, 1, 1⟩] := by
  obtain ⟨r, e, h⟩ := allW_head D n
  rw [e]
  unfold termsOf
  rw [List.filterMap_cons]
  have h0 : unitF ByteArray.empty = some (1, 1) := by simp [unitF, setF]
  have h1 : r.filterMap (fun s => (unitF s).map fun p => (⟨s, p.1, p.2⟩ : Tm)) = [] := by
    rw [List.filterMap_eq_nil_iff]
    intro s hs
    have hne := h s hs
    simp [unitF, setF, hne]
  rw [h0, h1]
  rfl
set_option maxHeartbeats 1000000 in
theorem iUnit_1 (L V : Int) (w : World) (h : shapeB L V = false) : Calls Tryz.prog 40 #[.int .i64 L, .int .i64 V] w (SerPost 0 0 [] 2 w) := by
  have H := Lib.hid h
  clear h
  go_enter Tryz.func40, Tryz.ntmps40
  go_wp2_with (go_at_call 12; refine (isShape_c _ _ _).mono ?_; rw [H.out]; rintro e w' ⟨rfl, rfl⟩)
  exact bodyPost_ret (v := .tuple #[.agg #[.int .i64 0, .int .i64 0, .slice none 0 0], .int .i64 2]) (by simp [results, Tryz.results40, go_sem]) rfl (SerPost.err 2 rfl (by go_grown))
set_option maxRecDepth 100000 in
set_option maxHeartbeats 4000000 in
theorem iUnit_2 (D N : Nat) (w : World) (h : shapeB D N = true) : Calls Tryz.prog 40 #[.int .i64 D, .int .i64 N] w (SerPost D N [⟨ByteArray.empty, 1, 1⟩] 0 w) := by
  have hs := shape_out h
  have H := Lib.hid h
  have HT := Lib.hid (unit_terms D N)
  clear h
  go_enter Tryz.func40, Tryz.ntmps40
  go_wp2_with (first | (go_at_call 12; refine (isShape_c _ _ _).mono ?_; rw [H.out]; rintro e w' ⟨rfl, rfl⟩) | fail)
  refine (spaceOf_c D N (by omega) (by omega) _).mono ?_
  rintro e w1 ⟨a1, c1, rfl, hb1, hN1⟩
  have hz1 : w.heap.size < w1.heap.size := by have := hb1.size; simp at this; omega
  have HB1 := Lib.hid (show Below (w.heap.size + 1) _ w1 from by simpa using hb1)
  have HN1 := Lib.hid hN1.rowB
  clear hb1 hN1
  go_wp2_with fail
  refine (unitValues_c _).mono ?_
  rintro e w2 ⟨b, rfl, hbl, hb2, hM2⟩
  have hz2 := hb2.size
  have HB2 := Lib.hid (HB1.out.trans (hb2.mono (by omega)))
  have HN2 := Lib.hid (HN1.out.below hb2 (Nat.le_refl _))
  have HM2 := Lib.hid hM2
  have hfew := allW_few (D := D) (by omega) (n := N) (by omega)
  clear hb2 hM2
  go_wp2_with fail
  refine (seriesOf_c D N a1 c1 (allW D N) (by omega) (fun s hs => by have := allW_size D N s hs; omega) b 1 unitF _ (HN2.out.row hz2) HM2.out).mono ?_
  rw [HT.out]
  rintro e w3 ⟨g, rfl, hb3, hg3, hM3, hT3⟩
  have hz3 := hb3.size
  have HB3 := Lib.hid (HB2.out.trans (hb3.mono (by omega)))
  have HN3 := Lib.hid (NewRow.of_to (lo := w2.heap.size) hg3 hM3 hT3)
  have bc := bcellB HB3.out
  have r0 : w3.cell? ⟨w.heap.size, 0, none⟩ = some (.int .i64 0) := (bc.1 _ _ (by omega)).trans (by go_simp)
  have r1 : w3.cell? ⟨w.heap.size, 1, none⟩ = some (.int .i64 0) := (bc.1 _ _ (by omega)).trans (by go_simp)
  have r2 : w3.cell? ⟨w.heap.size, 2, none⟩ = some (.slice none 0 0) := (bc.1 _ _ (by omega)).trans (by go_simp)
  have z0 : w3.frozen? ⟨w.heap.size, 0, none⟩ = false := (bc.2 _ _ (by omega)).trans (by go_simp)
  have z1 : w3.frozen? ⟨w.heap.size, 1, none⟩ = false := (bc.2 _ _ (by omega)).trans (by go_simp)
  have z2 : w3.frozen? ⟨w.heap.size, 2, none⟩ = false := (bc.2 _ _ (by omega)).trans (by go_simp)
  have HW := Lib.hid ((below1 w _).trans (HB3.out.mono (by omega)))
  clear bc hb3 hg3 hM3 hT3
  go_wp2
  refine bodyPost_ret (v := .tuple #[.agg #[.int .i64 D, .int .i64 N, .slice (some ⟨g, 0, none⟩) 1 1], .int .i64 0]) (by simp [results, Tryz.results40, go_sem, r0, r1, r2]) rfl ⟨some ⟨g, 0, none⟩, 1, rfl, ?_, ?_⟩
  · have hW := HW.out
    go_grown
  · exact (HN3.out.far3u (n := w.heap.size) (by omega)).mono (by omega) (by simp)
end Go.Proofs.YtdgkkcjjfpenpaaGreatDoor

namespace Go.Proofs.YtdgkkcjjfpenpaaGreatDoor
open Go.RowKit

theorem row_new (W : World) (zs : Array Value) (s : ByteArray) (n d : Int) :
    TermsIn (W.alloc (.cells (#[.string s, .int .i64 n, .int .i64 d] ++ zs) 46)) W.heap.size 0 [⟨s, n, d⟩] ∧ Made (W.alloc (.cells (#[.string s, .int .i64 n, .int .i64 d] ++ zs) 46)) W.heap.size 3 := by
  refine ⟨fun i hi => ?_, by simp, fun j hj => ⟨?_, by simp⟩⟩
  · have h0 : i = 0 := by simpa using hi
    subst h0
    refine ⟨?_, ?_, ?_⟩ <;> (rw [World.cell?_alloc_new]; simp only [Nat.zero_add, Nat.zero_mul]; rw [Array.getElem?_append_left (by simp)]; rfl)
  · have h : j = 0 ∨ j = 1 ∨ j = 2 := by omega
    rcases h with rfl | rfl | rfl <;> exact ⟨_, by rw [World.cell?_alloc_new, Array.getElem?_append_left (by simp)]; rfl⟩

/-- where the unit's variable stands behind its append -/
def UCut (B : Nat) (W0 : World) (n : Nat) (L V : Int) (wy : World) : Prop :=
  ∃ gq G : Nat, n < wy.heap.size ∧ Below B W0 wy ∧ wy.cell? ⟨n, 0, none⟩ = some (.int .i64 L) ∧ wy.cell? ⟨n, 1, none⟩ = some (.int .i64 V) ∧ wy.cell? ⟨n, 2, none⟩ = some (.slice (some ⟨gq, 0, none⟩) 1 G) ∧
    NewRow B wy.heap.size wy (some ⟨gq, 0, none⟩) [⟨ByteArray.empty, 1, 1⟩]

end Go.Proofs.YtdgkkcjjfpenpaaGreatDoor
