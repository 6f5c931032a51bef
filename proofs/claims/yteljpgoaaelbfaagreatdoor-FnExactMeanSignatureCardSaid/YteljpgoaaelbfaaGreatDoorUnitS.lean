/-
  Contracts of UnitSeries, of the program and of its model: both return the same series and code.
  The model's UnitSeries.
-/
import Derived.Test.YteljpgoaaelbfaaGreatDoorPrM
import Derived.Test.YteljpgoaaelbfaaGreatDoorLv2
import Derived.Deep.RegionLaw
namespace Go.Proofs.YteljpgoaaelbfaaGreatDoor
open Go.RowKit

set_option maxHeartbeats 1000000 in
theorem wholeFraction_c (x : Int) (w : World) : Calls Tryz.prog 32 #[.int .i64 x] w fun e w' => e = .returned (.agg #[.int .i64 x, .int .i64 1]) ∧ Below w.heap.size w w' := by
  go_enter Tryz.func32, Tryz.ntmps32
  go_wp2
  exact bodyPost_ret (v := .agg #[.int .i64 x, .int .i64 1]) (by simp [results, Tryz.results32, go_sem]) rfl ⟨rfl, by go_grown⟩

/-- the values of the unit -/
def unitF : ByteArray → Option (Int × Int) := setF (fun _ => none) ByteArray.empty (some (1, 1))
def UnitVPost (W : World) (e : Ending) (w' : World) : Prop := ∃ b, e = .returned (.map (some b)) ∧ W.heap.size ≤ b ∧ Below W.heap.size W w' ∧ MapV w' b 1 unitF
set_option maxHeartbeats 1000000 in
theorem unitValues_c (w : World) : Calls Tryz.prog 65 #[] w (UnitVPost w) := by
  have hmm := @run_makeMap Tryz.prog
  go_enter Tryz.func65, Tryz.ntmps65
  go_wp2_with fail
  refine (wholeFraction_c _ _).mono ?_
  rintro e w1 ⟨rfl, hb1⟩
  have hz1 : w.heap.size < w1.heap.size := by have := hb1.size; simp at this; omega
  have HM := Lib.hid ((MapV.made w).below hb1 (by simp))
  have HB := Lib.hid ((below1 w _).trans (hb1.mono (by simp)))
  clear hb1 hmm
  go_wp2_with (refine wpList_putV rfl _ _ _ (.inr rfl) rfl HM.out (by unfold maxLen; omega) ByteArray.empty rfl (by decide) 1 1 rfl ?_)
  intro w2 hM2 hG2
  have HM2 := Lib.hid hM2
  have HB2 := Lib.hid (HB.out.trans (below_of_grown hG2 (fun g h => by cases h; exact Nat.le_refl _) (by omega)))
  clear hM2 hG2
  go_wp2
  go_ret
  exact ⟨w.heap.size, rfl, Nat.le_refl _, HB2.out, HM2.out⟩

theorem allW_head (D : Nat) : ∀ n, ∃ r, allW D n = ByteArray.empty :: r ∧ ∀ s ∈ r, s ≠ ByteArray.empty
  | 0 => ⟨[], rfl, fun s h => by cases h⟩
  | n + 1 => by
    obtain ⟨r, e, h⟩ := allW_head D n
    refine ⟨r ++ wordsL D (n + 1), by rw [allW, e]; rfl, fun s hs => ?_⟩
    rcases List.mem_append.1 hs with hs | hs
    · exact h s hs
    · intro e0
      have := wordsL_size D (n + 1) s hs
      rw [e0] at this
      simp at this
theorem unit_terms (D n : Nat) : termsOf unitF (allW D n) = [⟨ByteArray.empty, 1, 1⟩] := by
  obtain ⟨r, e, h⟩ := allW_head D n
  rw [e]
  unfold termsOf
  rw [List.filterMap_cons]
  have h0 : unitF ByteArray.empty = some (1, 1) := by simp [unitF, setF]
  have h1 : r.filterMap (fun s => (unitF s).map fun p => (⟨s, p.1, p.2⟩ : Tm)) = [] := by
    rw [List.filterMap_eq_nil_iff]
    intro s hs
    have hne := h s hs
    simp [unitF, setF, hne]
  rw [h0, h1]
  rfl
end Go.Proofs.YteljpgoaaelbfaaGreatDoor

namespace Go.Proofs.YteljpgoaaelbfaaGreatDoor
open Go.RowKit

set_option maxHeartbeats 1000000 in
theorem l02One_c (x : Int) (w : World) : Calls Tryz.prog 20 #[.int .i64 x] w fun e w' => e = .returned (.agg #[.int .i64 x, .int .i64 1]) ∧ Below w.heap.size w w' := by
  go_enter Tryz.func20, Tryz.ntmps20
  go_wp2
  exact bodyPost_ret (v := .agg #[.int .i64 x, .int .i64 1]) (by simp [results, Tryz.results20, go_sem]) rfl ⟨rfl, by go_grown⟩

theorem row_new (W : World) (zs : Array Value) (s : ByteArray) (n d : Int) :
    TermsIn (W.alloc (.cells (#[.string s, .int .i64 n, .int .i64 d] ++ zs) 74)) W.heap.size 0 [⟨s, n, d⟩] ∧ Made (W.alloc (.cells (#[.string s, .int .i64 n, .int .i64 d] ++ zs) 74)) W.heap.size 3 := by
  refine ⟨fun i hi => ?_, by simp, fun j hj => ⟨?_, by simp⟩⟩
  · have h0 : i = 0 := by simpa using hi
    subst h0
    refine ⟨?_, ?_, ?_⟩ <;> (rw [World.cell?_alloc_new]; simp only [Nat.zero_add, Nat.zero_mul]; rw [Array.getElem?_append_left (by simp)]; rfl)
  · have h : j = 0 ∨ j = 1 ∨ j = 2 := by omega
    rcases h with rfl | rfl | rfl <;> exact ⟨_, by rw [World.cell?_alloc_new, Array.getElem?_append_left (by simp)]; rfl⟩

/-- where the unit's variable stands behind its append -/
def UCut (B : Nat) (W0 : World) (n : Nat) (L V : Int) (wy : World) : Prop :=
  ∃ gq G : Nat, n < wy.heap.size ∧ Below B W0 wy ∧ wy.cell? ⟨n, 0, none⟩ = some (.int .i64 L) ∧ wy.cell? ⟨n, 1, none⟩ = some (.int .i64 V) ∧ wy.cell? ⟨n, 2, none⟩ = some (.slice (some ⟨gq, 0, none⟩) 1 G) ∧
    NewRow B wy.heap.size wy (some ⟨gq, 0, none⟩) [⟨ByteArray.empty, 1, 1⟩]

set_option maxRecDepth 100000 in
set_option maxHeartbeats 4000000 in
theorem l02Unit_c (L V : Int) (a : Option Addr) (n c : Nat) (w : World) :
    Calls Tryz.prog 21 #[.agg #[.int .i64 L, .int .i64 V, .slice a n c]] w (SerOnly L V [⟨ByteArray.empty, 1, 1⟩] w) := by
  obtain ⟨i0, hi0, hi1, hi2, hi3⟩ := info_parts info_term
  go_enter Tryz.func21, Tryz.ntmps21
  go_wp2_with fail
  refine (l01Empty_c L V _ rfl _).mono ?_
  rintro e w1 ⟨g1, rfl, hO, hb1⟩
  have hz1 : w.heap.size + 1 < w1.heap.size := by have := hb1.size; have := (hO.lt g1 rfl).1; have := (hO.lt g1 rfl).2; simp at *; omega
  have HO := Lib.hid (show OwnT w1 (w.heap.size + 1 + 1) (.slice (some ⟨g1, 0, none⟩) 0 0) [] from by simpa using hO)
  have HB := Lib.hid (show Below (w.heap.size + 1 + 1) _ w1 from by simpa using hb1)
  clear hb1 hO
  go_wp2_with fail
  go_upto_region 2 with fail
  have hO1 := HO.out.alloc (.cells #[.int .i64 L, .int .i64 V, .slice (some ⟨g1, 0, none⟩) 0 0] 26)
  have hg1 := (HO.out.lt g1 rfl).2
  have HO1 := Lib.hid hO1
  have hne1 : (Value.slice (some ⟨g1, 0, none⟩) 0 0).ownBlock ≠ some w1.heap.size := fun e => by have h : g1 = w1.heap.size := (by simpa [Value.ownBlock] using e); omega
  have HNE := Lib.hid hne1
  clear hO1 hne1
  go_cut [11] (fun _ wy => UCut (w.heap.size + 1 + 1) ((w.alloc (.cells #[.int .i64 L, .int .i64 V, .slice a n c] 26)).alloc (.cells #[.int .i64 0, .int .i64 0, .slice none 0 0] 26)) w1.heap.size L V wy)
  case first =>
    go_region_with
      ((first
        | (go_at_call 20; refine (l02One_c _ _).mono ?_; rintro e w5 ⟨rfl, hb0⟩; have hb5 : Below (w1.heap.size + 1) (w1.alloc (.cells #[.int .i64 L, .int .i64 V, .slice (some ⟨g1, 0, none⟩) 0 0] 26)) w5 := ⟨hb0.os, hb0.tape, hb0.output, by simpa using hb0.size, fun j hj => hb0.block j (by simpa using hj)⟩; have hz5 : w1.heap.size < w5.heap.size := (by have := hb5.size; simp at this; omega); have m0 : w5.cell? ⟨w1.heap.size, 0, none⟩ = some (.int .i64 L) := (hb5.cell (p := ⟨w1.heap.size, 0, none⟩) (Nat.lt_succ_self _)).trans (by go_simp); have m1 : w5.cell? ⟨w1.heap.size, 1, none⟩ = some (.int .i64 V) := (hb5.cell (p := ⟨w1.heap.size, 1, none⟩) (Nat.lt_succ_self _)).trans (by go_simp); have m2 : w5.cell? ⟨w1.heap.size, 2, none⟩ = some (.slice (some ⟨g1, 0, none⟩) 0 0) := (hb5.cell (p := ⟨w1.heap.size, 2, none⟩) (Nat.lt_succ_self _)).trans (by go_simp); have mf : w5.frozen? ⟨w1.heap.size, 2, none⟩ = false := (hb5.frozen (p := ⟨w1.heap.size, 2, none⟩) (Nat.lt_succ_self _)).trans (by go_simp); have HO5 := Lib.hid (HO1.out.below hb5 (fun g h => by have := (HO.out.lt g h).2; omega)))
        | (refine step_append_lies _ (by rfl) _ _ _ (by rfl) (w.heap.size + 1 + 1) 74 i0 _ 3 32 Tryz.underlying24 hi0 hi1 hi2 hi3 rfl (by omega) (.slice (some ⟨g1, 0, none⟩) 0 0) 0 [] (by rfl) (by have h := HO5.out; unfold OwnT at h; exact h.alloc _)
            ⟨w5.heap.size, 0, none⟩ 1 1 [.string ByteArray.empty, .int .i64 1, .int .i64 1] (by rfl) (by rfl) (World.news_of_block (cs := #[.string ByteArray.empty, .int .i64 1, .int .i64 1]) (t := 74) (fr := (0, 0)) (heap_alloc_new w5 _)) (by simp [Value.oneCell'])
            (by omega) (by unfold maxLen; omega) (by omega) (by simp; omega) (w5.heap.size + 1) (by simp) ?_; intro gg cg w2 hown1 hgrow hat hlt2)))
    all_goals
      have hn := fun (v : Value) (zs : Array Value) => row_new ((w5.setCell ⟨w1.heap.size, 2, none⟩ v).alloc (.cells #[.string ByteArray.empty, .int .i64 1, .int .i64 1] 74)) zs ByteArray.empty 1 1
      simp only [World.size_alloc, World.size_setCell] at hn
      have HN := Lib.hid hn
      have HB5 := Lib.hid (HB.out.trans (((below1 w1 (.cells #[.int .i64 L, .int .i64 V, .slice (some ⟨g1, 0, none⟩) 0 0] 26)).mono (by omega)).trans (hb5.mono (by omega))))
      clear hn hb0 hb5
      go_wp2_with fail
      go_meet
      refine ⟨w5.heap.size + 1, (Question.appendCap 1 0 74).cut (w5.tape w5.drawn (Question.appendCap 1 0 74)), by simp; omega, Below.drew (((HB5.out.setCell (p := ⟨w1.heap.size, 2, none⟩) (by show _ ≤ w1.heap.size; omega) _).alloc (by simp; omega) _).alloc (by simp; omega) _), by go_simp, by go_simp, by go_simp, .inr ⟨_, rfl, by omega, by simp, (HN.out _ _).2, (HN.out _ _).1⟩⟩
  case rest =>
    obtain ⟨gq, G, hnq, hBy, m0, m1, m2, hNq⟩ := hcut
    obtain ⟨wy, rfl⟩ : ∃ wy : World, wy = wc := ⟨_, rfl⟩
    have bc := bcellB hBy
    have hzy : w.heap.size + 1 < wy.heap.size := by omega
    have r0 : wy.cell? ⟨w.heap.size + 1, 0, none⟩ = some (.int .i64 0) := (bc.1 _ _ (by omega)).trans (by go_simp)
    have r1 : wy.cell? ⟨w.heap.size + 1, 1, none⟩ = some (.int .i64 0) := (bc.1 _ _ (by omega)).trans (by go_simp)
    have r2 : wy.cell? ⟨w.heap.size + 1, 2, none⟩ = some (.slice none 0 0) := (bc.1 _ _ (by omega)).trans (by go_simp)
    have z0 : wy.frozen? ⟨w.heap.size + 1, 0, none⟩ = false := (bc.2 _ _ (by omega)).trans (by go_simp)
    have z1 : wy.frozen? ⟨w.heap.size + 1, 1, none⟩ = false := (bc.2 _ _ (by omega)).trans (by go_simp)
    have z2 : wy.frozen? ⟨w.heap.size + 1, 2, none⟩ = false := (bc.2 _ _ (by omega)).trans (by go_simp)
    have HW := Lib.hid ((below2 w (.cells #[.int .i64 L, .int .i64 V, .slice a n c] 26) (.cells #[.int .i64 0, .int .i64 0, .slice none 0 0] 26)).trans (hBy.mono (by omega)))
    have HNq := Lib.hid hNq
    clear bc hBy hNq
    go_wp2
    refine bodyPost_ret (v := .agg #[.int .i64 L, .int .i64 V, .slice (some ⟨gq, 0, none⟩) 1 G]) (by simp [results, Tryz.results21, go_sem, r0, r1, r2]) rfl ⟨some ⟨gq, 0, none⟩, G, rfl, ?_, ?_⟩
    · have hW := HW.out
      go_grown
    · exact (HNq.out.far3u (n := w.heap.size + 1) (by omega)).mono (by omega) (by simp)

end Go.Proofs.YteljpgoaaelbfaaGreatDoor
