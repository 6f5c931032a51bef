/-
  The contract of the program's TruncateSeries where it returns a series.
-/
import Derived.Test.YtjciadbmpkkgdaaTrunc
namespace Go.Proofs.Ytjciadbmpkkgdaa
open Go.RowKit

section
variable (L V m : Int) (g : Nat) (ts : List Tm) (w : World)
set_option maxRecDepth 100000 in
set_option maxHeartbeats 8000000 in
theorem iTrunc_3 (h1 : serB L V ts = true) (h2 : inB m 1 V = true) (hl : ts.length ≤ 1048576) (hs : ∀ i (h : i < ts.length), (ts[i]).s.size ≤ maxLen) (hb : g < w.heap.size) (ht : TermsIn w g 0 ts) :
    Calls Try.prog 25 #[.agg #[.int .i64 L, .int .i64 V, .slice (some ⟨g, 0, none⟩) ts.length ts.length], .int .i64 m] w (SerPost L m (truncL m ts) 0 w) := by
  have HT := Lib.hid ht
  have HS := Lib.hid hs
  clear ht hs
  go_enter Try.func25, Try.ntmps25
  go_wp2_with fail
  refine (iIsSeries_c L V g 0 _ ts hl HS.out _ (by simp; omega) (HT.out.below (below2 w _ _) hb)).mono ?_
  rintro e w1 ⟨rfl, hb1⟩
  have hB := hb1
  simp only [World.size_alloc] at hB
  obtain ⟨hc, hf⟩ := bcellB hB
  have x0 : w1.cell? ⟨w.heap.size, 0, none⟩ = some (.int .i64 L) := (hc _ _ (by omega)).trans (by go_simp)
  have x1 : w1.cell? ⟨w.heap.size, 1, none⟩ = some (.int .i64 V) := (hc _ _ (by omega)).trans (by go_simp)
  have x2 : w1.cell? ⟨w.heap.size, 2, none⟩ = some (.slice (some ⟨g, 0, none⟩) ts.length ts.length) := (hc _ _ (by omega)).trans (by go_simp)
  have hW : Below w.heap.size w w1 := (below2 w _ _).trans (hb1.mono (by simp; omega))
  have hz := hB.size
  simp only [World.size_alloc] at hz
  have HT1 := Lib.hid (HT.out.below hW hb)
  have HB := Lib.hid hB
  clear hb1 hB hc hf
  rw [h1]
  have HA := Lib.hid (asc_of_ser h1)
  have HSm := Lib.hid (ser_small h1)
  have h5 := inB_true h2
  have h6 : V ≤ 5 := by have := shape_out (by unfold serB at h1; rw [Bool.and_eq_true] at h1; exact h1.1); omega
  have hne : w.heap.size + 1 ≠ w.heap.size := by omega
  go_wp2_with (first | (go_at_call 50; refine (isBetween_c _ _ _ _).mono ?_; rw [h2]; rintro e w' ⟨rfl, rfl⟩) | fail)
  have hwm : IntKind.i64.wrap (m + 1) = m + 1 := IntWalk.i64_in _ (by omega)
  go_region_held3 (fun w' => w'.cell? ⟨w.heap.size, 0, none⟩ = some (.int .i64 L) ∧ w'.cell? ⟨w.heap.size, 1, none⟩ = some (.int .i64 V) ∧ w'.cell? ⟨w.heap.size, 2, none⟩ = some (.slice (some ⟨g, 0, none⟩) ts.length ts.length))
    (first | exact ⟨b0, b1, b2⟩ | exact ⟨a0, a1, a2⟩ | (rw [far_three hne, far_three hne, far_three hne]; exact ⟨b0, b1, b2⟩) | go_keep)
    (first
      | (go_at_call 51; have H := newSeries_c L m (some ⟨g, 0, none⟩) ts.length (truncL m ts) (Nat.le_trans (List.length_filter_le _ _) hl) (fun i hi => by have := HSm.out _ (trunc_mem (List.getElem_mem hi)); omega) wa (.inr ⟨g, 0, rfl, by have := hba.size; omega, HTa.out⟩); rw [HLi.out] at H; refine H.mono ?_; clear H; rintro e wb ⟨gb, rfl, hbb, hgb, hMb, hTb⟩; have hBb := below_step HBa.out hbb (by simp); have b0 : wb.cell? ⟨w.heap.size, 0, none⟩ = some (.int .i64 L) := (hBb.cell (p := ⟨w.heap.size, 0, none⟩) (by show w.heap.size < _; omega)).trans (by go_simp); have b1 : wb.cell? ⟨w.heap.size, 1, none⟩ = some (.int .i64 V) := (hBb.cell (p := ⟨w.heap.size, 1, none⟩) (by show w.heap.size < _; omega)).trans (by go_simp); have b2 : wb.cell? ⟨w.heap.size, 2, none⟩ = some (.slice (some ⟨g, 0, none⟩) ts.length ts.length) := (hBb.cell (p := ⟨w.heap.size, 2, none⟩) (by show w.heap.size < _; omega)).trans (by go_simp); obtain ⟨hc, hf⟩ := bcellB hBb; have r0 : wb.cell? ⟨w.heap.size + 1, 0, none⟩ = some (.int .i64 0) := (hc _ _ (by omega)).trans (by go_simp); have r1 : wb.cell? ⟨w.heap.size + 1, 1, none⟩ = some (.int .i64 0) := (hc _ _ (by omega)).trans (by go_simp); have r2 : wb.cell? ⟨w.heap.size + 1, 2, none⟩ = some (.slice none 0 0) := (hc _ _ (by omega)).trans (by go_simp); have z0 : wb.frozen? ⟨w.heap.size + 1, 0, none⟩ = false := (hf _ _ (by omega)).trans (by go_simp); have z1 : wb.frozen? ⟨w.heap.size + 1, 1, none⟩ = false := (hf _ _ (by omega)).trans (by go_simp); have z2 : wb.frozen? ⟨w.heap.size + 1, 2, none⟩ = false := (hf _ _ (by omega)).trans (by go_simp); have HMb := Lib.hid hMb; have HTb := Lib.hid hTb; have HBb := Lib.hid hBb; clear hMb hTb hBb hc hf)
      | (go_at_call 56; refine (indexOfLength_c g 0 ts.length ts hl HS.out (m + 1) HA.out w1.drew (show g < w1.heap.size by omega) HT1.out).mono ?_; rintro e wa ⟨i, hp, rfl, hba0⟩; have hba : Below w1.heap.size w1 wa := ⟨hba0.os, hba0.tape, hba0.output, hba0.size, hba0.block⟩; have hBa := below_step HB.out hba (by simp); have a0 : wa.cell? ⟨w.heap.size, 0, none⟩ = some (.int .i64 L) := (hBa.cell (p := ⟨w.heap.size, 0, none⟩) (by show w.heap.size < _; omega)).trans (by go_simp); have a1 : wa.cell? ⟨w.heap.size, 1, none⟩ = some (.int .i64 V) := (hBa.cell (p := ⟨w.heap.size, 1, none⟩) (by show w.heap.size < _; omega)).trans (by go_simp); have a2 : wa.cell? ⟨w.heap.size, 2, none⟩ = some (.slice (some ⟨g, 0, none⟩) ts.length ts.length) := (hBa.cell (p := ⟨w.heap.size, 2, none⟩) (by show w.heap.size < _; omega)).trans (by go_simp); have hi := hp.1; have HE := Lib.hid (trunc_eq hp); have HLi : Hid ((truncL m ts).length = i) := Lib.hid (by rw [← HE.out, List.length_take]; omega); have HTa : Hid (TermsIn wa g 0 (truncL m ts)) := Lib.hid (by have h := cut_terms (i := 0) (n := i) (HT1.out.below hba (by omega)) (by omega); rw [List.drop_zero, HE.out] at h; exact h); have HBa := Lib.hid hBa; clear hBa hp))
  all_goals
    clear hwm
    have hza := hba.size
    have hW3 : Below w.heap.size w wb := (below2 w _ _).trans (HBb.out.mono (by omega))
    go_wp2
    refine bodyPost_ret (v := .tuple #[.agg #[.int .i64 L, .int .i64 m, .slice (some ⟨gb, 0, none⟩) (truncL m ts).length (truncL m ts).length], .int .i64 0]) (by rw [HLi.out]; simp [results, Try.results25, go_sem, r0, r1, r2]) rfl ⟨_, _, rfl, by go_grown, ?_⟩
    exact ((NewRow.of_to (lo := wa.heap.size) hgb HMb.out HTb.out).far3 (by omega)).mono (by omega) (Nat.le_refl _)
end
end Go.Proofs.Ytjciadbmpkkgdaa
