/-
  The values of a step, and the program's signature of a step.
-/
import Derived.Test.YtddfijlgehpjfaaGreatDoorSopF
import Derived.Test.YtddfijlgehpjfaaGreatDoorWordsOf
import Derived.Laws.Rows
import Derived.LoopN
namespace Go.Proofs.YtddfijlgehpjfaaGreatDoor
open Go.RowKit

/-- the values of a step: its numbers at the letters -/
def stepF (x0 x1 x2 : Int) : VF := setF (setF (setF noneF (letW 0) (nzF (x0, 1))) (letW 1) (nzF (x1, 1))) (letW 2) (nzF (x2, 1))
theorem letter_in {D N i : Nat} (hi : i < D) (hN : 1 ≤ N) : letW (i : Int) ∈ allW D N := by
  refine word_in (j := 1) hN ?_
  have h : wordsL D 1 = longer D ByteArray.empty := by
    show nextL D (wordsL D 0) = _
    simp [nextL, wordsL]
  rw [h]
  unfold longer
  exact List.mem_map.2 ⟨i, List.mem_range.2 hi, by rw [ByteArray.empty_append]⟩
theorem isF_whole {x : Int} (h : -1000000000 ≤ x ∧ x ≤ 1000000000) : isF x 1 = true := by
  simp only [isF, decide_eq_true_eq]
  exact ⟨by omega, by omega, h.1, h.2, by simp [gi]⟩
theorem GoodV.setL {ws : List ByteArray} {f : VF} {s : ByteArray} {x : Int} (hf : GoodV ws f) (hs : x ≠ 0 → s ∈ ws) (h : -1000000000 ≤ x ∧ x ≤ 1000000000) : GoodV ws (setF f s (nzF (x, 1))) := fun t p e => by
  unfold setF at e
  split at e
  · rename_i ht
    by_cases h0 : x = 0
    · rw [nzF_0 (show (x, (1 : Int)).1 = 0 from h0)] at e; cases e
    · rw [nzF_1 (show (x, (1 : Int)).1 ≠ 0 from h0)] at e
      injection e with e
      subst e
      exact ⟨by rw [ht]; exact hs h0, isF_whole h, h0⟩
  · exact hf t p e
theorem stepF_good {D N : Nat} (hD : 1 ≤ D) (hN : 1 ≤ N) {x0 x1 x2 : Int} (h0 : -1000000000 ≤ x0 ∧ x0 ≤ 1000000000) (h1 : -1000000000 ≤ x1 ∧ x1 ≤ 1000000000) (h2 : -1000000000 ≤ x2 ∧ x2 ≤ 1000000000) (z1 : D < 2 → x1 = 0) (z2 : D < 3 → x2 = 0) : GoodV (allW D N) (stepF x0 x1 x2) :=
  ((GoodV.none (allW D N)).setL (fun _ => letter_in (i := 0) (by omega) hN) h0).setL (fun h => letter_in (i := 1) (Nat.lt_of_not_le (fun e => h (z1 (by omega)))) hN) h1 |>.setL (fun h => letter_in (i := 2) (Nat.lt_of_not_le (fun e => h (z2 (by omega)))) hN) h2
set_option maxRecDepth 100000 in
set_option maxHeartbeats 8000000 in
theorem stepSignature_c (L : Int) (N : Nat) (hN : N ≤ 5) (A : Option Addr) (cap : Nat) (ws : List ByteArray) (hl : ws.length ≤ 100000) (hs : ∀ s ∈ ws, s.size ≤ 1000) (hu : GoodV ws unitF) (x0 x1 x2 : Int) (h0 : -1000000000 ≤ x0 ∧ x0 ≤ 1000000000) (h1 : -1000000000 ≤ x1 ∧ x1 ≤ 1000000000) (h2 : -1000000000 ≤ x2 ∧ x2 ≤ 1000000000) (hx : GoodV ws (stepF x0 x1 x2)) (w : World) (hr : SRow w A ws) (hA : ∀ p, A = some p → p.block < w.heap.size) :
    Calls Tryz.prog 53 #[.agg #[.int .i64 L, .int .i64 N, .slice A ws.length cap], .agg #[.int .i64 x0, .int .i64 x1, .int .i64 x2]] w (FewPost (expV (stepF x0 x1 x2) ws N) ((N + 1) * ws.length) w) := by
  have hmm := @run_makeMap Tryz.prog
  have i0 : ∀ w : World, (Instr.index 82 (.agg #[.int .i64 x0, .int .i64 x1, .int .i64 x2]) (.int .i64 0)).run Tryz.prog w = .ok (.int .i64 x0) w := fun _ => by kernel_rfl
  have i1 : ∀ w : World, (Instr.index 82 (.agg #[.int .i64 x0, .int .i64 x1, .int .i64 x2]) (.int .i64 1)).run Tryz.prog w = .ok (.int .i64 x1) w := fun _ => by kernel_rfl
  have i2 : ∀ w : World, (Instr.index 82 (.agg #[.int .i64 x0, .int .i64 x1, .int .i64 x2]) (.int .i64 2)).run Tryz.prog w = .ok (.int .i64 x2) w := fun _ => by kernel_rfl
  have HEx := Lib.hid (fun b n W (hW : Below w.heap.size w W) hM => exponential_c L N hN A cap ws hl hs hu (stepF x0 x1 x2) hx b n W (hr.below hW (Nat.le_refl _)) (fun q e => Nat.lt_of_lt_of_le (hA q e) hW.size) hM)
  have HF0 := Lib.hid (isF_whole h0)
  have HF1 := Lib.hid (isF_whole h1)
  have HF2 := Lib.hid (isF_whole h2)
  clear hs hu hx hr hA h0 h1 h2
  go_enter Tryz.func53, Tryz.ntmps53
  go_wp2_with fail
  have HW3 := Lib.hid (below3 w (.cells #[.int .i64 L, .int .i64 N, .slice A ws.length cap] 52) (.cells #[.int .i64 x0, .int .i64 x1, .int .i64 x2] 82) (.map #[] 0))
  have hmade := MapV.made ((w.alloc (.cells #[.int .i64 L, .int .i64 N, .slice A ws.length cap] 52)).alloc (.cells #[.int .i64 x0, .int .i64 x1, .int .i64 x2] 82))
  simp only [World.size_alloc] at hmade
  have s0 : (((w.alloc (.cells #[.int .i64 L, .int .i64 N, .slice A ws.length cap] 52)).alloc (.cells #[.int .i64 x0, .int .i64 x1, .int .i64 x2] 82)).alloc (.map #[] 0)).cell? ⟨w.heap.size, 0, none⟩ = some (.int .i64 L) := by go_simp
  have s1 : (((w.alloc (.cells #[.int .i64 L, .int .i64 N, .slice A ws.length cap] 52)).alloc (.cells #[.int .i64 x0, .int .i64 x1, .int .i64 x2] 82)).alloc (.map #[] 0)).cell? ⟨w.heap.size, 1, none⟩ = some (.int .i64 N) := by go_simp
  have s2 : (((w.alloc (.cells #[.int .i64 L, .int .i64 N, .slice A ws.length cap] 52)).alloc (.cells #[.int .i64 x0, .int .i64 x1, .int .i64 x2] 82)).alloc (.map #[] 0)).cell? ⟨w.heap.size, 2, none⟩ = some (.slice A ws.length cap) := by go_simp
  have hz0 : (((w.alloc (.cells #[.int .i64 L, .int .i64 N, .slice A ws.length cap] 52)).alloc (.cells #[.int .i64 x0, .int .i64 x1, .int .i64 x2] 82)).alloc (.map #[] 0)).heap.size = w.heap.size + 1 + 1 + 1 := by simp
  have HM := Lib.hid hmade
  generalize (((w.alloc (.cells #[.int .i64 L, .int .i64 N, .slice A ws.length cap] 52)).alloc (.cells #[.int .i64 x0, .int .i64 x1, .int .i64 x2] 82)).alloc (.map #[] 0)) = v0 at *
  have KS := Lib.hid (show ∀ w', Below (w.heap.size + 2) v0 w' → (w'.cell? ⟨w.heap.size, 0, none⟩ = some (.int .i64 L) ∧ w'.cell? ⟨w.heap.size, 1, none⟩ = some (.int .i64 N) ∧ w'.cell? ⟨w.heap.size, 2, none⟩ = some (.slice A ws.length cap)) from fun w' hb => ⟨(hb.cell (p := ⟨w.heap.size, 0, none⟩) (by show w.heap.size < _; omega)).trans s0, (hb.cell (p := ⟨w.heap.size, 1, none⟩) (by show w.heap.size < _; omega)).trans s1, (hb.cell (p := ⟨w.heap.size, 2, none⟩) (by show w.heap.size < _; omega)).trans s2⟩)
  have HB0 := Lib.hid (Below.refl (w.heap.size + 2) v0)
  have HZ0 := Lib.hid hz0
  clear hmm hmade s0 s1 s2 hz0
  refine wp_loop_rounds 4 ?_
  rw [rounds_succ]
  go_wp2_with (first | (go_at_call 73; refine (letterWord_c 0 (by decide) (by decide) _).mono ?_; rintro e w' ⟨rfl, rfl⟩) | fail)
  refine (wholeFraction_c x0 _).mono ?_
  rintro e u0 ⟨rfl, hb0⟩
  have HU0 := Lib.hid (HB0.out.trans (hb0.mono (by have := HZ0.out; omega)))
  have HMu0 := Lib.hid (HM.out.below hb0 HM.out.lt)
  have HZu0 := Lib.hid (show w.heap.size + 1 + 1 + 1 ≤ u0.heap.size by have := HZ0.out; have := hb0.size; omega)
  clear hb0
  go_wp2_with fail
  refine (put_c (w.heap.size + 1 + 1) 0 noneF (letW 0) x0 1 HF0.out (by decide) (by rw [letW_size]; decide) _ HMu0.out).mono ?_
  rintro e v1 ⟨rfl, hM1, hG1⟩
  have HM1 := Lib.hid hM1
  have HB1 := Lib.hid (HU0.out.trans (below_of_grown (B := w.heap.size + 2) hG1 (fun g e => by injection e with e; omega) (by have := HZu0.out; omega)))
  have HZ1 := Lib.hid (show w.heap.size + 1 + 1 + 1 ≤ v1.heap.size by have := HZu0.out; have := hG1.size; omega)
  clear hM1 hG1
  go_wp2_with fail
  rw [rounds_succ]
  go_wp2_with (first | (go_at_call 73; refine (letterWord_c 1 (by decide) (by decide) _).mono ?_; rintro e w' ⟨rfl, rfl⟩) | fail)
  refine (wholeFraction_c x1 _).mono ?_
  rintro e u1 ⟨rfl, hb1⟩
  have HU1 := Lib.hid (HB1.out.trans (hb1.mono (by have := HZ1.out; omega)))
  have HMu1 := Lib.hid (HM1.out.below hb1 HM1.out.lt)
  have HZu1 := Lib.hid (show w.heap.size + 1 + 1 + 1 ≤ u1.heap.size by have := HZ1.out; have := hb1.size; omega)
  clear hb1
  go_wp2_with fail
  refine (put_c (w.heap.size + 1 + 1) 1 (setF noneF (letW 0) (nzF (x0, 1))) (letW 1) x1 1 HF1.out (by decide) (by rw [letW_size]; decide) _ HMu1.out).mono ?_
  rintro e v2 ⟨rfl, hM2, hG2⟩
  have HM2 := Lib.hid hM2
  have HB2 := Lib.hid (HU1.out.trans (below_of_grown (B := w.heap.size + 2) hG2 (fun g e => by injection e with e; omega) (by have := HZu1.out; omega)))
  have HZ2 := Lib.hid (show w.heap.size + 1 + 1 + 1 ≤ v2.heap.size by have := HZu1.out; have := hG2.size; omega)
  clear hM2 hG2
  go_wp2_with fail
  rw [rounds_succ]
  go_wp2_with (first | (go_at_call 73; refine (letterWord_c 2 (by decide) (by decide) _).mono ?_; rintro e w' ⟨rfl, rfl⟩) | fail)
  refine (wholeFraction_c x2 _).mono ?_
  rintro e u2 ⟨rfl, hb2⟩
  have HU2 := Lib.hid (HB2.out.trans (hb2.mono (by have := HZ2.out; omega)))
  have HMu2 := Lib.hid (HM2.out.below hb2 HM2.out.lt)
  have HZu2 := Lib.hid (show w.heap.size + 1 + 1 + 1 ≤ u2.heap.size by have := HZ2.out; have := hb2.size; omega)
  clear hb2
  go_wp2_with fail
  refine (put_c (w.heap.size + 1 + 1) 2 (setF (setF noneF (letW 0) (nzF (x0, 1))) (letW 1) (nzF (x1, 1))) (letW 2) x2 1 HF2.out (by decide) (by rw [letW_size]; decide) _ HMu2.out).mono ?_
  rintro e v3 ⟨rfl, hM3, hG3⟩
  have HM3 := Lib.hid hM3
  have HB3 := Lib.hid (HU2.out.trans (below_of_grown (B := w.heap.size + 2) hG3 (fun g e => by injection e with e; omega) (by have := HZu2.out; omega)))
  have HZ3 := Lib.hid (show w.heap.size + 1 + 1 + 1 ≤ v3.heap.size by have := HZu2.out; have := hG3.size; omega)
  clear hM3 hG3
  go_wp2_with fail
  rw [rounds_succ]
  obtain ⟨s0, s1, s2⟩ := KS.out v3 HB3.out
  have HWv := Lib.hid (show Below w.heap.size w v3 from HW3.out.trans (HB3.out.mono (by omega)))
  go_wp2_with fail
  refine (HEx.out (w.heap.size + 1 + 1) 3 v3 HWv.out HM3.out).mono ?_
  cases hv : expV (stepF x0 x1 x2) ws N with
  | none =>
    rintro e w9 ⟨rfl, hb9⟩
    have HB9 := Lib.hid (HWv.out.trans (hb9.mono HWv.out.size))
    clear hb9 hv s0 s1 s2
    go_wp2
    exact ⟨rfl, rfl, HB9.out⟩
  | some h =>
    rintro e w9 ⟨m9, n9, rfl, hm9, hb9, hn9, hM9⟩
    have HB9 := Lib.hid (HWv.out.trans (hb9.mono HWv.out.size))
    have HM9 := Lib.hid hM9
    have hzv := HWv.out.size
    have HV := Lib.hid hv
    clear hb9 hM9 hv s0 s1 s2
    go_wp2
    rw [HV.out]
    go_ret

    exact ⟨m9, n9, rfl, by omega, HB9.out, hn9, HM9.out⟩
end Go.Proofs.YtddfijlgehpjfaaGreatDoor
