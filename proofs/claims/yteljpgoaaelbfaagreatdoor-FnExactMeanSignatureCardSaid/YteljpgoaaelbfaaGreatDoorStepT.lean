/-
  The values of a step, and the program's signature of a step.
  The contract of the model's series of a step.
  The terms of a step's values are those of the model's series of the step.
-/
import Derived.Test.YteljpgoaaelbfaaGreatDoorSopF
import Derived.Test.YteljpgoaaelbfaaGreatDoorMapV
import Derived.Test.YteljpgoaaelbfaaGreatDoorPartOf
import Derived.Test.YteljpgoaaelbfaaGreatDoorPaths
import Derived.Laws.Rows
import Derived.LoopN
import Derived.Deep.AppendLies
import Derived.Deep.RegionLaw
namespace Go.Proofs.YteljpgoaaelbfaaGreatDoor
open Go.RowKit

/-- the values of a step: its numbers at the letters -/
def stepF (x0 x1 x2 : Int) : VF := setF (setF (setF noneF (letW 0) (nzF (x0, 1))) (letW 1) (nzF (x1, 1))) (letW 2) (nzF (x2, 1))
theorem letter_in {D N i : Nat} (hi : i < D) (hN : 1 ≤ N) : letW (i : Int) ∈ allW D N := by
  refine word_in (j := 1) hN ?_
  have h : wordsL D 1 = longer D ByteArray.empty := by
    show nextL D (wordsL D 0) = _
    simp [nextL, wordsL]
  rw [h]
  unfold longer
  exact List.mem_map.2 ⟨i, List.mem_range.2 hi, by rw [ByteArray.empty_append]⟩
theorem isF_whole {x : Int} (h : -1000000000 ≤ x ∧ x ≤ 1000000000) : isF x 1 = true := by
  simp only [isF, decide_eq_true_eq]
  exact ⟨by omega, by omega, h.1, h.2, by simp [gi]⟩
theorem GoodV.setL {ws : List ByteArray} {f : VF} {s : ByteArray} {x : Int} (hf : GoodV ws f) (hs : x ≠ 0 → s ∈ ws) (h : -1000000000 ≤ x ∧ x ≤ 1000000000) : GoodV ws (setF f s (nzF (x, 1))) := fun t p e => by
  unfold setF at e
  split at e
  · rename_i ht
    by_cases h0 : x = 0
    · rw [nzF_0 (show (x, (1 : Int)).1 = 0 from h0)] at e; cases e
    · rw [nzF_1 (show (x, (1 : Int)).1 ≠ 0 from h0)] at e
      injection e with e
      subst e
      exact ⟨by rw [ht]; exact hs h0, isF_whole h, h0⟩
  · exact hf t p e
theorem stepF_good {D N : Nat} (hD : 1 ≤ D) (hN : 1 ≤ N) {x0 x1 x2 : Int} (h0 : -1000000000 ≤ x0 ∧ x0 ≤ 1000000000) (h1 : -1000000000 ≤ x1 ∧ x1 ≤ 1000000000) (h2 : -1000000000 ≤ x2 ∧ x2 ≤ 1000000000) (z1 : D < 2 → x1 = 0) (z2 : D < 3 → x2 = 0) : GoodV (allW D N) (stepF x0 x1 x2) :=
  ((GoodV.none (allW D N)).setL (fun _ => letter_in (i := 0) (by omega) hN) h0).setL (fun h => letter_in (i := 1) (Nat.lt_of_not_le (fun e => h (z1 (by omega)))) hN) h1 |>.setL (fun h => letter_in (i := 2) (Nat.lt_of_not_le (fun e => h (z2 (by omega)))) hN) h2
set_option maxRecDepth 100000 in
set_option maxHeartbeats 8000000 in
theorem stepSignature_c (L : Int) (N : Nat) (hN : N ≤ 5) (A : Option Addr) (cap : Nat) (ws : List ByteArray) (hl : ws.length ≤ 100000) (hs : ∀ s ∈ ws, s.size ≤ 1000) (hu : GoodV ws unitF) (x0 x1 x2 : Int) (h0 : -1000000000 ≤ x0 ∧ x0 ≤ 1000000000) (h1 : -1000000000 ≤ x1 ∧ x1 ≤ 1000000000) (h2 : -1000000000 ≤ x2 ∧ x2 ≤ 1000000000) (hx : GoodV ws (stepF x0 x1 x2)) (w : World) (hr : SRow w A ws) (hA : ∀ p, A = some p → p.block < w.heap.size) :
    Calls Tryz.prog 31 #[.agg #[.int .i64 L, .int .i64 N, .slice A ws.length cap], .agg #[.int .i64 x0, .int .i64 x1, .int .i64 x2]] w (FewPost (expV (stepF x0 x1 x2) ws N) ((N + 1) * ws.length) w) := by
  have hmm := @run_makeMap Tryz.prog
  have i0 : ∀ w : World, (Instr.index 58 (.agg #[.int .i64 x0, .int .i64 x1, .int .i64 x2]) (.int .i64 0)).run Tryz.prog w = .ok (.int .i64 x0) w := fun _ => by kernel_rfl
  have i1 : ∀ w : World, (Instr.index 58 (.agg #[.int .i64 x0, .int .i64 x1, .int .i64 x2]) (.int .i64 1)).run Tryz.prog w = .ok (.int .i64 x1) w := fun _ => by kernel_rfl
  have i2 : ∀ w : World, (Instr.index 58 (.agg #[.int .i64 x0, .int .i64 x1, .int .i64 x2]) (.int .i64 2)).run Tryz.prog w = .ok (.int .i64 x2) w := fun _ => by kernel_rfl
  have HEx := Lib.hid (fun b n W (hW : Below w.heap.size w W) hM => exponential_c L N hN A cap ws hl hs hu (stepF x0 x1 x2) hx b n W (hr.below hW (Nat.le_refl _)) (fun q e => Nat.lt_of_lt_of_le (hA q e) hW.size) hM)
  have HF0 := Lib.hid (isF_whole h0)
  have HF1 := Lib.hid (isF_whole h1)
  have HF2 := Lib.hid (isF_whole h2)
  clear hs hu hx hr hA h0 h1 h2
  go_enter Tryz.func31, Tryz.ntmps31
  go_wp2_with fail
  have HW3 := Lib.hid (below3 w (.cells #[.int .i64 L, .int .i64 N, .slice A ws.length cap] 50) (.cells #[.int .i64 x0, .int .i64 x1, .int .i64 x2] 58) (.map #[] 0))
  have hmade := MapV.made ((w.alloc (.cells #[.int .i64 L, .int .i64 N, .slice A ws.length cap] 50)).alloc (.cells #[.int .i64 x0, .int .i64 x1, .int .i64 x2] 58))
  simp only [World.size_alloc] at hmade
  have s0 : (((w.alloc (.cells #[.int .i64 L, .int .i64 N, .slice A ws.length cap] 50)).alloc (.cells #[.int .i64 x0, .int .i64 x1, .int .i64 x2] 58)).alloc (.map #[] 0)).cell? ⟨w.heap.size, 0, none⟩ = some (.int .i64 L) := by go_simp
  have s1 : (((w.alloc (.cells #[.int .i64 L, .int .i64 N, .slice A ws.length cap] 50)).alloc (.cells #[.int .i64 x0, .int .i64 x1, .int .i64 x2] 58)).alloc (.map #[] 0)).cell? ⟨w.heap.size, 1, none⟩ = some (.int .i64 N) := by go_simp
  have s2 : (((w.alloc (.cells #[.int .i64 L, .int .i64 N, .slice A ws.length cap] 50)).alloc (.cells #[.int .i64 x0, .int .i64 x1, .int .i64 x2] 58)).alloc (.map #[] 0)).cell? ⟨w.heap.size, 2, none⟩ = some (.slice A ws.length cap) := by go_simp
  have hz0 : (((w.alloc (.cells #[.int .i64 L, .int .i64 N, .slice A ws.length cap] 50)).alloc (.cells #[.int .i64 x0, .int .i64 x1, .int .i64 x2] 58)).alloc (.map #[] 0)).heap.size = w.heap.size + 1 + 1 + 1 := by simp
  have HM := Lib.hid hmade
  generalize (((w.alloc (.cells #[.int .i64 L, .int .i64 N, .slice A ws.length cap] 50)).alloc (.cells #[.int .i64 x0, .int .i64 x1, .int .i64 x2] 58)).alloc (.map #[] 0)) = v0 at *
  have KS := Lib.hid (show ∀ w', Below (w.heap.size + 2) v0 w' → (w'.cell? ⟨w.heap.size, 0, none⟩ = some (.int .i64 L) ∧ w'.cell? ⟨w.heap.size, 1, none⟩ = some (.int .i64 N) ∧ w'.cell? ⟨w.heap.size, 2, none⟩ = some (.slice A ws.length cap)) from fun w' hb => ⟨(hb.cell (p := ⟨w.heap.size, 0, none⟩) (by show w.heap.size < _; omega)).trans s0, (hb.cell (p := ⟨w.heap.size, 1, none⟩) (by show w.heap.size < _; omega)).trans s1, (hb.cell (p := ⟨w.heap.size, 2, none⟩) (by show w.heap.size < _; omega)).trans s2⟩)
  have HB0 := Lib.hid (Below.refl (w.heap.size + 2) v0)
  have HZ0 := Lib.hid hz0
  clear hmm hmade s0 s1 s2 hz0
  refine wp_loop_rounds 4 ?_
  rw [rounds_succ]
  go_wp2_with (first | (go_at_call 60; refine (letterWord_c 0 (by decide) (by decide) _).mono ?_; rintro e w' ⟨rfl, rfl⟩) | fail)
  refine (wholeFraction_c x0 _).mono ?_
  rintro e u0 ⟨rfl, hb0⟩
  have HU0 := Lib.hid (HB0.out.trans (hb0.mono (by have := HZ0.out; omega)))
  have HMu0 := Lib.hid (HM.out.below hb0 HM.out.lt)
  have HZu0 := Lib.hid (show w.heap.size + 1 + 1 + 1 ≤ u0.heap.size by have := HZ0.out; have := hb0.size; omega)
  clear hb0
  go_wp2_with fail
  refine (put_c (w.heap.size + 1 + 1) 0 noneF (letW 0) x0 1 HF0.out (by decide) (by rw [letW_size]; decide) _ HMu0.out).mono ?_
  rintro e v1 ⟨rfl, hM1, hG1⟩
  have HM1 := Lib.hid hM1
  have HB1 := Lib.hid (HU0.out.trans (below_of_grown (B := w.heap.size + 2) hG1 (fun g e => by injection e with e; omega) (by have := HZu0.out; omega)))
  have HZ1 := Lib.hid (show w.heap.size + 1 + 1 + 1 ≤ v1.heap.size by have := HZu0.out; have := hG1.size; omega)
  clear hM1 hG1
  go_wp2_with fail
  rw [rounds_succ]
  go_wp2_with (first | (go_at_call 60; refine (letterWord_c 1 (by decide) (by decide) _).mono ?_; rintro e w' ⟨rfl, rfl⟩) | fail)
  refine (wholeFraction_c x1 _).mono ?_
  rintro e u1 ⟨rfl, hb1⟩
  have HU1 := Lib.hid (HB1.out.trans (hb1.mono (by have := HZ1.out; omega)))
  have HMu1 := Lib.hid (HM1.out.below hb1 HM1.out.lt)
  have HZu1 := Lib.hid (show w.heap.size + 1 + 1 + 1 ≤ u1.heap.size by have := HZ1.out; have := hb1.size; omega)
  clear hb1
  go_wp2_with fail
  refine (put_c (w.heap.size + 1 + 1) 1 (setF noneF (letW 0) (nzF (x0, 1))) (letW 1) x1 1 HF1.out (by decide) (by rw [letW_size]; decide) _ HMu1.out).mono ?_
  rintro e v2 ⟨rfl, hM2, hG2⟩
  have HM2 := Lib.hid hM2
  have HB2 := Lib.hid (HU1.out.trans (below_of_grown (B := w.heap.size + 2) hG2 (fun g e => by injection e with e; omega) (by have := HZu1.out; omega)))
  have HZ2 := Lib.hid (show w.heap.size + 1 + 1 + 1 ≤ v2.heap.size by have := HZu1.out; have := hG2.size; omega)
  clear hM2 hG2
  go_wp2_with fail
  rw [rounds_succ]
  go_wp2_with (first | (go_at_call 60; refine (letterWord_c 2 (by decide) (by decide) _).mono ?_; rintro e w' ⟨rfl, rfl⟩) | fail)
  refine (wholeFraction_c x2 _).mono ?_
  rintro e u2 ⟨rfl, hb2⟩
  have HU2 := Lib.hid (HB2.out.trans (hb2.mono (by have := HZ2.out; omega)))
  have HMu2 := Lib.hid (HM2.out.below hb2 HM2.out.lt)
  have HZu2 := Lib.hid (show w.heap.size + 1 + 1 + 1 ≤ u2.heap.size by have := HZ2.out; have := hb2.size; omega)
  clear hb2
  go_wp2_with fail
  refine (put_c (w.heap.size + 1 + 1) 2 (setF (setF noneF (letW 0) (nzF (x0, 1))) (letW 1) (nzF (x1, 1))) (letW 2) x2 1 HF2.out (by decide) (by rw [letW_size]; decide) _ HMu2.out).mono ?_
  rintro e v3 ⟨rfl, hM3, hG3⟩
  have HM3 := Lib.hid hM3
  have HB3 := Lib.hid (HU2.out.trans (below_of_grown (B := w.heap.size + 2) hG3 (fun g e => by injection e with e; omega) (by have := HZu2.out; omega)))
  have HZ3 := Lib.hid (show w.heap.size + 1 + 1 + 1 ≤ v3.heap.size by have := HZu2.out; have := hG3.size; omega)
  clear hM3 hG3
  go_wp2_with fail
  rw [rounds_succ]
  obtain ⟨s0, s1, s2⟩ := KS.out v3 HB3.out
  have HWv := Lib.hid (show Below w.heap.size w v3 from HW3.out.trans (HB3.out.mono (by omega)))
  go_wp2_with fail
  refine (HEx.out (w.heap.size + 1 + 1) 3 v3 HWv.out HM3.out).mono ?_
  cases hv : expV (stepF x0 x1 x2) ws N with
  | none =>
    rintro e w9 ⟨rfl, hb9⟩
    have HB9 := Lib.hid (HWv.out.trans (hb9.mono HWv.out.size))
    clear hb9 hv s0 s1 s2
    go_wp2
    exact ⟨rfl, rfl, HB9.out⟩
  | some h =>
    rintro e w9 ⟨m9, n9, rfl, hm9, hb9, hn9, hM9⟩
    have HB9 := Lib.hid (HWv.out.trans (hb9.mono HWv.out.size))
    have HM9 := Lib.hid hM9
    have hzv := HWv.out.size
    have HV := Lib.hid hv
    clear hb9 hM9 hv s0 s1 s2
    go_wp2
    rw [HV.out]
    go_ret

    exact ⟨m9, n9, rfl, by omega, HB9.out, hn9, HM9.out⟩
end Go.Proofs.YteljpgoaaelbfaaGreatDoor

namespace Go.Proofs.YteljpgoaaelbfaaGreatDoor
open Go.RowKit

/-- the terms of the first k numbers of a step -/
def stepT (zs : List Int) : Nat → List Tm
  | 0 => []
  | k + 1 => stepT zs k ++ (if zs.getD k 0 = 0 then [] else [⟨letW (k : Int), zs.getD k 0, 1⟩])
theorem stepT_len (zs : List Int) : ∀ k, (stepT zs k).length ≤ k
  | 0 => Nat.le_refl _
  | k + 1 => by
    have h := stepT_len zs k
    rw [stepT, List.length_append]
    split <;> simp <;> omega
theorem step_one {ops : Array Oper} {o : Oper} {a : Act} {w : World} {K : Act → World → Prop} {Q : Exit → Act → World → Prop} {E : Prop} (hg : o.guard = none) (x : Operand)
    (ho : o.op = .call { callee := .value (.func 20), args := #[x], argTypes := #[2] }) (n : Int) (hx : a.eval x = .int .i64 n)
    (h : ∀ w', Below w.heap.size w w' → K (a.put o.dst (.agg #[.int .i64 n, .int .i64 1])) w') : if Region.wanted o (yielded ops a.tmps) = true then Oper.wp Tryz.prog o a w K Q else E := by
  have hw : Region.wanted o (yielded ops a.tmps) = true := by simp [Region.wanted, hg]
  rw [if_pos hw]
  unfold Oper.wp
  have hrun : (execOp a.eval o).run Tryz.prog w = .ok (.enter 20 #[.int .i64 n]) w := by
    simpa [execOp, ho, resolve, invoke, Deferred.ofValue, go_sem] using hx
  rw [hrun, Oper.upon_enter]
  refine (l02One_c n w).mono ?_
  rintro e w' ⟨rfl, hb⟩
  exact h w' hb

set_option maxRecDepth 100000 in
set_option maxHeartbeats 8000000 in
theorem l04Step_c (D N : Nat) (hD : D ≤ 3) (b off cap : Nat) (zs : List Int) (hl : zs.length = D) (w : World) (hb : b < w.heap.size) (ht : IntsIn w b off zs) :
    Calls Tryz.prog 18 #[.int .i64 D, .int .i64 N, .slice (some ⟨b, off, none⟩) zs.length cap] w (SerOnly D N (stepT zs D) w) := by
  obtain ⟨i0, hi0, hi1, hi2, hi3⟩ := info_parts info_term
  have HT := Lib.hid ht
  clear ht
  go_enter Tryz.func18, Tryz.ntmps18
  go_wp2_with fail
  refine (l01Empty_c D N _ rfl _).mono ?_
  rintro e w1 ⟨g1, rfl, hO, hb1⟩
  have hz1 : w.heap.size < w1.heap.size := by have := hb1.size; simp at this; omega
  have HO := Lib.hid (show OwnT w1 (w.heap.size + 1) (.slice (some ⟨g1, 0, none⟩) 0 0) [] from by simpa using hO)
  have HB := Lib.hid (show Below (w.heap.size + 1) (w.alloc (.cells #[.int .i64 0, .int .i64 0, .slice none 0 0] 26)) w1 from by simpa using hb1)
  clear hb1 hO
  go_wp2_with fail
  go_loopw [8] (AccRel (fun k => stepT zs k) D (w.heap.size + 1) w1.heap.size (.int .i64 D) (.int .i64 N) (w.alloc (.cells #[.int .i64 0, .int .i64 0, .slice none 0 0] 26))) (fun vi _ => D - (intOf vi).toNat)
  case atStart =>
    exact ⟨0, _, 0, 0, Nat.zero_le _, rfl, rfl, by simpa [stepT] using HO.out.alloc _, fun e => by have := (HO.out.lt _ e).2; omega, Blk.new _ _ _, HB.out.alloc (by omega) _⟩
  case round =>
    obtain ⟨k, av, lv, cv, hk, rfl, hlv, hOk, hnv, hBl, hB⟩ := hrel
    have HLv := Lib.hid hlv
    have HOk := Lib.hid hOk
    have HBl := Lib.hid hBl
    have HBk := Lib.hid hB
    have HNv := Lib.hid hnv
    have hzn := hBl.lt
    have hzr := hB.size
    simp only [World.size_alloc] at hzr
    have hz0 : w.heap.size < wr.heap.size := by omega
    have hlk : lv ≤ 3 := by have := stepT_len zs k; simp only at hlv; omega
    clear hOk hBl hB hnv hlv
    by_cases hlt : k < D
    · have hkz : k < zs.length := by omega
      have c0 := (HT.out.below ((below1 w _).trans (HBk.out.mono (by omega))) hb) k hkz
      obtain ⟨z, hz⟩ : ∃ z, zs[k] = z := ⟨_, rfl⟩
      rw [hz] at c0
      have hgd : zs.getD k 0 = z := by rw [List.getD_eq_getElem?_getD, List.getElem?_eq_getElem hkz]; exact hz
      have HFS := Lib.hid (show stepT zs (k + 1) = stepT zs k ++ (if z = 0 then [] else [⟨letW (k : Int), z, 1⟩]) from by rw [stepT, hgd])
      have hbr : b < wr.heap.size := by omega
      have hkI : (0 : Int) ≤ (k : Int) := by omega
      have hkL : (k : Int) < (zs.length : Int) := by omega
      clear hz hgd
      by_cases hz0' : z = 0
      · have hzb : (z == 0) = true := by simpa using hz0'
        rw [if_pos hz0', List.append_nil] at HFS
        have HF2 := HFS
        subst hz0'
        go_wp2
        go_roundw
        case rel => exact AccRel.skip (F := (fun k => stepT zs k)) (by omega) HF2.out HLv.out HOk.out HNv.out HBl.out HBk.out
        case measure => simp [intOf]; omega
      · have hzb : (z == 0) = false := by simpa using hz0'
        rw [if_neg hz0'] at HFS
        have HF2 := HFS
        have n2 : wr.cell? ⟨w1.heap.size, 2, none⟩ = some (.slice av lv cv) := HBl.out.cell 2
        have nf : wr.frozen? ⟨w1.heap.size, 2, none⟩ = false := HBl.out.frozen 2
        have hcv := conv_byte (48 + (k : Int)) (by omega) (by omega)
        have hsum : IntKind.i64.wrap (48 + (k : Int)) = 48 + (k : Int) := IntWalk.i64_in _ (by omega)
        have hu8 : IntKind.u8.wrap (48 + (k : Int)) = 48 + (k : Int) := by
          simp [IntKind.wrap, IntKind.signed, IntKind.bits]
          omega
        have hcs1 := conv_letter (48 + (k : Int)) (wr.alloc (.cells #[.int .u8 (48 + (k : Int))] 5)) wr.heap.size (by go_simp)
        have hcs2 := conv_letter (48 + (k : Int)) (wr.alloc (.cells #[.int .u8 (48 + (k : Int))] 5)).drew wr.heap.size (by go_simp)
        have e2 := Ne.symm HNv.out
        clear hz0'
        go_wp2_with fail
        go_upto_region 6 with fail
        go_region_law (first
          | (refine step_one rfl (.tmp 33) rfl z rfl ?_; intro wa hba; have hbr2 : Below wr.heap.size wr wa := below_step (by repeat' (first | with_reducible assumption | with_reducible exact Below.refl _ _ | (with_reducible refine Below.drew ?_) | (with_reducible refine Below.setCell ?_ (by (try dsimp only); omega) _) | (with_reducible refine Below.alloc ?_ (by (try simp only [World.size_setCell]); (try simp only [World.size_drew]); (try simp only [World.size_alloc]); (try simp only [World.size_setCell]); (try simp only [World.size_alloc]); omega) _))) hba (Nat.le_refl _); have hza := hbr2.size; have hzna : w1.heap.size < wa.heap.size := (by omega); have hbna : b < wa.heap.size := (by omega); have ca := (hbr2.cell (p := ⟨b, off + k, none⟩) hbr).trans c0; have na := (hbr2.cell (p := ⟨w1.heap.size, 2, none⟩) hzn).trans n2; have nfa := (hbr2.frozen (p := ⟨w1.heap.size, 2, none⟩) hzn).trans nf; have hOa := HOk.out.below hbr2 (fun g h => (HOk.out.lt g h).2); (try have hcA := conv_letter (48 + (k : Int)) wa wr.heap.size ((hba.cell (p := ⟨wr.heap.size, 0, none⟩) (by show wr.heap.size < (wr.alloc (.cells #[.int .u8 (48 + (k : Int))] 5)).heap.size; simp)).trans (by go_simp))); have hcB := conv_letter (48 + (k : Int)) (wa.alloc (.cells #[.int .u8 (48 + (k : Int))] 5)) wa.heap.size (by go_simp))
          | ((refine step_append_lies _ (by rfl) _ _ _ (by rfl) (w.heap.size + 1) 74 i0 _ 3 32 Tryz.underlying24 hi0 hi1 hi2 hi3 rfl (by omega) (.slice av lv cv) lv (cellsT (stepT zs k)) (by rfl) (by have h := hOa.alloc (.cells #[.string (letW k), .int .i64 z, .int .i64 1] 74); unfold OwnT at h; have hl := HLv.out; (try simp only at hl); rw [← hl] at h; exact h) ⟨wa.heap.size, 0, none⟩ 1 1 [.string (letW k), .int .i64 z, .int .i64 1] (by rfl) (by rfl) (World.news_of_block (cs := #[.string (letW k), .int .i64 z, .int .i64 1]) (t := 74) (fr := (0, 0)) (heap_alloc_new wa _)) (by simp [Value.oneCell']) (by omega) (by unfold maxLen; omega) (by omega) (by simp; omega) (wa.heap.size + 1) (by simp) ?_; intro gg cg w2 hown1 hgrow hat hlt2; have q0 := (hgrow.cell_far ⟨w1.heap.size, 2, none⟩ (by simp; omega) e2).trans (((below1 wa (.cells #[.string (letW k), .int .i64 z, .int .i64 1] 74)).cell (p := ⟨w1.heap.size, 2, none⟩) (by show w1.heap.size < _; omega)).trans na); have q1 := (hgrow.frozen_far ⟨w1.heap.size, 2, none⟩ (by simp; omega) e2).trans (((below1 wa (.cells #[.string (letW k), .int .i64 z, .int .i64 1] 74)).frozen (p := ⟨w1.heap.size, 2, none⟩) (by show w1.heap.size < _; omega)).trans nfa)))
          | ((refine step_append_lies _ (by rfl) _ _ _ (by rfl) (w.heap.size + 1) 74 i0 _ 3 32 Tryz.underlying24 hi0 hi1 hi2 hi3 rfl (by omega) (.slice av lv cv) lv (cellsT (stepT zs k)) (by rfl) (by have h := (hOa.alloc (.cells #[.int .u8 (48 + (k : Int))] 5)).alloc (.cells #[.string (letW k), .int .i64 z, .int .i64 1] 74); unfold OwnT at h; have hl := HLv.out; (try simp only at hl); rw [← hl] at h; exact h) ⟨wa.heap.size + 1, 0, none⟩ 1 1 [.string (letW k), .int .i64 z, .int .i64 1] (by rfl) (by rfl) (World.news_of_block (cs := #[.string (letW k), .int .i64 z, .int .i64 1]) (t := 74) (fr := (0, 0)) (by have h := heap_alloc_new (wa.alloc (.cells #[.int .u8 (48 + (k : Int))] 5)) (.cells #[.string (letW k), .int .i64 z, .int .i64 1] 74); rw [World.size_alloc] at h; exact h)) (by simp [Value.oneCell']) (by omega) (by unfold maxLen; omega) (by omega) (by simp; omega) (wa.heap.size + 1 + 1) (by simp) ?_; intro gg cg w2 hown1 hgrow hat hlt2; have q0 := (hgrow.cell_far ⟨w1.heap.size, 2, none⟩ (by simp; omega) e2).trans (((below2 wa (.cells #[.int .u8 (48 + (k : Int))] 5) (.cells #[.string (letW k), .int .i64 z, .int .i64 1] 74)).cell (p := ⟨w1.heap.size, 2, none⟩) (by show w1.heap.size < _; omega)).trans na); have q1 := (hgrow.frozen_far ⟨w1.heap.size, 2, none⟩ (by simp; omega) e2).trans (((below2 wa (.cells #[.int .u8 (48 + (k : Int))] 5) (.cells #[.string (letW k), .int .i64 z, .int .i64 1] 74)).frozen (p := ⟨w1.heap.size, 2, none⟩) (by show w1.heap.size < _; omega)).trans nfa)))
          | fail)
        all_goals
          have HFF := HF2.out
          have hBa := HBk.out.trans (hbr2.mono (by omega))
          have hBla := HBl.out.below hbr2 hzn
          first
            | (have hOs := Lib.hid (AccRel.step (F := (fun k => stepT zs k)) (m := D) (x := .int .i64 D) (y := .int .i64 N) (wr := wa) ⟨letW (k : Int), z, 1⟩ (by omega) HFF HLv.out hOa HNv.out hBla hBa (by omega) (by first | omega | (simp; omega)) hown1 ⟨hgrow.os, hgrow.tape, hgrow.output, hgrow.size, hgrow.block⟩ (by first | exact hat | (rw [World.size_alloc]; exact hat))); clear hown1 hgrow hat HFF hBa hBla; go_wp2; go_roundw; (case rel => exact hOs.out); (case measure => simp [intOf]; omega))
            | (have hOs := Lib.hid (AccRel.step (F := (fun k => stepT zs k)) (m := D) (x := .int .i64 D) (y := .int .i64 N) (wr := (wa.alloc (.cells #[.int .u8 (48 + (k : Int))] 5))) ⟨letW (k : Int), z, 1⟩ (by omega) HFF HLv.out (hOa.alloc _) HNv.out (hBla.alloc _) (hBa.alloc (by omega) _) (by omega) (by first | omega | (simp; omega)) hown1 ⟨hgrow.os, hgrow.tape, hgrow.output, hgrow.size, hgrow.block⟩ (by first | exact hat | (rw [World.size_alloc]; exact hat))); clear hown1 hgrow hat HFF hBa hBla; go_wp2; go_roundw; (case rel => exact hOs.out); (case measure => simp [intOf]; omega))
            | fail
    · obtain rfl : k = D := by omega
      have n0 : wr.cell? ⟨w1.heap.size, 0, none⟩ = some (.int .i64 k) := HBl.out.cell 0
      have n1 : wr.cell? ⟨w1.heap.size, 1, none⟩ = some (.int .i64 N) := HBl.out.cell 1
      have n2 : wr.cell? ⟨w1.heap.size, 2, none⟩ = some (.slice av lv cv) := HBl.out.cell 2
      have bc := bcellB HBk.out
      have r0 : wr.cell? ⟨w.heap.size, 0, none⟩ = some (.int .i64 0) := (bc.1 _ _ (by omega)).trans (by go_simp)
      have r1 : wr.cell? ⟨w.heap.size, 1, none⟩ = some (.int .i64 0) := (bc.1 _ _ (by omega)).trans (by go_simp)
      have r2 : wr.cell? ⟨w.heap.size, 2, none⟩ = some (.slice none 0 0) := (bc.1 _ _ (by omega)).trans (by go_simp)
      have z0 : wr.frozen? ⟨w.heap.size, 0, none⟩ = false := (bc.2 _ _ (by omega)).trans (by go_simp)
      have z1 : wr.frozen? ⟨w.heap.size, 1, none⟩ = false := (bc.2 _ _ (by omega)).trans (by go_simp)
      have z2 : wr.frozen? ⟨w.heap.size, 2, none⟩ = false := (bc.2 _ _ (by omega)).trans (by go_simp)
      have HW := Lib.hid ((below1 w _).trans (HBk.out.mono (by omega)))
      clear bc
      go_wp2
      have hO3 := ((HOk.out.far (p := ⟨w.heap.size, 0, none⟩) (own_far HOk.out (n := w.heap.size) (by omega)) (.int .i64 k)).far (p := ⟨w.heap.size, 1, none⟩) (own_far HOk.out (n := w.heap.size) (by omega)) (.int .i64 N)).far (p := ⟨w.heap.size, 2, none⟩) (own_far HOk.out (n := w.heap.size) (by omega)) (.slice av lv cv)
      obtain ⟨a', c', he, hle, hN⟩ := hO3.newRow
      injection he with e1 e2 e3
      subst e1 e3
      refine bodyPost_ret (v := .agg #[.int .i64 k, .int .i64 N, .slice av (stepT zs k).length cv]) (by have h := HLv.out; (try simp only at h); rw [← h]; simp [results, Tryz.results18, go_sem, r0, r1, r2]) rfl ⟨av, cv, rfl, ?_, hN.mono (by omega) (Nat.le_refl _)⟩
      have := HW.out
      go_grown
end Go.Proofs.YteljpgoaaelbfaaGreatDoor

namespace Go.Proofs.YteljpgoaaelbfaaGreatDoor

theorem termsOf_nil_of {f : VF} : ∀ {ws : List ByteArray}, (∀ s ∈ ws, f s = none) → termsOf f ws = []
  | [], _ => rfl
  | s :: ws, h => by
    rw [termsOf_cons', h s (by simp)]
    exact termsOf_nil_of fun t ht => h t (by simp [ht])
theorem stepF_long {x0 x1 x2 : Int} {s : ByteArray} (h : 2 ≤ s.size) : stepF x0 x1 x2 s = none := by
  unfold stepF
  rw [setF_other (fun e => by rw [e, letW_size] at h; omega), setF_other (fun e => by rw [e, letW_size] at h; omega), setF_other (fun e => by rw [e, letW_size] at h; omega)]
  rfl
theorem allW_split {D : Nat} : ∀ {N : Nat}, 1 ≤ N → ∃ r, allW D N = allW D 1 ++ r ∧ ∀ s ∈ r, 2 ≤ s.size
  | 0, h => absurd h (by omega)
  | 1, _ => ⟨[], by simp, fun s hs => by cases hs⟩
  | n + 2, _ => by
    obtain ⟨r, e, hr⟩ := allW_split (D := D) (N := n + 1) (by omega)
    refine ⟨r ++ wordsL D (n + 2), by rw [allW, e, List.append_assoc], fun s hs => ?_⟩
    rcases List.mem_append.1 hs with h | h
    · exact hr s h
    · have := wordsL_size D (n + 2) s h
      omega
def stepV (zs : List Int) : VF := stepF (zs.getD 0 0) (zs.getD 1 0) (zs.getD 2 0)
theorem letW_ne {i j : Nat} (hi : i < 3) (hj : j < 3) (h : i ≠ j) : letW (i : Int) ≠ letW (j : Int) := fun e => by
  have e1 : (UInt8.ofNat (48 + (i : Int)).toNat) = UInt8.ofNat (48 + (j : Int)).toNat := by
    unfold letW at e
    injection e with e
    injection e with e
    injection e with e
  have e2 := congrArg UInt8.toNat e1
  rw [UInt8.toNat_ofNat', UInt8.toNat_ofNat'] at e2
  omega
theorem stepF_empty (x0 x1 x2 : Int) : stepF x0 x1 x2 ByteArray.empty = none := by
  have h : ∀ i : Int, ByteArray.empty ≠ letW i := fun i e => by
    have := congrArg ByteArray.size e
    rw [letW_size] at this
    cases this
  unfold stepF
  rw [setF_other (h 2), setF_other (h 1), setF_other (h 0)]
  rfl
theorem stepF_0 (x0 x1 x2 : Int) : stepF x0 x1 x2 (letW 0) = nzF (x0, 1) := by
  unfold stepF
  rw [setF_other (show letW 0 ≠ letW 2 from letW_ne (i := 0) (j := 2) (by decide) (by decide) (by decide)), setF_other (show letW 0 ≠ letW 1 from letW_ne (i := 0) (j := 1) (by decide) (by decide) (by decide)), setF_same]
theorem stepF_1 (x0 x1 x2 : Int) : stepF x0 x1 x2 (letW 1) = nzF (x1, 1) := by
  unfold stepF
  rw [setF_other (show letW 1 ≠ letW 2 from letW_ne (i := 1) (j := 2) (by decide) (by decide) (by decide)), setF_same]
theorem stepF_2 (x0 x1 x2 : Int) : stepF x0 x1 x2 (letW 2) = nzF (x2, 1) := by
  unfold stepF
  rw [setF_same]
theorem termsOf_nz {f : VF} {s : ByteArray} {x : Int} {ws : List ByteArray} (h : f s = nzF (x, 1)) : termsOf f (s :: ws) = (if x = 0 then [] else [⟨s, x, 1⟩]) ++ termsOf f ws := by
  rw [termsOf_cons', h]
  by_cases h0 : x = 0
  · rw [nzF_0 (show (x, (1 : Int)).1 = 0 from h0), if_pos h0]; rfl
  · rw [nzF_1 (show (x, (1 : Int)).1 ≠ 0 from h0), if_neg h0]; rfl
theorem allW_one (D : Nat) : allW D 1 = ByteArray.empty :: (List.range D).map fun (k : Nat) => letW (k : Int) := by
  have h : wordsL D 1 = (List.range D).map fun (k : Nat) => letW (k : Int) := by
    show nextL D (wordsL D 0) = _
    simp [nextL, wordsL, longer]
  show wordsL D 0 ++ wordsL D 1 = _
  rw [h]
  rfl
/-- the terms of a step's values are the model's -/
theorem step_terms {D N : Nat} (hD : 1 ≤ D ∧ D ≤ 3) (hN : 1 ≤ N) (zs : List Int) : termsOf (stepV zs) (allW D N) = stepT zs D := by
  obtain ⟨r, e, hr⟩ := allW_split (D := D) hN
  rw [e, termsOf_app, termsOf_nil_of (f := stepV zs) (fun s hs => stepF_long (hr s hs)), List.append_nil, allW_one, termsOf_cons', show stepV zs ByteArray.empty = none from stepF_empty _ _ _]
  have hd : D = 1 ∨ D = 2 ∨ D = 3 := by omega
  rcases hd with rfl | rfl | rfl
  · show termsOf (stepV zs) [letW 0] = _
    rw [termsOf_nz (f := stepV zs) (stepF_0 _ _ _)]
    simp [stepT, termsOf]
  · show termsOf (stepV zs) [letW 0, letW 1] = _
    rw [termsOf_nz (f := stepV zs) (stepF_0 _ _ _), termsOf_nz (f := stepV zs) (stepF_1 _ _ _)]
    simp [stepT, termsOf]
  · show termsOf (stepV zs) [letW 0, letW 1, letW 2] = _
    rw [termsOf_nz (f := stepV zs) (stepF_0 _ _ _), termsOf_nz (f := stepV zs) (stepF_1 _ _ _), termsOf_nz (f := stepV zs) (stepF_2 _ _ _)]
    simp [stepT, termsOf]
end Go.Proofs.YteljpgoaaelbfaaGreatDoor
