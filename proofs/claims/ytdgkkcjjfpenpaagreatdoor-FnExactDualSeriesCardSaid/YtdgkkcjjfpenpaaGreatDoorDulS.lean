/-
  Contracts of the model's DualSeries.
-/
import Derived.Test.YtdgkkcjjfpenpaaGreatDoorDulI
import Derived.Test.YtdgkkcjjfpenpaaGreatDoorShmS
import Derived.BigRegion
import Derived.BigQuiet
namespace Go.Proofs.YtdgkkcjjfpenpaaGreatDoor
open Go.RowKit
set_option linter.unusedVariables false
set_option linter.unusedSimpArgs false

theorem pre1_snoc (c : ByteArray) {ys : List Tm} {k : Nat} (hk : k < ys.length) : pre1 c (ys.take (k + 1)) = pre1 c (ys.take k) ++ [⟨c ++ (ys[k]).s, (ys[k]).n, (ys[k]).d⟩] := by
  unfold pre1
  rw [List.take_succ_eq_append_getElem hk, List.map_append]
  rfl
theorem pre1_le (c : ByteArray) {ys : List Tm} {k : Nat} : (pre1 c (ys.take k)).length ≤ ys.length := by
  unfold pre1
  rw [List.length_map, List.length_take]
  omega
theorem made_oneD (w : World) (t : Tm) : Made (w.alloc (.cells #[.string t.s, .int .i64 t.n, .int .i64 t.d] 46)) w.heap.size 3 :=
  ⟨by simp, fun j hj => by
    have h : j = 0 ∨ j = 1 ∨ j = 2 := by omega
    rcases h with rfl | rfl | rfl <;> exact ⟨⟨_, by simp [go_sem]; rfl⟩, by simp⟩⟩
theorem l01OneD_c (d n : Int) (w : World) (s : ByteArray) : Calls Tryz.prog 20 #[.int .i64 d, .int .i64 n, .string s] w fun e w' => e = .returned (.agg #[.int .i64 d, .int .i64 n, .slice (some ⟨w.heap.size + 1, 0, none⟩) 1 1]) ∧ Below w.heap.size w w' ∧ NewRow (w.heap.size + 1) w'.heap.size w' (some ⟨w.heap.size + 1, 0, none⟩) [⟨s, 1, 1⟩] := by
  go_enter Tryz.func20, Tryz.ntmps20
  go_wp2
  have ht := terms_one (w.alloc (.cells #[.int .i64 d, .int .i64 n, .slice (some ⟨w.heap.size + 1, 0, none⟩) 1 1] 24)) ⟨s, 1, 1⟩
  have hm := made_oneD (w.alloc (.cells #[.int .i64 d, .int .i64 n, .slice (some ⟨w.heap.size + 1, 0, none⟩) 1 1] 24)) ⟨s, 1, 1⟩
  simp only [World.size_alloc] at ht hm
  refine bodyPost_ret (v := .agg #[.int .i64 d, .int .i64 n, .slice (some ⟨w.heap.size + 1, 0, none⟩) 1 1]) (by simp [results, Tryz.results20, go_sem]) rfl ⟨rfl, by go_grown, ?_⟩
  exact .of_to (Nat.le_refl _) hm ht
theorem rowF_drewD {B p q : Nat} {w : World} {a : Option Addr} {ts : List Tm} (h : RowF B p q w a ts) : RowF B p q w.drew a ts := h
theorem below_dND {B m : Nat} {W w : World} (h : Below B W w) : Below B W (w.drewN m) := ⟨h.os, h.tape, h.output, h.size, h.block⟩
theorem one_scaled : scaleL 1 1 [⟨ByteArray.empty, 1, 1⟩] = some [⟨ByteArray.empty, 1, 1⟩] := by
  have h1 : fOk (1 * 1) (1 * 1) = true := by decide +kernel
  have h2 : fN (1 * 1) (1 * 1) = 1 := by decide +kernel
  have h3 : fD (1 * 1) (1 * 1) = 1 := by decide +kernel
  simp only [scaleL, okAll, mulT, List.all_cons, List.all_nil, List.map_cons, List.map_nil, h1, h2, h3, Bool.and_true, if_true]
set_option maxRecDepth 100000 in
set_option maxHeartbeats 4000000 in
theorem dualEmpty_c (D N : Nat) (s : ByteArray) (hz : s.size = 0) (w : World) :
    Calls Tryz.prog 11 #[.int .i64 D, .int .i64 N, .string s] w (SumPost D N (some [⟨ByteArray.empty, 1, 1⟩]) w) := by
  have he0 : ((s.size : Int) == 0) = true := by rw [hz]; rfl
  have hz' : (s.size : Int) = 0 := by omega
  clear hz
  go_enter Tryz.func11, Tryz.ntmps11
  go_wp2_with fail
  refine (l01OneD_c (D : Int) (N : Int) _ _).mono ?_
  rintro e w1 ⟨rfl, hb1, hN1⟩
  have HB1 := Lib.hid (show Below (w.heap.size + 1) (w.alloc (.cells #[.int .i64 0, .int .i64 0, .slice none 0 0] 24)) w1 from by simpa using hb1)
  have hz1 : w.heap.size < w1.heap.size := by have := hb1.size; simp at this; omega
  have HN1 := Lib.hid (show NewRow (w.heap.size + 1) w1.heap.size w1 (some ⟨(w.alloc (.cells #[.int .i64 0, .int .i64 0, .slice none 0 0] 24)).heap.size + 1, 0, none⟩) [⟨ByteArray.empty, 1, 1⟩] from hN1.mono (by simp) (Nat.le_refl _))
  have bc := bcellB HB1.out
  have r0 : w1.cell? ⟨w.heap.size, 0, none⟩ = some (.int .i64 0) := (bc.1 _ _ (by omega)).trans (by go_simp)
  have r1 : w1.cell? ⟨w.heap.size, 1, none⟩ = some (.int .i64 0) := (bc.1 _ _ (by omega)).trans (by go_simp)
  have r2 : w1.cell? ⟨w.heap.size, 2, none⟩ = some (.slice none 0 0) := (bc.1 _ _ (by omega)).trans (by go_simp)
  have z0 : w1.frozen? ⟨w.heap.size, 0, none⟩ = false := (bc.2 _ _ (by omega)).trans (by go_simp)
  have z1 : w1.frozen? ⟨w.heap.size, 1, none⟩ = false := (bc.2 _ _ (by omega)).trans (by go_simp)
  have z2 : w1.frozen? ⟨w.heap.size, 2, none⟩ = false := (bc.2 _ _ (by omega)).trans (by go_simp)
  have hzb : w.heap.size < w1.heap.size := (by omega)
  clear bc
  have HWz := Lib.hid ((below1 w _).trans (HB1.out.mono (Nat.le_succ _)))
  clear hb1 hN1
  (try (simp only []; go_at_K))
  repeat (first | go_values | go_skip | go_guarded | go_step | go_upon)
  (try simp only [Exit.inBlock, Exit.then])
  refine bodyPost_ret (v := .tuple #[.agg #[.int .i64 D, .int .i64 N, .slice (some ⟨(w.alloc (.cells #[.int .i64 0, .int .i64 0, .slice none 0 0] 24)).heap.size + 1, 0, none⟩) 1 1], .bool true]) (by simp [results, Tryz.results11, go_sem, r0, r1, r2, hzb]) rfl ?_
  refine ⟨_, 1, rfl, by have hW := HWz.out; go_grown, ?_⟩
  exact (HN1.out.far3 (by omega)).mono (by omega) (Nat.le_refl _)

set_option maxRecDepth 100000 in
set_option maxHeartbeats 8000000 in
theorem dualLynS_c (D N : Nat) (s : ByteArray) (r : Option (List Tm)) (hl : lynB s = true) (hz : s.size ≤ 5) (hr : ∀ ys, r = some ys → OneLen D N (endS s 1).size ys ∧ ys ≠ [])
    (H : ∀ W : World, Calls Tryz.prog 11 #[.int .i64 D, .int .i64 N, .string (endS s 1)] W (SumPost D N r W)) (w : World) :
    Calls Tryz.prog 11 #[.int .i64 D, .int .i64 N, .string s] w (SumPost D N (r.map (pre1 (s.extract 0 1))) w) := by
  obtain ⟨i0, hi0, hi1, hi2, hi3⟩ := info_parts info_term
  have HL := Lib.hid hl
  have HC := Lib.hid H
  have h0 := (lynB_true hl).1
  have he0 : ((s.size : Int) == 0) = false := by rw [beq_eq_false_iff_ne]; omega
  have h1i : (1 : Int) ≤ (s.size : Int) := by omega
  have hsm : s.size ≤ maxLen := by unfold maxLen; omega
  have HRy := Lib.hid hr
  clear hl H hr
  go_enter Tryz.func11, Tryz.ntmps11
  go_wp2_with (first | (go_at_call 21; refine (l05Lyndon_c _ hsm _).mono ?_; rw [HL.out]; rintro e w' ⟨rfl, rfl⟩) | fail)
  refine (HC.out _).mono ?_
  cases r with
  | none =>
    have HZ := Lib.hid (show Option.map (pre1 (s.extract 0 1)) none = none from rfl)
    rintro e w2 ⟨rfl, hb2⟩
    have HB2 := Lib.hid (show Below (w.heap.size + 1) (w.alloc (.cells #[.int .i64 0, .int .i64 0, .slice none 0 0] 24)) w2 from by simpa using hb2)
    have hz2 : w.heap.size < w2.heap.size := by have := hb2.size; simp at this; omega
    clear hb2
    have bc := bcellB HB2.out
    have r0 : w2.cell? ⟨w.heap.size, 0, none⟩ = some (.int .i64 0) := (bc.1 _ _ (by omega)).trans (by go_simp)
    have r1 : w2.cell? ⟨w.heap.size, 1, none⟩ = some (.int .i64 0) := (bc.1 _ _ (by omega)).trans (by go_simp)
    have r2 : w2.cell? ⟨w.heap.size, 2, none⟩ = some (.slice none 0 0) := (bc.1 _ _ (by omega)).trans (by go_simp)
    have z0 : w2.frozen? ⟨w.heap.size, 0, none⟩ = false := (bc.2 _ _ (by omega)).trans (by go_simp)
    have z1 : w2.frozen? ⟨w.heap.size, 1, none⟩ = false := (bc.2 _ _ (by omega)).trans (by go_simp)
    have z2 : w2.frozen? ⟨w.heap.size, 2, none⟩ = false := (bc.2 _ _ (by omega)).trans (by go_simp)
    have hzb : w.heap.size < w2.heap.size := (by omega)
    clear bc
    have HWz := Lib.hid ((below1 w _).trans (HB2.out.mono (Nat.le_succ _)))
    (try (simp only []; go_at_K))
    repeat (first | go_values | go_skip | go_guarded | go_step | go_upon)
    rw [HZ.out]
    (try simp only [Exit.inBlock, Exit.then])
    refine bodyPost_ret (v := .tuple #[.agg #[.int .i64 0, .int .i64 0, .slice none 0 0], .bool false]) (by simp [results, Tryz.results11, go_sem, r0, r1, r2, hzb]) rfl ?_
    exact ⟨rfl, by have hW := HWz.out; go_grown⟩
  | some ys =>
    rintro e w2 ⟨a2, c2, rfl, hb2, hN2⟩
    have hz2 : w.heap.size < w2.heap.size := by have := hb2.size; simp at this; omega
    have HB2 := Lib.hid (show Below (w.heap.size + 1) (w.alloc (.cells #[.int .i64 0, .int .i64 0, .slice none 0 0] 24)) w2 from by simpa using hb2)
    obtain ⟨hys, hne⟩ := HRy.out ys rfl
    have hfew := ser_few hys.1
    have HSz := Lib.hid (fun i (h : i < ys.length) => show (ys[i]).s.size ≤ 5 from by have := hys.2 _ (List.getElem_mem h); rw [endS_size] at this; omega)
    have hNx : NewRow (w.heap.size + 1) w2.heap.size w2 a2 ys := by simpa using hN2
    clear hb2 hN2
    rcases hNx with h | ⟨g, rfl, hg1, hg2, hMd, hTi⟩
    · exact absurd h hne
    have HTi := Lib.hid hTi
    clear hys hne hMd hTi HRy
    go_wp2_with fail
    refine (l01Empty_c D N _ rfl _).mono ?_
    rintro e w3 ⟨g3, rfl, hO3, hb3⟩
    have HO3 := Lib.hid (show OwnT w3 (w2.heap.size + 1) (.slice (some ⟨g3, 0, none⟩) 0 0) [] from by simpa using hO3)
    have HB3 := Lib.hid (show Below (w2.heap.size + 1) (w2.alloc (.cells #[.int .i64 D, .int .i64 N, .slice (some ⟨g, 0, none⟩) ys.length c2] 24)) w3 from by simpa using hb3)
    have hz3 : w2.heap.size + 1 ≤ w3.heap.size := by have := HB3.out.size; simpa using this
    clear hb3 hO3
    go_wp2_with fail
    go_loopw [11] (AccRel (fun k => pre1 (s.extract 0 1) (ys.take k)) ys.length (w2.heap.size + 1) w3.heap.size (.int .i64 D) (.int .i64 N) (w2.alloc (.cells #[.int .i64 D, .int .i64 N, .slice (some ⟨g, 0, none⟩) ys.length c2] 24))) (fun vi _ => ys.length - (intOf vi).toNat)
    case atStart =>
      exact ⟨0, _, 0, 0, Nat.zero_le _, rfl, rfl, by simpa [pre1] using HO3.out.alloc _, fun e => by have := (HO3.out.lt _ e).2; omega, Blk.new _ _ _, HB3.out.alloc (by omega) _⟩
    case round =>
      obtain ⟨k, av, lv, cv, hk, rfl, hlv, hOk, hnv, hBl, hB⟩ := hrel
      have HLv := Lib.hid hlv
      have HOk := Lib.hid hOk
      have HBl := Lib.hid hBl
      have HBk := Lib.hid hB
      have HNv := Lib.hid hnv
      have hzn := hBl.lt
      have hzr := hB.size
      simp only [World.size_alloc] at hzr
      have bc := bcellB hB
      have x2 : wr.cell? ⟨w2.heap.size, 2, none⟩ = some (.slice (some ⟨g, 0, none⟩) ys.length c2) := (bc.1 _ _ (by omega)).trans (by go_simp)
      clear hlv hOk hBl hB hnv bc
      by_cases hlt : k < ys.length
      · have HFS := Lib.hid (pre1_snoc (s.extract 0 1) hlt)
        have HFL := Lib.hid (pre1_le (s.extract 0 1) (ys := ys) (k := k))
        obtain ⟨d0, d1, d2⟩ := HTi.out.below ((below1 w2 _).trans (HBk.out.mono (Nat.le_succ _))) hg2 k hlt
        have hsz := HSz.out k hlt
        obtain ⟨t, n, d, het⟩ : ∃ t n d, ys[k] = ⟨t, n, d⟩ := ⟨_, _, _, rfl⟩
        rw [het] at d0 d1 d2 hsz HFS
        simp only [Nat.zero_add] at d0 d1 d2 hsz HFS
        clear het
        have hgr : g < wr.heap.size := by omega
        have hw2r : w2.heap.size < wr.heap.size := by omega
        have n2 : wr.cell? ⟨w3.heap.size, 2, none⟩ = some (.slice av lv cv) := HBl.out.cell 2
        have nf : wr.frozen? ⟨w3.heap.size, 2, none⟩ = false := HBl.out.frozen 2
        have e0 := Ne.symm (own_far HOk.out (n := w2.heap.size) (by omega))
        have e1 := Ne.symm (own_far HOk.out (n := g) (by omega))
        have e2 := Ne.symm HNv.out
        have nf2 : (wr.alloc (.cells #[.string (s.extract 0 1 ++ t), .int .i64 n, .int .i64 d] 46)).drew.frozen? ⟨w3.heap.size, 2, none⟩ = false := (frozen_alloc_lt _ hzn).trans nf
        have nc2 : (wr.alloc (.cells #[.string (s.extract 0 1 ++ t), .int .i64 n, .int .i64 d] 46)).drew.cell? ⟨w3.heap.size, 2, none⟩ = some (.slice av lv cv) := ((below1 wr _).cell (p := ⟨w3.heap.size, 2, none⟩) hzn).trans n2
        have hcat : ¬ 9223372036854775807 < min 1 s.size + t.size := by omega
        go_wp2_with fail
        go_region_law
          ((refine step_append_lies _ (by rfl) _ _ _ (by rfl) (w2.heap.size + 1) 46 i0 _ 3 32 Tryz.underlying22 hi0 hi1 hi2 hi3 rfl (by omega) (.slice av lv cv) lv (cellsT (pre1 (s.extract 0 1) (ys.take k))) (by rfl) (by have h := HOk.out; unfold OwnT at h; rw [← HLv.out] at h; exact (h.alloc _).drew)
              ⟨wr.heap.size, 0, none⟩ 1 1 [.string (s.extract 0 1 ++ t), .int .i64 n, .int .i64 d] (by rfl) (by rfl) (World.news_of_block (cs := #[.string (s.extract 0 1 ++ t), .int .i64 n, .int .i64 d]) (t := 46) (fr := (0, 0)) (heap_alloc_new wr _)) (by simp [Value.oneCell'])
              (by omega) (by have := HFL.out; rw [← HLv.out] at this; unfold maxLen; omega) (by have := HFL.out; rw [← HLv.out] at this; omega) (by simp; omega) (wr.heap.size + 1) (by simp) ?_; intro gg cg w5 hown1 hgrow hat hlt2; have q0 := (hgrow.cell_far ⟨w3.heap.size, 2, none⟩ (by simp; omega) e2).trans nc2; have q1 := (hgrow.frozen_far ⟨w3.heap.size, 2, none⟩ (by simp; omega) e2).trans nf2))
        all_goals
          have hOs := Lib.hid (AccRel.step (F := fun k => pre1 (s.extract 0 1) (ys.take k)) (m := ys.length) (x := .int .i64 D) (y := .int .i64 N) ⟨s.extract 0 1 ++ t, n, d⟩ (by omega) HFS.out HLv.out HOk.out HNv.out HBl.out HBk.out (by omega) (by omega) hown1 hgrow hat)
          clear hown1 hgrow hat
          go_wp2
          go_roundw
          case rel => exact hOs.out
          case measure => simp [intOf]; omega
      · obtain rfl : k = ys.length := by omega
        have m0 : wr.cell? ⟨w3.heap.size, 0, none⟩ = some (.int .i64 D) := HBl.out.cell 0
        have m1 : wr.cell? ⟨w3.heap.size, 1, none⟩ = some (.int .i64 N) := HBl.out.cell 1
        have m2 : wr.cell? ⟨w3.heap.size, 2, none⟩ = some (.slice av lv cv) := HBl.out.cell 2
        have HBz := Lib.hid ((HB2.out.alloc (by omega) (.cells #[.int .i64 D, .int .i64 N, .slice (some ⟨g, 0, none⟩) ys.length c2] 24)).trans (HBk.out.mono (by omega)))
        have bc := bcellB HBz.out
        have r0 : wr.cell? ⟨w.heap.size, 0, none⟩ = some (.int .i64 0) := (bc.1 _ _ (by omega)).trans (by go_simp)
        have r1 : wr.cell? ⟨w.heap.size, 1, none⟩ = some (.int .i64 0) := (bc.1 _ _ (by omega)).trans (by go_simp)
        have r2 : wr.cell? ⟨w.heap.size, 2, none⟩ = some (.slice none 0 0) := (bc.1 _ _ (by omega)).trans (by go_simp)
        have z0 : wr.frozen? ⟨w.heap.size, 0, none⟩ = false := (bc.2 _ _ (by omega)).trans (by go_simp)
        have z1 : wr.frozen? ⟨w.heap.size, 1, none⟩ = false := (bc.2 _ _ (by omega)).trans (by go_simp)
        have z2 : wr.frozen? ⟨w.heap.size, 2, none⟩ = false := (bc.2 _ _ (by omega)).trans (by go_simp)
        have hzb : w.heap.size < wr.heap.size := (by omega)
        clear bc
        have HWz := Lib.hid ((below1 w _).trans (HBz.out.mono (Nat.le_succ _)))
        have hE : pre1 (s.extract 0 1) (ys.take ys.length) = pre1 (s.extract 0 1) ys := by rw [List.take_length]
        have HO2 := Lib.hid (show OwnT wr (w2.heap.size + 1) (.slice av lv cv) (pre1 (s.extract 0 1) ys) from by rw [← hE]; exact HOk.out)
        have HL2 := Lib.hid (show lv = (pre1 (s.extract 0 1) ys).length from by rw [← hE]; exact HLv.out)
        clear hE
        repeat (first | go_values | go_skip | go_guarded | go_step | go_upon)
        (try simp only [Exit.inBlock, Exit.then])
        have hO3 := ((HO2.out.far (p := ⟨w.heap.size, 0, none⟩) (own_far HO2.out (n := w.heap.size) (by omega)) (.int .i64 D)).far (p := ⟨w.heap.size, 1, none⟩) (own_far HO2.out (n := w.heap.size) (by omega)) (.int .i64 N)).far (p := ⟨w.heap.size, 2, none⟩) (own_far HO2.out (n := w.heap.size) (by omega)) (.slice av lv cv)
        obtain ⟨a', c', he, hle, hNr⟩ := hO3.newRow
        injection he with e1 e2 e3
        subst e1 e3
        refine bodyPost_ret (v := .tuple #[.agg #[.int .i64 D, .int .i64 N, .slice av (pre1 (s.extract 0 1) ys).length cv], .bool true]) (by rw [← HL2.out]; simp [results, Tryz.results11, go_sem, r0, r1, r2, hzb]) rfl ⟨av, cv, rfl, ?_, hNr.mono (by omega) (Nat.le_refl _)⟩
        have hW := HWz.out
        go_grown

set_option maxRecDepth 100000 in
set_option maxHeartbeats 8000000 in
theorem dualFacS_c (D N : Nat) (hD : 1 ≤ D ∧ D ≤ 3) (hN : N ≤ 5) (hs : shapeB (D : Int) (N : Int) = true) (s : ByteArray) (hl : lynB s = false) (h0 : 0 < s.size) (hz : s.size ≤ 5) (fs : List ByteArray) (hf : Facts s fs) (os : List (Option (List Tm))) (hok : DualsOk D N fs os) (hl5 : fs.length ≤ 5)
    (H : ∀ i (h : i < fs.length) (h' : i < os.length) (W : World), Calls Tryz.prog 11 #[.int .i64 D, .int .i64 N, .string fs[i]] W (SumPost D N os[i] W)) (w : World) :
    Calls Tryz.prog 11 #[.int .i64 D, .int .i64 N, .string s] w (SumPost D N ((mulD D N os (some [⟨ByteArray.empty, 1, 1⟩])).bind (scaleL 1 (ordG none 0 1 fs))) w) := by
  have HL := Lib.hid hl
  have HOK := Lib.hid hok
  have HC := Lib.hid H
  have HSh := Lib.hid hs
  have hol := hok.1
  have he0 : ((s.size : Int) == 0) = false := by rw [beq_eq_false_iff_ne]; omega
  have h1i : (1 : Int) ≤ (s.size : Int) := by omega
  have hsm : s.size ≤ maxLen := by unfold maxLen; omega
  have hord := ordG_bd fs none 0 1 (by omega) (by omega) (by omega)
  have hp5 := pow5_le hl5
  have HQ := Lib.hid (show 1 ≤ ordG none 0 1 fs ∧ ordG none 0 1 fs ≤ 1000000000 from ⟨hord.1, by have := hord.2; omega⟩)
  have HFc := Lib.hid (fun W => l05Factors_c s fs hf (by omega) W)
  obtain ⟨o, ho⟩ : ∃ o, (mulD D N os (some [⟨ByteArray.empty, 1, 1⟩])).bind (scaleL 1 (ordG none 0 1 fs)) = o := ⟨_, rfl⟩
  have HO := Lib.hid ho
  rw [ho]
  have HOn := Lib.hid (fun (h : mulD D N os (some [⟨ByteArray.empty, 1, 1⟩]) = none) => show o = none from by rw [← HO.out, h]; rfl)
  clear hl hok H hs hord hp5 ho hf
  go_enter Tryz.func11, Tryz.ntmps11
  go_wp2_with (first | (go_at_call 21; refine (l05Lyndon_c _ hsm _).mono ?_; rw [HL.out]; rintro e w' ⟨rfl, rfl⟩) | fail)
  refine (HFc.out _).mono ?_
  rintro e w1 ⟨a1, c1, rfl, hb1, hN1⟩
  have HB1 := Lib.hid (show Below (w.heap.size + 1) (w.alloc (.cells #[.int .i64 0, .int .i64 0, .slice none 0 0] 24)) w1 from by simpa using hb1)
  have hz1 : w.heap.size < w1.heap.size := by have := hb1.size; simp at this; omega
  have HR := Lib.hid (show SRow w1 a1 fs from by rcases hN1 with h | ⟨g, e, _, h2, _, h4⟩; exact .inl h; exact .inr ⟨g, 0, e, h2, h4⟩)
  clear hb1 hN1
  go_wp2_with fail
  refine (l01OneD_c (D : Int) (N : Int) _ _).mono ?_
  rintro e w2 ⟨rfl, hb2, hN2⟩
  have HB2 := Lib.hid (HB1.out.trans (hb2.mono (by omega)))
  have HR2 := Lib.hid (HR.out.below hb2 (Nat.le_refl _))
  have hz2 : w1.heap.size ≤ w2.heap.size := hb2.size
  have HN2 := Lib.hid (show NewRow (w.heap.size + 1) w2.heap.size w2 (some ⟨w1.heap.size + 1, 0, none⟩) [⟨ByteArray.empty, 1, 1⟩] from hN2.mono (by omega) (Nat.le_refl _))
  clear hb2 hN2
  go_wp2_with fail
  go_loopw [14, 15, 16] (fun vp ve vk wr => ∃ (k : Nat) (p e : Int) (x : List Tm) (a : Option Addr) (c : Nat), k ≤ fs.length ∧ vp = .int .i64 p ∧ ve = .int .i64 e ∧ vk = .int .i64 k ∧ OrdAt fs k p e ∧ MulAt D N fs os k x ∧ T3 wr w2.heap.size (.int .i64 D) (.int .i64 N) (.slice a x.length c) ∧ RowF (w.heap.size + 1) w2.heap.size w2.heap.size wr a x ∧ Below (w.heap.size + 1) (w.alloc (.cells #[.int .i64 0, .int .i64 0, .slice none 0 0] 24)) wr ∧ Below w2.heap.size w2 wr) (fun _ _ vk _ => fs.length - (intOf vk).toNat)
  case atStart =>
    exact ⟨0, 1, 0, [⟨ByteArray.empty, 1, 1⟩], some ⟨w1.heap.size + 1, 0, none⟩, 1, Nat.zero_le _, rfl, rfl, rfl, OrdAt.start fs, MulAt.start HSh.out fs os, T3.new _ _ _ _ _ _ _, (RowF.of HN2.out (Nat.le_refl _) (.inr (Nat.le_refl _)) (.inr (Nat.le_refl _))).alloc _, HB2.out.alloc (by omega) _, below1 _ _⟩
  case round =>
    obtain ⟨k, p, e, x, a, c, hk, rfl, rfl, rfl, hOA, hM, hT, hF, hB, hBq⟩ := hrel
    obtain ⟨p1, p2, e1, e2⟩ := hOA.bd (by omega)
    have HOA := Lib.hid hOA
    have HM := Lib.hid hM
    have HT := Lib.hid hT
    have HF := Lib.hid hF
    have HB := Lib.hid hB
    have HBq := Lib.hid hBq
    have hzt := hT.1
    have hzr := hB.size
    simp only [World.size_alloc] at hzr
    clear hM hT hF hB hOA hBq
    by_cases hlt : k < fs.length
    · have hko : k < os.length := by omega
      have HCk := Lib.hid (HC.out k hlt hko)
      have HCell := Lib.hid (show ∀ wq, Below w2.heap.size w2 wq → ∃ b off, a1 = some ⟨b, off, none⟩ ∧ b < w2.heap.size ∧ ∀ i (hi : i < fs.length), wq.cell? ⟨b, off + i, none⟩ = some (.string fs[i]) from fun wq hq => by
        rcases HR2.out with h0 | ⟨b, off, e, hb, hS⟩
        · rw [h0] at hlt; simp at hlt
        · exact ⟨b, off, e, hb, fun i hi => hS.below hq hb i hi⟩)
      obtain ⟨b, off, rfl, hb, hcell⟩ := HCell.out wr HBq.out
      have c0 := hcell k hlt
      have HCl := Lib.hid (show ∀ wq, Below wr.heap.size wr wq → ∀ i (hi : i < fs.length), wq.cell? ⟨b, off + i, none⟩ = some (.string fs[i]) from fun wq hq i hi => (hq.cell (p := ⟨b, off + i, none⟩) (by show b < wr.heap.size; omega)).trans (hcell i hi))
      have hbz : b < wr.heap.size := by omega
      clear HCell hcell
      go_wp2_with fail
      refine (HCk.out _).mono ?_
      cases hok : os[k] with
      | none =>
        have HZ := Lib.hid (HOn.out (HM.out.none hko hok))
        rintro e w3 ⟨rfl, hb3⟩
        have HB3 := Lib.hid (HB.out.trans (hb3.mono (by omega)))
        have hz3 := hb3.size
        clear hb3 hok c0
        have bc := bcellB HB3.out
        have r0 : w3.cell? ⟨w.heap.size, 0, none⟩ = some (.int .i64 0) := (bc.1 _ _ (by omega)).trans (by go_simp)
        have r1 : w3.cell? ⟨w.heap.size, 1, none⟩ = some (.int .i64 0) := (bc.1 _ _ (by omega)).trans (by go_simp)
        have r2 : w3.cell? ⟨w.heap.size, 2, none⟩ = some (.slice none 0 0) := (bc.1 _ _ (by omega)).trans (by go_simp)
        have z0 : w3.frozen? ⟨w.heap.size, 0, none⟩ = false := (bc.2 _ _ (by omega)).trans (by go_simp)
        have z1 : w3.frozen? ⟨w.heap.size, 1, none⟩ = false := (bc.2 _ _ (by omega)).trans (by go_simp)
        have z2 : w3.frozen? ⟨w.heap.size, 2, none⟩ = false := (bc.2 _ _ (by omega)).trans (by go_simp)
        have hzb : w.heap.size < w3.heap.size := (by omega)
        clear bc
        have HWz := Lib.hid ((below1 w _).trans (HB3.out.mono (Nat.le_succ _)))
        (try (simp only []; go_at_K))
        repeat (first | go_values | go_skip | go_guarded | go_step | go_upon)
        rw [HZ.out]
        (try simp only [Exit.inBlock, Exit.then])
        refine bodyPost_ret (v := .tuple #[.agg #[.int .i64 0, .int .i64 0, .slice none 0 0], .bool false]) (by simp [results, Tryz.results11, go_sem, r0, r1, r2, hzb]) rfl ?_
        exact ⟨rfl, by have hW := HWz.out; go_grown⟩
      | some y =>
        have HYk := Lib.hid (HOK.out.2.2 k hlt hko y hok)
        rintro e w3 ⟨a3, c3, rfl, hb3, hN3⟩
        have HB3 := Lib.hid (HB.out.trans (hb3.mono (by omega)))
        have HBq3 := Lib.hid hb3
        have HT3 := Lib.hid (HT.out.next hb3)
        have HF3 := Lib.hid (HF.out.below hb3)
        have HN3 := Lib.hid hN3
        have hz3 := hb3.size
        have hsx := HM.out.2.1.1
        have hsy := HYk.out.1.1
        have HSh2 := Lib.hid (fun W (t1 : Row W a x) (t2 : Row W a3 y) => (show Calls Tryz.prog 24 #[.agg #[.int .i64 D, .int .i64 N, .slice a x.length c], .agg #[.int .i64 D, .int .i64 N, .slice a3 y.length c3], .bool false] W (SumPost D N (shsL D N x y) W) from l03Shuffle_c D N hD hN a a3 c c3 x y hsx hsy (by have := ser_few hsx; omega) (by have := ser_few hsy; omega) W t1 t2))
        obtain ⟨hzt3, t0, t1, t2, -, -, -⟩ := HT3.out
        clear hb3 hN3 c0 hsx hsy
        go_wp2_with fail
        refine (HSh2.out _ ?_ ?_).mono ?_
        · exact (HF3.out.alloc _).newRow.row
        · exact (HN3.out.below (below1 _ _) (Nat.le_refl _)).row
        have HBa := Lib.hid (HB3.out.alloc (by omega) (.cells #[.int .i64 D, .int .i64 N, .slice a3 y.length c3] 24))
        cases hr : shsL D N x y with
        | none =>
          have HZ := Lib.hid (HOn.out (HM.out.dead hko hok hr))
          rintro e w4 ⟨rfl, hb4⟩
          have HB4 := Lib.hid (HBa.out.trans (hb4.mono (by simp; omega)))
          have hz4 := hb4.size
          simp only [World.size_alloc] at hz4
          clear hb4 hok hr t0 t1 t2
          have bc := bcellB HB4.out
          have r0 : w4.cell? ⟨w.heap.size, 0, none⟩ = some (.int .i64 0) := (bc.1 _ _ (by omega)).trans (by go_simp)
          have r1 : w4.cell? ⟨w.heap.size, 1, none⟩ = some (.int .i64 0) := (bc.1 _ _ (by omega)).trans (by go_simp)
          have r2 : w4.cell? ⟨w.heap.size, 2, none⟩ = some (.slice none 0 0) := (bc.1 _ _ (by omega)).trans (by go_simp)
          have z0 : w4.frozen? ⟨w.heap.size, 0, none⟩ = false := (bc.2 _ _ (by omega)).trans (by go_simp)
          have z1 : w4.frozen? ⟨w.heap.size, 1, none⟩ = false := (bc.2 _ _ (by omega)).trans (by go_simp)
          have z2 : w4.frozen? ⟨w.heap.size, 2, none⟩ = false := (bc.2 _ _ (by omega)).trans (by go_simp)
          have hzb : w.heap.size < w4.heap.size := (by omega)
          clear bc
          have HWz := Lib.hid ((below1 w _).trans (HB4.out.mono (Nat.le_succ _)))
          (try (simp only []; go_at_K))
          repeat (first | go_values | go_skip | go_guarded | go_step | go_upon)
          rw [HZ.out]
          (try simp only [Exit.inBlock, Exit.then])
          refine bodyPost_ret (v := .tuple #[.agg #[.int .i64 0, .int .i64 0, .slice none 0 0], .bool false]) (by simp [results, Tryz.results11, go_sem, r0, r1, r2, hzb]) rfl ?_
          exact ⟨rfl, by have hW := HWz.out; go_grown⟩
        | some z =>
          have HMn := Lib.hid (HM.out.next (by omega) hN HSh.out HOK.out hlt hko hok hr)
          rintro e w4 ⟨a4, c4, rfl, hb4, hN4⟩
          have HB4 := Lib.hid (HBa.out.trans (hb4.mono (by simp; omega)))
          have hz4 := hb4.size
          simp only [World.size_alloc] at hz4
          have HBq4 := Lib.hid (HBq3.out.trans ((below1 w3 (.cells #[.int .i64 D, .int .i64 N, .slice a3 y.length c3] 24)).trans (hb4.mono (by simp)) |>.mono hz3))
          have HT4 := Lib.hid ((HT3.out.alloc (.cells #[.int .i64 D, .int .i64 N, .slice a3 y.length c3] 24)).next hb4)
          have HN4 := Lib.hid (show NewRow (w3.heap.size + 1) w4.heap.size w4 a4 z from by simpa using hN4)
          obtain ⟨u0, t0', t1', t2', f0, f1, f2⟩ := HT4.out
          have c0 := HCl.out w4 HBq4.out k hlt
          have hb4z : b < w4.heap.size := by omega
          have hne13 : w2.heap.size ≠ b := by omega
          have HRel := Lib.hid (show T3 ((((w4.setCell ⟨w2.heap.size, 0, none⟩ (.int .i64 D)).setCell ⟨w2.heap.size, 1, none⟩ (.int .i64 N)).setCell ⟨w2.heap.size, 2, none⟩ (.slice a4 z.length c4)).alloc (.cells #[.int .i64 D, .int .i64 N, .slice a4 z.length c4] 24)) w2.heap.size (.int .i64 D) (.int .i64 N) (.slice a4 z.length c4) ∧ RowF (w.heap.size + 1) w2.heap.size w2.heap.size ((((w4.setCell ⟨w2.heap.size, 0, none⟩ (.int .i64 D)).setCell ⟨w2.heap.size, 1, none⟩ (.int .i64 N)).setCell ⟨w2.heap.size, 2, none⟩ (.slice a4 z.length c4)).alloc (.cells #[.int .i64 D, .int .i64 N, .slice a4 z.length c4] 24)) a4 z ∧ Below (w.heap.size + 1) (w.alloc (.cells #[.int .i64 0, .int .i64 0, .slice none 0 0] 24)) ((((w4.setCell ⟨w2.heap.size, 0, none⟩ (.int .i64 D)).setCell ⟨w2.heap.size, 1, none⟩ (.int .i64 N)).setCell ⟨w2.heap.size, 2, none⟩ (.slice a4 z.length c4)).alloc (.cells #[.int .i64 D, .int .i64 N, .slice a4 z.length c4] 24)) ∧ Below w2.heap.size w2 ((((w4.setCell ⟨w2.heap.size, 0, none⟩ (.int .i64 D)).setCell ⟨w2.heap.size, 1, none⟩ (.int .i64 N)).setCell ⟨w2.heap.size, 2, none⟩ (.slice a4 z.length c4)).alloc (.cells #[.int .i64 D, .int .i64 N, .slice a4 z.length c4] 24)) from by
            refine ⟨HT4.out.set3.alloc _, ?_, ?_, ?_⟩
            · exact ((((RowF.of HN4.out (by omega) (.inl (by omega)) (.inl (by omega))).set (.inl rfl)).set (.inl rfl)).set (.inl rfl)).alloc _
            · exact (((HB4.out.setCell (p := ⟨w2.heap.size, 0, none⟩) (by show _ ≤ w2.heap.size; omega) _).setCell (p := ⟨w2.heap.size, 1, none⟩) (by show _ ≤ w2.heap.size; omega) _).setCell (p := ⟨w2.heap.size, 2, none⟩) (by show _ ≤ w2.heap.size; omega) _).alloc (by simp; omega) _
            · exact ((((HBq.out.trans (HBq4.out.mono (by omega))).setCell (p := ⟨w2.heap.size, 0, none⟩) (Nat.le_refl _) _).setCell (p := ⟨w2.heap.size, 1, none⟩) (Nat.le_refl _) _).setCell (p := ⟨w2.heap.size, 2, none⟩) (Nat.le_refl _) _).alloc (by simp; omega) _)
          clear hb4 hN4 hok hr t0 t1 t2
          have hprev : ∀ (hk0 : ¬ k = 0), prevO fs k = some fs[k - 1] := fun hk0 => by unfold prevO; rw [if_neg hk0, List.getElem?_eq_getElem (by omega)]
          by_cases hk0 : k = 0
          · obtain rfl : e = 0 := by have := HOA.out.2.1; omega
            have HN := Lib.hid (HOA.out.other hlt (by unfold prevO; rw [if_pos hk0]; simp))
            have hg : decide (0 < k) = false := by simp [hk0]
            have hg2 : decide ((0 : Int) < (k : Int)) = false := by simp [hk0]
            clear hprev HOA
            go_wp2_with fail
            go_quiet (fail)
            go_wp2
            go_roundw
            case rel => exact ⟨k + 1, p * 1, 1, z, a4, c4, by omega, by go_num, by go_num, by go_num, HN.out, HMn.out, HRel.out.1, HRel.out.2.1, below_dND HRel.out.2.2.1, below_dND HRel.out.2.2.2⟩
            case measure => simp [intOf]; omega
          · have c1 := HCl.out w4 HBq4.out (k - 1) (by omega)
            have hix : ((k - 1 : Nat) : Int) = (k : Int) - 1 := by omega
            have hg : decide (0 < k) = true := by simp; omega
            have hg2 : decide ((0 : Int) < (k : Int)) = true := by simp; omega
            have hpv := hprev hk0
            by_cases he : fs[k - 1] = fs[k]
            · obtain ⟨hN, m1, m2⟩ := HOA.out.same hlt hl5 (by rw [hpv, he])
              have HN := Lib.hid hN
              rw [he] at c1
              obtain ⟨u, hu⟩ : ∃ u, fs[k] = u := ⟨_, rfl⟩
              rw [hu] at c0 c1
              have hqs := str_eq_same u
              have hqs2 : (u.toList != u.toList) = false := by simp
              clear hN hpv he hu HOA hprev
              go_wp2_with fail
              go_quiet (fail)
              go_wp2
              go_roundw
              case rel => exact ⟨k + 1, p * (e + 1), e + 1, z, a4, c4, by omega, by go_num, by go_num, by go_num, HN.out, HMn.out, HRel.out.1, HRel.out.2.1, below_dND HRel.out.2.2.1, below_dND HRel.out.2.2.2⟩
              case measure => simp [intOf]; omega
            · have HN := Lib.hid (HOA.out.other hlt (by rw [hpv]; simpa using he))
              obtain ⟨u, hu⟩ : ∃ u, fs[k] = u := ⟨_, rfl⟩
              obtain ⟨v, hv⟩ : ∃ v, fs[k - 1] = v := ⟨_, rfl⟩
              rw [hu] at c0 he
              rw [hv] at c1 he
              have hq := str_eq_other (fun h => he h.symm : u ≠ v)
              have hq3 : (u.toList != v.toList) = true := by simp [bne, hq]
              clear hpv he hu hv HOA hprev
              go_wp2_with fail
              go_quiet (fail)
              go_wp2
              go_roundw
              case rel => exact ⟨k + 1, p * 1, 1, z, a4, c4, by omega, by go_num, by go_num, by go_num, HN.out, HMn.out, HRel.out.1, HRel.out.2.1, below_dND HRel.out.2.2.1, below_dND HRel.out.2.2.2⟩
              case measure => simp [intOf]; omega
    · obtain rfl : k = fs.length := by omega
      have hpe := HOA.out.end_
      have HE := Lib.hid (show scaleL 1 p x = o from by rw [← HO.out, HM.out.end_ (by omega), hpe]; rfl)
      have hsx := HM.out.2.1.1
      have hne := HM.out.2.2.2
      have hq2 : p ≤ 1000000000 := by omega
      have hS := ser_few hsx
      obtain ⟨-, t0, t1, t2, -, -, -⟩ := HT.out
      rcases HF.out with h | ⟨g, rfl, hg1, hg2, hg3, hMg, hTg⟩
      · exact absurd h hne
      have hgz := hMg.1
      have HSc := Lib.hid (fun W (hW : Below wr.heap.size wr W) => l01Scale_c D N 1 p (by decide) (by omega) (by decide) g 0 c x (by omega) (fun t ht => by have := isF_abs (ser_isF hsx t ht); omega) (ser_sizes hsx) W (Nat.lt_of_lt_of_le hgz hW.size) (hTg.below hW hgz))
      rw [HE.out] at HSc
      clear hpe hsx hne hMg hTg HOA
      go_wp2_with fail
      refine (HSc.out _ (Below.refl _ _)).mono ?_
      cases o with
      | none =>
        have HZ := Lib.hid (show (none : Option (List Tm)) = none from rfl)
        rintro e w3 ⟨rfl, hb3⟩
        have HB3 := Lib.hid (HB.out.trans (hb3.mono (by omega)))
        have hz3 := hb3.size
        clear hb3
        have bc := bcellB HB3.out
        have r0 : w3.cell? ⟨w.heap.size, 0, none⟩ = some (.int .i64 0) := (bc.1 _ _ (by omega)).trans (by go_simp)
        have r1 : w3.cell? ⟨w.heap.size, 1, none⟩ = some (.int .i64 0) := (bc.1 _ _ (by omega)).trans (by go_simp)
        have r2 : w3.cell? ⟨w.heap.size, 2, none⟩ = some (.slice none 0 0) := (bc.1 _ _ (by omega)).trans (by go_simp)
        have z0 : w3.frozen? ⟨w.heap.size, 0, none⟩ = false := (bc.2 _ _ (by omega)).trans (by go_simp)
        have z1 : w3.frozen? ⟨w.heap.size, 1, none⟩ = false := (bc.2 _ _ (by omega)).trans (by go_simp)
        have z2 : w3.frozen? ⟨w.heap.size, 2, none⟩ = false := (bc.2 _ _ (by omega)).trans (by go_simp)
        have hzb : w.heap.size < w3.heap.size := (by omega)
        clear bc
        have HWz := Lib.hid ((below1 w _).trans (HB3.out.mono (Nat.le_succ _)))
        (try (simp only []; go_at_K))
        repeat (first | go_values | go_skip | go_guarded | go_step | go_upon)
        rw [HZ.out]
        (try simp only [Exit.inBlock, Exit.then])
        refine bodyPost_ret (v := .tuple #[.agg #[.int .i64 0, .int .i64 0, .slice none 0 0], .bool false]) (by simp [results, Tryz.results11, go_sem, r0, r1, r2, hzb]) rfl ?_
        exact ⟨rfl, by have hW := HWz.out; go_grown⟩
      | some r =>
        rintro e w3 ⟨a3, c3, rfl, hb3, hN3⟩
        have HB3 := Lib.hid (HB.out.trans (hb3.mono (by omega)))
        have HN3 := Lib.hid (hN3.mono (lo' := w.heap.size + 1) (by omega) (Nat.le_refl _))
        have hz3 := hb3.size
        have bc := bcellB HB3.out
        have r0 : w3.cell? ⟨w.heap.size, 0, none⟩ = some (.int .i64 0) := (bc.1 _ _ (by omega)).trans (by go_simp)
        have r1 : w3.cell? ⟨w.heap.size, 1, none⟩ = some (.int .i64 0) := (bc.1 _ _ (by omega)).trans (by go_simp)
        have r2 : w3.cell? ⟨w.heap.size, 2, none⟩ = some (.slice none 0 0) := (bc.1 _ _ (by omega)).trans (by go_simp)
        have z0 : w3.frozen? ⟨w.heap.size, 0, none⟩ = false := (bc.2 _ _ (by omega)).trans (by go_simp)
        have z1 : w3.frozen? ⟨w.heap.size, 1, none⟩ = false := (bc.2 _ _ (by omega)).trans (by go_simp)
        have z2 : w3.frozen? ⟨w.heap.size, 2, none⟩ = false := (bc.2 _ _ (by omega)).trans (by go_simp)
        have hzb : w.heap.size < w3.heap.size := (by omega)
        clear bc
        have HWz := Lib.hid ((below1 w _).trans (HB3.out.mono (Nat.le_succ _)))
        clear hb3 hN3
        (try (simp only []; go_at_K))
        repeat (first | go_values | go_skip | go_guarded | go_step | go_upon)
        (try simp only [Exit.inBlock, Exit.then])
        refine bodyPost_ret (v := .tuple #[.agg #[.int .i64 D, .int .i64 N, .slice a3 r.length c3], .bool true]) (by simp [results, Tryz.results11, go_sem, r0, r1, r2, hzb]) rfl ?_
        refine ⟨a3, c3, rfl, by have hW := HWz.out; go_grown, ?_⟩
        exact ((HN3.out.far3 (by omega)).below (below1 _ (.cells #[.int .i64 D, .int .i64 N, .slice a3 r.length c3] 24)) (by simp)).mono (by omega) (by simp)

/-- **the model's l05Dual** -/
theorem l05Dual_c (D N : Nat) (hD : 1 ≤ D ∧ D ≤ 3) (hN : N ≤ 5) (hs : shapeB (D : Int) (N : Int) = true) : ∀ {s : ByteArray} {o : Option (List Tm)}, DualIs D N s o → wordB (D : Int) s.data.toList = true → s.size ≤ N → ∀ W : World,
    Calls Tryz.prog 11 #[.int .i64 D, .int .i64 N, .string s] W (SumPost D N o W) := by
  intro s o h
  induction h with
  | lyn s o hl hd ih =>
    intro hw hz W
    have h0 := (lynB_true hl).1
    have hw1 := wordB_sub hw 1 s.size
    have hz1 : (endS s 1).size ≤ N := by rw [endS_size]; omega
    exact dualLynS_c D N s o hl (by omega) (fun ys e => ⟨hd.good hD.2 hN hs hw1 hz1 ys e, (hd.pos hD.2 hN hs hw1 hz1 ys e).2⟩) (ih hw1 hz1) W
  | fac s fs os hl hf hlen hdu ih =>
    intro hw hz W
    have hfw := hf.wordB hw
    have hsz : ∀ i (h : i < fs.length), (fs[i]).size ≤ N := fun i h => by have := (hf.small _ (List.getElem_mem h)).2.1; omega
    have hok : DualsOk D N fs os := ⟨hlen, by rw [hf.sum]; exact hz, fun i h h' ys he => ⟨(hdu i h h').good hD.2 hN hs (hfw _ (List.getElem_mem h)) (hsz i h) ys he, (hdu i h h').pos hD.2 hN hs (hfw _ (List.getElem_mem h)) (hsz i h) ys he⟩⟩
    have h5 : fs.length ≤ 5 := by have := hf.len; omega
    by_cases h0 : 0 < s.size
    · exact dualFacS_c D N hD hN hs s hl h0 (by omega) fs hf os hok h5 (fun i h h' W => ih i h h' (hfw _ (List.getElem_mem h)) (hsz i h) W) W
    · have hfe : fs = [] := by
        have := hf.len
        exact List.length_eq_zero_iff.1 (by omega)
      subst hfe
      have hoe : os = [] := List.length_eq_zero_iff.1 (by simpa using hlen)
      subst hoe
      have e : (mulD D N [] (some [⟨ByteArray.empty, 1, 1⟩])).bind (scaleL 1 (ordG none 0 1 [])) = some [⟨ByteArray.empty, 1, 1⟩] := one_scaled
      rw [e]
      exact dualEmpty_c D N s (by omega) W

set_option maxRecDepth 100000 in
set_option maxHeartbeats 4000000 in
theorem sDual_1 (d n : Int) (s : ByteArray) (hsm : s.size ≤ maxLen) (h : (shapeB d n && (decide ((s.size : Int) ≤ n) && wordB d s.data.toList)) = false) (w : World) :
    Calls Tryz.prog 4 #[.int .i64 d, .int .i64 n, .string s] w (SerPost 0 0 [] 2 w) := by
  cases h1 : shapeB d n with
  | false =>
    have H1 := Lib.hid h1
    clear h h1
    go_enter Tryz.func4, Tryz.ntmps4
    go_wp2_with (go_at_call 9; refine (l01Sizes_c _ _ _).mono ?_; rw [H1.out]; rintro e w' ⟨rfl, rfl⟩)
    exact bodyPost_ret (v := .tuple #[.agg #[.int .i64 0, .int .i64 0, .slice none 0 0], .int .i64 2]) (by simp [results, Tryz.results4, go_sem]) rfl (SerPost.err 2 rfl (by go_grown))
  | true =>
    have hd := shape_out h1
    have H1 := Lib.hid h1
    rw [h1, Bool.true_and] at h
    obtain ⟨N, rfl⟩ : ∃ N : Nat, n = (N : Int) := ⟨n.toNat, by omega⟩
    have H2 := Lib.hid (show shortB d N s = false from by
      unfold shortB
      rw [show decide (s.size ≤ N) = decide ((s.size : Int) ≤ (N : Int)) from decide_eq_decide.2 (by omega), h, Bool.and_false])
    clear h h1
    go_enter Tryz.func4, Tryz.ntmps4
    go_wp2_with (first | (go_at_call 9; refine (l01Sizes_c _ _ _).mono ?_; rw [H1.out]; rintro e w' ⟨rfl, rfl⟩) | (go_at_call 10; refine (l05Word_c _ _ _ hsm _).mono ?_; rw [H2.out]; rintro e w' ⟨rfl, rfl⟩))
    exact bodyPost_ret (v := .tuple #[.agg #[.int .i64 0, .int .i64 0, .slice none 0 0], .int .i64 2]) (by simp [results, Tryz.results4, go_sem]) rfl (SerPost.err 2 rfl (by go_grown))
set_option maxRecDepth 100000 in
set_option maxHeartbeats 4000000 in
theorem sDual_2 (D N : Nat) (s : ByteArray) (o : Option (List Tm)) (ho : DualIs D N s o) (h1 : shapeB (D : Int) (N : Int) = true) (hz : s.size ≤ N) (hw : wordB (D : Int) s.data.toList = true) (w : World) :
    Calls Tryz.prog 4 #[.int .i64 D, .int .i64 N, .string s] w (ShsPost D N o w) := by
  have hd := shape_out h1
  have hsm : s.size ≤ maxLen := by unfold maxLen; omega
  have H1 := Lib.hid h1
  have H2 := Lib.hid (show shortB (D : Int) N s = true from by
    unfold shortB
    rw [hw, show decide (s.size ≤ N) = true from by simp; omega, show decide (1 ≤ (D : Int) ∧ (D : Int) ≤ 3) = true from by simp; omega]
    rfl)
  have HC := Lib.hid (fun W => l05Dual_c D N (by omega) (by omega) h1 ho hw hz W)
  clear h1 ho hw
  go_enter Tryz.func4, Tryz.ntmps4
  go_wp2_with (first | (go_at_call 9; refine (l01Sizes_c _ _ _).mono ?_; rw [H1.out]; rintro e w' ⟨rfl, rfl⟩) | (go_at_call 10; refine (l05Word_c _ _ _ hsm _).mono ?_; rw [H2.out]; rintro e w' ⟨rfl, rfl⟩) | fail)
  refine (HC.out _).mono ?_
  cases o with
  | none =>
    rintro e w2 ⟨rfl, hb2⟩
    have HB2 := Lib.hid (show Below (w.heap.size + 1) (w.alloc (.cells #[.int .i64 0, .int .i64 0, .slice none 0 0] 24)) w2 from by simpa using hb2)
    have hz2 : w.heap.size < w2.heap.size := by have := hb2.size; simp at this; omega
    have bc := bcellB HB2.out
    have r0 : w2.cell? ⟨w.heap.size, 0, none⟩ = some (.int .i64 0) := (bc.1 _ _ (by omega)).trans (by go_simp)
    have r1 : w2.cell? ⟨w.heap.size, 1, none⟩ = some (.int .i64 0) := (bc.1 _ _ (by omega)).trans (by go_simp)
    have r2 : w2.cell? ⟨w.heap.size, 2, none⟩ = some (.slice none 0 0) := (bc.1 _ _ (by omega)).trans (by go_simp)
    have z0 : w2.frozen? ⟨w.heap.size, 0, none⟩ = false := (bc.2 _ _ (by omega)).trans (by go_simp)
    have z1 : w2.frozen? ⟨w.heap.size, 1, none⟩ = false := (bc.2 _ _ (by omega)).trans (by go_simp)
    have z2 : w2.frozen? ⟨w.heap.size, 2, none⟩ = false := (bc.2 _ _ (by omega)).trans (by go_simp)
    have hzb : w.heap.size < w2.heap.size := (by omega)
    clear bc
    have HW2 := Lib.hid ((below1 w _).trans (HB2.out.mono (Nat.le_succ _)))
    clear hb2
    go_wp2
    refine bodyPost_ret (v := .tuple #[.agg #[.int .i64 0, .int .i64 0, .slice none 0 0], .int .i64 3]) (by simp [results, Tryz.results4, go_sem, r0, r1, r2, hzb]) rfl (SerPost.err 3 rfl ?_)
    have hW := HW2.out
    go_grown
  | some ts =>
    rintro e w2 ⟨a2, c2, rfl, hb2, hN2⟩
    have HB2 := Lib.hid (show Below (w.heap.size + 1) (w.alloc (.cells #[.int .i64 0, .int .i64 0, .slice none 0 0] 24)) w2 from by simpa using hb2)
    have hz2 : w.heap.size < w2.heap.size := by have := hb2.size; simp at this; omega
    have HN2 := Lib.hid (show NewRow (w.heap.size + 1) w2.heap.size w2 a2 ts from by simpa using hN2)
    have bc := bcellB HB2.out
    have r0 : w2.cell? ⟨w.heap.size, 0, none⟩ = some (.int .i64 0) := (bc.1 _ _ (by omega)).trans (by go_simp)
    have r1 : w2.cell? ⟨w.heap.size, 1, none⟩ = some (.int .i64 0) := (bc.1 _ _ (by omega)).trans (by go_simp)
    have r2 : w2.cell? ⟨w.heap.size, 2, none⟩ = some (.slice none 0 0) := (bc.1 _ _ (by omega)).trans (by go_simp)
    have z0 : w2.frozen? ⟨w.heap.size, 0, none⟩ = false := (bc.2 _ _ (by omega)).trans (by go_simp)
    have z1 : w2.frozen? ⟨w.heap.size, 1, none⟩ = false := (bc.2 _ _ (by omega)).trans (by go_simp)
    have z2 : w2.frozen? ⟨w.heap.size, 2, none⟩ = false := (bc.2 _ _ (by omega)).trans (by go_simp)
    have hzb : w.heap.size < w2.heap.size := (by omega)
    clear bc
    have HW2 := Lib.hid ((below1 w _).trans (HB2.out.mono (Nat.le_succ _)))
    clear hb2 hN2
    go_wp2
    refine bodyPost_ret (v := .tuple #[.agg #[.int .i64 D, .int .i64 N, .slice a2 ts.length c2], .int .i64 0]) (by simp [results, Tryz.results4, go_sem, r0, r1, r2, hzb]) rfl ⟨a2, c2, rfl, ?_, ?_⟩
    · have hW := HW2.out
      go_grown
    · exact ((HN2.out.far3 (by omega)).below (below1 _ (.cells #[.int .i64 D, .int .i64 N, .slice a2 ts.length c2] 24)) (by simp)).mono (by omega) (by simp)
end Go.Proofs.YtdgkkcjjfpenpaaGreatDoor
