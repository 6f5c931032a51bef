/-
  The model's l01Scale: the terms times a fraction, one by one.
-/
import Derived.Test.YtdgkkcjjfpenpaaGreatDoorSumL
import Derived.Test.YtdgkkcjjfpenpaaGreatDoorMulF
namespace Go.Proofs.YtdgkkcjjfpenpaaGreatDoor
open Go.RowKit

def mulT (p q : Int) (t : Tm) : Tm := ⟨t.s, fN (t.n * p) (t.d * q), fD (t.n * p) (t.d * q)⟩
theorem map_snoc {f : Tm → Tm} {ts : List Tm} {k : Nat} (hk : k < ts.length) : (ts.take (k + 1)).map f = (ts.take k).map f ++ [f ts[k]] := by
  rw [List.take_succ_eq_append_getElem hk, List.map_append]
  rfl
theorem map_le {f : Tm → Tm} {ts : List Tm} {k : Nat} : ((ts.take k).map f).length ≤ ts.length := by
  rw [List.length_map, List.length_take]
  omega
def ScPost (L V : Int) (r : Option (List Tm)) (W : World) (e : Ending) (w' : World) : Prop :=
  match r with
  | none => e = .returned (.tuple #[.agg #[.int .i64 0, .int .i64 0, .slice none 0 0], .bool false]) ∧ Below W.heap.size W w'
  | some ts' => ∃ (a : Option Addr) (cap : Nat), e = .returned (.tuple #[.agg #[.int .i64 L, .int .i64 V, .slice a ts'.length cap], .bool true]) ∧ Below W.heap.size W w' ∧ NewRow W.heap.size w'.heap.size w' a ts'
def MulCut (w1 : World) (N D : Int) (ok : Bool) (v8 v9 : Value) (wy : World) : Prop :=
  ∃ g, v8 = .pointer (some ⟨g, 0, none⟩) ∧ v9 = .bool ok ∧ w1.heap.size ≤ g ∧ g < wy.heap.size ∧ Below w1.heap.size w1 wy ∧ wy.cell? ⟨g, 0, none⟩ = some (.int .i64 N) ∧ wy.cell? ⟨g, 1, none⟩ = some (.int .i64 D)
/-- what scaling comes to -/
def scaleL (p q : Int) (ts : List Tm) : Option (List Tm) := if okAll ts p q then some (ts.map (mulT p q)) else none

set_option maxRecDepth 100000 in
set_option maxHeartbeats 8000000 in
theorem l01Scale_c (L V p q : Int) (hp : p.natAbs ≤ 1000000000) (hq : q.natAbs ≤ 1000000000) (h0 : p ≠ 0) (b off cap : Nat) (ts : List Tm) (hl : ts.length ≤ 1048576) (hbd : ∀ t ∈ ts, t.n.natAbs ≤ 1000000000 ∧ t.d.natAbs ≤ 1000000000) (hs : ∀ i (h : i < ts.length), (ts[i]).s.size ≤ maxLen) (w : World) (hb : b < w.heap.size) (ht : TermsIn w b off ts) :
    Calls Tryz.prog 25 #[.agg #[.int .i64 L, .int .i64 V, .slice (some ⟨b, off, none⟩) ts.length cap], .agg #[.int .i64 p, .int .i64 q]] w (ScPost L V (scaleL p q ts) w) := by
  obtain ⟨i0, hi0, hi1, hi2, hi3⟩ := info_parts info_term
  have hp0 : (p == 0) = false := by simpa using h0
  have HT := Lib.hid ht
  have HS := Lib.hid hs
  have HD := Lib.hid hbd
  clear ht hs hbd h0
  go_enter Tryz.func25, Tryz.ntmps25
  go_wp2_with fail
  refine (l01Empty_c L V _ rfl _).mono ?_
  rintro e w1 ⟨g1, rfl, hO, hb1⟩
  have hz1 : w.heap.size + 1 + 1 < w1.heap.size := by have := hb1.size; simp at this; omega
  have HO := Lib.hid (show OwnT w1 (w.heap.size + 1 + 1 + 1) (.slice (some ⟨g1, 0, none⟩) 0 0) [] from by simpa using hO)
  have HB := Lib.hid (show Below (w.heap.size + 1 + 1 + 1) _ w1 from by simpa using hb1)
  clear hb1 hO
  go_wp2_with fail
  go_loopw [7] (fun vi wr => AccRel (fun k => (ts.take k).map (mulT p q)) ts.length (w.heap.size + 1 + 1 + 1) w1.heap.size (.int .i64 L) (.int .i64 V) (((w.alloc (.cells #[.int .i64 L, .int .i64 V, .slice (some ⟨b, off, none⟩) ts.length cap] 24)).alloc (.cells #[.int .i64 p, .int .i64 q] 44)).alloc (.cells #[.int .i64 0, .int .i64 0, .slice none 0 0] 24)) vi wr ∧ ∀ i (h : i < ts.length), (i : Int) < intOf vi → fOk ((ts[i]).n * p) ((ts[i]).d * q) = true) (fun vi _ => ts.length - (intOf vi).toNat)
  case atStart =>
    exact ⟨⟨0, _, 0, 0, Nat.zero_le _, rfl, rfl, by simpa using HO.out.alloc _, fun e => by have := (HO.out.lt _ e).2; omega, Blk.new _ _ _, HB.out.alloc (by omega) _⟩, fun i h hi => by simp [intOf] at hi; omega⟩
  case round =>
    obtain ⟨⟨k, av, lv, cv, hk, rfl, hlv, hOk, hnv, hBl, hB⟩, hok0⟩ := hrel
    have HOK := Lib.hid (show ∀ i (h : i < ts.length), i < k → fOk ((ts[i]).n * p) ((ts[i]).d * q) = true from fun i h hi => hok0 i h (by simp [intOf]; omega))
    have HLv := Lib.hid hlv
    clear hlv hok0
    have HOk := Lib.hid hOk
    have HBl := Lib.hid hBl
    have HBk := Lib.hid hB
    have HNv := Lib.hid hnv
    have hzn := hBl.lt
    have hzr := hB.size
    simp only [World.size_alloc] at hzr
    have hz0 : w.heap.size < wr.heap.size := by omega
    have hz01 : w.heap.size + 1 < wr.heap.size := by omega
    have bc := bcellB hB
    have x2 : wr.cell? ⟨w.heap.size, 2, none⟩ = some (.slice (some ⟨b, off, none⟩) ts.length cap) := (bc.1 _ _ (by omega)).trans (by go_simp)
    have y0 : wr.cell? ⟨w.heap.size + 1, 0, none⟩ = some (.int .i64 p) := (bc.1 _ _ (by omega)).trans (by go_simp)
    have y1 : wr.cell? ⟨w.heap.size + 1, 1, none⟩ = some (.int .i64 q) := (bc.1 _ _ (by omega)).trans (by go_simp)
    clear hOk hBl hB hnv bc
    by_cases hlt : k < ts.length
    · have HFS := Lib.hid (map_snoc (f := mulT p q) hlt)
      have HFL := Lib.hid (map_le (f := mulT p q) (ts := ts) (k := k))
      have HOn := Lib.hid (fun h => ok_next (p := p) (q := q) hlt HOK.out h)
      have HOf := Lib.hid (fun h => okAll_false (p := p) (q := q) hlt h)
      have hbd := HD.out _ (List.getElem_mem hlt)
      have hkI : (0 : Int) ≤ (k : Int) := by omega
      have hkL : (k : Int) < (ts.length : Int) := by omega
      go_wp2_with fail
      refine (l01Zero_c _ _ _).mono ?_
      rintro e wy ⟨rfl, hby⟩
      rw [hp0]
      have bcy := bcellB hby
      have x2y := (bcy.1 w.heap.size 2 hz0).trans x2
      have y0y := (bcy.1 (w.heap.size + 1) 0 hz01).trans y0
      have y1y := (bcy.1 (w.heap.size + 1) 1 hz01).trans y1
      have HOy := Lib.hid (HOk.out.below hby (fun g h => (HOk.out.lt g h).2))
      have HBly := Lib.hid (HBl.out.below hby hzn)
      have HBy := Lib.hid (HBk.out.trans (hby.mono (by omega)))
      have hzy := hby.size
      have hzny : w1.heap.size < wy.heap.size := by omega
      obtain ⟨c0, c1, c2⟩ := HT.out.below ((below3 w _ _ _).trans (HBy.out.mono (by omega))) hb k hlt
      have hsz := HS.out k hlt
      obtain ⟨s, n, d, het⟩ : ∃ s n d, ts[k] = ⟨s, n, d⟩ := ⟨_, _, _, rfl⟩
      rw [het] at c0 c1 c2 hsz HFS HOn HOf hbd
      simp only [mulT] at c0 c1 c2 hsz HFS HOn HOf
      have hbd1 : n.natAbs ≤ 1000000000 := hbd.1
      have hbd2 : d.natAbs ≤ 1000000000 := hbd.2
      clear het x2 y0 y1 hby bcy hbd
      unfold maxLen at hsz
      have hby0 : b < wy.heap.size := by omega
      have hwy0 : w.heap.size < wy.heap.size := by omega
      have hwy1 : w.heap.size + 1 < wy.heap.size := by omega
      go_upto_region 5 with fail
      go_cut [8, 9] (MulCut wy (fN (n * p) (d * q)) (fD (n * p) (d * q)) (fOk (n * p) (d * q)))
      case first =>
        go_region_held3 (fun w' => w'.cell? ⟨b, off + k * 3 + 1, none⟩ = some (.int .i64 n) ∧ w'.cell? ⟨b, off + k * 3 + 2, none⟩ = some (.int .i64 d) ∧ w'.cell? ⟨w.heap.size + 1, 0, none⟩ = some (.int .i64 p) ∧ w'.cell? ⟨w.heap.size + 1, 1, none⟩ = some (.int .i64 q) ∧ w'.cell? ⟨w.heap.size, 2, none⟩ = some (.slice (some ⟨b, off, none⟩) ts.length cap))
          (first | exact ⟨f0, f1, f2, f3, f4⟩ | (rw [far_pair hby0, far_pair hby0, far_pair hwy1, far_pair hwy1, far_pair hwy0]; exact ⟨f0, f1, f2, f3, f4⟩) | go_keep)
          (first
            | (go_at_call 34; refine (l01TimesFrac_c n d p q hbd1 hbd2 hp hq wy.drew).mono ?_; rintro e w2 ⟨rfl, hb0⟩; have hb2 : Below wy.heap.size wy w2 := ⟨hb0.os, hb0.tape, hb0.output, hb0.size, hb0.block⟩; have f0 := (hb2.cell (p := ⟨b, off + k * 3 + 1, none⟩) (by show b < _; omega)).trans c1; have f1 := (hb2.cell (p := ⟨b, off + k * 3 + 2, none⟩) (by show b < _; omega)).trans c2; have f2 := (hb2.cell (p := ⟨w.heap.size + 1, 0, none⟩) (by show w.heap.size + 1 < _; omega)).trans y0y; have f3 := (hb2.cell (p := ⟨w.heap.size + 1, 1, none⟩) (by show w.heap.size + 1 < _; omega)).trans y1y; have f4 := (hb2.cell (p := ⟨w.heap.size, 2, none⟩) (by show w.heap.size < _; omega)).trans x2y)
            | (go_at_call 34; refine (l01TimesFrac_c n d p q hbd1 hbd2 hp hq (wy.alloc (.cells #[.int .i64 0, .int .i64 0] 44)).drew).mono ?_; rintro e w2 ⟨rfl, hb0⟩; have hb2 : Below wy.heap.size wy w2 := (below1 wy (.cells #[.int .i64 0, .int .i64 0] 44)).trans ⟨hb0.os, hb0.tape, hb0.output, hb0.size, fun j hj => hb0.block j (by simp; omega)⟩; have g0 : w2.cell? ⟨wy.heap.size, 0, none⟩ = some (.int .i64 0) := (hb0.cell (p := ⟨wy.heap.size, 0, none⟩) (by simp)).trans (by go_simp); have g1 : w2.cell? ⟨wy.heap.size, 1, none⟩ = some (.int .i64 0) := (hb0.cell (p := ⟨wy.heap.size, 1, none⟩) (by simp)).trans (by go_simp); have z2 : w2.frozen? ⟨wy.heap.size, 0, none⟩ = false := (hb0.frozen (p := ⟨wy.heap.size, 0, none⟩) (by simp)).trans (by go_simp); have z3 : w2.frozen? ⟨wy.heap.size, 1, none⟩ = false := (hb0.frozen (p := ⟨wy.heap.size, 1, none⟩) (by simp)).trans (by go_simp); have f0 := (hb2.cell (p := ⟨b, off + k * 3 + 1, none⟩) (by show b < _; omega)).trans c1; have f1 := (hb2.cell (p := ⟨b, off + k * 3 + 2, none⟩) (by show b < _; omega)).trans c2; have f2 := (hb2.cell (p := ⟨w.heap.size + 1, 0, none⟩) (by show w.heap.size + 1 < _; omega)).trans y0y; have f3 := (hb2.cell (p := ⟨w.heap.size + 1, 1, none⟩) (by show w.heap.size + 1 < _; omega)).trans y1y; have f4 := (hb2.cell (p := ⟨w.heap.size, 2, none⟩) (by show w.heap.size < _; omega)).trans x2y))
        all_goals (go_wp2_with fail; go_meet)
        · exact ⟨w2.heap.size, rfl, rfl, hb2.size, by simp, hb2.alloc hb2.size _, by go_simp, by go_simp⟩
        · have hp := pair_stored (x := .int .i64 (fN (n * p) (d * q))) (y := .int .i64 (fD (n * p) (d * q))) g0 g1
          have hz2 : wy.heap.size < w2.heap.size := by have := hb0.size; simp at this; omega
          exact ⟨wy.heap.size, rfl, rfl, Nat.le_refl _, by simpa using hz2, (hb2.setCell (p := ⟨wy.heap.size, 0, none⟩) (Nat.le_refl _) _).setCell (p := ⟨wy.heap.size, 1, none⟩) (Nat.le_refl _) _, hp.1, hp.2⟩
      case rest =>
        obtain ⟨g, rfl, rfl, hg1, hg2, hbc, g0, g1⟩ := hcut
        obtain ⟨w3, rfl⟩ : ∃ w3 : World, w3 = wc := ⟨_, rfl⟩
        have hz3 := hbc.size
        have bc := bcellB hbc
        have x3 : w3.cell? ⟨w.heap.size, 2, none⟩ = some (.slice (some ⟨b, off, none⟩) ts.length cap) := (bc.1 _ _ hwy0).trans x2y
        have d0 : w3.cell? ⟨b, off + k * 3, none⟩ = some (.string s) := (bc.1 _ _ hby0).trans c0
        have HO3 := Lib.hid (HOy.out.below hbc (fun g h => (HOy.out.lt g h).2))
        have HBl3 := Lib.hid (HBly.out.below hbc hzny)
        have HB3 := Lib.hid (HBy.out.trans (hbc.mono (by omega)))
        have hz4 : w1.heap.size < w3.heap.size := by omega
        have hw30 : w.heap.size < w3.heap.size := by omega
        have hw31 : w.heap.size + 1 < w3.heap.size := by omega
        have hw32 : w.heap.size + 1 + 1 < w3.heap.size := by omega
        clear bc hbc c0 c1 c2 x2y y0y y1y
        cases hok : fOk (n * p) (d * q) with
        | false =>
          have HN : Hid (scaleL p q ts = none) := Lib.hid (by unfold scaleL; rw [HOf.out hok]; simp)
          have bc6 := bcellB HB3.out
          have e0 : w3.cell? ⟨w.heap.size + 1 + 1, 0, none⟩ = some (.int .i64 0) := (bc6.1 _ _ (by omega)).trans (by go_simp)
          have e1 : w3.cell? ⟨w.heap.size + 1 + 1, 1, none⟩ = some (.int .i64 0) := (bc6.1 _ _ (by omega)).trans (by go_simp)
          have e2 : w3.cell? ⟨w.heap.size + 1 + 1, 2, none⟩ = some (.slice none 0 0) := (bc6.1 _ _ (by omega)).trans (by go_simp)
          have k0 : w3.frozen? ⟨w.heap.size + 1 + 1, 0, none⟩ = false := (bc6.2 _ _ (by omega)).trans (by go_simp)
          have k1 : w3.frozen? ⟨w.heap.size + 1 + 1, 1, none⟩ = false := (bc6.2 _ _ (by omega)).trans (by go_simp)
          have k2 : w3.frozen? ⟨w.heap.size + 1 + 1, 2, none⟩ = false := (bc6.2 _ _ (by omega)).trans (by go_simp)
          have HB6 := Lib.hid ((below3 w _ _ _).trans (HB3.out.mono (by omega)))
          clear bc6 hok
          go_wp2_with fail
          rw [HN.out]
          refine bodyPost_ret (v := .tuple #[.agg #[.int .i64 0, .int .i64 0, .slice none 0 0], .bool false]) (by simp [results, Tryz.results25, go_sem, e0, e1, e2]) rfl ?_
          exact ⟨rfl, ((HB6.out.setCell (p := ⟨w.heap.size + 1 + 1, 0, none⟩) (by show _ ≤ w.heap.size + 1 + 1; omega) _).setCell (p := ⟨w.heap.size + 1 + 1, 1, none⟩) (by show _ ≤ w.heap.size + 1 + 1; omega) _).setCell (p := ⟨w.heap.size + 1 + 1, 2, none⟩) (by show _ ≤ w.heap.size + 1 + 1; omega) _⟩
        | true =>
          have HOk4 := Lib.hid (HOn.out hok)
          clear hok
          generalize fN (n * p) (d * q) = N at *
          generalize fD (n * p) (d * q) = D at *
          have n2 : w3.cell? ⟨w1.heap.size, 2, none⟩ = some (.slice av lv cv) := HBl3.out.cell 2
          have nf : w3.frozen? ⟨w1.heap.size, 2, none⟩ = false := HBl3.out.frozen 2
          have e0 := Ne.symm (own_far HO3.out (n := w.heap.size) (by omega))
          have e1 := Ne.symm (own_far HO3.out (n := b) (by omega))
          have e2 := Ne.symm HNv.out
          have e3 : some g ≠ (Value.slice av lv cv).ownBlock := fun e => by have := (HOk.out.lt _ e.symm).2; omega
          have nf2 : (w3.alloc (.cells #[.string s, .int .i64 N, .int .i64 D] 46)).drew.frozen? ⟨w1.heap.size, 2, none⟩ = false := (frozen_alloc_lt _ hz4).trans nf
          have nc2 : (w3.alloc (.cells #[.string s, .int .i64 N, .int .i64 D] 46)).drew.cell? ⟨w1.heap.size, 2, none⟩ = some (.slice av lv cv) := ((below1 w3 _).cell (p := ⟨w1.heap.size, 2, none⟩) hz4).trans n2
          go_wp2_with fail
          go_region_law
            ((refine step_append_lies _ (by rfl) _ _ _ (by rfl) (w.heap.size + 1 + 1 + 1) 46 i0 _ 3 32 Tryz.underlying22 hi0 hi1 hi2 hi3 rfl (by omega) (.slice av lv cv) lv (cellsT ((ts.take k).map (mulT p q))) (by rfl) (by have h := HO3.out; unfold OwnT at h; rw [← HLv.out] at h; exact (h.alloc _).drew)
                ⟨w3.heap.size, 0, none⟩ 1 1 [.string s, .int .i64 N, .int .i64 D] (by rfl) (by rfl) (World.news_of_block (cs := #[.string s, .int .i64 N, .int .i64 D]) (t := 46) (fr := (0, 0)) (heap_alloc_new w3 _)) (by simp [Value.oneCell'])
                (by omega) (by have := HFL.out; rw [← HLv.out] at this; unfold maxLen; omega) (by have := HFL.out; rw [← HLv.out] at this; omega) (by simp; omega) (w3.heap.size + 1) (by simp) ?_; intro gg cg w5 hown1 hgrow hat hlt2; have q0 := (hgrow.cell_far ⟨w1.heap.size, 2, none⟩ (by simp; omega) e2).trans nc2; have q1 := (hgrow.frozen_far ⟨w1.heap.size, 2, none⟩ (by simp; omega) e2).trans nf2))
          all_goals
            have hOs := Lib.hid (AccRel.step (F := fun k => (ts.take k).map (mulT p q)) (m := ts.length) (x := .int .i64 L) (y := .int .i64 V) ⟨s, N, D⟩ (by omega) HFS.out HLv.out HO3.out HNv.out HBl3.out HB3.out (by omega) (by omega) hown1 hgrow hat)
            clear hown1 hgrow hat
            go_wp2
            go_roundw
            case rel => exact ⟨hOs.out, fun i h hi => HOk4.out i h (by simp [intOf] at hi; omega)⟩
            case measure => simp [intOf]; omega
    · obtain rfl : k = ts.length := by omega
      have n0 : wr.cell? ⟨w1.heap.size, 0, none⟩ = some (.int .i64 L) := HBl.out.cell 0
      have n1 : wr.cell? ⟨w1.heap.size, 1, none⟩ = some (.int .i64 V) := HBl.out.cell 1
      have n2 : wr.cell? ⟨w1.heap.size, 2, none⟩ = some (.slice av lv cv) := HBl.out.cell 2
      have bc := bcellB HBk.out
      have r0 : wr.cell? ⟨w.heap.size + 1 + 1, 0, none⟩ = some (.int .i64 0) := (bc.1 _ _ (by omega)).trans (by go_simp)
      have r1 : wr.cell? ⟨w.heap.size + 1 + 1, 1, none⟩ = some (.int .i64 0) := (bc.1 _ _ (by omega)).trans (by go_simp)
      have r2 : wr.cell? ⟨w.heap.size + 1 + 1, 2, none⟩ = some (.slice none 0 0) := (bc.1 _ _ (by omega)).trans (by go_simp)
      have z0 : wr.frozen? ⟨w.heap.size + 1 + 1, 0, none⟩ = false := (bc.2 _ _ (by omega)).trans (by go_simp)
      have z1 : wr.frozen? ⟨w.heap.size + 1 + 1, 1, none⟩ = false := (bc.2 _ _ (by omega)).trans (by go_simp)
      have z2 : wr.frozen? ⟨w.heap.size + 1 + 1, 2, none⟩ = false := (bc.2 _ _ (by omega)).trans (by go_simp)
      have HN : Hid (scaleL p q ts = some (ts.map (mulT p q))) := Lib.hid (by unfold scaleL; rw [okAll_true HOK.out]; simp)
      have hE : (ts.take ts.length).map (mulT p q) = ts.map (mulT p q) := by rw [List.take_length]
      have HO2 := Lib.hid (show OwnT wr (w.heap.size + 1 + 1 + 1) (.slice av lv cv) (ts.map (mulT p q)) from by rw [← hE]; exact HOk.out)
      have HL2 := Lib.hid (show lv = (ts.map (mulT p q)).length from by rw [← hE]; exact HLv.out)
      have HW := Lib.hid ((below3 w _ _ _).trans (HBk.out.mono (by omega)))
      clear bc hE y0 y1
      go_wp2
      have hO3 := ((HO2.out.far (p := ⟨w.heap.size + 1 + 1, 0, none⟩) (own_far HO2.out (n := w.heap.size + 1 + 1) (by omega)) (.int .i64 L)).far (p := ⟨w.heap.size + 1 + 1, 1, none⟩) (own_far HO2.out (n := w.heap.size + 1 + 1) (by omega)) (.int .i64 V)).far (p := ⟨w.heap.size + 1 + 1, 2, none⟩) (own_far HO2.out (n := w.heap.size + 1 + 1) (by omega)) (.slice av lv cv)
      obtain ⟨a', c', he, hle, hNr⟩ := hO3.newRow
      injection he with e1 e2 e3
      subst e1 e3
      rw [HN.out]
      refine bodyPost_ret (v := .tuple #[.agg #[.int .i64 L, .int .i64 V, .slice av (ts.map (mulT p q)).length cv], .bool true]) (by rw [← HL2.out]; simp [results, Tryz.results25, go_sem, r0, r1, r2]) rfl ⟨av, cv, rfl, ?_, hNr.mono (by omega) (Nat.le_refl _)⟩
      have := HW.out
      go_grown
end Go.Proofs.YtdgkkcjjfpenpaaGreatDoor
