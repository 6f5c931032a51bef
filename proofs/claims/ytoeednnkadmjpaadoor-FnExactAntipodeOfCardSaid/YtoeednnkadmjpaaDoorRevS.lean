/-
  Contracts of ReversalOf, of the program and of its model: both return the same series and code.
-/
import Derived.Test.YtoeednnkadmjpaaDoorRevR
namespace Go.Proofs.YtoeednnkadmjpaaDoor
open Go.RowKit

theorem word_reverse {d : Int} {l : List UInt8} : wordB d l.reverse = wordB d l := by simp [wordB]
theorem revW_list (s : ByteArray) : (revW s).data.toList = s.data.toList.reverse := by simp [revW]
/-- the program's series of reversed values has the model's terms -/
theorem reversed_terms {D N : Nat} {ts : List Tm} (h : serB D N ts = true) : termsOf (valR ts ts.length) (allW D N) = turned false ts := by
  have hsh : shapeB (D : Int) (N : Int) = true := by unfold serB at h; rw [Bool.and_eq_true] at h; exact h.1
  have hD := shape_out hsh
  obtain ⟨i1, i2, _⟩ := turned_all (sg := false) (ser_ne h) (ser_nz2 h)
  refine termsOf_eq (by omega) i1 fun t => ?_
  rw [i2, valR_iff (ser_ne h) ts.length (Nat.le_refl _)]
  constructor
  · rintro ⟨u, hu, rfl⟩
    obtain ⟨i, hi, rfl⟩ := List.getElem_of_mem hu
    refine ⟨?_, i, hi, hi, rfl, by simp [turnT]⟩
    have ht := ser_term h _ (List.getElem_mem hi)
    simp only [termB, Bool.and_eq_true, decide_eq_true_eq] at ht
    refine allW_all (by omega) N _ ?_ ?_
    · show (revW (ts[i]).s).size ≤ N
      rw [revW_size]
      omega
    · show wordB (D : Int) (revW (ts[i]).s).data.toList = true
      rw [revW_list, word_reverse]
      exact ht.1.2
  · rintro ⟨_, i, hi, _, he, hp⟩
    refine ⟨ts[i], List.getElem_mem hi, ?_⟩
    obtain ⟨s, n, d⟩ := t
    simp only at he hp
    simp only [Prod.mk.injEq] at hp
    subst he
    simp [turnT, hp.1, hp.2]

section
variable (L V : Int) (g : Nat) (ts : List Tm) (w : World)
set_option maxHeartbeats 2000000 in
theorem sRevS_1 (h1 : serB L V ts = false) (hl : ts.length ≤ 1048576) (hs : ∀ i (h : i < ts.length), (ts[i]).s.size ≤ maxLen) (hb : g < w.heap.size) (ht : TermsIn w g 0 ts) :
    Calls Tryd.prog 24 #[.agg #[.int .i64 L, .int .i64 V, .slice (some ⟨g, 0, none⟩) ts.length ts.length]] w (SerPost 0 0 [] 1 w) := by
  have HT := Lib.hid ht
  have HS := Lib.hid hs
  clear ht hs
  go_enter Tryd.func24, Tryd.ntmps24
  go_wp2_with fail
  refine (l01Is_c L V g 0 _ ts hl HS.out _ (by simp; omega) (HT.out.below (below2 w _ _) hb)).mono ?_
  rintro e w1 ⟨rfl, hb1⟩
  have hB := hb1
  simp only [World.size_alloc] at hB
  obtain ⟨hc, hf⟩ := bcellB hB
  have r0 : w1.cell? ⟨w.heap.size + 1, 0, none⟩ = some (.int .i64 0) := (hc _ _ (by omega)).trans (by go_simp)
  have r1 : w1.cell? ⟨w.heap.size + 1, 1, none⟩ = some (.int .i64 0) := (hc _ _ (by omega)).trans (by go_simp)
  have r2 : w1.cell? ⟨w.heap.size + 1, 2, none⟩ = some (.slice none 0 0) := (hc _ _ (by omega)).trans (by go_simp)
  have z0 : w1.frozen? ⟨w.heap.size + 1, 0, none⟩ = false := (hf _ _ (by omega)).trans (by go_simp)
  have z1 : w1.frozen? ⟨w.heap.size + 1, 1, none⟩ = false := (hf _ _ (by omega)).trans (by go_simp)
  have z2 : w1.frozen? ⟨w.heap.size + 1, 2, none⟩ = false := (hf _ _ (by omega)).trans (by go_simp)
  have hz : w.heap.size + 1 < w1.heap.size := by have := hB.size; simp at this; omega
  have hW : Below w.heap.size w w1 := (below2 w _ _).trans (hb1.mono (by simp; omega))
  clear hb1 hB hc hf
  rw [h1]
  go_wp2
  exact bodyPost_ret (v := .tuple #[.agg #[.int .i64 0, .int .i64 0, .slice none 0 0], .int .i64 1]) (by simp [results, Tryd.results24, go_sem, r0, r1, r2]) rfl (SerPost.err 1 rfl (by go_grown))
set_option maxHeartbeats 2000000 in
theorem iRevS_1 (h1 : serB L V ts = false) (hl : ts.length ≤ 1048576) (hs : ∀ i (h : i < ts.length), (ts[i]).s.size ≤ maxLen) (hb : g < w.heap.size) (ht : TermsIn w g 0 ts) :
    Calls Tryd.prog 25 #[.agg #[.int .i64 L, .int .i64 V, .slice (some ⟨g, 0, none⟩) ts.length ts.length]] w (SerPost 0 0 [] 1 w) := by
  have HT := Lib.hid ht
  have HS := Lib.hid hs
  clear ht hs
  go_enter Tryd.func25, Tryd.ntmps25
  go_wp2_with fail
  refine (iIsSeries_c L V g 0 _ ts hl HS.out _ (by simp; omega) (HT.out.below (below2 w _ _) hb)).mono ?_
  rintro e w1 ⟨rfl, hb1⟩
  have hB := hb1
  simp only [World.size_alloc] at hB
  obtain ⟨hc, hf⟩ := bcellB hB
  have r0 : w1.cell? ⟨w.heap.size + 1, 0, none⟩ = some (.int .i64 0) := (hc _ _ (by omega)).trans (by go_simp)
  have r1 : w1.cell? ⟨w.heap.size + 1, 1, none⟩ = some (.int .i64 0) := (hc _ _ (by omega)).trans (by go_simp)
  have r2 : w1.cell? ⟨w.heap.size + 1, 2, none⟩ = some (.slice none 0 0) := (hc _ _ (by omega)).trans (by go_simp)
  have z0 : w1.frozen? ⟨w.heap.size + 1, 0, none⟩ = false := (hf _ _ (by omega)).trans (by go_simp)
  have z1 : w1.frozen? ⟨w.heap.size + 1, 1, none⟩ = false := (hf _ _ (by omega)).trans (by go_simp)
  have z2 : w1.frozen? ⟨w.heap.size + 1, 2, none⟩ = false := (hf _ _ (by omega)).trans (by go_simp)
  have hz : w.heap.size + 1 < w1.heap.size := by have := hB.size; simp at this; omega
  have hW : Below w.heap.size w w1 := (below2 w _ _).trans (hb1.mono (by simp; omega))
  clear hb1 hB hc hf
  rw [h1]
  go_wp2
  exact bodyPost_ret (v := .tuple #[.agg #[.int .i64 0, .int .i64 0, .slice none 0 0], .int .i64 1]) (by simp [results, Tryd.results25, go_sem, r0, r1, r2]) rfl (SerPost.err 1 rfl (by go_grown))
set_option maxRecDepth 100000 in
set_option maxHeartbeats 4000000 in
theorem sRevS_2 (h1 : serB L V ts = true) (hl : ts.length ≤ 1048576) (hs : ∀ i (h : i < ts.length), (ts[i]).s.size ≤ maxLen) (hb : g < w.heap.size) (ht : TermsIn w g 0 ts) :
    Calls Tryd.prog 24 #[.agg #[.int .i64 L, .int .i64 V, .slice (some ⟨g, 0, none⟩) ts.length ts.length]] w (SerPost L V (turned false ts) 0 w) := by
  have HT := Lib.hid ht
  have HS := Lib.hid hs
  have HRv := Lib.hid (fun W hb ht => l02Reversal_c false L V g 0 ts.length ts h1 hl W hb ht)
  clear ht hs
  go_enter Tryd.func24, Tryd.ntmps24
  go_wp2_with fail
  refine (l01Is_c L V g 0 _ ts hl HS.out _ (by simp; omega) (HT.out.below (below2 w _ _) hb)).mono ?_
  rintro e w1 ⟨rfl, hb1⟩
  have hB := hb1
  simp only [World.size_alloc] at hB
  have bc := bcellB hB
  have x0 : w1.cell? ⟨w.heap.size, 0, none⟩ = some (.int .i64 L) := (bc.1 _ _ (by omega)).trans (by go_simp)
  have x1 : w1.cell? ⟨w.heap.size, 1, none⟩ = some (.int .i64 V) := (bc.1 _ _ (by omega)).trans (by go_simp)
  have x2 : w1.cell? ⟨w.heap.size, 2, none⟩ = some (.slice (some ⟨g, 0, none⟩) ts.length ts.length) := (bc.1 _ _ (by omega)).trans (by go_simp)
  have hW : Below w.heap.size w w1 := (below2 w _ _).trans (hb1.mono (by simp; omega))
  have HT1 := Lib.hid (HT.out.below hW hb)
  have hz : w.heap.size + 1 < w1.heap.size := by have := hB.size; simp at this; omega
  have HB := Lib.hid hB
  clear hb1 hB bc hW
  rw [h1]
  go_wp2_with fail
  refine (HRv.out _ (by omega) HT1.out).mono ?_
  rintro e w2 ⟨a2, c2, rfl, hb2, hN2⟩
  have hz2 := hb2.size
  have HB2 := Lib.hid (HB.out.trans (hb2.mono (by omega)))
  have HN2 := Lib.hid hN2
  have bc := bcellB HB2.out
  have r0 : w2.cell? ⟨w.heap.size + 1, 0, none⟩ = some (.int .i64 0) := (bc.1 _ _ (by omega)).trans (by go_simp)
  have r1 : w2.cell? ⟨w.heap.size + 1, 1, none⟩ = some (.int .i64 0) := (bc.1 _ _ (by omega)).trans (by go_simp)
  have r2 : w2.cell? ⟨w.heap.size + 1, 2, none⟩ = some (.slice none 0 0) := (bc.1 _ _ (by omega)).trans (by go_simp)
  have z0 : w2.frozen? ⟨w.heap.size + 1, 0, none⟩ = false := (bc.2 _ _ (by omega)).trans (by go_simp)
  have z1 : w2.frozen? ⟨w.heap.size + 1, 1, none⟩ = false := (bc.2 _ _ (by omega)).trans (by go_simp)
  have z2 : w2.frozen? ⟨w.heap.size + 1, 2, none⟩ = false := (bc.2 _ _ (by omega)).trans (by go_simp)
  have hz3 : w.heap.size + 1 < w2.heap.size := by omega
  have HW := Lib.hid ((below2 w _ _).trans (HB2.out.mono (by omega)))
  clear bc hb2 hN2 x0 x1 x2
  go_wp2
  refine bodyPost_ret (v := .tuple #[.agg #[.int .i64 L, .int .i64 V, .slice a2 (turned false ts).length c2], .int .i64 0]) (by simp [results, Tryd.results24, go_sem, r0, r1, r2]) rfl ⟨a2, c2, rfl, ?_, ?_⟩
  · have hW := HW.out
    go_grown
  · exact (HN2.out.far3u (n := w.heap.size + 1) (by omega)).mono (by omega) (by simp)
end

set_option maxRecDepth 100000 in
set_option maxHeartbeats 8000000 in
theorem iRevS_2 (D N : Nat) (g : Nat) (ts : List Tm) (w : World) (h1 : serB D N ts = true) (hl : ts.length ≤ 1048576) (hs : ∀ i (h : i < ts.length), (ts[i]).s.size ≤ maxLen) (hb : g < w.heap.size) (ht : TermsIn w g 0 ts) :
    Calls Tryd.prog 25 #[.agg #[.int .i64 D, .int .i64 N, .slice (some ⟨g, 0, none⟩) ts.length ts.length]] w (SerPost D N (turned false ts) 0 w) := by
  have hsh : shapeB (D : Int) (N : Int) = true := by unfold serB at h1; rw [Bool.and_eq_true] at h1; exact h1.1
  have hDN := shape_out hsh
  have HT := Lib.hid ht
  have HS := Lib.hid hs
  have HRt := Lib.hid (reversed_terms h1)
  have HS5 := Lib.hid (ser_small h1)
  have hfew := allW_few (D := D) (by omega) (n := N) (by omega)
  have HSp := Lib.hid (fun W => spaceOf_c D N (by omega) (by omega) W)
  have HVa := Lib.hid (fun W hr => reversedValues_c D N (some ⟨g, 0, none⟩) ts.length ts hl (fun i h => by have := HS5.out _ (List.getElem_mem h); omega) W hr)
  have HSe := Lib.hid (fun a1 c1 b W hr hm => seriesOf_c D N a1 c1 (allW D N) (by omega) (fun s hs => by have := allW_size D N s hs; omega) b ts.length (valR ts ts.length) W hr hm)
  clear ht hs hsh
  go_enter Tryd.func25, Tryd.ntmps25
  go_wp2_with fail
  refine (iIsSeries_c D N g 0 _ ts hl HS.out _ (by simp; omega) (HT.out.below (below2 w _ _) hb)).mono ?_
  rintro e w1 ⟨rfl, hb1⟩
  have hB := hb1
  simp only [World.size_alloc] at hB
  have bc := bcellB hB
  have x0 : w1.cell? ⟨w.heap.size, 0, none⟩ = some (.int .i64 D) := (bc.1 _ _ (by omega)).trans (by go_simp)
  have x1 : w1.cell? ⟨w.heap.size, 1, none⟩ = some (.int .i64 N) := (bc.1 _ _ (by omega)).trans (by go_simp)
  have x2 : w1.cell? ⟨w.heap.size, 2, none⟩ = some (.slice (some ⟨g, 0, none⟩) ts.length ts.length) := (bc.1 _ _ (by omega)).trans (by go_simp)
  have hW : Below w.heap.size w w1 := (below2 w _ _).trans (hb1.mono (by simp; omega))
  have HT1 := Lib.hid (HT.out.below hW hb)
  have hz : w.heap.size + 1 < w1.heap.size := by have := hB.size; simp at this; omega
  have HB := Lib.hid hB
  have hne : w.heap.size + 1 ≠ w.heap.size := by omega
  have hgz : g < w1.heap.size := by omega
  clear hb1 hB bc hW
  rw [h1]
  go_wp2
  go_region_held3 (fun w' => w'.cell? ⟨w.heap.size, 0, none⟩ = some (.int .i64 D) ∧ w'.cell? ⟨w.heap.size, 1, none⟩ = some (.int .i64 N) ∧ w'.cell? ⟨w.heap.size, 2, none⟩ = some (.slice (some ⟨g, 0, none⟩) ts.length ts.length))
    (first | exact ⟨d0, d1, d2⟩ | exact ⟨b0, b1, b2⟩ | exact ⟨a0, a1, a2⟩ | (rw [far_three hne, far_three hne, far_three hne]; exact ⟨d0, d1, d2⟩) | go_keep)
    (first
      | (go_at_call 38; refine (HSp.out _).mono ?_; rintro e ws ⟨asp, csp, rfl, hbs0, hNs⟩; have HBs : Hid (Below w1.heap.size w1 ws) := (by first | exact Lib.hid (HBv.out.trans (hbs0.mono HBv.out.size)) | exact Lib.hid (show Below w1.heap.size w1 ws from ⟨hbs0.os, hbs0.tape, hbs0.output, hbs0.size, hbs0.block⟩)); have HNs := Lib.hid hNs; have HBs0 := Lib.hid hbs0; have a0 : ws.cell? ⟨w.heap.size, 0, none⟩ = some (.int .i64 D) := (HBs.out.cell (p := ⟨w.heap.size, 0, none⟩) (show w.heap.size < w1.heap.size by omega)).trans x0; have a1 : ws.cell? ⟨w.heap.size, 1, none⟩ = some (.int .i64 N) := (HBs.out.cell (p := ⟨w.heap.size, 1, none⟩) (show w.heap.size < w1.heap.size by omega)).trans x1; have a2 : ws.cell? ⟨w.heap.size, 2, none⟩ = some (.slice (some ⟨g, 0, none⟩) ts.length ts.length) := (HBs.out.cell (p := ⟨w.heap.size, 2, none⟩) (show w.heap.size < w1.heap.size by omega)).trans x2; clear hbs0 hNs)
      | (go_at_call 62; refine (HVa.out _ ?_).mono ?_; (first | exact .inr ⟨g, 0, rfl, Nat.lt_of_lt_of_le hgz HBs.out.size, HT1.out.below HBs.out hgz⟩ | exact .inr ⟨g, 0, rfl, hgz, HT1.out⟩); rintro e wv ⟨bv, rfl, hbv1, hbv0, hMv⟩; have HBv : Hid (Below w1.heap.size w1 wv) := (by first | exact Lib.hid (HBs.out.trans (hbv0.mono HBs.out.size)) | exact Lib.hid (show Below w1.heap.size w1 wv from ⟨hbv0.os, hbv0.tape, hbv0.output, hbv0.size, hbv0.block⟩)); have HMv := Lib.hid hMv; have HBv0 := Lib.hid hbv0; have b0 : wv.cell? ⟨w.heap.size, 0, none⟩ = some (.int .i64 D) := (HBv.out.cell (p := ⟨w.heap.size, 0, none⟩) (show w.heap.size < w1.heap.size by omega)).trans x0; have b1 : wv.cell? ⟨w.heap.size, 1, none⟩ = some (.int .i64 N) := (HBv.out.cell (p := ⟨w.heap.size, 1, none⟩) (show w.heap.size < w1.heap.size by omega)).trans x1; have b2 : wv.cell? ⟨w.heap.size, 2, none⟩ = some (.slice (some ⟨g, 0, none⟩) ts.length ts.length) := (HBv.out.cell (p := ⟨w.heap.size, 2, none⟩) (show w.heap.size < w1.heap.size by omega)).trans x2; clear hbv0 hMv)
      | (go_at_call 39; refine (HSe.out asp csp bv _ ?_ ?_).mono ?_; (first | exact HNs.out.row | exact (HNs.out.below HBv0.out (Nat.le_refl _)).row); (first | exact HMv.out | exact HMv.out.below HBs0.out HMv.out.lt); rw [HRt.out]; rintro e wz ⟨gz, rfl, hbz0, hgz0, hMz, hTz⟩; have HBz : Hid (Below w1.heap.size w1 wz) := (by first | exact Lib.hid (HBv.out.trans (hbz0.mono HBv.out.size)) | exact Lib.hid (HBs.out.trans (hbz0.mono HBs.out.size))); have hgz1 : w1.heap.size ≤ gz := (by first | exact Nat.le_trans HBv.out.size hgz0 | exact Nat.le_trans HBs.out.size hgz0); have HMz := Lib.hid hMz; have HTz := Lib.hid hTz; have HB9 := Lib.hid (HB.out.trans (HBz.out.mono (show w.heap.size + 1 + 1 ≤ w1.heap.size by omega))); have d0 : wz.cell? ⟨w.heap.size, 0, none⟩ = some (.int .i64 D) := (HBz.out.cell (p := ⟨w.heap.size, 0, none⟩) (show w.heap.size < w1.heap.size by omega)).trans x0; have d1 : wz.cell? ⟨w.heap.size, 1, none⟩ = some (.int .i64 N) := (HBz.out.cell (p := ⟨w.heap.size, 1, none⟩) (show w.heap.size < w1.heap.size by omega)).trans x1; have d2 : wz.cell? ⟨w.heap.size, 2, none⟩ = some (.slice (some ⟨g, 0, none⟩) ts.length ts.length) := (HBz.out.cell (p := ⟨w.heap.size, 2, none⟩) (show w.heap.size < w1.heap.size by omega)).trans x2; obtain ⟨hc, hf⟩ := bcellB HB9.out; have r0 : wz.cell? ⟨w.heap.size + 1, 0, none⟩ = some (.int .i64 0) := (hc _ _ (by omega)).trans (by go_simp); have r1 : wz.cell? ⟨w.heap.size + 1, 1, none⟩ = some (.int .i64 0) := (hc _ _ (by omega)).trans (by go_simp); have r2 : wz.cell? ⟨w.heap.size + 1, 2, none⟩ = some (.slice none 0 0) := (hc _ _ (by omega)).trans (by go_simp); have z0 : wz.frozen? ⟨w.heap.size + 1, 0, none⟩ = false := (hf _ _ (by omega)).trans (by go_simp); have z1 : wz.frozen? ⟨w.heap.size + 1, 1, none⟩ = false := (hf _ _ (by omega)).trans (by go_simp); have z2 : wz.frozen? ⟨w.heap.size + 1, 2, none⟩ = false := (hf _ _ (by omega)).trans (by go_simp); have hzz : w.heap.size + 1 < wz.heap.size := Nat.lt_of_lt_of_le hz HBz.out.size; clear hc hf hbz0 hgz0 hMz hTz))
  all_goals
    have hW3 : Below w.heap.size w wz := (below2 w _ _).trans (HB9.out.mono (by omega))
    go_wp2
    refine bodyPost_ret (v := .tuple #[.agg #[.int .i64 D, .int .i64 N, .slice (some ⟨gz, 0, none⟩) (turned false ts).length (turned false ts).length], .int .i64 0]) (by simp [results, Tryd.results25, go_sem, r0, r1, r2]) rfl ⟨some ⟨gz, 0, none⟩, (turned false ts).length, rfl, by go_grown, ?_⟩
    exact ((NewRow.of_to (lo := w1.heap.size) hgz1 HMz.out HTz.out).far3u (n := w.heap.size + 1) (by omega)).mono (by omega) (by simp)
end Go.Proofs.YtoeednnkadmjpaaDoor
