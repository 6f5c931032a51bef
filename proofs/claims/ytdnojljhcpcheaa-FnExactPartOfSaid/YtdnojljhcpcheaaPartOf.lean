/-
  Contracts of PartOf, of the program and of its model: both return the same series and code.
-/
import Derived.Test.YtdnojljhcpcheaaPart
namespace Go.Proofs.Ytdnojljhcpcheaa
open Go.RowKit

theorem SerPost.err (k : Int) {W w' : World} {e : Ending} (he : e = .returned (.tuple #[.agg #[.int .i64 0, .int .i64 0, .slice none 0 0], .int .i64 k])) (hb : Below W.heap.size W w') : SerPost 0 0 [] k W e w' :=
  ⟨none, 0, he, hb, .inl rfl⟩

theorem NewRow.far3 {lo hi n : Nat} {w : World} {a : Option Addr} {ts : List Tm} {x y z : Value} (h : NewRow lo hi w a ts) (hn : n < lo) :
    NewRow lo (((w.setCell ⟨n, 0, none⟩ x).setCell ⟨n, 1, none⟩ y).setCell ⟨n, 2, none⟩ z).heap.size (((w.setCell ⟨n, 0, none⟩ x).setCell ⟨n, 1, none⟩ y).setCell ⟨n, 2, none⟩ z) a ts := by
  rcases h with h | ⟨g, e, h1, h2, h3, h4⟩
  · exact .inl h
  · refine .inr ⟨g, e, h1, ?_, ((h3.set _ _).set _ _).set _ _, ((h4.setCell (by show n ≠ g; omega) _).setCell (by show n ≠ g; omega) _).setCell (by show n ≠ g; omega) _⟩
    simp only [World.size_setCell]; exact h3.1

theorem ser_term {L V : Int} {ts : List Tm} (h : serB L V ts = true) : ∀ t ∈ ts, termB L V t = true := by
  intro t ht
  obtain ⟨k, hk, rfl⟩ := List.getElem_of_mem ht
  unfold serB at h
  rw [Bool.and_eq_true, List.all_eq_true] at h
  have g := h.2 k (List.mem_range.2 hk)
  simp only [goodAt, List.getElem?_eq_getElem hk, Bool.and_eq_true] at g
  exact g.1
theorem ser_small {L V : Int} {ts : List Tm} (h : serB L V ts = true) : ∀ t ∈ ts, t.s.size ≤ 5 := by
  intro t ht
  have h1 := ser_term h t ht
  have h2 : shapeB L V = true := by unfold serB at h; rw [Bool.and_eq_true] at h; exact h.1
  have h3 := shape_out h2
  simp only [termB, Bool.and_eq_true, decide_eq_true_eq] at h1
  omega

theorem part_mem {m : Int} {ts : List Tm} {t : Tm} (h : t ∈ partL m ts) : t ∈ ts := (List.mem_filter.1 h).1

/-- what PartOf comes to: the code first -/
def partC (L V m : Int) (ts : List Tm) : Int := if serB L V ts then (if inB m 0 5 then 0 else 2) else 1
theorem part_c1 {L V m : Int} {ts : List Tm} (h : serB L V ts = false) : partC L V m ts = 1 := by simp [partC, h]
theorem part_c2 {L V m : Int} {ts : List Tm} (h : serB L V ts = true) (h2 : inB m 0 5 = false) : partC L V m ts = 2 := by simp [partC, h, h2]
theorem part_c3 {L V m : Int} {ts : List Tm} (h : serB L V ts = true) (h2 : inB m 0 5 = true) : partC L V m ts = 0 := by simp [partC, h, h2]

section
variable (L V m : Int) (g : Nat) (ts : List Tm) (w : World)
set_option maxHeartbeats 2000000 in
theorem sPart_1 (h1 : serB L V ts = false) (hl : ts.length ≤ 1048576) (hs : ∀ i (h : i < ts.length), (ts[i]).s.size ≤ maxLen) (hb : g < w.heap.size) (ht : TermsIn w g 0 ts) :
    Calls Try.prog 19 #[.agg #[.int .i64 L, .int .i64 V, .slice (some ⟨g, 0, none⟩) ts.length ts.length], .int .i64 m] w (SerPost 0 0 [] 1 w) := by
  have HT := Lib.hid ht
  have HS := Lib.hid hs
  clear ht hs
  go_enter Try.func19, Try.ntmps19
  go_wp2_with fail
  refine (l01Is_c L V g 0 _ ts hl HS.out _ (by simp; omega) (HT.out.below (below2 w _ _) hb)).mono ?_
  rintro e w1 ⟨rfl, hb1⟩
  have hB := hb1
  simp only [World.size_alloc] at hB
  obtain ⟨hc, hf⟩ := bcellB hB
  have r0 : w1.cell? ⟨w.heap.size + 1, 0, none⟩ = some (.int .i64 0) := (hc _ _ (by omega)).trans (by go_simp)
  have r1 : w1.cell? ⟨w.heap.size + 1, 1, none⟩ = some (.int .i64 0) := (hc _ _ (by omega)).trans (by go_simp)
  have r2 : w1.cell? ⟨w.heap.size + 1, 2, none⟩ = some (.slice none 0 0) := (hc _ _ (by omega)).trans (by go_simp)
  have hW : Below w.heap.size w w1 := (below2 w _ _).trans (hb1.mono (by simp; omega))
  clear hb1 hB
  rw [h1]
  go_wp2
  exact bodyPost_ret (v := .tuple #[.agg #[.int .i64 0, .int .i64 0, .slice none 0 0], .int .i64 1]) (by simp [results, Try.results19, go_sem, r0, r1, r2]) rfl (SerPost.err 1 rfl (by go_grown))
set_option maxRecDepth 100000 in
set_option maxHeartbeats 4000000 in
theorem iPart_1 (h1 : serB L V ts = false) (hl : ts.length ≤ 1048576) (hs : ∀ i (h : i < ts.length), (ts[i]).s.size ≤ maxLen) (hb : g < w.heap.size) (ht : TermsIn w g 0 ts) :
    Calls Try.prog 20 #[.agg #[.int .i64 L, .int .i64 V, .slice (some ⟨g, 0, none⟩) ts.length ts.length], .int .i64 m] w (SerPost 0 0 [] 1 w) := by
  have HT := Lib.hid ht
  have HS := Lib.hid hs
  clear ht hs
  go_enter Try.func20, Try.ntmps20
  go_wp2_with fail
  refine (iIsSeries_c L V g 0 _ ts hl HS.out _ (by simp; omega) (HT.out.below (below2 w _ _) hb)).mono ?_
  rintro e w1 ⟨rfl, hb1⟩
  have hB := hb1
  simp only [World.size_alloc] at hB
  obtain ⟨hc, hf⟩ := bcellB hB
  have r0 : w1.cell? ⟨w.heap.size + 1, 0, none⟩ = some (.int .i64 0) := (hc _ _ (by omega)).trans (by go_simp)
  have r1 : w1.cell? ⟨w.heap.size + 1, 1, none⟩ = some (.int .i64 0) := (hc _ _ (by omega)).trans (by go_simp)
  have r2 : w1.cell? ⟨w.heap.size + 1, 2, none⟩ = some (.slice none 0 0) := (hc _ _ (by omega)).trans (by go_simp)
  have hW : Below w.heap.size w w1 := (below2 w _ _).trans (hb1.mono (by simp; omega))
  clear hb1 hB
  rw [h1]
  go_wp2
  exact bodyPost_ret (v := .tuple #[.agg #[.int .i64 0, .int .i64 0, .slice none 0 0], .int .i64 1]) (by simp [results, Try.results20, go_sem, r0, r1, r2]) rfl (SerPost.err 1 rfl (by go_grown))
set_option maxRecDepth 100000 in
set_option maxHeartbeats 4000000 in
theorem sPart_2 (h1 : serB L V ts = true) (h2 : inB m 0 5 = false) (hl : ts.length ≤ 1048576) (hs : ∀ i (h : i < ts.length), (ts[i]).s.size ≤ maxLen) (hb : g < w.heap.size) (ht : TermsIn w g 0 ts) :
    Calls Try.prog 19 #[.agg #[.int .i64 L, .int .i64 V, .slice (some ⟨g, 0, none⟩) ts.length ts.length], .int .i64 m] w (SerPost 0 0 [] 2 w) := by
  have HT := Lib.hid ht
  have HS := Lib.hid hs
  clear ht hs
  go_enter Try.func19, Try.ntmps19
  go_wp2_with fail
  refine (l01Is_c L V g 0 _ ts hl HS.out _ (by simp; omega) (HT.out.below (below2 w _ _) hb)).mono ?_
  rintro e w1 ⟨rfl, hb1⟩
  have hB := hb1
  simp only [World.size_alloc] at hB
  obtain ⟨hc, hf⟩ := bcellB hB
  have r0 : w1.cell? ⟨w.heap.size + 1, 0, none⟩ = some (.int .i64 0) := (hc _ _ (by omega)).trans (by go_simp)
  have r1 : w1.cell? ⟨w.heap.size + 1, 1, none⟩ = some (.int .i64 0) := (hc _ _ (by omega)).trans (by go_simp)
  have r2 : w1.cell? ⟨w.heap.size + 1, 2, none⟩ = some (.slice none 0 0) := (hc _ _ (by omega)).trans (by go_simp)
  have hW : Below w.heap.size w w1 := (below2 w _ _).trans (hb1.mono (by simp; omega))
  clear hb1 hB
  rw [h1]
  go_wp2_with (go_at_call 45; refine (l01In_c _ _ _ _).mono ?_; rw [h2]; rintro e w' ⟨rfl, rfl⟩)
  exact bodyPost_ret (v := .tuple #[.agg #[.int .i64 0, .int .i64 0, .slice none 0 0], .int .i64 2]) (by simp [results, Try.results19, go_sem, r0, r1, r2]) rfl (SerPost.err 2 rfl (by go_grown))
set_option maxRecDepth 100000 in
set_option maxHeartbeats 4000000 in
theorem iPart_2 (h1 : serB L V ts = true) (h2 : inB m 0 5 = false) (hl : ts.length ≤ 1048576) (hs : ∀ i (h : i < ts.length), (ts[i]).s.size ≤ maxLen) (hb : g < w.heap.size) (ht : TermsIn w g 0 ts) :
    Calls Try.prog 20 #[.agg #[.int .i64 L, .int .i64 V, .slice (some ⟨g, 0, none⟩) ts.length ts.length], .int .i64 m] w (SerPost 0 0 [] 2 w) := by
  have HT := Lib.hid ht
  have HS := Lib.hid hs
  clear ht hs
  go_enter Try.func20, Try.ntmps20
  go_wp2_with fail
  refine (iIsSeries_c L V g 0 _ ts hl HS.out _ (by simp; omega) (HT.out.below (below2 w _ _) hb)).mono ?_
  rintro e w1 ⟨rfl, hb1⟩
  have hB := hb1
  simp only [World.size_alloc] at hB
  obtain ⟨hc, hf⟩ := bcellB hB
  have r0 : w1.cell? ⟨w.heap.size + 1, 0, none⟩ = some (.int .i64 0) := (hc _ _ (by omega)).trans (by go_simp)
  have r1 : w1.cell? ⟨w.heap.size + 1, 1, none⟩ = some (.int .i64 0) := (hc _ _ (by omega)).trans (by go_simp)
  have r2 : w1.cell? ⟨w.heap.size + 1, 2, none⟩ = some (.slice none 0 0) := (hc _ _ (by omega)).trans (by go_simp)
  have hW : Below w.heap.size w w1 := (below2 w _ _).trans (hb1.mono (by simp; omega))
  clear hb1 hB
  rw [h1]
  go_wp2_with (go_at_call 47; refine (isBetween_c _ _ _ _).mono ?_; rw [h2]; rintro e w' ⟨rfl, rfl⟩)
  exact bodyPost_ret (v := .tuple #[.agg #[.int .i64 0, .int .i64 0, .slice none 0 0], .int .i64 2]) (by simp [results, Try.results20, go_sem, r0, r1, r2]) rfl (SerPost.err 2 rfl (by go_grown))
set_option maxRecDepth 100000 in
set_option maxHeartbeats 4000000 in
theorem sPart_3 (h1 : serB L V ts = true) (h2 : inB m 0 5 = true) (hl : ts.length ≤ 1048576) (hs : ∀ i (h : i < ts.length), (ts[i]).s.size ≤ maxLen) (hb : g < w.heap.size) (ht : TermsIn w g 0 ts) :
    Calls Try.prog 19 #[.agg #[.int .i64 L, .int .i64 V, .slice (some ⟨g, 0, none⟩) ts.length ts.length], .int .i64 m] w (SerPost L V (partL m ts) 0 w) := by
  have HT := Lib.hid ht
  have HS := Lib.hid hs
  clear ht hs
  go_enter Try.func19, Try.ntmps19
  go_wp2_with fail
  refine (l01Is_c L V g 0 _ ts hl HS.out _ (by simp; omega) (HT.out.below (below2 w _ _) hb)).mono ?_
  rintro e w1 ⟨rfl, hb1⟩
  have hB := hb1
  simp only [World.size_alloc] at hB
  obtain ⟨hc, hf⟩ := bcellB hB
  have r0 : w1.cell? ⟨w.heap.size + 1, 0, none⟩ = some (.int .i64 0) := (hc _ _ (by omega)).trans (by go_simp)
  have r1 : w1.cell? ⟨w.heap.size + 1, 1, none⟩ = some (.int .i64 0) := (hc _ _ (by omega)).trans (by go_simp)
  have r2 : w1.cell? ⟨w.heap.size + 1, 2, none⟩ = some (.slice none 0 0) := (hc _ _ (by omega)).trans (by go_simp)
  have hW : Below w.heap.size w w1 := (below2 w _ _).trans (hb1.mono (by simp; omega))
  have x0 : w1.cell? ⟨w.heap.size, 0, none⟩ = some (.int .i64 L) := (hc _ _ (by omega)).trans (by go_simp)
  have x1 : w1.cell? ⟨w.heap.size, 1, none⟩ = some (.int .i64 V) := (hc _ _ (by omega)).trans (by go_simp)
  have x2 : w1.cell? ⟨w.heap.size, 2, none⟩ = some (.slice (some ⟨g, 0, none⟩) ts.length ts.length) := (hc _ _ (by omega)).trans (by go_simp)
  have hz := hB.size
  simp only [World.size_alloc] at hz
  have HT1 := Lib.hid (HT.out.below hW hb)
  have HB := Lib.hid hB
  clear hb1 hB hc hf r0 r1 r2
  rw [h1]
  go_wp2_with (first | (go_at_call 45; refine (l01In_c _ _ _ _).mono ?_; rw [h2]; rintro e w' ⟨rfl, rfl⟩) | fail)
  refine (l01Part_c L V m g 0 _ ts hl HS.out w1 (by omega) HT1.out).mono ?_
  rintro e w2 ⟨a, c, rfl, hb2, hN⟩
  obtain ⟨hc, hf⟩ := bcellB (below_step HB.out hb2 (by simp))
  have r0 : w2.cell? ⟨w.heap.size + 1, 0, none⟩ = some (.int .i64 0) := (hc _ _ (by omega)).trans (by go_simp)
  have r1 : w2.cell? ⟨w.heap.size + 1, 1, none⟩ = some (.int .i64 0) := (hc _ _ (by omega)).trans (by go_simp)
  have r2 : w2.cell? ⟨w.heap.size + 1, 2, none⟩ = some (.slice none 0 0) := (hc _ _ (by omega)).trans (by go_simp)
  have z0 : w2.frozen? ⟨w.heap.size + 1, 0, none⟩ = false := (hf _ _ (by omega)).trans (by go_simp)
  have z1 : w2.frozen? ⟨w.heap.size + 1, 1, none⟩ = false := (hf _ _ (by omega)).trans (by go_simp)
  have z2 : w2.frozen? ⟨w.heap.size + 1, 2, none⟩ = false := (hf _ _ (by omega)).trans (by go_simp)
  have HW2 := Lib.hid (hW.trans (hb2.mono hW.size))
  have HN := Lib.hid hN
  clear hb2 hN hc hf hW x0 x1 x2
  go_wp2
  have hW3 := HW2.out
  refine bodyPost_ret (v := .tuple #[.agg #[.int .i64 L, .int .i64 V, .slice a (partL m ts).length c], .int .i64 0]) (by simp [results, Try.results19, go_sem, r0, r1, r2]) rfl ⟨a, c, rfl, by go_grown, ?_⟩
  exact (HN.out.far3 (by omega)).mono (by omega) (Nat.le_refl _)
set_option maxRecDepth 100000 in
set_option maxHeartbeats 4000000 in
theorem iPart_3 (h1 : serB L V ts = true) (h2 : inB m 0 5 = true) (hl : ts.length ≤ 1048576) (hs : ∀ i (h : i < ts.length), (ts[i]).s.size ≤ maxLen) (hb : g < w.heap.size) (ht : TermsIn w g 0 ts) :
    Calls Try.prog 20 #[.agg #[.int .i64 L, .int .i64 V, .slice (some ⟨g, 0, none⟩) ts.length ts.length], .int .i64 m] w (SerPost L V (partL m ts) 0 w) := by
  have HT := Lib.hid ht
  have HS := Lib.hid hs
  clear ht hs
  go_enter Try.func20, Try.ntmps20
  go_wp2_with fail
  refine (iIsSeries_c L V g 0 _ ts hl HS.out _ (by simp; omega) (HT.out.below (below2 w _ _) hb)).mono ?_
  rintro e w1 ⟨rfl, hb1⟩
  have hB := hb1
  simp only [World.size_alloc] at hB
  obtain ⟨hc, hf⟩ := bcellB hB
  have r0 : w1.cell? ⟨w.heap.size + 1, 0, none⟩ = some (.int .i64 0) := (hc _ _ (by omega)).trans (by go_simp)
  have r1 : w1.cell? ⟨w.heap.size + 1, 1, none⟩ = some (.int .i64 0) := (hc _ _ (by omega)).trans (by go_simp)
  have r2 : w1.cell? ⟨w.heap.size + 1, 2, none⟩ = some (.slice none 0 0) := (hc _ _ (by omega)).trans (by go_simp)
  have hW : Below w.heap.size w w1 := (below2 w _ _).trans (hb1.mono (by simp; omega))
  have x0 : w1.cell? ⟨w.heap.size, 0, none⟩ = some (.int .i64 L) := (hc _ _ (by omega)).trans (by go_simp)
  have x1 : w1.cell? ⟨w.heap.size, 1, none⟩ = some (.int .i64 V) := (hc _ _ (by omega)).trans (by go_simp)
  have x2 : w1.cell? ⟨w.heap.size, 2, none⟩ = some (.slice (some ⟨g, 0, none⟩) ts.length ts.length) := (hc _ _ (by omega)).trans (by go_simp)
  have hz := hB.size
  simp only [World.size_alloc] at hz
  have HT1 := Lib.hid (HT.out.below hW hb)
  have HB := Lib.hid hB
  have HA := Lib.hid (asc_of_ser h1)
  have HSm := Lib.hid (ser_small h1)
  have h5 := inB_true h2
  have hne : w.heap.size + 1 ≠ w.heap.size := by omega
  clear hb1 hB hc hf r0 r1 r2
  rw [h1]
  go_wp2_with (first | (go_at_call 47; refine (isBetween_c _ _ _ _).mono ?_; rw [h2]; rintro e w' ⟨rfl, rfl⟩) | fail)
  go_region_held3 (fun w' => w'.cell? ⟨w.heap.size, 0, none⟩ = some (.int .i64 L) ∧ w'.cell? ⟨w.heap.size, 1, none⟩ = some (.int .i64 V) ∧ w'.cell? ⟨w.heap.size, 2, none⟩ = some (.slice (some ⟨g, 0, none⟩) ts.length ts.length))
    (first | exact ⟨b0, b1, b2⟩ | exact ⟨a0, a1, a2⟩ | (rw [far_three hne, far_three hne, far_three hne]; exact ⟨b0, b1, b2⟩) | go_keep)
    (first
      | (go_at_call 48; refine (termsOfLength_c g 0 ts.length ts hl (Nat.le_refl _) HS.out m h5 HA.out w1.drew (show g < w1.heap.size by omega) HT1.out).mono ?_; rintro e wa ⟨o, rfl, hTa, hba0⟩; have hba : Below w1.heap.size w1 wa := ⟨hba0.os, hba0.tape, hba0.output, hba0.size, hba0.block⟩; have hBa := below_step HB.out hba (by simp); have a0 : wa.cell? ⟨w.heap.size, 0, none⟩ = some (.int .i64 L) := (hBa.cell (p := ⟨w.heap.size, 0, none⟩) (by show w.heap.size < _; omega)).trans (by go_simp); have a1 : wa.cell? ⟨w.heap.size, 1, none⟩ = some (.int .i64 V) := (hBa.cell (p := ⟨w.heap.size, 1, none⟩) (by show w.heap.size < _; omega)).trans (by go_simp); have a2 : wa.cell? ⟨w.heap.size, 2, none⟩ = some (.slice (some ⟨g, 0, none⟩) ts.length ts.length) := (hBa.cell (p := ⟨w.heap.size, 2, none⟩) (by show w.heap.size < _; omega)).trans (by go_simp); have HTa := Lib.hid hTa; have HBa := Lib.hid hBa; clear hTa hBa)
      | (go_at_call 35; refine (newSeries_c L V (some ⟨g, o, none⟩) _ (partL m ts) (Nat.le_trans (List.length_filter_le _ _) hl) (fun i hi => by have := HSm.out _ (part_mem (List.getElem_mem hi)); omega) wa (.inr ⟨g, o, rfl, by have := hba.size; omega, HTa.out⟩)).mono ?_; rintro e wb ⟨gb, rfl, hbb, hgb, hMb, hTb⟩; have hBb := below_step HBa.out hbb (by simp); have b0 : wb.cell? ⟨w.heap.size, 0, none⟩ = some (.int .i64 L) := (hBb.cell (p := ⟨w.heap.size, 0, none⟩) (by show w.heap.size < _; omega)).trans (by go_simp); have b1 : wb.cell? ⟨w.heap.size, 1, none⟩ = some (.int .i64 V) := (hBb.cell (p := ⟨w.heap.size, 1, none⟩) (by show w.heap.size < _; omega)).trans (by go_simp); have b2 : wb.cell? ⟨w.heap.size, 2, none⟩ = some (.slice (some ⟨g, 0, none⟩) ts.length ts.length) := (hBb.cell (p := ⟨w.heap.size, 2, none⟩) (by show w.heap.size < _; omega)).trans (by go_simp); obtain ⟨hc, hf⟩ := bcellB hBb; have r0 : wb.cell? ⟨w.heap.size + 1, 0, none⟩ = some (.int .i64 0) := (hc _ _ (by omega)).trans (by go_simp); have r1 : wb.cell? ⟨w.heap.size + 1, 1, none⟩ = some (.int .i64 0) := (hc _ _ (by omega)).trans (by go_simp); have r2 : wb.cell? ⟨w.heap.size + 1, 2, none⟩ = some (.slice none 0 0) := (hc _ _ (by omega)).trans (by go_simp); have z0 : wb.frozen? ⟨w.heap.size + 1, 0, none⟩ = false := (hf _ _ (by omega)).trans (by go_simp); have z1 : wb.frozen? ⟨w.heap.size + 1, 1, none⟩ = false := (hf _ _ (by omega)).trans (by go_simp); have z2 : wb.frozen? ⟨w.heap.size + 1, 2, none⟩ = false := (hf _ _ (by omega)).trans (by go_simp); have HMb := Lib.hid hMb; have HTb := Lib.hid hTb; have HBb := Lib.hid hBb; clear hMb hTb hBb hc hf))
  all_goals
    have hza := hba.size
    have hW3 : Below w.heap.size w wb := (below2 w _ _).trans (HBb.out.mono (by omega))
    go_wp2
    refine bodyPost_ret (v := .tuple #[.agg #[.int .i64 L, .int .i64 V, .slice (some ⟨gb, 0, none⟩) (partL m ts).length (partL m ts).length], .int .i64 0]) (by simp [results, Try.results20, go_sem, r0, r1, r2]) rfl ⟨_, _, rfl, by go_grown, ?_⟩
    exact ((NewRow.of_to (lo := wa.heap.size) hgb HMb.out HTb.out).far3 (by omega)).mono (by omega) (Nat.le_refl _)
end
end Go.Proofs.Ytdnojljhcpcheaa
