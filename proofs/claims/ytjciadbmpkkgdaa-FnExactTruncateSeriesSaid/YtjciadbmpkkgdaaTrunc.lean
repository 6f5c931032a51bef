/-
  Contracts of TruncateSeries, of the program and of its model: both return the same series and code.
-/
import Derived.Test.YtjciadbmpkkgdaaPartOf
namespace Go.Proofs.Ytjciadbmpkkgdaa
open Go.RowKit

def truncL (m : Int) (ts : List Tm) : List Tm := ts.filter fun t => decide ((t.s.size : Int) ≤ m)
theorem trunc_mem {m : Int} {ts : List Tm} {t : Tm} (h : t ∈ truncL m ts) : t ∈ ts := (List.mem_filter.1 h).1
theorem trunc_eq {ts : List Tm} {m : Int} {i : Nat} (h : LPlace ts (m + 1) i) : ts.take i = truncL m ts := by
  have e : ts = ts.take i ++ ts.drop i := (List.take_append_drop i ts).symm
  have f1 : (ts.take i).filter (fun t => decide ((t.s.size : Int) ≤ m)) = ts.take i := by
    rw [List.filter_eq_self]
    intro t ht
    obtain ⟨k, hk, rfl⟩ := List.getElem_of_mem ht
    rw [List.length_take] at hk
    rw [List.getElem_take]
    have := h.2.1 k (by omega) (by omega)
    simp; omega
  have f2 : (ts.drop i).filter (fun t => decide ((t.s.size : Int) ≤ m)) = [] := by
    rw [List.filter_eq_nil_iff]
    intro t ht
    obtain ⟨k, hk, rfl⟩ := List.getElem_of_mem ht
    rw [List.length_drop] at hk
    rw [List.getElem_drop]
    have := h.2.2 (i + k) (by omega) (by omega)
    simp; omega
  unfold truncL
  conv => rhs; rw [e]
  rw [List.filter_append, f1, f2, List.append_nil]

section
variable (L V m : Int) (g : Nat) (ts : List Tm) (w : World)
set_option maxHeartbeats 2000000 in
theorem sTrunc_1 (h1 : serB L V ts = false) (hl : ts.length ≤ 1048576) (hs : ∀ i (h : i < ts.length), (ts[i]).s.size ≤ maxLen) (hb : g < w.heap.size) (ht : TermsIn w g 0 ts) :
    Calls Try.prog 24 #[.agg #[.int .i64 L, .int .i64 V, .slice (some ⟨g, 0, none⟩) ts.length ts.length], .int .i64 m] w (SerPost 0 0 [] 1 w) := by
  have HT := Lib.hid ht
  have HS := Lib.hid hs
  clear ht hs
  go_enter Try.func24, Try.ntmps24
  go_wp2_with fail
  refine (l01Is_c L V g 0 _ ts hl HS.out _ (by simp; omega) (HT.out.below (below2 w _ _) hb)).mono ?_
  rintro e w1 ⟨rfl, hb1⟩
  have hB := hb1
  simp only [World.size_alloc] at hB
  obtain ⟨hc, hf⟩ := bcellB hB
  have r0 : w1.cell? ⟨w.heap.size + 1, 0, none⟩ = some (.int .i64 0) := (hc _ _ (by omega)).trans (by go_simp)
  have r1 : w1.cell? ⟨w.heap.size + 1, 1, none⟩ = some (.int .i64 0) := (hc _ _ (by omega)).trans (by go_simp)
  have r2 : w1.cell? ⟨w.heap.size + 1, 2, none⟩ = some (.slice none 0 0) := (hc _ _ (by omega)).trans (by go_simp)
  have x0 : w1.cell? ⟨w.heap.size, 0, none⟩ = some (.int .i64 L) := (hc _ _ (by omega)).trans (by go_simp)
  have x1 : w1.cell? ⟨w.heap.size, 1, none⟩ = some (.int .i64 V) := (hc _ _ (by omega)).trans (by go_simp)
  have x2 : w1.cell? ⟨w.heap.size, 2, none⟩ = some (.slice (some ⟨g, 0, none⟩) ts.length ts.length) := (hc _ _ (by omega)).trans (by go_simp)
  have hW : Below w.heap.size w w1 := (below2 w _ _).trans (hb1.mono (by simp; omega))
  clear hb1 hB
  rw [h1]
  go_wp2
  exact bodyPost_ret (v := .tuple #[.agg #[.int .i64 0, .int .i64 0, .slice none 0 0], .int .i64 1]) (by simp [results, Try.results24, go_sem, r0, r1, r2]) rfl (SerPost.err 1 rfl (by go_grown))
set_option maxRecDepth 100000 in
set_option maxHeartbeats 4000000 in
theorem iTrunc_1 (h1 : serB L V ts = false) (hl : ts.length ≤ 1048576) (hs : ∀ i (h : i < ts.length), (ts[i]).s.size ≤ maxLen) (hb : g < w.heap.size) (ht : TermsIn w g 0 ts) :
    Calls Try.prog 25 #[.agg #[.int .i64 L, .int .i64 V, .slice (some ⟨g, 0, none⟩) ts.length ts.length], .int .i64 m] w (SerPost 0 0 [] 1 w) := by
  have HT := Lib.hid ht
  have HS := Lib.hid hs
  clear ht hs
  go_enter Try.func25, Try.ntmps25
  go_wp2_with fail
  refine (iIsSeries_c L V g 0 _ ts hl HS.out _ (by simp; omega) (HT.out.below (below2 w _ _) hb)).mono ?_
  rintro e w1 ⟨rfl, hb1⟩
  have hB := hb1
  simp only [World.size_alloc] at hB
  obtain ⟨hc, hf⟩ := bcellB hB
  have r0 : w1.cell? ⟨w.heap.size + 1, 0, none⟩ = some (.int .i64 0) := (hc _ _ (by omega)).trans (by go_simp)
  have r1 : w1.cell? ⟨w.heap.size + 1, 1, none⟩ = some (.int .i64 0) := (hc _ _ (by omega)).trans (by go_simp)
  have r2 : w1.cell? ⟨w.heap.size + 1, 2, none⟩ = some (.slice none 0 0) := (hc _ _ (by omega)).trans (by go_simp)
  have x0 : w1.cell? ⟨w.heap.size, 0, none⟩ = some (.int .i64 L) := (hc _ _ (by omega)).trans (by go_simp)
  have x1 : w1.cell? ⟨w.heap.size, 1, none⟩ = some (.int .i64 V) := (hc _ _ (by omega)).trans (by go_simp)
  have x2 : w1.cell? ⟨w.heap.size, 2, none⟩ = some (.slice (some ⟨g, 0, none⟩) ts.length ts.length) := (hc _ _ (by omega)).trans (by go_simp)
  have hW : Below w.heap.size w w1 := (below2 w _ _).trans (hb1.mono (by simp; omega))
  clear hb1 hB
  rw [h1]
  go_wp2
  exact bodyPost_ret (v := .tuple #[.agg #[.int .i64 0, .int .i64 0, .slice none 0 0], .int .i64 1]) (by simp [results, Try.results25, go_sem, r0, r1, r2]) rfl (SerPost.err 1 rfl (by go_grown))
set_option maxRecDepth 100000 in
set_option maxHeartbeats 4000000 in
theorem sTrunc_2 (h1 : serB L V ts = true) (h2 : inB m 1 V = false) (hl : ts.length ≤ 1048576) (hs : ∀ i (h : i < ts.length), (ts[i]).s.size ≤ maxLen) (hb : g < w.heap.size) (ht : TermsIn w g 0 ts) :
    Calls Try.prog 24 #[.agg #[.int .i64 L, .int .i64 V, .slice (some ⟨g, 0, none⟩) ts.length ts.length], .int .i64 m] w (SerPost 0 0 [] 2 w) := by
  have HT := Lib.hid ht
  have HS := Lib.hid hs
  clear ht hs
  go_enter Try.func24, Try.ntmps24
  go_wp2_with fail
  refine (l01Is_c L V g 0 _ ts hl HS.out _ (by simp; omega) (HT.out.below (below2 w _ _) hb)).mono ?_
  rintro e w1 ⟨rfl, hb1⟩
  have hB := hb1
  simp only [World.size_alloc] at hB
  obtain ⟨hc, hf⟩ := bcellB hB
  have r0 : w1.cell? ⟨w.heap.size + 1, 0, none⟩ = some (.int .i64 0) := (hc _ _ (by omega)).trans (by go_simp)
  have r1 : w1.cell? ⟨w.heap.size + 1, 1, none⟩ = some (.int .i64 0) := (hc _ _ (by omega)).trans (by go_simp)
  have r2 : w1.cell? ⟨w.heap.size + 1, 2, none⟩ = some (.slice none 0 0) := (hc _ _ (by omega)).trans (by go_simp)
  have x0 : w1.cell? ⟨w.heap.size, 0, none⟩ = some (.int .i64 L) := (hc _ _ (by omega)).trans (by go_simp)
  have x1 : w1.cell? ⟨w.heap.size, 1, none⟩ = some (.int .i64 V) := (hc _ _ (by omega)).trans (by go_simp)
  have x2 : w1.cell? ⟨w.heap.size, 2, none⟩ = some (.slice (some ⟨g, 0, none⟩) ts.length ts.length) := (hc _ _ (by omega)).trans (by go_simp)
  have hW : Below w.heap.size w w1 := (below2 w _ _).trans (hb1.mono (by simp; omega))
  clear hb1 hB
  rw [h1]
  go_wp2_with (go_at_call 48; refine (l01In_c _ _ _ _).mono ?_; rw [h2]; rintro e w' ⟨rfl, rfl⟩)
  exact bodyPost_ret (v := .tuple #[.agg #[.int .i64 0, .int .i64 0, .slice none 0 0], .int .i64 2]) (by simp [results, Try.results24, go_sem, r0, r1, r2]) rfl (SerPost.err 2 rfl (by go_grown))
set_option maxRecDepth 100000 in
set_option maxHeartbeats 4000000 in
theorem iTrunc_2 (h1 : serB L V ts = true) (h2 : inB m 1 V = false) (hl : ts.length ≤ 1048576) (hs : ∀ i (h : i < ts.length), (ts[i]).s.size ≤ maxLen) (hb : g < w.heap.size) (ht : TermsIn w g 0 ts) :
    Calls Try.prog 25 #[.agg #[.int .i64 L, .int .i64 V, .slice (some ⟨g, 0, none⟩) ts.length ts.length], .int .i64 m] w (SerPost 0 0 [] 2 w) := by
  have HT := Lib.hid ht
  have HS := Lib.hid hs
  clear ht hs
  go_enter Try.func25, Try.ntmps25
  go_wp2_with fail
  refine (iIsSeries_c L V g 0 _ ts hl HS.out _ (by simp; omega) (HT.out.below (below2 w _ _) hb)).mono ?_
  rintro e w1 ⟨rfl, hb1⟩
  have hB := hb1
  simp only [World.size_alloc] at hB
  obtain ⟨hc, hf⟩ := bcellB hB
  have r0 : w1.cell? ⟨w.heap.size + 1, 0, none⟩ = some (.int .i64 0) := (hc _ _ (by omega)).trans (by go_simp)
  have r1 : w1.cell? ⟨w.heap.size + 1, 1, none⟩ = some (.int .i64 0) := (hc _ _ (by omega)).trans (by go_simp)
  have r2 : w1.cell? ⟨w.heap.size + 1, 2, none⟩ = some (.slice none 0 0) := (hc _ _ (by omega)).trans (by go_simp)
  have x0 : w1.cell? ⟨w.heap.size, 0, none⟩ = some (.int .i64 L) := (hc _ _ (by omega)).trans (by go_simp)
  have x1 : w1.cell? ⟨w.heap.size, 1, none⟩ = some (.int .i64 V) := (hc _ _ (by omega)).trans (by go_simp)
  have x2 : w1.cell? ⟨w.heap.size, 2, none⟩ = some (.slice (some ⟨g, 0, none⟩) ts.length ts.length) := (hc _ _ (by omega)).trans (by go_simp)
  have hW : Below w.heap.size w w1 := (below2 w _ _).trans (hb1.mono (by simp; omega))
  clear hb1 hB
  rw [h1]
  go_wp2_with (go_at_call 50; refine (isBetween_c _ _ _ _).mono ?_; rw [h2]; rintro e w' ⟨rfl, rfl⟩)
  exact bodyPost_ret (v := .tuple #[.agg #[.int .i64 0, .int .i64 0, .slice none 0 0], .int .i64 2]) (by simp [results, Try.results25, go_sem, r0, r1, r2]) rfl (SerPost.err 2 rfl (by go_grown))
set_option maxRecDepth 100000 in
set_option maxHeartbeats 8000000 in
theorem sTrunc_3 (h1 : serB L V ts = true) (h2 : inB m 1 V = true) (hl : ts.length ≤ 1048576) (hs : ∀ i (h : i < ts.length), (ts[i]).s.size ≤ maxLen) (hb : g < w.heap.size) (ht : TermsIn w g 0 ts) :
    Calls Try.prog 24 #[.agg #[.int .i64 L, .int .i64 V, .slice (some ⟨g, 0, none⟩) ts.length ts.length], .int .i64 m] w (SerPost L m (truncL m ts) 0 w) := by
  obtain ⟨i0, hi0, hi1, hi2, hi3⟩ := info_parts info_term
  have HT := Lib.hid ht
  have HS := Lib.hid hs
  clear ht hs
  go_enter Try.func24, Try.ntmps24
  go_wp2_with fail
  refine (l01Is_c L V g 0 _ ts hl HS.out _ (by simp; omega) (HT.out.below (below2 w _ _) hb)).mono ?_
  rintro e w1 ⟨rfl, hb1⟩
  have hB := hb1
  simp only [World.size_alloc] at hB
  obtain ⟨hc, hf⟩ := bcellB hB
  have x0 : w1.cell? ⟨w.heap.size, 0, none⟩ = some (.int .i64 L) := (hc _ _ (by omega)).trans (by go_simp)
  have x1 : w1.cell? ⟨w.heap.size, 1, none⟩ = some (.int .i64 V) := (hc _ _ (by omega)).trans (by go_simp)
  have x2 : w1.cell? ⟨w.heap.size, 2, none⟩ = some (.slice (some ⟨g, 0, none⟩) ts.length ts.length) := (hc _ _ (by omega)).trans (by go_simp)
  have hW : Below w.heap.size w w1 := (below2 w _ _).trans (hb1.mono (by simp; omega))
  have hz := hB.size
  simp only [World.size_alloc] at hz
  have HT1 := Lib.hid (HT.out.below hW hb)
  have HB := Lib.hid hB
  clear hb1 hB hc hf
  rw [h1]
  go_wp2_with (first | (go_at_call 48; refine (l01In_c _ _ _ _).mono ?_; rw [h2]; rintro e w' ⟨rfl, rfl⟩) | fail)
  refine (l01Empty_c L V _ rfl _).mono ?_
  clear x0 x1 x2
  rintro e w2 ⟨g1, rfl, hO, hb2⟩
  have hz1 := hb2.size
  have HO := Lib.hid (hO.mono (show w.heap.size + 1 + 1 ≤ _ by omega))
  have HB2 := Lib.hid (HB.out.trans (hb2.mono (by omega)))
  clear hb2 hO HB
  go_wp2_with fail
  go_loopw [7] (AccRel (fun k => (ts.take k).filter fun t => decide ((t.s.size : Int) ≤ m)) ts.length (w.heap.size + 1 + 1) w2.heap.size (.int .i64 L) (.int .i64 m) ((w.alloc (.cells #[.int .i64 L, .int .i64 V, .slice (some ⟨g, 0, none⟩) ts.length ts.length] 29)).alloc (.cells #[.int .i64 0, .int .i64 0, .slice none 0 0] 29))) (fun vi _ => ts.length - (intOf vi).toNat)
  case atStart =>
    exact ⟨0, _, 0, 0, Nat.zero_le _, rfl, rfl, by simpa using HO.out.alloc _, fun e => by have := (HO.out.lt _ e).2; omega, Blk.new _ _ _, HB2.out.alloc (by omega) _⟩
  case round =>
    obtain ⟨k, av, lv, cv, hk, rfl, hlv, hOk, hnv, hBl, hB⟩ := hrel
    have HLv := Lib.hid hlv
    have HOk := Lib.hid hOk
    have HBl := Lib.hid hBl
    have HBk := Lib.hid hB
    have HNv := Lib.hid hnv
    have hzn := hBl.lt
    have hzr := hB.size
    simp only [World.size_alloc] at hzr
    have hz0 : w.heap.size < wr.heap.size := by omega
    have bc := bcellB hB
    have x2 : wr.cell? ⟨w.heap.size, 2, none⟩ = some (.slice (some ⟨g, 0, none⟩) ts.length ts.length) := (bc.1 _ _ (by omega)).trans (by go_simp)
    clear hOk hBl hB hnv bc hlv
    by_cases hlt : k < ts.length
    · have HFS := Lib.hid (filter_snoc (p := (fun t => decide ((t.s.size : Int) ≤ m))) hlt)
      have HFL := Lib.hid (filter_le (p := (fun t => decide ((t.s.size : Int) ≤ m))) (ts := ts) (k := k))
      obtain ⟨c0, c1, c2⟩ := HT.out.below ((below2 w _ _).trans (HBk.out.mono (by omega))) hb k hlt
      have hsz := HS.out k hlt
      obtain ⟨s, n, d, het⟩ : ∃ s n d, ts[k] = ⟨s, n, d⟩ := ⟨_, _, _, rfl⟩
      rw [het] at c0 c1 c2 hsz HFS
      simp only [Nat.zero_add] at c0 c1 c2 hsz HFS
      clear het
      unfold maxLen at hsz
      by_cases hq : (s.size : Int) ≤ m
      · have hq1 : decide ((s.size : Int) ≤ m) = true := by simpa using hq
        rw [hq1, if_pos rfl] at HFS
        clear hq1
        go_wp2_with fail
        have n2 : wr.cell? ⟨w2.heap.size, 2, none⟩ = some (.slice av lv cv) := HBl.out.cell 2
        have nf : wr.frozen? ⟨w2.heap.size, 2, none⟩ = false := HBl.out.frozen 2
        have e0 := Ne.symm (own_far HOk.out (n := w.heap.size) (by omega))
        have e2 := Ne.symm HNv.out
        have nf2 : (wr.alloc (.cells #[.string s, .int .i64 n, .int .i64 d] 54)).drew.frozen? ⟨w2.heap.size, 2, none⟩ = false := (frozen_alloc_lt _ hzn).trans nf
        have nc2 : (wr.alloc (.cells #[.string s, .int .i64 n, .int .i64 d] 54)).drew.cell? ⟨w2.heap.size, 2, none⟩ = some (.slice av lv cv) := ((below1 wr _).cell (p := ⟨w2.heap.size, 2, none⟩) hzn).trans n2
        have hkI : (0 : Int) ≤ (k : Int) := by omega
        have hkL : (k : Int) < (ts.length : Int) := by omega
        go_region_law
          ((refine step_append_lies _ (by rfl) _ _ _ (by rfl) (w.heap.size + 1 + 1) 54 i0 _ 3 32 Try.underlying27 hi0 hi1 hi2 hi3 rfl (by omega) (.slice av lv cv) lv (cellsT ((ts.take k).filter fun t => decide ((t.s.size : Int) ≤ m))) (by rfl) (by have h := HOk.out; unfold OwnT at h; rw [← HLv.out] at h; exact (h.alloc _).drew)
              ⟨wr.heap.size, 0, none⟩ 1 1 [.string s, .int .i64 n, .int .i64 d] (by rfl) (by rfl) (World.news_of_block (cs := #[.string s, .int .i64 n, .int .i64 d]) (t := 54) (fr := (0, 0)) (heap_alloc_new wr _)) (by simp [Value.oneCell'])
              (by omega) (by have := HFL.out; rw [← HLv.out] at this; unfold maxLen; omega) (by have := HFL.out; rw [← HLv.out] at this; omega) (by simp; omega) (wr.heap.size + 1) (by simp) ?_; intro gg cg w3 hown1 hgrow hat hlt2; have q0 := (hgrow.cell_far ⟨w2.heap.size, 2, none⟩ (by simp; omega) e2).trans nc2; have q1 := (hgrow.frozen_far ⟨w2.heap.size, 2, none⟩ (by simp; omega) e2).trans nf2))
        all_goals
          have hOs := Lib.hid (AccRel.step (F := fun k => (ts.take k).filter fun t => decide ((t.s.size : Int) ≤ m)) (m := ts.length) (x := .int .i64 L) (y := .int .i64 m) ⟨s, n, d⟩ (by omega) HFS.out HLv.out HOk.out HNv.out HBl.out HBk.out (by omega) (by omega) hown1 hgrow hat)
          clear hown1 hgrow hat
          go_wp2
          go_roundw
          case rel => exact hOs.out
          case measure => simp [intOf]; omega
      · have hq1 : decide ((s.size : Int) ≤ m) = false := by simpa using hq
        rw [hq1] at HFS
        have HFS2 := Lib.hid (show (fun k => (ts.take k).filter fun t => decide ((t.s.size : Int) ≤ m)) (k + 1) = (ts.take k).filter fun t => decide ((t.s.size : Int) ≤ m) from by have h := HFS.out; simpa using h)
        clear hq1
        go_wp2
        go_roundw
        case rel => exact AccRel.skip (F := fun k => (ts.take k).filter fun t => decide ((t.s.size : Int) ≤ m)) (by omega) HFS2.out HLv.out HOk.out HNv.out HBl.out HBk.out
        case measure => simp [intOf]; omega
    · obtain rfl : k = ts.length := by omega
      have n0 : wr.cell? ⟨w2.heap.size, 0, none⟩ = some (.int .i64 L) := HBl.out.cell 0
      have n1 : wr.cell? ⟨w2.heap.size, 1, none⟩ = some (.int .i64 m) := HBl.out.cell 1
      have n2 : wr.cell? ⟨w2.heap.size, 2, none⟩ = some (.slice av lv cv) := HBl.out.cell 2
      have bc := bcellB HBk.out
      have r0 : wr.cell? ⟨w.heap.size + 1, 0, none⟩ = some (.int .i64 0) := (bc.1 _ _ (by omega)).trans (by go_simp)
      have r1 : wr.cell? ⟨w.heap.size + 1, 1, none⟩ = some (.int .i64 0) := (bc.1 _ _ (by omega)).trans (by go_simp)
      have r2 : wr.cell? ⟨w.heap.size + 1, 2, none⟩ = some (.slice none 0 0) := (bc.1 _ _ (by omega)).trans (by go_simp)
      have z0 : wr.frozen? ⟨w.heap.size + 1, 0, none⟩ = false := (bc.2 _ _ (by omega)).trans (by go_simp)
      have z1 : wr.frozen? ⟨w.heap.size + 1, 1, none⟩ = false := (bc.2 _ _ (by omega)).trans (by go_simp)
      have z2 : wr.frozen? ⟨w.heap.size + 1, 2, none⟩ = false := (bc.2 _ _ (by omega)).trans (by go_simp)
      have hE : (ts.take ts.length).filter (fun t => decide ((t.s.size : Int) ≤ m)) = truncL m ts := by rw [List.take_length]; rfl
      have HO2 := Lib.hid (show OwnT wr (w.heap.size + 1 + 1) (.slice av lv cv) (truncL m ts) from by rw [← hE]; exact HOk.out)
      have HL2 := Lib.hid (show lv = (truncL m ts).length from by rw [← hE]; exact HLv.out)
      have HW := Lib.hid ((below2 w _ _).trans (HBk.out.mono (by omega)))
      clear bc hE
      go_wp2
      obtain ⟨a', c', he, hle, hN⟩ := HO2.out.newRow
      injection he with e1 e2 e3
      subst e1 e3
      have hW3 := HW.out
      refine bodyPost_ret (v := .tuple #[.agg #[.int .i64 L, .int .i64 m, .slice av (truncL m ts).length cv], .int .i64 0]) (by rw [← HL2.out]; simp [results, Try.results24, go_sem, r0, r1, r2]) rfl ⟨av, cv, rfl, by go_grown, ?_⟩
      exact (hN.far3 (by omega)).mono (by omega) (Nat.le_refl _)
end
end Go.Proofs.Ytjciadbmpkkgdaa
