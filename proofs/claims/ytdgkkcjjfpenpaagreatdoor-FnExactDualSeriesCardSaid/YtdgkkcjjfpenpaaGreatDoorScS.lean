/-
  The model's l01Scale by nought: no term.
  Contracts of ScaleSeries, of the program and of its model: both return the same series and code.
  Plain mathematics of scaling: which products are nought.
-/
import Derived.Test.YtdgkkcjjfpenpaaGreatDoorScT
namespace Go.Proofs.YtdgkkcjjfpenpaaGreatDoor
open Go.RowKit

set_option maxRecDepth 100000 in
set_option maxHeartbeats 4000000 in
theorem l01Scale_n (L V q : Int) (b off cap : Nat) (ts : List Tm) (w : World) :
    Calls Tryz.prog 25 #[.agg #[.int .i64 L, .int .i64 V, .slice (some ⟨b, off, none⟩) ts.length cap], .agg #[.int .i64 0, .int .i64 q]] w (ScPost L V (some []) w) := by
  go_enter Tryz.func25, Tryz.ntmps25
  go_wp2_with fail
  refine (l01Empty_c L V _ rfl _).mono ?_
  rintro e w1 ⟨g1, rfl, hO, hb1⟩
  have hz1 : w.heap.size + 1 + 1 < w1.heap.size := by have := hb1.size; simp at this; omega
  have HO := Lib.hid (show OwnT w1 (w.heap.size + 1 + 1 + 1) (.slice (some ⟨g1, 0, none⟩) 0 0) [] from by simpa using hO)
  have HB := Lib.hid (show Below (w.heap.size + 1 + 1 + 1) _ w1 from by simpa using hb1)
  have HBl := Lib.hid (Blk.new w1 24 #[.int .i64 L, .int .i64 V, .slice (some ⟨g1, 0, none⟩) 0 0])
  have HO1 := Lib.hid (HO.out.alloc (.cells #[.int .i64 L, .int .i64 V, .slice (some ⟨g1, 0, none⟩) 0 0] 24))
  clear hb1 hO
  go_wp2_with fail
  go_loopw [7] (fun vi wr => vi = .int .i64 0 ∧ w1.heap.size < wr.heap.size ∧ Blk wr w1.heap.size 24 #[.int .i64 L, .int .i64 V, .slice (some ⟨g1, 0, none⟩) 0 0] ∧ OwnT wr (w.heap.size + 1 + 1 + 1) (.slice (some ⟨g1, 0, none⟩) 0 0) [] ∧ Below (w.heap.size + 1 + 1 + 1) (((w.alloc (.cells #[.int .i64 L, .int .i64 V, .slice (some ⟨b, off, none⟩) ts.length cap] 24)).alloc (.cells #[.int .i64 0, .int .i64 q] 44)).alloc (.cells #[.int .i64 0, .int .i64 0, .slice none 0 0] 24)) wr) (fun _ _ => 0)
  case atStart => exact ⟨rfl, by simp, HBl.out, HO1.out, HB.out.alloc (by omega) _⟩
  case round =>
    obtain ⟨rfl, hzr, hBl, hO, hB⟩ := hrel
    have HBlr := Lib.hid hBl
    have HOr := Lib.hid hO
    have HBr := Lib.hid hB
    have bc := bcellB hB
    have x2 : wr.cell? ⟨w.heap.size, 2, none⟩ = some (.slice (some ⟨b, off, none⟩) ts.length cap) := (bc.1 _ _ (by omega)).trans (by go_simp)
    have y0 : wr.cell? ⟨w.heap.size + 1, 0, none⟩ = some (.int .i64 0) := (bc.1 _ _ (by omega)).trans (by go_simp)
    have y1 : wr.cell? ⟨w.heap.size + 1, 1, none⟩ = some (.int .i64 q) := (bc.1 _ _ (by omega)).trans (by go_simp)
    clear hBl hO hB bc
    by_cases hlt : 0 < ts.length
    · have hl0 : (0 : Int) < (ts.length : Int) := by omega
      go_wp2_with fail
      refine (l01Zero_c _ _ _).mono ?_
      rintro e wy ⟨rfl, hby⟩
      have hz4 := hby.size
      have HBly := Lib.hid (HBlr.out.below hby hzr)
      have HOy := Lib.hid (HOr.out.below hby (fun g h => (HOr.out.lt g h).2))
      have HBy := Lib.hid (HBr.out.trans (hby.mono (by omega)))
      have hz5 : w.heap.size + 1 + 1 < wy.heap.size := by omega
      clear hby
      have n0 : wy.cell? ⟨w1.heap.size, 0, none⟩ = some (.int .i64 L) := HBly.out.cell 0
      have n1 : wy.cell? ⟨w1.heap.size, 1, none⟩ = some (.int .i64 V) := HBly.out.cell 1
      have n2 : wy.cell? ⟨w1.heap.size, 2, none⟩ = some (.slice (some ⟨g1, 0, none⟩) 0 0) := HBly.out.cell 2
      have bc := bcellB HBy.out
      have r0 : wy.cell? ⟨w.heap.size + 1 + 1, 0, none⟩ = some (.int .i64 0) := (bc.1 _ _ (by omega)).trans (by go_simp)
      have r1 : wy.cell? ⟨w.heap.size + 1 + 1, 1, none⟩ = some (.int .i64 0) := (bc.1 _ _ (by omega)).trans (by go_simp)
      have r2 : wy.cell? ⟨w.heap.size + 1 + 1, 2, none⟩ = some (.slice none 0 0) := (bc.1 _ _ (by omega)).trans (by go_simp)
      have z0 : wy.frozen? ⟨w.heap.size + 1 + 1, 0, none⟩ = false := (bc.2 _ _ (by omega)).trans (by go_simp)
      have z1 : wy.frozen? ⟨w.heap.size + 1 + 1, 1, none⟩ = false := (bc.2 _ _ (by omega)).trans (by go_simp)
      have z2 : wy.frozen? ⟨w.heap.size + 1 + 1, 2, none⟩ = false := (bc.2 _ _ (by omega)).trans (by go_simp)
      have HW := Lib.hid ((below3 w _ _ _).trans (HBy.out.mono (by omega)))
      clear bc
      go_wp2
      have hO3 := ((HOy.out.far (p := ⟨w.heap.size + 1 + 1, 0, none⟩) (own_far HOy.out (n := w.heap.size + 1 + 1) (by omega)) (.int .i64 L)).far (p := ⟨w.heap.size + 1 + 1, 1, none⟩) (own_far HOy.out (n := w.heap.size + 1 + 1) (by omega)) (.int .i64 V)).far (p := ⟨w.heap.size + 1 + 1, 2, none⟩) (own_far HOy.out (n := w.heap.size + 1 + 1) (by omega)) (.slice (some ⟨g1, 0, none⟩) 0 0)
      obtain ⟨a', c', he, hle, hNr⟩ := hO3.newRow
      injection he with e1 e2 e3
      subst e1 e3
      refine bodyPost_ret (v := .tuple #[.agg #[.int .i64 L, .int .i64 V, .slice (some ⟨g1, 0, none⟩) 0 0], .bool true]) (by simp [results, Tryz.results25, go_sem, r0, r1, r2]) rfl ⟨some ⟨g1, 0, none⟩, 0, rfl, ?_, hNr.mono (by omega) (Nat.le_refl _)⟩
      have := HW.out
      go_grown
    · have hl0 : ts.length = 0 := by omega
      have hl1 : ¬ (0 : Int) < (ts.length : Int) := by omega
      have HBly := HBlr
      have HOy := HOr
      have HBy := HBr
      have hz5 : w.heap.size + 1 + 1 < wr.heap.size := by omega
      have n0 : wr.cell? ⟨w1.heap.size, 0, none⟩ = some (.int .i64 L) := HBly.out.cell 0
      have n1 : wr.cell? ⟨w1.heap.size, 1, none⟩ = some (.int .i64 V) := HBly.out.cell 1
      have n2 : wr.cell? ⟨w1.heap.size, 2, none⟩ = some (.slice (some ⟨g1, 0, none⟩) 0 0) := HBly.out.cell 2
      have bc := bcellB HBy.out
      have r0 : wr.cell? ⟨w.heap.size + 1 + 1, 0, none⟩ = some (.int .i64 0) := (bc.1 _ _ (by omega)).trans (by go_simp)
      have r1 : wr.cell? ⟨w.heap.size + 1 + 1, 1, none⟩ = some (.int .i64 0) := (bc.1 _ _ (by omega)).trans (by go_simp)
      have r2 : wr.cell? ⟨w.heap.size + 1 + 1, 2, none⟩ = some (.slice none 0 0) := (bc.1 _ _ (by omega)).trans (by go_simp)
      have z0 : wr.frozen? ⟨w.heap.size + 1 + 1, 0, none⟩ = false := (bc.2 _ _ (by omega)).trans (by go_simp)
      have z1 : wr.frozen? ⟨w.heap.size + 1 + 1, 1, none⟩ = false := (bc.2 _ _ (by omega)).trans (by go_simp)
      have z2 : wr.frozen? ⟨w.heap.size + 1 + 1, 2, none⟩ = false := (bc.2 _ _ (by omega)).trans (by go_simp)
      have HW := Lib.hid ((below3 w _ _ _).trans (HBy.out.mono (by omega)))
      clear bc
      go_wp2
      have hO3 := ((HOy.out.far (p := ⟨w.heap.size + 1 + 1, 0, none⟩) (own_far HOy.out (n := w.heap.size + 1 + 1) (by omega)) (.int .i64 L)).far (p := ⟨w.heap.size + 1 + 1, 1, none⟩) (own_far HOy.out (n := w.heap.size + 1 + 1) (by omega)) (.int .i64 V)).far (p := ⟨w.heap.size + 1 + 1, 2, none⟩) (own_far HOy.out (n := w.heap.size + 1 + 1) (by omega)) (.slice (some ⟨g1, 0, none⟩) 0 0)
      obtain ⟨a', c', he, hle, hNr⟩ := hO3.newRow
      injection he with e1 e2 e3
      subst e1 e3
      refine bodyPost_ret (v := .tuple #[.agg #[.int .i64 L, .int .i64 V, .slice (some ⟨g1, 0, none⟩) 0 0], .bool true]) (by simp [results, Tryz.results25, go_sem, r0, r1, r2]) rfl ⟨some ⟨g1, 0, none⟩, 0, rfl, ?_, hNr.mono (by omega) (Nat.le_refl _)⟩
      have := HW.out
      go_grown
end Go.Proofs.YtdgkkcjjfpenpaaGreatDoor

namespace Go.Proofs.YtdgkkcjjfpenpaaGreatDoor
open Go.RowKit

/-- is a term kept -/
def keepT (t : Tm) : Bool := !(t.n == 0 && t.d == 1)
/-- the terms that the program keeps -/
def keepL (p q : Int) (ts : List Tm) : List Tm := (ts.map (mulT p q)).filter keepT
theorem keep_snoc {p q : Int} {ts : List Tm} {k : Nat} (hk : k < ts.length) : keepL p q (ts.take (k + 1)) = keepL p q (ts.take k) ++ cond (keepT (mulT p q ts[k])) [mulT p q ts[k]] [] := by
  unfold keepL
  rw [map_snoc hk, List.filter_append]
  cases h : keepT (mulT p q ts[k]) <;> simp [h]
theorem keep_le {p q : Int} {ts : List Tm} {k : Nat} : (keepL p q (ts.take k)).length ≤ ts.length :=
  Nat.le_trans (List.length_filter_le _ _) (by rw [List.length_map, List.length_take]; omega)
theorem keep_mem {p q : Int} {ts : List Tm} {t : Tm} (h : t ∈ keepL p q ts) : ∃ u ∈ ts, t = mulT p q u := by
  unfold keepL at h
  obtain ⟨u, hu, rfl⟩ := List.mem_map.1 (List.mem_filter.1 h).1
  exact ⟨u, hu, rfl⟩

section
variable (L V p q : Int) (g : Nat) (ts : List Tm) (w : World)
set_option maxRecDepth 100000 in
set_option maxHeartbeats 4000000 in
theorem iScale_1 (h1 : serB L V ts = false) (hl : ts.length ≤ 1048576) (hs : ∀ i (h : i < ts.length), (ts[i]).s.size ≤ maxLen) (hb : g < w.heap.size) (ht : TermsIn w g 0 ts) :
    Calls Tryz.prog 42 #[.agg #[.int .i64 L, .int .i64 V, .slice (some ⟨g, 0, none⟩) ts.length ts.length], .agg #[.int .i64 p, .int .i64 q]] w (SerPost 0 0 [] 1 w) := by
  have HT := Lib.hid ht
  have HS := Lib.hid hs
  clear ht hs
  go_enter Tryz.func42, Tryz.ntmps42
  go_wp2_with fail
  refine (iIsSeries_c L V g 0 _ ts hl HS.out _ (by simp; omega) (HT.out.below (below3 w _ _ _) hb)).mono ?_
  rintro e w1 ⟨rfl, hb1⟩
  have hB := hb1
  simp only [World.size_alloc] at hB
  have hz := hB.size
  simp only [World.size_alloc] at hz
  obtain ⟨hc, hf⟩ := bcellB hB
  have r0 : w1.cell? ⟨w.heap.size + 1 + 1, 0, none⟩ = some (.int .i64 0) := (hc _ _ (by omega)).trans (by go_simp)
  have r1 : w1.cell? ⟨w.heap.size + 1 + 1, 1, none⟩ = some (.int .i64 0) := (hc _ _ (by omega)).trans (by go_simp)
  have r2 : w1.cell? ⟨w.heap.size + 1 + 1, 2, none⟩ = some (.slice none 0 0) := (hc _ _ (by omega)).trans (by go_simp)
  have z0 : w1.frozen? ⟨w.heap.size + 1 + 1, 0, none⟩ = false := (hf _ _ (by omega)).trans (by go_simp)
  have z1 : w1.frozen? ⟨w.heap.size + 1 + 1, 1, none⟩ = false := (hf _ _ (by omega)).trans (by go_simp)
  have z2 : w1.frozen? ⟨w.heap.size + 1 + 1, 2, none⟩ = false := (hf _ _ (by omega)).trans (by go_simp)
  have hz2 : w.heap.size + 1 + 1 < w1.heap.size := by omega
  have hW : Below w.heap.size w w1 := (below3 w _ _ _).trans (hb1.mono (by simp; omega))
  clear hb1 hB hc hf
  rw [h1]
  go_wp2
  exact bodyPost_ret (v := .tuple #[.agg #[.int .i64 0, .int .i64 0, .slice none 0 0], .int .i64 1]) (by simp [results, Tryz.results42, go_sem, r0, r1, r2]) rfl (SerPost.err 1 rfl (by go_grown))
set_option maxRecDepth 100000 in
set_option maxHeartbeats 4000000 in
theorem iScale_2 (h1 : serB L V ts = true) (h2 : isF p q = false) (hl : ts.length ≤ 1048576) (hs : ∀ i (h : i < ts.length), (ts[i]).s.size ≤ maxLen) (hb : g < w.heap.size) (ht : TermsIn w g 0 ts) :
    Calls Tryz.prog 42 #[.agg #[.int .i64 L, .int .i64 V, .slice (some ⟨g, 0, none⟩) ts.length ts.length], .agg #[.int .i64 p, .int .i64 q]] w (SerPost 0 0 [] 1 w) := by
  have HT := Lib.hid ht
  have HS := Lib.hid hs
  clear ht hs
  go_enter Tryz.func42, Tryz.ntmps42
  go_wp2_with fail
  refine (iIsSeries_c L V g 0 _ ts hl HS.out _ (by simp; omega) (HT.out.below (below3 w _ _ _) hb)).mono ?_
  rintro e w1 ⟨rfl, hb1⟩
  have hB := hb1
  simp only [World.size_alloc] at hB
  have hz := hB.size
  simp only [World.size_alloc] at hz
  obtain ⟨hc, hf⟩ := bcellB hB
  have x0 : w1.cell? ⟨w.heap.size, 0, none⟩ = some (.int .i64 L) := (hc _ _ (by omega)).trans (by go_simp)
  have x1 : w1.cell? ⟨w.heap.size, 1, none⟩ = some (.int .i64 V) := (hc _ _ (by omega)).trans (by go_simp)
  have x2 : w1.cell? ⟨w.heap.size, 2, none⟩ = some (.slice (some ⟨g, 0, none⟩) ts.length ts.length) := (hc _ _ (by omega)).trans (by go_simp)
  have y0 : w1.cell? ⟨w.heap.size + 1, 0, none⟩ = some (.int .i64 p) := (hc _ _ (by omega)).trans (by go_simp)
  have y1 : w1.cell? ⟨w.heap.size + 1, 1, none⟩ = some (.int .i64 q) := (hc _ _ (by omega)).trans (by go_simp)
  have hz2 : w.heap.size + 1 + 1 < w1.heap.size := by omega
  have HB := Lib.hid hB
  clear hb1 hB hc hf
  rw [h1]
  go_wp2_with fail
  refine (isFraction_c _ _ _).mono ?_
  rintro e w2 ⟨rfl, hb2⟩
  rw [h2]
  have hz3 := hb2.size
  have HB2 := Lib.hid (HB.out.trans (hb2.mono (by omega)))
  obtain ⟨hc, hf⟩ := bcellB HB2.out
  clear x0 x1 x2 y0 y1
  have r0 : w2.cell? ⟨w.heap.size + 1 + 1, 0, none⟩ = some (.int .i64 0) := (hc _ _ (by omega)).trans (by go_simp)
  have r1 : w2.cell? ⟨w.heap.size + 1 + 1, 1, none⟩ = some (.int .i64 0) := (hc _ _ (by omega)).trans (by go_simp)
  have r2 : w2.cell? ⟨w.heap.size + 1 + 1, 2, none⟩ = some (.slice none 0 0) := (hc _ _ (by omega)).trans (by go_simp)
  have z0 : w2.frozen? ⟨w.heap.size + 1 + 1, 0, none⟩ = false := (hf _ _ (by omega)).trans (by go_simp)
  have z1 : w2.frozen? ⟨w.heap.size + 1 + 1, 1, none⟩ = false := (hf _ _ (by omega)).trans (by go_simp)
  have z2 : w2.frozen? ⟨w.heap.size + 1 + 1, 2, none⟩ = false := (hf _ _ (by omega)).trans (by go_simp)
  have hz4 : w.heap.size + 1 + 1 < w2.heap.size := by omega
  have hW : Below w.heap.size w w2 := (below3 w _ _ _).trans (HB2.out.mono (by omega))
  clear hb2 hc hf
  go_wp2
  exact bodyPost_ret (v := .tuple #[.agg #[.int .i64 0, .int .i64 0, .slice none 0 0], .int .i64 1]) (by simp [results, Tryz.results42, go_sem, r0, r1, r2]) rfl (SerPost.err 1 rfl (by go_grown))
set_option maxRecDepth 100000 in
set_option maxHeartbeats 4000000 in
theorem iScale_3 (h1 : serB L V ts = true) (h2 : isF p q = true) (hF : ∀ t ∈ ts, isF t.n t.d = true) (hok : okAll ts p q = false) (hl : ts.length ≤ 1048576) (hs : ∀ i (h : i < ts.length), (ts[i]).s.size ≤ maxLen) (hb : g < w.heap.size) (ht : TermsIn w g 0 ts) :
    Calls Tryz.prog 42 #[.agg #[.int .i64 L, .int .i64 V, .slice (some ⟨g, 0, none⟩) ts.length ts.length], .agg #[.int .i64 p, .int .i64 q]] w (SerPost 0 0 [] 3 w) := by
  have HT := Lib.hid ht
  have HS := Lib.hid hs
  have HF := Lib.hid hF
  have HZ := Lib.hid (ser_small h1)
  clear hF
  clear ht hs
  go_enter Tryz.func42, Tryz.ntmps42
  go_wp2_with fail
  refine (iIsSeries_c L V g 0 _ ts hl HS.out _ (by simp; omega) (HT.out.below (below3 w _ _ _) hb)).mono ?_
  rintro e w1 ⟨rfl, hb1⟩
  have hB := hb1
  simp only [World.size_alloc] at hB
  have hz := hB.size
  simp only [World.size_alloc] at hz
  obtain ⟨hc, hf⟩ := bcellB hB
  have x0 : w1.cell? ⟨w.heap.size, 0, none⟩ = some (.int .i64 L) := (hc _ _ (by omega)).trans (by go_simp)
  have x1 : w1.cell? ⟨w.heap.size, 1, none⟩ = some (.int .i64 V) := (hc _ _ (by omega)).trans (by go_simp)
  have x2 : w1.cell? ⟨w.heap.size, 2, none⟩ = some (.slice (some ⟨g, 0, none⟩) ts.length ts.length) := (hc _ _ (by omega)).trans (by go_simp)
  have y0 : w1.cell? ⟨w.heap.size + 1, 0, none⟩ = some (.int .i64 p) := (hc _ _ (by omega)).trans (by go_simp)
  have y1 : w1.cell? ⟨w.heap.size + 1, 1, none⟩ = some (.int .i64 q) := (hc _ _ (by omega)).trans (by go_simp)
  have hz2 : w.heap.size + 1 + 1 < w1.heap.size := by omega
  have HB := Lib.hid hB
  clear hb1 hB hc hf
  rw [h1]
  go_wp2_with fail
  refine (isFraction_c _ _ _).mono ?_
  rintro e w2 ⟨rfl, hb2⟩
  rw [h2]
  have hz3 := hb2.size
  have HB2 := Lib.hid (HB.out.trans (hb2.mono (by omega)))
  obtain ⟨hc, hf⟩ := bcellB HB2.out
  clear x0 x1 x2 y0 y1
  have x0 : w2.cell? ⟨w.heap.size, 0, none⟩ = some (.int .i64 L) := (hc _ _ (by omega)).trans (by go_simp)
  have x1 : w2.cell? ⟨w.heap.size, 1, none⟩ = some (.int .i64 V) := (hc _ _ (by omega)).trans (by go_simp)
  have x2 : w2.cell? ⟨w.heap.size, 2, none⟩ = some (.slice (some ⟨g, 0, none⟩) ts.length ts.length) := (hc _ _ (by omega)).trans (by go_simp)
  have y0 : w2.cell? ⟨w.heap.size + 1, 0, none⟩ = some (.int .i64 p) := (hc _ _ (by omega)).trans (by go_simp)
  have y1 : w2.cell? ⟨w.heap.size + 1, 1, none⟩ = some (.int .i64 q) := (hc _ _ (by omega)).trans (by go_simp)
  have hz4 : w.heap.size + 1 + 1 < w2.heap.size := by omega
  have hg2 : g < w2.heap.size := by omega
  have hW : Below w.heap.size w w2 := (below3 w _ _ _).trans (HB2.out.mono (by omega))
  have HT2 := Lib.hid (HT.out.below hW hb)
  clear hb2 hc hf hW
  go_wp2_with fail
  refine (multiplesOf_c p q h2 _ _ ts hl HF.out _ (.inr ⟨g, 0, rfl, hg2, HT2.out⟩)).mono ?_
  rintro e w3 ⟨hb3, _, hE⟩
  obtain rfl := hE hok
  have hz5 := hb3.size
  have HB3 := Lib.hid (HB2.out.trans (hb3.mono (by omega)))
  obtain ⟨hc, hf⟩ := bcellB HB3.out
  have r0 : w3.cell? ⟨w.heap.size + 1 + 1, 0, none⟩ = some (.int .i64 0) := (hc _ _ (by omega)).trans (by go_simp)
  have r1 : w3.cell? ⟨w.heap.size + 1 + 1, 1, none⟩ = some (.int .i64 0) := (hc _ _ (by omega)).trans (by go_simp)
  have r2 : w3.cell? ⟨w.heap.size + 1 + 1, 2, none⟩ = some (.slice none 0 0) := (hc _ _ (by omega)).trans (by go_simp)
  have z0 : w3.frozen? ⟨w.heap.size + 1 + 1, 0, none⟩ = false := (hf _ _ (by omega)).trans (by go_simp)
  have z1 : w3.frozen? ⟨w.heap.size + 1 + 1, 1, none⟩ = false := (hf _ _ (by omega)).trans (by go_simp)
  have z2 : w3.frozen? ⟨w.heap.size + 1 + 1, 2, none⟩ = false := (hf _ _ (by omega)).trans (by go_simp)
  have hz6 : w.heap.size + 1 + 1 < w3.heap.size := by omega
  have hW : Below w.heap.size w w3 := (below3 w _ _ _).trans (HB3.out.mono (by omega))
  clear hb3 hc hf x0 x1 x2 y0 y1 hE
  go_wp2
  exact bodyPost_ret (v := .tuple #[.agg #[.int .i64 0, .int .i64 0, .slice none 0 0], .int .i64 3]) (by simp [results, Tryz.results42, go_sem, r0, r1, r2]) rfl (SerPost.err 3 rfl (by go_grown))
set_option maxRecDepth 100000 in
set_option maxHeartbeats 8000000 in
theorem iScale_4 (h1 : serB L V ts = true) (h2 : isF p q = true) (hF : ∀ t ∈ ts, isF t.n t.d = true) (hok : okAll ts p q = true) (hl : ts.length ≤ 1048576) (hs : ∀ i (h : i < ts.length), (ts[i]).s.size ≤ maxLen) (hb : g < w.heap.size) (ht : TermsIn w g 0 ts) :
    Calls Tryz.prog 42 #[.agg #[.int .i64 L, .int .i64 V, .slice (some ⟨g, 0, none⟩) ts.length ts.length], .agg #[.int .i64 p, .int .i64 q]] w (SerPost L V (keepL p q ts) 0 w) := by
  have HT := Lib.hid ht
  have HS := Lib.hid hs
  have HF := Lib.hid hF
  have HZ := Lib.hid (ser_small h1)
  clear hF
  clear ht hs
  go_enter Tryz.func42, Tryz.ntmps42
  go_wp2_with fail
  refine (iIsSeries_c L V g 0 _ ts hl HS.out _ (by simp; omega) (HT.out.below (below3 w _ _ _) hb)).mono ?_
  rintro e w1 ⟨rfl, hb1⟩
  have hB := hb1
  simp only [World.size_alloc] at hB
  have hz := hB.size
  simp only [World.size_alloc] at hz
  obtain ⟨hc, hf⟩ := bcellB hB
  have x0 : w1.cell? ⟨w.heap.size, 0, none⟩ = some (.int .i64 L) := (hc _ _ (by omega)).trans (by go_simp)
  have x1 : w1.cell? ⟨w.heap.size, 1, none⟩ = some (.int .i64 V) := (hc _ _ (by omega)).trans (by go_simp)
  have x2 : w1.cell? ⟨w.heap.size, 2, none⟩ = some (.slice (some ⟨g, 0, none⟩) ts.length ts.length) := (hc _ _ (by omega)).trans (by go_simp)
  have y0 : w1.cell? ⟨w.heap.size + 1, 0, none⟩ = some (.int .i64 p) := (hc _ _ (by omega)).trans (by go_simp)
  have y1 : w1.cell? ⟨w.heap.size + 1, 1, none⟩ = some (.int .i64 q) := (hc _ _ (by omega)).trans (by go_simp)
  have hz2 : w.heap.size + 1 + 1 < w1.heap.size := by omega
  have HB := Lib.hid hB
  clear hb1 hB hc hf
  rw [h1]
  go_wp2_with fail
  refine (isFraction_c _ _ _).mono ?_
  rintro e w2 ⟨rfl, hb2⟩
  rw [h2]
  have hz3 := hb2.size
  have HB2 := Lib.hid (HB.out.trans (hb2.mono (by omega)))
  obtain ⟨hc, hf⟩ := bcellB HB2.out
  clear x0 x1 x2 y0 y1
  have x0 : w2.cell? ⟨w.heap.size, 0, none⟩ = some (.int .i64 L) := (hc _ _ (by omega)).trans (by go_simp)
  have x1 : w2.cell? ⟨w.heap.size, 1, none⟩ = some (.int .i64 V) := (hc _ _ (by omega)).trans (by go_simp)
  have x2 : w2.cell? ⟨w.heap.size, 2, none⟩ = some (.slice (some ⟨g, 0, none⟩) ts.length ts.length) := (hc _ _ (by omega)).trans (by go_simp)
  have y0 : w2.cell? ⟨w.heap.size + 1, 0, none⟩ = some (.int .i64 p) := (hc _ _ (by omega)).trans (by go_simp)
  have y1 : w2.cell? ⟨w.heap.size + 1, 1, none⟩ = some (.int .i64 q) := (hc _ _ (by omega)).trans (by go_simp)
  have hz4 : w.heap.size + 1 + 1 < w2.heap.size := by omega
  have hg2 : g < w2.heap.size := by omega
  have hW : Below w.heap.size w w2 := (below3 w _ _ _).trans (HB2.out.mono (by omega))
  have HT2 := Lib.hid (HT.out.below hW hb)
  clear hb2 hc hf hW
  go_wp2_with fail
  refine (multiplesOf_c p q h2 _ _ ts hl HF.out _ (.inr ⟨g, 0, rfl, hg2, HT2.out⟩)).mono ?_
  rintro e w3 ⟨hb3, hE, _⟩
  obtain ⟨bm, rfl, hbm, hM⟩ := hE hok
  have hz5 := hb3.size
  have HM := Lib.hid hM
  have hbl := hM.lt
  have HB3 := Lib.hid (HB2.out.trans (hb3.mono (by omega)))
  have HT3 := Lib.hid (HT2.out.below hb3 hg2)
  obtain ⟨hc, hf⟩ := bcellB HB3.out
  clear x0 x1 x2 y0 y1
  have x0 : w3.cell? ⟨w.heap.size, 0, none⟩ = some (.int .i64 L) := (hc _ _ (by omega)).trans (by go_simp)
  have x1 : w3.cell? ⟨w.heap.size, 1, none⟩ = some (.int .i64 V) := (hc _ _ (by omega)).trans (by go_simp)
  have x2 : w3.cell? ⟨w.heap.size, 2, none⟩ = some (.slice (some ⟨g, 0, none⟩) ts.length ts.length) := (hc _ _ (by omega)).trans (by go_simp)
  have hz6 : w.heap.size + 1 + 1 < w3.heap.size := by omega
  have hg3 : g < w3.heap.size := by omega
  clear hb3 hc hf hE hM
  go_wp2_with fail
  go_loopw [8, 35] (fun v vk wr => ∃ (k : Nat) (at_ : Option Addr) (l c : Nat), k ≤ ts.length ∧ vk = .int .i64 k ∧ v = .slice at_ l c ∧ l = (keepL p q (ts.take k)).length ∧ OwnT wr w3.heap.size (.slice at_ l c) (keepL p q (ts.take k)) ∧ Below w3.heap.size w3 wr) (fun _ vk _ => ts.length - (intOf vk).toNat)
  case atStart => exact ⟨0, none, 0, 0, Nat.zero_le _, rfl, rfl, rfl, OwnT.nil _ _, Below.refl _ _⟩
  case round =>
    obtain ⟨k, av, lv, cv, hk, rfl, rfl, hlv, hO, hB⟩ := hrel
    have HO := Lib.hid hO
    have HBr := Lib.hid hB
    have HL := Lib.hid hlv
    have hzr := hB.size
    have hfew := keep_le (p := p) (q := q) (ts := ts) (k := k)
    clear hO hB hlv x0 x1 x2
    by_cases hlt : k < ts.length
    · obtain ⟨c0, c1, c2⟩ := HT3.out.below HBr.out hg3 k hlt
      have hsz := HS.out k hlt
      have HK := Lib.hid (keep_snoc (p := p) (q := q) hlt)
      have HMa := Lib.hid (mulF_at (ts := ts) (p := p) (q := q) ts.length (Nat.le_refl _) k hlt hlt)
      have hv := HF.out _ (List.getElem_mem hlt)
      obtain ⟨s, n, d, het⟩ : ∃ s n d, ts[k] = ⟨s, n, d⟩ := ⟨_, _, _, rfl⟩
      rw [het] at c0 c1 c2 hsz HK HMa hv
      simp only [mulT] at c0 c1 c2 hsz HK HMa hv
      simp only [Nat.zero_add] at c0 c1 c2
      simp only [prodFm] at HMa
      generalize fN (n * p) (d * q) = N at *
      generalize fD (n * p) (d * q) = D at *
      have hF2 := isF_out hv
      have hsm : SmallF (n, d) := ⟨by simp only; omega, by simp only; omega⟩
      have HSm := Lib.hid hsm
      have HMr := Lib.hid (HM.out.below HBr.out hbl)
      clear het hF2 hsm hv
      go_wp2_with (at_lookup; refine wpList_lookF1 rfl _ _ rfl rfl (HMr.out.alloc _) n d rfl HSm.out ?_; rw [HMa.out]; simp only [look1])
      refine (isZero_c _ _ _).mono ?_
      rintro e w5 ⟨rfl, hb5⟩
      have hbs := hb5
      simp only [World.size_alloc] at hbs
      have hz7 := hbs.size
      simp only [World.size_alloc] at hz7
      have t0 : w5.cell? ⟨wr.heap.size, 0, none⟩ = some (.string s) := (hbs.cell (p := ⟨wr.heap.size, 0, none⟩) (show wr.heap.size < wr.heap.size + 1 + 1 by omega)).trans (by go_simp)
      have u0 : w5.cell? ⟨wr.heap.size + 1, 0, none⟩ = some (.int .i64 N) := (hbs.cell (p := ⟨wr.heap.size + 1, 0, none⟩) (show wr.heap.size + 1 < wr.heap.size + 1 + 1 by omega)).trans (by go_simp)
      have u1 : w5.cell? ⟨wr.heap.size + 1, 1, none⟩ = some (.int .i64 D) := (hbs.cell (p := ⟨wr.heap.size + 1, 1, none⟩) (show wr.heap.size + 1 < wr.heap.size + 1 + 1 by omega)).trans (by go_simp)
      have HO5 := Lib.hid (((HO.out.alloc (.cells #[.string s, .int .i64 n, .int .i64 d] 46)).alloc (.cells #[.int .i64 N, .int .i64 D] 44)).below hb5 (fun g h => by have := (HO.out.lt g h).2; simp; omega))
      have HB5 := Lib.hid (HBr.out.trans (((below2 wr (.cells #[.string s, .int .i64 n, .int .i64 d] 46) (.cells #[.int .i64 N, .int .i64 D] 44)).mono (by omega)).trans (hbs.mono (by omega))))
      have hz8 : wr.heap.size < w5.heap.size := by omega
      have hz9 : wr.heap.size + 1 < w5.heap.size := by omega
      have hzA : w3.heap.size ≤ w5.heap.size := by omega
      clear hb5 hbs c0 c1 c2 HMa
      cases hk0 : (N == 0 && D == 1) with
      | true =>
        have hK := HK.out
        simp only [keepT, hk0, Bool.not_true, cond_false, List.append_nil] at hK
        have HK2 := Lib.hid hK
        clear hK hk0
        go_wp2
        go_roundw
        case rel => exact ⟨k + 1, av, lv, cv, by omega, by go_num, rfl, by rw [HK2.out]; exact HL.out, by rw [HK2.out]; exact HO5.out, HB5.out⟩
        case measure => simp [intOf]; omega
      | false =>
        have hK := HK.out
        simp only [keepT, hk0, Bool.not_false, cond_true] at hK
        have HK2 := Lib.hid hK
        have HT1 := Lib.hid (terms_one w5 ⟨s, N, D⟩)
        clear hK hk0
        go_wp2_with (at_builtin; refine wpList_append_terms rfl _ _ rfl w3.heap.size (.slice av lv cv) lv (keepL p q (ts.take k)) [⟨s, N, D⟩] rfl HL.out (HO5.out.alloc _) _ 1 1 rfl rfl (.inr ⟨w5.heap.size, 0, rfl, HT1.out⟩) (by have := HL.out; omega) (by simp; omega) ?_)
        intro a6 c6 w6 hO6 hG6 _
        have HB6 := Lib.hid (HB5.out.trans (((below1 w5 _).mono hzA).trans (own_grown (HO5.out.alloc _) hG6 (by simp; omega))))
        have HO6 := Lib.hid hO6
        clear hO6 hG6 t0 u0 u1
        go_wp2
        go_roundw
        case rel => exact ⟨k + 1, a6, _, c6, by omega, by go_num, rfl, by rw [HK2.out, List.length_append, HL.out]; rfl, by rw [HK2.out]; exact HO6.out, HB6.out⟩
        case measure => simp [intOf]; omega
    · obtain rfl : k = ts.length := by omega
      have HBw := Lib.hid (HB3.out.trans (HBr.out.mono (show w.heap.size + 1 + 1 + 1 ≤ w3.heap.size by omega)))
      obtain ⟨hc, hf⟩ := bcellB HBw.out
      have x0 : wr.cell? ⟨w.heap.size, 0, none⟩ = some (.int .i64 L) := (hc _ _ (by omega)).trans (by go_simp)
      have x1 : wr.cell? ⟨w.heap.size, 1, none⟩ = some (.int .i64 V) := (hc _ _ (by omega)).trans (by go_simp)
      have hO := HO.out
      rw [List.take_length] at hO
      have hl2 := HL.out
      rw [List.take_length] at hl2
      rw [List.take_length] at hfew
      subst hl2
      obtain ⟨a', c', he, hle, hNr⟩ := hO.newRow
      injection he with e1 e2 e3
      subst e1 e3
      have HNr := Lib.hid hNr.row
      clear hc hf hO hNr
      go_wp2_with fail
      refine (newSeries_c L V av cv (keepL p q ts) (by omega) (fun i hi => by
        obtain ⟨u, hu, e⟩ := keep_mem (List.getElem_mem hi)
        rw [e]
        have := HZ.out u hu
        show u.s.size ≤ _
        omega) _ HNr.out).mono ?_
      clear x0 x1
      rintro e w5 ⟨gz, rfl, hb5, hg5, hM5, hT5⟩
      have HM5 := Lib.hid hM5
      have HT5 := Lib.hid hT5
      have hz9 := hb5.size
      have HB9 := Lib.hid (HBw.out.trans (hb5.mono (by omega)))
      obtain ⟨hc, hf⟩ := bcellB HB9.out
      have r0 : w5.cell? ⟨w.heap.size + 1 + 1, 0, none⟩ = some (.int .i64 0) := (hc _ _ (by omega)).trans (by go_simp)
      have r1 : w5.cell? ⟨w.heap.size + 1 + 1, 1, none⟩ = some (.int .i64 0) := (hc _ _ (by omega)).trans (by go_simp)
      have r2 : w5.cell? ⟨w.heap.size + 1 + 1, 2, none⟩ = some (.slice none 0 0) := (hc _ _ (by omega)).trans (by go_simp)
      have z0 : w5.frozen? ⟨w.heap.size + 1 + 1, 0, none⟩ = false := (hf _ _ (by omega)).trans (by go_simp)
      have z1 : w5.frozen? ⟨w.heap.size + 1 + 1, 1, none⟩ = false := (hf _ _ (by omega)).trans (by go_simp)
      have z2 : w5.frozen? ⟨w.heap.size + 1 + 1, 2, none⟩ = false := (hf _ _ (by omega)).trans (by go_simp)
      have hzz : w.heap.size + 1 + 1 < w5.heap.size := by omega
      have hW3 : Below w.heap.size w w5 := (below3 w _ _ _).trans (HB9.out.mono (by omega))
      clear hc hf hb5 hM5 hT5
      go_wp2
      refine bodyPost_ret (v := .tuple #[.agg #[.int .i64 L, .int .i64 V, .slice (some ⟨gz, 0, none⟩) (keepL p q ts).length (keepL p q ts).length], .int .i64 0]) (by simp [results, Tryz.results42, go_sem, r0, r1, r2]) rfl ⟨some ⟨gz, 0, none⟩, (keepL p q ts).length, rfl, by go_grown, ?_⟩
      exact ((NewRow.of_to hg5 HM5.out HT5.out).far3 (n := w.heap.size + 1 + 1) (by omega)).mono (by omega) (Nat.le_refl _)
end
end Go.Proofs.YtdgkkcjjfpenpaaGreatDoor

namespace Go.Proofs.YtdgkkcjjfpenpaaGreatDoor
open Go.RowKit

theorem f_nought {d : Int} (hd : 1 ≤ d) : fOk 0 d = true ∧ fN 0 d = 0 ∧ fD 0 d = 1 := by
  have hg : gi 0 d = d := by unfold gi; rw [Int.gcd_zero_left]; omega
  have hn : lowN 0 d = 0 := by unfold lowN; simp
  have hdd : lowD 0 d = 1 := by
    unfold lowD
    rw [if_neg (by omega), hg]
    exact Int.ediv_self (by omega)
  have h01 : isF 0 1 = true := by decide
  have hok : fOk 0 d = true := by
    rw [fOk_of (by omega)]
    unfold lowOk
    rw [hn, hdd]
    exact h01
  have h := low_yes hok
  exact ⟨hok, by rw [h.1, hn], by rw [h.2.1, hdd]⟩
theorem f_nonzero {n d : Int} (hn : n ≠ 0) (h : fOk n d = true) : fN n d ≠ 0 := by
  rw [(low_yes h).1]
  intro e
  unfold lowN at e
  have hdv : gi n d ∣ (if d < 0 then -n else n) := by
    split
    · exact Int.dvd_neg.2 (gi_dvd_left n d)
    · exact gi_dvd_left n d
  have := Int.ediv_mul_cancel hdv
  rw [e, Int.zero_mul] at this
  split at this <;> omega

section
variable {L V p q : Int} {ts : List Tm}
theorem ser_isF (h : serB L V ts = true) : ∀ t ∈ ts, isF t.n t.d = true := fun t ht => by
  have := ser_term h t ht
  simp only [termB, Bool.and_eq_true, decide_eq_true_eq] at this
  simp_all
theorem ser_nn (h : serB L V ts = true) : ∀ t ∈ ts, t.n ≠ 0 := fun t ht => by
  have := ser_term h t ht
  simp only [termB, Bool.and_eq_true, decide_eq_true_eq] at this
  simp_all
theorem zero_ok (hq : 1 ≤ q) (hF : ∀ t ∈ ts, isF t.n t.d = true) : okAll ts 0 q = true := by
  unfold okAll
  rw [List.all_eq_true]
  intro t ht
  have hd := (isF_out (hF t ht)).1
  rw [Int.mul_zero]
  exact (f_nought (by have := Int.mul_le_mul hd hq (by omega) (by omega); omega)).1
theorem keep_zero (hq : 1 ≤ q) (hF : ∀ t ∈ ts, isF t.n t.d = true) : keepL 0 q ts = [] := by
  unfold keepL
  rw [List.filter_eq_nil_iff]
  intro t ht
  obtain ⟨u, hu, rfl⟩ := List.mem_map.1 ht
  have hd := (isF_out (hF u hu)).1
  have h := f_nought (d := u.d * q) (by have := Int.mul_le_mul hd hq (by omega) (by omega); omega)
  unfold keepT mulT
  rw [Int.mul_zero, h.2.1, h.2.2]
  simp
theorem keep_all (hp : p ≠ 0) (hn : ∀ t ∈ ts, t.n ≠ 0) (hok : okAll ts p q = true) : keepL p q ts = ts.map (mulT p q) := by
  unfold keepL
  rw [List.filter_eq_self]
  intro t ht
  obtain ⟨u, hu, rfl⟩ := List.mem_map.1 ht
  unfold okAll at hok
  rw [List.all_eq_true] at hok
  have h := f_nonzero (Int.mul_ne_zero (hn u hu) hp) (hok u hu)
  unfold keepT mulT
  simp [h]
end
end Go.Proofs.YtdgkkcjjfpenpaaGreatDoor
