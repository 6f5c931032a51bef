/-
  Contracts of the program's KeepLetters.
-/
import Derived.Test.YtlaaldpejjlbkaaDoorKeepD
namespace Go.Proofs.YtlaaldpejjlbkaaDoor
open Go.RowKit Go.Shelf

theorem bytes_at (W : World) (t : TypeId) (s : ByteArray) : ByAt (Lib.bytesWorld W t s) W.heap.size s.data.toList := fun j hj => by
  have h1 : j < s.size := by simpa using hj
  rw [Lib.bytesWorld_cell W t s j h1, getD_at hj]
theorem bytes_below (W : World) (t : TypeId) (s : ByteArray) : Below W.heap.size W (Lib.bytesWorld W t s) :=
  ⟨rfl, rfl, rfl, by rw [Lib.bytesWorld_size]; omega, fun j hj => Lib.bytesWorld_at_old W t s j hj⟩
section
variable (L V : Int) (g : Nat) (ts : List Tm) (u : ByteArray) (hu : u.size ≤ maxLen) (hl : ts.length ≤ 1048576) (hs : ∀ i (h : i < ts.length), (ts[i]).s.size ≤ maxLen) (w : World) (hb : g < w.heap.size) (ht : TermsIn w g 0 ts)
include hu hl hs hb ht
set_option maxRecDepth 100000 in
set_option maxHeartbeats 4000000 in
theorem iKeep_err (h : serB L V ts = false ∨ (decide ((u.size : Int) ≤ L) && wordB L u.data.toList) = false) (c : Int) (hc0 : c = if serB L V ts then 2 else 1) :
    Calls Tryd.prog 7 #[.agg #[.int .i64 L, .int .i64 V, .slice (some ⟨g, 0, none⟩) ts.length ts.length], .string u] w (SerPost 0 0 [] c w) := by
  have HC := Lib.hid hc0
  clear hc0
  have HT := Lib.hid ht
  have HS := Lib.hid hs
  clear ht hs
  go_enter Tryd.func7, Tryd.ntmps7
  go_wp2_with fail
  refine (iIsSeries_c L V g 0 _ ts hl HS.out _ (by simp; omega) (HT.out.below (below3 w _ _ _) hb)).mono ?_
  rintro e w1 ⟨rfl, hb1⟩
  have hB := hb1
  simp only [World.size_alloc] at hB
  obtain ⟨hc, hf⟩ := bcellB hB
  have r0 : w1.cell? ⟨w.heap.size + 1 + 1, 0, none⟩ = some (.int .i64 0) := (hc _ _ (by omega)).trans (by go_simp)
  have r1 : w1.cell? ⟨w.heap.size + 1 + 1, 1, none⟩ = some (.int .i64 0) := (hc _ _ (by omega)).trans (by go_simp)
  have r2 : w1.cell? ⟨w.heap.size + 1 + 1, 2, none⟩ = some (.slice none 0 0) := (hc _ _ (by omega)).trans (by go_simp)
  have z0 : w1.frozen? ⟨w.heap.size + 1 + 1, 0, none⟩ = false := (hf _ _ (by omega)).trans (by go_simp)
  have z1 : w1.frozen? ⟨w.heap.size + 1 + 1, 1, none⟩ = false := (hf _ _ (by omega)).trans (by go_simp)
  have z2 : w1.frozen? ⟨w.heap.size + 1 + 1, 2, none⟩ = false := (hf _ _ (by omega)).trans (by go_simp)
  have x0 : w1.cell? ⟨w.heap.size, 0, none⟩ = some (.int .i64 L) := (hc _ _ (by omega)).trans (by go_simp)
  have x1 : w1.cell? ⟨w.heap.size, 1, none⟩ = some (.int .i64 V) := (hc _ _ (by omega)).trans (by go_simp)
  have x2 : w1.cell? ⟨w.heap.size, 2, none⟩ = some (.slice (some ⟨g, 0, none⟩) ts.length ts.length) := (hc _ _ (by omega)).trans (by go_simp)
  have y0 : w1.cell? ⟨w.heap.size + 1, 0, none⟩ = some (.string u) := (hc _ _ (by omega)).trans (by go_simp)
  have hz := hB.size
  simp only [World.size_alloc] at hz
  have hzl : w.heap.size + 1 + 1 < w1.heap.size := by omega
  have hzk : w.heap.size + 1 < w1.heap.size := by omega
  have hzj : w.heap.size < w1.heap.size := by omega
  have hW : Below w.heap.size w w1 := (below3 w _ _ _).trans (hb1.mono (by simp; omega))
  clear hb1 hB hc hf
  cases h1 : serB L V ts with
  | false =>
    obtain rfl : c = 1 := by rw [HC.out, h1]; rfl
    go_wp2
    exact bodyPost_ret (v := .tuple #[.agg #[.int .i64 0, .int .i64 0, .slice none 0 0], .int .i64 1]) (by simp [results, Tryd.results7, go_sem, r0, r1, r2]) rfl (SerPost.err 1 rfl (by go_grown))
  | true =>
    have hq : (decide ((u.size : Int) ≤ L) && wordB L u.data.toList) = false := by
      rcases h with h | h
      · rw [h1] at h; cases h
      · exact h
    obtain rfl : c = 2 := by rw [HC.out, h1]; rfl
    go_wp2_with (go_at_call 17; refine (isWord_c L L u hu _).mono ?_; rw [hq]; rintro e w' ⟨rfl, rfl⟩)
    exact bodyPost_ret (v := .tuple #[.agg #[.int .i64 0, .int .i64 0, .slice none 0 0], .int .i64 2]) (by simp [results, Tryd.results7, go_sem, r0, r1, r2]) rfl (SerPost.err 2 rfl (by go_grown))
set_option maxRecDepth 100000 in
set_option maxHeartbeats 4000000 in
theorem iKeep_dup (h1 : serB L V ts = true) (hq : (decide ((u.size : Int) ≤ L) && wordB L u.data.toList) = true) (hL3 : L ≤ 3) (h3 : diffB u.data.toList = false) :
    Calls Tryd.prog 7 #[.agg #[.int .i64 L, .int .i64 V, .slice (some ⟨g, 0, none⟩) ts.length ts.length], .string u] w (SerPost 0 0 [] 2 w) := by
  have HT := Lib.hid ht
  have HS := Lib.hid hs
  clear ht hs
  go_enter Tryd.func7, Tryd.ntmps7
  go_wp2_with fail
  refine (iIsSeries_c L V g 0 _ ts hl HS.out _ (by simp; omega) (HT.out.below (below3 w _ _ _) hb)).mono ?_
  rintro e w1 ⟨rfl, hb1⟩
  have hB := hb1
  simp only [World.size_alloc] at hB
  obtain ⟨hc, hf⟩ := bcellB hB
  have r0 : w1.cell? ⟨w.heap.size + 1 + 1, 0, none⟩ = some (.int .i64 0) := (hc _ _ (by omega)).trans (by go_simp)
  have r1 : w1.cell? ⟨w.heap.size + 1 + 1, 1, none⟩ = some (.int .i64 0) := (hc _ _ (by omega)).trans (by go_simp)
  have r2 : w1.cell? ⟨w.heap.size + 1 + 1, 2, none⟩ = some (.slice none 0 0) := (hc _ _ (by omega)).trans (by go_simp)
  have z0 : w1.frozen? ⟨w.heap.size + 1 + 1, 0, none⟩ = false := (hf _ _ (by omega)).trans (by go_simp)
  have z1 : w1.frozen? ⟨w.heap.size + 1 + 1, 1, none⟩ = false := (hf _ _ (by omega)).trans (by go_simp)
  have z2 : w1.frozen? ⟨w.heap.size + 1 + 1, 2, none⟩ = false := (hf _ _ (by omega)).trans (by go_simp)
  have x0 : w1.cell? ⟨w.heap.size, 0, none⟩ = some (.int .i64 L) := (hc _ _ (by omega)).trans (by go_simp)
  have x1 : w1.cell? ⟨w.heap.size, 1, none⟩ = some (.int .i64 V) := (hc _ _ (by omega)).trans (by go_simp)
  have x2 : w1.cell? ⟨w.heap.size, 2, none⟩ = some (.slice (some ⟨g, 0, none⟩) ts.length ts.length) := (hc _ _ (by omega)).trans (by go_simp)
  have y0 : w1.cell? ⟨w.heap.size + 1, 0, none⟩ = some (.string u) := (hc _ _ (by omega)).trans (by go_simp)
  have hz := hB.size
  simp only [World.size_alloc] at hz
  have hzl : w.heap.size + 1 + 1 < w1.heap.size := by omega
  have hzk : w.heap.size + 1 < w1.heap.size := by omega
  have hzj : w.heap.size < w1.heap.size := by omega
  have hW : Below w.heap.size w w1 := (below3 w _ _ _).trans (hb1.mono (by simp; omega))
  clear hb1 hB hc hf
  rw [h1]
  have hcv := fun W : World => Lib.run_convert_string_bytes (P := Tryd.prog) W 9 47 5 u Tryd.underlying9 Tryd.underlying47 Tryd.underlying5
  have hu3 : u.size ≤ 3 := by simp only [Bool.and_eq_true, decide_eq_true_eq] at hq; omega
  go_wp2_with (first | (go_at_call 17; refine (isWord_c L L u hu _).mono ?_; rw [hq]; rintro e w' ⟨rfl, rfl⟩) | fail)
  have hd := fun cp hcp => areDifferent_c w1.heap.size cp u.data.toList (by rw [size_list]; omega) hcp _ (bytes_at w1 5 u)
  rw [size_list, h3] at hd
  refine (hd _ (by have h := grownCap_ge w1 u.size 0 5; omega)).mono ?_
  clear hd hcv
  rintro e w2 ⟨rfl, rfl⟩
  have hb2 := bytes_below w1 5 u
  obtain ⟨hc, hf⟩ := bcellB hb2
  have q0 : (Lib.bytesWorld w1 5 u).cell? ⟨w.heap.size + 1 + 1, 0, none⟩ = some (.int .i64 0) := (hc _ _ (by omega)).trans r0
  have q1 : (Lib.bytesWorld w1 5 u).cell? ⟨w.heap.size + 1 + 1, 1, none⟩ = some (.int .i64 0) := (hc _ _ (by omega)).trans r1
  have q2 : (Lib.bytesWorld w1 5 u).cell? ⟨w.heap.size + 1 + 1, 2, none⟩ = some (.slice none 0 0) := (hc _ _ (by omega)).trans r2
  have v0 : (Lib.bytesWorld w1 5 u).frozen? ⟨w.heap.size + 1 + 1, 0, none⟩ = false := (hf _ _ (by omega)).trans z0
  have v1 : (Lib.bytesWorld w1 5 u).frozen? ⟨w.heap.size + 1 + 1, 1, none⟩ = false := (hf _ _ (by omega)).trans z1
  have v2 : (Lib.bytesWorld w1 5 u).frozen? ⟨w.heap.size + 1 + 1, 2, none⟩ = false := (hf _ _ (by omega)).trans z2
  have hW := hW.trans (hb2.mono (by omega))
  generalize Lib.bytesWorld w1 5 u = w2 at *
  clear hc hf
  go_wp2
  exact bodyPost_ret (v := .tuple #[.agg #[.int .i64 0, .int .i64 0, .slice none 0 0], .int .i64 2]) (by simp [results, Tryd.results7, go_sem, q0, q1, q2]) rfl (SerPost.err 2 rfl (by go_grown))
set_option maxRecDepth 100000 in
set_option maxHeartbeats 4000000 in
theorem iKeep_ok (h1 : serB L V ts = true) (hq : (decide ((u.size : Int) ≤ L) && wordB L u.data.toList) = true) (hL3 : L ≤ 3) (h3 : diffB u.data.toList = true) :
    Calls Tryd.prog 7 #[.agg #[.int .i64 L, .int .i64 V, .slice (some ⟨g, 0, none⟩) ts.length ts.length], .string u] w (SerPost L V (pickL (ofOnly u) ts) 0 w) := by
  have HT := Lib.hid ht
  have HS := Lib.hid hs
  clear ht hs
  go_enter Tryd.func7, Tryd.ntmps7
  go_wp2_with fail
  refine (iIsSeries_c L V g 0 _ ts hl HS.out _ (by simp; omega) (HT.out.below (below3 w _ _ _) hb)).mono ?_
  rintro e w1 ⟨rfl, hb1⟩
  have hB := hb1
  simp only [World.size_alloc] at hB
  obtain ⟨hc, hf⟩ := bcellB hB
  have r0 : w1.cell? ⟨w.heap.size + 1 + 1, 0, none⟩ = some (.int .i64 0) := (hc _ _ (by omega)).trans (by go_simp)
  have r1 : w1.cell? ⟨w.heap.size + 1 + 1, 1, none⟩ = some (.int .i64 0) := (hc _ _ (by omega)).trans (by go_simp)
  have r2 : w1.cell? ⟨w.heap.size + 1 + 1, 2, none⟩ = some (.slice none 0 0) := (hc _ _ (by omega)).trans (by go_simp)
  have z0 : w1.frozen? ⟨w.heap.size + 1 + 1, 0, none⟩ = false := (hf _ _ (by omega)).trans (by go_simp)
  have z1 : w1.frozen? ⟨w.heap.size + 1 + 1, 1, none⟩ = false := (hf _ _ (by omega)).trans (by go_simp)
  have z2 : w1.frozen? ⟨w.heap.size + 1 + 1, 2, none⟩ = false := (hf _ _ (by omega)).trans (by go_simp)
  have x0 : w1.cell? ⟨w.heap.size, 0, none⟩ = some (.int .i64 L) := (hc _ _ (by omega)).trans (by go_simp)
  have x1 : w1.cell? ⟨w.heap.size, 1, none⟩ = some (.int .i64 V) := (hc _ _ (by omega)).trans (by go_simp)
  have x2 : w1.cell? ⟨w.heap.size, 2, none⟩ = some (.slice (some ⟨g, 0, none⟩) ts.length ts.length) := (hc _ _ (by omega)).trans (by go_simp)
  have y0 : w1.cell? ⟨w.heap.size + 1, 0, none⟩ = some (.string u) := (hc _ _ (by omega)).trans (by go_simp)
  have hz := hB.size
  simp only [World.size_alloc] at hz
  have hzl : w.heap.size + 1 + 1 < w1.heap.size := by omega
  have hzk : w.heap.size + 1 < w1.heap.size := by omega
  have hzj : w.heap.size < w1.heap.size := by omega
  have hW : Below w.heap.size w w1 := (below3 w _ _ _).trans (hb1.mono (by simp; omega))
  clear hb1 hB hc hf
  rw [h1]
  have HSm := Lib.hid (ser_small h1)
  have hcv := fun W : World => Lib.run_convert_string_bytes (P := Tryd.prog) W 9 47 5 u Tryd.underlying9 Tryd.underlying47 Tryd.underlying5
  have hu3 : u.size ≤ 3 := by simp only [Bool.and_eq_true, decide_eq_true_eq] at hq; omega
  go_wp2_with (first | (go_at_call 17; refine (isWord_c L L u hu _).mono ?_; rw [hq]; rintro e w' ⟨rfl, rfl⟩) | fail)
  have hd := fun cp hcp => areDifferent_c w1.heap.size cp u.data.toList (by rw [size_list]; omega) hcp _ (bytes_at w1 5 u)
  rw [size_list, h3] at hd
  refine (hd _ (by have h := grownCap_ge w1 u.size 0 5; omega)).mono ?_
  clear hd hcv
  rintro e w2 ⟨rfl, rfl⟩
  have hb2 := bytes_below w1 5 u
  obtain ⟨hc, hf⟩ := bcellB hb2
  have q0 : (Lib.bytesWorld w1 5 u).cell? ⟨w.heap.size + 1 + 1, 0, none⟩ = some (.int .i64 0) := (hc _ _ (by omega)).trans r0
  have q1 : (Lib.bytesWorld w1 5 u).cell? ⟨w.heap.size + 1 + 1, 1, none⟩ = some (.int .i64 0) := (hc _ _ (by omega)).trans r1
  have q2 : (Lib.bytesWorld w1 5 u).cell? ⟨w.heap.size + 1 + 1, 2, none⟩ = some (.slice none 0 0) := (hc _ _ (by omega)).trans r2
  have v0 : (Lib.bytesWorld w1 5 u).frozen? ⟨w.heap.size + 1 + 1, 0, none⟩ = false := (hf _ _ (by omega)).trans z0
  have v1 : (Lib.bytesWorld w1 5 u).frozen? ⟨w.heap.size + 1 + 1, 1, none⟩ = false := (hf _ _ (by omega)).trans z1
  have v2 : (Lib.bytesWorld w1 5 u).frozen? ⟨w.heap.size + 1 + 1, 2, none⟩ = false := (hf _ _ (by omega)).trans z2
  have a0 : (Lib.bytesWorld w1 5 u).cell? ⟨w.heap.size, 0, none⟩ = some (.int .i64 L) := (hc _ _ (by omega)).trans x0
  have a1 : (Lib.bytesWorld w1 5 u).cell? ⟨w.heap.size, 1, none⟩ = some (.int .i64 V) := (hc _ _ (by omega)).trans x1
  have a2 : (Lib.bytesWorld w1 5 u).cell? ⟨w.heap.size, 2, none⟩ = some (.slice (some ⟨g, 0, none⟩) ts.length ts.length) := (hc _ _ (by omega)).trans x2
  have a3 : (Lib.bytesWorld w1 5 u).cell? ⟨w.heap.size + 1, 0, none⟩ = some (.string u) := (hc _ _ (by omega)).trans y0
  have HW2 := Lib.hid (hW.trans (hb2.mono (by omega)))
  have hz2 := hb2.size
  generalize Lib.bytesWorld w1 5 u = w2 at *
  have hzl2 : w.heap.size + 1 < w2.heap.size := by omega
  have HT2 := Lib.hid (HT.out.below HW2.out hb)
  have hasc : ∀ c ∈ u.data.toList, c.toNat < 128 := fun c hc => by
    simp only [Bool.and_eq_true] at hq
    have := letB_true (List.all_eq_true.1 hq.2 c hc)
    omega
  have HCh := Lib.hid (only_c u (by omega) hasc (w.heap.size + 1) w2 hzl2 a3)
  clear hc hf r0 r1 r2 z0 z1 z2 x0 x1 x2 y0 hb2 hW
  go_wp2_with fail
  refine (withWords_c L V g ts 20 _ (ofOnly u) (ofOnly_shrinks u) (enters_of Tryd.func20 (by decide) rfl) hl (fun t ht => HSm.out t ht) _ (by omega) HT2.out HCh.out).mono ?_
  rintro e w3 ⟨g3, rfl, hb3, hg3, hM3, hT3⟩
  obtain ⟨hc, hf⟩ := bcellB hb3
  have p0 : w3.cell? ⟨w.heap.size + 1 + 1, 0, none⟩ = some (.int .i64 0) := (hc _ _ (by omega)).trans q0
  have p1 : w3.cell? ⟨w.heap.size + 1 + 1, 1, none⟩ = some (.int .i64 0) := (hc _ _ (by omega)).trans q1
  have p2 : w3.cell? ⟨w.heap.size + 1 + 1, 2, none⟩ = some (.slice none 0 0) := (hc _ _ (by omega)).trans q2
  have y0 : w3.frozen? ⟨w.heap.size + 1 + 1, 0, none⟩ = false := (hf _ _ (by omega)).trans v0
  have y1 : w3.frozen? ⟨w.heap.size + 1 + 1, 1, none⟩ = false := (hf _ _ (by omega)).trans v1
  have y2 : w3.frozen? ⟨w.heap.size + 1 + 1, 2, none⟩ = false := (hf _ _ (by omega)).trans v2
  have HW3 := Lib.hid (HW2.out.trans (hb3.mono (by omega)))
  have hz3 := hb3.size
  have HN := Lib.hid (NewRow.of_to hg3 hM3 hT3)
  clear q0 q1 q2 v0 v1 v2 hc hf hb3 hM3 hT3 a0 a1 a2 a3
  go_wp2
  have hW := HW3.out
  refine bodyPost_ret (v := .tuple #[.agg #[.int .i64 L, .int .i64 V, .slice (some ⟨g3, 0, none⟩) (pickL (ofOnly u) ts).length (pickL (ofOnly u) ts).length], .int .i64 0]) (by simp [results, Tryd.results7, go_sem, p0, p1, p2]) rfl ⟨some ⟨g3, 0, none⟩, _, rfl, by go_grown, ?_⟩
  exact (HN.out.far3 (by omega)).mono (by omega) (Nat.le_refl _)
end
end Go.Proofs.YtlaaldpejjlbkaaDoor
