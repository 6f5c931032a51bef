/-
  Contracts of the program's WithoutBeginning and WithoutEnd; their laws' rows' last step.
-/
import Derived.Test.YtjciadbmpkkgdaaWoS
namespace Go.Proofs.Ytjciadbmpkkgdaa
open Go.RowKit Go.Shelf

section
variable (L V : Int) (g : Nat) (ts : List Tm) (u : ByteArray) (hu : u.size ≤ maxLen) (hl : ts.length ≤ 1048576) (hs : ∀ i (h : i < ts.length), (ts[i]).s.size ≤ maxLen) (w : World) (hb : g < w.heap.size) (ht : TermsIn w g 0 ts)
include hu hl hs hb ht
set_option maxRecDepth 100000 in
set_option maxHeartbeats 4000000 in
theorem iWo_err (k : FuncId) (c : Int) (hcw : codeW L V ts u = c) (hc0 : c ≠ 0) :
    Calls Try.prog 67 #[.agg #[.int .i64 L, .int .i64 V, .slice (some ⟨g, 0, none⟩) ts.length ts.length], .string u, .func (.func k) #[] #[]] w (SerPost 0 0 [] c w) := by
  have HT := Lib.hid ht
  have HS := Lib.hid hs
  clear ht hs
  go_enter Try.func67, Try.ntmps67
  go_wp2_with fail
  refine (iIsSeries_c L V g 0 _ ts hl HS.out _ (by simp; omega) (HT.out.below (below4 w _ _ _ _) hb)).mono ?_
  rintro e w1 ⟨rfl, hb1⟩
  have hB := hb1
  simp only [World.size_alloc] at hB
  obtain ⟨hc, hf⟩ := bcellB hB
  have r0 : w1.cell? ⟨w.heap.size + 1 + 1 + 1, 0, none⟩ = some (.int .i64 0) := (hc _ _ (by omega)).trans (by go_simp)
  have r1 : w1.cell? ⟨w.heap.size + 1 + 1 + 1, 1, none⟩ = some (.int .i64 0) := (hc _ _ (by omega)).trans (by go_simp)
  have r2 : w1.cell? ⟨w.heap.size + 1 + 1 + 1, 2, none⟩ = some (.slice none 0 0) := (hc _ _ (by omega)).trans (by go_simp)
  have z0 : w1.frozen? ⟨w.heap.size + 1 + 1 + 1, 0, none⟩ = false := (hf _ _ (by omega)).trans (by go_simp)
  have z1 : w1.frozen? ⟨w.heap.size + 1 + 1 + 1, 1, none⟩ = false := (hf _ _ (by omega)).trans (by go_simp)
  have z2 : w1.frozen? ⟨w.heap.size + 1 + 1 + 1, 2, none⟩ = false := (hf _ _ (by omega)).trans (by go_simp)
  have x0 : w1.cell? ⟨w.heap.size, 0, none⟩ = some (.int .i64 L) := (hc _ _ (by omega)).trans (by go_simp)
  have x1 : w1.cell? ⟨w.heap.size, 1, none⟩ = some (.int .i64 V) := (hc _ _ (by omega)).trans (by go_simp)
  have x2 : w1.cell? ⟨w.heap.size, 2, none⟩ = some (.slice (some ⟨g, 0, none⟩) ts.length ts.length) := (hc _ _ (by omega)).trans (by go_simp)
  have y0 : w1.cell? ⟨w.heap.size + 1, 0, none⟩ = some (.string u) := (hc _ _ (by omega)).trans (by go_simp)
  have y1 : w1.cell? ⟨w.heap.size + 1 + 1, 0, none⟩ = some (.func (.func k) #[] #[]) := (hc _ _ (by omega)).trans (by go_simp)
  have hz := hB.size
  simp only [World.size_alloc] at hz
  have hW : Below w.heap.size w w1 := ((below4 w _ _ _ _).trans (hb1.mono (by simp; omega)))
  clear hb1 hB hc hf
  cases h1 : serB L V ts with
  | false =>
    obtain rfl : c = 1 := by rw [← hcw]; simp [codeW, h1]
    clear hcw
    go_wp2
    exact bodyPost_ret (v := .tuple #[.agg #[.int .i64 0, .int .i64 0, .slice none 0 0], .int .i64 1]) (by simp [results, Try.results67, go_sem, r0, r1, r2]) rfl (SerPost.err 1 rfl (by go_grown))
  | true =>
    have hq : (decide ((u.size : Int) ≤ V) && wordB L u.data.toList) = false := by
      cases h : (decide ((u.size : Int) ≤ V) && wordB L u.data.toList) with
      | false => rfl
      | true => exact absurd (by rw [← hcw]; simp [codeW, h1, h]) hc0
    obtain rfl : c = 2 := by rw [← hcw]; simp only [codeW, h1, hq]; rfl
    clear hcw
    go_wp2_with (go_at_call 40; refine (isWord_c L V u hu _).mono ?_; rw [hq]; rintro e w' ⟨rfl, rfl⟩)
    exact bodyPost_ret (v := .tuple #[.agg #[.int .i64 0, .int .i64 0, .slice none 0 0], .int .i64 2]) (by simp [results, Try.results67, go_sem, r0, r1, r2]) rfl (SerPost.err 2 rfl (by go_grown))
set_option maxRecDepth 100000 in
set_option maxHeartbeats 4000000 in
theorem iWo_ok (k : FuncId) (hk : ∀ (args : Array Value) (W : World), (callFunc k args).run Try.prog W = .ok (.enter k args) W) (f : ByteArray → Option ByteArray) (hsh : Shrinks f) (hf : CutAs k f u) (h1 : serB L V ts = true) (hcw : codeW L V ts u = 0) :
    Calls Try.prog 67 #[.agg #[.int .i64 L, .int .i64 V, .slice (some ⟨g, 0, none⟩) ts.length ts.length], .string u, .func (.func k) #[] #[]] w (SerPost L V (pickL f ts) 0 w) := by
  have HT := Lib.hid ht
  have HS := Lib.hid hs
  have HK := Lib.hid hk
  have HF := Lib.hid hf
  have HSh := Lib.hid hsh
  have HSm := Lib.hid (ser_small h1)
  clear ht hs hk hf hsh
  go_enter Try.func67, Try.ntmps67
  go_wp2_with fail
  refine (iIsSeries_c L V g 0 _ ts hl HS.out _ (by simp; omega) (HT.out.below (below4 w _ _ _ _) hb)).mono ?_
  rw [h1]
  rintro e w1 ⟨rfl, hb1⟩
  have hB := hb1
  simp only [World.size_alloc] at hB
  obtain ⟨hc, hf⟩ := bcellB hB
  have r0 : w1.cell? ⟨w.heap.size + 1 + 1 + 1, 0, none⟩ = some (.int .i64 0) := (hc _ _ (by omega)).trans (by go_simp)
  have r1 : w1.cell? ⟨w.heap.size + 1 + 1 + 1, 1, none⟩ = some (.int .i64 0) := (hc _ _ (by omega)).trans (by go_simp)
  have r2 : w1.cell? ⟨w.heap.size + 1 + 1 + 1, 2, none⟩ = some (.slice none 0 0) := (hc _ _ (by omega)).trans (by go_simp)
  have z0 : w1.frozen? ⟨w.heap.size + 1 + 1 + 1, 0, none⟩ = false := (hf _ _ (by omega)).trans (by go_simp)
  have z1 : w1.frozen? ⟨w.heap.size + 1 + 1 + 1, 1, none⟩ = false := (hf _ _ (by omega)).trans (by go_simp)
  have z2 : w1.frozen? ⟨w.heap.size + 1 + 1 + 1, 2, none⟩ = false := (hf _ _ (by omega)).trans (by go_simp)
  have x0 : w1.cell? ⟨w.heap.size, 0, none⟩ = some (.int .i64 L) := (hc _ _ (by omega)).trans (by go_simp)
  have x1 : w1.cell? ⟨w.heap.size, 1, none⟩ = some (.int .i64 V) := (hc _ _ (by omega)).trans (by go_simp)
  have x2 : w1.cell? ⟨w.heap.size, 2, none⟩ = some (.slice (some ⟨g, 0, none⟩) ts.length ts.length) := (hc _ _ (by omega)).trans (by go_simp)
  have y0 : w1.cell? ⟨w.heap.size + 1, 0, none⟩ = some (.string u) := (hc _ _ (by omega)).trans (by go_simp)
  have y1 : w1.cell? ⟨w.heap.size + 1 + 1, 0, none⟩ = some (.func (.func k) #[] #[]) := (hc _ _ (by omega)).trans (by go_simp)
  have hz := hB.size
  simp only [World.size_alloc] at hz
  have hW : Below w.heap.size w w1 := ((below4 w _ _ _ _).trans (hb1.mono (by simp; omega)))
  have HT1 := Lib.hid (HT.out.below hW hb)
  have HCh := Lib.hid (change_c k HK.out f u HF.out (w.heap.size + 1 + 1) (w.heap.size + 1) w1 (by omega) (by omega) y1 y0)
  have hq : (decide ((u.size : Int) ≤ V) && wordB L u.data.toList) = true := by
    cases h : (decide ((u.size : Int) ≤ V) && wordB L u.data.toList) with
    | true => rfl
    | false => rw [codeW, h1, h] at hcw; simp at hcw
  have HW := Lib.hid hW
  clear hb1 hB hc hf hcw hW
  go_wp2_with (first | (go_at_call 40; refine (isWord_c L V u hu _).mono ?_; rw [hq]; rintro e w' ⟨rfl, rfl⟩) | fail)
  refine (withWords_c L V g ts 105 _ f HSh.out (enters_of Try.func105 (by decide) rfl) hl (fun t ht => HSm.out t ht) _ (by omega) HT1.out HCh.out).mono ?_
  rintro e w2 ⟨g2, rfl, hb2, hg2, hM2, hT2⟩
  clear y0 y1
  obtain ⟨hc, hf⟩ := bcellB hb2
  have q0 : w2.cell? ⟨w.heap.size + 1 + 1 + 1, 0, none⟩ = some (.int .i64 0) := (hc _ _ (by omega)).trans r0
  have q1 : w2.cell? ⟨w.heap.size + 1 + 1 + 1, 1, none⟩ = some (.int .i64 0) := (hc _ _ (by omega)).trans r1
  have q2 : w2.cell? ⟨w.heap.size + 1 + 1 + 1, 2, none⟩ = some (.slice none 0 0) := (hc _ _ (by omega)).trans r2
  have y0 : w2.frozen? ⟨w.heap.size + 1 + 1 + 1, 0, none⟩ = false := (hf _ _ (by omega)).trans z0
  have y1 : w2.frozen? ⟨w.heap.size + 1 + 1 + 1, 1, none⟩ = false := (hf _ _ (by omega)).trans z1
  have y2 : w2.frozen? ⟨w.heap.size + 1 + 1 + 1, 2, none⟩ = false := (hf _ _ (by omega)).trans z2
  have HW2 := Lib.hid (HW.out.trans (hb2.mono (by omega)))
  have hz2 := hb2.size
  have HN := Lib.hid (NewRow.of_to hg2 hM2 hT2)
  clear r0 r1 r2 z0 z1 z2 hc hf hb2 hM2 hT2 x0 x1 x2
  go_wp2
  have hW := HW2.out
  refine bodyPost_ret (v := .tuple #[.agg #[.int .i64 L, .int .i64 V, .slice (some ⟨g2, 0, none⟩) (pickL f ts).length (pickL f ts).length], .int .i64 0]) (by simp [results, Try.results67, go_sem, q0, q1, q2]) rfl ⟨some ⟨g2, 0, none⟩, _, rfl, by go_grown, ?_⟩
  exact (HN.out.far3 (by omega)).mono (by omega) (Nat.le_refl _)
omit hu hl hs hb ht in
set_option maxRecDepth 100000 in
set_option maxHeartbeats 4000000 in
theorem icutB_c (L' V' c : Int) (rs : List Tm) (hp : ∀ W, Below w.heap.size w W → Calls Try.prog 67 #[.agg #[.int .i64 L, .int .i64 V, .slice (some ⟨g, 0, none⟩) ts.length ts.length], .string u, .func (.func 68) #[] #[]] W (SerPost L' V' rs c W)) :
    Calls Try.prog 31 #[.agg #[.int .i64 L, .int .i64 V, .slice (some ⟨g, 0, none⟩) ts.length ts.length], .string u] w (SerPost L' V' rs c w) := by
  go_enter Try.func31, Try.ntmps31
  have HP := Lib.hid hp
  clear hp
  go_wp2_with fail
  refine (HP.out _ (below2 w _ _)).mono ?_
  rintro e w1 ⟨a1, c1, rfl, hb1, hN1⟩
  have hB := hb1
  simp only [World.size_alloc] at hB
  obtain ⟨hc, hf⟩ := bcellB hB
  have r0 : w1.cell? ⟨w.heap.size + 1, 0, none⟩ = some (.int .i64 0) := (hc _ _ (by omega)).trans (by go_simp)
  have r1 : w1.cell? ⟨w.heap.size + 1, 1, none⟩ = some (.int .i64 0) := (hc _ _ (by omega)).trans (by go_simp)
  have r2 : w1.cell? ⟨w.heap.size + 1, 2, none⟩ = some (.slice none 0 0) := (hc _ _ (by omega)).trans (by go_simp)
  have z0 : w1.frozen? ⟨w.heap.size + 1, 0, none⟩ = false := (hf _ _ (by omega)).trans (by go_simp)
  have z1 : w1.frozen? ⟨w.heap.size + 1, 1, none⟩ = false := (hf _ _ (by omega)).trans (by go_simp)
  have z2 : w1.frozen? ⟨w.heap.size + 1, 2, none⟩ = false := (hf _ _ (by omega)).trans (by go_simp)
  have hz := hB.size
  have HW : Hid (Below w.heap.size w w1) := Lib.hid ((below2 w _ _).trans (hb1.mono (by simp; omega)))
  have HN := Lib.hid hN1
  clear hb1 hB hN1 hc hf
  go_wp2
  have hW := HW.out
  refine bodyPost_ret (v := .tuple #[.agg #[.int .i64 L', .int .i64 V', .slice a1 rs.length c1], .int .i64 c]) (by simp [results, Try.results31, go_sem, r0, r1, r2]) rfl ⟨a1, c1, rfl, by go_grown, ?_⟩
  exact (HN.out.far3 (by simp)).mono (by simp; omega) (Nat.le_refl _)
omit hu hl hs hb ht in
set_option maxRecDepth 100000 in
set_option maxHeartbeats 4000000 in
theorem icutE_c (L' V' c : Int) (rs : List Tm) (hp : ∀ W, Below w.heap.size w W → Calls Try.prog 67 #[.agg #[.int .i64 L, .int .i64 V, .slice (some ⟨g, 0, none⟩) ts.length ts.length], .string u, .func (.func 69) #[] #[]] W (SerPost L' V' rs c W)) :
    Calls Try.prog 33 #[.agg #[.int .i64 L, .int .i64 V, .slice (some ⟨g, 0, none⟩) ts.length ts.length], .string u] w (SerPost L' V' rs c w) := by
  go_enter Try.func33, Try.ntmps33
  have HP := Lib.hid hp
  clear hp
  go_wp2_with fail
  refine (HP.out _ (below2 w _ _)).mono ?_
  rintro e w1 ⟨a1, c1, rfl, hb1, hN1⟩
  have hB := hb1
  simp only [World.size_alloc] at hB
  obtain ⟨hc, hf⟩ := bcellB hB
  have r0 : w1.cell? ⟨w.heap.size + 1, 0, none⟩ = some (.int .i64 0) := (hc _ _ (by omega)).trans (by go_simp)
  have r1 : w1.cell? ⟨w.heap.size + 1, 1, none⟩ = some (.int .i64 0) := (hc _ _ (by omega)).trans (by go_simp)
  have r2 : w1.cell? ⟨w.heap.size + 1, 2, none⟩ = some (.slice none 0 0) := (hc _ _ (by omega)).trans (by go_simp)
  have z0 : w1.frozen? ⟨w.heap.size + 1, 0, none⟩ = false := (hf _ _ (by omega)).trans (by go_simp)
  have z1 : w1.frozen? ⟨w.heap.size + 1, 1, none⟩ = false := (hf _ _ (by omega)).trans (by go_simp)
  have z2 : w1.frozen? ⟨w.heap.size + 1, 2, none⟩ = false := (hf _ _ (by omega)).trans (by go_simp)
  have hz := hB.size
  have HW : Hid (Below w.heap.size w w1) := Lib.hid ((below2 w _ _).trans (hb1.mono (by simp; omega)))
  have HN := Lib.hid hN1
  clear hb1 hB hN1 hc hf
  go_wp2
  have hW := HW.out
  refine bodyPost_ret (v := .tuple #[.agg #[.int .i64 L', .int .i64 V', .slice a1 rs.length c1], .int .i64 c]) (by simp [results, Try.results33, go_sem, r0, r1, r2]) rfl ⟨a1, c1, rfl, by go_grown, ?_⟩
  exact (HN.out.far3 (by simp)).mono (by simp; omega) (Nat.le_refl _)
end
end Go.Proofs.Ytjciadbmpkkgdaa
