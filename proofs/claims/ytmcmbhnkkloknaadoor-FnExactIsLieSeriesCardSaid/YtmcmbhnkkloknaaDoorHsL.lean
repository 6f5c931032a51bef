/-
  Contracts of IsLieSeries, of both sides.
-/
import Derived.Test.YtmcmbhnkkloknaaDoorHsI
import Derived.Test.YtmcmbhnkkloknaaDoorConst
namespace Go.Proofs.YtmcmbhnkkloknaaDoor
open Go.RowKit
set_option linter.unusedVariables false

theorem isF_null {d : Int} (h : isF 0 d = true) : d = 1 := by
  have h1 := isF_out h
  have h2 := h1.2.2.2.2
  unfold gi at h2
  rw [Int.gcd_zero_left] at h2
  omega
theorem val0_one {L V : Int} {ys : List Tm} (h : serB L V ys = true) (s : ByteArray) (h0 : (valL s.data.toList ys).1 = 0) : (valL s.data.toList ys).2 = 1 := by
  have h1 := valL_isF h s
  rw [h0] at h1
  exact isF_null h1
set_option maxRecDepth 100000 in
theorem wantNull_c (v u : ByteArray) (W : World) : Calls Tryd.prog 27 #[.string v, .string u] W (FracPost (0, 1, 0) W) := by
  go_enter Tryd.func27, Tryd.ntmps27
  go_wp2_with fail
  refine (iWhole_c 0 _).mono ?_
  rintro e w1 ⟨rfl, hb⟩
  have hB := hb
  simp only [World.size_alloc] at hB
  obtain ⟨hc, hf⟩ := bcellB hB
  have r0 : w1.cell? ⟨W.heap.size, 0, none⟩ = some (.int .i64 0) := (hc _ _ (by omega)).trans (by go_simp)
  have r1 : w1.cell? ⟨W.heap.size, 1, none⟩ = some (.int .i64 0) := (hc _ _ (by omega)).trans (by go_simp)
  have z0 : w1.frozen? ⟨W.heap.size, 0, none⟩ = false := (hf _ _ (by omega)).trans (by go_simp)
  have z1 : w1.frozen? ⟨W.heap.size, 1, none⟩ = false := (hf _ _ (by omega)).trans (by go_simp)
  have hW : Below W.heap.size W w1 := (below1 W _).trans (hb.mono (by simp))
  clear hb hB hc hf
  go_wp2
  exact bodyPost_ret (v := .tuple #[.agg #[.int .i64 0, .int .i64 1], .int .i64 0]) (by simp [results, Tryd.results27, go_sem, r0, r1]) rfl ⟨rfl, by go_grown⟩
section
variable (L V : Int) (g : Nat) (ys : List Tm) (hl : ys.length ≤ 1048576) (hs : ∀ i (h : i < ys.length), (ys[i]).s.size ≤ maxLen) (w : World) (hb : g < w.heap.size) (ht : TermsIn w g 0 ys)
include hl hs hb ht
set_option maxRecDepth 100000 in
theorem sLsr_1 (h1 : serB L V ys = false) : Calls Tryd.prog 10 #[.agg #[.int .i64 L, .int .i64 V, .slice (some ⟨g, 0, none⟩) ys.length ys.length]] w (HsPost (false, 1) w) := by
  have HT := Lib.hid ht
  have HS := Lib.hid hs
  have H1 := Lib.hid h1
  clear ht hs h1
  go_enter Tryd.func10, Tryd.ntmps10
  go_wp2_with fail
  refine (l01Is_c L V g 0 _ ys hl HS.out _ (by simp; omega) (HT.out.below (below1 w _) hb)).mono ?_
  rw [H1.out]
  rintro e w1 ⟨rfl, hb1⟩
  have hW : Below w.heap.size w w1 := (below1 w _).trans (hb1.mono (by simp))
  clear hb1
  go_wp2
  go_ret2
  exact ⟨rfl, hW⟩
set_option maxRecDepth 100000 in
theorem iLsr_1 (h1 : serB L V ys = false) : Calls Tryd.prog 11 #[.agg #[.int .i64 L, .int .i64 V, .slice (some ⟨g, 0, none⟩) ys.length ys.length]] w (HsPost (false, 1) w) := by
  have HT := Lib.hid ht
  have HS := Lib.hid hs
  have HC := Lib.hid (coef_1 (s := { data := #[] }) h1)
  clear ht hs h1
  go_enter Tryd.func11, Tryd.ntmps11
  go_wp2_with fail
  refine (iConst_c L V g 0 _ ys _ hl HS.out (by simp; omega) (HT.out.below (below1 w _) hb) 0 0 1 HC.out).mono ?_
  rintro e w1 ⟨rfl, hb1⟩
  have hW : Below w.heap.size w w1 := (below1 w _).trans (hb1.mono (by simp))
  clear hb1
  go_wp2
  go_ret2
  exact ⟨rfl, hW.trans ((below1 w1 _).mono hW.size)⟩
set_option maxRecDepth 100000 in
theorem sLsr_2 (h1 : serB L V ys = true) (h2 : (valL [] ys).1 ≠ 0) : Calls Tryd.prog 10 #[.agg #[.int .i64 L, .int .i64 V, .slice (some ⟨g, 0, none⟩) ys.length ys.length]] w (HsPost (false, 0) w) := by
  have HT := Lib.hid ht
  have HS := Lib.hid hs
  have H1 := Lib.hid h1
  have H2 := Lib.hid (show ((valL [] ys).1 == 0) = false by simpa using h2)
  clear ht hs h1 h2
  go_enter Tryd.func10, Tryd.ntmps10
  go_wp2_with fail
  refine (l01Is_c L V g 0 _ ys hl HS.out _ (by simp; omega) (HT.out.below (below1 w _) hb)).mono ?_
  rw [H1.out]
  rintro e w1 ⟨rfl, hb1⟩
  have hB := hb1
  simp only [World.size_alloc] at hB
  have bc := bcellB hB
  have x0 : w1.cell? ⟨w.heap.size, 0, none⟩ = some (.int .i64 L) := (bc.1 _ _ (by omega)).trans (by go_simp)
  have x1 : w1.cell? ⟨w.heap.size, 1, none⟩ = some (.int .i64 V) := (bc.1 _ _ (by omega)).trans (by go_simp)
  have x2 : w1.cell? ⟨w.heap.size, 2, none⟩ = some (.slice (some ⟨g, 0, none⟩) ys.length ys.length) := (bc.1 _ _ (by omega)).trans (by go_simp)
  have HW1 := Lib.hid ((below1 w (.cells #[.int .i64 L, .int .i64 V, .slice (some ⟨g, 0, none⟩) ys.length ys.length] 30)).trans (hb1.mono (by simp)))
  have hz1 := HW1.out.size
  clear hb1 hB bc
  go_wp2_with fail
  refine (l01Value_c L V g 0 _ ys hl ⟨#[]⟩ _ (by omega) (HT.out.below HW1.out hb)).mono ?_
  rintro e w2 ⟨rfl, hb2⟩
  have HW2 := Lib.hid (HW1.out.trans (hb2.mono hz1))
  clear hb2 x0 x1 x2
  go_wp2_with fail
  refine (l01Zero_c _ _ _).mono ?_
  rw [H2.out]
  rintro e w3 ⟨rfl, hb3⟩
  have hW3 := HW2.out.trans (hb3.mono HW2.out.size)
  clear hb3
  go_wp2
  go_ret2
  exact ⟨rfl, hW3⟩
set_option maxRecDepth 100000 in
theorem iLsr_2 (h1 : serB L V ys = true) (h2 : (valL [] ys).1 ≠ 0) : Calls Tryd.prog 11 #[.agg #[.int .i64 L, .int .i64 V, .slice (some ⟨g, 0, none⟩) ys.length ys.length]] w (HsPost (false, 0) w) := by
  have HT := Lib.hid ht
  have HS := Lib.hid hs
  have HC := Lib.hid (coef_3 h1 (const_ok h1))
  have H2 := Lib.hid (show ((valL [] ys).1 == 0 && (valL [] ys).2 == 1) = false by simp [h2])
  clear ht hs h1 h2
  go_enter Tryd.func11, Tryd.ntmps11
  go_wp2_with fail
  refine (iConst_c L V g 0 _ ys _ hl HS.out (by simp; omega) (HT.out.below (below1 w _) hb) (valL [] ys).1 (valL [] ys).2 0 HC.out).mono ?_
  rintro e w1 ⟨rfl, hb1⟩
  have HW1 := Lib.hid ((below1 w (.cells #[.int .i64 L, .int .i64 V, .slice (some ⟨g, 0, none⟩) ys.length ys.length] 30)).trans (hb1.mono (by simp)))
  clear hb1
  go_wp2_with fail
  refine (isZero_c _ _ _).mono ?_
  rw [H2.out]
  rintro e w2 ⟨rfl, hb2⟩
  have hW2 := HW1.out.trans (((below1 w1 (.cells #[.int .i64 (valL [] ys).1, .int .i64 (valL [] ys).2] 37)).trans (hb2.mono (by simp))).mono HW1.out.size)
  clear hb2
  go_wp2
  go_ret2
  exact ⟨rfl, hW2⟩
end
section
variable (D N m : Nat) (hNm : m + 1 = N) (g : Nat) (ys : List Tm) (hl : ys.length ≤ 1048576) (hs : ∀ i (h : i < ys.length), (ys[i]).s.size ≤ maxLen) (w : World) (hb : g < w.heap.size) (ht : TermsIn w g 0 ys)
include hNm hl hs hb ht
set_option maxRecDepth 100000 in
theorem sLsr_3 (h1 : serB (D : Int) (N : Int) ys = true) (h2 : (valL [] ys).1 = 0) : Calls Tryd.prog 10 #[.agg #[.int .i64 D, .int .i64 N, .slice (some ⟨g, 0, none⟩) ys.length ys.length]] w (HsPost (hsR ys D N m false) w) := by
  have HT := Lib.hid ht
  have HS := Lib.hid hs
  have H1 := Lib.hid h1
  have H2 := Lib.hid (show ((valL [] ys).1 == 0) = true by simpa using h2)
  clear ht hs h1 h2
  go_enter Tryd.func10, Tryd.ntmps10
  go_wp2_with fail
  refine (l01Is_c D N g 0 _ ys hl HS.out _ (by simp; omega) (HT.out.below (below1 w _) hb)).mono ?_
  rw [H1.out]
  rintro e w1 ⟨rfl, hb1⟩
  have hB := hb1
  simp only [World.size_alloc] at hB
  have bc := bcellB hB
  have x0 : w1.cell? ⟨w.heap.size, 0, none⟩ = some (.int .i64 D) := (bc.1 _ _ (by omega)).trans (by go_simp)
  have x1 : w1.cell? ⟨w.heap.size, 1, none⟩ = some (.int .i64 N) := (bc.1 _ _ (by omega)).trans (by go_simp)
  have x2 : w1.cell? ⟨w.heap.size, 2, none⟩ = some (.slice (some ⟨g, 0, none⟩) ys.length ys.length) := (bc.1 _ _ (by omega)).trans (by go_simp)
  have HW1 := Lib.hid ((below1 w (.cells #[.int .i64 D, .int .i64 N, .slice (some ⟨g, 0, none⟩) ys.length ys.length] 30)).trans (hb1.mono (by simp)))
  have hz1 := HW1.out.size
  have hzw : w.heap.size < w1.heap.size := by have := hB.size; simp only [World.size_alloc] at this; omega
  clear hb1 hB bc
  go_wp2_with fail
  refine (l01Value_c D N g 0 _ ys hl ⟨#[]⟩ _ (by omega) (HT.out.below HW1.out hb)).mono ?_
  rintro e w2 ⟨rfl, hb2⟩
  have HW2 := Lib.hid (HW1.out.trans (hb2.mono hz1))
  have x0 := (hb2.cell (p := ⟨w.heap.size, 0, none⟩) hzw).trans x0
  have x1 := (hb2.cell (p := ⟨w.heap.size, 1, none⟩) hzw).trans x1
  have x2 := (hb2.cell (p := ⟨w.heap.size, 2, none⟩) hzw).trans x2
  have hzw2 : w.heap.size < w2.heap.size := by have := hb2.size; omega
  clear hb2
  go_wp2_with fail
  refine (l01Zero_c _ _ _).mono ?_
  rw [H2.out]
  rintro e w3 ⟨rfl, hb3⟩
  have HW3 := Lib.hid (HW2.out.trans (hb3.mono HW2.out.size))
  have x0 := (hb3.cell (p := ⟨w.heap.size, 0, none⟩) hzw2).trans x0
  have x1 := (hb3.cell (p := ⟨w.heap.size, 1, none⟩) hzw2).trans x1
  have x2 := (hb3.cell (p := ⟨w.heap.size, 2, none⟩) hzw2).trans x2
  have hz3 := HW3.out.size
  clear hb3
  go_wp2_with fail
  refine (l03Holds_no D N m hNm g _ ys hl H1.out _ (by omega) (HT.out.below HW3.out hb)).mono ?_
  obtain ⟨⟨b, c⟩, hr⟩ : ∃ r, hsR ys D N m false = r := ⟨_, rfl⟩
  rw [hr]
  rintro e w4 ⟨rfl, hb4⟩
  have hW4 := HW3.out.trans (hb4.mono hz3)
  clear hb4 x0 x1 x2
  have hr := Lib.hid hr
  go_wp2
  go_ret2
  rw [hr.out]
  exact ⟨rfl, hW4⟩
set_option maxRecDepth 100000 in
theorem iLsr_3 (h1 : serB (D : Int) (N : Int) ys = true) (h2 : (valL [] ys).1 = 0) : Calls Tryd.prog 11 #[.agg #[.int .i64 D, .int .i64 N, .slice (some ⟨g, 0, none⟩) ys.length ys.length]] w (HsPost (hsR ys D N m false) w) := by
  have HT := Lib.hid ht
  have HS := Lib.hid hs
  have H1 := Lib.hid h1
  have HC := Lib.hid (coef_3 h1 (const_ok h1))
  have H2 := Lib.hid (show ((valL [] ys).1 == 0 && (valL [] ys).2 == 1) = true by
    have h := val0_one h1 ⟨#[]⟩ h2
    have h3 : (valL [] ys).2 = 1 := h
    rw [h2, h3]; rfl)
  have HR := Lib.hid (show hsL (hsAt ys D fun _ => some (0, 1)) (pqL N (upW D N) (upW D N)) = hsR ys D N m false by
    subst hNm
    rw [pqL_same]
    rfl)
  clear ht hs h1 h2
  go_enter Tryd.func11, Tryd.ntmps11
  go_wp2_with fail
  refine (iConst_c D N g 0 _ ys _ hl HS.out (by simp; omega) (HT.out.below (below1 w _) hb) (valL [] ys).1 (valL [] ys).2 0 HC.out).mono ?_
  rintro e w1 ⟨rfl, hb1⟩
  have hB := hb1
  simp only [World.size_alloc] at hB
  have bc := bcellB hB
  have x0 : w1.cell? ⟨w.heap.size, 0, none⟩ = some (.int .i64 D) := (bc.1 _ _ (by omega)).trans (by go_simp)
  have x1 : w1.cell? ⟨w.heap.size, 1, none⟩ = some (.int .i64 N) := (bc.1 _ _ (by omega)).trans (by go_simp)
  have x2 : w1.cell? ⟨w.heap.size, 2, none⟩ = some (.slice (some ⟨g, 0, none⟩) ys.length ys.length) := (bc.1 _ _ (by omega)).trans (by go_simp)
  have HW1 := Lib.hid ((below1 w (.cells #[.int .i64 D, .int .i64 N, .slice (some ⟨g, 0, none⟩) ys.length ys.length] 30)).trans (hb1.mono (by simp)))
  have hzw : w.heap.size < w1.heap.size := by have := hB.size; simp only [World.size_alloc] at this; omega
  clear hb1 hB bc
  go_wp2_with fail
  refine (isZero_c _ _ _).mono ?_
  rw [H2.out]
  rintro e w2 ⟨rfl, hb2⟩
  have hb12 := (below1 w1 (.cells #[.int .i64 (valL [] ys).1, .int .i64 (valL [] ys).2] 37)).trans (hb2.mono (by simp))
  have HW2 := Lib.hid (HW1.out.trans (hb12.mono HW1.out.size))
  have x0 := (hb12.cell (p := ⟨w.heap.size, 0, none⟩) hzw).trans x0
  have x1 := (hb12.cell (p := ⟨w.heap.size, 1, none⟩) hzw).trans x1
  have x2 := (hb12.cell (p := ⟨w.heap.size, 2, none⟩) hzw).trans x2
  have hz2 := hb12.size
  clear hb2 hb12
  go_wp2_with fail
  refine (hasAt_c D N g _ ys hl HS.out H1.out 27 #[] (fun _ _ => by kernel_rfl) (fun _ => some (0, 1)) _ (by omega) (HT.out.below HW2.out hb) (fun W hW v u _ _ => by simpa [pairC] using wantNull_c v u W)).mono ?_
  rw [HR.out]
  obtain ⟨⟨b, c⟩, hr⟩ : ∃ r, hsR ys D N m false = r := ⟨_, rfl⟩
  rw [hr]
  rintro e w4 ⟨rfl, hb4⟩
  have hW4 := HW2.out.trans (hb4.mono HW2.out.size)
  clear hb4 x0 x1 x2
  have hr := Lib.hid hr
  go_wp2
  go_ret2
  rw [hr.out]
  exact ⟨rfl, hW4⟩
end
end Go.Proofs.YtmcmbhnkkloknaaDoor
