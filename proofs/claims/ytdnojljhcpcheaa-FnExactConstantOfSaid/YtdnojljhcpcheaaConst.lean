/-
  Contracts of ConstantOf, of the program and of its model: both return the same three numbers.
-/
import Derived.Test.YtdnojljhcpcheaaCoef
namespace Go.Proofs.Ytdnojljhcpcheaa
open Go.RowKit

theorem const_ok {L V : Int} {ts : List Tm} (h : serB L V ts = true) : wordOk L V { data := #[] } = true := by
  have h2 : shapeB L V = true := by unfold serB at h; rw [Bool.and_eq_true] at h; exact h.1
  have h3 := shape_out h2
  simp only [wordOk, Bool.and_eq_true, decide_eq_true_eq]
  exact ⟨by show (0 : Int) ≤ V; omega, rfl⟩

section
variable (L V : Int) (b off cap : Nat) (ts : List Tm) (w : World)
theorem l02Constant_c (hl : ts.length ≤ 1048576) (hb : b < w.heap.size) (ht : TermsIn w b off ts) :
    Calls Try.prog 55 #[.agg #[.int .i64 L, .int .i64 V, .slice (some ⟨b, off, none⟩) ts.length cap]] w fun e w' => e = .returned (.agg #[.int .i64 (valL [] ts).1, .int .i64 (valL [] ts).2]) ∧ Below w.heap.size w w' := by
  have HT := Lib.hid ht
  clear ht
  go_enter Try.func55, Try.ntmps55
  go_wp2_with fail
  refine (l01Value_c L V b off cap ts hl { data := #[] } _ (by simp; omega) (HT.out.below (below2 w _ _) hb)).mono ?_
  rintro e w1 ⟨rfl, hb1⟩
  have hB := hb1
  simp only [World.size_alloc] at hB
  obtain ⟨hc, hf⟩ := bcellB hB
  have r0 : w1.cell? ⟨w.heap.size + 1, 0, none⟩ = some (.int .i64 0) := (hc _ _ (by omega)).trans (by go_simp)
  have r1 : w1.cell? ⟨w.heap.size + 1, 1, none⟩ = some (.int .i64 0) := (hc _ _ (by omega)).trans (by go_simp)
  have hW : Below w.heap.size w w1 := (below2 w _ _).trans (hb1.mono (by simp; omega))
  clear hb1 hB
  go_wp2
  exact bodyPost_ret (v := .agg #[.int .i64 (valL [] ts).1, .int .i64 (valL [] ts).2]) (by simp [results, Try.results55, go_sem, r0, r1]) rfl ⟨rfl, by go_grown⟩

theorem sConst_1 (h1 : serB L V ts = false) (hl : ts.length ≤ 1048576) (hs : ∀ i (h : i < ts.length), (ts[i]).s.size ≤ maxLen) (hb : b < w.heap.size) (ht : TermsIn w b off ts) :
    Calls Try.prog 25 #[.agg #[.int .i64 L, .int .i64 V, .slice (some ⟨b, off, none⟩) ts.length cap]] w fun e w' => e = .returned (.tuple #[.agg #[.int .i64 0, .int .i64 0], .int .i64 1]) ∧ Below w.heap.size w w' := by
  have HT := Lib.hid ht
  have HS := Lib.hid hs
  clear ht hs
  go_enter Try.func25, Try.ntmps25
  go_wp2_with fail
  refine (l01Is_c L V b off cap ts hl HS.out _ (by simp; omega) (HT.out.below (below2 w _ _) hb)).mono ?_
  rintro e w1 ⟨rfl, hb1⟩
  have hB := hb1
  simp only [World.size_alloc] at hB
  obtain ⟨hc, hf⟩ := bcellB hB
  have r0 : w1.cell? ⟨w.heap.size + 1, 0, none⟩ = some (.int .i64 0) := (hc _ _ (by omega)).trans (by go_simp)
  have r1 : w1.cell? ⟨w.heap.size + 1, 1, none⟩ = some (.int .i64 0) := (hc _ _ (by omega)).trans (by go_simp)
  have hW : Below w.heap.size w w1 := (below2 w _ _).trans (hb1.mono (by simp; omega))
  clear hb1 hB
  rw [h1]
  go_wp2
  exact bodyPost_ret (v := .tuple #[.agg #[.int .i64 0, .int .i64 0], .int .i64 1]) (by simp [results, Try.results25, go_sem, r0, r1]) rfl ⟨rfl, by go_grown⟩

set_option maxHeartbeats 1000000 in
theorem sConst_2 (h1 : serB L V ts = true) (hl : ts.length ≤ 1048576) (hs : ∀ i (h : i < ts.length), (ts[i]).s.size ≤ maxLen) (hb : b < w.heap.size) (ht : TermsIn w b off ts) :
    Calls Try.prog 25 #[.agg #[.int .i64 L, .int .i64 V, .slice (some ⟨b, off, none⟩) ts.length cap]] w fun e w' => e = .returned (.tuple #[.agg #[.int .i64 (valL [] ts).1, .int .i64 (valL [] ts).2], .int .i64 0]) ∧ Below w.heap.size w w' := by
  have HT := Lib.hid ht
  have HS := Lib.hid hs
  clear ht hs
  go_enter Try.func25, Try.ntmps25
  go_wp2_with fail
  refine (l01Is_c L V b off cap ts hl HS.out _ (by simp; omega) (HT.out.below (below2 w _ _) hb)).mono ?_
  rintro e w1 ⟨rfl, hb1⟩
  have hB := hb1
  simp only [World.size_alloc] at hB
  obtain ⟨hc, hf⟩ := bcellB hB
  have x0 : w1.cell? ⟨w.heap.size, 0, none⟩ = some (.int .i64 L) := (hc _ _ (by omega)).trans (by go_simp)
  have x1 : w1.cell? ⟨w.heap.size, 1, none⟩ = some (.int .i64 V) := (hc _ _ (by omega)).trans (by go_simp)
  have x2 : w1.cell? ⟨w.heap.size, 2, none⟩ = some (.slice (some ⟨b, off, none⟩) ts.length cap) := (hc _ _ (by omega)).trans (by go_simp)
  have hW : Below w.heap.size w w1 := (below2 w _ _).trans (hb1.mono (by simp; omega))
  have HT1 := Lib.hid (HT.out.below hW hb)
  have HB := Lib.hid hB
  have hz := hB.size
  simp only [World.size_alloc] at hz
  clear hb1 hB hc hf
  rw [h1]
  go_wp2_with fail
  refine (l02Constant_c L V b off cap ts w1 hl (by omega) HT1.out).mono ?_
  rintro e w2 ⟨rfl, hb2⟩
  obtain ⟨hc, hf⟩ := bcellB (below_step HB.out hb2 (by simp))
  have r0 : w2.cell? ⟨w.heap.size + 1, 0, none⟩ = some (.int .i64 0) := (hc _ _ (by omega)).trans (by go_simp)
  have r1 : w2.cell? ⟨w.heap.size + 1, 1, none⟩ = some (.int .i64 0) := (hc _ _ (by omega)).trans (by go_simp)
  have hW2 := hW.trans (hb2.mono hW.size)
  clear hb2 x0 x1 x2 hW
  go_wp2
  exact bodyPost_ret (v := .tuple #[.agg #[.int .i64 (valL [] ts).1, .int .i64 (valL [] ts).2], .int .i64 0]) (by simp [results, Try.results25, go_sem, r0, r1]) rfl ⟨rfl, by go_grown⟩

theorem iConst_c (hl : ts.length ≤ 1048576) (hs : ∀ i (h : i < ts.length), (ts[i]).s.size ≤ maxLen) (hb : b < w.heap.size) (ht : TermsIn w b off ts) (x y z : Int) (hr : coefR L V ts { data := #[] } = (x, y, z)) :
    Calls Try.prog 26 #[.agg #[.int .i64 L, .int .i64 V, .slice (some ⟨b, off, none⟩) ts.length cap]] w fun e w' => e = .returned (.tuple #[.agg #[.int .i64 x, .int .i64 y], .int .i64 z]) ∧ Below w.heap.size w w' := by
  have HT := Lib.hid ht
  have HS := Lib.hid hs
  have HR := Lib.hid hr
  clear ht hs hr
  go_enter Try.func26, Try.ntmps26
  go_wp2_with fail
  refine (iCoef_c L V b off cap ts { data := #[] } _ hl HS.out (Nat.zero_le _) (by simp; omega) (HT.out.below (below2 w _ _) hb)).mono ?_
  rw [HR.out]
  rintro e w1 ⟨rfl, hb1⟩
  have hB := hb1
  simp only [World.size_alloc] at hB
  obtain ⟨hc, hf⟩ := bcellB hB
  have r0 : w1.cell? ⟨w.heap.size + 1, 0, none⟩ = some (.int .i64 0) := (hc _ _ (by omega)).trans (by go_simp)
  have r1 : w1.cell? ⟨w.heap.size + 1, 1, none⟩ = some (.int .i64 0) := (hc _ _ (by omega)).trans (by go_simp)
  have hW : Below w.heap.size w w1 := (below2 w _ _).trans (hb1.mono (by simp; omega))
  clear hb1 hB
  go_wp2
  exact bodyPost_ret (v := .tuple #[.agg #[.int .i64 x, .int .i64 y], .int .i64 z]) (by simp [results, Try.results26, go_sem, r0, r1]) rfl ⟨rfl, by go_grown⟩
end
end Go.Proofs.Ytdnojljhcpcheaa
