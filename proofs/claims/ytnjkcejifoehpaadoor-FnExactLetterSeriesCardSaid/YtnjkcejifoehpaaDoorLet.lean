/-
  Contracts of LetterSeries, of the program and of its model: both return the same series and code.
-/
import Derived.Test.YtnjkcejifoehpaaDoorNew
import Derived.Test.YtnjkcejifoehpaaDoorWoN
import Derived.Test.YtnjkcejifoehpaaDoorRes
namespace Go.Proofs.YtnjkcejifoehpaaDoor
open Go.RowKit

theorem SerPost.err (k : Int) {W w' : World} {e : Ending} (he : e = .returned (.tuple #[.agg #[.int .i64 0, .int .i64 0, .slice none 0 0], .int .i64 k])) (hb : Below W.heap.size W w') : SerPost 0 0 [] k W e w' :=
  ⟨none, 0, he, hb, .inl rfl⟩
theorem NewRow.far3 {lo hi n : Nat} {w : World} {a : Option Addr} {ts : List Tm} {x y z : Value} (h : NewRow lo hi w a ts) (hn : n < lo) :
    NewRow lo (((w.setCell ⟨n, 0, none⟩ x).setCell ⟨n, 1, none⟩ y).setCell ⟨n, 2, none⟩ z).heap.size (((w.setCell ⟨n, 0, none⟩ x).setCell ⟨n, 1, none⟩ y).setCell ⟨n, 2, none⟩ z) a ts := by
  rcases h with h | ⟨g, e, h1, h2, h3, h4⟩
  · exact .inl h
  · refine .inr ⟨g, e, h1, ?_, ((h3.set _ _).set _ _).set _ _, ((h4.setCell (by show n ≠ g; omega) _).setCell (by show n ≠ g; omega) _).setCell (by show n ≠ g; omega) _⟩
    simp only [World.size_setCell]; exact h3.1
theorem terms_one (w : World) (t : Tm) : TermsIn (w.alloc (.cells #[.string t.s, .int .i64 t.n, .int .i64 t.d] 37)) w.heap.size 0 [t] := fun i hi => by
  have h0 : i = 0 := by simpa using hi
  subst h0
  simp [go_sem]
theorem made_one (w : World) (t : Tm) : Made (w.alloc (.cells #[.string t.s, .int .i64 t.n, .int .i64 t.d] 37)) w.heap.size 3 :=
  ⟨by simp, fun j hj => by
    have h : j = 0 ∨ j = 1 ∨ j = 2 := by omega
    rcases h with rfl | rfl | rfl <;> exact ⟨⟨_, by simp [go_sem]; rfl⟩, by simp⟩⟩

def letC (d n i : Int) : Bool := shapeB d n && inB i 0 (d - 1)
section
variable (d n i : Int) (w : World)
set_option maxHeartbeats 1000000 in
theorem iLet_1 (h : shapeB d n = false) : Calls Tryd.prog 5 #[.int .i64 d, .int .i64 n, .int .i64 i] w (SerPost 0 0 [] 2 w) := by
  have H := Lib.hid h
  clear h
  go_enter Tryd.func5, Tryd.ntmps5
  go_wp2_with (go_at_call 12; refine (isShape_c _ _ _).mono ?_; rw [H.out]; rintro e w' ⟨rfl, rfl⟩)
  exact bodyPost_ret (v := .tuple #[.agg #[.int .i64 0, .int .i64 0, .slice none 0 0], .int .i64 2]) (by simp [results, Tryd.results5, go_sem]) rfl (SerPost.err 2 rfl (by go_grown))
set_option maxHeartbeats 1000000 in
theorem iLet_2 (h : shapeB d n = true) (h2 : inB i 0 (d - 1) = false) : Calls Tryd.prog 5 #[.int .i64 d, .int .i64 n, .int .i64 i] w (SerPost 0 0 [] 2 w) := by
  have hd := shape_out h
  have H := Lib.hid h
  have H2 := Lib.hid h2
  clear h h2
  go_enter Tryd.func5, Tryd.ntmps5
  go_wp2_with (first | (go_at_call 12; refine (isShape_c _ _ _).mono ?_; rw [H.out]; rintro e w' ⟨rfl, rfl⟩) | (go_at_call 13; refine (isBetween_c _ _ _ _).mono ?_; rw [H2.out]; rintro e w' ⟨rfl, rfl⟩))
  exact bodyPost_ret (v := .tuple #[.agg #[.int .i64 0, .int .i64 0, .slice none 0 0], .int .i64 2]) (by simp [results, Tryd.results5, go_sem]) rfl (SerPost.err 2 rfl (by go_grown))
set_option maxRecDepth 100000 in
set_option maxHeartbeats 2000000 in
theorem iLet_3 (h : shapeB d n = true) (h2 : inB i 0 (d - 1) = true) : Calls Tryd.prog 5 #[.int .i64 d, .int .i64 n, .int .i64 i] w (SerPost d n [⟨letW i, 1, 1⟩] 0 w) := by
  have hd := shape_out h
  have hi := inB_true h2
  have H := Lib.hid h
  have H2 := Lib.hid h2
  clear h h2
  go_enter Tryd.func5, Tryd.ntmps5
  go_wp2_with (first | (go_at_call 12; refine (isShape_c _ _ _).mono ?_; rw [H.out]; rintro e w' ⟨rfl, rfl⟩) | (go_at_call 13; refine (isBetween_c _ _ _ _).mono ?_; rw [H2.out]; rintro e w' ⟨rfl, rfl⟩) | (go_at_call 14; refine (letterWord_c _ (by omega) (by omega) _).mono ?_; rintro e w' ⟨rfl, rfl⟩) | fail)
  refine (newSeries_c d n (some ⟨w.heap.size + 1 + 1, 0, none⟩) 1 [⟨letW i, 1, 1⟩] (by simp) (fun j hj => by simp at hj; subst hj; simp [letW_size]) _ (.inr ⟨_, 0, rfl, by simp, ?_⟩)).mono ?_
  · have ht := terms_one ((w.alloc (.cells #[.int .i64 0, .int .i64 0, .slice none 0 0] 24)).alloc (.cells #[.string (letW i), .int .i64 1, .int .i64 1] 37)) ⟨letW i, 1, 1⟩
    simpa using ht
  rintro e w1 ⟨g, rfl, hb, hg, hM, hT⟩
  have hB := hb
  simp only [World.size_alloc] at hB
  obtain ⟨hc, hf⟩ := bcellB hB
  have r0 : w1.cell? ⟨w.heap.size, 0, none⟩ = some (.int .i64 0) := (hc _ _ (by omega)).trans (by go_simp)
  have r1 : w1.cell? ⟨w.heap.size, 1, none⟩ = some (.int .i64 0) := (hc _ _ (by omega)).trans (by go_simp)
  have r2 : w1.cell? ⟨w.heap.size, 2, none⟩ = some (.slice none 0 0) := (hc _ _ (by omega)).trans (by go_simp)
  have z0 : w1.frozen? ⟨w.heap.size, 0, none⟩ = false := (hf _ _ (by omega)).trans (by go_simp)
  have z1 : w1.frozen? ⟨w.heap.size, 1, none⟩ = false := (hf _ _ (by omega)).trans (by go_simp)
  have z2 : w1.frozen? ⟨w.heap.size, 2, none⟩ = false := (hf _ _ (by omega)).trans (by go_simp)
  have hg2 : w.heap.size + 1 ≤ g := by simp at hg; omega
  have hW := Lib.hid ((below3 w _ _ _).trans (hb.mono (by simp; omega)))
  have HN := Lib.hid (NewRow.of_to (lo := w.heap.size + 1) hg2 hM hT)
  clear hb hB hc hf hM hT hg
  go_wp2
  have hW3 := hW.out
  refine bodyPost_ret (v := .tuple #[.agg #[.int .i64 d, .int .i64 n, .slice (some ⟨g, 0, none⟩) 1 1], .int .i64 0]) (by simp [results, Tryd.results5, go_sem, r0, r1, r2]) rfl ⟨_, _, rfl, by go_grown, ?_⟩
  exact (HN.out.far3 (by omega)).mono (by omega) (Nat.le_refl _)

set_option maxHeartbeats 1000000 in
theorem l01One_c (s : ByteArray) : Calls Tryd.prog 11 #[.int .i64 d, .int .i64 n, .string s] w fun e w' => e = .returned (.agg #[.int .i64 d, .int .i64 n, .slice (some ⟨w.heap.size + 1, 0, none⟩) 1 1]) ∧ Below w.heap.size w w' ∧ NewRow (w.heap.size + 1) w'.heap.size w' (some ⟨w.heap.size + 1, 0, none⟩) [⟨s, 1, 1⟩] := by
  go_enter Tryd.func11, Tryd.ntmps11
  go_wp2
  have ht := terms_one (w.alloc (.cells #[.int .i64 d, .int .i64 n, .slice (some ⟨w.heap.size + 1, 0, none⟩) 1 1] 24)) ⟨s, 1, 1⟩
  have hm := made_one (w.alloc (.cells #[.int .i64 d, .int .i64 n, .slice (some ⟨w.heap.size + 1, 0, none⟩) 1 1] 24)) ⟨s, 1, 1⟩
  simp only [World.size_alloc] at ht hm
  refine bodyPost_ret (v := .agg #[.int .i64 d, .int .i64 n, .slice (some ⟨w.heap.size + 1, 0, none⟩) 1 1]) (by simp [results, Tryd.results11, go_sem]) rfl ⟨rfl, by go_grown, ?_⟩
  exact .of_to (Nat.le_refl _) hm ht

set_option maxHeartbeats 1000000 in
theorem sLet_1 (h : shapeB d n = false) : Calls Tryd.prog 4 #[.int .i64 d, .int .i64 n, .int .i64 i] w (SerPost 0 0 [] 2 w) := by
  have H := Lib.hid h
  clear h
  go_enter Tryd.func4, Tryd.ntmps4
  go_wp2_with (go_at_call 9; refine (l01Sizes_c _ _ _).mono ?_; rw [H.out]; rintro e w' ⟨rfl, rfl⟩)
  exact bodyPost_ret (v := .tuple #[.agg #[.int .i64 0, .int .i64 0, .slice none 0 0], .int .i64 2]) (by simp [results, Tryd.results4, go_sem]) rfl (SerPost.err 2 rfl (by go_grown))
set_option maxHeartbeats 1000000 in
theorem sLet_2 (h : shapeB d n = true) (h2 : inB i 0 (d - 1) = false) : Calls Tryd.prog 4 #[.int .i64 d, .int .i64 n, .int .i64 i] w (SerPost 0 0 [] 2 w) := by
  have hd := shape_out h
  have H := Lib.hid h
  have H2 := Lib.hid h2
  clear h h2
  go_enter Tryd.func4, Tryd.ntmps4
  go_wp2_with (first | (go_at_call 9; refine (l01Sizes_c _ _ _).mono ?_; rw [H.out]; rintro e w' ⟨rfl, rfl⟩) | (go_at_call 10; refine (l01In_c _ _ _ _).mono ?_; rw [H2.out]; rintro e w' ⟨rfl, rfl⟩))
  exact bodyPost_ret (v := .tuple #[.agg #[.int .i64 0, .int .i64 0, .slice none 0 0], .int .i64 2]) (by simp [results, Tryd.results4, go_sem]) rfl (SerPost.err 2 rfl (by go_grown))
set_option maxRecDepth 100000 in
set_option maxHeartbeats 2000000 in
theorem sLet_3 (h : shapeB d n = true) (h2 : inB i 0 (d - 1) = true) : Calls Tryd.prog 4 #[.int .i64 d, .int .i64 n, .int .i64 i] w (SerPost d n [⟨letW i, 1, 1⟩] 0 w) := by
  have hd := shape_out h
  have hi := inB_true h2
  have H := Lib.hid h
  have H2 := Lib.hid h2
  have hcv := conv_byte (48 + i) (by omega) (by omega) (w.alloc (.cells #[.int .i64 0, .int .i64 0, .slice none 0 0] 24))
  simp only [World.size_alloc] at hcv
  clear h h2
  go_enter Tryd.func4, Tryd.ntmps4
  go_wp2_with (first | (go_at_call 9; refine (l01Sizes_c _ _ _).mono ?_; rw [H.out]; rintro e w' ⟨rfl, rfl⟩) | (go_at_call 10; refine (l01In_c _ _ _ _).mono ?_; rw [H2.out]; rintro e w' ⟨rfl, rfl⟩) | fail)
  refine (l01One_c d n _ _).mono ?_
  rintro e w1 ⟨rfl, hb, hN⟩
  have hB := hb
  simp only [World.size_alloc] at hB
  obtain ⟨hc, hf⟩ := bcellB hB
  have r0 : w1.cell? ⟨w.heap.size, 0, none⟩ = some (.int .i64 0) := (hc _ _ (by omega)).trans (by go_simp)
  have r1 : w1.cell? ⟨w.heap.size, 1, none⟩ = some (.int .i64 0) := (hc _ _ (by omega)).trans (by go_simp)
  have r2 : w1.cell? ⟨w.heap.size, 2, none⟩ = some (.slice none 0 0) := (hc _ _ (by omega)).trans (by go_simp)
  have z0 : w1.frozen? ⟨w.heap.size, 0, none⟩ = false := (hf _ _ (by omega)).trans (by go_simp)
  have z1 : w1.frozen? ⟨w.heap.size, 1, none⟩ = false := (hf _ _ (by omega)).trans (by go_simp)
  have z2 : w1.frozen? ⟨w.heap.size, 2, none⟩ = false := (hf _ _ (by omega)).trans (by go_simp)
  have hW := Lib.hid ((below2 w _ _).trans (hb.mono (by simp; omega)))
  have HN := Lib.hid (hN.mono (lo' := w.heap.size + 1) (hi' := w1.heap.size) (by first | (simp; done) | (simp; omega)) (Nat.le_refl _))
  clear hb hB hc hf hN
  go_wp2
  have hW3 := hW.out
  refine bodyPost_ret (v := .tuple #[.agg #[.int .i64 d, .int .i64 n, .slice (some ⟨w.heap.size + 1 + 1 + 1, 0, none⟩) 1 1], .int .i64 0]) (by simp [results, Tryd.results4, go_sem, r0, r1, r2]) rfl ⟨some ⟨w.heap.size + 1 + 1 + 1, 0, none⟩, 1, rfl, by go_grown, ?_⟩
  have hn2 := HN.out.far3 (x := .int .i64 d) (y := .int .i64 n) (z := .slice (some ⟨w.heap.size + 1 + 1 + 1, 0, none⟩) 1 1) (n := w.heap.size) (by omega)
  have hn3 := hn2.mono (lo' := w.heap.size) (by omega) (Nat.le_refl _)
  simp only [World.size_alloc] at hn3
  exact hn3
end
end Go.Proofs.YtnjkcejifoehpaaDoor
