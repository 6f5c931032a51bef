/-
  Contracts of ReadByTables, of the program and of its model.
-/
import Derived.Test.YtknigggjnjkhbaaFmS
import Derived.Test.YtknigggjnjkhbaaTabS
import Derived.Test.YtknigggjnjkhbaaTabW
namespace Go.Proofs.Ytknigggjnjkhbaa
open Go.RowKit
set_option linter.unusedVariables false
set_option linter.unusedSimpArgs false

set_option maxRecDepth 100000 in
set_option maxHeartbeats 8000000 in
theorem iRb_1 (L V : Int) (g : Nat) (xs : List Tm) (hl : xs.length ≤ 1048576) (hs : ∀ i (h : i < xs.length), (xs[i]).s.size ≤ maxLen) (s : ByteArray) (hz : s.size ≤ maxLen) (h1 : serB L V xs = false) (w : World) (hb : g < w.heap.size) (ht : TermsIn w g 0 xs) :
    Calls Try.prog 19 #[.agg #[.int .i64 L, .int .i64 V, .slice (some ⟨g, 0, none⟩) xs.length xs.length], .string s] w (fun e w' => e = .returned (.tuple #[.agg #[.int .i64 0, .int .i64 0], .int .i64 1]) ∧ Below w.heap.size w w') := by
  have HT := Lib.hid ht
  have HS := Lib.hid hs
  have H1 := Lib.hid h1
  clear ht hs h1
  go_enter Try.func19, Try.ntmps19
  go_wp2_with fail
  refine (iIsSeries_c L V g 0 _ xs hl HS.out _ (by simp; omega) (HT.out.below (below2 w _ _) hb)).mono ?_
  rw [H1.out]
  rintro e w1 ⟨rfl, hb1⟩
  have hz1 : w.heap.size + 1 < w1.heap.size := by have := hb1.size; simp at this; omega
  have HB1 := Lib.hid (show Below (w.heap.size + 1 + 1) ((w.alloc (.cells #[.int .i64 L, .int .i64 V, .slice (some ⟨g, 0, none⟩) xs.length xs.length] 33)).alloc (.cells #[.int .i64 0, .int .i64 0] 43)) w1 from by simpa using hb1)
  have HW1 := Lib.hid ((below2 w (.cells #[.int .i64 L, .int .i64 V, .slice (some ⟨g, 0, none⟩) xs.length xs.length] 33) (.cells #[.int .i64 0, .int .i64 0] 43)).trans (HB1.out.mono (by omega)))
  have x0 : w1.cell? ⟨w.heap.size, 0, none⟩ = some (.int .i64 L) := (HB1.out.cell (p := ⟨w.heap.size, 0, none⟩) (by show w.heap.size < _; omega)).trans (by go_simp)
  have x1 : w1.cell? ⟨w.heap.size, 1, none⟩ = some (.int .i64 V) := (HB1.out.cell (p := ⟨w.heap.size, 1, none⟩) (by show w.heap.size < _; omega)).trans (by go_simp)
  have x2 : w1.cell? ⟨w.heap.size, 2, none⟩ = some (.slice (some ⟨g, 0, none⟩) xs.length xs.length) := (HB1.out.cell (p := ⟨w.heap.size, 2, none⟩) (by show w.heap.size < _; omega)).trans (by go_simp)
  clear hb1
  have bc := bcellB HB1.out
  have r0 : w1.cell? ⟨w.heap.size + 1, 0, none⟩ = some (.int .i64 0) := (bc.1 _ _ (by omega)).trans (by go_simp)
  have r1 : w1.cell? ⟨w.heap.size + 1, 1, none⟩ = some (.int .i64 0) := (bc.1 _ _ (by omega)).trans (by go_simp)
  have z0 : w1.frozen? ⟨w.heap.size + 1, 0, none⟩ = false := (bc.2 _ _ (by omega)).trans (by go_simp)
  have z1 : w1.frozen? ⟨w.heap.size + 1, 1, none⟩ = false := (bc.2 _ _ (by omega)).trans (by go_simp)
  have hzb : w.heap.size + 1 < w1.heap.size := (by omega)
  clear bc
  have HWz := HW1
  go_wp2
  exact bodyPost_ret (v := .tuple #[.agg #[.int .i64 0, .int .i64 0], .int .i64 1]) (by simp [results, Try.results19, go_sem, r0, r1, hzb]) rfl ⟨rfl, by have hW := HWz.out; go_grown⟩
set_option maxRecDepth 100000 in
set_option maxHeartbeats 8000000 in
theorem iRb_2 (L V : Int) (g : Nat) (xs : List Tm) (hl : xs.length ≤ 1048576) (hs : ∀ i (h : i < xs.length), (xs[i]).s.size ≤ maxLen) (s : ByteArray) (hz : s.size ≤ maxLen) (h1 : serB L V xs = true) (h2 : wordB L s.data.toList = false) (w : World) (hb : g < w.heap.size) (ht : TermsIn w g 0 xs) :
    Calls Try.prog 19 #[.agg #[.int .i64 L, .int .i64 V, .slice (some ⟨g, 0, none⟩) xs.length xs.length], .string s] w (fun e w' => e = .returned (.tuple #[.agg #[.int .i64 0, .int .i64 0], .int .i64 1]) ∧ Below w.heap.size w w') := by
  have H2 := Lib.hid h2
  clear h2
  have HT := Lib.hid ht
  have HS := Lib.hid hs
  have H1 := Lib.hid h1
  clear ht hs h1
  go_enter Try.func19, Try.ntmps19
  go_wp2_with fail
  refine (iIsSeries_c L V g 0 _ xs hl HS.out _ (by simp; omega) (HT.out.below (below2 w _ _) hb)).mono ?_
  rw [H1.out]
  rintro e w1 ⟨rfl, hb1⟩
  have hz1 : w.heap.size + 1 < w1.heap.size := by have := hb1.size; simp at this; omega
  have HB1 := Lib.hid (show Below (w.heap.size + 1 + 1) ((w.alloc (.cells #[.int .i64 L, .int .i64 V, .slice (some ⟨g, 0, none⟩) xs.length xs.length] 33)).alloc (.cells #[.int .i64 0, .int .i64 0] 43)) w1 from by simpa using hb1)
  have HW1 := Lib.hid ((below2 w (.cells #[.int .i64 L, .int .i64 V, .slice (some ⟨g, 0, none⟩) xs.length xs.length] 33) (.cells #[.int .i64 0, .int .i64 0] 43)).trans (HB1.out.mono (by omega)))
  have x0 : w1.cell? ⟨w.heap.size, 0, none⟩ = some (.int .i64 L) := (HB1.out.cell (p := ⟨w.heap.size, 0, none⟩) (by show w.heap.size < _; omega)).trans (by go_simp)
  have x1 : w1.cell? ⟨w.heap.size, 1, none⟩ = some (.int .i64 V) := (HB1.out.cell (p := ⟨w.heap.size, 1, none⟩) (by show w.heap.size < _; omega)).trans (by go_simp)
  have x2 : w1.cell? ⟨w.heap.size, 2, none⟩ = some (.slice (some ⟨g, 0, none⟩) xs.length xs.length) := (HB1.out.cell (p := ⟨w.heap.size, 2, none⟩) (by show w.heap.size < _; omega)).trans (by go_simp)
  clear hb1
  have bc := bcellB HB1.out
  have r0 : w1.cell? ⟨w.heap.size + 1, 0, none⟩ = some (.int .i64 0) := (bc.1 _ _ (by omega)).trans (by go_simp)
  have r1 : w1.cell? ⟨w.heap.size + 1, 1, none⟩ = some (.int .i64 0) := (bc.1 _ _ (by omega)).trans (by go_simp)
  have z0 : w1.frozen? ⟨w.heap.size + 1, 0, none⟩ = false := (bc.2 _ _ (by omega)).trans (by go_simp)
  have z1 : w1.frozen? ⟨w.heap.size + 1, 1, none⟩ = false := (bc.2 _ _ (by omega)).trans (by go_simp)
  have hzb : w.heap.size + 1 < w1.heap.size := (by omega)
  clear bc
  have HWz := HW1
  go_wp2_with fail
  refine (areLetters_c L s hz _).mono ?_
  rw [H2.out]
  rintro e w2 ⟨rfl, rfl⟩
  go_wp2
  exact bodyPost_ret (v := .tuple #[.agg #[.int .i64 0, .int .i64 0], .int .i64 1]) (by simp [results, Try.results19, go_sem, r0, r1, hzb]) rfl ⟨rfl, by have hW := HWz.out; go_grown⟩
set_option maxRecDepth 100000 in
set_option maxHeartbeats 8000000 in
theorem iRb_3 (L V : Int) (g : Nat) (xs : List Tm) (hl : xs.length ≤ 1048576) (hs : ∀ i (h : i < xs.length), (xs[i]).s.size ≤ maxLen) (s : ByteArray) (hz : s.size ≤ maxLen) (h1 : serB L V xs = true) (h2 : wordB L s.data.toList = true) (h3 : V < (s.size : Int)) (w : World) (hb : g < w.heap.size) (ht : TermsIn w g 0 xs) :
    Calls Try.prog 19 #[.agg #[.int .i64 L, .int .i64 V, .slice (some ⟨g, 0, none⟩) xs.length xs.length], .string s] w (fun e w' => e = .returned (.tuple #[.agg #[.int .i64 0, .int .i64 0], .int .i64 2]) ∧ Below w.heap.size w w') := by
  have H2 := Lib.hid h2
  clear h2
  have HT := Lib.hid ht
  have HS := Lib.hid hs
  have H1 := Lib.hid h1
  clear ht hs h1
  go_enter Try.func19, Try.ntmps19
  go_wp2_with fail
  refine (iIsSeries_c L V g 0 _ xs hl HS.out _ (by simp; omega) (HT.out.below (below2 w _ _) hb)).mono ?_
  rw [H1.out]
  rintro e w1 ⟨rfl, hb1⟩
  have hz1 : w.heap.size + 1 < w1.heap.size := by have := hb1.size; simp at this; omega
  have HB1 := Lib.hid (show Below (w.heap.size + 1 + 1) ((w.alloc (.cells #[.int .i64 L, .int .i64 V, .slice (some ⟨g, 0, none⟩) xs.length xs.length] 33)).alloc (.cells #[.int .i64 0, .int .i64 0] 43)) w1 from by simpa using hb1)
  have HW1 := Lib.hid ((below2 w (.cells #[.int .i64 L, .int .i64 V, .slice (some ⟨g, 0, none⟩) xs.length xs.length] 33) (.cells #[.int .i64 0, .int .i64 0] 43)).trans (HB1.out.mono (by omega)))
  have x0 : w1.cell? ⟨w.heap.size, 0, none⟩ = some (.int .i64 L) := (HB1.out.cell (p := ⟨w.heap.size, 0, none⟩) (by show w.heap.size < _; omega)).trans (by go_simp)
  have x1 : w1.cell? ⟨w.heap.size, 1, none⟩ = some (.int .i64 V) := (HB1.out.cell (p := ⟨w.heap.size, 1, none⟩) (by show w.heap.size < _; omega)).trans (by go_simp)
  have x2 : w1.cell? ⟨w.heap.size, 2, none⟩ = some (.slice (some ⟨g, 0, none⟩) xs.length xs.length) := (HB1.out.cell (p := ⟨w.heap.size, 2, none⟩) (by show w.heap.size < _; omega)).trans (by go_simp)
  clear hb1
  have bc := bcellB HB1.out
  have r0 : w1.cell? ⟨w.heap.size + 1, 0, none⟩ = some (.int .i64 0) := (bc.1 _ _ (by omega)).trans (by go_simp)
  have r1 : w1.cell? ⟨w.heap.size + 1, 1, none⟩ = some (.int .i64 0) := (bc.1 _ _ (by omega)).trans (by go_simp)
  have z0 : w1.frozen? ⟨w.heap.size + 1, 0, none⟩ = false := (bc.2 _ _ (by omega)).trans (by go_simp)
  have z1 : w1.frozen? ⟨w.heap.size + 1, 1, none⟩ = false := (bc.2 _ _ (by omega)).trans (by go_simp)
  have hzb : w.heap.size + 1 < w1.heap.size := (by omega)
  clear bc
  have HWz := HW1
  go_wp2_with fail
  refine (areLetters_c L s hz _).mono ?_
  rw [H2.out]
  rintro e w2 ⟨rfl, rfl⟩
  go_wp2
  exact bodyPost_ret (v := .tuple #[.agg #[.int .i64 0, .int .i64 0], .int .i64 2]) (by simp [results, Try.results19, go_sem, r0, r1, hzb]) rfl ⟨rfl, by have hW := HWz.out; go_grown⟩
set_option maxRecDepth 100000 in
set_option maxHeartbeats 8000000 in
theorem sRb_1 (L V : Int) (g : Nat) (xs : List Tm) (hl : xs.length ≤ 1048576) (hs : ∀ i (h : i < xs.length), (xs[i]).s.size ≤ maxLen) (s : ByteArray) (hz : s.size ≤ maxLen) (h1 : serB L V xs = false) (w : World) (hb : g < w.heap.size) (ht : TermsIn w g 0 xs) :
    Calls Try.prog 18 #[.agg #[.int .i64 L, .int .i64 V, .slice (some ⟨g, 0, none⟩) xs.length xs.length], .string s] w (fun e w' => e = .returned (.tuple #[.agg #[.int .i64 0, .int .i64 0], .int .i64 1]) ∧ Below w.heap.size w w') := by
  have HT := Lib.hid ht
  have HS := Lib.hid hs
  have H1 := Lib.hid h1
  clear ht hs h1
  go_enter Try.func18, Try.ntmps18
  go_wp2_with fail
  refine (l01Is_c L V g 0 _ xs hl HS.out _ (by simp; omega) (HT.out.below (below2 w _ _) hb)).mono ?_
  rw [H1.out]
  rintro e w1 ⟨rfl, hb1⟩
  have hz1 : w.heap.size + 1 < w1.heap.size := by have := hb1.size; simp at this; omega
  have HB1 := Lib.hid (show Below (w.heap.size + 1 + 1) ((w.alloc (.cells #[.int .i64 L, .int .i64 V, .slice (some ⟨g, 0, none⟩) xs.length xs.length] 33)).alloc (.cells #[.int .i64 0, .int .i64 0] 43)) w1 from by simpa using hb1)
  have HW1 := Lib.hid ((below2 w (.cells #[.int .i64 L, .int .i64 V, .slice (some ⟨g, 0, none⟩) xs.length xs.length] 33) (.cells #[.int .i64 0, .int .i64 0] 43)).trans (HB1.out.mono (by omega)))
  have x0 : w1.cell? ⟨w.heap.size, 0, none⟩ = some (.int .i64 L) := (HB1.out.cell (p := ⟨w.heap.size, 0, none⟩) (by show w.heap.size < _; omega)).trans (by go_simp)
  have x1 : w1.cell? ⟨w.heap.size, 1, none⟩ = some (.int .i64 V) := (HB1.out.cell (p := ⟨w.heap.size, 1, none⟩) (by show w.heap.size < _; omega)).trans (by go_simp)
  have x2 : w1.cell? ⟨w.heap.size, 2, none⟩ = some (.slice (some ⟨g, 0, none⟩) xs.length xs.length) := (HB1.out.cell (p := ⟨w.heap.size, 2, none⟩) (by show w.heap.size < _; omega)).trans (by go_simp)
  clear hb1
  have bc := bcellB HB1.out
  have r0 : w1.cell? ⟨w.heap.size + 1, 0, none⟩ = some (.int .i64 0) := (bc.1 _ _ (by omega)).trans (by go_simp)
  have r1 : w1.cell? ⟨w.heap.size + 1, 1, none⟩ = some (.int .i64 0) := (bc.1 _ _ (by omega)).trans (by go_simp)
  have z0 : w1.frozen? ⟨w.heap.size + 1, 0, none⟩ = false := (bc.2 _ _ (by omega)).trans (by go_simp)
  have z1 : w1.frozen? ⟨w.heap.size + 1, 1, none⟩ = false := (bc.2 _ _ (by omega)).trans (by go_simp)
  have hzb : w.heap.size + 1 < w1.heap.size := (by omega)
  clear bc
  have HWz := HW1
  go_wp2
  exact bodyPost_ret (v := .tuple #[.agg #[.int .i64 0, .int .i64 0], .int .i64 1]) (by simp [results, Try.results18, go_sem, r0, r1, hzb]) rfl ⟨rfl, by have hW := HWz.out; go_grown⟩
set_option maxRecDepth 100000 in
set_option maxHeartbeats 8000000 in
theorem sRb_2 (L V : Int) (g : Nat) (xs : List Tm) (hl : xs.length ≤ 1048576) (hs : ∀ i (h : i < xs.length), (xs[i]).s.size ≤ maxLen) (s : ByteArray) (hz : s.size ≤ maxLen) (h1 : serB L V xs = true) (h2 : wordB L s.data.toList = false) (w : World) (hb : g < w.heap.size) (ht : TermsIn w g 0 xs) :
    Calls Try.prog 18 #[.agg #[.int .i64 L, .int .i64 V, .slice (some ⟨g, 0, none⟩) xs.length xs.length], .string s] w (fun e w' => e = .returned (.tuple #[.agg #[.int .i64 0, .int .i64 0], .int .i64 1]) ∧ Below w.heap.size w w') := by
  have H2 := Lib.hid h2
  clear h2
  have HT := Lib.hid ht
  have HS := Lib.hid hs
  have H1 := Lib.hid h1
  clear ht hs h1
  go_enter Try.func18, Try.ntmps18
  go_wp2_with fail
  refine (l01Is_c L V g 0 _ xs hl HS.out _ (by simp; omega) (HT.out.below (below2 w _ _) hb)).mono ?_
  rw [H1.out]
  rintro e w1 ⟨rfl, hb1⟩
  have hz1 : w.heap.size + 1 < w1.heap.size := by have := hb1.size; simp at this; omega
  have HB1 := Lib.hid (show Below (w.heap.size + 1 + 1) ((w.alloc (.cells #[.int .i64 L, .int .i64 V, .slice (some ⟨g, 0, none⟩) xs.length xs.length] 33)).alloc (.cells #[.int .i64 0, .int .i64 0] 43)) w1 from by simpa using hb1)
  have HW1 := Lib.hid ((below2 w (.cells #[.int .i64 L, .int .i64 V, .slice (some ⟨g, 0, none⟩) xs.length xs.length] 33) (.cells #[.int .i64 0, .int .i64 0] 43)).trans (HB1.out.mono (by omega)))
  have x0 : w1.cell? ⟨w.heap.size, 0, none⟩ = some (.int .i64 L) := (HB1.out.cell (p := ⟨w.heap.size, 0, none⟩) (by show w.heap.size < _; omega)).trans (by go_simp)
  have x1 : w1.cell? ⟨w.heap.size, 1, none⟩ = some (.int .i64 V) := (HB1.out.cell (p := ⟨w.heap.size, 1, none⟩) (by show w.heap.size < _; omega)).trans (by go_simp)
  have x2 : w1.cell? ⟨w.heap.size, 2, none⟩ = some (.slice (some ⟨g, 0, none⟩) xs.length xs.length) := (HB1.out.cell (p := ⟨w.heap.size, 2, none⟩) (by show w.heap.size < _; omega)).trans (by go_simp)
  clear hb1
  have bc := bcellB HB1.out
  have r0 : w1.cell? ⟨w.heap.size + 1, 0, none⟩ = some (.int .i64 0) := (bc.1 _ _ (by omega)).trans (by go_simp)
  have r1 : w1.cell? ⟨w.heap.size + 1, 1, none⟩ = some (.int .i64 0) := (bc.1 _ _ (by omega)).trans (by go_simp)
  have z0 : w1.frozen? ⟨w.heap.size + 1, 0, none⟩ = false := (bc.2 _ _ (by omega)).trans (by go_simp)
  have z1 : w1.frozen? ⟨w.heap.size + 1, 1, none⟩ = false := (bc.2 _ _ (by omega)).trans (by go_simp)
  have hzb : w.heap.size + 1 < w1.heap.size := (by omega)
  clear bc
  have HWz := HW1
  go_wp2_with fail
  refine (l01Word_c L s hz _).mono ?_
  rw [H2.out]
  rintro e w2 ⟨rfl, rfl⟩
  go_wp2
  exact bodyPost_ret (v := .tuple #[.agg #[.int .i64 0, .int .i64 0], .int .i64 1]) (by simp [results, Try.results18, go_sem, r0, r1, hzb]) rfl ⟨rfl, by have hW := HWz.out; go_grown⟩
set_option maxRecDepth 100000 in
set_option maxHeartbeats 8000000 in
theorem sRb_3 (L V : Int) (g : Nat) (xs : List Tm) (hl : xs.length ≤ 1048576) (hs : ∀ i (h : i < xs.length), (xs[i]).s.size ≤ maxLen) (s : ByteArray) (hz : s.size ≤ maxLen) (h1 : serB L V xs = true) (h2 : wordB L s.data.toList = true) (h3 : V < (s.size : Int)) (w : World) (hb : g < w.heap.size) (ht : TermsIn w g 0 xs) :
    Calls Try.prog 18 #[.agg #[.int .i64 L, .int .i64 V, .slice (some ⟨g, 0, none⟩) xs.length xs.length], .string s] w (fun e w' => e = .returned (.tuple #[.agg #[.int .i64 0, .int .i64 0], .int .i64 2]) ∧ Below w.heap.size w w') := by
  have H2 := Lib.hid h2
  clear h2
  have HT := Lib.hid ht
  have HS := Lib.hid hs
  have H1 := Lib.hid h1
  clear ht hs h1
  go_enter Try.func18, Try.ntmps18
  go_wp2_with fail
  refine (l01Is_c L V g 0 _ xs hl HS.out _ (by simp; omega) (HT.out.below (below2 w _ _) hb)).mono ?_
  rw [H1.out]
  rintro e w1 ⟨rfl, hb1⟩
  have hz1 : w.heap.size + 1 < w1.heap.size := by have := hb1.size; simp at this; omega
  have HB1 := Lib.hid (show Below (w.heap.size + 1 + 1) ((w.alloc (.cells #[.int .i64 L, .int .i64 V, .slice (some ⟨g, 0, none⟩) xs.length xs.length] 33)).alloc (.cells #[.int .i64 0, .int .i64 0] 43)) w1 from by simpa using hb1)
  have HW1 := Lib.hid ((below2 w (.cells #[.int .i64 L, .int .i64 V, .slice (some ⟨g, 0, none⟩) xs.length xs.length] 33) (.cells #[.int .i64 0, .int .i64 0] 43)).trans (HB1.out.mono (by omega)))
  have x0 : w1.cell? ⟨w.heap.size, 0, none⟩ = some (.int .i64 L) := (HB1.out.cell (p := ⟨w.heap.size, 0, none⟩) (by show w.heap.size < _; omega)).trans (by go_simp)
  have x1 : w1.cell? ⟨w.heap.size, 1, none⟩ = some (.int .i64 V) := (HB1.out.cell (p := ⟨w.heap.size, 1, none⟩) (by show w.heap.size < _; omega)).trans (by go_simp)
  have x2 : w1.cell? ⟨w.heap.size, 2, none⟩ = some (.slice (some ⟨g, 0, none⟩) xs.length xs.length) := (HB1.out.cell (p := ⟨w.heap.size, 2, none⟩) (by show w.heap.size < _; omega)).trans (by go_simp)
  clear hb1
  have bc := bcellB HB1.out
  have r0 : w1.cell? ⟨w.heap.size + 1, 0, none⟩ = some (.int .i64 0) := (bc.1 _ _ (by omega)).trans (by go_simp)
  have r1 : w1.cell? ⟨w.heap.size + 1, 1, none⟩ = some (.int .i64 0) := (bc.1 _ _ (by omega)).trans (by go_simp)
  have z0 : w1.frozen? ⟨w.heap.size + 1, 0, none⟩ = false := (bc.2 _ _ (by omega)).trans (by go_simp)
  have z1 : w1.frozen? ⟨w.heap.size + 1, 1, none⟩ = false := (bc.2 _ _ (by omega)).trans (by go_simp)
  have hzb : w.heap.size + 1 < w1.heap.size := (by omega)
  clear bc
  have HWz := HW1
  go_wp2_with fail
  refine (l01Word_c L s hz _).mono ?_
  rw [H2.out]
  rintro e w2 ⟨rfl, rfl⟩
  go_wp2
  exact bodyPost_ret (v := .tuple #[.agg #[.int .i64 0, .int .i64 0], .int .i64 2]) (by simp [results, Try.results18, go_sem, r0, r1, hzb]) rfl ⟨rfl, by have hW := HWz.out; go_grown⟩
theorem tabF_tabB {n : Nat} {F : MF} (h : ∀ i j, i < n → j < n → inB (F i j) (-1000) 1000 = true) : tabB (n : Int) (tabF n F) = true := by
  rw [tabB_rows (by rw [tabF_length])]
  unfold rowsM
  refine all_yes fun i hi => ?_
  refine rowM_good (by rw [tabF_rowlen]) fun j hj => ?_
  rw [tabF_get]
  exact h i j (by rw [tabF_length] at hi; exact hi) (by rw [tabF_rowlen] at hj; exact hj)
theorem wordT_wid (d : Nat) (hd : 1 ≤ d) (s : ByteArray) : wid (wordT d s) = s.size + 1 := by
  unfold wid
  rw [getD_at (show 0 < (wordT d s).length by rw [wordT_length]; omega)]
  simp [wordT, tabF_length]
theorem wordT_ok (d : Nat) (hd : 1 ≤ d ∧ d ≤ 3) (s : ByteArray) (h5 : s.size ≤ 5) : tabsB (d : Int) (wordT d s) = true := by
  have hw := wordT_wid d hd.1 s
  unfold tabsB
  rw [hw]
  simp only [Bool.and_eq_true, decide_eq_true_eq]
  refine ⟨⟨⟨inB_yes (by omega), by rw [wordT_length]⟩, inB_yes (by omega)⟩, all_yes fun i hi => ?_⟩
  have e : (wordT d s)[i] = tabF (s.size + 1) (wtF s i) := by simp [wordT]
  rw [e]
  exact tabF_tabB fun a b _ _ => by unfold wtF; split <;> rfl
theorem sz3_wordQ (d : Nat) (s : ByteArray) (hd : d ≤ 3) (hs : s.size ≤ 5) : sz3 (wordT d s) ≤ 1048576 := by
  have hone : ∀ F : MF, (tabF (s.size + 1) F).length + flat (tabF (s.size + 1) F) ≤ 42 := fun F => by
    have h := flat_tabF (n := s.size + 1) (by omega) F
    rw [tabF_length]
    omega
  have key : ∀ k : Nat, sz3 ((List.range k).map fun q => tabF (s.size + 1) (wtF s q)) ≤ k * 42 := fun k => by
    induction k with
    | zero => simp [sz3]
    | succ k ih =>
      rw [List.range_succ, List.map_append, sz3_append]
      have h := hone (wtF s k)
      simp only [List.map_cons, List.map_nil, sz3]
      omega
  have h := key d
  unfold wordT
  omega
set_option maxRecDepth 100000 in
set_option maxHeartbeats 8000000 in
theorem iRb_4 (D : Nat) (V : Int) (g : Nat) (xs : List Tm) (hl : xs.length ≤ 1048576) (hs : ∀ i (h : i < xs.length), (xs[i]).s.size ≤ maxLen) (s : ByteArray) (h1 : serB D V xs = true) (h2 : wordB (D : Int) s.data.toList = true) (h3 : (s.size : Int) ≤ V) (ho : valQ (s.size + 1) (wordT D s) xs xs.length = none) (w : World) (hb : g < w.heap.size) (ht : TermsIn w g 0 xs) :
    Calls Try.prog 19 #[.agg #[.int .i64 D, .int .i64 V, .slice (some ⟨g, 0, none⟩) xs.length xs.length], .string s] w (fun e w' => e = .returned (.tuple #[.agg #[.int .i64 0, .int .i64 0], .int .i64 3]) ∧ Below w.heap.size w w') := by
  have hDV := shape_out (show shapeB (D : Int) V = true from by have h := h1; unfold serB at h; rw [Bool.and_eq_true] at h; exact h.1)
  have hd : 1 ≤ D ∧ D ≤ 3 := by omega
  have h5 : s.size ≤ 5 := by omega
  have hz : s.size ≤ maxLen := by unfold maxLen; omega
  have hTb := wordT_ok D hd s h5
  have hWd := wordT_wid D hd.1 s
  have hS3 := sz3_wordQ D s hd.2 h5
  have hTl : (wordT D s).length ≤ 1048576 := by rw [wordT_length]; omega
  have HH1 := Lib.hid h1
  have HO := Lib.hid ho
  have H2 := Lib.hid h2
  have HTw := Lib.hid (fun W => iTw_2 D hd s h2 h5 W)
  have h3' : ¬ V < (s.size : Int) := by omega
  obtain ⟨L, hL⟩ : ∃ L, (D : Int) = L := ⟨_, rfl⟩
  rw [hL] at h1 H2 HH1 hTb HTw ⊢
  generalize wordT D s = ts at *
  have HTb := Lib.hid hTb
  have HWd := Lib.hid hWd
  clear h2 ho hL hTb hWd hDV
  have HT := Lib.hid ht
  have HS := Lib.hid hs
  have H1 := Lib.hid h1
  clear ht hs h1
  go_enter Try.func19, Try.ntmps19
  go_wp2_with fail
  refine (iIsSeries_c L V g 0 _ xs hl HS.out _ (by simp; omega) (HT.out.below (below2 w _ _) hb)).mono ?_
  rw [H1.out]
  rintro e w1 ⟨rfl, hb1⟩
  have hz1 : w.heap.size + 1 < w1.heap.size := by have := hb1.size; simp at this; omega
  have HB1 := Lib.hid (show Below (w.heap.size + 1 + 1) ((w.alloc (.cells #[.int .i64 L, .int .i64 V, .slice (some ⟨g, 0, none⟩) xs.length xs.length] 33)).alloc (.cells #[.int .i64 0, .int .i64 0] 43)) w1 from by simpa using hb1)
  have HW1 := Lib.hid ((below2 w (.cells #[.int .i64 L, .int .i64 V, .slice (some ⟨g, 0, none⟩) xs.length xs.length] 33) (.cells #[.int .i64 0, .int .i64 0] 43)).trans (HB1.out.mono (by omega)))
  have x0 : w1.cell? ⟨w.heap.size, 0, none⟩ = some (.int .i64 L) := (HB1.out.cell (p := ⟨w.heap.size, 0, none⟩) (by show w.heap.size < _; omega)).trans (by go_simp)
  have x1 : w1.cell? ⟨w.heap.size, 1, none⟩ = some (.int .i64 V) := (HB1.out.cell (p := ⟨w.heap.size, 1, none⟩) (by show w.heap.size < _; omega)).trans (by go_simp)
  have x2 : w1.cell? ⟨w.heap.size, 2, none⟩ = some (.slice (some ⟨g, 0, none⟩) xs.length xs.length) := (HB1.out.cell (p := ⟨w.heap.size, 2, none⟩) (by show w.heap.size < _; omega)).trans (by go_simp)
  clear hb1
  go_wp2_with fail
  refine (areLetters_c L s hz _).mono ?_
  rw [H2.out]
  rintro e w2 ⟨rfl, rfl⟩
  go_wp2_with fail
  refine (HTw.out _).mono ?_
  rintro e w3 ⟨aT, cT, rfl, hb3, hN3⟩
  have HB3 := Lib.hid (HB1.out.trans (hb3.mono (by omega)))
  have HW3 := Lib.hid (HW1.out.trans (hb3.mono (by omega)))
  have hz3 := hb3.size
  have HR3 := Lib.hid hN3.row
  have hz3' : w.heap.size < w3.heap.size := by omega
  have y0 := (hb3.cell (p := ⟨w.heap.size, 0, none⟩) (by show w.heap.size < _; omega)).trans x0
  have y1 := (hb3.cell (p := ⟨w.heap.size, 1, none⟩) (by show w.heap.size < _; omega)).trans x1
  have y2 := (hb3.cell (p := ⟨w.heap.size, 2, none⟩) (by show w.heap.size < _; omega)).trans x2
  clear hb3 hN3 x0 x1 x2
  have HVl := Lib.hid (iVos_2 w1.heap.size w3.heap.size L V aT cT ts hTl hS3 (some ⟨g, 0, none⟩) xs.length xs hl HS.out w3 HR3.out (Nat.le_refl _) (.inr ⟨g, 0, rfl, by omega, HT.out.below HW3.out hb⟩) HH1.out HTb.out)
  rw [HWd.out, HO.out] at HVl
  go_wp2_with fail
  refine HVl.out.mono ?_
  rintro e w4 ⟨rfl, hb4⟩
  have HB4 := Lib.hid (HB3.out.trans (hb4.mono (by omega)))
  have HWz := Lib.hid (HW3.out.trans (hb4.mono (by omega)))
  have hz4 := hb4.size
  clear hb4 y0 y1 y2
  have bc := bcellB HB4.out
  have r0 : w4.cell? ⟨w.heap.size + 1, 0, none⟩ = some (.int .i64 0) := (bc.1 _ _ (by omega)).trans (by go_simp)
  have r1 : w4.cell? ⟨w.heap.size + 1, 1, none⟩ = some (.int .i64 0) := (bc.1 _ _ (by omega)).trans (by go_simp)
  have z0 : w4.frozen? ⟨w.heap.size + 1, 0, none⟩ = false := (bc.2 _ _ (by omega)).trans (by go_simp)
  have z1 : w4.frozen? ⟨w.heap.size + 1, 1, none⟩ = false := (bc.2 _ _ (by omega)).trans (by go_simp)
  have hzb : w.heap.size + 1 < w4.heap.size := (by omega)
  clear bc
  go_wp2
  exact bodyPost_ret (v := .tuple #[.agg #[.int .i64 0, .int .i64 0], .int .i64 3]) (by simp [results, Try.results19, go_sem, r0, r1, hzb]) rfl ⟨rfl, by have hW := HWz.out; go_grown⟩
set_option maxRecDepth 100000 in
set_option maxHeartbeats 8000000 in
theorem iRb_5 (D : Nat) (V : Int) (g : Nat) (xs : List Tm) (hl : xs.length ≤ 1048576) (hs : ∀ i (h : i < xs.length), (xs[i]).s.size ≤ maxLen) (s : ByteArray) (h1 : serB D V xs = true) (h2 : wordB (D : Int) s.data.toList = true) (h3 : (s.size : Int) ≤ V) (F : QF) (ho : valQ (s.size + 1) (wordT D s) xs xs.length = some F) (w : World) (hb : g < w.heap.size) (ht : TermsIn w g 0 xs) :
    Calls Try.prog 19 #[.agg #[.int .i64 D, .int .i64 V, .slice (some ⟨g, 0, none⟩) xs.length xs.length], .string s] w (fun e w' => e = .returned (.tuple #[.agg #[.int .i64 (F 0 s.size).1, .int .i64 (F 0 s.size).2], .int .i64 0]) ∧ Below w.heap.size w w') := by
  have hDV := shape_out (show shapeB (D : Int) V = true from by have h := h1; unfold serB at h; rw [Bool.and_eq_true] at h; exact h.1)
  have hd : 1 ≤ D ∧ D ≤ 3 := by omega
  have h5 : s.size ≤ 5 := by omega
  have hz : s.size ≤ maxLen := by unfold maxLen; omega
  have hTb := wordT_ok D hd s h5
  have hWd := wordT_wid D hd.1 s
  have hS3 := sz3_wordQ D s hd.2 h5
  have hTl : (wordT D s).length ≤ 1048576 := by rw [wordT_length]; omega
  have HH1 := Lib.hid h1
  have HO := Lib.hid ho
  have H2 := Lib.hid h2
  have HTw := Lib.hid (fun W => iTw_2 D hd s h2 h5 W)
  have h3' : ¬ V < (s.size : Int) := by omega
  obtain ⟨L, hL⟩ : ∃ L, (D : Int) = L := ⟨_, rfl⟩
  rw [hL] at h1 H2 HH1 hTb HTw ⊢
  generalize wordT D s = ts at *
  have HTb := Lib.hid hTb
  have HWd := Lib.hid hWd
  clear h2 ho hL hTb hWd hDV
  have HT := Lib.hid ht
  have HS := Lib.hid hs
  have H1 := Lib.hid h1
  clear ht hs h1
  go_enter Try.func19, Try.ntmps19
  go_wp2_with fail
  refine (iIsSeries_c L V g 0 _ xs hl HS.out _ (by simp; omega) (HT.out.below (below2 w _ _) hb)).mono ?_
  rw [H1.out]
  rintro e w1 ⟨rfl, hb1⟩
  have hz1 : w.heap.size + 1 < w1.heap.size := by have := hb1.size; simp at this; omega
  have HB1 := Lib.hid (show Below (w.heap.size + 1 + 1) ((w.alloc (.cells #[.int .i64 L, .int .i64 V, .slice (some ⟨g, 0, none⟩) xs.length xs.length] 33)).alloc (.cells #[.int .i64 0, .int .i64 0] 43)) w1 from by simpa using hb1)
  have HW1 := Lib.hid ((below2 w (.cells #[.int .i64 L, .int .i64 V, .slice (some ⟨g, 0, none⟩) xs.length xs.length] 33) (.cells #[.int .i64 0, .int .i64 0] 43)).trans (HB1.out.mono (by omega)))
  have x0 : w1.cell? ⟨w.heap.size, 0, none⟩ = some (.int .i64 L) := (HB1.out.cell (p := ⟨w.heap.size, 0, none⟩) (by show w.heap.size < _; omega)).trans (by go_simp)
  have x1 : w1.cell? ⟨w.heap.size, 1, none⟩ = some (.int .i64 V) := (HB1.out.cell (p := ⟨w.heap.size, 1, none⟩) (by show w.heap.size < _; omega)).trans (by go_simp)
  have x2 : w1.cell? ⟨w.heap.size, 2, none⟩ = some (.slice (some ⟨g, 0, none⟩) xs.length xs.length) := (HB1.out.cell (p := ⟨w.heap.size, 2, none⟩) (by show w.heap.size < _; omega)).trans (by go_simp)
  clear hb1
  go_wp2_with fail
  refine (areLetters_c L s hz _).mono ?_
  rw [H2.out]
  rintro e w2 ⟨rfl, rfl⟩
  go_wp2_with fail
  refine (HTw.out _).mono ?_
  rintro e w3 ⟨aT, cT, rfl, hb3, hN3⟩
  have HB3 := Lib.hid (HB1.out.trans (hb3.mono (by omega)))
  have HW3 := Lib.hid (HW1.out.trans (hb3.mono (by omega)))
  have hz3 := hb3.size
  have HR3 := Lib.hid hN3.row
  have hz3' : w.heap.size < w3.heap.size := by omega
  have y0 := (hb3.cell (p := ⟨w.heap.size, 0, none⟩) (by show w.heap.size < _; omega)).trans x0
  have y1 := (hb3.cell (p := ⟨w.heap.size, 1, none⟩) (by show w.heap.size < _; omega)).trans x1
  have y2 := (hb3.cell (p := ⟨w.heap.size, 2, none⟩) (by show w.heap.size < _; omega)).trans x2
  clear hb3 hN3 x0 x1 x2
  have HVl := Lib.hid (iVos_2 w1.heap.size w3.heap.size L V aT cT ts hTl hS3 (some ⟨g, 0, none⟩) xs.length xs hl HS.out w3 HR3.out (Nat.le_refl _) (.inr ⟨g, 0, rfl, by omega, HT.out.below HW3.out hb⟩) HH1.out HTb.out)
  rw [HWd.out, HO.out] at HVl
  go_wp2_with fail
  refine HVl.out.mono ?_
  rintro e wL ⟨Y, cY, rfl, hb4, hFM⟩
  have HB4 := Lib.hid (HB3.out.trans (hb4.mono (by omega)))
  have HWz := Lib.hid (HW3.out.trans (hb4.mono (by omega)))
  have hz4 := hb4.size
  clear hb4 y0 y1 y2
  have bc := bcellB HB4.out
  have r0 : wL.cell? ⟨w.heap.size + 1, 0, none⟩ = some (.int .i64 0) := (bc.1 _ _ (by omega)).trans (by go_simp)
  have r1 : wL.cell? ⟨w.heap.size + 1, 1, none⟩ = some (.int .i64 0) := (bc.1 _ _ (by omega)).trans (by go_simp)
  have z0 : wL.frozen? ⟨w.heap.size + 1, 0, none⟩ = false := (bc.2 _ _ (by omega)).trans (by go_simp)
  have z1 : wL.frozen? ⟨w.heap.size + 1, 1, none⟩ = false := (bc.2 _ _ (by omega)).trans (by go_simp)
  have hzb : w.heap.size + 1 < wL.heap.size := (by omega)
  clear bc
  have p0 := (hFM.2.2.2.2.1 0 (by omega)).2.2
  obtain ⟨p1, p2, _, _⟩ := hFM.2.2.2.2.2 0 s.size (by omega) (by omega)
  have hyz : Y.h < wL.heap.size := by have := hFM.2.1; have := hFM.2.2.1; omega
  obtain ⟨x, y, hxy⟩ : ∃ x y, F 0 s.size = (x, y) := ⟨_, _, rfl⟩
  rw [hxy] at p1 p2
  simp only at p1 p2
  have HXy := Lib.hid hxy
  clear hFM hxy
  go_wp2
  rw [HXy.out]
  exact bodyPost_ret (v := .tuple #[.agg #[.int .i64 x, .int .i64 y], .int .i64 0]) (by simp [results, Try.results19, go_sem, r0, r1, hzb]) rfl ⟨rfl, by have hW := HWz.out; go_grown⟩
set_option maxRecDepth 100000 in
set_option maxHeartbeats 8000000 in
theorem sRb_4 (D : Nat) (V : Int) (g : Nat) (xs : List Tm) (hl : xs.length ≤ 1048576) (hs : ∀ i (h : i < xs.length), (xs[i]).s.size ≤ maxLen) (s : ByteArray) (h1 : serB D V xs = true) (h2 : wordB (D : Int) s.data.toList = true) (h3 : (s.size : Int) ≤ V) (ho : valQ (s.size + 1) (wordT D s) xs xs.length = none) (w : World) (hb : g < w.heap.size) (ht : TermsIn w g 0 xs) :
    Calls Try.prog 18 #[.agg #[.int .i64 D, .int .i64 V, .slice (some ⟨g, 0, none⟩) xs.length xs.length], .string s] w (fun e w' => e = .returned (.tuple #[.agg #[.int .i64 0, .int .i64 0], .int .i64 3]) ∧ Below w.heap.size w w') := by
  have hDV := shape_out (show shapeB (D : Int) V = true from by have h := h1; unfold serB at h; rw [Bool.and_eq_true] at h; exact h.1)
  have hd : 1 ≤ D ∧ D ≤ 3 := by omega
  have h5 : s.size ≤ 5 := by omega
  have hz : s.size ≤ maxLen := by unfold maxLen; omega
  have hTb := wordT_ok D hd s h5
  have hWd := wordT_wid D hd.1 s
  have hS3 := sz3_wordQ D s hd.2 h5
  have hTl : (wordT D s).length ≤ 1048576 := by rw [wordT_length]; omega
  have HH1 := Lib.hid h1
  have HO := Lib.hid ho
  have H2 := Lib.hid h2
  have HTw := Lib.hid (fun W => l08Tables_c D hd s h2 h5 W)
  have h3' : ¬ V < (s.size : Int) := by omega
  obtain ⟨L, hL⟩ : ∃ L, (D : Int) = L := ⟨_, rfl⟩
  rw [hL] at h1 H2 HH1 hTb HTw ⊢
  generalize wordT D s = ts at *
  have HTb := Lib.hid hTb
  have HWd := Lib.hid hWd
  clear h2 ho hL hTb hWd hDV
  have HT := Lib.hid ht
  have HS := Lib.hid hs
  have H1 := Lib.hid h1
  clear ht hs h1
  go_enter Try.func18, Try.ntmps18
  go_wp2_with fail
  refine (l01Is_c L V g 0 _ xs hl HS.out _ (by simp; omega) (HT.out.below (below2 w _ _) hb)).mono ?_
  rw [H1.out]
  rintro e w1 ⟨rfl, hb1⟩
  have hz1 : w.heap.size + 1 < w1.heap.size := by have := hb1.size; simp at this; omega
  have HB1 := Lib.hid (show Below (w.heap.size + 1 + 1) ((w.alloc (.cells #[.int .i64 L, .int .i64 V, .slice (some ⟨g, 0, none⟩) xs.length xs.length] 33)).alloc (.cells #[.int .i64 0, .int .i64 0] 43)) w1 from by simpa using hb1)
  have HW1 := Lib.hid ((below2 w (.cells #[.int .i64 L, .int .i64 V, .slice (some ⟨g, 0, none⟩) xs.length xs.length] 33) (.cells #[.int .i64 0, .int .i64 0] 43)).trans (HB1.out.mono (by omega)))
  have x0 : w1.cell? ⟨w.heap.size, 0, none⟩ = some (.int .i64 L) := (HB1.out.cell (p := ⟨w.heap.size, 0, none⟩) (by show w.heap.size < _; omega)).trans (by go_simp)
  have x1 : w1.cell? ⟨w.heap.size, 1, none⟩ = some (.int .i64 V) := (HB1.out.cell (p := ⟨w.heap.size, 1, none⟩) (by show w.heap.size < _; omega)).trans (by go_simp)
  have x2 : w1.cell? ⟨w.heap.size, 2, none⟩ = some (.slice (some ⟨g, 0, none⟩) xs.length xs.length) := (HB1.out.cell (p := ⟨w.heap.size, 2, none⟩) (by show w.heap.size < _; omega)).trans (by go_simp)
  clear hb1
  go_wp2_with fail
  refine (l01Word_c L s hz _).mono ?_
  rw [H2.out]
  rintro e w2 ⟨rfl, rfl⟩
  have hwz2 : w.heap.size < w1.heap.size := by omega
  have KS := Lib.hid (show ∀ w', Below w1.heap.size w1 w' → (w'.cell? ⟨w.heap.size, 0, none⟩ = some (.int .i64 L) ∧ w'.cell? ⟨w.heap.size, 1, none⟩ = some (.int .i64 V) ∧ w'.cell? ⟨w.heap.size, 2, none⟩ = some (.slice (some ⟨g, 0, none⟩) xs.length xs.length)) from fun w' hb => ⟨(hb.cell (p := ⟨w.heap.size, 0, none⟩) hwz2).trans x0, (hb.cell (p := ⟨w.heap.size, 1, none⟩) hwz2).trans x1, (hb.cell (p := ⟨w.heap.size, 2, none⟩) hwz2).trans x2⟩)
  have HTb2 := Lib.hid (fun W (hW : Below w1.heap.size w1 W) => HTw.out W)
  have HVl := Lib.hid (fun aT cT (W5 : World) (lo5 : Nat) (hR : TRow lo5 W5.heap.size W5 aT ts) (h15 : Below w1.heap.size w1 W5) W (hW : Below W5.heap.size W5 W) => l08Value_c lo5 W5.heap.size L V aT cT ts (some ⟨g, 0, none⟩) xs.length xs hl W (hR.below hW (Nat.le_refl _)) hW.size (.inr ⟨g, 0, rfl, by have := HW1.out.size; have := h15.size; have := hW.size; omega, HT.out.below (HW1.out.trans ((h15.trans (hW.mono h15.size)).mono (by omega))) hb⟩) HH1.out HTb.out)
  rw [HWd.out, HO.out] at HVl
  go_upto_region 5 with fail
  go_cut [6, 7] (fun s6 s7 wy => s6 = .slice none 0 0 ∧ s7 = .bool false ∧ Below w1.heap.size w1 wy)
  case first =>
    go_region_held3 (fun w' => w'.cell? ⟨w.heap.size, 0, none⟩ = some (.int .i64 L) ∧ w'.cell? ⟨w.heap.size, 1, none⟩ = some (.int .i64 V) ∧ w'.cell? ⟨w.heap.size, 2, none⟩ = some (.slice (some ⟨g, 0, none⟩) xs.length xs.length))
      ((refine KS.out _ ?_; repeat' (first | with_reducible assumption | with_reducible exact Below.refl _ _ | (with_reducible refine Below.drew ?_) | (with_reducible refine Below.setCell ?_ (by (try dsimp only); omega) _) | (with_reducible refine Below.alloc ?_ (by (try simp only [World.size_setCell]); (try simp only [World.size_drew]); (try simp only [World.size_alloc]); (try simp only [World.size_setCell]); (try simp only [World.size_alloc]); omega) _))))
      (first
        | (go_at_call 42; (with_reducible refine (HTb2.out _ ?_).mono ?_); (focus repeat' (first | with_reducible assumption | with_reducible exact Below.refl _ _ | (with_reducible refine Below.drew ?_) | (with_reducible refine Below.setCell ?_ (by (try dsimp only); omega) _) | (with_reducible refine Below.alloc ?_ (by (try simp only [World.size_setCell]); (try simp only [World.size_drew]); (try simp only [World.size_alloc]); (try simp only [World.size_setCell]); (try simp only [World.size_alloc]); omega) _))); rintro e w5 ⟨aT, cT, rfl, hb0, hR5⟩; have hb5 : Below w1.heap.size w1 w5 := below_step (by repeat' (first | with_reducible assumption | with_reducible exact Below.refl _ _ | (with_reducible refine Below.drew ?_) | (with_reducible refine Below.setCell ?_ (by (try dsimp only); omega) _) | (with_reducible refine Below.alloc ?_ (by (try simp only [World.size_setCell]); (try simp only [World.size_drew]); (try simp only [World.size_alloc]); (try simp only [World.size_setCell]); (try simp only [World.size_alloc]); omega) _))) hb0 (Nat.le_refl _))
        | (go_at_call 25; (with_reducible refine (HVl.out aT cT w5 _ hR5 hb5 _ ?_).mono ?_); (focus repeat' (first | with_reducible assumption | with_reducible exact Below.refl _ _ | (with_reducible refine Below.drew ?_) | (with_reducible refine Below.setCell ?_ (by (try dsimp only); omega) _) | (with_reducible refine Below.alloc ?_ (by (try simp only [World.size_setCell]); (try simp only [World.size_drew]); (try simp only [World.size_alloc]); (try simp only [World.size_setCell]); (try simp only [World.size_alloc]); omega) _))); rintro e w6 ⟨rfl, hb0⟩; have hb6 : Below w1.heap.size w1 w6 := below_step (by repeat' (first | with_reducible assumption | with_reducible exact Below.refl _ _ | (with_reducible refine Below.drew ?_) | (with_reducible refine Below.setCell ?_ (by (try dsimp only); omega) _) | (with_reducible refine Below.alloc ?_ (by (try simp only [World.size_setCell]); (try simp only [World.size_drew]); (try simp only [World.size_alloc]); (try simp only [World.size_setCell]); (try simp only [World.size_alloc]); omega) _))) hb0 (Nat.le_refl _))
        | fail)
    all_goals (go_wp2_with fail; go_meet)
    all_goals exact ⟨rfl, rfl, hb6⟩
  case rest =>
    obtain ⟨rfl, rfl, hbc⟩ := hcut
    obtain ⟨w4, rfl⟩ : ∃ w4 : World, w4 = wc := ⟨_, rfl⟩
    have HB4 := Lib.hid (HB1.out.trans (hbc.mono (by omega)))
    have HWz := Lib.hid (HW1.out.trans (hbc.mono (by omega)))
    have hz4 := hbc.size
    clear hbc x0 x1 x2
    have bc := bcellB HB4.out
    have r0 : w4.cell? ⟨w.heap.size + 1, 0, none⟩ = some (.int .i64 0) := (bc.1 _ _ (by omega)).trans (by go_simp)
    have r1 : w4.cell? ⟨w.heap.size + 1, 1, none⟩ = some (.int .i64 0) := (bc.1 _ _ (by omega)).trans (by go_simp)
    have z0 : w4.frozen? ⟨w.heap.size + 1, 0, none⟩ = false := (bc.2 _ _ (by omega)).trans (by go_simp)
    have z1 : w4.frozen? ⟨w.heap.size + 1, 1, none⟩ = false := (bc.2 _ _ (by omega)).trans (by go_simp)
    have hzb : w.heap.size + 1 < w4.heap.size := (by omega)
    clear bc
    go_wp2
    exact bodyPost_ret (v := .tuple #[.agg #[.int .i64 0, .int .i64 0], .int .i64 3]) (by simp [results, Try.results18, go_sem, r0, r1, hzb]) rfl ⟨rfl, by have hW := HWz.out; go_grown⟩
set_option maxRecDepth 100000 in
set_option maxHeartbeats 8000000 in
theorem sRb_5 (D : Nat) (V : Int) (g : Nat) (xs : List Tm) (hl : xs.length ≤ 1048576) (hs : ∀ i (h : i < xs.length), (xs[i]).s.size ≤ maxLen) (s : ByteArray) (h1 : serB D V xs = true) (h2 : wordB (D : Int) s.data.toList = true) (h3 : (s.size : Int) ≤ V) (F : QF) (ho : valQ (s.size + 1) (wordT D s) xs xs.length = some F) (w : World) (hb : g < w.heap.size) (ht : TermsIn w g 0 xs) :
    Calls Try.prog 18 #[.agg #[.int .i64 D, .int .i64 V, .slice (some ⟨g, 0, none⟩) xs.length xs.length], .string s] w (fun e w' => e = .returned (.tuple #[.agg #[.int .i64 (F 0 s.size).1, .int .i64 (F 0 s.size).2], .int .i64 0]) ∧ Below w.heap.size w w') := by
  have hDV := shape_out (show shapeB (D : Int) V = true from by have h := h1; unfold serB at h; rw [Bool.and_eq_true] at h; exact h.1)
  have hd : 1 ≤ D ∧ D ≤ 3 := by omega
  have h5 : s.size ≤ 5 := by omega
  have hz : s.size ≤ maxLen := by unfold maxLen; omega
  have hTb := wordT_ok D hd s h5
  have hWd := wordT_wid D hd.1 s
  have hS3 := sz3_wordQ D s hd.2 h5
  have hTl : (wordT D s).length ≤ 1048576 := by rw [wordT_length]; omega
  have HH1 := Lib.hid h1
  have HO := Lib.hid ho
  have H2 := Lib.hid h2
  have HTw := Lib.hid (fun W => l08Tables_c D hd s h2 h5 W)
  have h3' : ¬ V < (s.size : Int) := by omega
  obtain ⟨L, hL⟩ : ∃ L, (D : Int) = L := ⟨_, rfl⟩
  rw [hL] at h1 H2 HH1 hTb HTw ⊢
  generalize wordT D s = ts at *
  have HTb := Lib.hid hTb
  have HWd := Lib.hid hWd
  clear h2 ho hL hTb hWd hDV
  have HT := Lib.hid ht
  have HS := Lib.hid hs
  have H1 := Lib.hid h1
  clear ht hs h1
  go_enter Try.func18, Try.ntmps18
  go_wp2_with fail
  refine (l01Is_c L V g 0 _ xs hl HS.out _ (by simp; omega) (HT.out.below (below2 w _ _) hb)).mono ?_
  rw [H1.out]
  rintro e w1 ⟨rfl, hb1⟩
  have hz1 : w.heap.size + 1 < w1.heap.size := by have := hb1.size; simp at this; omega
  have HB1 := Lib.hid (show Below (w.heap.size + 1 + 1) ((w.alloc (.cells #[.int .i64 L, .int .i64 V, .slice (some ⟨g, 0, none⟩) xs.length xs.length] 33)).alloc (.cells #[.int .i64 0, .int .i64 0] 43)) w1 from by simpa using hb1)
  have HW1 := Lib.hid ((below2 w (.cells #[.int .i64 L, .int .i64 V, .slice (some ⟨g, 0, none⟩) xs.length xs.length] 33) (.cells #[.int .i64 0, .int .i64 0] 43)).trans (HB1.out.mono (by omega)))
  have x0 : w1.cell? ⟨w.heap.size, 0, none⟩ = some (.int .i64 L) := (HB1.out.cell (p := ⟨w.heap.size, 0, none⟩) (by show w.heap.size < _; omega)).trans (by go_simp)
  have x1 : w1.cell? ⟨w.heap.size, 1, none⟩ = some (.int .i64 V) := (HB1.out.cell (p := ⟨w.heap.size, 1, none⟩) (by show w.heap.size < _; omega)).trans (by go_simp)
  have x2 : w1.cell? ⟨w.heap.size, 2, none⟩ = some (.slice (some ⟨g, 0, none⟩) xs.length xs.length) := (HB1.out.cell (p := ⟨w.heap.size, 2, none⟩) (by show w.heap.size < _; omega)).trans (by go_simp)
  clear hb1
  go_wp2_with fail
  refine (l01Word_c L s hz _).mono ?_
  rw [H2.out]
  rintro e w2 ⟨rfl, rfl⟩
  have hwz2 : w.heap.size < w1.heap.size := by omega
  have KS := Lib.hid (show ∀ w', Below w1.heap.size w1 w' → (w'.cell? ⟨w.heap.size, 0, none⟩ = some (.int .i64 L) ∧ w'.cell? ⟨w.heap.size, 1, none⟩ = some (.int .i64 V) ∧ w'.cell? ⟨w.heap.size, 2, none⟩ = some (.slice (some ⟨g, 0, none⟩) xs.length xs.length)) from fun w' hb => ⟨(hb.cell (p := ⟨w.heap.size, 0, none⟩) hwz2).trans x0, (hb.cell (p := ⟨w.heap.size, 1, none⟩) hwz2).trans x1, (hb.cell (p := ⟨w.heap.size, 2, none⟩) hwz2).trans x2⟩)
  have HTb2 := Lib.hid (fun W (hW : Below w1.heap.size w1 W) => HTw.out W)
  have HVl := Lib.hid (fun aT cT (W5 : World) (lo5 : Nat) (hR : TRow lo5 W5.heap.size W5 aT ts) (h15 : Below w1.heap.size w1 W5) W (hW : Below W5.heap.size W5 W) => l08Value_c lo5 W5.heap.size L V aT cT ts (some ⟨g, 0, none⟩) xs.length xs hl W (hR.below hW (Nat.le_refl _)) hW.size (.inr ⟨g, 0, rfl, by have := HW1.out.size; have := h15.size; have := hW.size; omega, HT.out.below (HW1.out.trans ((h15.trans (hW.mono h15.size)).mono (by omega))) hb⟩) HH1.out HTb.out)
  rw [HWd.out, HO.out] at HVl
  go_upto_region 5 with fail
  go_cut [6, 7] (fun s6 s7 wy => ∃ (Y : Lay) (c : Nat), s6 = .slice (some ⟨Y.h, 0, none⟩) (s.size + 1) c ∧ s7 = .bool true ∧ Below w1.heap.size w1 wy ∧ FM wy w1.heap.size wy.heap.size (s.size + 1) Y F)
  case first =>
    go_region_held3 (fun w' => w'.cell? ⟨w.heap.size, 0, none⟩ = some (.int .i64 L) ∧ w'.cell? ⟨w.heap.size, 1, none⟩ = some (.int .i64 V) ∧ w'.cell? ⟨w.heap.size, 2, none⟩ = some (.slice (some ⟨g, 0, none⟩) xs.length xs.length))
      ((refine KS.out _ ?_; repeat' (first | with_reducible assumption | with_reducible exact Below.refl _ _ | (with_reducible refine Below.drew ?_) | (with_reducible refine Below.setCell ?_ (by (try dsimp only); omega) _) | (with_reducible refine Below.alloc ?_ (by (try simp only [World.size_setCell]); (try simp only [World.size_drew]); (try simp only [World.size_alloc]); (try simp only [World.size_setCell]); (try simp only [World.size_alloc]); omega) _))))
      (first
        | (go_at_call 42; (with_reducible refine (HTb2.out _ ?_).mono ?_); (focus repeat' (first | with_reducible assumption | with_reducible exact Below.refl _ _ | (with_reducible refine Below.drew ?_) | (with_reducible refine Below.setCell ?_ (by (try dsimp only); omega) _) | (with_reducible refine Below.alloc ?_ (by (try simp only [World.size_setCell]); (try simp only [World.size_drew]); (try simp only [World.size_alloc]); (try simp only [World.size_setCell]); (try simp only [World.size_alloc]); omega) _))); rintro e w5 ⟨aT, cT, rfl, hb0, hR5⟩; have hb5 : Below w1.heap.size w1 w5 := below_step (by repeat' (first | with_reducible assumption | with_reducible exact Below.refl _ _ | (with_reducible refine Below.drew ?_) | (with_reducible refine Below.setCell ?_ (by (try dsimp only); omega) _) | (with_reducible refine Below.alloc ?_ (by (try simp only [World.size_setCell]); (try simp only [World.size_drew]); (try simp only [World.size_alloc]); (try simp only [World.size_setCell]); (try simp only [World.size_alloc]); omega) _))) hb0 (Nat.le_refl _))
        | (go_at_call 25; (with_reducible refine (HVl.out aT cT w5 _ hR5 hb5 _ ?_).mono ?_); (focus repeat' (first | with_reducible assumption | with_reducible exact Below.refl _ _ | (with_reducible refine Below.drew ?_) | (with_reducible refine Below.setCell ?_ (by (try dsimp only); omega) _) | (with_reducible refine Below.alloc ?_ (by (try simp only [World.size_setCell]); (try simp only [World.size_drew]); (try simp only [World.size_alloc]); (try simp only [World.size_setCell]); (try simp only [World.size_alloc]); omega) _))); rintro e w6 ⟨Y, cY, rfl, hb0, hF6⟩; have hb6 : Below w1.heap.size w1 w6 := below_step (by repeat' (first | with_reducible assumption | with_reducible exact Below.refl _ _ | (with_reducible refine Below.drew ?_) | (with_reducible refine Below.setCell ?_ (by (try dsimp only); omega) _) | (with_reducible refine Below.alloc ?_ (by (try simp only [World.size_setCell]); (try simp only [World.size_drew]); (try simp only [World.size_alloc]); (try simp only [World.size_setCell]); (try simp only [World.size_alloc]); omega) _))) hb0 (Nat.le_refl _); have hF7 := Lib.hid (hF6.mono (lo' := w1.heap.size) (by (try simp only [World.size_drew]); have := hb5.size; omega) (Nat.le_refl _) (Nat.le_refl _)); clear hF6)
        | fail)
    all_goals (go_wp2_with fail; go_meet)
    all_goals exact ⟨Y, cY, rfl, rfl, hb6, hF7.out⟩
  case rest =>
    obtain ⟨Y, cY, rfl, rfl, hbc, hFM⟩ := hcut
    obtain ⟨wL, rfl⟩ : ∃ wL : World, wL = wc := ⟨_, rfl⟩
    have HB4 := Lib.hid (HB1.out.trans (hbc.mono (by omega)))
    have HWz := Lib.hid (HW1.out.trans (hbc.mono (by omega)))
    have hz4 := hbc.size
    clear hbc x0 x1 x2
    have bc := bcellB HB4.out
    have r0 : wL.cell? ⟨w.heap.size + 1, 0, none⟩ = some (.int .i64 0) := (bc.1 _ _ (by omega)).trans (by go_simp)
    have r1 : wL.cell? ⟨w.heap.size + 1, 1, none⟩ = some (.int .i64 0) := (bc.1 _ _ (by omega)).trans (by go_simp)
    have z0 : wL.frozen? ⟨w.heap.size + 1, 0, none⟩ = false := (bc.2 _ _ (by omega)).trans (by go_simp)
    have z1 : wL.frozen? ⟨w.heap.size + 1, 1, none⟩ = false := (bc.2 _ _ (by omega)).trans (by go_simp)
    have hzb : w.heap.size + 1 < wL.heap.size := (by omega)
    clear bc
    have p0 := (hFM.2.2.2.2.1 0 (by omega)).2.2
    obtain ⟨p1, p2, _, _⟩ := hFM.2.2.2.2.2 0 s.size (by omega) (by omega)
    have hyz : Y.h < wL.heap.size := by have := hFM.2.1; have := hFM.2.2.1; omega
    obtain ⟨x, y, hxy⟩ : ∃ x y, F 0 s.size = (x, y) := ⟨_, _, rfl⟩
    rw [hxy] at p1 p2
    simp only at p1 p2
    have HXy := Lib.hid hxy
    clear hFM hxy
    go_wp2
    rw [HXy.out]
    exact bodyPost_ret (v := .tuple #[.agg #[.int .i64 x, .int .i64 y], .int .i64 0]) (by simp [results, Try.results18, go_sem, r0, r1, hzb]) rfl ⟨rfl, by have hW := HWz.out; go_grown⟩
end Go.Proofs.Ytknigggjnjkhbaa
