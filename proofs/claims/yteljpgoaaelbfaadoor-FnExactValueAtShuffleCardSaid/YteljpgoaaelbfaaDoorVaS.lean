/-
  Contracts of ValueAtShuffle, of both sides.
-/
import Derived.Test.YteljpgoaaelbfaaDoorShU
namespace Go.Proofs.YteljpgoaaelbfaaDoor
open Go.RowKit
set_option linter.unusedVariables false

set_option maxRecDepth 100000 in
set_option maxHeartbeats 4000000 in
theorem sVal_1 (L n : Int) (g : Nat) (ys : List Tm) (hl : ys.length ≤ 1048576) (hs : ∀ i (h : i < ys.length), (ys[i]).s.size ≤ maxLen) (v u : ByteArray) (hv : v.size ≤ 1048576) (hu : u.size ≤ 1048576) (h1 : serB L n ys = false) (w : World) (hb : g < w.heap.size) (ht : TermsIn w g 0 ys) :
    Calls Tryd.prog 11 #[.agg #[.int .i64 L, .int .i64 n, .slice (some ⟨g, 0, none⟩) ys.length ys.length], .string v, .string u] w (FracPost (0, 0, 1) w) := by
  have hvm : v.size ≤ maxLen := by unfold maxLen; omega
  have hum : u.size ≤ maxLen := by unfold maxLen; omega
  have HT := Lib.hid ht
  have HS := Lib.hid hs
  have H1 := Lib.hid h1
  clear ht hs h1
  go_enter Tryd.func11, Tryd.ntmps11
  go_wp2_with fail
  refine (l01Is_c L n g 0 _ ys hl HS.out _ (by simp; omega) (HT.out.below (below2 w _ _) hb)).mono ?_
  rw [H1.out]
  rintro e w1 ⟨rfl, hb1⟩
  have hB := hb1
  simp only [World.size_alloc] at hB
  obtain ⟨hc, hf⟩ := bcellB hB
  have x0 : w1.cell? ⟨w.heap.size, 0, none⟩ = some (.int .i64 L) := (hc _ _ (by omega)).trans (by go_simp)
  have x1 : w1.cell? ⟨w.heap.size, 1, none⟩ = some (.int .i64 n) := (hc _ _ (by omega)).trans (by go_simp)
  have x2 : w1.cell? ⟨w.heap.size, 2, none⟩ = some (.slice (some ⟨g, 0, none⟩) ys.length ys.length) := (hc _ _ (by omega)).trans (by go_simp)
  have r0 : w1.cell? ⟨w.heap.size + 1, 0, none⟩ = some (.int .i64 0) := (hc _ _ (by omega)).trans (by go_simp)
  have r1 : w1.cell? ⟨w.heap.size + 1, 1, none⟩ = some (.int .i64 0) := (hc _ _ (by omega)).trans (by go_simp)
  have z0 : w1.frozen? ⟨w.heap.size + 1, 0, none⟩ = false := (hf _ _ (by omega)).trans (by go_simp)
  have z1 : w1.frozen? ⟨w.heap.size + 1, 1, none⟩ = false := (hf _ _ (by omega)).trans (by go_simp)
  have hW : Below w.heap.size w w1 := (below2 w _ _).trans (hb1.mono (by simp; omega))
  have hz : w.heap.size + 1 < w1.heap.size := by have := hB.size; simp only [World.size_alloc] at this; omega
  clear hb1 hB hc hf
  go_wp2
  exact bodyPost_ret (v := .tuple #[.agg #[.int .i64 0, .int .i64 0], .int .i64 1]) (by simp [results, Tryd.results11, go_sem, r0, r1]) rfl ⟨rfl, by go_grown⟩
set_option maxRecDepth 100000 in
set_option maxHeartbeats 4000000 in
theorem iVal_1 (L n : Int) (g : Nat) (ys : List Tm) (hl : ys.length ≤ 1048576) (hs : ∀ i (h : i < ys.length), (ys[i]).s.size ≤ maxLen) (v u : ByteArray) (hv : v.size ≤ 1048576) (hu : u.size ≤ 1048576) (h1 : serB L n ys = false) (w : World) (hb : g < w.heap.size) (ht : TermsIn w g 0 ys) :
    Calls Tryd.prog 13 #[.agg #[.int .i64 L, .int .i64 n, .slice (some ⟨g, 0, none⟩) ys.length ys.length], .string v, .string u] w (FracPost (0, 0, 1) w) := by
  have hvm : v.size ≤ maxLen := by unfold maxLen; omega
  have hum : u.size ≤ maxLen := by unfold maxLen; omega
  have HT := Lib.hid ht
  have HS := Lib.hid hs
  have H1 := Lib.hid h1
  clear ht hs h1
  go_enter Tryd.func13, Tryd.ntmps13
  go_wp2_with fail
  refine (iIsSeries_c L n g 0 _ ys hl HS.out _ (by simp; omega) (HT.out.below (below2 w _ _) hb)).mono ?_
  rw [H1.out]
  rintro e w1 ⟨rfl, hb1⟩
  have hB := hb1
  simp only [World.size_alloc] at hB
  obtain ⟨hc, hf⟩ := bcellB hB
  have x0 : w1.cell? ⟨w.heap.size, 0, none⟩ = some (.int .i64 L) := (hc _ _ (by omega)).trans (by go_simp)
  have x1 : w1.cell? ⟨w.heap.size, 1, none⟩ = some (.int .i64 n) := (hc _ _ (by omega)).trans (by go_simp)
  have x2 : w1.cell? ⟨w.heap.size, 2, none⟩ = some (.slice (some ⟨g, 0, none⟩) ys.length ys.length) := (hc _ _ (by omega)).trans (by go_simp)
  have r0 : w1.cell? ⟨w.heap.size + 1, 0, none⟩ = some (.int .i64 0) := (hc _ _ (by omega)).trans (by go_simp)
  have r1 : w1.cell? ⟨w.heap.size + 1, 1, none⟩ = some (.int .i64 0) := (hc _ _ (by omega)).trans (by go_simp)
  have z0 : w1.frozen? ⟨w.heap.size + 1, 0, none⟩ = false := (hf _ _ (by omega)).trans (by go_simp)
  have z1 : w1.frozen? ⟨w.heap.size + 1, 1, none⟩ = false := (hf _ _ (by omega)).trans (by go_simp)
  have hW : Below w.heap.size w w1 := (below2 w _ _).trans (hb1.mono (by simp; omega))
  have hz : w.heap.size + 1 < w1.heap.size := by have := hB.size; simp only [World.size_alloc] at this; omega
  clear hb1 hB hc hf
  go_wp2
  exact bodyPost_ret (v := .tuple #[.agg #[.int .i64 0, .int .i64 0], .int .i64 1]) (by simp [results, Tryd.results13, go_sem, r0, r1]) rfl ⟨rfl, by go_grown⟩
set_option maxRecDepth 100000 in
set_option maxHeartbeats 4000000 in
theorem sVal_2 (L n : Int) (g : Nat) (ys : List Tm) (hl : ys.length ≤ 1048576) (hs : ∀ i (h : i < ys.length), (ys[i]).s.size ≤ maxLen) (v u : ByteArray) (hv : v.size ≤ 1048576) (hu : u.size ≤ 1048576) (h1 : serB L n ys = true) (hwv : wordB L v.data.toList = false) (w : World) (hb : g < w.heap.size) (ht : TermsIn w g 0 ys) :
    Calls Tryd.prog 11 #[.agg #[.int .i64 L, .int .i64 n, .slice (some ⟨g, 0, none⟩) ys.length ys.length], .string v, .string u] w (FracPost (0, 0, 2) w) := by
  have hvm : v.size ≤ maxLen := by unfold maxLen; omega
  have hum : u.size ≤ maxLen := by unfold maxLen; omega
  have HT := Lib.hid ht
  have HS := Lib.hid hs
  have H1 := Lib.hid h1
  have C1 := Lib.hid (fun W => l01Word_c L v hvm W)
  rw [hwv] at C1
  clear ht hs h1
  go_enter Tryd.func11, Tryd.ntmps11
  go_wp2_with fail
  refine (l01Is_c L n g 0 _ ys hl HS.out _ (by simp; omega) (HT.out.below (below2 w _ _) hb)).mono ?_
  rw [H1.out]
  rintro e w1 ⟨rfl, hb1⟩
  have hB := hb1
  simp only [World.size_alloc] at hB
  obtain ⟨hc, hf⟩ := bcellB hB
  have x0 : w1.cell? ⟨w.heap.size, 0, none⟩ = some (.int .i64 L) := (hc _ _ (by omega)).trans (by go_simp)
  have x1 : w1.cell? ⟨w.heap.size, 1, none⟩ = some (.int .i64 n) := (hc _ _ (by omega)).trans (by go_simp)
  have x2 : w1.cell? ⟨w.heap.size, 2, none⟩ = some (.slice (some ⟨g, 0, none⟩) ys.length ys.length) := (hc _ _ (by omega)).trans (by go_simp)
  have r0 : w1.cell? ⟨w.heap.size + 1, 0, none⟩ = some (.int .i64 0) := (hc _ _ (by omega)).trans (by go_simp)
  have r1 : w1.cell? ⟨w.heap.size + 1, 1, none⟩ = some (.int .i64 0) := (hc _ _ (by omega)).trans (by go_simp)
  have z0 : w1.frozen? ⟨w.heap.size + 1, 0, none⟩ = false := (hf _ _ (by omega)).trans (by go_simp)
  have z1 : w1.frozen? ⟨w.heap.size + 1, 1, none⟩ = false := (hf _ _ (by omega)).trans (by go_simp)
  have hW : Below w.heap.size w w1 := (below2 w _ _).trans (hb1.mono (by simp; omega))
  have hz : w.heap.size + 1 < w1.heap.size := by have := hB.size; simp only [World.size_alloc] at this; omega
  clear hb1 hB hc hf
  go_wp2_with (first
    | (go_at_call 16; (with_reducible refine (C1.out _).mono ?_); rintro e w' ⟨rfl, rfl⟩)
    | fail)
  exact bodyPost_ret (v := .tuple #[.agg #[.int .i64 0, .int .i64 0], .int .i64 2]) (by simp [results, Tryd.results11, go_sem, r0, r1]) rfl ⟨rfl, by go_grown⟩
set_option maxRecDepth 100000 in
set_option maxHeartbeats 4000000 in
theorem sVal_3 (L n : Int) (g : Nat) (ys : List Tm) (hl : ys.length ≤ 1048576) (hs : ∀ i (h : i < ys.length), (ys[i]).s.size ≤ maxLen) (v u : ByteArray) (hv : v.size ≤ 1048576) (hu : u.size ≤ 1048576) (h1 : serB L n ys = true) (hwv : wordB L v.data.toList = true) (hwu : wordB L u.data.toList = false) (w : World) (hb : g < w.heap.size) (ht : TermsIn w g 0 ys) :
    Calls Tryd.prog 11 #[.agg #[.int .i64 L, .int .i64 n, .slice (some ⟨g, 0, none⟩) ys.length ys.length], .string v, .string u] w (FracPost (0, 0, 2) w) := by
  have hvm : v.size ≤ maxLen := by unfold maxLen; omega
  have hum : u.size ≤ maxLen := by unfold maxLen; omega
  have HT := Lib.hid ht
  have HS := Lib.hid hs
  have H1 := Lib.hid h1
  have C1 := Lib.hid (fun W => l01Word_c L v hvm W)
  rw [hwv] at C1
  have C2 := Lib.hid (fun W => l01Word_c L u hum W)
  rw [hwu] at C2
  clear ht hs h1
  go_enter Tryd.func11, Tryd.ntmps11
  go_wp2_with fail
  refine (l01Is_c L n g 0 _ ys hl HS.out _ (by simp; omega) (HT.out.below (below2 w _ _) hb)).mono ?_
  rw [H1.out]
  rintro e w1 ⟨rfl, hb1⟩
  have hB := hb1
  simp only [World.size_alloc] at hB
  obtain ⟨hc, hf⟩ := bcellB hB
  have x0 : w1.cell? ⟨w.heap.size, 0, none⟩ = some (.int .i64 L) := (hc _ _ (by omega)).trans (by go_simp)
  have x1 : w1.cell? ⟨w.heap.size, 1, none⟩ = some (.int .i64 n) := (hc _ _ (by omega)).trans (by go_simp)
  have x2 : w1.cell? ⟨w.heap.size, 2, none⟩ = some (.slice (some ⟨g, 0, none⟩) ys.length ys.length) := (hc _ _ (by omega)).trans (by go_simp)
  have r0 : w1.cell? ⟨w.heap.size + 1, 0, none⟩ = some (.int .i64 0) := (hc _ _ (by omega)).trans (by go_simp)
  have r1 : w1.cell? ⟨w.heap.size + 1, 1, none⟩ = some (.int .i64 0) := (hc _ _ (by omega)).trans (by go_simp)
  have z0 : w1.frozen? ⟨w.heap.size + 1, 0, none⟩ = false := (hf _ _ (by omega)).trans (by go_simp)
  have z1 : w1.frozen? ⟨w.heap.size + 1, 1, none⟩ = false := (hf _ _ (by omega)).trans (by go_simp)
  have hW : Below w.heap.size w w1 := (below2 w _ _).trans (hb1.mono (by simp; omega))
  have hz : w.heap.size + 1 < w1.heap.size := by have := hB.size; simp only [World.size_alloc] at this; omega
  clear hb1 hB hc hf
  go_wp2_with (first
    | (go_at_call 16; (with_reducible refine (C1.out _).mono ?_); rintro e w' ⟨rfl, rfl⟩)
    | (go_at_call 16; (with_reducible refine (C2.out _).mono ?_); rintro e w' ⟨rfl, rfl⟩)
    | fail)
  exact bodyPost_ret (v := .tuple #[.agg #[.int .i64 0, .int .i64 0], .int .i64 2]) (by simp [results, Tryd.results11, go_sem, r0, r1]) rfl ⟨rfl, by go_grown⟩
set_option maxRecDepth 100000 in
set_option maxHeartbeats 4000000 in
theorem sVal_4 (L n : Int) (g : Nat) (ys : List Tm) (hl : ys.length ≤ 1048576) (hs : ∀ i (h : i < ys.length), (ys[i]).s.size ≤ maxLen) (v u : ByteArray) (hv : v.size ≤ 1048576) (hu : u.size ≤ 1048576) (h1 : serB L n ys = true) (hwv : wordB L v.data.toList = true) (hwu : wordB L u.data.toList = true) (hsum : n < (v.size : Int) + (u.size : Int)) (w : World) (hb : g < w.heap.size) (ht : TermsIn w g 0 ys) :
    Calls Tryd.prog 11 #[.agg #[.int .i64 L, .int .i64 n, .slice (some ⟨g, 0, none⟩) ys.length ys.length], .string v, .string u] w (FracPost (0, 0, 2) w) := by
  have hvm : v.size ≤ maxLen := by unfold maxLen; omega
  have hum : u.size ≤ maxLen := by unfold maxLen; omega
  have HT := Lib.hid ht
  have HS := Lib.hid hs
  have H1 := Lib.hid h1
  have C1 := Lib.hid (fun W => l01Word_c L v hvm W)
  rw [hwv] at C1
  have C2 := Lib.hid (fun W => l01Word_c L u hum W)
  rw [hwu] at C2
  clear ht hs h1
  go_enter Tryd.func11, Tryd.ntmps11
  go_wp2_with fail
  refine (l01Is_c L n g 0 _ ys hl HS.out _ (by simp; omega) (HT.out.below (below2 w _ _) hb)).mono ?_
  rw [H1.out]
  rintro e w1 ⟨rfl, hb1⟩
  have hB := hb1
  simp only [World.size_alloc] at hB
  obtain ⟨hc, hf⟩ := bcellB hB
  have x0 : w1.cell? ⟨w.heap.size, 0, none⟩ = some (.int .i64 L) := (hc _ _ (by omega)).trans (by go_simp)
  have x1 : w1.cell? ⟨w.heap.size, 1, none⟩ = some (.int .i64 n) := (hc _ _ (by omega)).trans (by go_simp)
  have x2 : w1.cell? ⟨w.heap.size, 2, none⟩ = some (.slice (some ⟨g, 0, none⟩) ys.length ys.length) := (hc _ _ (by omega)).trans (by go_simp)
  have r0 : w1.cell? ⟨w.heap.size + 1, 0, none⟩ = some (.int .i64 0) := (hc _ _ (by omega)).trans (by go_simp)
  have r1 : w1.cell? ⟨w.heap.size + 1, 1, none⟩ = some (.int .i64 0) := (hc _ _ (by omega)).trans (by go_simp)
  have z0 : w1.frozen? ⟨w.heap.size + 1, 0, none⟩ = false := (hf _ _ (by omega)).trans (by go_simp)
  have z1 : w1.frozen? ⟨w.heap.size + 1, 1, none⟩ = false := (hf _ _ (by omega)).trans (by go_simp)
  have hW : Below w.heap.size w w1 := (below2 w _ _).trans (hb1.mono (by simp; omega))
  have hz : w.heap.size + 1 < w1.heap.size := by have := hB.size; simp only [World.size_alloc] at this; omega
  clear hb1 hB hc hf
  go_wp2_with (first
    | (go_at_call 16; (with_reducible refine (C1.out _).mono ?_); rintro e w' ⟨rfl, rfl⟩)
    | (go_at_call 16; (with_reducible refine (C2.out _).mono ?_); rintro e w' ⟨rfl, rfl⟩)
    | fail)
  exact bodyPost_ret (v := .tuple #[.agg #[.int .i64 0, .int .i64 0], .int .i64 2]) (by simp [results, Tryd.results11, go_sem, r0, r1]) rfl ⟨rfl, by go_grown⟩
set_option maxRecDepth 100000 in
set_option maxHeartbeats 4000000 in
theorem iVal_2 (L n : Int) (g : Nat) (ys : List Tm) (hl : ys.length ≤ 1048576) (hs : ∀ i (h : i < ys.length), (ys[i]).s.size ≤ maxLen) (v u : ByteArray) (hv : v.size ≤ 1048576) (hu : u.size ≤ 1048576) (h1 : serB L n ys = true) (hwv : (decide ((v.size : Int) ≤ n) && wordB L v.data.toList) = false) (w : World) (hb : g < w.heap.size) (ht : TermsIn w g 0 ys) :
    Calls Tryd.prog 13 #[.agg #[.int .i64 L, .int .i64 n, .slice (some ⟨g, 0, none⟩) ys.length ys.length], .string v, .string u] w (FracPost (0, 0, 2) w) := by
  have hvm : v.size ≤ maxLen := by unfold maxLen; omega
  have hum : u.size ≤ maxLen := by unfold maxLen; omega
  have HT := Lib.hid ht
  have HS := Lib.hid hs
  have H1 := Lib.hid h1
  have C1 := Lib.hid (fun W => isWord_c L n v hvm W)
  rw [hwv] at C1
  clear ht hs h1
  go_enter Tryd.func13, Tryd.ntmps13
  go_wp2_with fail
  refine (iIsSeries_c L n g 0 _ ys hl HS.out _ (by simp; omega) (HT.out.below (below2 w _ _) hb)).mono ?_
  rw [H1.out]
  rintro e w1 ⟨rfl, hb1⟩
  have hB := hb1
  simp only [World.size_alloc] at hB
  obtain ⟨hc, hf⟩ := bcellB hB
  have x0 : w1.cell? ⟨w.heap.size, 0, none⟩ = some (.int .i64 L) := (hc _ _ (by omega)).trans (by go_simp)
  have x1 : w1.cell? ⟨w.heap.size, 1, none⟩ = some (.int .i64 n) := (hc _ _ (by omega)).trans (by go_simp)
  have x2 : w1.cell? ⟨w.heap.size, 2, none⟩ = some (.slice (some ⟨g, 0, none⟩) ys.length ys.length) := (hc _ _ (by omega)).trans (by go_simp)
  have r0 : w1.cell? ⟨w.heap.size + 1, 0, none⟩ = some (.int .i64 0) := (hc _ _ (by omega)).trans (by go_simp)
  have r1 : w1.cell? ⟨w.heap.size + 1, 1, none⟩ = some (.int .i64 0) := (hc _ _ (by omega)).trans (by go_simp)
  have z0 : w1.frozen? ⟨w.heap.size + 1, 0, none⟩ = false := (hf _ _ (by omega)).trans (by go_simp)
  have z1 : w1.frozen? ⟨w.heap.size + 1, 1, none⟩ = false := (hf _ _ (by omega)).trans (by go_simp)
  have hW : Below w.heap.size w w1 := (below2 w _ _).trans (hb1.mono (by simp; omega))
  have hz : w.heap.size + 1 < w1.heap.size := by have := hB.size; simp only [World.size_alloc] at this; omega
  clear hb1 hB hc hf
  go_wp2_with (first
    | (go_at_call 20; (with_reducible refine (C1.out _).mono ?_); rintro e w' ⟨rfl, rfl⟩)
    | fail)
  exact bodyPost_ret (v := .tuple #[.agg #[.int .i64 0, .int .i64 0], .int .i64 2]) (by simp [results, Tryd.results13, go_sem, r0, r1]) rfl ⟨rfl, by go_grown⟩
set_option maxRecDepth 100000 in
set_option maxHeartbeats 4000000 in
theorem iVal_3 (L n : Int) (g : Nat) (ys : List Tm) (hl : ys.length ≤ 1048576) (hs : ∀ i (h : i < ys.length), (ys[i]).s.size ≤ maxLen) (v u : ByteArray) (hv : v.size ≤ 1048576) (hu : u.size ≤ 1048576) (h1 : serB L n ys = true) (hwv : (decide ((v.size : Int) ≤ n) && wordB L v.data.toList) = true) (hwu : (decide ((u.size : Int) ≤ n) && wordB L u.data.toList) = false) (w : World) (hb : g < w.heap.size) (ht : TermsIn w g 0 ys) :
    Calls Tryd.prog 13 #[.agg #[.int .i64 L, .int .i64 n, .slice (some ⟨g, 0, none⟩) ys.length ys.length], .string v, .string u] w (FracPost (0, 0, 2) w) := by
  have hvm : v.size ≤ maxLen := by unfold maxLen; omega
  have hum : u.size ≤ maxLen := by unfold maxLen; omega
  have HT := Lib.hid ht
  have HS := Lib.hid hs
  have H1 := Lib.hid h1
  have C1 := Lib.hid (fun W => isWord_c L n v hvm W)
  rw [hwv] at C1
  have C2 := Lib.hid (fun W => isWord_c L n u hum W)
  rw [hwu] at C2
  clear ht hs h1
  go_enter Tryd.func13, Tryd.ntmps13
  go_wp2_with fail
  refine (iIsSeries_c L n g 0 _ ys hl HS.out _ (by simp; omega) (HT.out.below (below2 w _ _) hb)).mono ?_
  rw [H1.out]
  rintro e w1 ⟨rfl, hb1⟩
  have hB := hb1
  simp only [World.size_alloc] at hB
  obtain ⟨hc, hf⟩ := bcellB hB
  have x0 : w1.cell? ⟨w.heap.size, 0, none⟩ = some (.int .i64 L) := (hc _ _ (by omega)).trans (by go_simp)
  have x1 : w1.cell? ⟨w.heap.size, 1, none⟩ = some (.int .i64 n) := (hc _ _ (by omega)).trans (by go_simp)
  have x2 : w1.cell? ⟨w.heap.size, 2, none⟩ = some (.slice (some ⟨g, 0, none⟩) ys.length ys.length) := (hc _ _ (by omega)).trans (by go_simp)
  have r0 : w1.cell? ⟨w.heap.size + 1, 0, none⟩ = some (.int .i64 0) := (hc _ _ (by omega)).trans (by go_simp)
  have r1 : w1.cell? ⟨w.heap.size + 1, 1, none⟩ = some (.int .i64 0) := (hc _ _ (by omega)).trans (by go_simp)
  have z0 : w1.frozen? ⟨w.heap.size + 1, 0, none⟩ = false := (hf _ _ (by omega)).trans (by go_simp)
  have z1 : w1.frozen? ⟨w.heap.size + 1, 1, none⟩ = false := (hf _ _ (by omega)).trans (by go_simp)
  have hW : Below w.heap.size w w1 := (below2 w _ _).trans (hb1.mono (by simp; omega))
  have hz : w.heap.size + 1 < w1.heap.size := by have := hB.size; simp only [World.size_alloc] at this; omega
  clear hb1 hB hc hf
  go_wp2_with (first
    | (go_at_call 20; (with_reducible refine (C1.out _).mono ?_); rintro e w' ⟨rfl, rfl⟩)
    | (go_at_call 20; (with_reducible refine (C2.out _).mono ?_); rintro e w' ⟨rfl, rfl⟩)
    | fail)
  exact bodyPost_ret (v := .tuple #[.agg #[.int .i64 0, .int .i64 0], .int .i64 2]) (by simp [results, Tryd.results13, go_sem, r0, r1]) rfl ⟨rfl, by go_grown⟩
set_option maxRecDepth 100000 in
set_option maxHeartbeats 4000000 in
theorem iVal_4 (L n : Int) (g : Nat) (ys : List Tm) (hl : ys.length ≤ 1048576) (hs : ∀ i (h : i < ys.length), (ys[i]).s.size ≤ maxLen) (v u : ByteArray) (hv : v.size ≤ 1048576) (hu : u.size ≤ 1048576) (h1 : serB L n ys = true) (hwv : (decide ((v.size : Int) ≤ n) && wordB L v.data.toList) = true) (hwu : (decide ((u.size : Int) ≤ n) && wordB L u.data.toList) = true) (hsum : n < (v.size : Int) + (u.size : Int)) (w : World) (hb : g < w.heap.size) (ht : TermsIn w g 0 ys) :
    Calls Tryd.prog 13 #[.agg #[.int .i64 L, .int .i64 n, .slice (some ⟨g, 0, none⟩) ys.length ys.length], .string v, .string u] w (FracPost (0, 0, 2) w) := by
  have hvm : v.size ≤ maxLen := by unfold maxLen; omega
  have hum : u.size ≤ maxLen := by unfold maxLen; omega
  have HT := Lib.hid ht
  have HS := Lib.hid hs
  have H1 := Lib.hid h1
  have C1 := Lib.hid (fun W => isWord_c L n v hvm W)
  rw [hwv] at C1
  have C2 := Lib.hid (fun W => isWord_c L n u hum W)
  rw [hwu] at C2
  have C3 := Lib.hid (fun W => areWithin_c n v u hv hu W)
  rw [show decide ((v.size : Int) + (u.size : Int) ≤ n) = false from by simpa using hsum] at C3
  clear ht hs h1 hsum
  go_enter Tryd.func13, Tryd.ntmps13
  go_wp2_with fail
  refine (iIsSeries_c L n g 0 _ ys hl HS.out _ (by simp; omega) (HT.out.below (below2 w _ _) hb)).mono ?_
  rw [H1.out]
  rintro e w1 ⟨rfl, hb1⟩
  have hB := hb1
  simp only [World.size_alloc] at hB
  obtain ⟨hc, hf⟩ := bcellB hB
  have x0 : w1.cell? ⟨w.heap.size, 0, none⟩ = some (.int .i64 L) := (hc _ _ (by omega)).trans (by go_simp)
  have x1 : w1.cell? ⟨w.heap.size, 1, none⟩ = some (.int .i64 n) := (hc _ _ (by omega)).trans (by go_simp)
  have x2 : w1.cell? ⟨w.heap.size, 2, none⟩ = some (.slice (some ⟨g, 0, none⟩) ys.length ys.length) := (hc _ _ (by omega)).trans (by go_simp)
  have r0 : w1.cell? ⟨w.heap.size + 1, 0, none⟩ = some (.int .i64 0) := (hc _ _ (by omega)).trans (by go_simp)
  have r1 : w1.cell? ⟨w.heap.size + 1, 1, none⟩ = some (.int .i64 0) := (hc _ _ (by omega)).trans (by go_simp)
  have z0 : w1.frozen? ⟨w.heap.size + 1, 0, none⟩ = false := (hf _ _ (by omega)).trans (by go_simp)
  have z1 : w1.frozen? ⟨w.heap.size + 1, 1, none⟩ = false := (hf _ _ (by omega)).trans (by go_simp)
  have hW : Below w.heap.size w w1 := (below2 w _ _).trans (hb1.mono (by simp; omega))
  have hz : w.heap.size + 1 < w1.heap.size := by have := hB.size; simp only [World.size_alloc] at this; omega
  clear hb1 hB hc hf
  go_wp2_with (first
    | (go_at_call 20; (with_reducible refine (C1.out _).mono ?_); rintro e w' ⟨rfl, rfl⟩)
    | (go_at_call 20; (with_reducible refine (C2.out _).mono ?_); rintro e w' ⟨rfl, rfl⟩)
    | (go_at_call 21; (with_reducible refine (C3.out _).mono ?_); rintro e w' ⟨rfl, hww⟩; obtain rfl := hww.symm)
    | fail)
  exact bodyPost_ret (v := .tuple #[.agg #[.int .i64 0, .int .i64 0], .int .i64 2]) (by simp [results, Tryd.results13, go_sem, r0, r1]) rfl ⟨rfl, by go_grown⟩
set_option maxRecDepth 100000 in
set_option maxHeartbeats 4000000 in
theorem sVal_5 (D : Nat) (n : Int) (g : Nat) (ys : List Tm) (hl : ys.length ≤ 1048576) (hs : ∀ i (h : i < ys.length), (ys[i]).s.size ≤ maxLen) (v u : ByteArray) (hv : v.size ≤ 1048576) (hu : u.size ≤ 1048576) (h1 : serB (D : Int) n ys = true) (hwv : wordB (D : Int) v.data.toList = true) (hwu : wordB (D : Int) u.data.toList = true) (hsum : (v.size : Int) + (u.size : Int) ≤ n) (w : World) (hb : g < w.heap.size) (ht : TermsIn w g 0 ys) :
    Calls Tryd.prog 11 #[.agg #[.int .i64 D, .int .i64 n, .slice (some ⟨g, 0, none⟩) ys.length ys.length], .string v, .string u] w (FracPost (pairC (pairL ys (shL D v u) (0, 1))) w) := by
  have hvm : v.size ≤ maxLen := by unfold maxLen; omega
  have hum : u.size ≤ maxLen := by unfold maxLen; omega
  have HT := Lib.hid ht
  have HS := Lib.hid hs
  have H1 := Lib.hid h1
  have hvu : v.size + u.size ≤ 5 := by have hsh := shape_out (show shapeB (D : Int) n = true from by have h := h1; unfold serB at h; rw [Bool.and_eq_true] at h; exact h.1); omega
  have C1 := Lib.hid (fun W => l01Word_c (D : Int) v hvm W)
  rw [hwv] at C1
  have C2 := Lib.hid (fun W => l01Word_c (D : Int) u hum W)
  rw [hwu] at C2
  have hns : ¬ n < (v.size : Int) + (u.size : Int) := by omega
  clear ht hs h1 hsum
  go_enter Tryd.func11, Tryd.ntmps11
  go_wp2_with fail
  refine (l01Is_c (D : Int) n g 0 _ ys hl HS.out _ (by simp; omega) (HT.out.below (below2 w _ _) hb)).mono ?_
  rw [H1.out]
  rintro e w1 ⟨rfl, hb1⟩
  have hB := hb1
  simp only [World.size_alloc] at hB
  obtain ⟨hc, hf⟩ := bcellB hB
  have x0 : w1.cell? ⟨w.heap.size, 0, none⟩ = some (.int .i64 D) := (hc _ _ (by omega)).trans (by go_simp)
  have x1 : w1.cell? ⟨w.heap.size, 1, none⟩ = some (.int .i64 n) := (hc _ _ (by omega)).trans (by go_simp)
  have x2 : w1.cell? ⟨w.heap.size, 2, none⟩ = some (.slice (some ⟨g, 0, none⟩) ys.length ys.length) := (hc _ _ (by omega)).trans (by go_simp)
  have r0 : w1.cell? ⟨w.heap.size + 1, 0, none⟩ = some (.int .i64 0) := (hc _ _ (by omega)).trans (by go_simp)
  have r1 : w1.cell? ⟨w.heap.size + 1, 1, none⟩ = some (.int .i64 0) := (hc _ _ (by omega)).trans (by go_simp)
  have z0 : w1.frozen? ⟨w.heap.size + 1, 0, none⟩ = false := (hf _ _ (by omega)).trans (by go_simp)
  have z1 : w1.frozen? ⟨w.heap.size + 1, 1, none⟩ = false := (hf _ _ (by omega)).trans (by go_simp)
  have hW : Below w.heap.size w w1 := (below2 w _ _).trans (hb1.mono (by simp; omega))
  have hz : w.heap.size + 1 < w1.heap.size := by have := hB.size; simp only [World.size_alloc] at this; omega
  clear hb1 hB hc hf
  go_wp2_with (first
    | (go_at_call 16; (with_reducible refine (C1.out _).mono ?_); rintro e w' ⟨rfl, rfl⟩)
    | (go_at_call 16; (with_reducible refine (C2.out _).mono ?_); rintro e w' ⟨rfl, rfl⟩)
    | fail)
  have HW := Lib.hid hW
  have hg1 : g < w1.heap.size := by omega
  refine (l03At_c D n g ys.length ys hl H1.out v u hvu w1 hg1 (HT.out.below hW hb)).mono ?_
  rintro e w2 ⟨rfl, hb2⟩
  have bc := bcellB hb2
  have s0 := (bc.1 _ _ hz).trans r0
  have s1 := (bc.1 _ _ hz).trans r1
  have y0 := (bc.2 _ _ hz).trans z0
  have y1 := (bc.2 _ _ hz).trans z1
  have HW2 := Lib.hid (HW.out.trans (hb2.mono (by omega)))
  have hz2 : w.heap.size + 1 < w2.heap.size := Nat.lt_of_lt_of_le hz hb2.size
  clear bc hb2 r0 r1 z0 z1 x0 x1 x2 hW hz
  cases hr : pairL ys (shL D v u) (0, 1) with
  | none =>
    simp only [pairR]
    go_wp2_with fail
    refine (l01Told_no 0 0 _).mono ?_
    rintro e w3 ⟨rfl, hb3⟩
    have bc := bcellB hb3
    have u0 := (bc.1 _ _ hz2).trans s0
    have u1 := (bc.1 _ _ hz2).trans s1
    have v0 := (bc.2 _ _ hz2).trans y0
    have v1 := (bc.2 _ _ hz2).trans y1
    have hW3 := HW2.out.trans (hb3.mono (by omega))
    have hz3 : w.heap.size + 1 < w3.heap.size := Nat.lt_of_lt_of_le hz2 hb3.size
    clear bc hb3 s0 s1 y0 y1 hz2
    go_wp2
    exact bodyPost_ret (v := .tuple #[.agg #[.int .i64 0, .int .i64 0], .int .i64 3]) (by simp [results, Tryd.results11, go_sem, u0, u1]) rfl ⟨by rw [hr]; rfl, by go_grown⟩
  | some r =>
    obtain ⟨a, b⟩ := r
    simp only [pairR]
    go_wp2_with fail
    refine (l01Told_yes a b _).mono ?_
    rintro e w3 ⟨rfl, hb3⟩
    have bc := bcellB hb3
    have u0 := (bc.1 _ _ hz2).trans s0
    have u1 := (bc.1 _ _ hz2).trans s1
    have v0 := (bc.2 _ _ hz2).trans y0
    have v1 := (bc.2 _ _ hz2).trans y1
    have hW3 := HW2.out.trans (hb3.mono (by omega))
    have hz3 : w.heap.size + 1 < w3.heap.size := Nat.lt_of_lt_of_le hz2 hb3.size
    clear bc hb3 s0 s1 y0 y1 hz2
    go_wp2
    exact bodyPost_ret (v := .tuple #[.agg #[.int .i64 a, .int .i64 b], .int .i64 0]) (by simp [results, Tryd.results11, go_sem, u0, u1]) rfl ⟨by rw [hr]; rfl, by go_grown⟩
set_option maxRecDepth 100000 in
set_option maxHeartbeats 4000000 in
theorem iVal_5 (D : Nat) (n : Int) (g : Nat) (ys : List Tm) (hl : ys.length ≤ 1048576) (hs : ∀ i (h : i < ys.length), (ys[i]).s.size ≤ maxLen) (v u : ByteArray) (hv : v.size ≤ 1048576) (hu : u.size ≤ 1048576) (h1 : serB (D : Int) n ys = true) (hwv : wordB (D : Int) v.data.toList = true) (hwu : wordB (D : Int) u.data.toList = true) (hsum : (v.size : Int) + (u.size : Int) ≤ n) (w : World) (hb : g < w.heap.size) (ht : TermsIn w g 0 ys) :
    Calls Tryd.prog 13 #[.agg #[.int .i64 D, .int .i64 n, .slice (some ⟨g, 0, none⟩) ys.length ys.length], .string v, .string u] w (FracPost (pairC (pairL ys (shL D v u) (0, 1))) w) := by
  have hvm : v.size ≤ maxLen := by unfold maxLen; omega
  have hum : u.size ≤ maxLen := by unfold maxLen; omega
  have HT := Lib.hid ht
  have HS := Lib.hid hs
  have H1 := Lib.hid h1
  have hvu : v.size + u.size ≤ 5 := by have hsh := shape_out (show shapeB (D : Int) n = true from by have h := h1; unfold serB at h; rw [Bool.and_eq_true] at h; exact h.1); omega
  have HV := Lib.hid hwv
  have HU := Lib.hid hwu
  have C1 := Lib.hid (fun W => isWord_c (D : Int) n v hvm W)
  rw [show (decide ((v.size : Int) ≤ n) && wordB (D : Int) v.data.toList) = true from by rw [hwv]; simp; omega] at C1
  have C2 := Lib.hid (fun W => isWord_c (D : Int) n u hum W)
  rw [show (decide ((u.size : Int) ≤ n) && wordB (D : Int) u.data.toList) = true from by rw [hwu]; simp; omega] at C2
  have C3 := Lib.hid (fun W => areWithin_c n v u hv hu W)
  rw [show decide ((v.size : Int) + (u.size : Int) ≤ n) = true from by simpa using hsum] at C3
  clear ht hs h1 hsum hwv hwu
  go_enter Tryd.func13, Tryd.ntmps13
  go_wp2_with fail
  refine (iIsSeries_c (D : Int) n g 0 _ ys hl HS.out _ (by simp; omega) (HT.out.below (below2 w _ _) hb)).mono ?_
  rw [H1.out]
  rintro e w1 ⟨rfl, hb1⟩
  have hB := hb1
  simp only [World.size_alloc] at hB
  obtain ⟨hc, hf⟩ := bcellB hB
  have x0 : w1.cell? ⟨w.heap.size, 0, none⟩ = some (.int .i64 D) := (hc _ _ (by omega)).trans (by go_simp)
  have x1 : w1.cell? ⟨w.heap.size, 1, none⟩ = some (.int .i64 n) := (hc _ _ (by omega)).trans (by go_simp)
  have x2 : w1.cell? ⟨w.heap.size, 2, none⟩ = some (.slice (some ⟨g, 0, none⟩) ys.length ys.length) := (hc _ _ (by omega)).trans (by go_simp)
  have r0 : w1.cell? ⟨w.heap.size + 1, 0, none⟩ = some (.int .i64 0) := (hc _ _ (by omega)).trans (by go_simp)
  have r1 : w1.cell? ⟨w.heap.size + 1, 1, none⟩ = some (.int .i64 0) := (hc _ _ (by omega)).trans (by go_simp)
  have z0 : w1.frozen? ⟨w.heap.size + 1, 0, none⟩ = false := (hf _ _ (by omega)).trans (by go_simp)
  have z1 : w1.frozen? ⟨w.heap.size + 1, 1, none⟩ = false := (hf _ _ (by omega)).trans (by go_simp)
  have hW : Below w.heap.size w w1 := (below2 w _ _).trans (hb1.mono (by simp; omega))
  have hz : w.heap.size + 1 < w1.heap.size := by have := hB.size; simp only [World.size_alloc] at this; omega
  clear hb1 hB hc hf
  go_wp2_with (first
    | (go_at_call 20; (with_reducible refine (C1.out _).mono ?_); rintro e w' ⟨rfl, rfl⟩)
    | (go_at_call 20; (with_reducible refine (C2.out _).mono ?_); rintro e w' ⟨rfl, rfl⟩)
    | (go_at_call 21; (with_reducible refine (C3.out _).mono ?_); rintro e w' ⟨rfl, hww⟩; obtain rfl := hww.symm)
    | fail)
  have HW := Lib.hid hW
  have hg1 : g < w1.heap.size := by omega
  refine (valuesOf_c (D : Int) n (some ⟨g, 0, none⟩) ys.length ys hl HS.out w1 (.inr ⟨g, 0, rfl, hg1, HT.out.below hW hb⟩)).mono ?_
  rintro e w2 ⟨mb, rfl, hmb, hb2, hM⟩
  have bc := bcellB hb2
  have r0 := (bc.1 _ _ hz).trans r0
  have r1 := (bc.1 _ _ hz).trans r1
  have z0 := (bc.2 _ _ hz).trans z0
  have z1 := (bc.2 _ _ hz).trans z1
  have HW2 := Lib.hid (HW.out.trans (hb2.mono (by omega)))
  have hz2 : w.heap.size + 1 < w2.heap.size := Nat.lt_of_lt_of_le hz hb2.size
  have HA := Lib.hid (atShuffle_c D n ys hl H1.out v u hvu HV.out HU.out mb ys.length w2 hM)
  clear bc hb2 hM x0 x1 x2 hW hz hmb
  obtain ⟨⟨t1, t2, t3⟩, hr⟩ : ∃ t, pairC (pairL ys (shL D v u) (0, 1)) = t := ⟨_, rfl⟩
  rw [hr] at HA
  have HR := Lib.hid hr
  clear hr
  go_wp2_with fail
  refine HA.out.mono ?_
  rintro e w3 ⟨rfl, hb3⟩
  have bc := bcellB hb3
  have u0 := (bc.1 _ _ hz2).trans r0
  have u1 := (bc.1 _ _ hz2).trans r1
  have v0 := (bc.2 _ _ hz2).trans z0
  have v1 := (bc.2 _ _ hz2).trans z1
  have hW3 := HW2.out.trans (hb3.mono (by omega))
  have hz3 : w.heap.size + 1 < w3.heap.size := Nat.lt_of_lt_of_le hz2 hb3.size
  clear bc hb3 r0 r1 z0 z1 hz2
  go_wp2
  exact bodyPost_ret (v := .tuple #[.agg #[.int .i64 t1, .int .i64 t2], .int .i64 t3]) (by simp [results, Tryd.results13, go_sem, u0, u1]) rfl ⟨by rw [HR.out], by go_grown⟩
end Go.Proofs.YteljpgoaaelbfaaDoor
