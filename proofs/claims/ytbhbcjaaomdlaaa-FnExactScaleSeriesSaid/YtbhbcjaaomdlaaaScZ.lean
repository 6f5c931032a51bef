/-
  The model's l01Scale by nought: no term.
-/
import Derived.Test.YtbhbcjaaomdlaaaScT
namespace Go.Proofs.Ytbhbcjaaomdlaaa
open Go.RowKit

set_option maxRecDepth 100000 in
set_option maxHeartbeats 4000000 in
theorem l01Scale_n (L V q : Int) (b off cap : Nat) (ts : List Tm) (w : World) :
    Calls Try.prog 31 #[.agg #[.int .i64 L, .int .i64 V, .slice (some ⟨b, off, none⟩) ts.length cap], .agg #[.int .i64 0, .int .i64 q]] w (ScPost L V (some []) w) := by
  go_enter Try.func31, Try.ntmps31
  go_wp2_with fail
  refine (l01Empty_c L V _ rfl _).mono ?_
  rintro e w1 ⟨g1, rfl, hO, hb1⟩
  have hz1 : w.heap.size + 1 + 1 < w1.heap.size := by have := hb1.size; simp at this; omega
  have HO := Lib.hid (show OwnT w1 (w.heap.size + 1 + 1 + 1) (.slice (some ⟨g1, 0, none⟩) 0 0) [] from by simpa using hO)
  have HB := Lib.hid (show Below (w.heap.size + 1 + 1 + 1) _ w1 from by simpa using hb1)
  have HBl := Lib.hid (Blk.new w1 28 #[.int .i64 L, .int .i64 V, .slice (some ⟨g1, 0, none⟩) 0 0])
  have HO1 := Lib.hid (HO.out.alloc (.cells #[.int .i64 L, .int .i64 V, .slice (some ⟨g1, 0, none⟩) 0 0] 28))
  clear hb1 hO
  go_wp2_with fail
  go_loopw [7] (fun vi wr => vi = .int .i64 0 ∧ w1.heap.size < wr.heap.size ∧ Blk wr w1.heap.size 28 #[.int .i64 L, .int .i64 V, .slice (some ⟨g1, 0, none⟩) 0 0] ∧ OwnT wr (w.heap.size + 1 + 1 + 1) (.slice (some ⟨g1, 0, none⟩) 0 0) [] ∧ Below (w.heap.size + 1 + 1 + 1) (((w.alloc (.cells #[.int .i64 L, .int .i64 V, .slice (some ⟨b, off, none⟩) ts.length cap] 28)).alloc (.cells #[.int .i64 0, .int .i64 q] 38)).alloc (.cells #[.int .i64 0, .int .i64 0, .slice none 0 0] 28)) wr) (fun _ _ => 0)
  case atStart => exact ⟨rfl, by simp, HBl.out, HO1.out, HB.out.alloc (by omega) _⟩
  case round =>
    obtain ⟨rfl, hzr, hBl, hO, hB⟩ := hrel
    have HBlr := Lib.hid hBl
    have HOr := Lib.hid hO
    have HBr := Lib.hid hB
    have bc := bcellB hB
    have x2 : wr.cell? ⟨w.heap.size, 2, none⟩ = some (.slice (some ⟨b, off, none⟩) ts.length cap) := (bc.1 _ _ (by omega)).trans (by go_simp)
    have y0 : wr.cell? ⟨w.heap.size + 1, 0, none⟩ = some (.int .i64 0) := (bc.1 _ _ (by omega)).trans (by go_simp)
    have y1 : wr.cell? ⟨w.heap.size + 1, 1, none⟩ = some (.int .i64 q) := (bc.1 _ _ (by omega)).trans (by go_simp)
    clear hBl hO hB bc
    by_cases hlt : 0 < ts.length
    · have hl0 : (0 : Int) < (ts.length : Int) := by omega
      go_wp2_with fail
      refine (l01Zero_c _ _ _).mono ?_
      rintro e wy ⟨rfl, hby⟩
      have hz4 := hby.size
      have HBly := Lib.hid (HBlr.out.below hby hzr)
      have HOy := Lib.hid (HOr.out.below hby (fun g h => (HOr.out.lt g h).2))
      have HBy := Lib.hid (HBr.out.trans (hby.mono (by omega)))
      have hz5 : w.heap.size + 1 + 1 < wy.heap.size := by omega
      clear hby
      have n0 : wy.cell? ⟨w1.heap.size, 0, none⟩ = some (.int .i64 L) := HBly.out.cell 0
      have n1 : wy.cell? ⟨w1.heap.size, 1, none⟩ = some (.int .i64 V) := HBly.out.cell 1
      have n2 : wy.cell? ⟨w1.heap.size, 2, none⟩ = some (.slice (some ⟨g1, 0, none⟩) 0 0) := HBly.out.cell 2
      have bc := bcellB HBy.out
      have r0 : wy.cell? ⟨w.heap.size + 1 + 1, 0, none⟩ = some (.int .i64 0) := (bc.1 _ _ (by omega)).trans (by go_simp)
      have r1 : wy.cell? ⟨w.heap.size + 1 + 1, 1, none⟩ = some (.int .i64 0) := (bc.1 _ _ (by omega)).trans (by go_simp)
      have r2 : wy.cell? ⟨w.heap.size + 1 + 1, 2, none⟩ = some (.slice none 0 0) := (bc.1 _ _ (by omega)).trans (by go_simp)
      have z0 : wy.frozen? ⟨w.heap.size + 1 + 1, 0, none⟩ = false := (bc.2 _ _ (by omega)).trans (by go_simp)
      have z1 : wy.frozen? ⟨w.heap.size + 1 + 1, 1, none⟩ = false := (bc.2 _ _ (by omega)).trans (by go_simp)
      have z2 : wy.frozen? ⟨w.heap.size + 1 + 1, 2, none⟩ = false := (bc.2 _ _ (by omega)).trans (by go_simp)
      have HW := Lib.hid ((below3 w _ _ _).trans (HBy.out.mono (by omega)))
      clear bc
      go_wp2
      have hO3 := ((HOy.out.far (p := ⟨w.heap.size + 1 + 1, 0, none⟩) (own_far HOy.out (n := w.heap.size + 1 + 1) (by omega)) (.int .i64 L)).far (p := ⟨w.heap.size + 1 + 1, 1, none⟩) (own_far HOy.out (n := w.heap.size + 1 + 1) (by omega)) (.int .i64 V)).far (p := ⟨w.heap.size + 1 + 1, 2, none⟩) (own_far HOy.out (n := w.heap.size + 1 + 1) (by omega)) (.slice (some ⟨g1, 0, none⟩) 0 0)
      obtain ⟨a', c', he, hle, hNr⟩ := hO3.newRow
      injection he with e1 e2 e3
      subst e1 e3
      refine bodyPost_ret (v := .tuple #[.agg #[.int .i64 L, .int .i64 V, .slice (some ⟨g1, 0, none⟩) 0 0], .bool true]) (by simp [results, Try.results31, go_sem, r0, r1, r2]) rfl ⟨some ⟨g1, 0, none⟩, 0, rfl, ?_, hNr.mono (by omega) (Nat.le_refl _)⟩
      have := HW.out
      go_grown
    · have hl0 : ts.length = 0 := by omega
      have hl1 : ¬ (0 : Int) < (ts.length : Int) := by omega
      have HBly := HBlr
      have HOy := HOr
      have HBy := HBr
      have hz5 : w.heap.size + 1 + 1 < wr.heap.size := by omega
      have n0 : wr.cell? ⟨w1.heap.size, 0, none⟩ = some (.int .i64 L) := HBly.out.cell 0
      have n1 : wr.cell? ⟨w1.heap.size, 1, none⟩ = some (.int .i64 V) := HBly.out.cell 1
      have n2 : wr.cell? ⟨w1.heap.size, 2, none⟩ = some (.slice (some ⟨g1, 0, none⟩) 0 0) := HBly.out.cell 2
      have bc := bcellB HBy.out
      have r0 : wr.cell? ⟨w.heap.size + 1 + 1, 0, none⟩ = some (.int .i64 0) := (bc.1 _ _ (by omega)).trans (by go_simp)
      have r1 : wr.cell? ⟨w.heap.size + 1 + 1, 1, none⟩ = some (.int .i64 0) := (bc.1 _ _ (by omega)).trans (by go_simp)
      have r2 : wr.cell? ⟨w.heap.size + 1 + 1, 2, none⟩ = some (.slice none 0 0) := (bc.1 _ _ (by omega)).trans (by go_simp)
      have z0 : wr.frozen? ⟨w.heap.size + 1 + 1, 0, none⟩ = false := (bc.2 _ _ (by omega)).trans (by go_simp)
      have z1 : wr.frozen? ⟨w.heap.size + 1 + 1, 1, none⟩ = false := (bc.2 _ _ (by omega)).trans (by go_simp)
      have z2 : wr.frozen? ⟨w.heap.size + 1 + 1, 2, none⟩ = false := (bc.2 _ _ (by omega)).trans (by go_simp)
      have HW := Lib.hid ((below3 w _ _ _).trans (HBy.out.mono (by omega)))
      clear bc
      go_wp2
      have hO3 := ((HOy.out.far (p := ⟨w.heap.size + 1 + 1, 0, none⟩) (own_far HOy.out (n := w.heap.size + 1 + 1) (by omega)) (.int .i64 L)).far (p := ⟨w.heap.size + 1 + 1, 1, none⟩) (own_far HOy.out (n := w.heap.size + 1 + 1) (by omega)) (.int .i64 V)).far (p := ⟨w.heap.size + 1 + 1, 2, none⟩) (own_far HOy.out (n := w.heap.size + 1 + 1) (by omega)) (.slice (some ⟨g1, 0, none⟩) 0 0)
      obtain ⟨a', c', he, hle, hNr⟩ := hO3.newRow
      injection he with e1 e2 e3
      subst e1 e3
      refine bodyPost_ret (v := .tuple #[.agg #[.int .i64 L, .int .i64 V, .slice (some ⟨g1, 0, none⟩) 0 0], .bool true]) (by simp [results, Try.results31, go_sem, r0, r1, r2]) rfl ⟨some ⟨g1, 0, none⟩, 0, rfl, ?_, hNr.mono (by omega) (Nat.le_refl _)⟩
      have := HW.out
      go_grown
end Go.Proofs.Ytbhbcjaaomdlaaa
