/-
  The model's fresh desk.
-/
import Derived.Test.YtjjkkaikinjmdaaDesk0
namespace Go.Proofs.Ytjjkkaikinjmdaa
open Go.RowKit

/-- a cell that holds an empty list -/
def isSl0 : Option Value → Bool
  | some (.slice _ n _) => n == 0
  | _ => false
theorem isSl0_out : ∀ {o : Option Value}, isSl0 o = true → ∃ a c, o = some (.slice a 0 c)
  | some (.slice a n c), h => by
    obtain rfl : n = 0 := by simpa [isSl0] using h
    exact ⟨a, c, rfl⟩
/-- where the model's desk stands behind its only region -/
def FCut (L V : Int) (n : Nat) (w wy : World) : Prop :=
  Below w.heap.size w wy ∧ wy.cell? ⟨n, 0, none⟩ = some (.int .i64 L) ∧ wy.cell? ⟨n, 1, none⟩ = some (.int .i64 V) ∧ isSl0 (wy.cell? ⟨n, 2, none⟩) = true ∧ wy.cell? ⟨n, 3, none⟩ = some (.int .i64 L) ∧ wy.cell? ⟨n, 4, none⟩ = some (.int .i64 V) ∧ isSl0 (wy.cell? ⟨n, 5, none⟩) = true ∧ isSl0 (wy.cell? ⟨n, 6, none⟩) = true
set_option maxRecDepth 100000 in
set_option maxHeartbeats 4000000 in
theorem l11Fresh_c (L V : Int) (w : World) : Calls Try.prog 40 #[.int .i64 L, .int .i64 V] w (Desk0Post L V w) := by
  go_enter Try.func40, Try.ntmps40
  go_wp2_with fail
  go_upto_region 2 with fail
  obtain ⟨w9, hw9⟩ : ∃ w9 : World, w9 = (w.alloc (.cells #[.int .i64 0, .int .i64 0, .slice none 0 0, .int .i64 0, .int .i64 0, .slice none 0 0, .slice none 0 0] 35)).alloc (.cells #[.int .i64 L, .int .i64 V, .slice none 0 0] 32) := ⟨_, rfl⟩
  have hz9 : w9.heap.size = w.heap.size + 2 := by rw [hw9]; simp
  have hB9 : Below w.heap.size w w9 := by rw [hw9]; exact below2 _ _ _
  have s0 : w9.cell? ⟨w.heap.size + 1, 0, none⟩ = some (.int .i64 L) := by rw [hw9]; go_simp
  have s1 : w9.cell? ⟨w.heap.size + 1, 1, none⟩ = some (.int .i64 V) := by rw [hw9]; go_simp
  have s2 : w9.cell? ⟨w.heap.size + 1, 2, none⟩ = some (.slice none 0 0) := by rw [hw9]; go_simp
  have r0 : w9.cell? ⟨w.heap.size, 0, none⟩ = some (.int .i64 0) := by rw [hw9]; go_simp
  have z0 : w9.frozen? ⟨w.heap.size, 0, none⟩ = false := by rw [hw9]; go_simp
  have r1 : w9.cell? ⟨w.heap.size, 1, none⟩ = some (.int .i64 0) := by rw [hw9]; go_simp
  have z1 : w9.frozen? ⟨w.heap.size, 1, none⟩ = false := by rw [hw9]; go_simp
  have r2 : w9.cell? ⟨w.heap.size, 2, none⟩ = some (.slice none 0 0) := by rw [hw9]; go_simp
  have z2 : w9.frozen? ⟨w.heap.size, 2, none⟩ = false := by rw [hw9]; go_simp
  have r3 : w9.cell? ⟨w.heap.size, 3, none⟩ = some (.int .i64 0) := by rw [hw9]; go_simp
  have z3 : w9.frozen? ⟨w.heap.size, 3, none⟩ = false := by rw [hw9]; go_simp
  have r4 : w9.cell? ⟨w.heap.size, 4, none⟩ = some (.int .i64 0) := by rw [hw9]; go_simp
  have z4 : w9.frozen? ⟨w.heap.size, 4, none⟩ = false := by rw [hw9]; go_simp
  have r5 : w9.cell? ⟨w.heap.size, 5, none⟩ = some (.slice none 0 0) := by rw [hw9]; go_simp
  have z5 : w9.frozen? ⟨w.heap.size, 5, none⟩ = false := by rw [hw9]; go_simp
  have r6 : w9.cell? ⟨w.heap.size, 6, none⟩ = some (.slice none 0 0) := by rw [hw9]; go_simp
  have z6 : w9.frozen? ⟨w.heap.size, 6, none⟩ = false := by rw [hw9]; go_simp
  have KS := Lib.hid (show ∀ w', Below w9.heap.size w9 w' → (w'.cell? ⟨w.heap.size + 1, 0, none⟩ = some (.int .i64 L) ∧ w'.cell? ⟨w.heap.size + 1, 1, none⟩ = some (.int .i64 V) ∧ w'.cell? ⟨w.heap.size + 1, 2, none⟩ = some (.slice none 0 0) ∧ w'.cell? ⟨w.heap.size, 0, none⟩ = some (.int .i64 0) ∧ w'.cell? ⟨w.heap.size, 1, none⟩ = some (.int .i64 0) ∧ w'.cell? ⟨w.heap.size, 2, none⟩ = some (.slice none 0 0) ∧ w'.cell? ⟨w.heap.size, 3, none⟩ = some (.int .i64 0) ∧ w'.cell? ⟨w.heap.size, 4, none⟩ = some (.int .i64 0) ∧ w'.cell? ⟨w.heap.size, 5, none⟩ = some (.slice none 0 0) ∧ w'.cell? ⟨w.heap.size, 6, none⟩ = some (.slice none 0 0) ∧ w'.frozen? ⟨w.heap.size, 0, none⟩ = false ∧ w'.frozen? ⟨w.heap.size, 1, none⟩ = false ∧ w'.frozen? ⟨w.heap.size, 2, none⟩ = false ∧ w'.frozen? ⟨w.heap.size, 3, none⟩ = false ∧ w'.frozen? ⟨w.heap.size, 4, none⟩ = false ∧ w'.frozen? ⟨w.heap.size, 5, none⟩ = false ∧ w'.frozen? ⟨w.heap.size, 6, none⟩ = false) from fun w' hb => ⟨(hb.cell (p := ⟨w.heap.size + 1, 0, none⟩) (by show w.heap.size + 1 < _; omega)).trans s0, (hb.cell (p := ⟨w.heap.size + 1, 1, none⟩) (by show w.heap.size + 1 < _; omega)).trans s1, (hb.cell (p := ⟨w.heap.size + 1, 2, none⟩) (by show w.heap.size + 1 < _; omega)).trans s2, (hb.cell (p := ⟨w.heap.size, 0, none⟩) (by show w.heap.size < _; omega)).trans r0, (hb.cell (p := ⟨w.heap.size, 1, none⟩) (by show w.heap.size < _; omega)).trans r1, (hb.cell (p := ⟨w.heap.size, 2, none⟩) (by show w.heap.size < _; omega)).trans r2, (hb.cell (p := ⟨w.heap.size, 3, none⟩) (by show w.heap.size < _; omega)).trans r3, (hb.cell (p := ⟨w.heap.size, 4, none⟩) (by show w.heap.size < _; omega)).trans r4, (hb.cell (p := ⟨w.heap.size, 5, none⟩) (by show w.heap.size < _; omega)).trans r5, (hb.cell (p := ⟨w.heap.size, 6, none⟩) (by show w.heap.size < _; omega)).trans r6, (hb.frozen (p := ⟨w.heap.size, 0, none⟩) (by show w.heap.size < _; omega)).trans z0, (hb.frozen (p := ⟨w.heap.size, 1, none⟩) (by show w.heap.size < _; omega)).trans z1, (hb.frozen (p := ⟨w.heap.size, 2, none⟩) (by show w.heap.size < _; omega)).trans z2, (hb.frozen (p := ⟨w.heap.size, 3, none⟩) (by show w.heap.size < _; omega)).trans z3, (hb.frozen (p := ⟨w.heap.size, 4, none⟩) (by show w.heap.size < _; omega)).trans z4, (hb.frozen (p := ⟨w.heap.size, 5, none⟩) (by show w.heap.size < _; omega)).trans z5, (hb.frozen (p := ⟨w.heap.size, 6, none⟩) (by show w.heap.size < _; omega)).trans z6⟩)
  rw [← hw9]
  clear hw9
  go_cut [14] (fun _ wy => FCut L V w.heap.size w wy)
  case first =>
    go_region_with
      (go_at_call 69; go_loud ((with_reducible refine (l01Empty_c L V _ rfl _).mono ?_); rintro e wn ⟨gn, rfl, _, hb0⟩; have hbn : Below w9.heap.size w9 wn := below_step (by repeat' (first | with_reducible assumption | with_reducible exact Below.refl _ _ | (with_reducible refine Below.drew ?_) | (with_reducible refine Below.alloc ?_ (Nat.le_trans (Nat.le_refl _) (by (try simp only [World.size_drew]); (try simp only [World.size_alloc]); omega)) _))) hb0 (Nat.le_refl _); have hzn := hbn.size; clear hb0; obtain ⟨s0, s1, s2, r0, r1, r2, r3, r4, r5, r6, z0, z1, z2, z3, z4, z5, z6⟩ := KS.out _ hbn; have ca0 : ∀ o, (wn.alloc o).cell? ⟨w.heap.size, 0, none⟩ = some (.int .i64 0) := fun o => (World.cell?_alloc_lt wn o _ (show w.heap.size < wn.heap.size by omega)).trans r0; have fa0 : ∀ o, (wn.alloc o).frozen? ⟨w.heap.size, 0, none⟩ = false := fun o => (show (wn.alloc o).frozen? ⟨w.heap.size, 0, none⟩ = wn.frozen? ⟨w.heap.size, 0, none⟩ from World.frozen?_alloc_old _ _ _ (show w.heap.size ≠ wn.heap.size by omega)).trans z0; have ca1 : ∀ o, (wn.alloc o).cell? ⟨w.heap.size, 1, none⟩ = some (.int .i64 0) := fun o => (World.cell?_alloc_lt wn o _ (show w.heap.size < wn.heap.size by omega)).trans r1; have fa1 : ∀ o, (wn.alloc o).frozen? ⟨w.heap.size, 1, none⟩ = false := fun o => (show (wn.alloc o).frozen? ⟨w.heap.size, 1, none⟩ = wn.frozen? ⟨w.heap.size, 1, none⟩ from World.frozen?_alloc_old _ _ _ (show w.heap.size ≠ wn.heap.size by omega)).trans z1; have ca2 : ∀ o, (wn.alloc o).cell? ⟨w.heap.size, 2, none⟩ = some (.slice none 0 0) := fun o => (World.cell?_alloc_lt wn o _ (show w.heap.size < wn.heap.size by omega)).trans r2; have fa2 : ∀ o, (wn.alloc o).frozen? ⟨w.heap.size, 2, none⟩ = false := fun o => (show (wn.alloc o).frozen? ⟨w.heap.size, 2, none⟩ = wn.frozen? ⟨w.heap.size, 2, none⟩ from World.frozen?_alloc_old _ _ _ (show w.heap.size ≠ wn.heap.size by omega)).trans z2; have ca3 : ∀ o, (wn.alloc o).cell? ⟨w.heap.size, 3, none⟩ = some (.int .i64 0) := fun o => (World.cell?_alloc_lt wn o _ (show w.heap.size < wn.heap.size by omega)).trans r3; have fa3 : ∀ o, (wn.alloc o).frozen? ⟨w.heap.size, 3, none⟩ = false := fun o => (show (wn.alloc o).frozen? ⟨w.heap.size, 3, none⟩ = wn.frozen? ⟨w.heap.size, 3, none⟩ from World.frozen?_alloc_old _ _ _ (show w.heap.size ≠ wn.heap.size by omega)).trans z3; have ca4 : ∀ o, (wn.alloc o).cell? ⟨w.heap.size, 4, none⟩ = some (.int .i64 0) := fun o => (World.cell?_alloc_lt wn o _ (show w.heap.size < wn.heap.size by omega)).trans r4; have fa4 : ∀ o, (wn.alloc o).frozen? ⟨w.heap.size, 4, none⟩ = false := fun o => (show (wn.alloc o).frozen? ⟨w.heap.size, 4, none⟩ = wn.frozen? ⟨w.heap.size, 4, none⟩ from World.frozen?_alloc_old _ _ _ (show w.heap.size ≠ wn.heap.size by omega)).trans z4; have ca5 : ∀ o, (wn.alloc o).cell? ⟨w.heap.size, 5, none⟩ = some (.slice none 0 0) := fun o => (World.cell?_alloc_lt wn o _ (show w.heap.size < wn.heap.size by omega)).trans r5; have fa5 : ∀ o, (wn.alloc o).frozen? ⟨w.heap.size, 5, none⟩ = false := fun o => (show (wn.alloc o).frozen? ⟨w.heap.size, 5, none⟩ = wn.frozen? ⟨w.heap.size, 5, none⟩ from World.frozen?_alloc_old _ _ _ (show w.heap.size ≠ wn.heap.size by omega)).trans z5; have ca6 : ∀ o, (wn.alloc o).cell? ⟨w.heap.size, 6, none⟩ = some (.slice none 0 0) := fun o => (World.cell?_alloc_lt wn o _ (show w.heap.size < wn.heap.size by omega)).trans r6; have fa6 : ∀ o, (wn.alloc o).frozen? ⟨w.heap.size, 6, none⟩ = false := fun o => (show (wn.alloc o).frozen? ⟨w.heap.size, 6, none⟩ = wn.frozen? ⟨w.heap.size, 6, none⟩ from World.frozen?_alloc_old _ _ _ (show w.heap.size ≠ wn.heap.size by omega)).trans z6; have cs0 : ∀ o, (wn.alloc o).cell? ⟨w.heap.size + 1, 0, none⟩ = some (.int .i64 L) := fun o => (World.cell?_alloc_lt wn o _ (show w.heap.size + 1 < wn.heap.size by omega)).trans s0; have cs1 : ∀ o, (wn.alloc o).cell? ⟨w.heap.size + 1, 1, none⟩ = some (.int .i64 V) := fun o => (World.cell?_alloc_lt wn o _ (show w.heap.size + 1 < wn.heap.size by omega)).trans s1; have cs2 : ∀ o, (wn.alloc o).cell? ⟨w.heap.size + 1, 2, none⟩ = some (.slice none 0 0) := fun o => (World.cell?_alloc_lt wn o _ (show w.heap.size + 1 < wn.heap.size by omega)).trans s2))
    all_goals (go_wp2_with fail; go_meet)
    all_goals (have hBn := hB9.trans (hbn.mono (B' := w.heap.size) (by omega)))
    all_goals (refine ⟨?_, ?_, ?_, ?_, ?_, ?_, ?_, ?_⟩)
    all_goals first
      | ((repeat' (first | with_reducible assumption | (with_reducible refine Below.setCell ?_ (by (try dsimp only); omega) _) | (with_reducible refine Below.drew ?_) | (with_reducible refine Below.alloc ?_ (by (try simp only [World.size_setCell]); (try simp only [World.size_drew]); (try simp only [World.size_alloc]); omega) _))); done)
      | (go_simp; done)
      | (simp [go_sem, isSl0, *]; done)
  case rest =>
    obtain ⟨hB, m0, m1, m2, m3, m4, m5, m6⟩ := hcut
    obtain ⟨a1, c1, m2⟩ := isSl0_out m2
    obtain ⟨a2, c2, m5⟩ := isSl0_out m5
    obtain ⟨a3, c3, m6⟩ := isSl0_out m6
    obtain ⟨wy, rfl⟩ : ∃ wy : World, wy = wc := ⟨_, rfl⟩
    go_wp2
    exact bodyPost_ret (v := desk0 L V a1 c1 a2 c2 a3 c3) (by simp [results, Try.results40, go_sem, desk0, m0, m1, m2, m3, m4, m5, m6]) rfl ⟨a1, c1, a2, c2, a3, c3, rfl, hB⟩
end Go.Proofs.Ytjjkkaikinjmdaa
