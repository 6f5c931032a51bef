/-
  Contracts of TurnTables, of the program and of its model: both return the same tables, in new memory.
-/
import Derived.Test.YtngpnbdndkddlaaLawTurnTables
namespace Go.Proofs.Ytngpnbdndkddlaa
open Go.RowKit

def turnL : Tabs := [[[0, 1], [0, 0]], [[0, 0], [1, 0]]]
def row2 (w : World) (x y : Int) : World := w.alloc (.cells #[.int .i64 x, .int .i64 y] 2)
def two2 (w : World) (x0 x1 y0 y1 : Int) : World := (row2 (row2 w x0 x1) y0 y1).alloc (.cells #[.slice (some ⟨w.heap.size, 0, none⟩) 2 2, .slice (some ⟨w.heap.size + 1, 0, none⟩) 2 2] 41)
theorem row2_new (w : World) (x y : Int) : NewI w.heap.size (w.heap.size + 1) (row2 w x y) (some ⟨w.heap.size, 0, none⟩) [x, y] :=
  .inr ⟨w.heap.size, rfl, Nat.le_refl _, Nat.lt_succ_self _, ⟨by simp [row2], fun j hj => by
    have h2 : j = 0 ∨ j = 1 := by simp at hj; omega
    rcases h2 with rfl | rfl
    · exact ⟨⟨.int .i64 x, by unfold row2; go_simp⟩, by unfold row2; go_simp⟩
    · exact ⟨⟨.int .i64 y, by unfold row2; go_simp⟩, by unfold row2; go_simp⟩⟩, fun i hi => by
    have h2 : i = 0 ∨ i = 1 := by simp at hi; omega
    rcases h2 with rfl | rfl <;> (unfold row2; go_simp)⟩
theorem row2_size (w : World) (x y : Int) : (row2 w x y).heap.size = w.heap.size + 1 := by simp [row2]
theorem row2_below (w : World) (x y : Int) : Below w.heap.size w (row2 w x y) := below1 w _
theorem two2_size (w : World) (x0 x1 y0 y1 : Int) : (two2 w x0 x1 y0 y1).heap.size = w.heap.size + 3 := by simp [two2, row2_size]
theorem two2_below (w : World) (x0 x1 y0 y1 : Int) : Below w.heap.size w (two2 w x0 x1 y0 y1) := by
  have h1 := row2_below w x0 x1
  have h2 := (row2_below (row2 w x0 x1) y0 y1).mono h1.size
  exact (h1.trans h2).trans ((below1 _ _).mono (h1.trans h2).size)
theorem two2_new (w : World) (x0 x1 y0 y1 : Int) : NewP w.heap.size (w.heap.size + 3) (two2 w x0 x1 y0 y1) (some ⟨w.heap.size + 2, 0, none⟩) [[x0, x1], [y0, y1]] := by
  have n1 := row2_new w x0 x1
  have n2 := row2_new (row2 w x0 x1) y0 y1
  have b2 := row2_below (row2 w x0 x1) y0 y1
  have b3 : Below (row2 (row2 w x0 x1) y0 y1).heap.size (row2 (row2 w x0 x1) y0 y1) (two2 w x0 x1 y0 y1) := below1 _ _
  have s1 := row2_size w x0 x1
  have s2 := row2_size (row2 w x0 x1) y0 y1
  rw [s1] at n2 s2
  have hz : (two2 w x0 x1 y0 y1).heap.size = w.heap.size + 3 := two2_size w x0 x1 y0 y1
  have c0 : (two2 w x0 x1 y0 y1).cell? ⟨w.heap.size + 2, 0, none⟩ = some (.slice (some ⟨w.heap.size, 0, none⟩) 2 2) := by
    have h := World.cell?_alloc_new (row2 (row2 w x0 x1) y0 y1) #[.slice (some ⟨w.heap.size, 0, none⟩) 2 2, .slice (some ⟨w.heap.size + 1, 0, none⟩) 2 2] 41 0
    rw [s2] at h
    exact h
  have c1 : (two2 w x0 x1 y0 y1).cell? ⟨w.heap.size + 2, 1, none⟩ = some (.slice (some ⟨w.heap.size + 1, 0, none⟩) 2 2) := by
    have h := World.cell?_alloc_new (row2 (row2 w x0 x1) y0 y1) #[.slice (some ⟨w.heap.size, 0, none⟩) 2 2, .slice (some ⟨w.heap.size + 1, 0, none⟩) 2 2] 41 1
    rw [s2] at h
    exact h
  have f0 : ∀ j, (two2 w x0 x1 y0 y1).frozen? ⟨w.heap.size + 2, j, none⟩ = false := fun j => by
    have h : ((row2 (row2 w x0 x1) y0 y1).alloc (.cells #[.slice (some ⟨w.heap.size, 0, none⟩) 2 2, .slice (some ⟨w.heap.size + 1, 0, none⟩) 2 2] 41)).frozen? ⟨(row2 (row2 w x0 x1) y0 y1).heap.size, j, none⟩ = false := by simp
    rw [s2] at h
    exact h
  have m1 := ((n1.below b2 (by omega)).below b3 (by omega)).mono (lo' := w.heap.size) (hi' := w.heap.size + 3) (Nat.le_refl _) (by omega)
  have m2 := (n2.below b3 (by omega)).mono (lo' := w.heap.size) (hi' := w.heap.size + 3) (by omega) (by omega)
  refine .inr ⟨w.heap.size + 2, fun i => some ⟨w.heap.size + i, 0, none⟩, fun _ => 2, rfl, by omega, by omega, ⟨by omega, fun j hj => ?_⟩, fun i hi => ?_, fun i j hi hj hne _ _ e => ?_⟩
  · have h2 : j = 0 ∨ j = 1 := by simp at hj; omega
    rcases h2 with rfl | rfl
    · exact ⟨⟨_, c0⟩, f0 _⟩
    · exact ⟨⟨_, c1⟩, f0 _⟩
  · have h2 : i = 0 ∨ i = 1 := by simp at hi; omega
    rcases h2 with rfl | rfl
    · exact ⟨c0, m1, fun _ e => by injection e with e; injection e with e; omega⟩
    · exact ⟨c1, m2, fun _ e => by injection e with e; injection e with e; omega⟩
  · injection e with e
    injection e with e
    omega
theorem turn_new (w : World) : NewT w.heap.size (w.heap.size + 7) ((two2 (two2 w 0 1 0 0) 0 0 1 0).alloc (.cells #[.slice (some ⟨w.heap.size + 2, 0, none⟩) 2 2, .slice (some ⟨w.heap.size + 5, 0, none⟩) 2 2] 29)) (some ⟨w.heap.size + 6, 0, none⟩) turnL := by
  have n1 := two2_new w 0 1 0 0
  have n2 := two2_new (two2 w 0 1 0 0) 0 0 1 0
  have s1 := two2_size w 0 1 0 0
  have s2 := two2_size (two2 w 0 1 0 0) 0 0 1 0
  have b2 := two2_below (two2 w 0 1 0 0) 0 0 1 0
  rw [s1] at n2 s2 b2
  generalize hW : two2 (two2 w 0 1 0 0) 0 0 1 0 = W at *
  have b3 : Below W.heap.size W (W.alloc (.cells #[.slice (some ⟨w.heap.size + 2, 0, none⟩) 2 2, .slice (some ⟨w.heap.size + 5, 0, none⟩) 2 2] 29)) := below1 _ _
  have c0 : (W.alloc (.cells #[.slice (some ⟨w.heap.size + 2, 0, none⟩) 2 2, .slice (some ⟨w.heap.size + 5, 0, none⟩) 2 2] 29)).cell? ⟨w.heap.size + 6, 0, none⟩ = some (.slice (some ⟨w.heap.size + 2, 0, none⟩) 2 2) := by
    have h := World.cell?_alloc_new W #[.slice (some ⟨w.heap.size + 2, 0, none⟩) 2 2, .slice (some ⟨w.heap.size + 5, 0, none⟩) 2 2] 29 0
    rw [s2] at h
    exact h
  have c1 : (W.alloc (.cells #[.slice (some ⟨w.heap.size + 2, 0, none⟩) 2 2, .slice (some ⟨w.heap.size + 5, 0, none⟩) 2 2] 29)).cell? ⟨w.heap.size + 6, 1, none⟩ = some (.slice (some ⟨w.heap.size + 5, 0, none⟩) 2 2) := by
    have h := World.cell?_alloc_new W #[.slice (some ⟨w.heap.size + 2, 0, none⟩) 2 2, .slice (some ⟨w.heap.size + 5, 0, none⟩) 2 2] 29 1
    rw [s2] at h
    exact h
  have f0 : ∀ j, (W.alloc (.cells #[.slice (some ⟨w.heap.size + 2, 0, none⟩) 2 2, .slice (some ⟨w.heap.size + 5, 0, none⟩) 2 2] 29)).frozen? ⟨w.heap.size + 6, j, none⟩ = false := fun j => by
    have h : (W.alloc (.cells #[.slice (some ⟨w.heap.size + 2, 0, none⟩) 2 2, .slice (some ⟨w.heap.size + 5, 0, none⟩) 2 2] 29)).frozen? ⟨W.heap.size, j, none⟩ = false := by simp
    rw [s2] at h
    exact h
  have m1 := (n1.below b2 (by omega)).below b3 (by omega)
  have m2 := n2.below b3 (by omega)
  have hz : (W.alloc (.cells #[.slice (some ⟨w.heap.size + 2, 0, none⟩) 2 2, .slice (some ⟨w.heap.size + 5, 0, none⟩) 2 2] 29)).heap.size = w.heap.size + 7 := by simp [s2]
  refine .inr ⟨w.heap.size + 6, fun i => some ⟨w.heap.size + 3 * i + 2, 0, none⟩, fun _ => 2, fun i => w.heap.size + 3 * i, fun i => w.heap.size + 3 * i + 3, rfl, by omega, by omega, ⟨by omega, fun j hj => ?_⟩, fun i hi => ?_, fun i j hij hj => by dsimp only; omega⟩
  · have h2 : j = 0 ∨ j = 1 := by simp [turnL] at hj; omega
    rcases h2 with rfl | rfl
    · exact ⟨⟨_, c0⟩, f0 _⟩
    · exact ⟨⟨_, c1⟩, f0 _⟩
  · have h2 : i = 0 ∨ i = 1 := by simp [turnL] at hi; omega
    rcases h2 with rfl | rfl
    · exact ⟨c0, m1, by dsimp only; omega, by dsimp only; omega, by dsimp only; omega, by dsimp only; omega⟩
    · exact ⟨c1, m2, by dsimp only; omega, by dsimp only; omega, by dsimp only; omega, by dsimp only; omega⟩
theorem turn_below (w : World) : Below w.heap.size w ((two2 (two2 w 0 1 0 0) 0 0 1 0).alloc (.cells #[.slice (some ⟨w.heap.size + 2, 0, none⟩) 2 2, .slice (some ⟨w.heap.size + 5, 0, none⟩) 2 2] 29)) := by
  have h1 := two2_below w 0 1 0 0
  have h2 := h1.trans ((two2_below (two2 w 0 1 0 0) 0 0 1 0).mono h1.size)
  exact h2.trans ((below1 _ _).mono h2.size)
theorem turn_size (w : World) : ((two2 (two2 w 0 1 0 0) 0 0 1 0).alloc (.cells #[.slice (some ⟨w.heap.size + 2, 0, none⟩) 2 2, .slice (some ⟨w.heap.size + 5, 0, none⟩) 2 2] 29)).heap.size = w.heap.size + 7 := by simp [two2_size]

set_option maxRecDepth 100000 in
theorem sTurn_c (w : World) : Calls Try.prog 12 #[] w (TabPost turnL w) := by
  have h1 := turn_new w
  have h2 := turn_below w
  have h3 := turn_size w
  simp only [two2, row2, World.size_alloc] at h1 h2 h3
  have H1 := Lib.hid h1
  have H2 := Lib.hid h2
  have H3 := Lib.hid h3
  clear h1 h2 h3
  go_enter Try.func12, Try.ntmps12
  go_wp2
  go_ret
  exact ⟨_, 2, rfl, H2.out, by simp only [World.size_alloc]; exact H1.out⟩
set_option maxRecDepth 100000 in
theorem iTurn_c (w : World) : Calls Try.prog 13 #[] w (TabPost turnL w) := by
  have h1 := turn_new w
  have h2 := turn_below w
  have h3 := turn_size w
  simp only [two2, row2, World.size_alloc] at h1 h2 h3
  have H1 := Lib.hid h1
  have H2 := Lib.hid h2
  have H3 := Lib.hid h3
  clear h1 h2 h3
  go_enter Try.func13, Try.ntmps13
  go_wp2
  go_ret
  exact ⟨_, 2, rfl, H2.out, by simp only [World.size_alloc]; exact H1.out⟩
end Go.Proofs.Ytngpnbdndkddlaa
