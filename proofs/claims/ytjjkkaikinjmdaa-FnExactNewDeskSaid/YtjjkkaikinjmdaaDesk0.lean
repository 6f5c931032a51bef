/-
  The new desk: all its lists are empty.
-/
import Derived.Test.YtjjkkaikinjmdaaPaths
import Derived.Test.YtjjkkaikinjmdaaRes
import Derived.Test.YtjjkkaikinjmdaaNew
import Derived.Test.YtjjkkaikinjmdaaPartOf
import Derived.Deep.RegionHeld3
import Derived.Deep.RegionLaw
namespace Go.Proofs.Ytjjkkaikinjmdaa
open Go.RowKit

/-- a desk of empty lists -/
def desk0 (L V : Int) (a1 : Option Addr) (c1 : Nat) (a2 : Option Addr) (c2 : Nat) (a3 : Option Addr) (c3 : Nat) : Value :=
  .agg #[.int .i64 L, .int .i64 V, .slice a1 0 c1, .int .i64 L, .int .i64 V, .slice a2 0 c2, .slice a3 0 c3]
def Desk0Post (L V : Int) (W : World) (e : Ending) (w' : World) : Prop :=
  ∃ a1 c1 a2 c2 a3 c3, e = .returned (desk0 L V a1 c1 a2 c2 a3 c3) ∧ Below W.heap.size W w'

theorem eqDesk_0 (L V : Int) (a1 : Option Addr) (c1 : Nat) (a2 : Option Addr) (c2 : Nat) (a3 : Option Addr) (c3 : Nat) (b1 : Option Addr) (d1 : Nat) (b2 : Option Addr) (d2 : Nat) (b3 : Option Addr) (d3 : Nat) (w : World) :
    Calls Try.prog 16 #[desk0 L V a1 c1 a2 c2 a3 c3, desk0 L V b1 d1 b2 d2 b3 d3] w fun e w' => e = .returned (.bool true) ∧ Below w.heap.size w w' := by
  unfold desk0
  go_enter Try.func16, Try.ntmps16
  go_wp2_with fail
  refine (eqSeries_row L V a1 b1 c1 d1 [] (by simp) _ (.inl rfl) (.inl rfl)).mono ?_
  rintro e w1 ⟨rfl, hb1⟩
  have hz1 := hb1.size
  simp only [World.size_alloc] at hz1
  have HB1 := Lib.hid ((below2 w _ _).trans (hb1.mono (by simp; omega)))
  have f0 := fun o => hb1.cell (p := ⟨w.heap.size, o, none⟩) (by simp; omega)
  have f1 := fun o => hb1.cell (p := ⟨w.heap.size + 1, o, none⟩) (by simp)
  have x3 : w1.cell? ⟨w.heap.size, 3, none⟩ = some (.int .i64 L) := (f0 3).trans (by go_simp)
  have x4 : w1.cell? ⟨w.heap.size, 4, none⟩ = some (.int .i64 V) := (f0 4).trans (by go_simp)
  have x5 : w1.cell? ⟨w.heap.size, 5, none⟩ = some (.slice a2 0 c2) := (f0 5).trans (by go_simp)
  have x6 : w1.cell? ⟨w.heap.size, 6, none⟩ = some (.slice a3 0 c3) := (f0 6).trans (by go_simp)
  have y3 : w1.cell? ⟨w.heap.size + 1, 3, none⟩ = some (.int .i64 L) := (f1 3).trans (by go_simp)
  have y4 : w1.cell? ⟨w.heap.size + 1, 4, none⟩ = some (.int .i64 V) := (f1 4).trans (by go_simp)
  have y5 : w1.cell? ⟨w.heap.size + 1, 5, none⟩ = some (.slice b2 0 d2) := (f1 5).trans (by go_simp)
  have y6 : w1.cell? ⟨w.heap.size + 1, 6, none⟩ = some (.slice b3 0 d3) := (f1 6).trans (by go_simp)
  clear hb1 f0 f1
  go_wp2_with fail
  refine (eqSeries_row L V a2 b2 c2 d2 [] (by simp) _ (.inl rfl) (.inl rfl)).mono ?_
  rintro e w2 ⟨rfl, hb2⟩
  have hz2 := hb2.size
  have HB2 := Lib.hid (HB1.out.trans (hb2.mono (by omega)))
  have z6 := (hb2.cell (p := ⟨w.heap.size, 6, none⟩) (by show w.heap.size < _; omega)).trans x6
  have u6 := (hb2.cell (p := ⟨w.heap.size + 1, 6, none⟩) (by show w.heap.size + 1 < _; omega)).trans y6
  clear hb2 x3 x4 x5 x6 y3 y4 y5 y6
  go_wp2_with fail
  refine (eqInt64SS_row 0 0 0 0 a3 b3 c3 d3 [] (by simp) (by simp [flat]) _ (.inl rfl) (.inl rfl) (by omega) (by omega)).mono ?_
  rintro e w3 ⟨rfl, hb3⟩
  have HB3 := HB2.out.trans (hb3.mono (by omega))
  clear hb3
  go_wp2
  go_ret
  exact ⟨rfl, HB3⟩

theorem markSeries_0 (L V : Int) (a : Option Addr) (c : Nat) (k : Int) (hk : 0 < k) (hk2 : k < 100000000) (w : World) :
    Calls Try.prog 43 #[.agg #[.int .i64 L, .int .i64 V, .slice a 0 c], .int .i64 k] w fun e w' => e = .returned (.int .i64 k) ∧ Below w.heap.size w w' :=
  (markSeries_row L V w.heap.size w.heap.size a c [] k hk (by simpa using hk2) w (.inl rfl)).mono fun e w' ⟨r, he, hG, hr, _⟩ => ⟨by simpa using he, below_of_grown hG (fun g h => (hr g h).1) (Nat.le_refl _)⟩
theorem heldSeries_0 (L V : Int) (a : Option Addr) (c : Nat) (k : Int) (hk : 0 < k) (hk2 : k < 100000000) (w : World) :
    Calls Try.prog 44 #[.agg #[.int .i64 L, .int .i64 V, .slice a 0 c], .int .i64 k] w fun e w' => e = .returned (.int .i64 k) ∧ Below w.heap.size w w' :=
  (heldSeries_row L V w.heap.size w.heap.size a c [] k hk (by simpa using hk2) w (.inl rfl)).mono fun e w' ⟨he, hb⟩ => ⟨by simpa using he, hb⟩
theorem markPath_0 (a : Option Addr) (c : Nat) (k : Int) (hk : 0 < k) (hk2 : k < 100000000) (w : World) :
    Calls Try.prog 29 #[.slice a 0 c, .int .i64 k] w fun e w' => e = .returned (.int .i64 k) ∧ Below w.heap.size w w' :=
  (markInt64SS_row w.heap.size w.heap.size a c [] k hk (by simpa [flat] using hk2) (by simp) w (.inl rfl)).mono fun e w' ⟨he, hO, _⟩ => ⟨by simpa [flat] using he, hO.below (Nat.le_refl _) (Nat.le_refl _)⟩
theorem heldPath_0 (a : Option Addr) (c : Nat) (k : Int) (hk : 0 < k) (hk2 : k < 100000000) (w : World) :
    Calls Try.prog 30 #[.slice a 0 c, .int .i64 k] w fun e w' => e = .returned (.int .i64 k) ∧ Below w.heap.size w w' :=
  (heldInt64SS_row w.heap.size w.heap.size a c [] k hk (by simpa [flat] using hk2) (by simp) w (.inl rfl)).mono fun e w' ⟨he, hb⟩ => ⟨by simpa [flat] using he, hb⟩

theorem markDesk_0 (L V : Int) (a1 : Option Addr) (c1 : Nat) (a2 : Option Addr) (c2 : Nat) (a3 : Option Addr) (c3 : Nat) (k : Int) (hk : 0 < k) (hk2 : k < 100000000) (w : World) :
    Calls Try.prog 17 #[desk0 L V a1 c1 a2 c2 a3 c3, .int .i64 k] w fun e w' => e = .returned (.int .i64 k) ∧ Below w.heap.size w w' := by
  unfold desk0
  go_enter Try.func17, Try.ntmps17
  go_wp2_with fail
  refine (markSeries_0 L V a1 c1 k hk hk2 _).mono ?_
  rintro e w1 ⟨rfl, hb1⟩
  have hz1 := hb1.size
  simp only [World.size_alloc] at hz1
  have HB1 := Lib.hid ((below1 w _).trans (hb1.mono (by simp)))
  have f0 := fun o => hb1.cell (p := ⟨w.heap.size, o, none⟩) (by simp)
  have x3 : w1.cell? ⟨w.heap.size, 3, none⟩ = some (.int .i64 L) := (f0 3).trans (by go_simp)
  have x4 : w1.cell? ⟨w.heap.size, 4, none⟩ = some (.int .i64 V) := (f0 4).trans (by go_simp)
  have x5 : w1.cell? ⟨w.heap.size, 5, none⟩ = some (.slice a2 0 c2) := (f0 5).trans (by go_simp)
  have x6 : w1.cell? ⟨w.heap.size, 6, none⟩ = some (.slice a3 0 c3) := (f0 6).trans (by go_simp)
  clear hb1 f0
  go_wp2_with fail
  refine (markSeries_0 L V a2 c2 k hk hk2 _).mono ?_
  rintro e w2 ⟨rfl, hb2⟩
  have hz2 := hb2.size
  have HB2 := Lib.hid (HB1.out.trans (hb2.mono (by omega)))
  have z6 := (hb2.cell (p := ⟨w.heap.size, 6, none⟩) (by show w.heap.size < _; omega)).trans x6
  clear hb2 x3 x4 x5 x6
  go_wp2_with fail
  refine (markPath_0 a3 c3 k hk hk2 _).mono ?_
  rintro e w3 ⟨rfl, hb3⟩
  have HB3 := HB2.out.trans (hb3.mono (by omega))
  clear hb3
  go_wp2
  go_ret
  exact ⟨rfl, HB3⟩

theorem heldDesk_0 (L V : Int) (a1 : Option Addr) (c1 : Nat) (a2 : Option Addr) (c2 : Nat) (a3 : Option Addr) (c3 : Nat) (k : Int) (hk : 0 < k) (hk2 : k < 100000000) (w : World) :
    Calls Try.prog 18 #[desk0 L V a1 c1 a2 c2 a3 c3, .int .i64 k] w fun e w' => e = .returned (.int .i64 k) ∧ Below w.heap.size w w' := by
  unfold desk0
  go_enter Try.func18, Try.ntmps18
  go_wp2_with fail
  refine (heldSeries_0 L V a1 c1 k hk hk2 _).mono ?_
  rintro e w1 ⟨rfl, hb1⟩
  have hz1 := hb1.size
  simp only [World.size_alloc] at hz1
  have HB1 := Lib.hid ((below1 w _).trans (hb1.mono (by simp)))
  have f0 := fun o => hb1.cell (p := ⟨w.heap.size, o, none⟩) (by simp)
  have x3 : w1.cell? ⟨w.heap.size, 3, none⟩ = some (.int .i64 L) := (f0 3).trans (by go_simp)
  have x4 : w1.cell? ⟨w.heap.size, 4, none⟩ = some (.int .i64 V) := (f0 4).trans (by go_simp)
  have x5 : w1.cell? ⟨w.heap.size, 5, none⟩ = some (.slice a2 0 c2) := (f0 5).trans (by go_simp)
  have x6 : w1.cell? ⟨w.heap.size, 6, none⟩ = some (.slice a3 0 c3) := (f0 6).trans (by go_simp)
  clear hb1 f0
  go_wp2_with fail
  refine (heldSeries_0 L V a2 c2 k hk hk2 _).mono ?_
  rintro e w2 ⟨rfl, hb2⟩
  have hz2 := hb2.size
  have HB2 := Lib.hid (HB1.out.trans (hb2.mono (by omega)))
  have z6 := (hb2.cell (p := ⟨w.heap.size, 6, none⟩) (by show w.heap.size < _; omega)).trans x6
  clear hb2 x3 x4 x5 x6
  go_wp2_with fail
  refine (heldPath_0 a3 c3 k hk hk2 _).mono ?_
  rintro e w3 ⟨rfl, hb3⟩
  have HB3 := HB2.out.trans (hb3.mono (by omega))
  clear hb3
  go_wp2
  go_ret
  exact ⟨rfl, HB3⟩

theorem freshDesk_c (L V : Int) (w : World) : Calls Try.prog 41 #[.int .i64 L, .int .i64 V] w (Desk0Post L V w) := by
  go_enter Try.func41, Try.ntmps41
  go_wp2_with fail
  refine (newSeries_c L V none 0 [] (by simp) (fun i h => absurd h (Nat.not_lt_zero _)) _ (.inl rfl)).mono ?_
  rintro e w1 ⟨g1, rfl, hb1, _⟩
  have hz1 := hb1.size
  simp only [World.size_alloc] at hz1
  have HB1 := Lib.hid ((below1 w _).trans (hb1.mono (by simp)))
  have c1 := bcellB (hb1.mono (B' := w.heap.size + 1) (by simp))
  clear hb1
  go_wp2_with fail
  refine (newSeries_c L V none 0 [] (by simp) (fun i h => absurd h (Nat.not_lt_zero _)) _ (.inl rfl)).mono ?_
  rintro e w2 ⟨g2, rfl, hb2, _⟩
  have hz2 := hb2.size
  have HB2 := Lib.hid (HB1.out.trans (hb2.mono (by omega)))
  have c2 := bcellB (hb2.mono (B' := w.heap.size + 1) (by omega))
  have q : ∀ o, w2.cell? ⟨w.heap.size, o, none⟩ = (w.alloc (.cells #[.int .i64 0, .int .i64 0, .slice none 0 0, .int .i64 0, .int .i64 0, .slice none 0 0, .slice none 0 0] 35)).cell? ⟨w.heap.size, o, none⟩ := fun o => (c2.1 _ _ (by omega)).trans (c1.1 _ _ (by omega))
  have qf : ∀ o, w2.frozen? ⟨w.heap.size, o, none⟩ = (w.alloc (.cells #[.int .i64 0, .int .i64 0, .slice none 0 0, .int .i64 0, .int .i64 0, .slice none 0 0, .slice none 0 0] 35)).frozen? ⟨w.heap.size, o, none⟩ := fun o => (c2.2 _ _ (by omega)).trans (c1.2 _ _ (by omega))
  have x0 : w2.cell? ⟨w.heap.size, 0, none⟩ = some (.int .i64 0) := (q 0).trans (by go_simp)
  have x1 : w2.cell? ⟨w.heap.size, 1, none⟩ = some (.int .i64 0) := (q 1).trans (by go_simp)
  have x2 : w2.cell? ⟨w.heap.size, 2, none⟩ = some (.slice none 0 0) := (q 2).trans (by go_simp)
  have x3 : w2.cell? ⟨w.heap.size, 3, none⟩ = some (.int .i64 0) := (q 3).trans (by go_simp)
  have x4 : w2.cell? ⟨w.heap.size, 4, none⟩ = some (.int .i64 0) := (q 4).trans (by go_simp)
  have x5 : w2.cell? ⟨w.heap.size, 5, none⟩ = some (.slice none 0 0) := (q 5).trans (by go_simp)
  have x6 : w2.cell? ⟨w.heap.size, 6, none⟩ = some (.slice none 0 0) := (q 6).trans (by go_simp)
  have y0 : w2.frozen? ⟨w.heap.size, 0, none⟩ = false := (qf 0).trans (by go_simp)
  have y1 : w2.frozen? ⟨w.heap.size, 1, none⟩ = false := (qf 1).trans (by go_simp)
  have y2 : w2.frozen? ⟨w.heap.size, 2, none⟩ = false := (qf 2).trans (by go_simp)
  have y3 : w2.frozen? ⟨w.heap.size, 3, none⟩ = false := (qf 3).trans (by go_simp)
  have y4 : w2.frozen? ⟨w.heap.size, 4, none⟩ = false := (qf 4).trans (by go_simp)
  have y5 : w2.frozen? ⟨w.heap.size, 5, none⟩ = false := (qf 5).trans (by go_simp)
  have y6 : w2.frozen? ⟨w.heap.size, 6, none⟩ = false := (qf 6).trans (by go_simp)
  clear hb2 c1 c2 q qf
  go_wp2
  refine bodyPost_ret (v := desk0 L V (some ⟨g1, 0, none⟩) 0 (some ⟨g2, 0, none⟩) 0 none 0) (by simp [results, Try.results41, go_sem, desk0, World.cell?_setCell_same _ _ _ x0, x1, x2, x3, x4, x5, x6, World.cell?_setCell_same]) rfl ⟨some ⟨g1, 0, none⟩, 0, some ⟨g2, 0, none⟩, 0, none, 0, rfl, ?_⟩
  have h := HB2.out
  go_grown

theorem iNewDesk_c (w : World) : Calls Try.prog 15 #[] w (Desk0Post 2 2 w) := by
  go_enter Try.func15, Try.ntmps15
  go_wp2_with fail
  refine (freshDesk_c 2 2 _).mono ?_
  rintro e w1 ⟨a1, c1, a2, c2, a3, c3, rfl, hb1⟩
  have hz1 := hb1.size
  simp only [World.size_alloc] at hz1
  have HB1 := Lib.hid ((below1 w _).trans (hb1.mono (by simp)))
  have k := bcellB (hb1.mono (B' := w.heap.size + 1) (by simp))
  have q := fun o => k.1 w.heap.size o (by omega)
  have qf := fun o => k.2 w.heap.size o (by omega)
  have x0 : w1.cell? ⟨w.heap.size, 0, none⟩ = some (.int .i64 0) := (q 0).trans (by go_simp)
  have x1 : w1.cell? ⟨w.heap.size, 1, none⟩ = some (.int .i64 0) := (q 1).trans (by go_simp)
  have x2 : w1.cell? ⟨w.heap.size, 2, none⟩ = some (.slice none 0 0) := (q 2).trans (by go_simp)
  have x3 : w1.cell? ⟨w.heap.size, 3, none⟩ = some (.int .i64 0) := (q 3).trans (by go_simp)
  have x4 : w1.cell? ⟨w.heap.size, 4, none⟩ = some (.int .i64 0) := (q 4).trans (by go_simp)
  have x5 : w1.cell? ⟨w.heap.size, 5, none⟩ = some (.slice none 0 0) := (q 5).trans (by go_simp)
  have x6 : w1.cell? ⟨w.heap.size, 6, none⟩ = some (.slice none 0 0) := (q 6).trans (by go_simp)
  have y0 : w1.frozen? ⟨w.heap.size, 0, none⟩ = false := (qf 0).trans (by go_simp)
  have y1 : w1.frozen? ⟨w.heap.size, 1, none⟩ = false := (qf 1).trans (by go_simp)
  have y2 : w1.frozen? ⟨w.heap.size, 2, none⟩ = false := (qf 2).trans (by go_simp)
  have y3 : w1.frozen? ⟨w.heap.size, 3, none⟩ = false := (qf 3).trans (by go_simp)
  have y4 : w1.frozen? ⟨w.heap.size, 4, none⟩ = false := (qf 4).trans (by go_simp)
  have y5 : w1.frozen? ⟨w.heap.size, 5, none⟩ = false := (qf 5).trans (by go_simp)
  have y6 : w1.frozen? ⟨w.heap.size, 6, none⟩ = false := (qf 6).trans (by go_simp)
  clear hb1 k q qf
  unfold desk0
  go_wp2
  refine bodyPost_ret (v := desk0 2 2 a1 c1 a2 c2 a3 c3) (by simp [results, Try.results15, go_sem, desk0, World.cell?_setCell_same _ _ _ x0, x1, x2, x3, x4, x5, x6, World.cell?_setCell_same]) rfl ⟨a1, c1, a2, c2, a3, c3, rfl, ?_⟩
  have h := HB1.out
  go_grown
end Go.Proofs.Ytjjkkaikinjmdaa
