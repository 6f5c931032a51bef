/-
  'FnExactNewDesk' returns true: the program's NewDesk and its model's return the same desk, in memory of its own. No condition.
-/
import Derived.Test.YtjjkkaikinjmdaaFresh
import Derived.Test.YtjjkkaikinjmdaaOpenR
namespace Go.Proofs.Ytjjkkaikinjmdaa
open Go.ChangeShapes Go.WideShapes Go.ChangeAt Go.RowKit

set_option maxRecDepth 100000 in
theorem sNewDesk_c (w : World) : Calls Try.prog 14 #[] w (Desk0Post 2 2 w) := by
  go_enter Try.func14, Try.ntmps14
  go_wp2_with fail
  refine (l11Fresh_c 2 2 _).mono ?_
  rintro e w1 ⟨a1, c1, a2, c2, a3, c3, rfl, hb1⟩
  have hz1 := hb1.size
  simp only [World.size_alloc] at hz1
  have HB1 := Lib.hid ((below1 w _).trans (hb1.mono (by simp)))
  have k := bcellB (hb1.mono (B' := w.heap.size + 1) (by simp))
  have q := fun o => k.1 w.heap.size o (by omega)
  have qf := fun o => k.2 w.heap.size o (by omega)
  have x0 : w1.cell? ⟨w.heap.size, 0, none⟩ = some (.int .i64 0) := (q 0).trans (by go_simp)
  have y0 : w1.frozen? ⟨w.heap.size, 0, none⟩ = false := (qf 0).trans (by go_simp)
  have x1 : w1.cell? ⟨w.heap.size, 1, none⟩ = some (.int .i64 0) := (q 1).trans (by go_simp)
  have y1 : w1.frozen? ⟨w.heap.size, 1, none⟩ = false := (qf 1).trans (by go_simp)
  have x2 : w1.cell? ⟨w.heap.size, 2, none⟩ = some (.slice none 0 0) := (q 2).trans (by go_simp)
  have y2 : w1.frozen? ⟨w.heap.size, 2, none⟩ = false := (qf 2).trans (by go_simp)
  have x3 : w1.cell? ⟨w.heap.size, 3, none⟩ = some (.int .i64 0) := (q 3).trans (by go_simp)
  have y3 : w1.frozen? ⟨w.heap.size, 3, none⟩ = false := (qf 3).trans (by go_simp)
  have x4 : w1.cell? ⟨w.heap.size, 4, none⟩ = some (.int .i64 0) := (q 4).trans (by go_simp)
  have y4 : w1.frozen? ⟨w.heap.size, 4, none⟩ = false := (qf 4).trans (by go_simp)
  have x5 : w1.cell? ⟨w.heap.size, 5, none⟩ = some (.slice none 0 0) := (q 5).trans (by go_simp)
  have y5 : w1.frozen? ⟨w.heap.size, 5, none⟩ = false := (qf 5).trans (by go_simp)
  have x6 : w1.cell? ⟨w.heap.size, 6, none⟩ = some (.slice none 0 0) := (q 6).trans (by go_simp)
  have y6 : w1.frozen? ⟨w.heap.size, 6, none⟩ = false := (qf 6).trans (by go_simp)
  clear hb1 k q qf
  unfold desk0
  go_wp2
  refine bodyPost_ret (v := desk0 2 2 a1 c1 a2 c2 a3 c3) (by simp [results, Try.results14, go_sem, desk0, x0, x1, x2, x3, x4, x5, x6]) rfl ⟨a1, c1, a2, c2, a3, c3, rfl, ?_⟩
  have h := HB1.out
  go_grown

set_option maxRecDepth 100000 in
set_option maxHeartbeats 4000000 in
theorem main_NewDesk (w : World) : Calls Try.prog 4 #[] w fun e w' => e = .returned (.bool true) ∧ Below w.heap.size w w' := by
  go_enter Try.func4, Try.ntmps4
  go_wp2_with fail
  refine (sNewDesk_c _).mono ?_
  rintro e w1 ⟨a1, ac1, a2, ac2, a3, ac3, rfl, hb1⟩
  have hz1 := hb1.size
  have HB1 := Lib.hid (hb1)
  clear hb1 
  unfold desk0
  go_wp2_with fail
  refine (iNewDesk_c _).mono ?_
  rintro e w2 ⟨b1, bc1, b2, bc2, b3, bc3, rfl, hb2⟩
  have hz2 := hb2.size
  simp only [World.size_alloc] at hz2
  have ma0 : w2.cell? ⟨w1.heap.size, 0, none⟩ = some (.int .i64 2) := (hb2.cell (p := ⟨w1.heap.size, 0, none⟩) (show w1.heap.size < _ by (try simp only [World.size_alloc]); omega)).trans (by go_simp)
  have ma1 : w2.cell? ⟨w1.heap.size, 1, none⟩ = some (.int .i64 2) := (hb2.cell (p := ⟨w1.heap.size, 1, none⟩) (show w1.heap.size < _ by (try simp only [World.size_alloc]); omega)).trans (by go_simp)
  have ma2 : w2.cell? ⟨w1.heap.size, 2, none⟩ = some (.slice a1 0 ac1) := (hb2.cell (p := ⟨w1.heap.size, 2, none⟩) (show w1.heap.size < _ by (try simp only [World.size_alloc]); omega)).trans (by go_simp)
  have ma3 : w2.cell? ⟨w1.heap.size, 3, none⟩ = some (.int .i64 2) := (hb2.cell (p := ⟨w1.heap.size, 3, none⟩) (show w1.heap.size < _ by (try simp only [World.size_alloc]); omega)).trans (by go_simp)
  have ma4 : w2.cell? ⟨w1.heap.size, 4, none⟩ = some (.int .i64 2) := (hb2.cell (p := ⟨w1.heap.size, 4, none⟩) (show w1.heap.size < _ by (try simp only [World.size_alloc]); omega)).trans (by go_simp)
  have ma5 : w2.cell? ⟨w1.heap.size, 5, none⟩ = some (.slice a2 0 ac2) := (hb2.cell (p := ⟨w1.heap.size, 5, none⟩) (show w1.heap.size < _ by (try simp only [World.size_alloc]); omega)).trans (by go_simp)
  have ma6 : w2.cell? ⟨w1.heap.size, 6, none⟩ = some (.slice a3 0 ac3) := (hb2.cell (p := ⟨w1.heap.size, 6, none⟩) (show w1.heap.size < _ by (try simp only [World.size_alloc]); omega)).trans (by go_simp)
  have HB2 := Lib.hid ((HB1.out.alloc (by omega) _).trans (hb2.mono (by (try simp only [World.size_alloc]); omega)))
  clear hb2  HB1
  have ka0 := ma0
  have ka1 := ma1
  have ka2 := ma2
  have ka3 := ma3
  have ka4 := ma4
  have ka5 := ma5
  have ka6 := ma6
  clear ma0 ma1 ma2 ma3 ma4 ma5 ma6
  have ca0 : ∀ o, (w2.alloc o).cell? ⟨w1.heap.size, 0, none⟩ = some (.int .i64 2) := fun o => (World.cell?_alloc_lt w2 o _ (show w1.heap.size < w2.heap.size by omega)).trans ka0
  have ca1 : ∀ o, (w2.alloc o).cell? ⟨w1.heap.size, 1, none⟩ = some (.int .i64 2) := fun o => (World.cell?_alloc_lt w2 o _ (show w1.heap.size < w2.heap.size by omega)).trans ka1
  have ca2 : ∀ o, (w2.alloc o).cell? ⟨w1.heap.size, 2, none⟩ = some (.slice a1 0 ac1) := fun o => (World.cell?_alloc_lt w2 o _ (show w1.heap.size < w2.heap.size by omega)).trans ka2
  have ca3 : ∀ o, (w2.alloc o).cell? ⟨w1.heap.size, 3, none⟩ = some (.int .i64 2) := fun o => (World.cell?_alloc_lt w2 o _ (show w1.heap.size < w2.heap.size by omega)).trans ka3
  have ca4 : ∀ o, (w2.alloc o).cell? ⟨w1.heap.size, 4, none⟩ = some (.int .i64 2) := fun o => (World.cell?_alloc_lt w2 o _ (show w1.heap.size < w2.heap.size by omega)).trans ka4
  have ca5 : ∀ o, (w2.alloc o).cell? ⟨w1.heap.size, 5, none⟩ = some (.slice a2 0 ac2) := fun o => (World.cell?_alloc_lt w2 o _ (show w1.heap.size < w2.heap.size by omega)).trans ka5
  have ca6 : ∀ o, (w2.alloc o).cell? ⟨w1.heap.size, 6, none⟩ = some (.slice a3 0 ac3) := fun o => (World.cell?_alloc_lt w2 o _ (show w1.heap.size < w2.heap.size by omega)).trans ka6
  unfold desk0
  go_wp2_with fail
  refine (eqDesk_0 2 2 b1 bc1 b2 bc2 b3 bc3 a1 ac1 a2 ac2 a3 ac3 _).mono ?_
  rintro e w3 ⟨rfl, hb3⟩
  have hz3 := hb3.size
  simp only [World.size_alloc] at hz3
  have ma0 : w3.cell? ⟨w1.heap.size, 0, none⟩ = some (.int .i64 2) := (hb3.cell (p := ⟨w1.heap.size, 0, none⟩) (show w1.heap.size < _ by (try simp only [World.size_alloc]); omega)).trans ((World.cell?_alloc_lt w2 _ _ (show w1.heap.size < w2.heap.size by omega)).trans ka0)
  have ma1 : w3.cell? ⟨w1.heap.size, 1, none⟩ = some (.int .i64 2) := (hb3.cell (p := ⟨w1.heap.size, 1, none⟩) (show w1.heap.size < _ by (try simp only [World.size_alloc]); omega)).trans ((World.cell?_alloc_lt w2 _ _ (show w1.heap.size < w2.heap.size by omega)).trans ka1)
  have ma2 : w3.cell? ⟨w1.heap.size, 2, none⟩ = some (.slice a1 0 ac1) := (hb3.cell (p := ⟨w1.heap.size, 2, none⟩) (show w1.heap.size < _ by (try simp only [World.size_alloc]); omega)).trans ((World.cell?_alloc_lt w2 _ _ (show w1.heap.size < w2.heap.size by omega)).trans ka2)
  have ma3 : w3.cell? ⟨w1.heap.size, 3, none⟩ = some (.int .i64 2) := (hb3.cell (p := ⟨w1.heap.size, 3, none⟩) (show w1.heap.size < _ by (try simp only [World.size_alloc]); omega)).trans ((World.cell?_alloc_lt w2 _ _ (show w1.heap.size < w2.heap.size by omega)).trans ka3)
  have ma4 : w3.cell? ⟨w1.heap.size, 4, none⟩ = some (.int .i64 2) := (hb3.cell (p := ⟨w1.heap.size, 4, none⟩) (show w1.heap.size < _ by (try simp only [World.size_alloc]); omega)).trans ((World.cell?_alloc_lt w2 _ _ (show w1.heap.size < w2.heap.size by omega)).trans ka4)
  have ma5 : w3.cell? ⟨w1.heap.size, 5, none⟩ = some (.slice a2 0 ac2) := (hb3.cell (p := ⟨w1.heap.size, 5, none⟩) (show w1.heap.size < _ by (try simp only [World.size_alloc]); omega)).trans ((World.cell?_alloc_lt w2 _ _ (show w1.heap.size < w2.heap.size by omega)).trans ka5)
  have ma6 : w3.cell? ⟨w1.heap.size, 6, none⟩ = some (.slice a3 0 ac3) := (hb3.cell (p := ⟨w1.heap.size, 6, none⟩) (show w1.heap.size < _ by (try simp only [World.size_alloc]); omega)).trans ((World.cell?_alloc_lt w2 _ _ (show w1.heap.size < w2.heap.size by omega)).trans ka6)
  have mb0 : w3.cell? ⟨w2.heap.size, 0, none⟩ = some (.int .i64 2) := (hb3.cell (p := ⟨w2.heap.size, 0, none⟩) (show w2.heap.size < _ by (try simp only [World.size_alloc]); omega)).trans (by go_simp)
  have mb1 : w3.cell? ⟨w2.heap.size, 1, none⟩ = some (.int .i64 2) := (hb3.cell (p := ⟨w2.heap.size, 1, none⟩) (show w2.heap.size < _ by (try simp only [World.size_alloc]); omega)).trans (by go_simp)
  have mb2 : w3.cell? ⟨w2.heap.size, 2, none⟩ = some (.slice b1 0 bc1) := (hb3.cell (p := ⟨w2.heap.size, 2, none⟩) (show w2.heap.size < _ by (try simp only [World.size_alloc]); omega)).trans (by go_simp)
  have mb3 : w3.cell? ⟨w2.heap.size, 3, none⟩ = some (.int .i64 2) := (hb3.cell (p := ⟨w2.heap.size, 3, none⟩) (show w2.heap.size < _ by (try simp only [World.size_alloc]); omega)).trans (by go_simp)
  have mb4 : w3.cell? ⟨w2.heap.size, 4, none⟩ = some (.int .i64 2) := (hb3.cell (p := ⟨w2.heap.size, 4, none⟩) (show w2.heap.size < _ by (try simp only [World.size_alloc]); omega)).trans (by go_simp)
  have mb5 : w3.cell? ⟨w2.heap.size, 5, none⟩ = some (.slice b2 0 bc2) := (hb3.cell (p := ⟨w2.heap.size, 5, none⟩) (show w2.heap.size < _ by (try simp only [World.size_alloc]); omega)).trans (by go_simp)
  have mb6 : w3.cell? ⟨w2.heap.size, 6, none⟩ = some (.slice b3 0 bc3) := (hb3.cell (p := ⟨w2.heap.size, 6, none⟩) (show w2.heap.size < _ by (try simp only [World.size_alloc]); omega)).trans (by go_simp)
  have HB3 := Lib.hid ((HB2.out.alloc (by omega) _).trans (hb3.mono (by (try simp only [World.size_alloc]); omega)))
  clear hb3 ka0 ka1 ka2 ka3 ka4 ka5 ka6 HB2
  have ka0 := ma0
  have ka1 := ma1
  have ka2 := ma2
  have ka3 := ma3
  have ka4 := ma4
  have ka5 := ma5
  have ka6 := ma6
  clear ma0 ma1 ma2 ma3 ma4 ma5 ma6
  have kb0 := mb0
  have kb1 := mb1
  have kb2 := mb2
  have kb3 := mb3
  have kb4 := mb4
  have kb5 := mb5
  have kb6 := mb6
  clear mb0 mb1 mb2 mb3 mb4 mb5 mb6
  clear ca0 ca1 ca2 ca3 ca4 ca5 ca6
  go_wp2_with fail
  refine (markDesk_0 2 2 b1 bc1 b2 bc2 b3 bc3 1 (by omega) (by omega) _).mono ?_
  rintro e w4 ⟨rfl, hb4⟩
  have hz4 := hb4.size
  have ma0 : w4.cell? ⟨w1.heap.size, 0, none⟩ = some (.int .i64 2) := (hb4.cell (p := ⟨w1.heap.size, 0, none⟩) (show w1.heap.size < _ by (try simp only [World.size_alloc]); omega)).trans ka0
  have ma1 : w4.cell? ⟨w1.heap.size, 1, none⟩ = some (.int .i64 2) := (hb4.cell (p := ⟨w1.heap.size, 1, none⟩) (show w1.heap.size < _ by (try simp only [World.size_alloc]); omega)).trans ka1
  have ma2 : w4.cell? ⟨w1.heap.size, 2, none⟩ = some (.slice a1 0 ac1) := (hb4.cell (p := ⟨w1.heap.size, 2, none⟩) (show w1.heap.size < _ by (try simp only [World.size_alloc]); omega)).trans ka2
  have ma3 : w4.cell? ⟨w1.heap.size, 3, none⟩ = some (.int .i64 2) := (hb4.cell (p := ⟨w1.heap.size, 3, none⟩) (show w1.heap.size < _ by (try simp only [World.size_alloc]); omega)).trans ka3
  have ma4 : w4.cell? ⟨w1.heap.size, 4, none⟩ = some (.int .i64 2) := (hb4.cell (p := ⟨w1.heap.size, 4, none⟩) (show w1.heap.size < _ by (try simp only [World.size_alloc]); omega)).trans ka4
  have ma5 : w4.cell? ⟨w1.heap.size, 5, none⟩ = some (.slice a2 0 ac2) := (hb4.cell (p := ⟨w1.heap.size, 5, none⟩) (show w1.heap.size < _ by (try simp only [World.size_alloc]); omega)).trans ka5
  have ma6 : w4.cell? ⟨w1.heap.size, 6, none⟩ = some (.slice a3 0 ac3) := (hb4.cell (p := ⟨w1.heap.size, 6, none⟩) (show w1.heap.size < _ by (try simp only [World.size_alloc]); omega)).trans ka6
  have mb0 : w4.cell? ⟨w2.heap.size, 0, none⟩ = some (.int .i64 2) := (hb4.cell (p := ⟨w2.heap.size, 0, none⟩) (show w2.heap.size < _ by (try simp only [World.size_alloc]); omega)).trans kb0
  have mb1 : w4.cell? ⟨w2.heap.size, 1, none⟩ = some (.int .i64 2) := (hb4.cell (p := ⟨w2.heap.size, 1, none⟩) (show w2.heap.size < _ by (try simp only [World.size_alloc]); omega)).trans kb1
  have mb2 : w4.cell? ⟨w2.heap.size, 2, none⟩ = some (.slice b1 0 bc1) := (hb4.cell (p := ⟨w2.heap.size, 2, none⟩) (show w2.heap.size < _ by (try simp only [World.size_alloc]); omega)).trans kb2
  have mb3 : w4.cell? ⟨w2.heap.size, 3, none⟩ = some (.int .i64 2) := (hb4.cell (p := ⟨w2.heap.size, 3, none⟩) (show w2.heap.size < _ by (try simp only [World.size_alloc]); omega)).trans kb3
  have mb4 : w4.cell? ⟨w2.heap.size, 4, none⟩ = some (.int .i64 2) := (hb4.cell (p := ⟨w2.heap.size, 4, none⟩) (show w2.heap.size < _ by (try simp only [World.size_alloc]); omega)).trans kb4
  have mb5 : w4.cell? ⟨w2.heap.size, 5, none⟩ = some (.slice b2 0 bc2) := (hb4.cell (p := ⟨w2.heap.size, 5, none⟩) (show w2.heap.size < _ by (try simp only [World.size_alloc]); omega)).trans kb5
  have mb6 : w4.cell? ⟨w2.heap.size, 6, none⟩ = some (.slice b3 0 bc3) := (hb4.cell (p := ⟨w2.heap.size, 6, none⟩) (show w2.heap.size < _ by (try simp only [World.size_alloc]); omega)).trans kb6
  have HB4 := Lib.hid (HB3.out.trans (hb4.mono (by (try simp only [World.size_alloc]); omega)))
  clear hb4 ka0 ka1 ka2 ka3 ka4 ka5 ka6 kb0 kb1 kb2 kb3 kb4 kb5 kb6 HB3
  have ka0 := ma0
  have ka1 := ma1
  have ka2 := ma2
  have ka3 := ma3
  have ka4 := ma4
  have ka5 := ma5
  have ka6 := ma6
  clear ma0 ma1 ma2 ma3 ma4 ma5 ma6
  have kb0 := mb0
  have kb1 := mb1
  have kb2 := mb2
  have kb3 := mb3
  have kb4 := mb4
  have kb5 := mb5
  have kb6 := mb6
  clear mb0 mb1 mb2 mb3 mb4 mb5 mb6
  go_wp2_with fail
  refine (heldDesk_0 2 2 b1 bc1 b2 bc2 b3 bc3 1 (by omega) (by omega) _).mono ?_
  rintro e w5 ⟨rfl, hb5⟩
  have hz5 := hb5.size
  have ma0 : w5.cell? ⟨w1.heap.size, 0, none⟩ = some (.int .i64 2) := (hb5.cell (p := ⟨w1.heap.size, 0, none⟩) (show w1.heap.size < _ by (try simp only [World.size_alloc]); omega)).trans ka0
  have ma1 : w5.cell? ⟨w1.heap.size, 1, none⟩ = some (.int .i64 2) := (hb5.cell (p := ⟨w1.heap.size, 1, none⟩) (show w1.heap.size < _ by (try simp only [World.size_alloc]); omega)).trans ka1
  have ma2 : w5.cell? ⟨w1.heap.size, 2, none⟩ = some (.slice a1 0 ac1) := (hb5.cell (p := ⟨w1.heap.size, 2, none⟩) (show w1.heap.size < _ by (try simp only [World.size_alloc]); omega)).trans ka2
  have ma3 : w5.cell? ⟨w1.heap.size, 3, none⟩ = some (.int .i64 2) := (hb5.cell (p := ⟨w1.heap.size, 3, none⟩) (show w1.heap.size < _ by (try simp only [World.size_alloc]); omega)).trans ka3
  have ma4 : w5.cell? ⟨w1.heap.size, 4, none⟩ = some (.int .i64 2) := (hb5.cell (p := ⟨w1.heap.size, 4, none⟩) (show w1.heap.size < _ by (try simp only [World.size_alloc]); omega)).trans ka4
  have ma5 : w5.cell? ⟨w1.heap.size, 5, none⟩ = some (.slice a2 0 ac2) := (hb5.cell (p := ⟨w1.heap.size, 5, none⟩) (show w1.heap.size < _ by (try simp only [World.size_alloc]); omega)).trans ka5
  have ma6 : w5.cell? ⟨w1.heap.size, 6, none⟩ = some (.slice a3 0 ac3) := (hb5.cell (p := ⟨w1.heap.size, 6, none⟩) (show w1.heap.size < _ by (try simp only [World.size_alloc]); omega)).trans ka6
  have mb0 : w5.cell? ⟨w2.heap.size, 0, none⟩ = some (.int .i64 2) := (hb5.cell (p := ⟨w2.heap.size, 0, none⟩) (show w2.heap.size < _ by (try simp only [World.size_alloc]); omega)).trans kb0
  have mb1 : w5.cell? ⟨w2.heap.size, 1, none⟩ = some (.int .i64 2) := (hb5.cell (p := ⟨w2.heap.size, 1, none⟩) (show w2.heap.size < _ by (try simp only [World.size_alloc]); omega)).trans kb1
  have mb2 : w5.cell? ⟨w2.heap.size, 2, none⟩ = some (.slice b1 0 bc1) := (hb5.cell (p := ⟨w2.heap.size, 2, none⟩) (show w2.heap.size < _ by (try simp only [World.size_alloc]); omega)).trans kb2
  have mb3 : w5.cell? ⟨w2.heap.size, 3, none⟩ = some (.int .i64 2) := (hb5.cell (p := ⟨w2.heap.size, 3, none⟩) (show w2.heap.size < _ by (try simp only [World.size_alloc]); omega)).trans kb3
  have mb4 : w5.cell? ⟨w2.heap.size, 4, none⟩ = some (.int .i64 2) := (hb5.cell (p := ⟨w2.heap.size, 4, none⟩) (show w2.heap.size < _ by (try simp only [World.size_alloc]); omega)).trans kb4
  have mb5 : w5.cell? ⟨w2.heap.size, 5, none⟩ = some (.slice b2 0 bc2) := (hb5.cell (p := ⟨w2.heap.size, 5, none⟩) (show w2.heap.size < _ by (try simp only [World.size_alloc]); omega)).trans kb5
  have mb6 : w5.cell? ⟨w2.heap.size, 6, none⟩ = some (.slice b3 0 bc3) := (hb5.cell (p := ⟨w2.heap.size, 6, none⟩) (show w2.heap.size < _ by (try simp only [World.size_alloc]); omega)).trans kb6
  have HB5 := Lib.hid (HB4.out.trans (hb5.mono (by (try simp only [World.size_alloc]); omega)))
  clear hb5 ka0 ka1 ka2 ka3 ka4 ka5 ka6 kb0 kb1 kb2 kb3 kb4 kb5 kb6 HB4
  have ka0 := ma0
  have ka1 := ma1
  have ka2 := ma2
  have ka3 := ma3
  have ka4 := ma4
  have ka5 := ma5
  have ka6 := ma6
  clear ma0 ma1 ma2 ma3 ma4 ma5 ma6
  have kb0 := mb0
  have kb1 := mb1
  have kb2 := mb2
  have kb3 := mb3
  have kb4 := mb4
  have kb5 := mb5
  have kb6 := mb6
  clear mb0 mb1 mb2 mb3 mb4 mb5 mb6
  go_wp2_with fail
  refine (iNewDesk_c _).mono ?_
  rintro e w6 ⟨c1, cc1, c2, cc2, c3, cc3, rfl, hb6⟩
  have hz6 := hb6.size
  have ma0 : w6.cell? ⟨w1.heap.size, 0, none⟩ = some (.int .i64 2) := (hb6.cell (p := ⟨w1.heap.size, 0, none⟩) (show w1.heap.size < _ by (try simp only [World.size_alloc]); omega)).trans ka0
  have ma1 : w6.cell? ⟨w1.heap.size, 1, none⟩ = some (.int .i64 2) := (hb6.cell (p := ⟨w1.heap.size, 1, none⟩) (show w1.heap.size < _ by (try simp only [World.size_alloc]); omega)).trans ka1
  have ma2 : w6.cell? ⟨w1.heap.size, 2, none⟩ = some (.slice a1 0 ac1) := (hb6.cell (p := ⟨w1.heap.size, 2, none⟩) (show w1.heap.size < _ by (try simp only [World.size_alloc]); omega)).trans ka2
  have ma3 : w6.cell? ⟨w1.heap.size, 3, none⟩ = some (.int .i64 2) := (hb6.cell (p := ⟨w1.heap.size, 3, none⟩) (show w1.heap.size < _ by (try simp only [World.size_alloc]); omega)).trans ka3
  have ma4 : w6.cell? ⟨w1.heap.size, 4, none⟩ = some (.int .i64 2) := (hb6.cell (p := ⟨w1.heap.size, 4, none⟩) (show w1.heap.size < _ by (try simp only [World.size_alloc]); omega)).trans ka4
  have ma5 : w6.cell? ⟨w1.heap.size, 5, none⟩ = some (.slice a2 0 ac2) := (hb6.cell (p := ⟨w1.heap.size, 5, none⟩) (show w1.heap.size < _ by (try simp only [World.size_alloc]); omega)).trans ka5
  have ma6 : w6.cell? ⟨w1.heap.size, 6, none⟩ = some (.slice a3 0 ac3) := (hb6.cell (p := ⟨w1.heap.size, 6, none⟩) (show w1.heap.size < _ by (try simp only [World.size_alloc]); omega)).trans ka6
  have mb0 : w6.cell? ⟨w2.heap.size, 0, none⟩ = some (.int .i64 2) := (hb6.cell (p := ⟨w2.heap.size, 0, none⟩) (show w2.heap.size < _ by (try simp only [World.size_alloc]); omega)).trans kb0
  have mb1 : w6.cell? ⟨w2.heap.size, 1, none⟩ = some (.int .i64 2) := (hb6.cell (p := ⟨w2.heap.size, 1, none⟩) (show w2.heap.size < _ by (try simp only [World.size_alloc]); omega)).trans kb1
  have mb2 : w6.cell? ⟨w2.heap.size, 2, none⟩ = some (.slice b1 0 bc1) := (hb6.cell (p := ⟨w2.heap.size, 2, none⟩) (show w2.heap.size < _ by (try simp only [World.size_alloc]); omega)).trans kb2
  have mb3 : w6.cell? ⟨w2.heap.size, 3, none⟩ = some (.int .i64 2) := (hb6.cell (p := ⟨w2.heap.size, 3, none⟩) (show w2.heap.size < _ by (try simp only [World.size_alloc]); omega)).trans kb3
  have mb4 : w6.cell? ⟨w2.heap.size, 4, none⟩ = some (.int .i64 2) := (hb6.cell (p := ⟨w2.heap.size, 4, none⟩) (show w2.heap.size < _ by (try simp only [World.size_alloc]); omega)).trans kb4
  have mb5 : w6.cell? ⟨w2.heap.size, 5, none⟩ = some (.slice b2 0 bc2) := (hb6.cell (p := ⟨w2.heap.size, 5, none⟩) (show w2.heap.size < _ by (try simp only [World.size_alloc]); omega)).trans kb5
  have mb6 : w6.cell? ⟨w2.heap.size, 6, none⟩ = some (.slice b3 0 bc3) := (hb6.cell (p := ⟨w2.heap.size, 6, none⟩) (show w2.heap.size < _ by (try simp only [World.size_alloc]); omega)).trans kb6
  have HB6 := Lib.hid (HB5.out.trans (hb6.mono (by (try simp only [World.size_alloc]); omega)))
  clear hb6 ka0 ka1 ka2 ka3 ka4 ka5 ka6 kb0 kb1 kb2 kb3 kb4 kb5 kb6 HB5
  have ka0 := ma0
  have ka1 := ma1
  have ka2 := ma2
  have ka3 := ma3
  have ka4 := ma4
  have ka5 := ma5
  have ka6 := ma6
  clear ma0 ma1 ma2 ma3 ma4 ma5 ma6
  have kb0 := mb0
  have kb1 := mb1
  have kb2 := mb2
  have kb3 := mb3
  have kb4 := mb4
  have kb5 := mb5
  have kb6 := mb6
  clear mb0 mb1 mb2 mb3 mb4 mb5 mb6
  have ca0 : ∀ o, (w6.alloc o).cell? ⟨w1.heap.size, 0, none⟩ = some (.int .i64 2) := fun o => (World.cell?_alloc_lt w6 o _ (show w1.heap.size < w6.heap.size by omega)).trans ka0
  have ca1 : ∀ o, (w6.alloc o).cell? ⟨w1.heap.size, 1, none⟩ = some (.int .i64 2) := fun o => (World.cell?_alloc_lt w6 o _ (show w1.heap.size < w6.heap.size by omega)).trans ka1
  have ca2 : ∀ o, (w6.alloc o).cell? ⟨w1.heap.size, 2, none⟩ = some (.slice a1 0 ac1) := fun o => (World.cell?_alloc_lt w6 o _ (show w1.heap.size < w6.heap.size by omega)).trans ka2
  have ca3 : ∀ o, (w6.alloc o).cell? ⟨w1.heap.size, 3, none⟩ = some (.int .i64 2) := fun o => (World.cell?_alloc_lt w6 o _ (show w1.heap.size < w6.heap.size by omega)).trans ka3
  have ca4 : ∀ o, (w6.alloc o).cell? ⟨w1.heap.size, 4, none⟩ = some (.int .i64 2) := fun o => (World.cell?_alloc_lt w6 o _ (show w1.heap.size < w6.heap.size by omega)).trans ka4
  have ca5 : ∀ o, (w6.alloc o).cell? ⟨w1.heap.size, 5, none⟩ = some (.slice a2 0 ac2) := fun o => (World.cell?_alloc_lt w6 o _ (show w1.heap.size < w6.heap.size by omega)).trans ka5
  have ca6 : ∀ o, (w6.alloc o).cell? ⟨w1.heap.size, 6, none⟩ = some (.slice a3 0 ac3) := fun o => (World.cell?_alloc_lt w6 o _ (show w1.heap.size < w6.heap.size by omega)).trans ka6
  have cb0 : ∀ o, (w6.alloc o).cell? ⟨w2.heap.size, 0, none⟩ = some (.int .i64 2) := fun o => (World.cell?_alloc_lt w6 o _ (show w2.heap.size < w6.heap.size by omega)).trans kb0
  have cb1 : ∀ o, (w6.alloc o).cell? ⟨w2.heap.size, 1, none⟩ = some (.int .i64 2) := fun o => (World.cell?_alloc_lt w6 o _ (show w2.heap.size < w6.heap.size by omega)).trans kb1
  have cb2 : ∀ o, (w6.alloc o).cell? ⟨w2.heap.size, 2, none⟩ = some (.slice b1 0 bc1) := fun o => (World.cell?_alloc_lt w6 o _ (show w2.heap.size < w6.heap.size by omega)).trans kb2
  have cb3 : ∀ o, (w6.alloc o).cell? ⟨w2.heap.size, 3, none⟩ = some (.int .i64 2) := fun o => (World.cell?_alloc_lt w6 o _ (show w2.heap.size < w6.heap.size by omega)).trans kb3
  have cb4 : ∀ o, (w6.alloc o).cell? ⟨w2.heap.size, 4, none⟩ = some (.int .i64 2) := fun o => (World.cell?_alloc_lt w6 o _ (show w2.heap.size < w6.heap.size by omega)).trans kb4
  have cb5 : ∀ o, (w6.alloc o).cell? ⟨w2.heap.size, 5, none⟩ = some (.slice b2 0 bc2) := fun o => (World.cell?_alloc_lt w6 o _ (show w2.heap.size < w6.heap.size by omega)).trans kb5
  have cb6 : ∀ o, (w6.alloc o).cell? ⟨w2.heap.size, 6, none⟩ = some (.slice b3 0 bc3) := fun o => (World.cell?_alloc_lt w6 o _ (show w2.heap.size < w6.heap.size by omega)).trans kb6
  unfold desk0
  go_wp2_with fail
  refine (eqDesk_0 2 2 c1 cc1 c2 cc2 c3 cc3 a1 ac1 a2 ac2 a3 ac3 _).mono ?_
  rintro e w7 ⟨rfl, hb7⟩
  have hz7 := hb7.size
  simp only [World.size_alloc] at hz7
  have ma0 : w7.cell? ⟨w1.heap.size, 0, none⟩ = some (.int .i64 2) := (hb7.cell (p := ⟨w1.heap.size, 0, none⟩) (show w1.heap.size < _ by (try simp only [World.size_alloc]); omega)).trans ((World.cell?_alloc_lt w6 _ _ (show w1.heap.size < w6.heap.size by omega)).trans ka0)
  have ma1 : w7.cell? ⟨w1.heap.size, 1, none⟩ = some (.int .i64 2) := (hb7.cell (p := ⟨w1.heap.size, 1, none⟩) (show w1.heap.size < _ by (try simp only [World.size_alloc]); omega)).trans ((World.cell?_alloc_lt w6 _ _ (show w1.heap.size < w6.heap.size by omega)).trans ka1)
  have ma2 : w7.cell? ⟨w1.heap.size, 2, none⟩ = some (.slice a1 0 ac1) := (hb7.cell (p := ⟨w1.heap.size, 2, none⟩) (show w1.heap.size < _ by (try simp only [World.size_alloc]); omega)).trans ((World.cell?_alloc_lt w6 _ _ (show w1.heap.size < w6.heap.size by omega)).trans ka2)
  have ma3 : w7.cell? ⟨w1.heap.size, 3, none⟩ = some (.int .i64 2) := (hb7.cell (p := ⟨w1.heap.size, 3, none⟩) (show w1.heap.size < _ by (try simp only [World.size_alloc]); omega)).trans ((World.cell?_alloc_lt w6 _ _ (show w1.heap.size < w6.heap.size by omega)).trans ka3)
  have ma4 : w7.cell? ⟨w1.heap.size, 4, none⟩ = some (.int .i64 2) := (hb7.cell (p := ⟨w1.heap.size, 4, none⟩) (show w1.heap.size < _ by (try simp only [World.size_alloc]); omega)).trans ((World.cell?_alloc_lt w6 _ _ (show w1.heap.size < w6.heap.size by omega)).trans ka4)
  have ma5 : w7.cell? ⟨w1.heap.size, 5, none⟩ = some (.slice a2 0 ac2) := (hb7.cell (p := ⟨w1.heap.size, 5, none⟩) (show w1.heap.size < _ by (try simp only [World.size_alloc]); omega)).trans ((World.cell?_alloc_lt w6 _ _ (show w1.heap.size < w6.heap.size by omega)).trans ka5)
  have ma6 : w7.cell? ⟨w1.heap.size, 6, none⟩ = some (.slice a3 0 ac3) := (hb7.cell (p := ⟨w1.heap.size, 6, none⟩) (show w1.heap.size < _ by (try simp only [World.size_alloc]); omega)).trans ((World.cell?_alloc_lt w6 _ _ (show w1.heap.size < w6.heap.size by omega)).trans ka6)
  have mb0 : w7.cell? ⟨w2.heap.size, 0, none⟩ = some (.int .i64 2) := (hb7.cell (p := ⟨w2.heap.size, 0, none⟩) (show w2.heap.size < _ by (try simp only [World.size_alloc]); omega)).trans ((World.cell?_alloc_lt w6 _ _ (show w2.heap.size < w6.heap.size by omega)).trans kb0)
  have mb1 : w7.cell? ⟨w2.heap.size, 1, none⟩ = some (.int .i64 2) := (hb7.cell (p := ⟨w2.heap.size, 1, none⟩) (show w2.heap.size < _ by (try simp only [World.size_alloc]); omega)).trans ((World.cell?_alloc_lt w6 _ _ (show w2.heap.size < w6.heap.size by omega)).trans kb1)
  have mb2 : w7.cell? ⟨w2.heap.size, 2, none⟩ = some (.slice b1 0 bc1) := (hb7.cell (p := ⟨w2.heap.size, 2, none⟩) (show w2.heap.size < _ by (try simp only [World.size_alloc]); omega)).trans ((World.cell?_alloc_lt w6 _ _ (show w2.heap.size < w6.heap.size by omega)).trans kb2)
  have mb3 : w7.cell? ⟨w2.heap.size, 3, none⟩ = some (.int .i64 2) := (hb7.cell (p := ⟨w2.heap.size, 3, none⟩) (show w2.heap.size < _ by (try simp only [World.size_alloc]); omega)).trans ((World.cell?_alloc_lt w6 _ _ (show w2.heap.size < w6.heap.size by omega)).trans kb3)
  have mb4 : w7.cell? ⟨w2.heap.size, 4, none⟩ = some (.int .i64 2) := (hb7.cell (p := ⟨w2.heap.size, 4, none⟩) (show w2.heap.size < _ by (try simp only [World.size_alloc]); omega)).trans ((World.cell?_alloc_lt w6 _ _ (show w2.heap.size < w6.heap.size by omega)).trans kb4)
  have mb5 : w7.cell? ⟨w2.heap.size, 5, none⟩ = some (.slice b2 0 bc2) := (hb7.cell (p := ⟨w2.heap.size, 5, none⟩) (show w2.heap.size < _ by (try simp only [World.size_alloc]); omega)).trans ((World.cell?_alloc_lt w6 _ _ (show w2.heap.size < w6.heap.size by omega)).trans kb5)
  have mb6 : w7.cell? ⟨w2.heap.size, 6, none⟩ = some (.slice b3 0 bc3) := (hb7.cell (p := ⟨w2.heap.size, 6, none⟩) (show w2.heap.size < _ by (try simp only [World.size_alloc]); omega)).trans ((World.cell?_alloc_lt w6 _ _ (show w2.heap.size < w6.heap.size by omega)).trans kb6)
  have mc0 : w7.cell? ⟨w6.heap.size, 0, none⟩ = some (.int .i64 2) := (hb7.cell (p := ⟨w6.heap.size, 0, none⟩) (show w6.heap.size < _ by (try simp only [World.size_alloc]); omega)).trans (by go_simp)
  have mc1 : w7.cell? ⟨w6.heap.size, 1, none⟩ = some (.int .i64 2) := (hb7.cell (p := ⟨w6.heap.size, 1, none⟩) (show w6.heap.size < _ by (try simp only [World.size_alloc]); omega)).trans (by go_simp)
  have mc2 : w7.cell? ⟨w6.heap.size, 2, none⟩ = some (.slice c1 0 cc1) := (hb7.cell (p := ⟨w6.heap.size, 2, none⟩) (show w6.heap.size < _ by (try simp only [World.size_alloc]); omega)).trans (by go_simp)
  have mc3 : w7.cell? ⟨w6.heap.size, 3, none⟩ = some (.int .i64 2) := (hb7.cell (p := ⟨w6.heap.size, 3, none⟩) (show w6.heap.size < _ by (try simp only [World.size_alloc]); omega)).trans (by go_simp)
  have mc4 : w7.cell? ⟨w6.heap.size, 4, none⟩ = some (.int .i64 2) := (hb7.cell (p := ⟨w6.heap.size, 4, none⟩) (show w6.heap.size < _ by (try simp only [World.size_alloc]); omega)).trans (by go_simp)
  have mc5 : w7.cell? ⟨w6.heap.size, 5, none⟩ = some (.slice c2 0 cc2) := (hb7.cell (p := ⟨w6.heap.size, 5, none⟩) (show w6.heap.size < _ by (try simp only [World.size_alloc]); omega)).trans (by go_simp)
  have mc6 : w7.cell? ⟨w6.heap.size, 6, none⟩ = some (.slice c3 0 cc3) := (hb7.cell (p := ⟨w6.heap.size, 6, none⟩) (show w6.heap.size < _ by (try simp only [World.size_alloc]); omega)).trans (by go_simp)
  have HB7 := Lib.hid ((HB6.out.alloc (by omega) _).trans (hb7.mono (by (try simp only [World.size_alloc]); omega)))
  clear hb7 ka0 ka1 ka2 ka3 ka4 ka5 ka6 kb0 kb1 kb2 kb3 kb4 kb5 kb6 HB6
  have ka0 := ma0
  have ka1 := ma1
  have ka2 := ma2
  have ka3 := ma3
  have ka4 := ma4
  have ka5 := ma5
  have ka6 := ma6
  clear ma0 ma1 ma2 ma3 ma4 ma5 ma6
  have kb0 := mb0
  have kb1 := mb1
  have kb2 := mb2
  have kb3 := mb3
  have kb4 := mb4
  have kb5 := mb5
  have kb6 := mb6
  clear mb0 mb1 mb2 mb3 mb4 mb5 mb6
  have kc0 := mc0
  have kc1 := mc1
  have kc2 := mc2
  have kc3 := mc3
  have kc4 := mc4
  have kc5 := mc5
  have kc6 := mc6
  clear mc0 mc1 mc2 mc3 mc4 mc5 mc6
  clear ca0 ca1 ca2 ca3 ca4 ca5 ca6 cb0 cb1 cb2 cb3 cb4 cb5 cb6
  go_wp2_with fail
  refine (heldDesk_0 2 2 b1 bc1 b2 bc2 b3 bc3 1 (by omega) (by omega) _).mono ?_
  rintro e w8 ⟨rfl, hb8⟩
  have hz8 := hb8.size
  have ma0 : w8.cell? ⟨w1.heap.size, 0, none⟩ = some (.int .i64 2) := (hb8.cell (p := ⟨w1.heap.size, 0, none⟩) (show w1.heap.size < _ by (try simp only [World.size_alloc]); omega)).trans ka0
  have ma1 : w8.cell? ⟨w1.heap.size, 1, none⟩ = some (.int .i64 2) := (hb8.cell (p := ⟨w1.heap.size, 1, none⟩) (show w1.heap.size < _ by (try simp only [World.size_alloc]); omega)).trans ka1
  have ma2 : w8.cell? ⟨w1.heap.size, 2, none⟩ = some (.slice a1 0 ac1) := (hb8.cell (p := ⟨w1.heap.size, 2, none⟩) (show w1.heap.size < _ by (try simp only [World.size_alloc]); omega)).trans ka2
  have ma3 : w8.cell? ⟨w1.heap.size, 3, none⟩ = some (.int .i64 2) := (hb8.cell (p := ⟨w1.heap.size, 3, none⟩) (show w1.heap.size < _ by (try simp only [World.size_alloc]); omega)).trans ka3
  have ma4 : w8.cell? ⟨w1.heap.size, 4, none⟩ = some (.int .i64 2) := (hb8.cell (p := ⟨w1.heap.size, 4, none⟩) (show w1.heap.size < _ by (try simp only [World.size_alloc]); omega)).trans ka4
  have ma5 : w8.cell? ⟨w1.heap.size, 5, none⟩ = some (.slice a2 0 ac2) := (hb8.cell (p := ⟨w1.heap.size, 5, none⟩) (show w1.heap.size < _ by (try simp only [World.size_alloc]); omega)).trans ka5
  have ma6 : w8.cell? ⟨w1.heap.size, 6, none⟩ = some (.slice a3 0 ac3) := (hb8.cell (p := ⟨w1.heap.size, 6, none⟩) (show w1.heap.size < _ by (try simp only [World.size_alloc]); omega)).trans ka6
  have mb0 : w8.cell? ⟨w2.heap.size, 0, none⟩ = some (.int .i64 2) := (hb8.cell (p := ⟨w2.heap.size, 0, none⟩) (show w2.heap.size < _ by (try simp only [World.size_alloc]); omega)).trans kb0
  have mb1 : w8.cell? ⟨w2.heap.size, 1, none⟩ = some (.int .i64 2) := (hb8.cell (p := ⟨w2.heap.size, 1, none⟩) (show w2.heap.size < _ by (try simp only [World.size_alloc]); omega)).trans kb1
  have mb2 : w8.cell? ⟨w2.heap.size, 2, none⟩ = some (.slice b1 0 bc1) := (hb8.cell (p := ⟨w2.heap.size, 2, none⟩) (show w2.heap.size < _ by (try simp only [World.size_alloc]); omega)).trans kb2
  have mb3 : w8.cell? ⟨w2.heap.size, 3, none⟩ = some (.int .i64 2) := (hb8.cell (p := ⟨w2.heap.size, 3, none⟩) (show w2.heap.size < _ by (try simp only [World.size_alloc]); omega)).trans kb3
  have mb4 : w8.cell? ⟨w2.heap.size, 4, none⟩ = some (.int .i64 2) := (hb8.cell (p := ⟨w2.heap.size, 4, none⟩) (show w2.heap.size < _ by (try simp only [World.size_alloc]); omega)).trans kb4
  have mb5 : w8.cell? ⟨w2.heap.size, 5, none⟩ = some (.slice b2 0 bc2) := (hb8.cell (p := ⟨w2.heap.size, 5, none⟩) (show w2.heap.size < _ by (try simp only [World.size_alloc]); omega)).trans kb5
  have mb6 : w8.cell? ⟨w2.heap.size, 6, none⟩ = some (.slice b3 0 bc3) := (hb8.cell (p := ⟨w2.heap.size, 6, none⟩) (show w2.heap.size < _ by (try simp only [World.size_alloc]); omega)).trans kb6
  have mc0 : w8.cell? ⟨w6.heap.size, 0, none⟩ = some (.int .i64 2) := (hb8.cell (p := ⟨w6.heap.size, 0, none⟩) (show w6.heap.size < _ by (try simp only [World.size_alloc]); omega)).trans kc0
  have mc1 : w8.cell? ⟨w6.heap.size, 1, none⟩ = some (.int .i64 2) := (hb8.cell (p := ⟨w6.heap.size, 1, none⟩) (show w6.heap.size < _ by (try simp only [World.size_alloc]); omega)).trans kc1
  have mc2 : w8.cell? ⟨w6.heap.size, 2, none⟩ = some (.slice c1 0 cc1) := (hb8.cell (p := ⟨w6.heap.size, 2, none⟩) (show w6.heap.size < _ by (try simp only [World.size_alloc]); omega)).trans kc2
  have mc3 : w8.cell? ⟨w6.heap.size, 3, none⟩ = some (.int .i64 2) := (hb8.cell (p := ⟨w6.heap.size, 3, none⟩) (show w6.heap.size < _ by (try simp only [World.size_alloc]); omega)).trans kc3
  have mc4 : w8.cell? ⟨w6.heap.size, 4, none⟩ = some (.int .i64 2) := (hb8.cell (p := ⟨w6.heap.size, 4, none⟩) (show w6.heap.size < _ by (try simp only [World.size_alloc]); omega)).trans kc4
  have mc5 : w8.cell? ⟨w6.heap.size, 5, none⟩ = some (.slice c2 0 cc2) := (hb8.cell (p := ⟨w6.heap.size, 5, none⟩) (show w6.heap.size < _ by (try simp only [World.size_alloc]); omega)).trans kc5
  have mc6 : w8.cell? ⟨w6.heap.size, 6, none⟩ = some (.slice c3 0 cc3) := (hb8.cell (p := ⟨w6.heap.size, 6, none⟩) (show w6.heap.size < _ by (try simp only [World.size_alloc]); omega)).trans kc6
  have HB8 := Lib.hid (HB7.out.trans (hb8.mono (by (try simp only [World.size_alloc]); omega)))
  clear hb8 ka0 ka1 ka2 ka3 ka4 ka5 ka6 kb0 kb1 kb2 kb3 kb4 kb5 kb6 kc0 kc1 kc2 kc3 kc4 kc5 kc6 HB7
  have ka0 := ma0
  have ka1 := ma1
  have ka2 := ma2
  have ka3 := ma3
  have ka4 := ma4
  have ka5 := ma5
  have ka6 := ma6
  clear ma0 ma1 ma2 ma3 ma4 ma5 ma6
  have kb0 := mb0
  have kb1 := mb1
  have kb2 := mb2
  have kb3 := mb3
  have kb4 := mb4
  have kb5 := mb5
  have kb6 := mb6
  clear mb0 mb1 mb2 mb3 mb4 mb5 mb6
  have kc0 := mc0
  have kc1 := mc1
  have kc2 := mc2
  have kc3 := mc3
  have kc4 := mc4
  have kc5 := mc5
  have kc6 := mc6
  clear mc0 mc1 mc2 mc3 mc4 mc5 mc6
  go_wp2
  go_ret
  exact ⟨rfl, HB8.out⟩

namespace fnExactNewDesk
set_option maxRecDepth 100000 in
theorem lifted (os : Os) (started : os.Started) (H : Type) (enc : TypeId × Value → H) :
    ReturnsInHanded {} Try.checked os 4 .any (Rows.fnExactNewDeskSpec.pre6 enc Try.prog Try.f4 Rows.fnExactNewDeskRow.domain false) (Rows.fnExactNewDeskSpec.post enc Try.prog Try.f4 false true false false) := by
  refine returnsInHanded_of_change (C := Try.checked) seatOwn started (by kernel_rfl) Try.func4
    (ChangeSpec.witness6 (enc := enc) (C := Try.checked) false ⟨#[], #[], []⟩ 8 (by kernel_rfl) (by kernel_rfl) (by kernel_rfl) (by kernel_rfl)) ?_
  intro W base args ds gs before hval0 hW _ _
  have hval : ∀ (j : Nat) t v, Try.f4.params[j]? = some t → args[j]? = some v → Value.okWide Try.prog W .any base t v := hval0
  have hW' := hW
  have hlt : ∀ x ∈ before, x.block < W.heap.size := fun x hx => hW.lt x hx
  obtain ⟨p, q, hA0, hV, rfl, _, _⟩ := hW
  have hA : DataW.TrodAll enc Try.prog W 0 (fun _ => true) true Try.f4.params.toList args.toList ds p := hA0
  rw [Try.params4] at hA hval
  obtain ⟨hnil, rfl, rfl⟩ := trodAll_nil hA
  obtain rfl : args = #[] := by cases args; simp_all
  obtain ⟨rfl, rfl⟩ := trodVars_none hV
  clear hA0 hval0
  simp only [List.append_nil] at hW' hlt
  refine (main_NewDesk  W ).mono fun e W' ⟨he, hg⟩ => ?_
  subst he
  exact ⟨_, rfl, shut_reads (pa := []) hW' (fun _ _ _ => (trodAll_cons_mk (shut_bool Try.underlying4 _) trodAll_mk0)) trodAll_mk0 (fun _ => rfl) hg⟩

theorem over : Rows.fnExactNewDeskRow.holds Try.pinned (OpenSpec.ofChange Rows.fnExactNewDeskSpec) :=
  OpenClaim.holds_of_wide 4 Try.f4 rfl rfl rfl rfl rfl rfl rfl ⟨rfl, rfl, rfl, rfl, rfl⟩ rfl rfl rfl rfl rfl (by kernel_rfl) Try.func4 (by kernel_rfl)
    (of_decide_eq_true (by kernel_rfl)) (by unfold Func.isWrapper; first | (rw [if_pos (by decide +kernel)]; kernel_rfl) | (rw [if_neg (by decide +kernel)]; exact ⟨rfl, rfl⟩))
    (fun os started H enc _ => lifted os started H enc)

theorem proved : Rows.FnExactNewDeskSaid := over
end fnExactNewDesk
end Go.Proofs.Ytjjkkaikinjmdaa

