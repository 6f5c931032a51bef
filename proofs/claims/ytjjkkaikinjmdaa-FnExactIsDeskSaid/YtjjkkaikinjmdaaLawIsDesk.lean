/-
  'FnExactIsDesk' returns true at every input: the program's IsDesk and its model's return the same bool, and the desk reads as before.
-/
import Derived.Test.YtjjkkaikinjmdaaDskIs
import Derived.Deep.RegionHeld3
import Derived.Deep.RegionLaw
namespace Go.Proofs.Ytjjkkaikinjmdaa
open Go.RowKit

set_option maxRecDepth 100000 in
set_option maxHeartbeats 4000000 in
theorem main_IsDesk (L1 V1 : Int) (a1 : Option Addr) (c1 : Nat) (ts : List Tm) (hl1 : ts.length ≤ maxLen) (hs1 : ∀ i (h : i < ts.length), (ts[i]).s.size ≤ maxLen) (L2 V2 : Int) (a2 : Option Addr) (c2 : Nat) (us : List Tm) (hl2 : us.length ≤ maxLen) (hs2 : ∀ i (h : i < us.length), (us[i]).s.size ≤ maxLen)
    (a3 : Option Addr) (c3 : Nat) (ps : List (List Int)) (hl3 : ps.length ≤ maxLen) (hs3 : ∀ i (h : i < ps.length), (ps[i]).length ≤ maxLen) (w : World) (r1 : Row w a1 ts) (r2 : Row w a2 us) (r3 : PRow 0 w.heap.size w a3 ps) :
    Calls Try.prog 5 #[.agg #[.int .i64 L1, .int .i64 V1, .slice a1 ts.length c1, .int .i64 L2, .int .i64 V2, .slice a2 us.length c2, .slice a3 ps.length c3]] w fun e w' => e = .returned (.bool true) ∧ Below w.heap.size w w' := by
  have R1 := Lib.hid (RowB.of_row r1)
  have R2 := Lib.hid (RowB.of_row r2)
  have R3 := Lib.hid r3
  have HS1 := Lib.hid hs1
  have HS2 := Lib.hid hs2
  have HS3 := Lib.hid hs3
  clear r1 r2 r3 hs1 hs2 hs3
  go_enter Try.func5, Try.ntmps5
  go_wp2_with fail
  refine (szDesk_c L1 V1 L2 V2 a1 a2 a3 c1 c2 c3 ts us ps hl1 HS1.out hl2 HS2.out hl3 HS3.out _ ((R1.out.below (below1 w _) (Nat.le_refl _)).row (by simp)) ((R2.out.below (below1 w _) (Nat.le_refl _)).row (by simp)) ((R3.out.below (below1 w _) (Nat.le_refl _)).mono (Nat.le_refl _) (by simp))).mono ?_
  rintro e w1 ⟨he, hb1⟩
  have hz1 := hb1.size
  simp only [World.size_alloc] at hz1
  have B1 := Lib.hid ((below1 w _).trans (hb1.mono (by simp)))
  have x0 : w1.cell? ⟨w.heap.size, 0, none⟩ = some (.int .i64 L1) := (hb1.cell (p := ⟨w.heap.size, 0, none⟩) (by simp)).trans (by go_simp)
  have x1 : w1.cell? ⟨w.heap.size, 1, none⟩ = some (.int .i64 V1) := (hb1.cell (p := ⟨w.heap.size, 1, none⟩) (by simp)).trans (by go_simp)
  have x2 : w1.cell? ⟨w.heap.size, 2, none⟩ = some (.slice a1 ts.length c1) := (hb1.cell (p := ⟨w.heap.size, 2, none⟩) (by simp)).trans (by go_simp)
  have x3 : w1.cell? ⟨w.heap.size, 3, none⟩ = some (.int .i64 L2) := (hb1.cell (p := ⟨w.heap.size, 3, none⟩) (by simp)).trans (by go_simp)
  have x4 : w1.cell? ⟨w.heap.size, 4, none⟩ = some (.int .i64 V2) := (hb1.cell (p := ⟨w.heap.size, 4, none⟩) (by simp)).trans (by go_simp)
  have x5 : w1.cell? ⟨w.heap.size, 5, none⟩ = some (.slice a2 us.length c2) := (hb1.cell (p := ⟨w.heap.size, 5, none⟩) (by simp)).trans (by go_simp)
  have x6 : w1.cell? ⟨w.heap.size, 6, none⟩ = some (.slice a3 ps.length c3) := (hb1.cell (p := ⟨w.heap.size, 6, none⟩) (by simp)).trans (by go_simp)
  clear hb1
  rcases he with rfl | ⟨r, hr0, hf1, hf2, hf3, hf4, rfl⟩
  · clear x0 x1 x2 x3 x4 x5 x6
    go_wp2
    go_ret
    exact ⟨rfl, B1.out⟩
  go_wp2_with fail
  refine (toDesk_c L1 V1 L2 V2 a1 a2 a3 c1 c2 c3 ts us ps hf1 hf2 hf3 hf4 _ ((R1.out.below B1.out (Nat.le_refl _)).row (by omega)) ((R2.out.below B1.out (Nat.le_refl _)).row (by omega)) ((R3.out.below B1.out (Nat.le_refl _)).mono (Nat.le_refl _) (by omega))).mono ?_
  rintro e w2 ⟨g1, g2, g3, rfl, hb2, hN1, hN2, hN3⟩
  have hz2 := hb2.size
  have B2 := Lib.hid (B1.out.trans (hb2.mono (by (try simp only [World.size_alloc]); omega)))
  have m0 : w2.cell? ⟨w.heap.size, 0, none⟩ = some (.int .i64 L1) := (hb2.cell (p := ⟨w.heap.size, 0, none⟩) (show w.heap.size < _ by (try simp only [World.size_alloc]); omega)).trans x0
  have m1 : w2.cell? ⟨w.heap.size, 1, none⟩ = some (.int .i64 V1) := (hb2.cell (p := ⟨w.heap.size, 1, none⟩) (show w.heap.size < _ by (try simp only [World.size_alloc]); omega)).trans x1
  have m2 : w2.cell? ⟨w.heap.size, 2, none⟩ = some (.slice a1 ts.length c1) := (hb2.cell (p := ⟨w.heap.size, 2, none⟩) (show w.heap.size < _ by (try simp only [World.size_alloc]); omega)).trans x2
  have m3 : w2.cell? ⟨w.heap.size, 3, none⟩ = some (.int .i64 L2) := (hb2.cell (p := ⟨w.heap.size, 3, none⟩) (show w.heap.size < _ by (try simp only [World.size_alloc]); omega)).trans x3
  have m4 : w2.cell? ⟨w.heap.size, 4, none⟩ = some (.int .i64 V2) := (hb2.cell (p := ⟨w.heap.size, 4, none⟩) (show w.heap.size < _ by (try simp only [World.size_alloc]); omega)).trans x4
  have m5 : w2.cell? ⟨w.heap.size, 5, none⟩ = some (.slice a2 us.length c2) := (hb2.cell (p := ⟨w.heap.size, 5, none⟩) (show w.heap.size < _ by (try simp only [World.size_alloc]); omega)).trans x5
  have m6 : w2.cell? ⟨w.heap.size, 6, none⟩ = some (.slice a3 ps.length c3) := (hb2.cell (p := ⟨w.heap.size, 6, none⟩) (show w.heap.size < _ by (try simp only [World.size_alloc]); omega)).trans x6
  clear hb2 x0 x1 x2 x3 x4 x5 x6
  have x0 := m0
  have x1 := m1
  have x2 := m2
  have x3 := m3
  have x4 := m4
  have x5 := m5
  have x6 := m6
  clear m0 m1 m2 m3 m4 m5 m6
  have N1_2 := Lib.hid hN1
  have N2_2 := Lib.hid hN2
  have N3_2 := Lib.hid hN3
  clear hN1 hN2 hN3
  go_wp2_with fail
  refine (sIsDesk_c L1 V1 L2 V2 g1 g2 g3 ts us ps hf1 HS1.out hf2 HS2.out hf3 hf4 _ N1_2.out.lt N1_2.out.2.2.2 N2_2.out.lt N2_2.out.2.2.2 (N3_2.out.row.mono (Nat.zero_le _) (Nat.le_refl _))).mono ?_
  rintro e w3 ⟨rfl, hb3⟩
  have hz3 := hb3.size
  have B3 := Lib.hid (B2.out.trans (hb3.mono (by (try simp only [World.size_alloc]); omega)))
  have m0 : w3.cell? ⟨w.heap.size, 0, none⟩ = some (.int .i64 L1) := (hb3.cell (p := ⟨w.heap.size, 0, none⟩) (show w.heap.size < _ by (try simp only [World.size_alloc]); omega)).trans x0
  have m1 : w3.cell? ⟨w.heap.size, 1, none⟩ = some (.int .i64 V1) := (hb3.cell (p := ⟨w.heap.size, 1, none⟩) (show w.heap.size < _ by (try simp only [World.size_alloc]); omega)).trans x1
  have m2 : w3.cell? ⟨w.heap.size, 2, none⟩ = some (.slice a1 ts.length c1) := (hb3.cell (p := ⟨w.heap.size, 2, none⟩) (show w.heap.size < _ by (try simp only [World.size_alloc]); omega)).trans x2
  have m3 : w3.cell? ⟨w.heap.size, 3, none⟩ = some (.int .i64 L2) := (hb3.cell (p := ⟨w.heap.size, 3, none⟩) (show w.heap.size < _ by (try simp only [World.size_alloc]); omega)).trans x3
  have m4 : w3.cell? ⟨w.heap.size, 4, none⟩ = some (.int .i64 V2) := (hb3.cell (p := ⟨w.heap.size, 4, none⟩) (show w.heap.size < _ by (try simp only [World.size_alloc]); omega)).trans x4
  have m5 : w3.cell? ⟨w.heap.size, 5, none⟩ = some (.slice a2 us.length c2) := (hb3.cell (p := ⟨w.heap.size, 5, none⟩) (show w.heap.size < _ by (try simp only [World.size_alloc]); omega)).trans x5
  have m6 : w3.cell? ⟨w.heap.size, 6, none⟩ = some (.slice a3 ps.length c3) := (hb3.cell (p := ⟨w.heap.size, 6, none⟩) (show w.heap.size < _ by (try simp only [World.size_alloc]); omega)).trans x6
  clear hb3 x0 x1 x2 x3 x4 x5 x6
  have x0 := m0
  have x1 := m1
  have x2 := m2
  have x3 := m3
  have x4 := m4
  have x5 := m5
  have x6 := m6
  clear m0 m1 m2 m3 m4 m5 m6
  clear N1_2 N2_2 N3_2
  go_wp2_with fail
  refine (toDesk_c L1 V1 L2 V2 a1 a2 a3 c1 c2 c3 ts us ps hf1 hf2 hf3 hf4 _ ((R1.out.below B3.out (Nat.le_refl _)).row (by omega)) ((R2.out.below B3.out (Nat.le_refl _)).row (by omega)) ((R3.out.below B3.out (Nat.le_refl _)).mono (Nat.le_refl _) (by omega))).mono ?_
  rintro e w4 ⟨k1, k2, k3, rfl, hb4, hN1, hN2, hN3⟩
  have hz4 := hb4.size
  have B4 := Lib.hid (B3.out.trans (hb4.mono (by (try simp only [World.size_alloc]); omega)))
  have m0 : w4.cell? ⟨w.heap.size, 0, none⟩ = some (.int .i64 L1) := (hb4.cell (p := ⟨w.heap.size, 0, none⟩) (show w.heap.size < _ by (try simp only [World.size_alloc]); omega)).trans x0
  have m1 : w4.cell? ⟨w.heap.size, 1, none⟩ = some (.int .i64 V1) := (hb4.cell (p := ⟨w.heap.size, 1, none⟩) (show w.heap.size < _ by (try simp only [World.size_alloc]); omega)).trans x1
  have m2 : w4.cell? ⟨w.heap.size, 2, none⟩ = some (.slice a1 ts.length c1) := (hb4.cell (p := ⟨w.heap.size, 2, none⟩) (show w.heap.size < _ by (try simp only [World.size_alloc]); omega)).trans x2
  have m3 : w4.cell? ⟨w.heap.size, 3, none⟩ = some (.int .i64 L2) := (hb4.cell (p := ⟨w.heap.size, 3, none⟩) (show w.heap.size < _ by (try simp only [World.size_alloc]); omega)).trans x3
  have m4 : w4.cell? ⟨w.heap.size, 4, none⟩ = some (.int .i64 V2) := (hb4.cell (p := ⟨w.heap.size, 4, none⟩) (show w.heap.size < _ by (try simp only [World.size_alloc]); omega)).trans x4
  have m5 : w4.cell? ⟨w.heap.size, 5, none⟩ = some (.slice a2 us.length c2) := (hb4.cell (p := ⟨w.heap.size, 5, none⟩) (show w.heap.size < _ by (try simp only [World.size_alloc]); omega)).trans x5
  have m6 : w4.cell? ⟨w.heap.size, 6, none⟩ = some (.slice a3 ps.length c3) := (hb4.cell (p := ⟨w.heap.size, 6, none⟩) (show w.heap.size < _ by (try simp only [World.size_alloc]); omega)).trans x6
  clear hb4 x0 x1 x2 x3 x4 x5 x6
  have x0 := m0
  have x1 := m1
  have x2 := m2
  have x3 := m3
  have x4 := m4
  have x5 := m5
  have x6 := m6
  clear m0 m1 m2 m3 m4 m5 m6
  have N1_4 := Lib.hid hN1
  have N2_4 := Lib.hid hN2
  have N3_4 := Lib.hid hN3
  clear hN1 hN2 hN3
  go_wp2_with fail
  refine (iIsDesk_c L1 V1 L2 V2 k1 k2 k3 ts us ps hf1 HS1.out hf2 HS2.out hf3 hf4 _ (by have := N1_4.out.lt; simp; omega) (N1_4.out.below (below1 w4 _) (Nat.le_refl _)).2.2.2 (by have := N2_4.out.lt; simp; omega) (N2_4.out.below (below1 w4 _) (Nat.le_refl _)).2.2.2 ((N3_4.out.row.below (below1 w4 _) (Nat.le_refl _)).mono (Nat.zero_le _) (by simp))).mono ?_
  rintro e w5 ⟨rfl, hb5⟩
  have Q1 := Lib.hid ((N1_4.out.below ((below1 w4 _).trans (hb5.mono (by simp))) (Nat.le_refl _)))
  have Q2 := Lib.hid ((N2_4.out.below ((below1 w4 _).trans (hb5.mono (by simp))) (Nat.le_refl _)))
  have Q3 := Lib.hid ((N3_4.out.row.below ((below1 w4 _).trans (hb5.mono (by simp))) (Nat.le_refl _)))
  have hz5 := hb5.size
  simp only [World.size_alloc] at hz5
  have B5 := Lib.hid ((B4.out.alloc (by omega) _).trans (hb5.mono (by (try simp only [World.size_alloc]); omega)))
  have m0 : w5.cell? ⟨w.heap.size, 0, none⟩ = some (.int .i64 L1) := (hb5.cell (p := ⟨w.heap.size, 0, none⟩) (show w.heap.size < _ by (try simp only [World.size_alloc]); omega)).trans ((World.cell?_alloc_lt w4 _ _ (show w.heap.size < w4.heap.size by omega)).trans x0)
  have m1 : w5.cell? ⟨w.heap.size, 1, none⟩ = some (.int .i64 V1) := (hb5.cell (p := ⟨w.heap.size, 1, none⟩) (show w.heap.size < _ by (try simp only [World.size_alloc]); omega)).trans ((World.cell?_alloc_lt w4 _ _ (show w.heap.size < w4.heap.size by omega)).trans x1)
  have m2 : w5.cell? ⟨w.heap.size, 2, none⟩ = some (.slice a1 ts.length c1) := (hb5.cell (p := ⟨w.heap.size, 2, none⟩) (show w.heap.size < _ by (try simp only [World.size_alloc]); omega)).trans ((World.cell?_alloc_lt w4 _ _ (show w.heap.size < w4.heap.size by omega)).trans x2)
  have m3 : w5.cell? ⟨w.heap.size, 3, none⟩ = some (.int .i64 L2) := (hb5.cell (p := ⟨w.heap.size, 3, none⟩) (show w.heap.size < _ by (try simp only [World.size_alloc]); omega)).trans ((World.cell?_alloc_lt w4 _ _ (show w.heap.size < w4.heap.size by omega)).trans x3)
  have m4 : w5.cell? ⟨w.heap.size, 4, none⟩ = some (.int .i64 V2) := (hb5.cell (p := ⟨w.heap.size, 4, none⟩) (show w.heap.size < _ by (try simp only [World.size_alloc]); omega)).trans ((World.cell?_alloc_lt w4 _ _ (show w.heap.size < w4.heap.size by omega)).trans x4)
  have m5 : w5.cell? ⟨w.heap.size, 5, none⟩ = some (.slice a2 us.length c2) := (hb5.cell (p := ⟨w.heap.size, 5, none⟩) (show w.heap.size < _ by (try simp only [World.size_alloc]); omega)).trans ((World.cell?_alloc_lt w4 _ _ (show w.heap.size < w4.heap.size by omega)).trans x5)
  have m6 : w5.cell? ⟨w.heap.size, 6, none⟩ = some (.slice a3 ps.length c3) := (hb5.cell (p := ⟨w.heap.size, 6, none⟩) (show w.heap.size < _ by (try simp only [World.size_alloc]); omega)).trans ((World.cell?_alloc_lt w4 _ _ (show w.heap.size < w4.heap.size by omega)).trans x6)
  have y0 : w5.cell? ⟨w4.heap.size, 0, none⟩ = some (.int .i64 L1) := (hb5.cell (p := ⟨w4.heap.size, 0, none⟩) (by simp)).trans (by go_simp)
  have y1 : w5.cell? ⟨w4.heap.size, 1, none⟩ = some (.int .i64 V1) := (hb5.cell (p := ⟨w4.heap.size, 1, none⟩) (by simp)).trans (by go_simp)
  have y2 : w5.cell? ⟨w4.heap.size, 2, none⟩ = some (.slice (some ⟨k1, 0, none⟩) ts.length ts.length) := (hb5.cell (p := ⟨w4.heap.size, 2, none⟩) (by simp)).trans (by go_simp)
  have y3 : w5.cell? ⟨w4.heap.size, 3, none⟩ = some (.int .i64 L2) := (hb5.cell (p := ⟨w4.heap.size, 3, none⟩) (by simp)).trans (by go_simp)
  have y4 : w5.cell? ⟨w4.heap.size, 4, none⟩ = some (.int .i64 V2) := (hb5.cell (p := ⟨w4.heap.size, 4, none⟩) (by simp)).trans (by go_simp)
  have y5 : w5.cell? ⟨w4.heap.size, 5, none⟩ = some (.slice (some ⟨k2, 0, none⟩) us.length us.length) := (hb5.cell (p := ⟨w4.heap.size, 5, none⟩) (by simp)).trans (by go_simp)
  have y6 : w5.cell? ⟨w4.heap.size, 6, none⟩ = some (.slice k3 ps.length ps.length) := (hb5.cell (p := ⟨w4.heap.size, 6, none⟩) (by simp)).trans (by go_simp)
  clear hb5 x0 x1 x2 x3 x4 x5 x6
  have x0 := m0
  have x1 := m1
  have x2 := m2
  have x3 := m3
  have x4 := m4
  have x5 := m5
  have x6 := m6
  clear m0 m1 m2 m3 m4 m5 m6
  clear N1_4 N2_4 N3_4
  have KS := Lib.hid (show ∀ w', Below w5.heap.size w5 w' → (w'.cell? ⟨w.heap.size, 0, none⟩ = some (.int .i64 L1) ∧ w'.cell? ⟨w.heap.size, 1, none⟩ = some (.int .i64 V1) ∧ w'.cell? ⟨w.heap.size, 2, none⟩ = some (.slice a1 ts.length c1) ∧ w'.cell? ⟨w.heap.size, 3, none⟩ = some (.int .i64 L2) ∧ w'.cell? ⟨w.heap.size, 4, none⟩ = some (.int .i64 V2) ∧ w'.cell? ⟨w.heap.size, 5, none⟩ = some (.slice a2 us.length c2) ∧ w'.cell? ⟨w.heap.size, 6, none⟩ = some (.slice a3 ps.length c3) ∧ w'.cell? ⟨w4.heap.size, 0, none⟩ = some (.int .i64 L1) ∧ w'.cell? ⟨w4.heap.size, 1, none⟩ = some (.int .i64 V1) ∧ w'.cell? ⟨w4.heap.size, 2, none⟩ = some (.slice (some ⟨k1, 0, none⟩) ts.length ts.length) ∧ w'.cell? ⟨w4.heap.size, 3, none⟩ = some (.int .i64 L2) ∧ w'.cell? ⟨w4.heap.size, 4, none⟩ = some (.int .i64 V2) ∧ w'.cell? ⟨w4.heap.size, 5, none⟩ = some (.slice (some ⟨k2, 0, none⟩) us.length us.length) ∧ w'.cell? ⟨w4.heap.size, 6, none⟩ = some (.slice k3 ps.length ps.length)) from fun w' hb => ⟨(hb.cell (p := ⟨w.heap.size, 0, none⟩) (show w.heap.size < _ by omega)).trans x0, (hb.cell (p := ⟨w.heap.size, 1, none⟩) (show w.heap.size < _ by omega)).trans x1, (hb.cell (p := ⟨w.heap.size, 2, none⟩) (show w.heap.size < _ by omega)).trans x2, (hb.cell (p := ⟨w.heap.size, 3, none⟩) (show w.heap.size < _ by omega)).trans x3, (hb.cell (p := ⟨w.heap.size, 4, none⟩) (show w.heap.size < _ by omega)).trans x4, (hb.cell (p := ⟨w.heap.size, 5, none⟩) (show w.heap.size < _ by omega)).trans x5, (hb.cell (p := ⟨w.heap.size, 6, none⟩) (show w.heap.size < _ by omega)).trans x6, (hb.cell (p := ⟨w4.heap.size, 0, none⟩) (show w4.heap.size < _ by omega)).trans y0, (hb.cell (p := ⟨w4.heap.size, 1, none⟩) (show w4.heap.size < _ by omega)).trans y1, (hb.cell (p := ⟨w4.heap.size, 2, none⟩) (show w4.heap.size < _ by omega)).trans y2, (hb.cell (p := ⟨w4.heap.size, 3, none⟩) (show w4.heap.size < _ by omega)).trans y3, (hb.cell (p := ⟨w4.heap.size, 4, none⟩) (show w4.heap.size < _ by omega)).trans y4, (hb.cell (p := ⟨w4.heap.size, 5, none⟩) (show w4.heap.size < _ by omega)).trans y5, (hb.cell (p := ⟨w4.heap.size, 6, none⟩) (show w4.heap.size < _ by omega)).trans y6⟩)
  go_upto_region 10 with fail
  go_cut [26] (fun sc wy => sc = .bool false ∧ Below w5.heap.size w5 wy)
  case first =>
    go_region_held3 (fun w' => w'.cell? ⟨w.heap.size, 0, none⟩ = some (.int .i64 L1) ∧ w'.cell? ⟨w.heap.size, 1, none⟩ = some (.int .i64 V1) ∧ w'.cell? ⟨w.heap.size, 2, none⟩ = some (.slice a1 ts.length c1) ∧ w'.cell? ⟨w.heap.size, 3, none⟩ = some (.int .i64 L2) ∧ w'.cell? ⟨w.heap.size, 4, none⟩ = some (.int .i64 V2) ∧ w'.cell? ⟨w.heap.size, 5, none⟩ = some (.slice a2 us.length c2) ∧ w'.cell? ⟨w.heap.size, 6, none⟩ = some (.slice a3 ps.length c3) ∧ w'.cell? ⟨w4.heap.size, 0, none⟩ = some (.int .i64 L1) ∧ w'.cell? ⟨w4.heap.size, 1, none⟩ = some (.int .i64 V1) ∧ w'.cell? ⟨w4.heap.size, 2, none⟩ = some (.slice (some ⟨k1, 0, none⟩) ts.length ts.length) ∧ w'.cell? ⟨w4.heap.size, 3, none⟩ = some (.int .i64 L2) ∧ w'.cell? ⟨w4.heap.size, 4, none⟩ = some (.int .i64 V2) ∧ w'.cell? ⟨w4.heap.size, 5, none⟩ = some (.slice (some ⟨k2, 0, none⟩) us.length us.length) ∧ w'.cell? ⟨w4.heap.size, 6, none⟩ = some (.slice k3 ps.length ps.length))
      ((refine KS.out _ ?_; repeat' (first | with_reducible assumption | with_reducible exact Below.refl _ _ | (with_reducible refine Below.drew ?_))))
      (first
        | (go_at_call 21; refine (toDesk_c L1 V1 L2 V2 a1 a2 a3 c1 c2 c3 ts us ps hf1 hf2 hf3 hf4 _ ?_ ?_ ?_).mono ?_; (exact (R1.out.below B5.out (Nat.le_refl _)).row (show _ ≤ w5.heap.size by omega)); (exact (R2.out.below B5.out (Nat.le_refl _)).row (show _ ≤ w5.heap.size by omega)); (exact ((R3.out.below B5.out (Nat.le_refl _)).mono (Nat.le_refl _) (show _ ≤ w5.heap.size by omega))); rintro e w6 ⟨q1, q2, q3, rfl, hb0, hM1, hM2, hM3⟩; have hb6 : Below w5.heap.size w5 w6 := ⟨hb0.os, hb0.tape, hb0.output, hb0.size, hb0.block⟩; have hz6 := hb6.size; clear hb0)
        | (go_at_call 16; refine (eqDesk_c L1 V1 L2 V2 (some ⟨k1, 0, none⟩) (some ⟨k2, 0, none⟩) k3 ts.length us.length ps.length ts us ps (some ⟨q1, 0, none⟩) (some ⟨q2, 0, none⟩) q3 _ _ _ hf1 hf2 hf3 hf4 w6 (Q1.out.below hb6 (by omega)).row (Q2.out.below hb6 (by omega)).row ((Q3.out.below hb6 (by omega)).mono (Nat.zero_le _) (by omega)) hM1.row hM2.row (hM3.row.mono (Nat.zero_le _) (Nat.le_refl _))).mono ?_; rintro e w8 ⟨rfl, hb8⟩; have hb7 : Below w5.heap.size w5 w8 := hb6.trans (hb8.mono hz6); clear hb8))
    all_goals (go_wp2_with fail; go_meet)
    all_goals exact ⟨rfl, hb7⟩
  case rest =>
    obtain ⟨rfl, hBy⟩ := hcut
    obtain ⟨w7, rfl⟩ : ∃ w7 : World, w7 = wc := ⟨_, rfl⟩
    have B7 := Lib.hid (B5.out.trans (hBy.mono (by omega)))
    clear hBy KS
    go_wp2
    go_ret
    exact ⟨rfl, B7.out⟩
end Go.Proofs.Ytjjkkaikinjmdaa
