/-
  Desks that a law measures, copies and compares.
-/
import Derived.Test.YtjjkkaikinjmdaaTmR
import Derived.Test.YtjjkkaikinjmdaaPaths
import Derived.Test.YtjjkkaikinjmdaaNew
namespace Go.Proofs.Ytjjkkaikinjmdaa
open Go.RowKit

theorem Outside.put {lo hi : Nat} {a w : World} (h : Outside lo hi a w) {p : Addr} (h1 : lo ≤ p.block) (h2 : p.block < hi) (u : Value) : Outside lo hi a (w.setCell p u) :=
  h.trans ⟨rfl, rfl, rfl, by simp [World.setCell], fun k _ hk => Below.heap_setCell w p u k (by omega)⟩
theorem GTm.outside {lo hi l h' g : Nat} {w w' : World} {ts : List Tm} (h : GTm lo hi w g ts) (hg : Outside l h' w w') (ho : hi ≤ l ∨ h' ≤ lo) : GTm lo hi w' g ts := by
  obtain ⟨h1, h2, h3, h4⟩ := h
  have hc := fun o => hg.cell (o := o) h3.1 (show g < l ∨ h' ≤ g by omega)
  exact ⟨h1, h2, hg.made h3 (by omega), fun i hi => ⟨(hc _).trans (h4 i hi).1, (hc _).trans (h4 i hi).2.1, (hc _).trans (h4 i hi).2.2⟩⟩
theorem GTm.mono {lo hi lo' hi' g : Nat} {w : World} {ts : List Tm} (h : GTm lo hi w g ts) (h1 : lo' ≤ lo) (h2 : hi ≤ hi') : GTm lo' hi' w g ts := by
  obtain ⟨a, b, c, d⟩ := h
  exact ⟨by omega, by omega, c, d⟩
theorem Outside.next {lo hi : Nat} {a w w' : World} (h : Outside lo hi a w) (hb : Below w.heap.size w w') : Outside lo hi a w' := h.trans (.of_below hb)

set_option maxRecDepth 100000 in
theorem szDesk_c (L1 V1 L2 V2 : Int) (a1 a2 a3 : Option Addr) (c1 c2 c3 : Nat) (ts us : List Tm) (ps : List (List Int)) (hl1 : ts.length ≤ maxLen) (hs1 : ∀ i (h : i < ts.length), (ts[i]).s.size ≤ maxLen) (hl2 : us.length ≤ maxLen) (hs2 : ∀ i (h : i < us.length), (us[i]).s.size ≤ maxLen) (hl3 : ps.length ≤ maxLen) (hs3 : ∀ i (h : i < ps.length), (ps[i]).length ≤ maxLen) (w : World) (r1 : Row w a1 ts) (r2 : Row w a2 us) (r3 : PRow 0 w.heap.size w a3 ps) :
    Calls Try.prog 19 #[.agg #[.int .i64 L1, .int .i64 V1, .slice a1 ts.length c1, .int .i64 L2, .int .i64 V2, .slice a2 us.length c2, .slice a3 ps.length c3], .int .i64 1048576] w fun e w' => (e = .returned (.int .i64 (-1)) ∨ ∃ r : Int, 0 ≤ r ∧ ts.length ≤ 1048576 ∧ us.length ≤ 1048576 ∧ ps.length ≤ 1048576 ∧ flat ps ≤ 1048576 ∧ e = .returned (.int .i64 r)) ∧ Below w.heap.size w w' := by
  have R1 := Lib.hid r1
  have R2 := Lib.hid (RowB.of_row r2)
  have R3 := Lib.hid r3
  have HS1 := Lib.hid hs1
  have HS2 := Lib.hid hs2
  have HS3 := Lib.hid hs3
  clear r1 r2 r3 hs1 hs2 hs3
  go_enter Try.func19, Try.ntmps19
  go_wp2_with fail
  refine (szSeries_c L1 V1 a1 ts.length c1 1048576 _ (szTermS_row a1 c1 ts hl1 HS1.out 1048576 (by omega) _ ?_)).mono ?_
  · exact (R1.out.below (below1 w _)).below (below1 _ _)
  rintro e w1 ⟨he, hb1⟩
  have hz1 := hb1.size
  simp only [World.size_alloc] at hz1
  have B1 := Lib.hid ((below1 w _).trans (hb1.mono (by simp)))
  have x3 : w1.cell? ⟨w.heap.size, 3, none⟩ = some (.int .i64 L2) := (hb1.cell (p := ⟨w.heap.size, 3, none⟩) (by simp)).trans (by go_simp)
  have x4 : w1.cell? ⟨w.heap.size, 4, none⟩ = some (.int .i64 V2) := (hb1.cell (p := ⟨w.heap.size, 4, none⟩) (by simp)).trans (by go_simp)
  have x5 : w1.cell? ⟨w.heap.size, 5, none⟩ = some (.slice a2 us.length c2) := (hb1.cell (p := ⟨w.heap.size, 5, none⟩) (by simp)).trans (by go_simp)
  have x6 : w1.cell? ⟨w.heap.size, 6, none⟩ = some (.slice a3 ps.length c3) := (hb1.cell (p := ⟨w.heap.size, 6, none⟩) (by simp)).trans (by go_simp)
  clear hb1
  rcases he with rfl | ⟨r, hr0, hr1, hfit1, rfl⟩
  · go_wp2
    go_ret
    exact ⟨.inl rfl, B1.out⟩
  go_wp2_with fail
  refine (szSeries_c L2 V2 a2 us.length c2 r _ (szTermS_row a2 c2 us hl2 HS2.out r ⟨hr0, hr1⟩ _ ?_)).mono ?_
  · exact ((R2.out.below B1.out (Nat.le_refl _)).row (by omega)).below (below1 _ _)
  rintro e w2 ⟨he, hb2⟩
  have hz2 := hb2.size
  have B2 := Lib.hid (B1.out.trans (hb2.mono (by omega)))
  have z6 : w2.cell? ⟨w.heap.size, 6, none⟩ = some (.slice a3 ps.length c3) := (hb2.cell (p := ⟨w.heap.size, 6, none⟩) (show w.heap.size < _ by omega)).trans x6
  clear hb2 x3 x4 x5 x6
  rcases he with rfl | ⟨q, hq0, hq1, hfit2, rfl⟩
  · go_wp2
    go_ret
    exact ⟨.inl rfl, B2.out⟩
  go_wp2_with fail
  refine (szInt64SS_c 0 w.heap.size a3 c3 ps hl3 HS3.out q ⟨hq0, hq1⟩ _ (R3.out.below B2.out (Nat.le_refl _)) (by omega)).mono ?_
  rintro e w3 ⟨he, hb3⟩
  have B3 := Lib.hid (B2.out.trans (hb3.mono (by omega)))
  clear hb3
  rcases he with rfl | ⟨k, hk0, hk1, rfl⟩
  · go_wp2
    go_ret
    exact ⟨.inl rfl, B3.out⟩
  have hfit : ts.length ≤ 1048576 ∧ us.length ≤ 1048576 ∧ ps.length ≤ 1048576 ∧ flat ps ≤ 1048576 := by omega
  have HF := Lib.hid hfit
  clear hfit hk1 hfit1 hfit2
  go_wp2
  go_ret
  exact ⟨.inr ⟨k, hk0, HF.out.1, HF.out.2.1, HF.out.2.2.1, HF.out.2.2.2, rfl⟩, B3.out⟩

set_option maxRecDepth 100000 in
theorem eqDesk_c (L1 V1 L2 V2 : Int) (a1 a2 a3 : Option Addr) (c1 c2 c3 : Nat) (ts us : List Tm) (ps : List (List Int)) (b1 b2 b3 : Option Addr) (d1 d2 d3 : Nat) (hl1 : ts.length ≤ 1048576) (hl2 : us.length ≤ 1048576) (hl3 : ps.length ≤ 1048576) (hl4 : flat ps ≤ 1048576) (w : World) (h1 : Row w a1 ts) (h2 : Row w a2 us) (h3 : PRow 0 w.heap.size w a3 ps) (k1 : Row w b1 ts) (k2 : Row w b2 us) (k3 : PRow 0 w.heap.size w b3 ps) :
    Calls Try.prog 16 #[.agg #[.int .i64 L1, .int .i64 V1, .slice a1 ts.length c1, .int .i64 L2, .int .i64 V2, .slice a2 us.length c2, .slice a3 ps.length c3], .agg #[.int .i64 L1, .int .i64 V1, .slice b1 ts.length d1, .int .i64 L2, .int .i64 V2, .slice b2 us.length d2, .slice b3 ps.length d3]] w fun e w' => e = .returned (.bool true) ∧ Below w.heap.size w w' := by
  have H1 := Lib.hid (RowB.of_row h1)
  have H2 := Lib.hid (RowB.of_row h2)
  have K1 := Lib.hid (RowB.of_row k1)
  have K2 := Lib.hid (RowB.of_row k2)
  have H3 := Lib.hid h3
  have K3 := Lib.hid k3
  clear h1 h2 h3 k1 k2 k3
  go_enter Try.func16, Try.ntmps16
  go_wp2_with fail
  refine (eqSeries_row L1 V1 a1 b1 c1 d1 ts hl1 _ ((H1.out.below (below2 w _ _) (Nat.le_refl _)).row (by simp; omega)) ((K1.out.below (below2 w _ _) (Nat.le_refl _)).row (by simp; omega))).mono ?_
  rintro e w1 ⟨rfl, hb1⟩
  have hz1 := hb1.size
  simp only [World.size_alloc] at hz1
  have B1 := Lib.hid ((below2 w _ _).trans (hb1.mono (by simp; omega)))
  have x3 : w1.cell? ⟨w.heap.size, 3, none⟩ = some (.int .i64 L2) := (hb1.cell (p := ⟨w.heap.size, 3, none⟩) (by simp; omega)).trans (by go_simp)
  have y3 : w1.cell? ⟨w.heap.size + 1, 3, none⟩ = some (.int .i64 L2) := (hb1.cell (p := ⟨w.heap.size + 1, 3, none⟩) (by simp)).trans (by go_simp)
  have x4 : w1.cell? ⟨w.heap.size, 4, none⟩ = some (.int .i64 V2) := (hb1.cell (p := ⟨w.heap.size, 4, none⟩) (by simp; omega)).trans (by go_simp)
  have y4 : w1.cell? ⟨w.heap.size + 1, 4, none⟩ = some (.int .i64 V2) := (hb1.cell (p := ⟨w.heap.size + 1, 4, none⟩) (by simp)).trans (by go_simp)
  have x5 : w1.cell? ⟨w.heap.size, 5, none⟩ = some (.slice a2 us.length c2) := (hb1.cell (p := ⟨w.heap.size, 5, none⟩) (by simp; omega)).trans (by go_simp)
  have y5 : w1.cell? ⟨w.heap.size + 1, 5, none⟩ = some (.slice b2 us.length d2) := (hb1.cell (p := ⟨w.heap.size + 1, 5, none⟩) (by simp)).trans (by go_simp)
  have x6 : w1.cell? ⟨w.heap.size, 6, none⟩ = some (.slice a3 ps.length c3) := (hb1.cell (p := ⟨w.heap.size, 6, none⟩) (by simp; omega)).trans (by go_simp)
  have y6 : w1.cell? ⟨w.heap.size + 1, 6, none⟩ = some (.slice b3 ps.length d3) := (hb1.cell (p := ⟨w.heap.size + 1, 6, none⟩) (by simp)).trans (by go_simp)
  clear hb1
  go_wp2_with fail
  refine (eqSeries_row L2 V2 a2 b2 c2 d2 us hl2 _ ((H2.out.below B1.out (Nat.le_refl _)).row (by omega)) ((K2.out.below B1.out (Nat.le_refl _)).row (by omega))).mono ?_
  rintro e w2 ⟨rfl, hb2⟩
  have hz2 := hb2.size
  have B2 := Lib.hid (B1.out.trans (hb2.mono (by omega)))
  have z6 : w2.cell? ⟨w.heap.size, 6, none⟩ = some (.slice a3 ps.length c3) := (hb2.cell (p := ⟨w.heap.size, 6, none⟩) (show w.heap.size < _ by omega)).trans x6
  have u6 : w2.cell? ⟨w.heap.size + 1, 6, none⟩ = some (.slice b3 ps.length d3) := (hb2.cell (p := ⟨w.heap.size + 1, 6, none⟩) (show w.heap.size + 1 < _ by omega)).trans y6
  clear hb2 x3 x4 x5 x6 y3 y4 y5 y6
  go_wp2_with fail
  refine (eqInt64SS_row 0 w.heap.size 0 w.heap.size a3 b3 c3 d3 ps hl3 hl4 _ (H3.out.below B2.out (Nat.le_refl _)) (K3.out.below B2.out (Nat.le_refl _)) (by omega) (by omega)).mono ?_
  rintro e w3 ⟨rfl, hb3⟩
  have B3 := B2.out.trans (hb3.mono (by omega))
  clear hb3
  go_wp2
  go_ret
  exact ⟨rfl, B3⟩

/-- what toDesk comes to -/
def ToDesk (L1 V1 L2 V2 : Int) (ts us : List Tm) (ps : List (List Int)) (W : World) (e : Ending) (w' : World) : Prop :=
  ∃ (g1 g2 : Nat) (a3 : Option Addr), e = .returned (.agg #[.int .i64 L1, .int .i64 V1, .slice (some ⟨g1, 0, none⟩) ts.length ts.length, .int .i64 L2, .int .i64 V2, .slice (some ⟨g2, 0, none⟩) us.length us.length, .slice a3 ps.length ps.length]) ∧
    Below W.heap.size W w' ∧ GTm W.heap.size w'.heap.size w' g1 ts ∧ GTm W.heap.size w'.heap.size w' g2 us ∧ NewP W.heap.size w'.heap.size w' a3 ps
set_option maxRecDepth 100000 in
set_option maxHeartbeats 1000000 in
theorem toDesk_c (L1 V1 L2 V2 : Int) (a1 a2 a3 : Option Addr) (c1 c2 c3 : Nat) (ts us : List Tm) (ps : List (List Int)) (hl1 : ts.length ≤ 1048576) (hl2 : us.length ≤ 1048576) (hl3 : ps.length ≤ 1048576) (hl4 : flat ps ≤ 1048576) (w : World) (h1 : Row w a1 ts) (h2 : Row w a2 us) (h3 : PRow 0 w.heap.size w a3 ps) :
    Calls Try.prog 21 #[.agg #[.int .i64 L1, .int .i64 V1, .slice a1 ts.length c1, .int .i64 L2, .int .i64 V2, .slice a2 us.length c2, .slice a3 ps.length c3]] w (ToDesk L1 V1 L2 V2 ts us ps w) := by
  have H1 := Lib.hid h1
  have H2 := Lib.hid (RowB.of_row h2)
  have H3 := Lib.hid h3
  clear h1 h2 h3
  go_enter Try.func21, Try.ntmps21
  go_wp2_with fail
  refine (toSeries_c L1 V1 a1 c1 ts hl1 _ (H1.out.below (below3 w _ _ _))).mono ?_
  rintro e w1 ⟨g1, rfl, hb1, hlo1, hM1, hT1⟩
  have hz1 := hb1.size
  simp only [World.size_alloc] at hz1 hlo1
  have HN1 := Lib.hid (show GTm (w.heap.size + 1 + 1 + 1) w1.heap.size w1 g1 ts from ⟨hlo1, hM1.1, hM1, hT1⟩)
  have B1 := Lib.hid ((below3 w _ _ _).trans (hb1.mono (by simp; omega)))
  have x3 : w1.cell? ⟨w.heap.size, 3, none⟩ = some (.int .i64 L2) := (hb1.cell (p := ⟨w.heap.size, 3, none⟩) (by simp; omega)).trans (by go_simp)
  have x4 : w1.cell? ⟨w.heap.size, 4, none⟩ = some (.int .i64 V2) := (hb1.cell (p := ⟨w.heap.size, 4, none⟩) (by simp; omega)).trans (by go_simp)
  have x5 : w1.cell? ⟨w.heap.size, 5, none⟩ = some (.slice a2 us.length c2) := (hb1.cell (p := ⟨w.heap.size, 5, none⟩) (by simp; omega)).trans (by go_simp)
  have x6 : w1.cell? ⟨w.heap.size, 6, none⟩ = some (.slice a3 ps.length c3) := (hb1.cell (p := ⟨w.heap.size, 6, none⟩) (by simp; omega)).trans (by go_simp)
  have y0 : w1.cell? ⟨w.heap.size + 1, 0, none⟩ = some (.int .i64 0) := (hb1.cell (p := ⟨w.heap.size + 1, 0, none⟩) (by simp)).trans (by go_simp)
  have fy0 : w1.frozen? ⟨w.heap.size + 1, 0, none⟩ = false := (hb1.frozen (p := ⟨w.heap.size + 1, 0, none⟩) (by simp)).trans (by go_simp)
  have y1 : w1.cell? ⟨w.heap.size + 1, 1, none⟩ = some (.int .i64 0) := (hb1.cell (p := ⟨w.heap.size + 1, 1, none⟩) (by simp)).trans (by go_simp)
  have fy1 : w1.frozen? ⟨w.heap.size + 1, 1, none⟩ = false := (hb1.frozen (p := ⟨w.heap.size + 1, 1, none⟩) (by simp)).trans (by go_simp)
  have y2 : w1.cell? ⟨w.heap.size + 1, 2, none⟩ = some (.slice none 0 0) := (hb1.cell (p := ⟨w.heap.size + 1, 2, none⟩) (by simp)).trans (by go_simp)
  have fy2 : w1.frozen? ⟨w.heap.size + 1, 2, none⟩ = false := (hb1.frozen (p := ⟨w.heap.size + 1, 2, none⟩) (by simp)).trans (by go_simp)
  have y3 : w1.cell? ⟨w.heap.size + 1, 3, none⟩ = some (.int .i64 0) := (hb1.cell (p := ⟨w.heap.size + 1, 3, none⟩) (by simp)).trans (by go_simp)
  have fy3 : w1.frozen? ⟨w.heap.size + 1, 3, none⟩ = false := (hb1.frozen (p := ⟨w.heap.size + 1, 3, none⟩) (by simp)).trans (by go_simp)
  have y4 : w1.cell? ⟨w.heap.size + 1, 4, none⟩ = some (.int .i64 0) := (hb1.cell (p := ⟨w.heap.size + 1, 4, none⟩) (by simp)).trans (by go_simp)
  have fy4 : w1.frozen? ⟨w.heap.size + 1, 4, none⟩ = false := (hb1.frozen (p := ⟨w.heap.size + 1, 4, none⟩) (by simp)).trans (by go_simp)
  have y5 : w1.cell? ⟨w.heap.size + 1, 5, none⟩ = some (.slice none 0 0) := (hb1.cell (p := ⟨w.heap.size + 1, 5, none⟩) (by simp)).trans (by go_simp)
  have fy5 : w1.frozen? ⟨w.heap.size + 1, 5, none⟩ = false := (hb1.frozen (p := ⟨w.heap.size + 1, 5, none⟩) (by simp)).trans (by go_simp)
  have y6 : w1.cell? ⟨w.heap.size + 1, 6, none⟩ = some (.slice none 0 0) := (hb1.cell (p := ⟨w.heap.size + 1, 6, none⟩) (by simp)).trans (by go_simp)
  have fy6 : w1.frozen? ⟨w.heap.size + 1, 6, none⟩ = false := (hb1.frozen (p := ⟨w.heap.size + 1, 6, none⟩) (by simp)).trans (by go_simp)
  have z0 : w1.cell? ⟨w.heap.size + 1 + 1, 0, none⟩ = some (.int .i64 0) := (hb1.cell (p := ⟨w.heap.size + 1 + 1, 0, none⟩) (by simp)).trans (by go_simp)
  have fz0 : w1.frozen? ⟨w.heap.size + 1 + 1, 0, none⟩ = false := (hb1.frozen (p := ⟨w.heap.size + 1 + 1, 0, none⟩) (by simp)).trans (by go_simp)
  have z1 : w1.cell? ⟨w.heap.size + 1 + 1, 1, none⟩ = some (.int .i64 0) := (hb1.cell (p := ⟨w.heap.size + 1 + 1, 1, none⟩) (by simp)).trans (by go_simp)
  have fz1 : w1.frozen? ⟨w.heap.size + 1 + 1, 1, none⟩ = false := (hb1.frozen (p := ⟨w.heap.size + 1 + 1, 1, none⟩) (by simp)).trans (by go_simp)
  have z2 : w1.cell? ⟨w.heap.size + 1 + 1, 2, none⟩ = some (.slice none 0 0) := (hb1.cell (p := ⟨w.heap.size + 1 + 1, 2, none⟩) (by simp)).trans (by go_simp)
  have fz2 : w1.frozen? ⟨w.heap.size + 1 + 1, 2, none⟩ = false := (hb1.frozen (p := ⟨w.heap.size + 1 + 1, 2, none⟩) (by simp)).trans (by go_simp)
  have z3 : w1.cell? ⟨w.heap.size + 1 + 1, 3, none⟩ = some (.int .i64 0) := (hb1.cell (p := ⟨w.heap.size + 1 + 1, 3, none⟩) (by simp)).trans (by go_simp)
  have fz3 : w1.frozen? ⟨w.heap.size + 1 + 1, 3, none⟩ = false := (hb1.frozen (p := ⟨w.heap.size + 1 + 1, 3, none⟩) (by simp)).trans (by go_simp)
  have z4 : w1.cell? ⟨w.heap.size + 1 + 1, 4, none⟩ = some (.int .i64 0) := (hb1.cell (p := ⟨w.heap.size + 1 + 1, 4, none⟩) (by simp)).trans (by go_simp)
  have fz4 : w1.frozen? ⟨w.heap.size + 1 + 1, 4, none⟩ = false := (hb1.frozen (p := ⟨w.heap.size + 1 + 1, 4, none⟩) (by simp)).trans (by go_simp)
  have z5 : w1.cell? ⟨w.heap.size + 1 + 1, 5, none⟩ = some (.slice none 0 0) := (hb1.cell (p := ⟨w.heap.size + 1 + 1, 5, none⟩) (by simp)).trans (by go_simp)
  have fz5 : w1.frozen? ⟨w.heap.size + 1 + 1, 5, none⟩ = false := (hb1.frozen (p := ⟨w.heap.size + 1 + 1, 5, none⟩) (by simp)).trans (by go_simp)
  have z6 : w1.cell? ⟨w.heap.size + 1 + 1, 6, none⟩ = some (.slice none 0 0) := (hb1.cell (p := ⟨w.heap.size + 1 + 1, 6, none⟩) (by simp)).trans (by go_simp)
  have fz6 : w1.frozen? ⟨w.heap.size + 1 + 1, 6, none⟩ = false := (hb1.frozen (p := ⟨w.heap.size + 1 + 1, 6, none⟩) (by simp)).trans (by go_simp)
  have hS1 : Below w.heap.size w (((w1.setCell ⟨w.heap.size + 1 + 1, 0, none⟩ (.int .i64 L1)).setCell ⟨w.heap.size + 1 + 1, 1, none⟩ (.int .i64 V1)).setCell ⟨w.heap.size + 1 + 1, 2, none⟩ (.slice (some ⟨g1, 0, none⟩) ts.length ts.length)) := ((B1.out.setCell (p := ⟨w.heap.size + 1 + 1, 0, none⟩) (show w.heap.size ≤ w.heap.size + 1 + 1 by omega) _).setCell (p := ⟨w.heap.size + 1 + 1, 1, none⟩) (show w.heap.size ≤ w.heap.size + 1 + 1 by omega) _).setCell (p := ⟨w.heap.size + 1 + 1, 2, none⟩) (show w.heap.size ≤ w.heap.size + 1 + 1 by omega) _
  have HB1 := Lib.hid hS1
  clear hb1 hlo1 hM1 hT1 hS1
  go_wp2_with fail
  refine (toSeries_c L2 V2 a2 c2 us hl2 (((w1.setCell ⟨w.heap.size + 1 + 1, 0, none⟩ (.int .i64 L1)).setCell ⟨w.heap.size + 1 + 1, 1, none⟩ (.int .i64 V1)).setCell ⟨w.heap.size + 1 + 1, 2, none⟩ (.slice (some ⟨g1, 0, none⟩) ts.length ts.length)) ((H2.out.below HB1.out (Nat.le_refl _)).row (by simp only [World.size_setCell]; omega))).mono ?_
  rintro e w2 ⟨g2, rfl, hb2, hlo2, hM2, hT2⟩
  have hz2 := hb2.size
  simp only [World.size_setCell] at hz2 hlo2
  have HN2 := Lib.hid (show GTm w1.heap.size w2.heap.size w2 g2 us from ⟨hlo2, hM2.1, hM2, hT2⟩)
  have B2 := Lib.hid (HB1.out.trans (hb2.mono (by simp only [World.size_setCell]; omega)))
  have v6 : w2.cell? ⟨w.heap.size, 6, none⟩ = some (.slice a3 ps.length c3) := (hb2.cell (p := ⟨w.heap.size, 6, none⟩) (show _ < _ by simp only [World.size_setCell]; omega)).trans (by go_simp)
  have s0 : w2.cell? ⟨w.heap.size + 1, 0, none⟩ = some (.int .i64 0) := (hb2.cell (p := ⟨w.heap.size + 1, 0, none⟩) (show _ < _ by simp only [World.size_setCell]; omega)).trans (by go_simp)
  have fs0 : w2.frozen? ⟨w.heap.size + 1, 0, none⟩ = false := (hb2.frozen (p := ⟨w.heap.size + 1, 0, none⟩) (show _ < _ by simp only [World.size_setCell]; omega)).trans (by go_simp)
  have s1 : w2.cell? ⟨w.heap.size + 1, 1, none⟩ = some (.int .i64 0) := (hb2.cell (p := ⟨w.heap.size + 1, 1, none⟩) (show _ < _ by simp only [World.size_setCell]; omega)).trans (by go_simp)
  have fs1 : w2.frozen? ⟨w.heap.size + 1, 1, none⟩ = false := (hb2.frozen (p := ⟨w.heap.size + 1, 1, none⟩) (show _ < _ by simp only [World.size_setCell]; omega)).trans (by go_simp)
  have s2 : w2.cell? ⟨w.heap.size + 1, 2, none⟩ = some (.slice none 0 0) := (hb2.cell (p := ⟨w.heap.size + 1, 2, none⟩) (show _ < _ by simp only [World.size_setCell]; omega)).trans (by go_simp)
  have fs2 : w2.frozen? ⟨w.heap.size + 1, 2, none⟩ = false := (hb2.frozen (p := ⟨w.heap.size + 1, 2, none⟩) (show _ < _ by simp only [World.size_setCell]; omega)).trans (by go_simp)
  have s3 : w2.cell? ⟨w.heap.size + 1, 3, none⟩ = some (.int .i64 0) := (hb2.cell (p := ⟨w.heap.size + 1, 3, none⟩) (show _ < _ by simp only [World.size_setCell]; omega)).trans (by go_simp)
  have fs3 : w2.frozen? ⟨w.heap.size + 1, 3, none⟩ = false := (hb2.frozen (p := ⟨w.heap.size + 1, 3, none⟩) (show _ < _ by simp only [World.size_setCell]; omega)).trans (by go_simp)
  have s4 : w2.cell? ⟨w.heap.size + 1, 4, none⟩ = some (.int .i64 0) := (hb2.cell (p := ⟨w.heap.size + 1, 4, none⟩) (show _ < _ by simp only [World.size_setCell]; omega)).trans (by go_simp)
  have fs4 : w2.frozen? ⟨w.heap.size + 1, 4, none⟩ = false := (hb2.frozen (p := ⟨w.heap.size + 1, 4, none⟩) (show _ < _ by simp only [World.size_setCell]; omega)).trans (by go_simp)
  have s5 : w2.cell? ⟨w.heap.size + 1, 5, none⟩ = some (.slice none 0 0) := (hb2.cell (p := ⟨w.heap.size + 1, 5, none⟩) (show _ < _ by simp only [World.size_setCell]; omega)).trans (by go_simp)
  have fs5 : w2.frozen? ⟨w.heap.size + 1, 5, none⟩ = false := (hb2.frozen (p := ⟨w.heap.size + 1, 5, none⟩) (show _ < _ by simp only [World.size_setCell]; omega)).trans (by go_simp)
  have s6 : w2.cell? ⟨w.heap.size + 1, 6, none⟩ = some (.slice none 0 0) := (hb2.cell (p := ⟨w.heap.size + 1, 6, none⟩) (show _ < _ by simp only [World.size_setCell]; omega)).trans (by go_simp)
  have fs6 : w2.frozen? ⟨w.heap.size + 1, 6, none⟩ = false := (hb2.frozen (p := ⟨w.heap.size + 1, 6, none⟩) (show _ < _ by simp only [World.size_setCell]; omega)).trans (by go_simp)
  have t0 : w2.cell? ⟨w.heap.size + 1 + 1, 0, none⟩ = some (.int .i64 L1) := (hb2.cell (p := ⟨w.heap.size + 1 + 1, 0, none⟩) (show _ < _ by simp only [World.size_setCell]; omega)).trans (by go_simp)
  have ft0 : w2.frozen? ⟨w.heap.size + 1 + 1, 0, none⟩ = false := (hb2.frozen (p := ⟨w.heap.size + 1 + 1, 0, none⟩) (show _ < _ by simp only [World.size_setCell]; omega)).trans (by go_simp)
  have t1 : w2.cell? ⟨w.heap.size + 1 + 1, 1, none⟩ = some (.int .i64 V1) := (hb2.cell (p := ⟨w.heap.size + 1 + 1, 1, none⟩) (show _ < _ by simp only [World.size_setCell]; omega)).trans (by go_simp)
  have ft1 : w2.frozen? ⟨w.heap.size + 1 + 1, 1, none⟩ = false := (hb2.frozen (p := ⟨w.heap.size + 1 + 1, 1, none⟩) (show _ < _ by simp only [World.size_setCell]; omega)).trans (by go_simp)
  have t2 : w2.cell? ⟨w.heap.size + 1 + 1, 2, none⟩ = some (.slice (some ⟨g1, 0, none⟩) ts.length ts.length) := (hb2.cell (p := ⟨w.heap.size + 1 + 1, 2, none⟩) (show _ < _ by simp only [World.size_setCell]; omega)).trans (by go_simp)
  have ft2 : w2.frozen? ⟨w.heap.size + 1 + 1, 2, none⟩ = false := (hb2.frozen (p := ⟨w.heap.size + 1 + 1, 2, none⟩) (show _ < _ by simp only [World.size_setCell]; omega)).trans (by go_simp)
  have t3 : w2.cell? ⟨w.heap.size + 1 + 1, 3, none⟩ = some (.int .i64 0) := (hb2.cell (p := ⟨w.heap.size + 1 + 1, 3, none⟩) (show _ < _ by simp only [World.size_setCell]; omega)).trans (by go_simp)
  have ft3 : w2.frozen? ⟨w.heap.size + 1 + 1, 3, none⟩ = false := (hb2.frozen (p := ⟨w.heap.size + 1 + 1, 3, none⟩) (show _ < _ by simp only [World.size_setCell]; omega)).trans (by go_simp)
  have t4 : w2.cell? ⟨w.heap.size + 1 + 1, 4, none⟩ = some (.int .i64 0) := (hb2.cell (p := ⟨w.heap.size + 1 + 1, 4, none⟩) (show _ < _ by simp only [World.size_setCell]; omega)).trans (by go_simp)
  have ft4 : w2.frozen? ⟨w.heap.size + 1 + 1, 4, none⟩ = false := (hb2.frozen (p := ⟨w.heap.size + 1 + 1, 4, none⟩) (show _ < _ by simp only [World.size_setCell]; omega)).trans (by go_simp)
  have t5 : w2.cell? ⟨w.heap.size + 1 + 1, 5, none⟩ = some (.slice none 0 0) := (hb2.cell (p := ⟨w.heap.size + 1 + 1, 5, none⟩) (show _ < _ by simp only [World.size_setCell]; omega)).trans (by go_simp)
  have ft5 : w2.frozen? ⟨w.heap.size + 1 + 1, 5, none⟩ = false := (hb2.frozen (p := ⟨w.heap.size + 1 + 1, 5, none⟩) (show _ < _ by simp only [World.size_setCell]; omega)).trans (by go_simp)
  have t6 : w2.cell? ⟨w.heap.size + 1 + 1, 6, none⟩ = some (.slice none 0 0) := (hb2.cell (p := ⟨w.heap.size + 1 + 1, 6, none⟩) (show _ < _ by simp only [World.size_setCell]; omega)).trans (by go_simp)
  have ft6 : w2.frozen? ⟨w.heap.size + 1 + 1, 6, none⟩ = false := (hb2.frozen (p := ⟨w.heap.size + 1 + 1, 6, none⟩) (show _ < _ by simp only [World.size_setCell]; omega)).trans (by go_simp)
  have hO2 : Outside w.heap.size (w.heap.size + 3) w1 w2 := (((((Outside.refl _ _ w1).put (p := ⟨w.heap.size + 1 + 1, 0, none⟩) (show _ ≤ w.heap.size + 1 + 1 by omega) (show w.heap.size + 1 + 1 < _ by omega) _).put (p := ⟨w.heap.size + 1 + 1, 1, none⟩) (show _ ≤ w.heap.size + 1 + 1 by omega) (show w.heap.size + 1 + 1 < _ by omega) _).put (p := ⟨w.heap.size + 1 + 1, 2, none⟩) (show _ ≤ w.heap.size + 1 + 1 by omega) (show w.heap.size + 1 + 1 < _ by omega) _)).next hb2
  have HO2 := Lib.hid hO2
  have hS2 : Below w.heap.size w (((w2.setCell ⟨w.heap.size + 1 + 1, 3, none⟩ (.int .i64 L2)).setCell ⟨w.heap.size + 1 + 1, 4, none⟩ (.int .i64 V2)).setCell ⟨w.heap.size + 1 + 1, 5, none⟩ (.slice (some ⟨g2, 0, none⟩) us.length us.length)) := ((B2.out.setCell (p := ⟨w.heap.size + 1 + 1, 3, none⟩) (show w.heap.size ≤ w.heap.size + 1 + 1 by omega) _).setCell (p := ⟨w.heap.size + 1 + 1, 4, none⟩) (show w.heap.size ≤ w.heap.size + 1 + 1 by omega) _).setCell (p := ⟨w.heap.size + 1 + 1, 5, none⟩) (show w.heap.size ≤ w.heap.size + 1 + 1 by omega) _
  have HB2 := Lib.hid hS2
  clear hb2 hlo2 hM2 hT2 hS2 hO2 x3 x4 x5 x6 y0 y1 y2 y3 y4 y5 y6 fy0 fy1 fy2 fy3 fy4 fy5 fy6 z0 z1 z2 z3 z4 z5 z6 fz0 fz1 fz2 fz3 fz4 fz5 fz6
  go_wp2_with fail
  refine (toInt64SS_c 0 w.heap.size a3 c3 ps hl3 hl4 (((w2.setCell ⟨w.heap.size + 1 + 1, 3, none⟩ (.int .i64 L2)).setCell ⟨w.heap.size + 1 + 1, 4, none⟩ (.int .i64 V2)).setCell ⟨w.heap.size + 1 + 1, 5, none⟩ (.slice (some ⟨g2, 0, none⟩) us.length us.length)) (H3.out.below HB2.out (Nat.le_refl _)) (by simp only [World.size_setCell]; omega)).mono ?_
  rintro e w3 ⟨a4, rfl, hb3, hN3⟩
  have hz3 := hb3.size
  simp only [World.size_setCell] at hz3 hN3
  have HN3 := Lib.hid hN3
  have B3 := Lib.hid (HB2.out.trans (hb3.mono (by simp only [World.size_setCell]; omega)))
  have x0 : w3.cell? ⟨w.heap.size + 1, 0, none⟩ = some (.int .i64 0) := (hb3.cell (p := ⟨w.heap.size + 1, 0, none⟩) (show _ < _ by simp only [World.size_setCell]; omega)).trans (by go_simp)
  have fx0 : w3.frozen? ⟨w.heap.size + 1, 0, none⟩ = false := (hb3.frozen (p := ⟨w.heap.size + 1, 0, none⟩) (show _ < _ by simp only [World.size_setCell]; omega)).trans (by go_simp)
  have x1 : w3.cell? ⟨w.heap.size + 1, 1, none⟩ = some (.int .i64 0) := (hb3.cell (p := ⟨w.heap.size + 1, 1, none⟩) (show _ < _ by simp only [World.size_setCell]; omega)).trans (by go_simp)
  have fx1 : w3.frozen? ⟨w.heap.size + 1, 1, none⟩ = false := (hb3.frozen (p := ⟨w.heap.size + 1, 1, none⟩) (show _ < _ by simp only [World.size_setCell]; omega)).trans (by go_simp)
  have x2 : w3.cell? ⟨w.heap.size + 1, 2, none⟩ = some (.slice none 0 0) := (hb3.cell (p := ⟨w.heap.size + 1, 2, none⟩) (show _ < _ by simp only [World.size_setCell]; omega)).trans (by go_simp)
  have fx2 : w3.frozen? ⟨w.heap.size + 1, 2, none⟩ = false := (hb3.frozen (p := ⟨w.heap.size + 1, 2, none⟩) (show _ < _ by simp only [World.size_setCell]; omega)).trans (by go_simp)
  have x3 : w3.cell? ⟨w.heap.size + 1, 3, none⟩ = some (.int .i64 0) := (hb3.cell (p := ⟨w.heap.size + 1, 3, none⟩) (show _ < _ by simp only [World.size_setCell]; omega)).trans (by go_simp)
  have fx3 : w3.frozen? ⟨w.heap.size + 1, 3, none⟩ = false := (hb3.frozen (p := ⟨w.heap.size + 1, 3, none⟩) (show _ < _ by simp only [World.size_setCell]; omega)).trans (by go_simp)
  have x4 : w3.cell? ⟨w.heap.size + 1, 4, none⟩ = some (.int .i64 0) := (hb3.cell (p := ⟨w.heap.size + 1, 4, none⟩) (show _ < _ by simp only [World.size_setCell]; omega)).trans (by go_simp)
  have fx4 : w3.frozen? ⟨w.heap.size + 1, 4, none⟩ = false := (hb3.frozen (p := ⟨w.heap.size + 1, 4, none⟩) (show _ < _ by simp only [World.size_setCell]; omega)).trans (by go_simp)
  have x5 : w3.cell? ⟨w.heap.size + 1, 5, none⟩ = some (.slice none 0 0) := (hb3.cell (p := ⟨w.heap.size + 1, 5, none⟩) (show _ < _ by simp only [World.size_setCell]; omega)).trans (by go_simp)
  have fx5 : w3.frozen? ⟨w.heap.size + 1, 5, none⟩ = false := (hb3.frozen (p := ⟨w.heap.size + 1, 5, none⟩) (show _ < _ by simp only [World.size_setCell]; omega)).trans (by go_simp)
  have x6 : w3.cell? ⟨w.heap.size + 1, 6, none⟩ = some (.slice none 0 0) := (hb3.cell (p := ⟨w.heap.size + 1, 6, none⟩) (show _ < _ by simp only [World.size_setCell]; omega)).trans (by go_simp)
  have fx6 : w3.frozen? ⟨w.heap.size + 1, 6, none⟩ = false := (hb3.frozen (p := ⟨w.heap.size + 1, 6, none⟩) (show _ < _ by simp only [World.size_setCell]; omega)).trans (by go_simp)
  have y0 : w3.cell? ⟨w.heap.size + 1 + 1, 0, none⟩ = some (.int .i64 L1) := (hb3.cell (p := ⟨w.heap.size + 1 + 1, 0, none⟩) (show _ < _ by simp only [World.size_setCell]; omega)).trans (by go_simp)
  have fy0 : w3.frozen? ⟨w.heap.size + 1 + 1, 0, none⟩ = false := (hb3.frozen (p := ⟨w.heap.size + 1 + 1, 0, none⟩) (show _ < _ by simp only [World.size_setCell]; omega)).trans (by go_simp)
  have y1 : w3.cell? ⟨w.heap.size + 1 + 1, 1, none⟩ = some (.int .i64 V1) := (hb3.cell (p := ⟨w.heap.size + 1 + 1, 1, none⟩) (show _ < _ by simp only [World.size_setCell]; omega)).trans (by go_simp)
  have fy1 : w3.frozen? ⟨w.heap.size + 1 + 1, 1, none⟩ = false := (hb3.frozen (p := ⟨w.heap.size + 1 + 1, 1, none⟩) (show _ < _ by simp only [World.size_setCell]; omega)).trans (by go_simp)
  have y2 : w3.cell? ⟨w.heap.size + 1 + 1, 2, none⟩ = some (.slice (some ⟨g1, 0, none⟩) ts.length ts.length) := (hb3.cell (p := ⟨w.heap.size + 1 + 1, 2, none⟩) (show _ < _ by simp only [World.size_setCell]; omega)).trans (by go_simp)
  have fy2 : w3.frozen? ⟨w.heap.size + 1 + 1, 2, none⟩ = false := (hb3.frozen (p := ⟨w.heap.size + 1 + 1, 2, none⟩) (show _ < _ by simp only [World.size_setCell]; omega)).trans (by go_simp)
  have y3 : w3.cell? ⟨w.heap.size + 1 + 1, 3, none⟩ = some (.int .i64 L2) := (hb3.cell (p := ⟨w.heap.size + 1 + 1, 3, none⟩) (show _ < _ by simp only [World.size_setCell]; omega)).trans (by go_simp)
  have fy3 : w3.frozen? ⟨w.heap.size + 1 + 1, 3, none⟩ = false := (hb3.frozen (p := ⟨w.heap.size + 1 + 1, 3, none⟩) (show _ < _ by simp only [World.size_setCell]; omega)).trans (by go_simp)
  have y4 : w3.cell? ⟨w.heap.size + 1 + 1, 4, none⟩ = some (.int .i64 V2) := (hb3.cell (p := ⟨w.heap.size + 1 + 1, 4, none⟩) (show _ < _ by simp only [World.size_setCell]; omega)).trans (by go_simp)
  have fy4 : w3.frozen? ⟨w.heap.size + 1 + 1, 4, none⟩ = false := (hb3.frozen (p := ⟨w.heap.size + 1 + 1, 4, none⟩) (show _ < _ by simp only [World.size_setCell]; omega)).trans (by go_simp)
  have y5 : w3.cell? ⟨w.heap.size + 1 + 1, 5, none⟩ = some (.slice (some ⟨g2, 0, none⟩) us.length us.length) := (hb3.cell (p := ⟨w.heap.size + 1 + 1, 5, none⟩) (show _ < _ by simp only [World.size_setCell]; omega)).trans (by go_simp)
  have fy5 : w3.frozen? ⟨w.heap.size + 1 + 1, 5, none⟩ = false := (hb3.frozen (p := ⟨w.heap.size + 1 + 1, 5, none⟩) (show _ < _ by simp only [World.size_setCell]; omega)).trans (by go_simp)
  have y6 : w3.cell? ⟨w.heap.size + 1 + 1, 6, none⟩ = some (.slice none 0 0) := (hb3.cell (p := ⟨w.heap.size + 1 + 1, 6, none⟩) (show _ < _ by simp only [World.size_setCell]; omega)).trans (by go_simp)
  have fy6 : w3.frozen? ⟨w.heap.size + 1 + 1, 6, none⟩ = false := (hb3.frozen (p := ⟨w.heap.size + 1 + 1, 6, none⟩) (show _ < _ by simp only [World.size_setCell]; omega)).trans (by go_simp)
  have hO3 : Outside w.heap.size (w.heap.size + 3) w2 w3 := (((((Outside.refl _ _ w2).put (p := ⟨w.heap.size + 1 + 1, 3, none⟩) (show _ ≤ w.heap.size + 1 + 1 by omega) (show w.heap.size + 1 + 1 < _ by omega) _).put (p := ⟨w.heap.size + 1 + 1, 4, none⟩) (show _ ≤ w.heap.size + 1 + 1 by omega) (show w.heap.size + 1 + 1 < _ by omega) _).put (p := ⟨w.heap.size + 1 + 1, 5, none⟩) (show _ ≤ w.heap.size + 1 + 1 by omega) (show w.heap.size + 1 + 1 < _ by omega) _)).next hb3
  have HO3 := Lib.hid hO3
  clear hb3 hN3 hO3 v6 s0 s1 s2 s3 s4 s5 s6 fs0 fs1 fs2 fs3 fs4 fs5 fs6 t0 t1 t2 t3 t4 t5 t6 ft0 ft1 ft2 ft3 ft4 ft5 ft6
  go_wp2
  have hO4 : Outside w.heap.size (w.heap.size + 3) w3 ((((((((w3.setCell ⟨w.heap.size + 1 + 1, 6, none⟩ (.slice a4 ps.length ps.length)).setCell ⟨w.heap.size + 1, 0, none⟩ (.int .i64 L1)).setCell ⟨w.heap.size + 1, 1, none⟩ (.int .i64 V1)).setCell ⟨w.heap.size + 1, 2, none⟩ (.slice (some ⟨g1, 0, none⟩) ts.length ts.length)).setCell ⟨w.heap.size + 1, 3, none⟩ (.int .i64 L2)).setCell ⟨w.heap.size + 1, 4, none⟩ (.int .i64 V2)).setCell ⟨w.heap.size + 1, 5, none⟩ (.slice (some ⟨g2, 0, none⟩) us.length us.length)).setCell ⟨w.heap.size + 1, 6, none⟩ (.slice a4 ps.length ps.length)) := ((((((((Outside.refl _ _ w3).put (p := ⟨w.heap.size + 1 + 1, 6, none⟩) (show _ ≤ w.heap.size + 1 + 1 by omega) (show w.heap.size + 1 + 1 < _ by omega) _).put (p := ⟨w.heap.size + 1, 0, none⟩) (show _ ≤ w.heap.size + 1 by omega) (show w.heap.size + 1 < _ by omega) _).put (p := ⟨w.heap.size + 1, 1, none⟩) (show _ ≤ w.heap.size + 1 by omega) (show w.heap.size + 1 < _ by omega) _).put (p := ⟨w.heap.size + 1, 2, none⟩) (show _ ≤ w.heap.size + 1 by omega) (show w.heap.size + 1 < _ by omega) _).put (p := ⟨w.heap.size + 1, 3, none⟩) (show _ ≤ w.heap.size + 1 by omega) (show w.heap.size + 1 < _ by omega) _).put (p := ⟨w.heap.size + 1, 4, none⟩) (show _ ≤ w.heap.size + 1 by omega) (show w.heap.size + 1 < _ by omega) _).put (p := ⟨w.heap.size + 1, 5, none⟩) (show _ ≤ w.heap.size + 1 by omega) (show w.heap.size + 1 < _ by omega) _).put (p := ⟨w.heap.size + 1, 6, none⟩) (show _ ≤ w.heap.size + 1 by omega) (show w.heap.size + 1 < _ by omega) _
  have hz4 : ((((((((w3.setCell ⟨w.heap.size + 1 + 1, 6, none⟩ (.slice a4 ps.length ps.length)).setCell ⟨w.heap.size + 1, 0, none⟩ (.int .i64 L1)).setCell ⟨w.heap.size + 1, 1, none⟩ (.int .i64 V1)).setCell ⟨w.heap.size + 1, 2, none⟩ (.slice (some ⟨g1, 0, none⟩) ts.length ts.length)).setCell ⟨w.heap.size + 1, 3, none⟩ (.int .i64 L2)).setCell ⟨w.heap.size + 1, 4, none⟩ (.int .i64 V2)).setCell ⟨w.heap.size + 1, 5, none⟩ (.slice (some ⟨g2, 0, none⟩) us.length us.length)).setCell ⟨w.heap.size + 1, 6, none⟩ (.slice a4 ps.length ps.length)).heap.size = w3.heap.size := by simp only [World.size_setCell]
  refine bodyPost_ret (v := .agg #[.int .i64 L1, .int .i64 V1, .slice (some ⟨g1, 0, none⟩) ts.length ts.length, .int .i64 L2, .int .i64 V2, .slice (some ⟨g2, 0, none⟩) us.length us.length, .slice a4 ps.length ps.length]) (by simp [results, Try.results21, go_sem, x0, x1, x2, x3, x4, x5, x6]) rfl ⟨g1, g2, a4, rfl, B3.out.trans (hO4.below (Nat.le_refl _) (by omega)), ?_, ?_, ?_⟩
  · exact (HN1.out.outside ((HO2.out.trans HO3.out).trans hO4) (.inr (by omega))).mono (by omega) (by omega)
  · exact (HN2.out.outside (HO3.out.trans hO4) (.inr (by omega))).mono (by omega) (by omega)
  · exact (HN3.out.outside hO4 (.inr (by omega))).mono (by omega) (by omega)
end Go.Proofs.Ytjjkkaikinjmdaa
