/-
  Contracts of IsDesk, of the program and of its model: both return the same bool.
-/
import Derived.Test.YtjjkkaikinjmdaaDsk
import Derived.Test.YtjjkkaikinjmdaaCode
import Derived.Test.YtjjkkaikinjmdaaIsPath
import Derived.Test.YtjjkkaikinjmdaaImpIs
namespace Go.Proofs.Ytjjkkaikinjmdaa
open Go.RowKit

def deskB (L1 V1 : Int) (ts : List Tm) (L2 V2 : Int) (us : List Tm) (ps : List (List Int)) : Bool := serB L1 V1 ts && (serB L2 V2 us && (alikeB L1 V1 L2 V2 && pathB L1 ps))
theorem codeL_0 {L V : Int} {ts : List Tm} {L2 V2 : Int} {ys : List Tm} (h : codeL L V ts L2 V2 ys = 0) : serB L V ts = true ∧ serB L2 V2 ys = true ∧ alikeB L V L2 V2 = true := by
  unfold codeL at h
  cases h1 : serB L V ts <;> cases h2 : serB L2 V2 ys <;> cases h3 : alikeB L V L2 V2 <;> simp [h1, h2, h3] at h ⊢

section
variable (L1 V1 L2 V2 : Int) (g1 g2 : Nat) (a3 : Option Addr) (ts us : List Tm) (ps : List (List Int)) (hl1 : ts.length ≤ 1048576) (hs1 : ∀ i (h : i < ts.length), (ts[i]).s.size ≤ maxLen) (hl2 : us.length ≤ 1048576) (hs2 : ∀ i (h : i < us.length), (us[i]).s.size ≤ maxLen)
  (hl3 : ps.length ≤ 1048576) (hl4 : flat ps ≤ 1048576) (w : World) (hg1 : g1 < w.heap.size) (ht1 : TermsIn w g1 0 ts) (hg2 : g2 < w.heap.size) (ht2 : TermsIn w g2 0 us) (h3 : PRow 0 w.heap.size w a3 ps)
include hl1 hs1 hl2 hs2 hl3 hl4 hg1 ht1 hg2 ht2 h3

set_option maxRecDepth 100000 in
theorem sIsDesk_c : Calls Try.prog 20 #[.agg #[.int .i64 L1, .int .i64 V1, .slice (some ⟨g1, 0, none⟩) ts.length ts.length, .int .i64 L2, .int .i64 V2, .slice (some ⟨g2, 0, none⟩) us.length us.length, .slice a3 ps.length ps.length]] w
    fun e w' => e = .returned (.bool (deskB L1 V1 ts L2 V2 us ps)) ∧ Below w.heap.size w w' := by
  have T1 := Lib.hid ht1
  have T2 := Lib.hid ht2
  have H3 := Lib.hid h3
  have HS1 := Lib.hid hs1
  have HS2 := Lib.hid hs2
  clear ht1 ht2 h3 hs1 hs2
  have HC := Lib.hid (fun h => codeL_0 (L := L1) (V := V1) (ts := ts) (L2 := L2) (V2 := V2) (ys := us) h)
  have HN := Lib.hid (show codeL L1 V1 ts L2 V2 us ≠ 0 → deskB L1 V1 ts L2 V2 us ps = false from fun h => by
    unfold codeL at h
    unfold deskB
    cases h1 : serB L1 V1 ts <;> cases h2 : serB L2 V2 us <;> cases h3 : alikeB L1 V1 L2 V2 <;> simp [h1, h2, h3] at h ⊢)
  go_enter Try.func20, Try.ntmps20
  go_wp2_with fail
  refine (l01Code_c L1 V1 L2 V2 g1 0 ts.length g2 0 us.length (w.heap.size + 1) ts us hl1 hl2 HS1.out HS2.out _ (by simp; omega) (by simp; omega) (by simp) ((T1.out.below (below1 w _) hg1).below (below1 _ _) (by simp; omega)) ((T2.out.below (below1 w _) hg2).below (below1 _ _) (by simp; omega)) (by go_simp) (by go_simp) (by go_simp)).mono ?_
  rintro e w1 ⟨rfl, hb1⟩
  have hz1 := hb1.size
  simp only [World.size_alloc] at hz1
  have B1 := Lib.hid ((below2 w _ _).trans (hb1.mono (by simp; omega)))
  have x0 : w1.cell? ⟨w.heap.size, 0, none⟩ = some (.int .i64 L1) := (hb1.cell (p := ⟨w.heap.size, 0, none⟩) (by simp; omega)).trans (by go_simp)
  have x6 : w1.cell? ⟨w.heap.size, 6, none⟩ = some (.slice a3 ps.length ps.length) := (hb1.cell (p := ⟨w.heap.size, 6, none⟩) (by simp; omega)).trans (by go_simp)
  clear hb1
  obtain ⟨c, hc⟩ : ∃ c, codeL L1 V1 ts L2 V2 us = c := ⟨_, rfl⟩
  rw [hc] at HC HN ⊢
  clear hc
  by_cases h0 : c = 0
  · subst h0
    go_wp2_with fail
    refine (l04Is_c 0 w.heap.size L1 a3 ps.length ps hl3 hl4 _ (H3.out.below B1.out (Nat.le_refl _))).mono ?_
    rintro e w2 ⟨rfl, rfl⟩
    go_wp2
    go_ret
    obtain ⟨e1, e2, e3⟩ := HC.out trivial
    exact ⟨by simp [deskB, e1, e2, e3], B1.out⟩
  · have e0 := HN.out h0
    have E0 := Lib.hid e0
    clear e0 HN HC
    go_wp2
    go_ret
    exact ⟨by rw [E0.out]; rfl, B1.out⟩

set_option maxRecDepth 100000 in
theorem iIsDesk_c : Calls Try.prog 22 #[.agg #[.int .i64 L1, .int .i64 V1, .slice (some ⟨g1, 0, none⟩) ts.length ts.length, .int .i64 L2, .int .i64 V2, .slice (some ⟨g2, 0, none⟩) us.length us.length, .slice a3 ps.length ps.length]] w
    fun e w' => e = .returned (.bool (deskB L1 V1 ts L2 V2 us ps)) ∧ Below w.heap.size w w' := by
  have T1 := Lib.hid ht1
  have T2 := Lib.hid ht2
  have H3 := Lib.hid h3
  have HS1 := Lib.hid hs1
  have HS2 := Lib.hid hs2
  clear ht1 ht2 h3 hs1 hs2
  unfold deskB
  go_enter Try.func22, Try.ntmps22
  go_wp2_with fail
  refine (iIsSeries_c L1 V1 g1 0 ts.length ts hl1 HS1.out _ (by simp; omega) (T1.out.below (below1 w _) hg1)).mono ?_
  rintro e w1 ⟨rfl, hb1⟩
  have hz1 := hb1.size
  simp only [World.size_alloc] at hz1
  have B1 := Lib.hid ((below1 w _).trans (hb1.mono (by simp)))
  have q1 := fun o => hb1.cell (p := ⟨w.heap.size, o, none⟩) (by simp)
  have x0 : w1.cell? ⟨w.heap.size, 0, none⟩ = some (.int .i64 L1) := (q1 0).trans (by go_simp)
  have x1 : w1.cell? ⟨w.heap.size, 1, none⟩ = some (.int .i64 V1) := (q1 1).trans (by go_simp)
  have x2 : w1.cell? ⟨w.heap.size, 2, none⟩ = some (.slice (some ⟨g1, 0, none⟩) ts.length ts.length) := (q1 2).trans (by go_simp)
  have x3 : w1.cell? ⟨w.heap.size, 3, none⟩ = some (.int .i64 L2) := (q1 3).trans (by go_simp)
  have x4 : w1.cell? ⟨w.heap.size, 4, none⟩ = some (.int .i64 V2) := (q1 4).trans (by go_simp)
  have x5 : w1.cell? ⟨w.heap.size, 5, none⟩ = some (.slice (some ⟨g2, 0, none⟩) us.length us.length) := (q1 5).trans (by go_simp)
  have x6 : w1.cell? ⟨w.heap.size, 6, none⟩ = some (.slice a3 ps.length ps.length) := (q1 6).trans (by go_simp)
  clear hb1 q1
  cases e1 : serB L1 V1 ts with
  | false =>
    have E1 := Lib.hid e1
    clear e1 x0 x1 x2 x3 x4 x5 x6
    go_wp2
    go_ret
    exact ⟨by rw [E1.out]; rfl, B1.out⟩
  | true =>
    have E1 := Lib.hid e1
    clear e1
    go_wp2_with fail
    refine (iIsSeries_c L2 V2 g2 0 us.length us hl2 HS2.out _ (by omega) (T2.out.below B1.out hg2)).mono ?_
    rintro e w2 ⟨rfl, hb2⟩
    have hz2 := hb2.size
    have B2 := Lib.hid (B1.out.trans (hb2.mono (by omega)))
    have q2 := fun o => hb2.cell (p := ⟨w.heap.size, o, none⟩) (show w.heap.size < _ by omega)
    have y0 := (q2 0).trans x0
    have y1 := (q2 1).trans x1
    have y2 := (q2 2).trans x2
    have y3 := (q2 3).trans x3
    have y4 := (q2 4).trans x4
    have y5 := (q2 5).trans x5
    have y6 := (q2 6).trans x6
    clear hb2 q2 x0 x1 x2 x3 x4 x5 x6
    cases e2 : serB L2 V2 us with
    | false =>
      have E2 := Lib.hid e2
      clear e2 y0 y1 y2 y3 y4 y5 y6
      go_wp2
      go_ret
      exact ⟨by rw [E1.out, E2.out]; rfl, B2.out⟩
    | true =>
      have E2 := Lib.hid e2
      clear e2
      go_wp2_with fail
      refine (areAlike_c L1 V1 L2 V2 (some ⟨g1, 0, none⟩) (some ⟨g2, 0, none⟩) ts.length ts.length us.length us.length _).mono ?_
      rintro e w3 ⟨rfl, hb3⟩
      have hz3 := hb3.size
      have B3 := Lib.hid (B2.out.trans (hb3.mono (by omega)))
      have z0 := (hb3.cell (p := ⟨w.heap.size, 0, none⟩) (show w.heap.size < _ by omega)).trans y0
      have z6 := (hb3.cell (p := ⟨w.heap.size, 6, none⟩) (show w.heap.size < _ by omega)).trans y6
      clear hb3 y0 y1 y2 y3 y4 y5 y6
      cases e3 : alikeB L1 V1 L2 V2 with
      | false =>
        have E3 := Lib.hid e3
        clear e3 z0 z6
        go_wp2
        go_ret
        exact ⟨by rw [E1.out, E2.out, E3.out]; rfl, B3.out⟩
      | true =>
        have E3 := Lib.hid e3
        clear e3
        go_wp2_with fail
        refine (iIsPath_c 0 w.heap.size L1 a3 ps.length ps hl3 hl4 _ (H3.out.below B3.out (Nat.le_refl _))).mono ?_
        rintro e w4 ⟨rfl, rfl⟩
        go_wp2
        go_ret
        exact ⟨by rw [E1.out, E2.out, E3.out]; rfl, B3.out⟩
end
end Go.Proofs.Ytjjkkaikinjmdaa
