/-
  The contracts of addProduct, valuesOf and checkFactors.
  The contract of checkFactors.
-/
import Derived.Test.YtdgkkcjjfpenpaaGreatDoorCode
import Derived.Test.YtdgkkcjjfpenpaaGreatDoorMapV
namespace Go.Proofs.YtdgkkcjjfpenpaaGreatDoor
open Go.RowKit

/-- block g is a box that holds a fraction and may be written -/
def Box2 (w : World) (g : Nat) (a b : Int) : Prop := g < w.heap.size ∧ w.cell? ⟨g, 0, none⟩ = some (.int .i64 a) ∧ w.cell? ⟨g, 1, none⟩ = some (.int .i64 b) ∧ w.frozen? ⟨g, 0, none⟩ = false ∧ w.frozen? ⟨g, 1, none⟩ = false
theorem Box2.below {w w' : World} {B g : Nat} {a b : Int} (h : Box2 w g a b) (hb : Below B w w') (hg : g < B) : Box2 w' g a b := by
  obtain ⟨h0, h1, h2, h3, h4⟩ := h
  exact ⟨Nat.lt_of_lt_of_le h0 hb.size, (hb.cell (p := ⟨g, 0, none⟩) hg).trans h1, (hb.cell (p := ⟨g, 1, none⟩) hg).trans h2, (hb.frozen (p := ⟨g, 0, none⟩) hg).trans h3, (hb.frozen (p := ⟨g, 1, none⟩) hg).trans h4⟩
theorem Box2.new (w : World) (a b : Int) (t : TypeId) : Box2 (w.alloc (.cells #[.int .i64 a, .int .i64 b] t)) w.heap.size a b := ⟨by simp, by go_simp, by go_simp, by go_simp, by go_simp⟩
theorem Box2.store {w : World} {g : Nat} {a b : Int} (h : Box2 w g a b) (x y : Int) : Box2 ((w.setCell ⟨g, 0, none⟩ (.int .i64 x)).setCell ⟨g, 1, none⟩ (.int .i64 y)) g x y := by
  obtain ⟨h0, h1, h2, h3, h4⟩ := h
  refine ⟨by simpa using h0, ?_, ?_, by simpa using h3, by simpa using h4⟩
  · rw [World.cell?_setCell_other _ _ _ _ (fun e => by injection e with _ e2; cases e2)]
    exact World.cell?_setCell_same _ _ _ h1
  · exact World.cell?_setCell_same _ _ _ ((World.cell?_setCell_other _ _ _ _ (fun e => by injection e with _ e2; cases e2)).trans h2)
/-- what a sum with a product comes to -/
def apR (a b n d p q : Int) : Int × Int × Int := if fOk (n * p) (d * q) then q3 (a * fD (n * p) (d * q) + fN (n * p) (d * q) * b) (b * fD (n * p) (d * q)) else bad3 3
theorem isF_zero_one : isF 0 1 = true := by decide
def FracPost (r : Int × Int × Int) (W : World) (e : Ending) (w' : World) : Prop := e = .returned (.tuple #[.agg #[.int .i64 r.1, .int .i64 r.2.1], .int .i64 r.2.2]) ∧ Below W.heap.size W w'

set_option maxRecDepth 100000 in
set_option maxHeartbeats 4000000 in
theorem addProduct_c (a b n d p q : Int) (h1 : isF a b = true) (h2 : isF n d = true) (h3 : isF p q = true) (w : World) :
    Calls Tryz.prog 84 #[.agg #[.int .i64 a, .int .i64 b], .agg #[.int .i64 n, .int .i64 d], .agg #[.int .i64 p, .int .i64 q]] w (FracPost (apR a b n d p q) w) := by
  have Hm := Lib.hid (mulR_y h2 h3)
  have H1 := Lib.hid h1
  cases hok : fOk (n * p) (d * q) with
  | false =>
    have HR := Lib.hid (show apR a b n d p q = bad3 3 by unfold apR; rw [hok]; rfl)
    have HQ := Lib.hid (show mulR n d p q = (0, 0, 3) by rw [Hm.out]; unfold q3; rw [(low_no hok).1, (low_no hok).2.1, (low_no hok).2.2])
    clear hok h1 h2 h3
    go_enter Tryz.func84, Tryz.ntmps84
    go_wp2_with fail
    refine (iMul_c n d p q _).mono ?_
    rw [HQ.out]
    rintro e w1 ⟨rfl, hb⟩
    have hB := hb
    simp only [World.size_alloc] at hB
    obtain ⟨hc, hf⟩ := bcellB hB
    have r0 : w1.cell? ⟨w.heap.size + 1 + 1 + 1, 0, none⟩ = some (.int .i64 0) := (hc _ _ (by go_size)).trans (by go_simp)
    have r1 : w1.cell? ⟨w.heap.size + 1 + 1 + 1, 1, none⟩ = some (.int .i64 0) := (hc _ _ (by go_size)).trans (by go_simp)
    have z0 : w1.frozen? ⟨w.heap.size + 1 + 1 + 1, 0, none⟩ = false := (hf _ _ (by go_size)).trans (by go_simp)
    have z1 : w1.frozen? ⟨w.heap.size + 1 + 1 + 1, 1, none⟩ = false := (hf _ _ (by go_size)).trans (by go_simp)
    have hW : Below w.heap.size w w1 := (below4 w _ _ _ _).trans (hB.mono (by omega))
    have hz : w.heap.size + 1 + 1 + 1 < w1.heap.size := by have := hB.size; simp at this; omega
    clear hc hf hB hb
    simp only [bad3] at HR
    go_wp2
    exact bodyPost_ret (v := .tuple #[.agg #[.int .i64 0, .int .i64 0], .int .i64 3]) (by simp [results, Tryz.results84, go_sem, r0, r1, hz]) rfl ⟨by rw [HR.out], by go_grown⟩
  | true =>
    have hx := fOk_isFp hok
    have HR := Lib.hid (show apR a b n d p q = q3 (a * fD (n * p) (d * q) + fN (n * p) (d * q) * b) (b * fD (n * p) (d * q)) by unfold apR; rw [hok]; rfl)
    have HQ := Lib.hid (show mulR n d p q = (fN (n * p) (d * q), fD (n * p) (d * q), 0) by rw [Hm.out]; unfold q3; rw [(low_yes hok).2.2])
    generalize fN (n * p) (d * q) = x at *
    generalize fD (n * p) (d * q) = y at *
    have HA := Lib.hid (addR_y H1.out hx)
    rw [← HA.out] at HR
    obtain ⟨⟨t1, t2, t3⟩, ht⟩ : ∃ t, addR a b x y = t := ⟨_, rfl⟩
    rw [ht] at HR
    have HT := Lib.hid ht
    clear ht hok hx h1 h2 h3
    go_enter Tryz.func84, Tryz.ntmps84
    go_wp2_with fail
    refine (iMul_c n d p q _).mono ?_
    rw [HQ.out]
    rintro e w1 ⟨rfl, hb⟩
    have hB := hb
    simp only [World.size_alloc] at hB
    obtain ⟨hc, hf⟩ := bcellB hB
    have a0 : w1.cell? ⟨w.heap.size, 0, none⟩ = some (.int .i64 a) := (hc _ _ (by go_size)).trans (by go_simp)
    have a1 : w1.cell? ⟨w.heap.size, 1, none⟩ = some (.int .i64 b) := (hc _ _ (by go_size)).trans (by go_simp)
    have r0 : w1.cell? ⟨w.heap.size + 1 + 1 + 1, 0, none⟩ = some (.int .i64 0) := (hc _ _ (by go_size)).trans (by go_simp)
    have r1 : w1.cell? ⟨w.heap.size + 1 + 1 + 1, 1, none⟩ = some (.int .i64 0) := (hc _ _ (by go_size)).trans (by go_simp)
    have z0 : w1.frozen? ⟨w.heap.size + 1 + 1 + 1, 0, none⟩ = false := (hf _ _ (by go_size)).trans (by go_simp)
    have z1 : w1.frozen? ⟨w.heap.size + 1 + 1 + 1, 1, none⟩ = false := (hf _ _ (by go_size)).trans (by go_simp)
    have hW : Below w.heap.size w w1 := (below4 w _ _ _ _).trans (hB.mono (by omega))
    have hz : w.heap.size + 1 + 1 + 1 < w1.heap.size := by have := hB.size; simp at this; omega
    have hz0 : w.heap.size < w1.heap.size := by omega
    clear hc hf hB hb
    go_wp2_with fail
    refine (iAdd_c a b x y _).mono ?_
    rw [HT.out]
    rintro e w2 ⟨rfl, hb⟩
    have hB2 : Below w1.heap.size w1 w2 := (below1 w1 _).trans (hb.mono (by simp))
    obtain ⟨hc2, hf2⟩ := bcellB hB2
    have s0 : w2.cell? ⟨w.heap.size + 1 + 1 + 1, 0, none⟩ = some (.int .i64 0) := (hc2 _ _ hz).trans r0
    have s1 : w2.cell? ⟨w.heap.size + 1 + 1 + 1, 1, none⟩ = some (.int .i64 0) := (hc2 _ _ hz).trans r1
    have y0 : w2.frozen? ⟨w.heap.size + 1 + 1 + 1, 0, none⟩ = false := (hf2 _ _ hz).trans z0
    have y1 : w2.frozen? ⟨w.heap.size + 1 + 1 + 1, 1, none⟩ = false := (hf2 _ _ hz).trans z1
    have hz2 : w.heap.size + 1 + 1 + 1 < w2.heap.size := Nat.lt_of_lt_of_le hz hB2.size
    have hW2 : Below w.heap.size w w2 := hW.trans (hB2.mono (by omega))
    clear hc2 hf2 hb hB2 r0 r1 z0 z1 hW a0 a1 hz hz0
    go_wp2
    exact bodyPost_ret (v := .tuple #[.agg #[.int .i64 t1, .int .i64 t2], .int .i64 t3]) (by simp [results, Tryz.results84, go_sem, s0, s1]) rfl ⟨by rw [HR.out], by go_grown⟩

def ValVPost (ts : List Tm) (W : World) (e : Ending) (w' : World) : Prop := ∃ b, e = .returned (.map (some b)) ∧ W.heap.size ≤ b ∧ Below W.heap.size W w' ∧ MapV w' b ts.length (valV ts ts.length)
end Go.Proofs.YtdgkkcjjfpenpaaGreatDoor

namespace Go.Proofs.YtdgkkcjjfpenpaaGreatDoor
open Go.RowKit

set_option maxRecDepth 100000 in
set_option maxHeartbeats 4000000 in
theorem checkFactors_c (L1 V1 L2 V2 : Int) (g1 g2 c1 c2 : Nat) (xs ys : List Tm) (hl1 : xs.length ≤ 1048576) (hl2 : ys.length ≤ 1048576) (hs1 : ∀ i (h : i < xs.length), (xs[i]).s.size ≤ maxLen) (hs2 : ∀ i (h : i < ys.length), (ys[i]).s.size ≤ maxLen) (w : World) (hb1 : g1 < w.heap.size) (hb2 : g2 < w.heap.size) (t1 : TermsIn w g1 0 xs) (t2 : TermsIn w g2 0 ys) :
    Calls Tryz.prog 55 #[.agg #[.int .i64 L1, .int .i64 V1, .slice (some ⟨g1, 0, none⟩) xs.length c1], .agg #[.int .i64 L2, .int .i64 V2, .slice (some ⟨g2, 0, none⟩) ys.length c2]] w fun e w' => e = .returned (.int .i64 (codeL L1 V1 xs L2 V2 ys)) ∧ Below w.heap.size w w' := by
  have HT1 := Lib.hid t1
  have HT2 := Lib.hid t2
  have HS1 := Lib.hid hs1
  have HS2 := Lib.hid hs2
  clear t1 t2 hs1 hs2
  cases a1 : serB L1 V1 xs with
  | false =>
    have HC := Lib.hid (codeL_1 (L2 := L2) (V2 := V2) (ys := ys) a1)
    have HA1 := Lib.hid a1
    clear a1
    go_enter Tryz.func55, Tryz.ntmps55
    go_wp2_with fail
    refine (iIsSeries_c L1 V1 g1 0 _ xs hl1 HS1.out _ (by simp; omega) (HT1.out.below (below2 w _ _) hb1)).mono ?_
    rw [HA1.out]
    rintro e w1 ⟨rfl, hb⟩
    have hW := (below2 w (.cells #[.int .i64 L1, .int .i64 V1, .slice (some ⟨g1, 0, none⟩) xs.length c1] 24) (.cells #[.int .i64 L2, .int .i64 V2, .slice (some ⟨g2, 0, none⟩) ys.length c2] 24)).trans (hb.mono (by simp; omega))
    clear hb
    go_wp2
    go_ret
    exact ⟨by rw [HC.out]; rfl, hW⟩
  | true =>
    have HA1 := Lib.hid a1
    go_enter Tryz.func55, Tryz.ntmps55
    go_wp2_with fail
    refine (iIsSeries_c L1 V1 g1 0 _ xs hl1 HS1.out _ (by simp; omega) (HT1.out.below (below2 w _ _) hb1)).mono ?_
    rw [HA1.out]
    rintro e w1 ⟨rfl, hb⟩
    have hB := hb
    simp only [World.size_alloc] at hB
    obtain ⟨hc, hf⟩ := bcellB hB
    have x0 : w1.cell? ⟨w.heap.size, 0, none⟩ = some (.int .i64 L1) := (hc _ _ (by omega)).trans (by go_simp)
    have x1 : w1.cell? ⟨w.heap.size, 1, none⟩ = some (.int .i64 V1) := (hc _ _ (by omega)).trans (by go_simp)
    have x2 : w1.cell? ⟨w.heap.size, 2, none⟩ = some (.slice (some ⟨g1, 0, none⟩) xs.length c1) := (hc _ _ (by omega)).trans (by go_simp)
    have y0 : w1.cell? ⟨w.heap.size + 1, 0, none⟩ = some (.int .i64 L2) := (hc _ _ (by omega)).trans (by go_simp)
    have y1 : w1.cell? ⟨w.heap.size + 1, 1, none⟩ = some (.int .i64 V2) := (hc _ _ (by omega)).trans (by go_simp)
    have y2 : w1.cell? ⟨w.heap.size + 1, 2, none⟩ = some (.slice (some ⟨g2, 0, none⟩) ys.length c2) := (hc _ _ (by omega)).trans (by go_simp)
    have HW := Lib.hid ((below2 w (.cells #[.int .i64 L1, .int .i64 V1, .slice (some ⟨g1, 0, none⟩) xs.length c1] 24) (.cells #[.int .i64 L2, .int .i64 V2, .slice (some ⟨g2, 0, none⟩) ys.length c2] 24)).trans (hB.mono (by omega)))
    have hz : w.heap.size + 1 < w1.heap.size := by have := hB.size; simp at this; omega
    have HC1 := Lib.hid (show Cs w1 [(w.heap.size, 0, .int .i64 L1), (w.heap.size, 1, .int .i64 V1), (w.heap.size, 2, .slice (some ⟨g1, 0, none⟩) xs.length c1), (w.heap.size + 1, 0, .int .i64 L2), (w.heap.size + 1, 1, .int .i64 V2), (w.heap.size + 1, 2, .slice (some ⟨g2, 0, none⟩) ys.length c2)] from ((((((Cs.nil w1).cons hz y2).cons hz y1).cons hz y0).cons (by omega) x2).cons (by omega) x1).cons (by omega) x0)
    clear hc hf hB hb
    go_wp2_with fail
    refine (iIsSeries_c L2 V2 g2 0 _ ys hl2 HS2.out _ (by omega) (HT2.out.below HW.out hb2)).mono ?_
    rintro e w2 ⟨rfl, hb⟩
    have HC2 := Lib.hid (HC1.out.below hb (Nat.le_refl _))
    have HW2 := Lib.hid (HW.out.trans (hb.mono (by omega)))
    clear hb x0 x1 x2 y0 y1 y2
    cases a2 : serB L2 V2 ys with
    | false =>
      have HC := Lib.hid (codeL_2 (L := L1) (V := V1) (ts := xs) a2)
      clear a1 a2
      go_wp2
      go_ret
      exact ⟨by rw [HC.out]; rfl, HW2.out⟩
    | true =>
      have x0 := HC2.out.get 0 rfl
      have x1 := HC2.out.get 1 rfl
      have x2 := HC2.out.get 2 rfl
      have y0 := HC2.out.get 3 rfl
      have y1 := HC2.out.get 4 rfl
      have y2 := HC2.out.get 5 rfl
      have HA2 := Lib.hid a2
      clear a2 a1
      go_wp2_with fail
      refine (areAlike_c L1 V1 L2 V2 _ _ _ _ _ _ _).mono ?_
      rintro e w3 ⟨rfl, hb⟩
      have HW3 := Lib.hid (HW2.out.trans (hb.mono HW2.out.size))
      clear hb x0 x1 x2 y0 y1 y2
      cases a3 : alikeB L1 V1 L2 V2 with
      | false =>
        have HC := Lib.hid (codeL_3 HA1.out HA2.out a3)
        clear a3
        go_wp2
        go_ret
        exact ⟨by rw [HC.out]; rfl, HW3.out⟩
      | true =>
        have HC := Lib.hid (codeL_4 HA1.out HA2.out a3)
        clear a3
        go_wp2
        go_ret
        exact ⟨by rw [HC.out]; rfl, HW3.out⟩
end Go.Proofs.YtdgkkcjjfpenpaaGreatDoor
