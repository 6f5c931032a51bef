/-
  The contracts of addProduct, valuesOf and checkFactors.
  The contract of checkFactors.
-/
import Derived.Test.YtknigggjnjkhbaaCode
import Derived.Test.YtknigggjnjkhbaaMapV
namespace Go.Proofs.Ytknigggjnjkhbaa
open Go.RowKit

/-- block g is a box that holds a fraction and may be written -/
def Box2 (w : World) (g : Nat) (a b : Int) : Prop := g < w.heap.size ∧ w.cell? ⟨g, 0, none⟩ = some (.int .i64 a) ∧ w.cell? ⟨g, 1, none⟩ = some (.int .i64 b) ∧ w.frozen? ⟨g, 0, none⟩ = false ∧ w.frozen? ⟨g, 1, none⟩ = false
theorem Box2.below {w w' : World} {B g : Nat} {a b : Int} (h : Box2 w g a b) (hb : Below B w w') (hg : g < B) : Box2 w' g a b := by
  obtain ⟨h0, h1, h2, h3, h4⟩ := h
  exact ⟨Nat.lt_of_lt_of_le h0 hb.size, (hb.cell (p := ⟨g, 0, none⟩) hg).trans h1, (hb.cell (p := ⟨g, 1, none⟩) hg).trans h2, (hb.frozen (p := ⟨g, 0, none⟩) hg).trans h3, (hb.frozen (p := ⟨g, 1, none⟩) hg).trans h4⟩
theorem Box2.new (w : World) (a b : Int) (t : TypeId) : Box2 (w.alloc (.cells #[.int .i64 a, .int .i64 b] t)) w.heap.size a b := ⟨by simp, by go_simp, by go_simp, by go_simp, by go_simp⟩
theorem Box2.store {w : World} {g : Nat} {a b : Int} (h : Box2 w g a b) (x y : Int) : Box2 ((w.setCell ⟨g, 0, none⟩ (.int .i64 x)).setCell ⟨g, 1, none⟩ (.int .i64 y)) g x y := by
  obtain ⟨h0, h1, h2, h3, h4⟩ := h
  refine ⟨by simpa using h0, ?_, ?_, by simpa using h3, by simpa using h4⟩
  · rw [World.cell?_setCell_other _ _ _ _ (fun e => by injection e with _ e2; cases e2)]
    exact World.cell?_setCell_same _ _ _ h1
  · exact World.cell?_setCell_same _ _ _ ((World.cell?_setCell_other _ _ _ _ (fun e => by injection e with _ e2; cases e2)).trans h2)
/-- what a sum with a product comes to -/
def apR (a b n d p q : Int) : Int × Int × Int := if fOk (n * p) (d * q) then q3 (a * fD (n * p) (d * q) + fN (n * p) (d * q) * b) (b * fD (n * p) (d * q)) else bad3 3
theorem isF_zero_one : isF 0 1 = true := by decide
def FracPost (r : Int × Int × Int) (W : World) (e : Ending) (w' : World) : Prop := e = .returned (.tuple #[.agg #[.int .i64 r.1, .int .i64 r.2.1], .int .i64 r.2.2]) ∧ Below W.heap.size W w'

set_option maxRecDepth 100000 in
set_option maxHeartbeats 4000000 in
theorem addProduct_c (a b n d p q : Int) (h1 : isF a b = true) (h2 : isF n d = true) (h3 : isF p q = true) (w : World) :
    Calls Try.prog 70 #[.agg #[.int .i64 a, .int .i64 b], .agg #[.int .i64 n, .int .i64 d], .agg #[.int .i64 p, .int .i64 q]] w (FracPost (apR a b n d p q) w) := by
  have Hm := Lib.hid (mulR_y h2 h3)
  have H1 := Lib.hid h1
  cases hok : fOk (n * p) (d * q) with
  | false =>
    have HR := Lib.hid (show apR a b n d p q = bad3 3 by unfold apR; rw [hok]; rfl)
    have HQ := Lib.hid (show mulR n d p q = (0, 0, 3) by rw [Hm.out]; unfold q3; rw [(low_no hok).1, (low_no hok).2.1, (low_no hok).2.2])
    clear hok h1 h2 h3
    go_enter Try.func70, Try.ntmps70
    go_wp2_with fail
    refine (iMul_c n d p q _).mono ?_
    rw [HQ.out]
    rintro e w1 ⟨rfl, hb⟩
    have hB := hb
    simp only [World.size_alloc] at hB
    obtain ⟨hc, hf⟩ := bcellB hB
    have r0 : w1.cell? ⟨w.heap.size + 1 + 1 + 1, 0, none⟩ = some (.int .i64 0) := (hc _ _ (by go_size)).trans (by go_simp)
    have r1 : w1.cell? ⟨w.heap.size + 1 + 1 + 1, 1, none⟩ = some (.int .i64 0) := (hc _ _ (by go_size)).trans (by go_simp)
    have z0 : w1.frozen? ⟨w.heap.size + 1 + 1 + 1, 0, none⟩ = false := (hf _ _ (by go_size)).trans (by go_simp)
    have z1 : w1.frozen? ⟨w.heap.size + 1 + 1 + 1, 1, none⟩ = false := (hf _ _ (by go_size)).trans (by go_simp)
    have hW : Below w.heap.size w w1 := (below4 w _ _ _ _).trans (hB.mono (by omega))
    have hz : w.heap.size + 1 + 1 + 1 < w1.heap.size := by have := hB.size; simp at this; omega
    clear hc hf hB hb
    simp only [bad3] at HR
    go_wp2
    exact bodyPost_ret (v := .tuple #[.agg #[.int .i64 0, .int .i64 0], .int .i64 3]) (by simp [results, Try.results70, go_sem, r0, r1, hz]) rfl ⟨by rw [HR.out], by go_grown⟩
  | true =>
    have hx := fOk_isFp hok
    have HR := Lib.hid (show apR a b n d p q = q3 (a * fD (n * p) (d * q) + fN (n * p) (d * q) * b) (b * fD (n * p) (d * q)) by unfold apR; rw [hok]; rfl)
    have HQ := Lib.hid (show mulR n d p q = (fN (n * p) (d * q), fD (n * p) (d * q), 0) by rw [Hm.out]; unfold q3; rw [(low_yes hok).2.2])
    generalize fN (n * p) (d * q) = x at *
    generalize fD (n * p) (d * q) = y at *
    have HA := Lib.hid (addR_y H1.out hx)
    rw [← HA.out] at HR
    obtain ⟨⟨t1, t2, t3⟩, ht⟩ : ∃ t, addR a b x y = t := ⟨_, rfl⟩
    rw [ht] at HR
    have HT := Lib.hid ht
    clear ht hok hx h1 h2 h3
    go_enter Try.func70, Try.ntmps70
    go_wp2_with fail
    refine (iMul_c n d p q _).mono ?_
    rw [HQ.out]
    rintro e w1 ⟨rfl, hb⟩
    have hB := hb
    simp only [World.size_alloc] at hB
    obtain ⟨hc, hf⟩ := bcellB hB
    have a0 : w1.cell? ⟨w.heap.size, 0, none⟩ = some (.int .i64 a) := (hc _ _ (by go_size)).trans (by go_simp)
    have a1 : w1.cell? ⟨w.heap.size, 1, none⟩ = some (.int .i64 b) := (hc _ _ (by go_size)).trans (by go_simp)
    have r0 : w1.cell? ⟨w.heap.size + 1 + 1 + 1, 0, none⟩ = some (.int .i64 0) := (hc _ _ (by go_size)).trans (by go_simp)
    have r1 : w1.cell? ⟨w.heap.size + 1 + 1 + 1, 1, none⟩ = some (.int .i64 0) := (hc _ _ (by go_size)).trans (by go_simp)
    have z0 : w1.frozen? ⟨w.heap.size + 1 + 1 + 1, 0, none⟩ = false := (hf _ _ (by go_size)).trans (by go_simp)
    have z1 : w1.frozen? ⟨w.heap.size + 1 + 1 + 1, 1, none⟩ = false := (hf _ _ (by go_size)).trans (by go_simp)
    have hW : Below w.heap.size w w1 := (below4 w _ _ _ _).trans (hB.mono (by omega))
    have hz : w.heap.size + 1 + 1 + 1 < w1.heap.size := by have := hB.size; simp at this; omega
    have hz0 : w.heap.size < w1.heap.size := by omega
    clear hc hf hB hb
    go_wp2_with fail
    refine (iAdd_c a b x y _).mono ?_
    rw [HT.out]
    rintro e w2 ⟨rfl, hb⟩
    have hB2 : Below w1.heap.size w1 w2 := (below1 w1 _).trans (hb.mono (by simp))
    obtain ⟨hc2, hf2⟩ := bcellB hB2
    have s0 : w2.cell? ⟨w.heap.size + 1 + 1 + 1, 0, none⟩ = some (.int .i64 0) := (hc2 _ _ hz).trans r0
    have s1 : w2.cell? ⟨w.heap.size + 1 + 1 + 1, 1, none⟩ = some (.int .i64 0) := (hc2 _ _ hz).trans r1
    have y0 : w2.frozen? ⟨w.heap.size + 1 + 1 + 1, 0, none⟩ = false := (hf2 _ _ hz).trans z0
    have y1 : w2.frozen? ⟨w.heap.size + 1 + 1 + 1, 1, none⟩ = false := (hf2 _ _ hz).trans z1
    have hz2 : w.heap.size + 1 + 1 + 1 < w2.heap.size := Nat.lt_of_lt_of_le hz hB2.size
    have hW2 : Below w.heap.size w w2 := hW.trans (hB2.mono (by omega))
    clear hc2 hf2 hb hB2 r0 r1 z0 z1 hW a0 a1 hz hz0
    go_wp2
    exact bodyPost_ret (v := .tuple #[.agg #[.int .i64 t1, .int .i64 t2], .int .i64 t3]) (by simp [results, Try.results70, go_sem, s0, s1]) rfl ⟨by rw [HR.out], by go_grown⟩

def ValVPost (ts : List Tm) (W : World) (e : Ending) (w' : World) : Prop := ∃ b, e = .returned (.map (some b)) ∧ W.heap.size ≤ b ∧ Below W.heap.size W w' ∧ MapV w' b ts.length (valV ts ts.length)
end Go.Proofs.Ytknigggjnjkhbaa

namespace Go.Proofs.Ytknigggjnjkhbaa
open Go.RowKit

end Go.Proofs.Ytknigggjnjkhbaa
