/-
  Terms in memory: the laws' own helpers that measure, copy and compare lists of terms and series.
  Series in memory: the laws' own helpers that measure, copy and compare them.
-/
import Derived.Test.YtlkeifaiohaehaaDoorArith
import Derived.Laws.MakeOwn
import Derived.OwnWalk
import Derived.Deep.RegionHeld3
import Derived.Deep.DeepCutAuto
namespace Go.Proofs.YtlkeifaiohaehaaDoor
open Go.RowKit

/-- a term as the memory holds it: its word, the numerator and the denominator of its value -/
structure Tm where
  s : ByteArray
  n : Int
  d : Int

/-- the terms stand in a row of cells of block `b` from `off` on -/
def TermsIn (w : World) (b off : Nat) (ts : List Tm) : Prop :=
  ∀ i (h : i < ts.length), w.cell? ⟨b, off + i * 3, none⟩ = some (.string (ts[i]).s) ∧ w.cell? ⟨b, off + i * 3 + 1, none⟩ = some (.int .i64 (ts[i]).n) ∧ w.cell? ⟨b, off + i * 3 + 2, none⟩ = some (.int .i64 (ts[i]).d)

theorem TermsIn.below {w w' : World} {B b off : Nat} {ts : List Tm} (h : TermsIn w b off ts) (hb : Below B w w') (hlt : b < B) : TermsIn w' b off ts := fun i hi =>
  ⟨(hb.cell (p := ⟨b, _, none⟩) hlt).trans (h i hi).1, (hb.cell (p := ⟨b, _, none⟩) hlt).trans (h i hi).2.1, (hb.cell (p := ⟨b, _, none⟩) hlt).trans (h i hi).2.2⟩

/-- what measuring comes to: -1, or a number from which no more than the length was taken -/
def SzPost (len left : Int) (W : World) (e : Ending) (w' : World) : Prop :=
  (e = .returned (.int .i64 (-1)) ∨ ∃ r : Int, 0 ≤ r ∧ r ≤ 1048576 ∧ len ≤ left ∧ e = .returned (.int .i64 r)) ∧ Below W.heap.size W w'

/-- block `g` is there, its first `m` cells hold something and may be written -/
def Made (w : World) (g m : Nat) : Prop := g < w.heap.size ∧ ∀ j, j < m → (∃ v, w.cell? ⟨g, j, none⟩ = some v) ∧ w.frozen? ⟨g, j, none⟩ = false
theorem Made.below {w w' : World} {B g m : Nat} (h : Made w g m) (hb : Below B w w') (hlt : g < B) : Made w' g m :=
  ⟨Nat.lt_of_lt_of_le h.1 hb.size, fun j hj => by rw [hb.cell (p := ⟨g, j, none⟩) hlt, hb.frozen (p := ⟨g, j, none⟩) hlt]; exact h.2 j hj⟩
theorem Made.set {w : World} {g m : Nat} (h : Made w g m) (p : Addr) (u : Value) : Made (w.setCell p u) g m :=
  ⟨by rw [World.size_setCell]; exact h.1, fun j hj => by
    obtain ⟨⟨v, hv⟩, hz⟩ := h.2 j hj
    rw [World.frozen?_setCell]
    exact ⟨cell?_setCell_some hv, hz⟩⟩

theorem TermsIn.snoc3 {w : World} {g k : Nat} {ts : List Tm} (hk : k < ts.length) (h : TermsIn w g 0 (ts.take k)) (hm : Made w g (ts.length * 3)) {s : ByteArray} {n d : Int} (ht : ts[k] = ⟨s, n, d⟩) :
    TermsIn (((w.setCell ⟨g, k * 3, none⟩ (.string s)).setCell ⟨g, k * 3 + 1, none⟩ (.int .i64 n)).setCell ⟨g, k * 3 + 2, none⟩ (.int .i64 d)) g 0 (ts.take (k + 1)) := by
  intro i hi
  have hi' : i < k + 1 := by rw [List.length_take] at hi; omega
  have ne : ∀ {a b : Nat}, a ≠ b → (⟨g, a, none⟩ : Addr) ≠ ⟨g, b, none⟩ := fun h e => h (by injection e)
  rw [List.getElem_take]
  simp only [Nat.zero_add]
  by_cases hik : i < k
  · have h0 := h i (by rw [List.length_take]; omega)
    rw [List.getElem_take] at h0
    simp only [Nat.zero_add] at h0
    refine ⟨?_, ?_, ?_⟩
    · rw [World.cell?_setCell_other _ _ _ _ (ne (by omega)), World.cell?_setCell_other _ _ _ _ (ne (by omega)), World.cell?_setCell_other _ _ _ _ (ne (by omega))]; exact h0.1
    · rw [World.cell?_setCell_other _ _ _ _ (ne (by omega)), World.cell?_setCell_other _ _ _ _ (ne (by omega)), World.cell?_setCell_other _ _ _ _ (ne (by omega))]; exact h0.2.1
    · rw [World.cell?_setCell_other _ _ _ _ (ne (by omega)), World.cell?_setCell_other _ _ _ _ (ne (by omega)), World.cell?_setCell_other _ _ _ _ (ne (by omega))]; exact h0.2.2
  · obtain rfl : i = k := by omega
    obtain ⟨⟨v0, m0⟩, -⟩ := hm.2 (i * 3) (by omega)
    obtain ⟨⟨v1, m1⟩, -⟩ := (hm.set ⟨g, i * 3, none⟩ (.string s)).2 (i * 3 + 1) (by omega)
    obtain ⟨⟨v2, m2⟩, -⟩ := ((hm.set ⟨g, i * 3, none⟩ (.string s)).set ⟨g, i * 3 + 1, none⟩ (.int .i64 n)).2 (i * 3 + 2) (by omega)
    rw [ht]
    refine ⟨?_, ?_, ?_⟩
    · rw [World.cell?_setCell_other _ _ _ _ (ne (by omega)), World.cell?_setCell_other _ _ _ _ (ne (by omega))]; exact World.cell?_setCell_same _ _ _ m0
    · rw [World.cell?_setCell_other _ _ _ _ (ne (by omega))]; exact World.cell?_setCell_same _ _ _ m1
    · exact World.cell?_setCell_same _ _ _ m2

/-- what copying terms comes to: a new row of the same terms, which may be written -/
def ToPost (ts : List Tm) (W : World) (e : Ending) (w' : World) : Prop :=
  ∃ g, e = .returned (.slice (some ⟨g, 0, none⟩) ts.length ts.length) ∧ Below W.heap.size W w' ∧ W.heap.size ≤ g ∧ Made w' g (ts.length * 3) ∧ TermsIn w' g 0 ts

end Go.Proofs.YtlkeifaiohaehaaDoor

namespace Go.Proofs.YtlkeifaiohaehaaDoor
open Go.RowKit

/-- what copying a series comes to -/
def ToSer (L V : Int) (ts : List Tm) (W : World) (e : Ending) (w' : World) : Prop :=
  ∃ g, e = .returned (.agg #[.int .i64 L, .int .i64 V, .slice (some ⟨g, 0, none⟩) ts.length ts.length]) ∧ Below W.heap.size W w' ∧ W.heap.size ≤ g ∧ Made w' g (ts.length * 3) ∧ TermsIn w' g 0 ts

theorem TermsIn.setCell {w : World} {g : Nat} {ts : List Tm} (h : TermsIn w g 0 ts) {p : Addr} (hp : p.block ≠ g) (u : Value) : TermsIn (w.setCell p u) g 0 ts := fun i hi =>
  ⟨(World.cell?_setCell_far _ _ _ _ hp).trans (h i hi).1, (World.cell?_setCell_far _ _ _ _ hp).trans (h i hi).2.1, (World.cell?_setCell_far _ _ _ _ hp).trans (h i hi).2.2⟩

end Go.Proofs.YtlkeifaiohaehaaDoor
