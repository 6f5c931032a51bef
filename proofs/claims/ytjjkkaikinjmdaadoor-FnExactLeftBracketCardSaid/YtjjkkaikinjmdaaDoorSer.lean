/-
  Terms in memory: the laws' own helpers that measure, copy and compare lists of terms and series.
  Series in memory: the laws' own helpers that measure, copy and compare them.
-/
import Derived.Test.YtjjkkaikinjmdaaDoorArith
import Derived.Laws.MakeOwn
import Derived.OwnWalk
import Derived.Deep.RegionHeld3
import Derived.Deep.DeepCutAuto
namespace Go.Proofs.YtjjkkaikinjmdaaDoor
open Go.RowKit

/-- a term as the memory holds it: its word, the numerator and the denominator of its value -/
structure Tm where
  s : ByteArray
  n : Int
  d : Int

/-- the terms stand in a row of cells of block `b` from `off` on -/
def TermsIn (w : World) (b off : Nat) (ts : List Tm) : Prop :=
  ∀ i (h : i < ts.length), w.cell? ⟨b, off + i * 3, none⟩ = some (.string (ts[i]).s) ∧ w.cell? ⟨b, off + i * 3 + 1, none⟩ = some (.int .i64 (ts[i]).n) ∧ w.cell? ⟨b, off + i * 3 + 2, none⟩ = some (.int .i64 (ts[i]).d)

theorem TermsIn.below {w w' : World} {B b off : Nat} {ts : List Tm} (h : TermsIn w b off ts) (hb : Below B w w') (hlt : b < B) : TermsIn w' b off ts := fun i hi =>
  ⟨(hb.cell (p := ⟨b, _, none⟩) hlt).trans (h i hi).1, (hb.cell (p := ⟨b, _, none⟩) hlt).trans (h i hi).2.1, (hb.cell (p := ⟨b, _, none⟩) hlt).trans (h i hi).2.2⟩

/-- what measuring comes to: -1, or a number from which no more than the length was taken -/
def SzPost (len left : Int) (W : World) (e : Ending) (w' : World) : Prop :=
  (e = .returned (.int .i64 (-1)) ∨ ∃ r : Int, 0 ≤ r ∧ r ≤ 1048576 ∧ len ≤ left ∧ e = .returned (.int .i64 r)) ∧ Below W.heap.size W w'

/-- block `g` is there, its first `m` cells hold something and may be written -/
def Made (w : World) (g m : Nat) : Prop := g < w.heap.size ∧ ∀ j, j < m → (∃ v, w.cell? ⟨g, j, none⟩ = some v) ∧ w.frozen? ⟨g, j, none⟩ = false
theorem Made.below {w w' : World} {B g m : Nat} (h : Made w g m) (hb : Below B w w') (hlt : g < B) : Made w' g m :=
  ⟨Nat.lt_of_lt_of_le h.1 hb.size, fun j hj => by rw [hb.cell (p := ⟨g, j, none⟩) hlt, hb.frozen (p := ⟨g, j, none⟩) hlt]; exact h.2 j hj⟩
theorem Made.set {w : World} {g m : Nat} (h : Made w g m) (p : Addr) (u : Value) : Made (w.setCell p u) g m :=
  ⟨by rw [World.size_setCell]; exact h.1, fun j hj => by
    obtain ⟨⟨v, hv⟩, hz⟩ := h.2 j hj
    rw [World.frozen?_setCell]
    exact ⟨cell?_setCell_some hv, hz⟩⟩

theorem info_term : (Tryd.prog.info? 73).map (fun i => (i.zero, i.size, i.bytes)) = some (some (.agg #[.string ByteArray.empty, .int .i64 0, .int .i64 0]), 3, 32) := by kernel_rfl

theorem make_terms (n : Nat) (hn : n ≤ 1048576) : ∃ O : Obj, (∀ W : World, (Instr.makeSlice 22 (.int .i64 (n : Int)) (.int .i64 (n : Int))).run Tryd.prog W = .ok (.slice (some ⟨W.heap.size, 0, none⟩) n n) (W.alloc O)) ∧ ∀ W : World, Made (W.alloc O) W.heap.size (n * 3) := by
  obtain ⟨i, hi, hz, hs, hby⟩ := info_parts info_term
  refine ⟨.cells (madeCells #[.string ByteArray.empty, .int .i64 0, .int .i64 0] (n * 3)) 73, fun W => ?_, fun W => ⟨by simp, fun j hj => ?_⟩⟩
  · have h := run_make (P := Tryd.prog) W 22 73 i _ Tryd.underlying22 hi hz .i64 .i64 (n : Int) (n : Int) (by omega) (by omega) (by rw [hby]; omega) (by omega)
    simp only [Int.toNat_natCast, hs] at h
    exact h
  · refine ⟨⟨_, (World.cell?_alloc_new _ _ _ _).trans (Array.getElem?_eq_getElem (by rw [size_madeCells]; exact hj))⟩, ?_⟩
    simp

theorem TermsIn.snoc3 {w : World} {g k : Nat} {ts : List Tm} (hk : k < ts.length) (h : TermsIn w g 0 (ts.take k)) (hm : Made w g (ts.length * 3)) {s : ByteArray} {n d : Int} (ht : ts[k] = ⟨s, n, d⟩) :
    TermsIn (((w.setCell ⟨g, k * 3, none⟩ (.string s)).setCell ⟨g, k * 3 + 1, none⟩ (.int .i64 n)).setCell ⟨g, k * 3 + 2, none⟩ (.int .i64 d)) g 0 (ts.take (k + 1)) := by
  intro i hi
  have hi' : i < k + 1 := by rw [List.length_take] at hi; omega
  have ne : ∀ {a b : Nat}, a ≠ b → (⟨g, a, none⟩ : Addr) ≠ ⟨g, b, none⟩ := fun h e => h (by injection e)
  rw [List.getElem_take]
  simp only [Nat.zero_add]
  by_cases hik : i < k
  · have h0 := h i (by rw [List.length_take]; omega)
    rw [List.getElem_take] at h0
    simp only [Nat.zero_add] at h0
    refine ⟨?_, ?_, ?_⟩
    · rw [World.cell?_setCell_other _ _ _ _ (ne (by omega)), World.cell?_setCell_other _ _ _ _ (ne (by omega)), World.cell?_setCell_other _ _ _ _ (ne (by omega))]; exact h0.1
    · rw [World.cell?_setCell_other _ _ _ _ (ne (by omega)), World.cell?_setCell_other _ _ _ _ (ne (by omega)), World.cell?_setCell_other _ _ _ _ (ne (by omega))]; exact h0.2.1
    · rw [World.cell?_setCell_other _ _ _ _ (ne (by omega)), World.cell?_setCell_other _ _ _ _ (ne (by omega)), World.cell?_setCell_other _ _ _ _ (ne (by omega))]; exact h0.2.2
  · obtain rfl : i = k := by omega
    obtain ⟨⟨v0, m0⟩, -⟩ := hm.2 (i * 3) (by omega)
    obtain ⟨⟨v1, m1⟩, -⟩ := (hm.set ⟨g, i * 3, none⟩ (.string s)).2 (i * 3 + 1) (by omega)
    obtain ⟨⟨v2, m2⟩, -⟩ := ((hm.set ⟨g, i * 3, none⟩ (.string s)).set ⟨g, i * 3 + 1, none⟩ (.int .i64 n)).2 (i * 3 + 2) (by omega)
    rw [ht]
    refine ⟨?_, ?_, ?_⟩
    · rw [World.cell?_setCell_other _ _ _ _ (ne (by omega)), World.cell?_setCell_other _ _ _ _ (ne (by omega))]; exact World.cell?_setCell_same _ _ _ m0
    · rw [World.cell?_setCell_other _ _ _ _ (ne (by omega))]; exact World.cell?_setCell_same _ _ _ m1
    · exact World.cell?_setCell_same _ _ _ m2

/-- what copying terms comes to: a new row of the same terms, which may be written -/
def ToPost (ts : List Tm) (W : World) (e : Ending) (w' : World) : Prop :=
  ∃ g, e = .returned (.slice (some ⟨g, 0, none⟩) ts.length ts.length) ∧ Below W.heap.size W w' ∧ W.heap.size ≤ g ∧ Made w' g (ts.length * 3) ∧ TermsIn w' g 0 ts

end Go.Proofs.YtjjkkaikinjmdaaDoor

namespace Go.Proofs.YtjjkkaikinjmdaaDoor
open Go.RowKit

/-- what copying a series comes to -/
def ToSer (L V : Int) (ts : List Tm) (W : World) (e : Ending) (w' : World) : Prop :=
  ∃ g, e = .returned (.agg #[.int .i64 L, .int .i64 V, .slice (some ⟨g, 0, none⟩) ts.length ts.length]) ∧ Below W.heap.size W w' ∧ W.heap.size ≤ g ∧ Made w' g (ts.length * 3) ∧ TermsIn w' g 0 ts

theorem TermsIn.setCell {w : World} {g : Nat} {ts : List Tm} (h : TermsIn w g 0 ts) {p : Addr} (hp : p.block ≠ g) (u : Value) : TermsIn (w.setCell p u) g 0 ts := fun i hi =>
  ⟨(World.cell?_setCell_far _ _ _ _ hp).trans (h i hi).1, (World.cell?_setCell_far _ _ _ _ hp).trans (h i hi).2.1, (World.cell?_setCell_far _ _ _ _ hp).trans (h i hi).2.2⟩

theorem eqTerm_same (s : ByteArray) (n d : Int) (w : World) :
    Calls Tryd.prog 43 #[.agg #[.string s, .int .i64 n, .int .i64 d], .agg #[.string s, .int .i64 n, .int .i64 d]] w fun e w' => e = .returned (.bool true) ∧ Below w.heap.size w w' := by
  go_enter Tryd.func43, Tryd.ntmps43
  go_wp2_with fail
  refine (eqFraction_same _ _ _).mono ?_
  rintro e w1 ⟨rfl, hb⟩
  have hW : Below w.heap.size w w1 := (below2 w _ _).trans (hb.mono (by simp; omega))
  clear hb
  go_wp2
  go_ret
  exact ⟨rfl, hW⟩

/-- comparing a row of terms with another row of the same terms -/
theorem eqTermS_same (b1 o1 c1 b2 o2 c2 : Nat) (ts : List Tm) (hl : ts.length ≤ 1048576) (w : World) (h1 : b1 < w.heap.size) (h2 : b2 < w.heap.size) (t1 : TermsIn w b1 o1 ts) (t2 : TermsIn w b2 o2 ts) :
    Calls Tryd.prog 23 #[.slice (some ⟨b1, o1, none⟩) ts.length c1, .slice (some ⟨b2, o2, none⟩) ts.length c2] w fun e w' => e = .returned (.bool true) ∧ Below w.heap.size w w' := by
  have HT1 := Lib.hid t1
  have HT2 := Lib.hid t2
  clear t1 t2
  go_enter Tryd.func23, Tryd.ntmps23
  go_wp2
  go_loopw [5] (fun vi wr => ∃ k : Nat, k ≤ ts.length ∧ vi = .int .i64 k ∧ Below w.heap.size w wr) (fun i _ => ts.length - (intOf i).toNat)
  case atStart => exact ⟨0, Nat.zero_le _, rfl, Below.refl _ _⟩
  case round =>
    obtain ⟨k, hk, rfl, hB⟩ := hrel
    by_cases hlt : k < ts.length
    · obtain ⟨c0, c1, c2⟩ := HT1.out.below hB h1 k hlt
      obtain ⟨d0, d1, d2⟩ := HT2.out.below hB h2 k hlt
      obtain ⟨s, n, d, het⟩ : ∃ s n d, ts[k] = ⟨s, n, d⟩ := ⟨_, _, _, rfl⟩
      rw [het] at c0 c1 c2 d0 d1 d2
      simp only at c0 c1 c2 d0 d1 d2
      clear het
      have hHB := Lib.hid hB
      clear hB
      go_upto_region 6 with fail
      go_cut [26] (fun s26 wc => s26 = .bool false ∧ Below wr.heap.size wr wc)
      case first =>
        go_region_with (go_at_call 43; refine (eqTerm_same _ _ _ _).mono ?_; rintro e w1 ⟨rfl, hb1⟩)
        all_goals (go_wp2_with fail; go_meet)
        all_goals exact ⟨rfl, ⟨hb1.os, hb1.tape, hb1.output, hb1.size, hb1.block⟩⟩
      case rest =>
        obtain ⟨rfl, hBc⟩ := hcut
        have hB1 := hHB.out.trans (hBc.mono hHB.out.size)
        clear c0 c1 c2 d0 d1 d2 hBc
        go_wp2
        go_roundw
        case rel => exact ⟨k + 1, by omega, by go_num, hB1⟩
        case measure => simp [intOf]; omega
    · go_wp2
      go_ret
      exact ⟨rfl, hB⟩

theorem eqSeries_same (L V : Int) (b1 o1 c1 b2 o2 c2 : Nat) (ts : List Tm) (hl : ts.length ≤ 1048576) (w : World) (h1 : b1 < w.heap.size) (h2 : b2 < w.heap.size) (t1 : TermsIn w b1 o1 ts) (t2 : TermsIn w b2 o2 ts) :
    Calls Tryd.prog 7 #[.agg #[.int .i64 L, .int .i64 V, .slice (some ⟨b1, o1, none⟩) ts.length c1], .agg #[.int .i64 L, .int .i64 V, .slice (some ⟨b2, o2, none⟩) ts.length c2]] w fun e w' => e = .returned (.bool true) ∧ Below w.heap.size w w' := by
  have HT1 := Lib.hid t1
  have HT2 := Lib.hid t2
  clear t1 t2
  go_enter Tryd.func7, Tryd.ntmps7
  go_wp2_with fail
  refine (eqTermS_same b1 o1 c1 b2 o2 c2 ts hl _ ?_ ?_ ?_ ?_).mono ?_
  · simp; omega
  · simp; omega
  · exact HT1.out.below (below2 w _ _) h1
  · exact HT2.out.below (below2 w _ _) h2
  rintro e w1 ⟨rfl, hb⟩
  have hW : Below w.heap.size w w1 := (below2 w _ _).trans (hb.mono (by simp; omega))
  clear hb
  go_wp2
  go_ret
  exact ⟨rfl, hW⟩
end Go.Proofs.YtjjkkaikinjmdaaDoor
