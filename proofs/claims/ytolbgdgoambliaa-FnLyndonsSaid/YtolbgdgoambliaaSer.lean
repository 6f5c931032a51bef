/-
  Terms in memory: the laws' own helpers that measure, copy and compare lists of terms and series.
  Series in memory: the laws' own helpers that measure, copy and compare them.
  The laws' own helpers that write marks into a list of terms and look whether the marks are still there.
-/
import Derived.Test.YtolbgdgoambliaaArith
import Derived.Laws.MakeOwn
import Derived.OwnWalk
import Derived.Deep.RegionHeld3
import Derived.Deep.DeepCutAuto
import Derived.Laws.BytesString
import Derived.Laws.IdiomStrings
namespace Go.Proofs.Ytolbgdgoambliaa
open Go.RowKit

/-- a term as the memory holds it: its word, the numerator and the denominator of its value -/
structure Tm where
  s : ByteArray
  n : Int
  d : Int

/-- the terms stand in a row of cells of block `b` from `off` on -/
def TermsIn (w : World) (b off : Nat) (ts : List Tm) : Prop :=
  ∀ i (h : i < ts.length), w.cell? ⟨b, off + i * 3, none⟩ = some (.string (ts[i]).s) ∧ w.cell? ⟨b, off + i * 3 + 1, none⟩ = some (.int .i64 (ts[i]).n) ∧ w.cell? ⟨b, off + i * 3 + 2, none⟩ = some (.int .i64 (ts[i]).d)

theorem TermsIn.below {w w' : World} {B b off : Nat} {ts : List Tm} (h : TermsIn w b off ts) (hb : Below B w w') (hlt : b < B) : TermsIn w' b off ts := fun i hi =>
  ⟨(hb.cell (p := ⟨b, _, none⟩) hlt).trans (h i hi).1, (hb.cell (p := ⟨b, _, none⟩) hlt).trans (h i hi).2.1, (hb.cell (p := ⟨b, _, none⟩) hlt).trans (h i hi).2.2⟩

/-- what measuring comes to: -1, or a number from which no more than the length was taken -/
def SzPost (len left : Int) (W : World) (e : Ending) (w' : World) : Prop :=
  (e = .returned (.int .i64 (-1)) ∨ ∃ r : Int, 0 ≤ r ∧ r ≤ 1048576 ∧ len ≤ left ∧ e = .returned (.int .i64 r)) ∧ Below W.heap.size W w'

/-- block `g` is there, its first `m` cells hold something and may be written -/
def Made (w : World) (g m : Nat) : Prop := g < w.heap.size ∧ ∀ j, j < m → (∃ v, w.cell? ⟨g, j, none⟩ = some v) ∧ w.frozen? ⟨g, j, none⟩ = false
theorem Made.below {w w' : World} {B g m : Nat} (h : Made w g m) (hb : Below B w w') (hlt : g < B) : Made w' g m :=
  ⟨Nat.lt_of_lt_of_le h.1 hb.size, fun j hj => by rw [hb.cell (p := ⟨g, j, none⟩) hlt, hb.frozen (p := ⟨g, j, none⟩) hlt]; exact h.2 j hj⟩
theorem Made.set {w : World} {g m : Nat} (h : Made w g m) (p : Addr) (u : Value) : Made (w.setCell p u) g m :=
  ⟨by rw [World.size_setCell]; exact h.1, fun j hj => by
    obtain ⟨⟨v, hv⟩, hz⟩ := h.2 j hj
    rw [World.frozen?_setCell]
    exact ⟨cell?_setCell_some hv, hz⟩⟩

theorem TermsIn.snoc3 {w : World} {g k : Nat} {ts : List Tm} (hk : k < ts.length) (h : TermsIn w g 0 (ts.take k)) (hm : Made w g (ts.length * 3)) {s : ByteArray} {n d : Int} (ht : ts[k] = ⟨s, n, d⟩) :
    TermsIn (((w.setCell ⟨g, k * 3, none⟩ (.string s)).setCell ⟨g, k * 3 + 1, none⟩ (.int .i64 n)).setCell ⟨g, k * 3 + 2, none⟩ (.int .i64 d)) g 0 (ts.take (k + 1)) := by
  intro i hi
  have hi' : i < k + 1 := by rw [List.length_take] at hi; omega
  have ne : ∀ {a b : Nat}, a ≠ b → (⟨g, a, none⟩ : Addr) ≠ ⟨g, b, none⟩ := fun h e => h (by injection e)
  rw [List.getElem_take]
  simp only [Nat.zero_add]
  by_cases hik : i < k
  · have h0 := h i (by rw [List.length_take]; omega)
    rw [List.getElem_take] at h0
    simp only [Nat.zero_add] at h0
    refine ⟨?_, ?_, ?_⟩
    · rw [World.cell?_setCell_other _ _ _ _ (ne (by omega)), World.cell?_setCell_other _ _ _ _ (ne (by omega)), World.cell?_setCell_other _ _ _ _ (ne (by omega))]; exact h0.1
    · rw [World.cell?_setCell_other _ _ _ _ (ne (by omega)), World.cell?_setCell_other _ _ _ _ (ne (by omega)), World.cell?_setCell_other _ _ _ _ (ne (by omega))]; exact h0.2.1
    · rw [World.cell?_setCell_other _ _ _ _ (ne (by omega)), World.cell?_setCell_other _ _ _ _ (ne (by omega)), World.cell?_setCell_other _ _ _ _ (ne (by omega))]; exact h0.2.2
  · obtain rfl : i = k := by omega
    obtain ⟨⟨v0, m0⟩, -⟩ := hm.2 (i * 3) (by omega)
    obtain ⟨⟨v1, m1⟩, -⟩ := (hm.set ⟨g, i * 3, none⟩ (.string s)).2 (i * 3 + 1) (by omega)
    obtain ⟨⟨v2, m2⟩, -⟩ := ((hm.set ⟨g, i * 3, none⟩ (.string s)).set ⟨g, i * 3 + 1, none⟩ (.int .i64 n)).2 (i * 3 + 2) (by omega)
    rw [ht]
    refine ⟨?_, ?_, ?_⟩
    · rw [World.cell?_setCell_other _ _ _ _ (ne (by omega)), World.cell?_setCell_other _ _ _ _ (ne (by omega))]; exact World.cell?_setCell_same _ _ _ m0
    · rw [World.cell?_setCell_other _ _ _ _ (ne (by omega))]; exact World.cell?_setCell_same _ _ _ m1
    · exact World.cell?_setCell_same _ _ _ m2

/-- what copying terms comes to: a new row of the same terms, which may be written -/
def ToPost (ts : List Tm) (W : World) (e : Ending) (w' : World) : Prop :=
  ∃ g, e = .returned (.slice (some ⟨g, 0, none⟩) ts.length ts.length) ∧ Below W.heap.size W w' ∧ W.heap.size ≤ g ∧ Made w' g (ts.length * 3) ∧ TermsIn w' g 0 ts

end Go.Proofs.Ytolbgdgoambliaa

namespace Go.Proofs.Ytolbgdgoambliaa
open Go.RowKit

/-- what copying a series comes to -/
def ToSer (L V : Int) (ts : List Tm) (W : World) (e : Ending) (w' : World) : Prop :=
  ∃ g, e = .returned (.agg #[.int .i64 L, .int .i64 V, .slice (some ⟨g, 0, none⟩) ts.length ts.length]) ∧ Below W.heap.size W w' ∧ W.heap.size ≤ g ∧ Made w' g (ts.length * 3) ∧ TermsIn w' g 0 ts

theorem TermsIn.setCell {w : World} {g : Nat} {ts : List Tm} (h : TermsIn w g 0 ts) {p : Addr} (hp : p.block ≠ g) (u : Value) : TermsIn (w.setCell p u) g 0 ts := fun i hi =>
  ⟨(World.cell?_setCell_far _ _ _ _ hp).trans (h i hi).1, (World.cell?_setCell_far _ _ _ _ hp).trans (h i hi).2.1, (World.cell?_setCell_far _ _ _ _ hp).trans (h i hi).2.2⟩

end Go.Proofs.Ytolbgdgoambliaa

namespace Go.Proofs.Ytolbgdgoambliaa
open Go.RowKit

theorem conv_byte (x : Int) (h0 : 0 ≤ x) (h1 : x ≤ 255) (W : World) :
    (convert 22 9 (.slice (some ⟨W.heap.size, 0, none⟩) 1 1)).run Try.prog (W.alloc (.cells #[.int .u8 x] 5)) = .ok (.string ⟨#[UInt8.ofNat x.toNat]⟩) (W.alloc (.cells #[.int .u8 x] 5)) := by
  have e : ((UInt8.ofNat x.toNat).toNat : Int) = x := by
    rw [UInt8.toNat_ofNat']; omega
  exact run_convert_bytes_back (P := Try.prog) (W.alloc (.cells #[.int .u8 x] 5)) 22 9 5 ⟨W.heap.size, 0, none⟩ 1 [UInt8.ofNat x.toNat] Try.underlying22 Try.underlying5 Try.underlying9 (fun j hj => by
    have hj0 : j = 0 := by simpa using hj
    subst hj0
    simp only [List.getElem_cons_zero, e]
    show (W.alloc _).cell? ⟨W.heap.size, 0, none⟩ = _
    rw [World.cell?_alloc_new]
    rfl)

/-- the digits that the loop puts ahead of what it has; the mark of a number -/
def digs : Nat → Int → ByteArray → ByteArray
  | 0, _, acc => acc
  | f + 1, k, acc => if k = 0 then acc else digs f (k / 10) (⟨#[UInt8.ofNat (48 + k % 10).toNat]⟩ ++ acc)
def mkT (k : Int) : ByteArray := ⟨#[109]⟩ ++ digs 8 k ByteArray.empty

theorem ten_bd (f : Nat) (hf : f ≤ 8) : (10 : Int) ^ f ≤ 100000000 := by
  have h : f = 0 ∨ f = 1 ∨ f = 2 ∨ f = 3 ∨ f = 4 ∨ f = 5 ∨ f = 6 ∨ f = 7 ∨ f = 8 := by omega
  rcases h with rfl | rfl | rfl | rfl | rfl | rfl | rfl | rfl | rfl <;> decide
theorem digs_step (g : Nat) (j : Int) (s : ByteArray) (hj : 0 < j) : digs (g + 1) j s = digs g (j / 10) (⟨#[UInt8.ofNat (48 + j % 10).toNat]⟩ ++ s) := by
  rw [digs, if_neg (by omega)]
theorem digs_zero (f : Nat) (s : ByteArray) : digs f 0 s = s := by
  cases f with
  | zero => rfl
  | succ f => rw [digs, if_pos rfl]
theorem ten_step (j : Int) (g : Nat) (h : j < 10 ^ (g + 1)) : j / 10 < 10 ^ g := by
  rw [Int.pow_succ] at h
  omega

/-- the terms that marking leaves, from the number `k` on -/
def marked (k : Int) : List Tm → List Tm
  | [] => []
  | _ :: r => ⟨mkT k, k + 1, k + 2⟩ :: marked (k + 3) r
theorem marked_length : ∀ (k : Int) (ts : List Tm), (marked k ts).length = ts.length
  | _, [] => rfl
  | k, _ :: r => by simp [marked, marked_length (k + 3) r]
theorem marked_get : ∀ (k : Int) (ts : List Tm) (i : Nat) (h : i < (marked k ts).length), (marked k ts)[i] = ⟨mkT (k + 3 * i), k + 3 * i + 1, k + 3 * i + 2⟩
  | _, [], i, h => by simp [marked] at h
  | k, _ :: r, 0, _ => by simp [marked]
  | k, _ :: r, i + 1, h => by
    have hi : i < (marked (k + 3) r).length := by simpa [marked] using h
    have e := marked_get (k + 3) r i hi
    have e2 : k + 3 + 3 * (i : Int) = k + 3 * ((i + 1 : Nat) : Int) := by omega
    rw [e2] at e
    simpa [marked] using e

/-- what marking comes to: the row's new terms, a number further on; nothing else has changed -/
def MarkPost (g : Nat) (len : Nat) (ts' : List Tm) (k' : Int) (W : World) (e : Ending) (w' : World) : Prop :=
  e = .returned (.int .i64 k') ∧ W.grownBy w' (some g) ∧ Made w' g (len * 3) ∧ TermsIn w' g 0 ts'

theorem grown_of_below {W w w' : World} {g : Nat} (h : W.grownBy w (some g)) (hb : Below w.heap.size w w') : W.grownBy w' (some g) :=
  ⟨hb.os.trans h.os, hb.tape.trans h.tape, hb.output.trans h.output, Nat.le_trans h.size hb.size, fun i hi hne => (hb.block i (Nat.lt_of_lt_of_le hi h.size)).trans (h.block i hi hne)⟩
theorem grown_set {W w : World} {g o : Nat} (h : W.grownBy w (some g)) (u : Value) : W.grownBy (w.setCell ⟨g, o, none⟩ u) (some g) :=
  ⟨h.os, h.tape, h.output, by rw [World.size_setCell]; exact h.size, fun i hi hne => (Below.heap_setCell w ⟨g, o, none⟩ u i (fun e => hne (by rw [e]))).trans (h.block i hi hne)⟩

theorem str_neq_same (s : ByteArray) : (s.toList != s.toList) = false := by simp

end Go.Proofs.Ytolbgdgoambliaa
