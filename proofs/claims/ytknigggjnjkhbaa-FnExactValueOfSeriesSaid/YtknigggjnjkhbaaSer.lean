/-
  Terms in memory: the laws' own helpers that measure, copy and compare lists of terms and series.
  Series in memory: the laws' own helpers that measure, copy and compare them.
  The laws' own helpers that write marks into a list of terms and look whether the marks are still there.
-/
import Derived.Test.YtknigggjnjkhbaaArith
import Derived.Laws.MakeOwn
import Derived.OwnWalk
import Derived.Deep.RegionHeld3
import Derived.Deep.DeepCutAuto
import Derived.Laws.BytesString
import Derived.Laws.IdiomStrings
namespace Go.Proofs.Ytknigggjnjkhbaa
open Go.RowKit

/-- a term as the memory holds it: its word, the numerator and the denominator of its value -/
structure Tm where
  s : ByteArray
  n : Int
  d : Int

/-- the terms stand in a row of cells of block `b` from `off` on -/
def TermsIn (w : World) (b off : Nat) (ts : List Tm) : Prop :=
  ∀ i (h : i < ts.length), w.cell? ⟨b, off + i * 3, none⟩ = some (.string (ts[i]).s) ∧ w.cell? ⟨b, off + i * 3 + 1, none⟩ = some (.int .i64 (ts[i]).n) ∧ w.cell? ⟨b, off + i * 3 + 2, none⟩ = some (.int .i64 (ts[i]).d)

theorem TermsIn.below {w w' : World} {B b off : Nat} {ts : List Tm} (h : TermsIn w b off ts) (hb : Below B w w') (hlt : b < B) : TermsIn w' b off ts := fun i hi =>
  ⟨(hb.cell (p := ⟨b, _, none⟩) hlt).trans (h i hi).1, (hb.cell (p := ⟨b, _, none⟩) hlt).trans (h i hi).2.1, (hb.cell (p := ⟨b, _, none⟩) hlt).trans (h i hi).2.2⟩

theorem szTerm_yes (s : ByteArray) (n d left : Int) (hs : s.size ≤ maxLen) (h0 : (s.size : Int) ≤ left) (hl : left ≤ 1048576) (w : World) :
    Calls Try.prog 45 #[.agg #[.string s, .int .i64 n, .int .i64 d], .int .i64 left] w fun e w' => e = .returned (.int .i64 (left - s.size)) ∧ Below w.heap.size w w' := by
  unfold maxLen at hs
  go_enter Try.func45, Try.ntmps45
  go_wp2
  go_ret
  exact ⟨rfl, below1 _ _⟩

theorem szTerm_no (s : ByteArray) (n d left : Int) (hs : s.size ≤ maxLen) (h0 : left < (s.size : Int)) (hl : left ≤ 1048576) (h2 : 0 ≤ left) (w : World) :
    Calls Try.prog 45 #[.agg #[.string s, .int .i64 n, .int .i64 d], .int .i64 left] w fun e w' => e = .returned (.int .i64 (-1)) ∧ Below w.heap.size w w' := by
  unfold maxLen at hs
  go_enter Try.func45, Try.ntmps45
  go_wp2
  go_ret
  exact ⟨rfl, below1 _ _⟩

/-- what measuring comes to: -1, or a number from which no more than the length was taken -/
def SzPost (len left : Int) (W : World) (e : Ending) (w' : World) : Prop :=
  (e = .returned (.int .i64 (-1)) ∨ ∃ r : Int, 0 ≤ r ∧ r ≤ 1048576 ∧ len ≤ left ∧ e = .returned (.int .i64 r)) ∧ Below W.heap.size W w'

theorem szTermS_big (v : Value) (len cap : Nat) (a : Option Addr) (hv : v = .slice a len cap) (hl : len ≤ maxLen) (left : Int) (h0 : 0 ≤ left ∧ left ≤ 1048576) (hbig : left < (len : Int)) (w : World) :
    Calls Try.prog 21 #[v, .int .i64 left] w (SzPost len left w) := by
  subst hv
  unfold maxLen at hl
  go_enter Try.func21, Try.ntmps21
  go_wp2
  go_ret
  exact ⟨.inl rfl, Below.refl _ _⟩

theorem szTermS_c (b off cap : Nat) (ts : List Tm) (left : Int) (h0 : 0 ≤ left ∧ left ≤ 1048576) (hfit : (ts.length : Int) ≤ left) (hs : ∀ i (h : i < ts.length), (ts[i]).s.size ≤ maxLen) (w : World) (hb : b < w.heap.size) (ht : TermsIn w b off ts) :
    Calls Try.prog 21 #[.slice (some ⟨b, off, none⟩) ts.length cap, .int .i64 left] w (SzPost ts.length left w) := by
  have HT := Lib.hid ht
  have HS := Lib.hid hs
  clear ht hs
  go_enter Try.func21, Try.ntmps21
  go_wp2
  go_loopw [1, 5] (fun vl vi wr => ∃ (k : Nat) (l : Int), k ≤ ts.length ∧ vi = .int .i64 k ∧ vl = .int .i64 l ∧ 0 ≤ l ∧ l ≤ 1048576 ∧ Below w.heap.size w wr) (fun _ i _ => ts.length - (intOf i).toNat)
  case atStart => exact ⟨0, _, Nat.zero_le _, rfl, rfl, by omega, by omega, Below.refl _ _⟩
  case round =>
    obtain ⟨k, l, hk, rfl, rfl, hl0, hl1, hB⟩ := hrel
    by_cases hlt : k < ts.length
    · have hc := HT.out.below hB hb k hlt
      obtain ⟨c0, c1, c2⟩ := hc
      have hsz := HS.out k hlt
      generalize ts[k] = t at c0 c1 c2 hsz
      obtain ⟨s, n, d⟩ := t
      simp only at c0 c1 c2 hsz
      by_cases hfit : (s.size : Int) ≤ l
      · go_wp2_with fail
        refine (szTerm_yes _ _ _ _ hsz hfit hl1 _).mono ?_
        rintro e w1 ⟨rfl, hb1⟩
        have hB1 := hB.trans (hb1.mono hB.size)
        clear c0 c1 c2 hb1 hB
        go_wp2
        go_roundw
        case rel => exact ⟨k + 1, _, by omega, by go_num, rfl, by omega, by omega, hB1⟩
        case measure => simp [intOf]; omega
      · go_wp2_with fail
        refine (szTerm_no _ _ _ _ hsz (by omega) hl1 hl0 _).mono ?_
        rintro e w1 ⟨rfl, hb1⟩
        have hB1 := hB.trans (hb1.mono hB.size)
        clear c0 c1 c2 hb1 hB
        go_wp2
        go_ret
        exact ⟨.inl rfl, hB1⟩
    · go_wp2
      go_ret
      exact ⟨.inr ⟨_, hl0, hl1, by assumption, rfl⟩, hB⟩

theorem toTerm_c (s : ByteArray) (n d : Int) (w : World) :
    Calls Try.prog 56 #[.agg #[.string s, .int .i64 n, .int .i64 d]] w fun e w' => e = .returned (.agg #[.string s, .int .i64 n, .int .i64 d]) ∧ Below w.heap.size w w' := by
  go_enter Try.func56, Try.ntmps56
  go_wp2_with fail
  refine (toFraction_c _ _ _).mono ?_
  rintro e w1 ⟨rfl, hb⟩
  have bc := bcell hb
  have hz : w.heap.size + 1 + 1 < w1.heap.size := by have := hb.size; simp at this; omega
  have r0 : w1.cell? ⟨w.heap.size + 1, 0, none⟩ = some (.string { data := #[] }) := (bc.1 _ _ (by go_size)).trans (by go_simp)
  have r1 : w1.cell? ⟨w.heap.size + 1, 1, none⟩ = some (.int .i64 0) := (bc.1 _ _ (by go_size)).trans (by go_simp)
  have r2 : w1.cell? ⟨w.heap.size + 1, 2, none⟩ = some (.int .i64 0) := (bc.1 _ _ (by go_size)).trans (by go_simp)
  have hW : Below w.heap.size w w1 := (below3 w _ _ _).trans (hb.mono (by simp; omega))
  clear hb
  go_wp2
  exact bodyPost_ret (v := .agg #[.string s, .int .i64 n, .int .i64 d]) (by simp [results, Try.results56, go_sem, r0, r1, r2]) rfl ⟨rfl, by go_grown⟩

/-- block `g` is there, its first `m` cells hold something and may be written -/
def Made (w : World) (g m : Nat) : Prop := g < w.heap.size ∧ ∀ j, j < m → (∃ v, w.cell? ⟨g, j, none⟩ = some v) ∧ w.frozen? ⟨g, j, none⟩ = false
theorem Made.below {w w' : World} {B g m : Nat} (h : Made w g m) (hb : Below B w w') (hlt : g < B) : Made w' g m :=
  ⟨Nat.lt_of_lt_of_le h.1 hb.size, fun j hj => by rw [hb.cell (p := ⟨g, j, none⟩) hlt, hb.frozen (p := ⟨g, j, none⟩) hlt]; exact h.2 j hj⟩
theorem Made.set {w : World} {g m : Nat} (h : Made w g m) (p : Addr) (u : Value) : Made (w.setCell p u) g m :=
  ⟨by rw [World.size_setCell]; exact h.1, fun j hj => by
    obtain ⟨⟨v, hv⟩, hz⟩ := h.2 j hj
    rw [World.frozen?_setCell]
    exact ⟨cell?_setCell_some hv, hz⟩⟩

theorem info_term : (Try.prog.info? 60).map (fun i => (i.zero, i.size, i.bytes)) = some (some (.agg #[.string ByteArray.empty, .int .i64 0, .int .i64 0]), 3, 32) := by kernel_rfl

theorem make_terms (n : Nat) (hn : n ≤ 1048576) : ∃ O : Obj, (∀ W : World, (Instr.makeSlice 31 (.int .i64 (n : Int)) (.int .i64 (n : Int))).run Try.prog W = .ok (.slice (some ⟨W.heap.size, 0, none⟩) n n) (W.alloc O)) ∧ ∀ W : World, Made (W.alloc O) W.heap.size (n * 3) := by
  obtain ⟨i, hi, hz, hs, hby⟩ := info_parts info_term
  refine ⟨.cells (madeCells #[.string ByteArray.empty, .int .i64 0, .int .i64 0] (n * 3)) 60, fun W => ?_, fun W => ⟨by simp, fun j hj => ?_⟩⟩
  · have h := run_make (P := Try.prog) W 31 60 i _ Try.underlying31 hi hz .i64 .i64 (n : Int) (n : Int) (by omega) (by omega) (by rw [hby]; omega) (by omega)
    simp only [Int.toNat_natCast, hs] at h
    exact h
  · refine ⟨⟨_, (World.cell?_alloc_new _ _ _ _).trans (Array.getElem?_eq_getElem (by rw [size_madeCells]; exact hj))⟩, ?_⟩
    simp

theorem TermsIn.snoc3 {w : World} {g k : Nat} {ts : List Tm} (hk : k < ts.length) (h : TermsIn w g 0 (ts.take k)) (hm : Made w g (ts.length * 3)) {s : ByteArray} {n d : Int} (ht : ts[k] = ⟨s, n, d⟩) :
    TermsIn (((w.setCell ⟨g, k * 3, none⟩ (.string s)).setCell ⟨g, k * 3 + 1, none⟩ (.int .i64 n)).setCell ⟨g, k * 3 + 2, none⟩ (.int .i64 d)) g 0 (ts.take (k + 1)) := by
  intro i hi
  have hi' : i < k + 1 := by rw [List.length_take] at hi; omega
  have ne : ∀ {a b : Nat}, a ≠ b → (⟨g, a, none⟩ : Addr) ≠ ⟨g, b, none⟩ := fun h e => h (by injection e)
  rw [List.getElem_take]
  simp only [Nat.zero_add]
  by_cases hik : i < k
  · have h0 := h i (by rw [List.length_take]; omega)
    rw [List.getElem_take] at h0
    simp only [Nat.zero_add] at h0
    refine ⟨?_, ?_, ?_⟩
    · rw [World.cell?_setCell_other _ _ _ _ (ne (by omega)), World.cell?_setCell_other _ _ _ _ (ne (by omega)), World.cell?_setCell_other _ _ _ _ (ne (by omega))]; exact h0.1
    · rw [World.cell?_setCell_other _ _ _ _ (ne (by omega)), World.cell?_setCell_other _ _ _ _ (ne (by omega)), World.cell?_setCell_other _ _ _ _ (ne (by omega))]; exact h0.2.1
    · rw [World.cell?_setCell_other _ _ _ _ (ne (by omega)), World.cell?_setCell_other _ _ _ _ (ne (by omega)), World.cell?_setCell_other _ _ _ _ (ne (by omega))]; exact h0.2.2
  · obtain rfl : i = k := by omega
    obtain ⟨⟨v0, m0⟩, -⟩ := hm.2 (i * 3) (by omega)
    obtain ⟨⟨v1, m1⟩, -⟩ := (hm.set ⟨g, i * 3, none⟩ (.string s)).2 (i * 3 + 1) (by omega)
    obtain ⟨⟨v2, m2⟩, -⟩ := ((hm.set ⟨g, i * 3, none⟩ (.string s)).set ⟨g, i * 3 + 1, none⟩ (.int .i64 n)).2 (i * 3 + 2) (by omega)
    rw [ht]
    refine ⟨?_, ?_, ?_⟩
    · rw [World.cell?_setCell_other _ _ _ _ (ne (by omega)), World.cell?_setCell_other _ _ _ _ (ne (by omega))]; exact World.cell?_setCell_same _ _ _ m0
    · rw [World.cell?_setCell_other _ _ _ _ (ne (by omega))]; exact World.cell?_setCell_same _ _ _ m1
    · exact World.cell?_setCell_same _ _ _ m2

/-- what copying terms comes to: a new row of the same terms, which may be written -/
def ToPost (ts : List Tm) (W : World) (e : Ending) (w' : World) : Prop :=
  ∃ g, e = .returned (.slice (some ⟨g, 0, none⟩) ts.length ts.length) ∧ Below W.heap.size W w' ∧ W.heap.size ≤ g ∧ Made w' g (ts.length * 3) ∧ TermsIn w' g 0 ts

theorem toTermS_c (a : Option Addr) (cap : Nat) (ts : List Tm) (hl : ts.length ≤ 1048576) (w : World) (hts : ts = [] ∨ ∃ b off, a = some ⟨b, off, none⟩ ∧ b < w.heap.size ∧ TermsIn w b off ts) :
    Calls Try.prog 26 #[.slice a ts.length cap] w (ToPost ts w) := by
  obtain ⟨O, hmk, hmade⟩ := make_terms ts.length hl
  have HM := Lib.hid hmade
  clear hmade
  have HT := Lib.hid hts
  clear hts
  have e0 : (0 : Int) ≤ (ts.length : Int) := by omega
  go_enter Try.func26, Try.ntmps26
  go_wp2
  clear hmk
  go_loopw [4] (fun vi wr => ∃ k : Nat, k ≤ ts.length ∧ vi = .int .i64 k ∧ Below w.heap.size w wr ∧ Made wr w.heap.size (ts.length * 3) ∧ TermsIn wr w.heap.size 0 (ts.take k)) (fun i _ => ts.length - (intOf i).toNat)
  case atStart => exact ⟨0, Nat.zero_le _, rfl, (Below.refl _ _).alloc (Nat.le_refl _) _, HM.out _, fun i hi => by simp at hi⟩
  case round =>
    obtain ⟨k, hk, rfl, hB, hM, hTk⟩ := hrel
    have HMk := Lib.hid hM
    have HTk := Lib.hid hTk
    have hgs := hM.1
    clear hM hTk
    by_cases hlt : k < ts.length
    · rcases HT.out with h | ⟨b, off, rfl, hb, ht⟩
      · rw [h] at hlt; simp at hlt
      have hc := ht.below hB hb k hlt
      obtain ⟨c0, c1, c2⟩ := hc
      obtain ⟨s, n, d, het⟩ : ∃ s n d, ts[k] = ⟨s, n, d⟩ := ⟨_, _, _, rfl⟩
      rw [het] at c0 c1 c2
      simp only at c0 c1 c2
      have HE := Lib.hid het
      clear het ht
      go_wp2_with fail
      refine (toTerm_c _ _ _ _).mono ?_
      rintro e w1 ⟨rfl, hb1⟩
      have hB1 := hB.trans (hb1.mono hB.size)
      have hM1 := HMk.out.below hb1 hgs
      have hT1 := HTk.out.below hb1 hgs
      obtain ⟨⟨v0, m0⟩, z0⟩ := hM1.2 (k * 3) (by omega)
      obtain ⟨⟨v1, m1⟩, z1⟩ := hM1.2 (k * 3 + 1) (by omega)
      obtain ⟨⟨v2, m2⟩, z2⟩ := hM1.2 (k * 3 + 2) (by omega)
      have HM1 := Lib.hid hM1
      have HT1 := Lib.hid hT1
      clear hM1 hT1 c0 c1 c2 hb1
      go_wp2
      go_roundw
      case rel => exact ⟨k + 1, by omega, by go_num, ((hB1.setCell (p := ⟨w.heap.size, k * 3, none⟩) (Nat.le_refl _) _).setCell (p := ⟨w.heap.size, k * 3 + 1, none⟩) (Nat.le_refl _) _).setCell (p := ⟨w.heap.size, k * 3 + 2, none⟩) (Nat.le_refl _) _, ((HM1.out.set _ _).set _ _).set _ _, HT1.out.snoc3 hlt HM1.out HE.out⟩
      case measure => simp [intOf]; omega
    · obtain rfl : k = ts.length := by omega
      go_wp2
      go_ret
      exact ⟨w.heap.size, rfl, hB, Nat.le_refl _, HMk.out, by have := HTk.out; rwa [List.take_length] at this⟩
end Go.Proofs.Ytknigggjnjkhbaa

namespace Go.Proofs.Ytknigggjnjkhbaa
open Go.RowKit

theorem szSeries_c (L V : Int) (a : Option Addr) (len cap : Nat) (left : Int) (w : World)
    (h : Calls Try.prog 21 #[.slice a len cap, .int .i64 left] (w.alloc (.cells #[.int .i64 L, .int .i64 V, .slice a len cap] 24)) (SzPost len left (w.alloc (.cells #[.int .i64 L, .int .i64 V, .slice a len cap] 24)))) :
    Calls Try.prog 5 #[.agg #[.int .i64 L, .int .i64 V, .slice a len cap], .int .i64 left] w (SzPost len left w) := by
  have H := Lib.hid h
  clear h
  go_enter Try.func5, Try.ntmps5
  go_wp2_with fail
  refine H.out.mono ?_
  rintro e w1 ⟨he, hb⟩
  rcases he with rfl | ⟨r, hr0, hr1, hfit, rfl⟩
  · go_wp2
    go_ret
    exact ⟨.inl rfl, (below1 w _).trans (hb.mono (by simp))⟩
  · go_wp2
    go_ret
    exact ⟨.inr ⟨r, hr0, hr1, hfit, rfl⟩, (below1 w _).trans (hb.mono (by simp))⟩

/-- what copying a series comes to -/
def ToSer (L V : Int) (ts : List Tm) (W : World) (e : Ending) (w' : World) : Prop :=
  ∃ g, e = .returned (.agg #[.int .i64 L, .int .i64 V, .slice (some ⟨g, 0, none⟩) ts.length ts.length]) ∧ Below W.heap.size W w' ∧ W.heap.size ≤ g ∧ Made w' g (ts.length * 3) ∧ TermsIn w' g 0 ts

theorem TermsIn.setCell {w : World} {g : Nat} {ts : List Tm} (h : TermsIn w g 0 ts) {p : Addr} (hp : p.block ≠ g) (u : Value) : TermsIn (w.setCell p u) g 0 ts := fun i hi =>
  ⟨(World.cell?_setCell_far _ _ _ _ hp).trans (h i hi).1, (World.cell?_setCell_far _ _ _ _ hp).trans (h i hi).2.1, (World.cell?_setCell_far _ _ _ _ hp).trans (h i hi).2.2⟩

theorem toSeries_c (L V : Int) (a : Option Addr) (cap : Nat) (ts : List Tm) (hl : ts.length ≤ 1048576) (w : World) (hts : ts = [] ∨ ∃ b off, a = some ⟨b, off, none⟩ ∧ b < w.heap.size ∧ TermsIn w b off ts) :
    Calls Try.prog 8 #[.agg #[.int .i64 L, .int .i64 V, .slice a ts.length cap]] w (ToSer L V ts w) := by
  have HT := Lib.hid hts
  clear hts
  go_enter Try.func8, Try.ntmps8
  go_wp2_with fail
  refine (toTermS_c a cap ts hl _ ?_).mono ?_
  · rcases HT.out with h | ⟨b, off, h1, h2, h3⟩
    · exact .inl h
    · refine .inr ⟨b, off, h1, ?_, ?_⟩
      · simp; omega
      · exact h3.below (below3 w _ _ _) h2
  rintro e w1 ⟨g, rfl, hb, hg, hM, hT⟩
  have bc := bcell hb
  have hz : w.heap.size + 1 + 1 < w1.heap.size := by have := hb.size; simp at this; omega
  have r0 : w1.cell? ⟨w.heap.size + 1, 0, none⟩ = some (.int .i64 0) := (bc.1 _ _ (by go_size)).trans (by go_simp)
  have r1 : w1.cell? ⟨w.heap.size + 1, 1, none⟩ = some (.int .i64 0) := (bc.1 _ _ (by go_size)).trans (by go_simp)
  have r2 : w1.cell? ⟨w.heap.size + 1, 2, none⟩ = some (.slice none 0 0) := (bc.1 _ _ (by go_size)).trans (by go_simp)
  have hW : Below w.heap.size w w1 := (below3 w _ _ _).trans (hb.mono (by simp; omega))
  have HM := Lib.hid hM
  have HT2 := Lib.hid hT
  have hg2 : w.heap.size + 1 + 1 + 1 ≤ g := by simp at hg; omega
  clear hb hM hT hg
  go_wp2
  refine bodyPost_ret (v := .agg #[.int .i64 L, .int .i64 V, .slice (some ⟨g, 0, none⟩) ts.length ts.length]) (by simp [results, Try.results8, go_sem, r0, r1, r2]) rfl ⟨g, rfl, by go_grown, by omega, ?_, ?_⟩
  · repeat' (first | (with_reducible exact HM.out) | (with_reducible refine Made.set ?_ _ _))
  · repeat' (first | (with_reducible exact HT2.out) | (with_reducible refine TermsIn.setCell ?_ ?_ _) | (dsimp only; omega))

theorem eqTerm_same (s : ByteArray) (n d : Int) (w : World) :
    Calls Try.prog 71 #[.agg #[.string s, .int .i64 n, .int .i64 d], .agg #[.string s, .int .i64 n, .int .i64 d]] w fun e w' => e = .returned (.bool true) ∧ Below w.heap.size w w' := by
  go_enter Try.func71, Try.ntmps71
  go_wp2_with fail
  refine (eqFraction_same _ _ _).mono ?_
  rintro e w1 ⟨rfl, hb⟩
  have hW : Below w.heap.size w w1 := (below2 w _ _).trans (hb.mono (by simp; omega))
  clear hb
  go_wp2
  go_ret
  exact ⟨rfl, hW⟩

/-- comparing a row of terms with another row of the same terms -/
theorem eqTermS_same (b1 o1 c1 b2 o2 c2 : Nat) (ts : List Tm) (hl : ts.length ≤ 1048576) (w : World) (h1 : b1 < w.heap.size) (h2 : b2 < w.heap.size) (t1 : TermsIn w b1 o1 ts) (t2 : TermsIn w b2 o2 ts) :
    Calls Try.prog 35 #[.slice (some ⟨b1, o1, none⟩) ts.length c1, .slice (some ⟨b2, o2, none⟩) ts.length c2] w fun e w' => e = .returned (.bool true) ∧ Below w.heap.size w w' := by
  have HT1 := Lib.hid t1
  have HT2 := Lib.hid t2
  clear t1 t2
  go_enter Try.func35, Try.ntmps35
  go_wp2
  go_loopw [5] (fun vi wr => ∃ k : Nat, k ≤ ts.length ∧ vi = .int .i64 k ∧ Below w.heap.size w wr) (fun i _ => ts.length - (intOf i).toNat)
  case atStart => exact ⟨0, Nat.zero_le _, rfl, Below.refl _ _⟩
  case round =>
    obtain ⟨k, hk, rfl, hB⟩ := hrel
    by_cases hlt : k < ts.length
    · obtain ⟨c0, c1, c2⟩ := HT1.out.below hB h1 k hlt
      obtain ⟨d0, d1, d2⟩ := HT2.out.below hB h2 k hlt
      obtain ⟨s, n, d, het⟩ : ∃ s n d, ts[k] = ⟨s, n, d⟩ := ⟨_, _, _, rfl⟩
      rw [het] at c0 c1 c2 d0 d1 d2
      simp only at c0 c1 c2 d0 d1 d2
      clear het
      have hHB := Lib.hid hB
      clear hB
      go_upto_region 6 with fail
      go_cut [26] (fun s26 wc => s26 = .bool false ∧ Below wr.heap.size wr wc)
      case first =>
        go_region_with (go_at_call 71; refine (eqTerm_same _ _ _ _).mono ?_; rintro e w1 ⟨rfl, hb1⟩)
        all_goals (go_wp2_with fail; go_meet)
        all_goals exact ⟨rfl, ⟨hb1.os, hb1.tape, hb1.output, hb1.size, hb1.block⟩⟩
      case rest =>
        obtain ⟨rfl, hBc⟩ := hcut
        have hB1 := hHB.out.trans (hBc.mono hHB.out.size)
        clear c0 c1 c2 d0 d1 d2 hBc
        go_wp2
        go_roundw
        case rel => exact ⟨k + 1, by omega, by go_num, hB1⟩
        case measure => simp [intOf]; omega
    · go_wp2
      go_ret
      exact ⟨rfl, hB⟩

theorem eqSeries_same (L V : Int) (b1 o1 c1 b2 o2 c2 : Nat) (ts : List Tm) (hl : ts.length ≤ 1048576) (w : World) (h1 : b1 < w.heap.size) (h2 : b2 < w.heap.size) (t1 : TermsIn w b1 o1 ts) (t2 : TermsIn w b2 o2 ts) :
    Calls Try.prog 12 #[.agg #[.int .i64 L, .int .i64 V, .slice (some ⟨b1, o1, none⟩) ts.length c1], .agg #[.int .i64 L, .int .i64 V, .slice (some ⟨b2, o2, none⟩) ts.length c2]] w fun e w' => e = .returned (.bool true) ∧ Below w.heap.size w w' := by
  have HT1 := Lib.hid t1
  have HT2 := Lib.hid t2
  clear t1 t2
  go_enter Try.func12, Try.ntmps12
  go_wp2_with fail
  refine (eqTermS_same b1 o1 c1 b2 o2 c2 ts hl _ ?_ ?_ ?_ ?_).mono ?_
  · simp; omega
  · simp; omega
  · exact HT1.out.below (below2 w _ _) h1
  · exact HT2.out.below (below2 w _ _) h2
  rintro e w1 ⟨rfl, hb⟩
  have hW : Below w.heap.size w w1 := (below2 w _ _).trans (hb.mono (by simp; omega))
  clear hb
  go_wp2
  go_ret
  exact ⟨rfl, hW⟩
end Go.Proofs.Ytknigggjnjkhbaa

namespace Go.Proofs.Ytknigggjnjkhbaa
open Go.RowKit

theorem conv_byte (x : Int) (h0 : 0 ≤ x) (h1 : x ≤ 255) (W : World) :
    (convert 117 9 (.slice (some ⟨W.heap.size, 0, none⟩) 1 1)).run Try.prog (W.alloc (.cells #[.int .u8 x] 5)) = .ok (.string ⟨#[UInt8.ofNat x.toNat]⟩) (W.alloc (.cells #[.int .u8 x] 5)) := by
  have e : ((UInt8.ofNat x.toNat).toNat : Int) = x := by
    rw [UInt8.toNat_ofNat']; omega
  exact run_convert_bytes_back (P := Try.prog) (W.alloc (.cells #[.int .u8 x] 5)) 117 9 5 ⟨W.heap.size, 0, none⟩ 1 [UInt8.ofNat x.toNat] Try.underlying117 Try.underlying5 Try.underlying9 (fun j hj => by
    have hj0 : j = 0 := by simpa using hj
    subst hj0
    simp only [List.getElem_cons_zero, e]
    show (W.alloc _).cell? ⟨W.heap.size, 0, none⟩ = _
    rw [World.cell?_alloc_new]
    rfl)

/-- the digits that the loop puts ahead of what it has; the mark of a number -/
def digs : Nat → Int → ByteArray → ByteArray
  | 0, _, acc => acc
  | f + 1, k, acc => if k = 0 then acc else digs f (k / 10) (⟨#[UInt8.ofNat (48 + k % 10).toNat]⟩ ++ acc)
def mkT (k : Int) : ByteArray := ⟨#[109]⟩ ++ digs 8 k ByteArray.empty

theorem ten_bd (f : Nat) (hf : f ≤ 8) : (10 : Int) ^ f ≤ 100000000 := by
  have h : f = 0 ∨ f = 1 ∨ f = 2 ∨ f = 3 ∨ f = 4 ∨ f = 5 ∨ f = 6 ∨ f = 7 ∨ f = 8 := by omega
  rcases h with rfl | rfl | rfl | rfl | rfl | rfl | rfl | rfl | rfl <;> decide
theorem digs_step (g : Nat) (j : Int) (s : ByteArray) (hj : 0 < j) : digs (g + 1) j s = digs g (j / 10) (⟨#[UInt8.ofNat (48 + j % 10).toNat]⟩ ++ s) := by
  rw [digs, if_neg (by omega)]
theorem digs_zero (f : Nat) (s : ByteArray) : digs f 0 s = s := by
  cases f with
  | zero => rfl
  | succ f => rw [digs, if_pos rfl]
theorem ten_step (j : Int) (g : Nat) (h : j < 10 ^ (g + 1)) : j / 10 < 10 ^ g := by
  rw [Int.pow_succ] at h
  omega

set_option maxRecDepth 100000 in
theorem markText_c (k : Int) (hk : 0 < k) (hk2 : k < 100000000) (w : World) :
    Calls Try.prog 73 #[.int .i64 k] w fun e w' => e = .returned (.string (mkT k)) ∧ Below w.heap.size w w' := by
  go_enter Try.func73, Try.ntmps73
  go_wp2
  go_loopw [0, 3] (fun vk vs wr => ∃ (j : Int) (f : Nat) (s : ByteArray), vk = .int .i64 j ∧ vs = .string s ∧ 0 ≤ j ∧ j < 10 ^ f ∧ f ≤ 8 ∧ s.size + f ≤ 8 ∧ digs f j s = digs 8 k ByteArray.empty ∧ Below w.heap.size w wr) (fun vk _ _ => (intOf vk).toNat)
  case atStart => exact ⟨k, 8, ByteArray.empty, rfl, rfl, by omega, by simpa using hk2, by omega, by simp, rfl, Below.refl _ _⟩
  case round =>
    obtain ⟨j, f, s, rfl, rfl, h0, hj, hf, hs, hd, hB⟩ := hrel
    have HD := Lib.hid hd
    have HJ := Lib.hid hj
    clear hd hj
    have hj8 : j < 100000000 := by
      have h := HJ.out
      have h2 := ten_bd f hf
      omega
    by_cases hj0 : 0 < j
    · have hcv := conv_byte (48 + j % 10) (by omega) (by omega)
      obtain ⟨g, rfl⟩ : ∃ g, f = g + 1 := by
        cases f with
        | zero => have := HJ.out; simp at this; omega
        | succ g => exact ⟨g, rfl⟩
      go_wp2
      go_roundw
      case rel => exact ⟨j / 10, g, ⟨#[UInt8.ofNat (48 + j % 10).toNat]⟩ ++ s, by first | rfl | go_num, rfl, by omega, ten_step j g HJ.out, by omega, by rw [ByteArray.size_append]; show 1 + _ + _ ≤ 8; omega, by rw [← digs_step g j s hj0]; exact HD.out, hB.alloc hB.size _⟩
      case measure => simp [intOf]; omega
    · obtain rfl : j = 0 := by omega
      go_wp2
      go_ret
      refine ⟨?_, hB⟩
      have e := HD.out
      rw [digs_zero] at e
      rw [e]
      rfl

/-- the terms that marking leaves, from the number `k` on -/
def marked (k : Int) : List Tm → List Tm
  | [] => []
  | _ :: r => ⟨mkT k, k + 1, k + 2⟩ :: marked (k + 3) r
theorem marked_length : ∀ (k : Int) (ts : List Tm), (marked k ts).length = ts.length
  | _, [] => rfl
  | k, _ :: r => by simp [marked, marked_length (k + 3) r]
theorem marked_get : ∀ (k : Int) (ts : List Tm) (i : Nat) (h : i < (marked k ts).length), (marked k ts)[i] = ⟨mkT (k + 3 * i), k + 3 * i + 1, k + 3 * i + 2⟩
  | _, [], i, h => by simp [marked] at h
  | k, _ :: r, 0, _ => by simp [marked]
  | k, _ :: r, i + 1, h => by
    have hi : i < (marked (k + 3) r).length := by simpa [marked] using h
    have e := marked_get (k + 3) r i hi
    have e2 : k + 3 + 3 * (i : Int) = k + 3 * ((i + 1 : Nat) : Int) := by omega
    rw [e2] at e
    simpa [marked] using e

/-- what marking comes to: the row's new terms, a number further on; nothing else has changed -/
def MarkPost (g : Nat) (len : Nat) (ts' : List Tm) (k' : Int) (W : World) (e : Ending) (w' : World) : Prop :=
  e = .returned (.int .i64 k') ∧ W.grownBy w' (some g) ∧ Made w' g (len * 3) ∧ TermsIn w' g 0 ts'

theorem grown_of_below {W w w' : World} {g : Nat} (h : W.grownBy w (some g)) (hb : Below w.heap.size w w') : W.grownBy w' (some g) :=
  ⟨hb.os.trans h.os, hb.tape.trans h.tape, hb.output.trans h.output, Nat.le_trans h.size hb.size, fun i hi hne => (hb.block i (Nat.lt_of_lt_of_le hi h.size)).trans (h.block i hi hne)⟩
theorem grown_set {W w : World} {g o : Nat} (h : W.grownBy w (some g)) (u : Value) : W.grownBy (w.setCell ⟨g, o, none⟩ u) (some g) :=
  ⟨h.os, h.tape, h.output, by rw [World.size_setCell]; exact h.size, fun i hi hne => (Below.heap_setCell w ⟨g, o, none⟩ u i (fun e => hne (by rw [e]))).trans (h.block i hi hne)⟩

theorem markTermS_c (g cap len : Nat) (k : Int) (hk : 0 < k) (hk2 : k + 3 * (len : Int) < 100000000) (w : World) (hM : Made w g (len * 3)) (ts : List Tm) (hl : ts.length = len) :
    Calls Try.prog 37 #[.slice (some ⟨g, 0, none⟩) len cap, .int .i64 k] w (MarkPost g len (marked k ts) (k + 3 * len) w) := by
  have HM := Lib.hid hM
  clear hM
  go_enter Try.func37, Try.ntmps37
  go_wp2
  go_loopw [1, 5] (fun vk vi wr => ∃ i : Nat, i ≤ len ∧ vi = .int .i64 i ∧ vk = .int .i64 (k + 3 * i) ∧ w.grownBy wr (some g) ∧ Made wr g (len * 3) ∧ TermsIn wr g 0 ((marked k ts).take i)) (fun _ vi _ => len - (intOf vi).toNat)
  case atStart => exact ⟨0, Nat.zero_le _, rfl, by simp, World.grownBy.refl _ _, HM.out, fun i hi => by simp at hi⟩
  case round =>
    obtain ⟨i, hi, rfl, rfl, hG, hMr, hTr⟩ := hrel
    have HG := Lib.hid hG
    have HMr := Lib.hid hMr
    have HTr := Lib.hid hTr
    have hgs := hMr.1
    clear hG hMr hTr
    by_cases hlt : i < len
    · go_wp2_with fail
      refine (markText_c (k + 3 * i) (by omega) (by omega) _).mono ?_
      rintro e w1 ⟨rfl, hb1⟩
      have hG1 := grown_of_below HG.out hb1
      have hM1 := HMr.out.below hb1 hgs
      have hT1 := HTr.out.below hb1 hgs
      obtain ⟨⟨v0, m0⟩, z0⟩ := hM1.2 (i * 3) (by omega)
      obtain ⟨⟨v1, m1⟩, z1⟩ := hM1.2 (i * 3 + 1) (by omega)
      obtain ⟨⟨v2, m2⟩, z2⟩ := hM1.2 (i * 3 + 2) (by omega)
      have HM1 := Lib.hid hM1
      have HT1 := Lib.hid hT1
      have HG1 := Lib.hid hG1
      have HL := Lib.hid (marked_length k ts)
      have HGe := Lib.hid (marked_get k ts i (by rw [marked_length, hl]; exact hlt))
      clear hM1 hT1 hG1 hb1
      have s1 : k + 3 * (i : Int) + 1 + 1 = k + 3 * (i : Int) + 2 := by omega
      go_wp2
      go_roundw
      case rel =>
        have hln : (marked k ts).length = len := HL.out.trans hl
        refine ⟨i + 1, by omega, by go_num, by congr 1; omega, grown_set (grown_set (grown_set HG1.out _) _) _, ((HM1.out.set _ _).set _ _).set _ _, ?_⟩
        exact TermsIn.snoc3 (ts := marked k ts) (by rw [hln]; exact hlt) HT1.out (by rw [hln]; exact HM1.out) HGe.out
      case measure => simp [intOf]; omega
    · obtain rfl : i = len := by omega
      have HL := Lib.hid (marked_length k ts)
      go_wp2
      go_ret
      refine ⟨rfl, HG.out, HMr.out, ?_⟩
      have e := HTr.out
      rwa [List.take_of_length_le (by rw [HL.out, hl]; exact Nat.le_refl _)] at e

theorem str_neq_same (s : ByteArray) : (s.toList != s.toList) = false := by simp

theorem markSeries_c (L V : Int) (g cap len : Nat) (k : Int) (hk : 0 < k) (hk2 : k + 3 * (len : Int) < 100000000) (w : World) (hM : Made w g (len * 3)) (ts : List Tm) (hl : ts.length = len) :
    Calls Try.prog 14 #[.agg #[.int .i64 L, .int .i64 V, .slice (some ⟨g, 0, none⟩) len cap], .int .i64 k] w (MarkPost g len (marked k ts) (k + 3 * len) w) := by
  have HM := Lib.hid hM
  have hg := hM.1
  clear hM
  go_enter Try.func14, Try.ntmps14
  go_wp2_with fail
  refine (markTermS_c g cap len k hk hk2 _ (HM.out.below (below1 w _) hg) ts hl).mono ?_
  rintro e w1 ⟨rfl, hG, hM1, hT1⟩
  have HG : Hid (w.grownBy w1 (some g)) := Lib.hid ⟨hG.os, hG.tape, hG.output, by have := hG.size; simp at this; omega, fun i hi hne => (hG.block i (by simp; omega) hne).trans (Below.heap_alloc w _ i hi)⟩
  have HM1 := Lib.hid hM1
  have HT1 := Lib.hid hT1
  clear hG hM1 hT1
  go_wp2
  go_ret
  exact ⟨rfl, HG.out, HM1.out, HT1.out⟩

end Go.Proofs.Ytknigggjnjkhbaa
