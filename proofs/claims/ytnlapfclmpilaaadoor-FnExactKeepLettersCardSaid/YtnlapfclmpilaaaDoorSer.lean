/-
  Series in memory: the laws' own helpers that measure, copy and compare them.
-/
import Derived.Test.YtnlapfclmpilaaaDoorTerms
namespace Go.Proofs.YtnlapfclmpilaaaDoor
open Go.RowKit

theorem szSeries_c (L V : Int) (a : Option Addr) (len cap : Nat) (left : Int) (w : World)
    (h : Calls Tryd.prog 17 #[.slice a len cap, .int .i64 left] (w.alloc (.cells #[.int .i64 L, .int .i64 V, .slice a len cap] 24)) (SzPost len left (w.alloc (.cells #[.int .i64 L, .int .i64 V, .slice a len cap] 24)))) :
    Calls Tryd.prog 5 #[.agg #[.int .i64 L, .int .i64 V, .slice a len cap], .int .i64 left] w (SzPost len left w) := by
  have H := Lib.hid h
  clear h
  go_enter Tryd.func5, Tryd.ntmps5
  go_wp2_with fail
  refine H.out.mono ?_
  rintro e w1 ⟨he, hb⟩
  rcases he with rfl | ⟨r, hr0, hr1, hfit, rfl⟩
  · go_wp2
    go_ret
    exact ⟨.inl rfl, (below1 w _).trans (hb.mono (by simp))⟩
  · go_wp2
    go_ret
    exact ⟨.inr ⟨r, hr0, hr1, hfit, rfl⟩, (below1 w _).trans (hb.mono (by simp))⟩

/-- what copying a series comes to -/
def ToSer (L V : Int) (ts : List Tm) (W : World) (e : Ending) (w' : World) : Prop :=
  ∃ g, e = .returned (.agg #[.int .i64 L, .int .i64 V, .slice (some ⟨g, 0, none⟩) ts.length ts.length]) ∧ Below W.heap.size W w' ∧ W.heap.size ≤ g ∧ Made w' g (ts.length * 3) ∧ TermsIn w' g 0 ts

theorem TermsIn.setCell {w : World} {g : Nat} {ts : List Tm} (h : TermsIn w g 0 ts) {p : Addr} (hp : p.block ≠ g) (u : Value) : TermsIn (w.setCell p u) g 0 ts := fun i hi =>
  ⟨(World.cell?_setCell_far _ _ _ _ hp).trans (h i hi).1, (World.cell?_setCell_far _ _ _ _ hp).trans (h i hi).2.1, (World.cell?_setCell_far _ _ _ _ hp).trans (h i hi).2.2⟩

theorem toSeries_c (L V : Int) (a : Option Addr) (cap : Nat) (ts : List Tm) (hl : ts.length ≤ 1048576) (w : World) (hts : ts = [] ∨ ∃ b off, a = some ⟨b, off, none⟩ ∧ b < w.heap.size ∧ TermsIn w b off ts) :
    Calls Tryd.prog 7 #[.agg #[.int .i64 L, .int .i64 V, .slice a ts.length cap]] w (ToSer L V ts w) := by
  have HT := Lib.hid hts
  clear hts
  go_enter Tryd.func7, Tryd.ntmps7
  go_wp2_with fail
  refine (toTermS_c a cap ts hl _ ?_).mono ?_
  · rcases HT.out with h | ⟨b, off, h1, h2, h3⟩
    · exact .inl h
    · refine .inr ⟨b, off, h1, ?_, ?_⟩
      · simp; omega
      · exact h3.below (below3 w _ _ _) h2
  rintro e w1 ⟨g, rfl, hb, hg, hM, hT⟩
  have bc := bcell hb
  have hz : w.heap.size + 1 + 1 < w1.heap.size := by have := hb.size; simp at this; omega
  have r0 : w1.cell? ⟨w.heap.size + 1, 0, none⟩ = some (.int .i64 0) := (bc.1 _ _ (by go_size)).trans (by go_simp)
  have r1 : w1.cell? ⟨w.heap.size + 1, 1, none⟩ = some (.int .i64 0) := (bc.1 _ _ (by go_size)).trans (by go_simp)
  have r2 : w1.cell? ⟨w.heap.size + 1, 2, none⟩ = some (.slice none 0 0) := (bc.1 _ _ (by go_size)).trans (by go_simp)
  have hW : Below w.heap.size w w1 := (below3 w _ _ _).trans (hb.mono (by simp; omega))
  have HM := Lib.hid hM
  have HT2 := Lib.hid hT
  have hg2 : w.heap.size + 1 + 1 + 1 ≤ g := by simp at hg; omega
  clear hb hM hT hg
  go_wp2
  refine bodyPost_ret (v := .agg #[.int .i64 L, .int .i64 V, .slice (some ⟨g, 0, none⟩) ts.length ts.length]) (by simp [results, Tryd.results7, go_sem, r0, r1, r2]) rfl ⟨g, rfl, by go_grown, by omega, ?_, ?_⟩
  · repeat' (first | (with_reducible exact HM.out) | (with_reducible refine Made.set ?_ _ _))
  · repeat' (first | (with_reducible exact HT2.out) | (with_reducible refine TermsIn.setCell ?_ ?_ _) | (dsimp only; omega))

theorem eqTerm_same (s : ByteArray) (n d : Int) (w : World) :
    Calls Tryd.prog 55 #[.agg #[.string s, .int .i64 n, .int .i64 d], .agg #[.string s, .int .i64 n, .int .i64 d]] w fun e w' => e = .returned (.bool true) ∧ Below w.heap.size w w' := by
  go_enter Tryd.func55, Tryd.ntmps55
  go_wp2_with fail
  refine (eqFraction_same _ _ _).mono ?_
  rintro e w1 ⟨rfl, hb⟩
  have hW : Below w.heap.size w w1 := (below2 w _ _).trans (hb.mono (by simp; omega))
  clear hb
  go_wp2
  go_ret
  exact ⟨rfl, hW⟩

/-- comparing a row of terms with another row of the same terms -/
theorem eqTermS_same (b1 o1 c1 b2 o2 c2 : Nat) (ts : List Tm) (hl : ts.length ≤ 1048576) (w : World) (h1 : b1 < w.heap.size) (h2 : b2 < w.heap.size) (t1 : TermsIn w b1 o1 ts) (t2 : TermsIn w b2 o2 ts) :
    Calls Tryd.prog 28 #[.slice (some ⟨b1, o1, none⟩) ts.length c1, .slice (some ⟨b2, o2, none⟩) ts.length c2] w fun e w' => e = .returned (.bool true) ∧ Below w.heap.size w w' := by
  have HT1 := Lib.hid t1
  have HT2 := Lib.hid t2
  clear t1 t2
  go_enter Tryd.func28, Tryd.ntmps28
  go_wp2
  go_loopw [5] (fun vi wr => ∃ k : Nat, k ≤ ts.length ∧ vi = .int .i64 k ∧ Below w.heap.size w wr) (fun i _ => ts.length - (intOf i).toNat)
  case atStart => exact ⟨0, Nat.zero_le _, rfl, Below.refl _ _⟩
  case round =>
    obtain ⟨k, hk, rfl, hB⟩ := hrel
    by_cases hlt : k < ts.length
    · obtain ⟨c0, c1, c2⟩ := HT1.out.below hB h1 k hlt
      obtain ⟨d0, d1, d2⟩ := HT2.out.below hB h2 k hlt
      obtain ⟨s, n, d, het⟩ : ∃ s n d, ts[k] = ⟨s, n, d⟩ := ⟨_, _, _, rfl⟩
      rw [het] at c0 c1 c2 d0 d1 d2
      simp only at c0 c1 c2 d0 d1 d2
      clear het
      have hHB := Lib.hid hB
      clear hB
      go_upto_region 6 with fail
      go_cut [26] (fun s26 wc => s26 = .bool false ∧ Below wr.heap.size wr wc)
      case first =>
        go_region_with (go_at_call 55; refine (eqTerm_same _ _ _ _).mono ?_; rintro e w1 ⟨rfl, hb1⟩)
        all_goals (go_wp2_with fail; go_meet)
        all_goals exact ⟨rfl, ⟨hb1.os, hb1.tape, hb1.output, hb1.size, hb1.block⟩⟩
      case rest =>
        obtain ⟨rfl, hBc⟩ := hcut
        have hB1 := hHB.out.trans (hBc.mono hHB.out.size)
        clear c0 c1 c2 d0 d1 d2 hBc
        go_wp2
        go_roundw
        case rel => exact ⟨k + 1, by omega, by go_num, hB1⟩
        case measure => simp [intOf]; omega
    · go_wp2
      go_ret
      exact ⟨rfl, hB⟩

theorem eqSeries_same (L V : Int) (b1 o1 c1 b2 o2 c2 : Nat) (ts : List Tm) (hl : ts.length ≤ 1048576) (w : World) (h1 : b1 < w.heap.size) (h2 : b2 < w.heap.size) (t1 : TermsIn w b1 o1 ts) (t2 : TermsIn w b2 o2 ts) :
    Calls Tryd.prog 9 #[.agg #[.int .i64 L, .int .i64 V, .slice (some ⟨b1, o1, none⟩) ts.length c1], .agg #[.int .i64 L, .int .i64 V, .slice (some ⟨b2, o2, none⟩) ts.length c2]] w fun e w' => e = .returned (.bool true) ∧ Below w.heap.size w w' := by
  have HT1 := Lib.hid t1
  have HT2 := Lib.hid t2
  clear t1 t2
  go_enter Tryd.func9, Tryd.ntmps9
  go_wp2_with fail
  refine (eqTermS_same b1 o1 c1 b2 o2 c2 ts hl _ ?_ ?_ ?_ ?_).mono ?_
  · simp; omega
  · simp; omega
  · exact HT1.out.below (below2 w _ _) h1
  · exact HT2.out.below (below2 w _ _) h2
  rintro e w1 ⟨rfl, hb⟩
  have hW : Below w.heap.size w w1 := (below2 w _ _).trans (hb.mono (by simp; omega))
  clear hb
  go_wp2
  go_ret
  exact ⟨rfl, hW⟩
end Go.Proofs.YtnlapfclmpilaaaDoor
