/-
  Where a law stands behind 'w0, w1 := f(toSeries(a), ..)', whatever the order of the statement was.
-/
import Derived.Test.YtjloadllckllpaaGreatDoorRes
import Derived.Test.YtjloadllckllpaaGreatDoorOpenR
import Derived.Test.YtjloadllckllpaaGreatDoorPartOf
namespace Go.Proofs.YtjloadllckllpaaGreatDoor
open Go.RowKit

/-- comparing a row of terms with another row of the same terms -/
theorem eqTermS_same4 (b1 o1 c1 b2 o2 c2 : Nat) (ts : List Tm) (hl : ts.length ≤ 4194304) (w : World) (h1 : b1 < w.heap.size) (h2 : b2 < w.heap.size) (t1 : TermsIn w b1 o1 ts) (t2 : TermsIn w b2 o2 ts) :
    Calls Tryz.prog 24 #[.slice (some ⟨b1, o1, none⟩) ts.length c1, .slice (some ⟨b2, o2, none⟩) ts.length c2] w fun e w' => e = .returned (.bool true) ∧ Below w.heap.size w w' := by
  have HT1 := Lib.hid t1
  have HT2 := Lib.hid t2
  clear t1 t2
  go_enter Tryz.func24, Tryz.ntmps24
  go_wp2
  go_loopw [5] (fun vi wr => ∃ k : Nat, k ≤ ts.length ∧ vi = .int .i64 k ∧ Below w.heap.size w wr) (fun i _ => ts.length - (intOf i).toNat)
  case atStart => exact ⟨0, Nat.zero_le _, rfl, Below.refl _ _⟩
  case round =>
    obtain ⟨k, hk, rfl, hB⟩ := hrel
    by_cases hlt : k < ts.length
    · obtain ⟨c0, c1, c2⟩ := HT1.out.below hB h1 k hlt
      obtain ⟨d0, d1, d2⟩ := HT2.out.below hB h2 k hlt
      obtain ⟨s, n, d, het⟩ : ∃ s n d, ts[k] = ⟨s, n, d⟩ := ⟨_, _, _, rfl⟩
      rw [het] at c0 c1 c2 d0 d1 d2
      simp only at c0 c1 c2 d0 d1 d2
      clear het
      have hHB := Lib.hid hB
      clear hB
      go_upto_region 6 with fail
      go_cut [26] (fun s26 wc => s26 = .bool false ∧ Below wr.heap.size wr wc)
      case first =>
        go_region_with (go_at_call 53; refine (eqTerm_same _ _ _ _).mono ?_; rintro e w1 ⟨rfl, hb1⟩)
        all_goals (go_wp2_with fail; go_meet)
        all_goals exact ⟨rfl, ⟨hb1.os, hb1.tape, hb1.output, hb1.size, hb1.block⟩⟩
      case rest =>
        obtain ⟨rfl, hBc⟩ := hcut
        have hB1 := hHB.out.trans (hBc.mono hHB.out.size)
        clear c0 c1 c2 d0 d1 d2 hBc
        go_wp2
        go_roundw
        case rel => exact ⟨k + 1, by omega, by go_num, hB1⟩
        case measure => simp [intOf]; omega
    · go_wp2
      go_ret
      exact ⟨rfl, hB⟩

theorem eqTermS_row4 (a1 a2 : Option Addr) (c1 c2 : Nat) (ts : List Tm) (hl : ts.length ≤ 4194304) (w : World) (h1 : Row w a1 ts) (h2 : Row w a2 ts) :
    Calls Tryz.prog 24 #[.slice a1 ts.length c1, .slice a2 ts.length c2] w fun e w' => e = .returned (.bool true) ∧ Below w.heap.size w w' := by
  by_cases h0 : ts = []
  · subst h0
    clear h1 h2
    go_enter Tryz.func24, Tryz.ntmps24
    go_wp2
    go_loopw [5] (fun vi wr => vi = .int .i64 0 ∧ wr = w) (fun _ _ => 0)
    case atStart => exact ⟨rfl, rfl⟩
    case round =>
      obtain ⟨rfl, rfl⟩ := hrel
      go_wp2
      go_ret
      exact ⟨rfl, Below.refl _ _⟩
  · rcases h1 with h1 | ⟨b1, o1, rfl, hb1, t1⟩
    · exact absurd h1 h0
    · rcases h2 with h2 | ⟨b2, o2, rfl, hb2, t2⟩
      · exact absurd h2 h0
      · exact eqTermS_same4 b1 o1 c1 b2 o2 c2 ts hl w hb1 hb2 t1 t2

theorem eqSeries_row4 (L V : Int) (a1 a2 : Option Addr) (c1 c2 : Nat) (ts : List Tm) (hl : ts.length ≤ 4194304) (w : World) (h1 : Row w a1 ts) (h2 : Row w a2 ts) :
    Calls Tryz.prog 10 #[.agg #[.int .i64 L, .int .i64 V, .slice a1 ts.length c1], .agg #[.int .i64 L, .int .i64 V, .slice a2 ts.length c2]] w fun e w' => e = .returned (.bool true) ∧ Below w.heap.size w w' := by
  have HT1 := Lib.hid h1
  have HT2 := Lib.hid h2
  clear h1 h2
  go_enter Tryz.func10, Tryz.ntmps10
  go_wp2_with fail
  refine (eqTermS_row4 a1 a2 c1 c2 ts hl _ ?_ ?_).mono ?_
  · exact (HT1.out.below (below1 w _)).below (below1 _ _)
  · exact (HT2.out.below (below1 w _)).below (below1 _ _)
  rintro e w1 ⟨rfl, hb⟩
  have hW : Below w.heap.size w w1 := (below2 w _ _).trans (hb.mono (by simp; omega))
  clear hb
  go_wp2
  go_ret
  exact ⟨rfl, hW⟩

theorem toSeries_r (L V : Int) (a : Option Addr) (cap : Nat) (ts : List Tm) (hl : ts.length ≤ 1048576) (w : World) (hts : Row w a ts) :
    Calls Tryz.prog 8 #[.agg #[.int .i64 L, .int .i64 V, .slice a ts.length cap]] w (ToSer L V ts w) := toSeries_c L V a cap ts hl w hts

theorem far_three' {g n o : Nat} {u v x : Value} {w' : World} (h : g ≠ n) : (((w'.setCell ⟨g, 0, none⟩ u).setCell ⟨g, 1, none⟩ v).setCell ⟨g, 2, none⟩ x).cell? ⟨n, o, none⟩ = w'.cell? ⟨n, o, none⟩ := by
  rw [World.cell?_setCell_far _ _ _ _ (by show g ≠ n; exact h), World.cell?_setCell_far _ _ _ _ (by show g ≠ n; exact h), World.cell?_setCell_far _ _ _ _ (by show g ≠ n; exact h)]
theorem held33s {i j g : Nat} {a b c x y z p q r : Value} {W w' : World} (hb : Below W.heap.size W w') (hi : i < W.heap.size) (hj : j < W.heap.size) (hg : W.heap.size ≤ g)
    (h : W.cell? ⟨i, 0, none⟩ = some a ∧ W.cell? ⟨i, 1, none⟩ = some b ∧ W.cell? ⟨i, 2, none⟩ = some c ∧ W.cell? ⟨j, 0, none⟩ = some x ∧ W.cell? ⟨j, 1, none⟩ = some y ∧ W.cell? ⟨j, 2, none⟩ = some z) :
    (((w'.setCell ⟨g, 0, none⟩ p).setCell ⟨g, 1, none⟩ q).setCell ⟨g, 2, none⟩ r).cell? ⟨i, 0, none⟩ = some a ∧ (((w'.setCell ⟨g, 0, none⟩ p).setCell ⟨g, 1, none⟩ q).setCell ⟨g, 2, none⟩ r).cell? ⟨i, 1, none⟩ = some b ∧ (((w'.setCell ⟨g, 0, none⟩ p).setCell ⟨g, 1, none⟩ q).setCell ⟨g, 2, none⟩ r).cell? ⟨i, 2, none⟩ = some c ∧
      (((w'.setCell ⟨g, 0, none⟩ p).setCell ⟨g, 1, none⟩ q).setCell ⟨g, 2, none⟩ r).cell? ⟨j, 0, none⟩ = some x ∧ (((w'.setCell ⟨g, 0, none⟩ p).setCell ⟨g, 1, none⟩ q).setCell ⟨g, 2, none⟩ r).cell? ⟨j, 1, none⟩ = some y ∧ (((w'.setCell ⟨g, 0, none⟩ p).setCell ⟨g, 1, none⟩ q).setCell ⟨g, 2, none⟩ r).cell? ⟨j, 2, none⟩ = some z := by
  rw [far_three' (by omega), far_three' (by omega), far_three' (by omega), far_three' (by omega), far_three' (by omega), far_three' (by omega)]
  exact held33 hb hi hj h

theorem below_drew {B : Nat} {w w' : World} (h : Below B w.drew w') : Below B w w' := ⟨h.os, h.tape, h.output, h.size, h.block⟩

/-- the box holds the series, the code stands in its slot -/
def CutW (w2 : World) (L' V' c' : Int) (ts' : List Tm) (v6 v7 : Value) (wy : World) : Prop :=
  ∃ (g : Nat) (aw : Option Addr) (cw : Nat), v6 = .pointer (some ⟨g, 0, none⟩) ∧ v7 = .int .i64 c' ∧ w2.heap.size ≤ g ∧ g < wy.heap.size ∧ Below w2.heap.size w2 wy ∧
    wy.cell? ⟨g, 0, none⟩ = some (.int .i64 L') ∧ wy.cell? ⟨g, 1, none⟩ = some (.int .i64 V') ∧ wy.cell? ⟨g, 2, none⟩ = some (.slice aw ts'.length cw) ∧ RowB wy.heap.size wy aw ts'

theorem CutW.new {w2 wF : World} {L' V' c' : Int} {ts' : List Tm} {aw : Option Addr} {cw : Nat} {lo : Nat} {t : TypeId} (hF : Below w2.heap.size w2 wF) (hN : NewRow lo wF.heap.size wF aw ts') :
    CutW w2 L' V' c' ts' (.pointer (some ⟨wF.heap.size, 0, none⟩)) (.int .i64 c') (wF.alloc (.cells #[.int .i64 L', .int .i64 V', .slice aw ts'.length cw] t)) :=
  ⟨wF.heap.size, aw, cw, rfl, rfl, hF.size, by simp, hF.alloc hF.size _, by go_simp, by go_simp, by go_simp, by
    have h := hN.rowB.below (below1 wF (.cells #[.int .i64 L', .int .i64 V', .slice aw ts'.length cw] t)) (Nat.le_refl _)
    rcases h with h | ⟨b, o, h1, h2, h3⟩
    · exact .inl h
    · exact .inr ⟨b, o, h1, by simp; omega, h3⟩⟩
theorem CutW.old {w2 wF : World} {L' V' c' : Int} {ts' : List Tm} {aw : Option Addr} {cw lo g : Nat} (zz : Z3 wF g) (hF : Below w2.heap.size w2 wF) (hg : w2.heap.size ≤ g) (hN : NewRow lo wF.heap.size wF aw ts') (hlo : g < lo) :
    CutW w2 L' V' c' ts' (.pointer (some ⟨g, 0, none⟩)) (.int .i64 c') (((wF.setCell ⟨g, 0, none⟩ (.int .i64 L')).setCell ⟨g, 1, none⟩ (.int .i64 V')).setCell ⟨g, 2, none⟩ (.slice aw ts'.length cw)) := by
  obtain ⟨h0, h1, h2, h3, -⟩ := zz
  have ne : ∀ {a b : Nat}, a ≠ b → (⟨g, a, none⟩ : Addr) ≠ ⟨g, b, none⟩ := fun h e => h (by injection e)
  refine ⟨g, aw, cw, rfl, rfl, hg, by simpa using h0, ((hF.setCell (p := ⟨g, 0, none⟩) hg _).setCell (p := ⟨g, 1, none⟩) hg _).setCell (p := ⟨g, 2, none⟩) hg _, ?_, ?_, ?_, ?_⟩
  · rw [World.cell?_setCell_other _ _ _ _ (ne (by omega)), World.cell?_setCell_other _ _ _ _ (ne (by omega))]
    exact World.cell?_setCell_same _ _ _ h1
  · rw [World.cell?_setCell_other _ _ _ _ (ne (by omega))]
    exact World.cell?_setCell_same _ _ _ ((World.cell?_setCell_other _ _ _ _ (ne (by omega))).trans h2)
  · exact World.cell?_setCell_same _ _ _ ((World.cell?_setCell_other _ _ _ _ (ne (by omega))).trans ((World.cell?_setCell_other _ _ _ _ (ne (by omega))).trans h3))
  · rcases hN with h | ⟨b, e, h4, h5, h6, h7⟩
    · exact .inl h
    · exact .inr ⟨b, 0, e, by simpa using h6.1, ((h7.setCell (by show g ≠ b; omega) _).setCell (by show g ≠ b; omega) _).setCell (by show g ≠ b; omega) _⟩

/-- .. and the row is known as the call's own, apart from the box -/
def CutN (w2 : World) (L' V' c' : Int) (ts' : List Tm) (v6 v7 : Value) (wy : World) : Prop :=
  ∃ (g : Nat) (aw : Option Addr) (cw lo hi : Nat), v6 = .pointer (some ⟨g, 0, none⟩) ∧ v7 = .int .i64 c' ∧ w2.heap.size ≤ g ∧ g < wy.heap.size ∧ Below w2.heap.size w2 wy ∧
    wy.cell? ⟨g, 0, none⟩ = some (.int .i64 L') ∧ wy.cell? ⟨g, 1, none⟩ = some (.int .i64 V') ∧ wy.cell? ⟨g, 2, none⟩ = some (.slice aw ts'.length cw) ∧ w2.heap.size ≤ lo ∧ hi ≤ wy.heap.size ∧ (g < lo ∨ hi ≤ g) ∧ NewRow lo hi wy aw ts'
theorem CutN.new {w2 wF : World} {L' V' c' : Int} {ts' : List Tm} {aw : Option Addr} {cw : Nat} {lo : Nat} {t : TypeId} (hF : Below w2.heap.size w2 wF) (hN : NewRow lo wF.heap.size wF aw ts') (hlo : w2.heap.size ≤ lo) :
    CutN w2 L' V' c' ts' (.pointer (some ⟨wF.heap.size, 0, none⟩)) (.int .i64 c') (wF.alloc (.cells #[.int .i64 L', .int .i64 V', .slice aw ts'.length cw] t)) :=
  ⟨wF.heap.size, aw, cw, lo, wF.heap.size, rfl, rfl, hF.size, by simp, hF.alloc hF.size _, by go_simp, by go_simp, by go_simp, hlo, by simp, .inr (Nat.le_refl _), hN.below (below1 wF _) (Nat.le_refl _)⟩
theorem CutN.old {w2 wF : World} {L' V' c' : Int} {ts' : List Tm} {aw : Option Addr} {cw lo g : Nat} (zz : Z3 wF g) (hF : Below w2.heap.size w2 wF) (hg : w2.heap.size ≤ g) (hN : NewRow lo wF.heap.size wF aw ts') (hlo : g < lo) :
    CutN w2 L' V' c' ts' (.pointer (some ⟨g, 0, none⟩)) (.int .i64 c') (((wF.setCell ⟨g, 0, none⟩ (.int .i64 L')).setCell ⟨g, 1, none⟩ (.int .i64 V')).setCell ⟨g, 2, none⟩ (.slice aw ts'.length cw)) := by
  obtain ⟨g', aw', cw', h1, h2, h3, h4, h5, h6, h7, h8, _⟩ := CutW.old (L' := L') (V' := V') (c' := c') (cw := cw) zz hF hg hN hlo
  have e : g' = g := by injection h1 with h; injection h with h; injection h with h; exact h.symm
  subst e
  refine ⟨g', aw, cw, lo, wF.heap.size, rfl, rfl, hg, h4, h5, h6, h7, ?_, by omega, by simp, .inl hlo, ?_⟩
  · obtain ⟨h0, -, -, h3', -⟩ := zz
    have ne : ∀ {a b : Nat}, a ≠ b → (⟨g', a, none⟩ : Addr) ≠ ⟨g', b, none⟩ := fun h e => h (by injection e)
    exact World.cell?_setCell_same _ _ _ ((World.cell?_setCell_other _ _ _ _ (ne (by omega))).trans ((World.cell?_setCell_other _ _ _ _ (ne (by omega))).trans h3'))
  · rcases hN with h | ⟨b, e, h4, h5, h6, h7⟩
    · exact .inl h
    · exact .inr ⟨b, e, h4, h5, ((h6.set _ _).set _ _).set _ _, ((h7.setCell (by show g' ≠ b; omega) _).setCell (by show g' ≠ b; omega) _).setCell (by show g' ≠ b; omega) _⟩
end Go.Proofs.YtjloadllckllpaaGreatDoor
