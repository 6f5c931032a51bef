/-
  'FnExactAddFractions' returns true at every input: the program's AddFractions and its model's return the same fraction and code. No condition.
-/
import Derived.Test.YtggmbmndgfkabaaOps
import Derived.Test.YtggmbmndgfkabaaShut
import Derived.Deep.RegionHeld3
import Derived.Deep.DeepCutAuto
namespace Go.Proofs.Ytggmbmndgfkabaa
open Go.ChangeShapes Go.WideShapes Go.ChangeAt Go.RowKit

set_option maxHeartbeats 4000000 in
theorem law_AddFractions (a b c d : Int) (w : World) :
    Calls Try.prog 5 #[.agg #[.int .i64 a, .int .i64 b], .agg #[.int .i64 c, .int .i64 d]] w fun e w' => e = .returned (.bool true) ∧ Below w.heap.size w w' := by
  obtain ⟨x, y, z, ht⟩ : ∃ x y z : Int, addR a b c d = (x, y, z) := ⟨_, _, _, rfl⟩
  have Ht := Lib.hid ht
  clear ht
  have hz0 : w.heap.size < w.heap.size + 1 + 1 := by omega
  go_enter Try.func5, Try.ntmps5
  go_upto_region 1 with fail
  go_cut [5, 6] (fun s5 s6 wx => ∃ g : Nat, s5 = .pointer (some ⟨g, 0, none⟩) ∧ s6 = .int .i64 z ∧ w.heap.size + 1 < g ∧ g < wx.heap.size ∧ wx.cell? ⟨g, 0, none⟩ = some (.int .i64 x) ∧ wx.cell? ⟨g, 1, none⟩ = some (.int .i64 y) ∧ Below (w.heap.size + 1 + 1) ((w.alloc (.cells #[.int .i64 a, .int .i64 b] 23)).alloc (.cells #[.int .i64 c, .int .i64 d] 23)) wx)
  case first =>
    go_region_held3 (fun w' => w'.cell? ⟨w.heap.size, 0, none⟩ = some (.int .i64 a) ∧ w'.cell? ⟨w.heap.size, 1, none⟩ = some (.int .i64 b) ∧ w'.cell? ⟨w.heap.size + 1, 0, none⟩ = some (.int .i64 c) ∧ w'.cell? ⟨w.heap.size + 1, 1, none⟩ = some (.int .i64 d)) (first | (refine held4 hb ?_ (by assumption); first | omega | (simp; omega)) | (refine held4_store ?_ (by assumption); omega) | (refine held4 hb ?_ ⟨?_, ?_, ?_, ?_⟩ <;> first | omega | (go_simp; done) | (simp; omega)) | go_keep)
      (first
        | (go_at_call 16; refine (toFraction_g _ _ _).mono ?_; rintro e w' ⟨rfl, hb, hl⟩; have bc := bcell hb; have hz1 : w.heap.size + 1 < w'.heap.size := (by have hs := hb.size; (first | omega | (simp at hs; omega))); have hz2 : w.heap.size < w'.heap.size := (by omega); have hz3 : w.heap.size ≤ w'.heap.size := (by omega); have hz4 : w.heap.size + 1 + 1 < w'.heap.size := (by have hs := hb.size; (first | omega | (simp at hs hl; omega) | (simp at hs; omega))); have HB1 := hb.mono (show w.heap.size + 1 + 1 ≤ _ from (by first | omega | (simp; done) | (simp; omega))); have mo1 := fun g h => Nat.lt_of_lt_of_le (n := g) h hb.size; clear hl)
        | (go_at_call 21; refine (sAdd_c _ _ _ _ _).mono ?_; rw [Ht.out]; rintro e w' ⟨rfl, hb⟩; have bc := bcell hb; have hz1 : w.heap.size + 1 < w'.heap.size := (by have hs := hb.size; (first | omega | (simp at hs; omega))); have hz2 : w.heap.size < w'.heap.size := (by omega); have hz3 : w.heap.size ≤ w'.heap.size := (by omega); have hz4 : w.heap.size + 1 + 1 < w'.heap.size := (by have hs := hb.size; (first | omega | (simp at hs hl; omega) | (simp at hs; omega))); have HB1 := hb.mono (show w.heap.size + 1 + 1 ≤ _ from (by first | omega | (simp; done) | (simp; omega))); have mo1 := fun g h => Nat.lt_of_lt_of_le (n := g) h hb.size))
    all_goals (go_wp2_with fail; go_meet)
    all_goals refine ⟨_, rfl, rfl, ?_, ?_, ?_, ?_, ?_⟩
    all_goals try (first | (go_size; done) | (refine (pair_stored (u := .int .i64 0) (v := .int .i64 0) ?_ ?_).1 <;> (go_simp; done)) | (refine (pair_stored (u := .int .i64 0) (v := .int .i64 0) ?_ ?_).2 <;> (go_simp; done)) | (go_simp; done))
    all_goals repeat' (first | (with_reducible exact Below.refl _ _) | (with_reducible refine Below.setCell ?_ ?_ _) | (with_reducible refine Below.drew ?_) | (with_reducible refine Below.alloc ?_ ?_ _) | (with_reducible refine Below.trans ?_ (by with_reducible assumption)) | (show _ ≤ _; go_size))
  case rest =>
    obtain ⟨g, rfl, rfl, hg1, hg2, k0, k1, hB⟩ := hcut
    obtain ⟨wx, rfl⟩ : ∃ wx : World, wx = wc := ⟨_, rfl⟩
    have bc := bcellB hB
    have c0 : wx.cell? ⟨w.heap.size, 0, none⟩ = some (.int .i64 a) := (bc.1 _ _ (by omega)).trans (by go_simp)
    have c1 : wx.cell? ⟨w.heap.size, 1, none⟩ = some (.int .i64 b) := (bc.1 _ _ (by omega)).trans (by go_simp)
    have c2 : wx.cell? ⟨w.heap.size + 1, 0, none⟩ = some (.int .i64 c) := (bc.1 _ _ (by omega)).trans (by go_simp)
    have c3 : wx.cell? ⟨w.heap.size + 1, 1, none⟩ = some (.int .i64 d) := (bc.1 _ _ (by omega)).trans (by go_simp)
    have HBx := Lib.hid hB
    have hz5 : w.heap.size < wx.heap.size := by omega
    have hz6 : w.heap.size + 1 < wx.heap.size := by omega
    clear bc hB
    go_upto_region 2 with fail
    go_cut [7, 8] (fun s7 s8 wy => ∃ f : Nat, s7 = .pointer (some ⟨f, 0, none⟩) ∧ s8 = .int .i64 z ∧ wy.cell? ⟨f, 0, none⟩ = some (.int .i64 x) ∧ wy.cell? ⟨f, 1, none⟩ = some (.int .i64 y) ∧ Below wx.heap.size wx wy)
    case first =>
      go_region_held3 (fun w' => w'.cell? ⟨w.heap.size, 0, none⟩ = some (.int .i64 a) ∧ w'.cell? ⟨w.heap.size, 1, none⟩ = some (.int .i64 b) ∧ w'.cell? ⟨w.heap.size + 1, 0, none⟩ = some (.int .i64 c) ∧ w'.cell? ⟨w.heap.size + 1, 1, none⟩ = some (.int .i64 d) ∧ w'.cell? ⟨g, 0, none⟩ = some (.int .i64 x) ∧ w'.cell? ⟨g, 1, none⟩ = some (.int .i64 y)) (first | (refine held6 hb ?_ ?_ ?_ (by assumption) <;> first | omega | (simp; omega)) | (refine held6_store ?_ ?_ ?_ (by assumption) <;> omega) | (refine held6_alloc ?_ ?_ ?_ (by assumption) <;> omega) | (refine held6_swap ?_ ?_ ?_ (by assumption) <;> omega) | (refine held6 hb ?_ ?_ ?_ ⟨?_, ?_, ?_, ?_, ?_, ?_⟩ <;> first | omega | (go_simp; done) | (simp; omega)) | go_keep)
        (first
          | (go_at_call 16; refine (toFraction_g _ _ _).mono ?_; rintro e w' ⟨rfl, hb, hl⟩; have bc := bcell hb; have hz0 : wx.heap.size ≤ w'.heap.size := (by have hs := hb.size; (first | omega | (simp at hs; omega))); have hz1 : w.heap.size + 1 < w'.heap.size := (by omega); have hz2 : w.heap.size < w'.heap.size := (by omega); have hz3 : g < w'.heap.size := (by omega); have hz4 : wx.heap.size < w'.heap.size := (by have hs := hb.size; (first | omega | (simp at hs hl; omega) | (simp at hs; omega))); have HB1 := hb.mono (show wx.heap.size ≤ _ from (by first | omega | (simp; done) | (simp; omega))); have mo1 := fun g h => Nat.lt_of_lt_of_le (n := g) h hb.size; clear hl)
          | (go_at_call 22; refine (iAdd_c _ _ _ _ _).mono ?_; rw [Ht.out]; rintro e w' ⟨rfl, hb⟩; have bc := bcell hb; have hz0 : wx.heap.size ≤ w'.heap.size := (by have hs := hb.size; (first | omega | (simp at hs; omega))); have hz1 : w.heap.size + 1 < w'.heap.size := (by omega); have hz2 : w.heap.size < w'.heap.size := (by omega); have hz3 : g < w'.heap.size := (by omega); have hz4 : wx.heap.size < w'.heap.size := (by have hs := hb.size; (first | omega | (simp at hs hl; omega) | (simp at hs; omega))); have HB1 := hb.mono (show wx.heap.size ≤ _ from (by first | omega | (simp; done) | (simp; omega))); have mo1 := fun g h => Nat.lt_of_lt_of_le (n := g) h hb.size))
      all_goals (go_wp2_with fail; go_meet)
      all_goals refine ⟨_, rfl, rfl, ?_, ?_, ?_⟩
      all_goals try (first | (refine (pair_stored (u := .int .i64 0) (v := .int .i64 0) ?_ ?_).1 <;> (go_simp; done)) | (refine (pair_stored (u := .int .i64 0) (v := .int .i64 0) ?_ ?_).2 <;> (go_simp; done)) | (go_simp; done))
      all_goals repeat' (first | (with_reducible exact Below.refl _ _) | (with_reducible refine Below.setCell ?_ ?_ _) | (with_reducible refine Below.drew ?_) | (with_reducible refine Below.alloc ?_ ?_ _) | (with_reducible refine Below.trans ?_ (by with_reducible assumption)) | (show _ ≤ _; go_size))
    case rest =>
      obtain ⟨f, rfl, rfl, k2, k3, hB2⟩ := hcut
      obtain ⟨wy, rfl⟩ : ∃ wy : World, wy = wc := ⟨_, rfl⟩
      have k0' := (hB2.cell (p := ⟨g, 0, none⟩) hg2).trans k0
      have k1' := (hB2.cell (p := ⟨g, 1, none⟩) hg2).trans k1
      have hW : Below w.heap.size w wy := ((below2 w _ _).trans (HBx.out.mono (by omega))).trans (hB2.mono (by omega))
      clear hB2 k0 k1 c0 c1 c2 c3
      go_wp2_with fail
      refine (eqFraction_same _ _ _).mono ?_
      rintro e w3 ⟨rfl, hb⟩
      have hW3 := hW.trans (hb.mono hW.size)
      clear hb
      go_wp2
      go_ret
      exact ⟨rfl, hW3⟩
namespace fnExactAddFractions
set_option maxRecDepth 100000 in
theorem lifted (os : Os) (started : os.Started) (H : Type) (enc : TypeId × Value → H) :
    ReturnsInHanded {} Try.checked os 5 .any (Rows.fnExactAddFractionsSpec.pre6 enc Try.prog Try.f5 Rows.fnExactAddFractionsRow.domain false) (Rows.fnExactAddFractionsSpec.post enc Try.prog Try.f5 false true false false) := by
  refine returnsInHanded_of_change (C := Try.checked) seatOwn started (by kernel_rfl) Try.func5
    (ChangeSpec.witness6 (enc := enc) (C := Try.checked) false ⟨#[], #[.agg #[.int .i64 0, .int .i64 0], .agg #[.int .i64 0, .int .i64 0]], []⟩ 8 (by kernel_rfl) (by kernel_rfl) (by kernel_rfl) (by kernel_rfl)) ?_
  intro W base args ds gs before hval0 hW _ _
  have hval : ∀ (j : Nat) t v, Try.f5.params[j]? = some t → args[j]? = some v → Value.okWide Try.prog W .any base t v := hval0
  have hW' := hW
  obtain ⟨p, q, hA0, hV, rfl, _, _⟩ := hW
  have hA : DataW.TrodAll enc Try.prog W 0 (fun _ => true) true Try.f5.params.toList args.toList ds p := hA0
  rw [Try.params5] at hA hval
  obtain ⟨v0, vs0, d00, ds0, p0, q0, hargs, rfl, rfl, h0, r0⟩ := trodAll_cons hA
  obtain ⟨v1, vs1, d10, ds1, p1, q1, rfl, rfl, rfl, h1, r1⟩ := trodAll_cons r0
  obtain ⟨rfl, rfl, rfl⟩ := trodAll_nil r1
  obtain rfl : args = #[v0, v1] := by cases args; simp_all
  obtain ⟨rfl, rfl⟩ := trodVars_none hV
  obtain ⟨c0, e0, y0, z0, m0, rfl, rfl, rfl, hy0, hz0⟩ := Joins.open_agg2 Try.underlying23 (by kernel_rfl) lawsFraction_cells (hval 0 23 v0 rfl rfl) h0
  obtain ⟨n0, q00, rfl, wn0⟩ := DataW.trod_int Try.underlying2 hy0
  obtain ⟨d0, q10, rfl, wd0⟩ := DataW.trod_int Try.underlying2 hz0
  simp at q00 q10
  subst q00 q10
  obtain ⟨c1, e1, y1, z1, m1, rfl, rfl, rfl, hy1, hz1⟩ := Joins.open_agg2 Try.underlying23 (by kernel_rfl) lawsFraction_cells (hval 1 23 v1 rfl rfl) h1
  obtain ⟨n1, q01, rfl, wn1⟩ := DataW.trod_int Try.underlying2 hy1
  obtain ⟨d1, q11, rfl, wd1⟩ := DataW.trod_int Try.underlying2 hz1
  simp at q01 q11
  subst q01 q11
  clear hA0 hval0
  simp only [List.append_nil] at hW'
  refine (law_AddFractions n0 d0 n1 d1 W).mono fun e W' ⟨he, hg⟩ => ?_
  subst he
  exact ⟨_, rfl, shut_below (pa := []) hW' (fun _ _ _ => (trodAll_cons_mk (shut_bool Try.underlying4 _) trodAll_mk0)) (fun sp _ => (trodAll_cons_mk (shut_frac wn0 wd0 _ _ _ _) (trodAll_cons_mk (shut_frac wn1 wd1 _ _ _ _) trodAll_mk0))) (fun _ => rfl)
    hg (ok_one (by kernel_rfl) rfl (okWide_bool_mk Try.underlying4 _))⟩

theorem over : Rows.fnExactAddFractionsRow.holds Try.pinned (OpenSpec.ofChange Rows.fnExactAddFractionsSpec) :=
  OpenClaim.holds_of_wide 5 Try.f5 rfl rfl rfl rfl rfl rfl rfl ⟨rfl, rfl, rfl, rfl, rfl⟩ rfl rfl rfl rfl rfl (by kernel_rfl) Try.func5 (by kernel_rfl)
    (of_decide_eq_true (by kernel_rfl)) (by unfold Func.isWrapper; first | (rw [if_pos (by decide +kernel)]; kernel_rfl) | (rw [if_neg (by decide +kernel)]; exact ⟨rfl, rfl⟩))
    (fun os started H enc _ => lifted os started H enc)

theorem proved : Rows.FnExactAddFractionsSaid := over
end fnExactAddFractions
end Go.Proofs.Ytggmbmndgfkabaa
