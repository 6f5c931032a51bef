/-
  'FnExactIsFraction' returns true at every input: the program's IsFraction and its model's agree. No condition.
-/
import Derived.Test.YtggmbmndgfkabaaOps
import Derived.Test.YtggmbmndgfkabaaShut
namespace Go.Proofs.Ytggmbmndgfkabaa
open Go.ChangeShapes Go.WideShapes Go.ChangeAt Go.RowKit

theorem law_IsFraction (n d : Int) (w : World) :
    Calls Try.prog 3 #[.agg #[.int .i64 n, .int .i64 d]] w fun e w' => e = .returned (.bool true) ∧ Below w.heap.size w w' := by
  go_enter Try.func3, Try.ntmps3
  go_wp2_with fail
  refine (toFraction_c _ _ _).mono ?_
  rintro e w1 ⟨rfl, hb⟩
  have hB1 := hb
  simp only [World.size_alloc] at hB1
  clear hb
  go_wp2_with fail
  refine (l01IsFrac_spec _ _ _).mono ?_
  rintro e w2 ⟨rfl, hb⟩
  have hB2 := below_step hB1 hb (by simp)
  obtain ⟨hc, hf⟩ := bcellB hB2
  clear hb
  go_wp2_with fail
  refine (toFraction_c _ _ _).mono ?_
  rintro e w3 ⟨rfl, hb⟩
  have hB3 := below_step hB2 hb (by simp)
  clear hb hc hf
  go_wp2_with fail
  refine (isFraction_c _ _ _).mono ?_
  rintro e w4 ⟨rfl, hb⟩
  have hB4 := below_step hB3 hb (by simp)
  clear hb hB1 hB2 hB3
  go_wp2
  go_ret
  exact ⟨rfl, (below1 w _).trans (hB4.mono (by omega))⟩
namespace fnExactIsFraction
set_option maxRecDepth 100000 in
theorem lifted (os : Os) (started : os.Started) (H : Type) (enc : TypeId × Value → H) :
    ReturnsInHanded {} Try.checked os 3 .any (Rows.fnExactIsFractionSpec.pre6 enc Try.prog Try.f3 Rows.fnExactIsFractionRow.domain false) (Rows.fnExactIsFractionSpec.post enc Try.prog Try.f3 false true false false) := by
  refine returnsInHanded_of_change (C := Try.checked) seatOwn started (by kernel_rfl) Try.func3
    (ChangeSpec.witness6 (enc := enc) (C := Try.checked) false ⟨#[], #[.agg #[.int .i64 0, .int .i64 0]], []⟩ 8 (by kernel_rfl) (by kernel_rfl) (by kernel_rfl) (by kernel_rfl)) ?_
  intro W base args ds gs before hval0 hW _ _
  have hval : ∀ (j : Nat) t v, Try.f3.params[j]? = some t → args[j]? = some v → Value.okWide Try.prog W .any base t v := hval0
  have hW' := hW
  obtain ⟨p, q, hA0, hV, rfl, _, _⟩ := hW
  have hA : DataW.TrodAll enc Try.prog W 0 (fun _ => true) true Try.f3.params.toList args.toList ds p := hA0
  rw [Try.params3] at hA hval
  obtain ⟨v0, vs0, d00, ds0, p0, q0, hargs, rfl, rfl, h0, r0⟩ := trodAll_cons hA
  obtain ⟨rfl, rfl, rfl⟩ := trodAll_nil r0
  obtain rfl : args = #[v0] := by cases args; simp_all
  obtain ⟨rfl, rfl⟩ := trodVars_none hV
  obtain ⟨c0, e0, y0, z0, m0, rfl, rfl, rfl, hy0, hz0⟩ := Joins.open_agg2 Try.underlying23 (by kernel_rfl) lawsFraction_cells (hval 0 23 v0 rfl rfl) h0
  obtain ⟨n0, q00, rfl, wn0⟩ := DataW.trod_int Try.underlying2 hy0
  obtain ⟨d0, q10, rfl, wd0⟩ := DataW.trod_int Try.underlying2 hz0
  simp at q00 q10
  subst q00 q10
  clear hA0 hval0
  simp only [List.append_nil] at hW'
  refine (law_IsFraction n0 d0 W).mono fun e W' ⟨he, hg⟩ => ?_
  subst he
  exact ⟨_, rfl, shut_below (pa := []) hW' (fun _ _ _ => (trodAll_cons_mk (shut_bool Try.underlying4 _) trodAll_mk0)) (fun sp _ => (trodAll_cons_mk (shut_frac wn0 wd0 _ _ _ _) trodAll_mk0)) (fun _ => rfl)
    hg (ok_one (by kernel_rfl) rfl (okWide_bool_mk Try.underlying4 _))⟩

theorem over : Rows.fnExactIsFractionRow.holds Try.pinned (OpenSpec.ofChange Rows.fnExactIsFractionSpec) :=
  OpenClaim.holds_of_wide 3 Try.f3 rfl rfl rfl rfl rfl rfl rfl ⟨rfl, rfl, rfl, rfl, rfl⟩ rfl rfl rfl rfl rfl (by kernel_rfl) Try.func3 (by kernel_rfl)
    (of_decide_eq_true (by kernel_rfl)) (by unfold Func.isWrapper; first | (rw [if_pos (by decide +kernel)]; kernel_rfl) | (rw [if_neg (by decide +kernel)]; exact ⟨rfl, rfl⟩))
    (fun os started H enc _ => lifted os started H enc)

theorem proved : Rows.FnExactIsFractionSaid := over
end fnExactIsFraction
end Go.Proofs.Ytggmbmndgfkabaa
