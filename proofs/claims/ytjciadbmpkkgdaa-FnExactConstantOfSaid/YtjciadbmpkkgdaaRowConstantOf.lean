/-
  'FnExactConstantOf' returns true at every input: the program's ConstantOf and its model's return the same fraction and code, and the argument reads as before. No condition.
-/
import Derived.Test.YtjciadbmpkkgdaaLawConstantOf
import Derived.Test.YtjciadbmpkkgdaaConst
namespace Go.Proofs.Ytjciadbmpkkgdaa
open Go.ChangeShapes Go.WideShapes Go.ChangeAt Go.RowKit
open Go.ChangeMaps (open_string shut_string)

theorem main_ConstantOf (L V : Int) (a : Option Addr) (cap : Nat) (ts : List Tm) (hl : ts.length ≤ maxLen) (hs : ∀ i (h : i < ts.length), (ts[i]).s.size ≤ maxLen) (w : World) (hr : Row w a ts) :
    Calls Try.prog 7 #[.agg #[.int .i64 L, .int .i64 V, .slice a ts.length cap]] w fun e w' => e = .returned (.bool true) ∧ Below w.heap.size w w' := by
  cases h1 : serB L V ts with
  | false => exact law_ConstantOf L V a cap ts hl hs w hr 0 0 1 (fun W g h2 hb ht => sConst_1 L V g 0 _ ts W h1 h2 hs hb ht) (fun W g h2 hb ht => iConst_c L V g 0 _ ts W h2 hs hb ht 0 0 1 (coef_1 h1))
  | true => exact law_ConstantOf L V a cap ts hl hs w hr (valL [] ts).1 (valL [] ts).2 0 (fun W g h2 hb ht => sConst_2 L V g 0 _ ts W h1 h2 hs hb ht) (fun W g h2 hb ht => iConst_c L V g 0 _ ts W h2 hs hb ht _ _ _ (coef_3 h1 (const_ok h1)))

namespace fnExactConstantOf
set_option maxRecDepth 100000 in
theorem lifted (os : Os) (started : os.Started) (H : Type) (enc : TypeId × Value → H) :
    ReturnsInHanded {} Try.checked os 7 .any (Rows.fnExactConstantOfSpec.pre6 enc Try.prog Try.f7 Rows.fnExactConstantOfRow.domain false) (Rows.fnExactConstantOfSpec.post enc Try.prog Try.f7 false true false false) := by
  refine returnsInHanded_of_change (C := Try.checked) seatOwn started (by kernel_rfl) Try.func7
    (ChangeSpec.witness6 (enc := enc) (C := Try.checked) false ⟨#[], #[.agg #[.int .i64 0, .int .i64 0, .slice none 0 0]], []⟩ 8 (by kernel_rfl) (by kernel_rfl) (by kernel_rfl) (by kernel_rfl)) ?_
  intro W base args ds gs before hval0 hW _ _
  have hval : ∀ (j : Nat) t v, Try.f7.params[j]? = some t → args[j]? = some v → Value.okWide Try.prog W .any base t v := hval0
  have hW' := hW
  have hlt : ∀ x ∈ before, x.block < W.heap.size := fun x hx => hW.lt x hx
  obtain ⟨p, q, hA0, hV, rfl, _, _⟩ := hW
  have hA : DataW.TrodAll enc Try.prog W 0 (fun _ => true) true Try.f7.params.toList args.toList ds p := hA0
  rw [Try.params7] at hA hval
  obtain ⟨v0, vs0, d00, ds0, p0, q0, hargs, rfl, rfl, h0, r0⟩ := trodAll_cons hA
  obtain ⟨rfl, rfl, rfl⟩ := trodAll_nil r0
  obtain rfl : args = #[v0] := by cases args; simp_all
  obtain ⟨rfl, rfl⟩ := trodVars_none hV
  have h0k := h0
  obtain ⟨L0, V0, a0, cap0, ts0, rfl, hl0, hs0, hr0⟩ := open_series (hval 0 24 v0 rfl rfl) h0
  clear hA0 hval0
  simp only [List.append_nil] at hW' hlt
  refine (main_ConstantOf L0 V0 a0 cap0 ts0 hl0 hs0 W hr0).mono fun e W' ⟨he, hg⟩ => ?_
  subst he
  have hk0 := Below.trod seatLaid (by kernel_rfl) (of_decide_eq_true (by kernel_rfl)) h0k hg (fun x hx => hlt x (by simp [hx]))
  exact ⟨_, rfl, shut_reads (pa := p0) hW' (fun _ _ _ => (trodAll_cons_mk (shut_bool Try.underlying4 _) trodAll_mk0)) (by have h := (trodAll_cons_mk hk0 trodAll_mk0); simp only [List.append_nil] at h; exact h) (fun _ => rfl) hg⟩

theorem over : Rows.fnExactConstantOfRow.holds Try.pinned (OpenSpec.ofChange Rows.fnExactConstantOfSpec) :=
  OpenClaim.holds_of_wide 7 Try.f7 rfl rfl rfl rfl rfl rfl rfl ⟨rfl, rfl, rfl, rfl, rfl⟩ rfl rfl rfl rfl rfl (by kernel_rfl) Try.func7 (by kernel_rfl)
    (of_decide_eq_true (by kernel_rfl)) (by unfold Func.isWrapper; first | (rw [if_pos (by decide +kernel)]; kernel_rfl) | (rw [if_neg (by decide +kernel)]; exact ⟨rfl, rfl⟩))
    (fun os started H enc _ => lifted os started H enc)

theorem proved : Rows.FnExactConstantOfSaid := over
end fnExactConstantOf
end Go.Proofs.Ytjciadbmpkkgdaa
