/-
  'FnExactInverseCoordinates' returns true at every input: the program's InverseCoordinates and its model's return the same terms and code, in memory of its own, and the list reads as before. No condition.
-/
import Derived.Test.YtjjkkaikinjmdaaLawInverseCoordinates
import Derived.Test.YtjjkkaikinjmdaaInvC
import Derived.Test.YtjjkkaikinjmdaaOpenE
namespace Go.Proofs.Ytjjkkaikinjmdaa
open Go.ChangeShapes Go.WideShapes Go.ChangeAt Go.RowKit

theorem main_InverseCoordinates (L V : Int) (a : Option Addr) (cap : Nat) (ts : List Tm) (hl : ts.length ≤ maxLen) (hs : ∀ i (h : i < ts.length), (ts[i]).s.size ≤ maxLen) (w : World) (hr : Row w a ts) :
    Calls Try.prog 3 #[.int .i64 L, .int .i64 V, .slice a ts.length cap] w fun e w' => e = .returned (.bool true) ∧ Below w.heap.size w w' := by
  have law := law_InverseCoordinates L V a cap ts hl hs w hr
  by_cases hbig : ts.length ≤ 1048576
  · cases h1 : givB L V ts with
    | false => exact law 2 [] (by simp) (fun W g q hb ht => sInvC_1 L V g ts q hs h1 W hb ht) (fun W g q hb ht => iInvC_1 L V g ts q hs h1 W hb ht)
    | true => exact law 0 (negL ts) (by rw [negL_length]; exact hbig) (fun W g q hb ht => sInvC_2 L V g ts q hs h1 W hb ht) (fun W g q hb ht => iInvC_2 L V g ts q hs h1 W hb ht)
  · exact law 0 [] (by simp) (fun W g q hb ht => absurd q hbig) (fun W g q hb ht => absurd q hbig)

namespace fnExactInverseCoordinates
set_option maxRecDepth 100000 in
theorem lifted (os : Os) (started : os.Started) (H : Type) (enc : TypeId × Value → H) :
    ReturnsInHanded {} Try.checked os 3 .any (Rows.fnExactInverseCoordinatesSpec.pre6 enc Try.prog Try.f3 Rows.fnExactInverseCoordinatesRow.domain false) (Rows.fnExactInverseCoordinatesSpec.post enc Try.prog Try.f3 false true false false) := by
  refine returnsInHanded_of_change (C := Try.checked) seatOwn started (by kernel_rfl) Try.func3
    (ChangeSpec.witness6 (enc := enc) (C := Try.checked) false ⟨#[], #[.int .i64 0, .int .i64 0, .slice none 0 0], []⟩ 8 (by kernel_rfl) (by kernel_rfl) (by kernel_rfl) (by kernel_rfl)) ?_
  intro W base args ds gs before hval0 hW _ _
  have hval : ∀ (j : Nat) t v, Try.f3.params[j]? = some t → args[j]? = some v → Value.okWide Try.prog W .any base t v := hval0
  have hW' := hW
  have hlt : ∀ x ∈ before, x.block < W.heap.size := fun x hx => hW.lt x hx
  obtain ⟨p, q, hA0, hV, rfl, _, _⟩ := hW
  have hA : DataW.TrodAll enc Try.prog W 0 (fun _ => true) true Try.f3.params.toList args.toList ds p := hA0
  rw [Try.params3] at hA hval
  obtain ⟨v0, vs0, d00, ds0, p0, q0, hargs, rfl, rfl, h0, r0⟩ := trodAll_cons hA
  obtain ⟨v1, vs1, d10, ds1, p1, q1, rfl, rfl, rfl, h1, r1⟩ := trodAll_cons r0
  obtain ⟨v2, vs2, d20, ds2, p2, q2, rfl, rfl, rfl, h2, r2⟩ := trodAll_cons r1
  obtain ⟨rfl, rfl, rfl⟩ := trodAll_nil r2
  obtain rfl : args = #[v0, v1, v2] := by cases args; simp_all
  obtain ⟨rfl, rfl⟩ := trodVars_none hV
  obtain ⟨n0, rfl, rfl, rfl, wf0⟩ := open_int Try.underlying2 (hval 0 2 v0 rfl rfl) h0
  obtain ⟨n1, rfl, rfl, rfl, wf1⟩ := open_int Try.underlying2 (hval 1 2 v1 rfl rfl) h1
  have h2k := h2
  obtain ⟨a2, cap2, ps2, rfl, hl2, hs2, hr2⟩ := open_terms (hval 2 22 v2 rfl rfl) h2
  clear hA0 hval0
  simp only [List.append_nil] at hW' hlt
  refine (main_InverseCoordinates n0 n1 a2 cap2 ps2 hl2 hs2 W hr2).mono fun e W' ⟨he, hg⟩ => ?_
  subst he
  have hk2 := Below.trod seatLaid (by kernel_rfl) (of_decide_eq_true (by kernel_rfl)) h2k hg (fun x hx => hlt x (by simp [hx]))
  exact ⟨_, rfl, shut_reads (pa := p2) hW' (fun _ _ _ => (trodAll_cons_mk (shut_bool Try.underlying4 _) trodAll_mk0)) (by have h := (trodAll_cons_mk (shut_int Try.underlying2 wf0) (trodAll_cons_mk (shut_int Try.underlying2 wf1) (trodAll_cons_mk hk2 trodAll_mk0))); simp only [List.append_nil, List.nil_append] at h; exact h) (fun _ => rfl) hg⟩

theorem over : Rows.fnExactInverseCoordinatesRow.holds Try.pinned (OpenSpec.ofChange Rows.fnExactInverseCoordinatesSpec) :=
  OpenClaim.holds_of_wide 3 Try.f3 rfl rfl rfl rfl rfl rfl rfl ⟨rfl, rfl, rfl, rfl, rfl⟩ rfl rfl rfl rfl rfl (by kernel_rfl) Try.func3 (by kernel_rfl)
    (of_decide_eq_true (by kernel_rfl)) (by unfold Func.isWrapper; first | (rw [if_pos (by decide +kernel)]; kernel_rfl) | (rw [if_neg (by decide +kernel)]; exact ⟨rfl, rfl⟩))
    (fun os started H enc _ => lifted os started H enc)

theorem proved : Rows.FnExactInverseCoordinatesSaid := over
end fnExactInverseCoordinates
end Go.Proofs.Ytjjkkaikinjmdaa
