/-
  'FnExactTruncateSeries' returns true at every input: the program's TruncateSeries and its model's return the same series and code, in memory of its own, and the argument reads as before. No condition.
-/
import Derived.Test.YtjciadbmpkkgdaaLawTruncateSeries
import Derived.Test.YtjciadbmpkkgdaaTruncI
namespace Go.Proofs.Ytjciadbmpkkgdaa
open Go.ChangeShapes Go.WideShapes Go.ChangeAt Go.RowKit
open Go.ChangeMaps (open_string shut_string)

theorem main_TruncateSeries (L V : Int) (a : Option Addr) (cap : Nat) (ts : List Tm) (hl : ts.length ≤ maxLen) (hs : ∀ i (h : i < ts.length), (ts[i]).s.size ≤ maxLen) (m : Int) (w : World) (hr : Row w a ts) :
    Calls Try.prog 6 #[.agg #[.int .i64 L, .int .i64 V, .slice a ts.length cap], .int .i64 m] w fun e w' => e = .returned (.bool true) ∧ Below w.heap.size w w' := by
  by_cases hbig : ts.length ≤ 1048576
  · cases h1 : serB L V ts with
    | false => exact law_TruncateSeries L V a cap ts hl hs m w hr 0 0 1 [] (by simp) (fun W g h2 hb ht => sTrunc_1 L V m g ts W h1 h2 hs hb ht) (fun W g h2 hb ht => iTrunc_1 L V m g ts W h1 h2 hs hb ht)
    | true =>
      cases h2 : inB m 1 V with
      | false => exact law_TruncateSeries L V a cap ts hl hs m w hr 0 0 2 [] (by simp) (fun W g h3 hb ht => sTrunc_2 L V m g ts W h1 h2 h3 hs hb ht) (fun W g h3 hb ht => iTrunc_2 L V m g ts W h1 h2 h3 hs hb ht)
      | true => exact law_TruncateSeries L V a cap ts hl hs m w hr L m 0 (truncL m ts) (Nat.le_trans (List.length_filter_le _ _) hbig) (fun W g h3 hb ht => sTrunc_3 L V m g ts W h1 h2 h3 hs hb ht) (fun W g h3 hb ht => iTrunc_3 L V m g ts W h1 h2 h3 hs hb ht)
  · exact law_TruncateSeries L V a cap ts hl hs m w hr 0 0 0 [] (by simp) (fun W g h2 hb ht => absurd h2 hbig) (fun W g h2 hb ht => absurd h2 hbig)

namespace fnExactTruncateSeries
set_option maxRecDepth 100000 in
theorem lifted (os : Os) (started : os.Started) (H : Type) (enc : TypeId × Value → H) :
    ReturnsInHanded {} Try.checked os 6 .any (Rows.fnExactTruncateSeriesSpec.pre6 enc Try.prog Try.f6 Rows.fnExactTruncateSeriesRow.domain false) (Rows.fnExactTruncateSeriesSpec.post enc Try.prog Try.f6 false true false false) := by
  refine returnsInHanded_of_change (C := Try.checked) seatOwn started (by kernel_rfl) Try.func6
    (ChangeSpec.witness6 (enc := enc) (C := Try.checked) false ⟨#[], #[.agg #[.int .i64 0, .int .i64 0, .slice none 0 0], .int .i64 0], []⟩ 8 (by kernel_rfl) (by kernel_rfl) (by kernel_rfl) (by kernel_rfl)) ?_
  intro W base args ds gs before hval0 hW _ _
  have hval : ∀ (j : Nat) t v, Try.f6.params[j]? = some t → args[j]? = some v → Value.okWide Try.prog W .any base t v := hval0
  have hW' := hW
  have hlt : ∀ x ∈ before, x.block < W.heap.size := fun x hx => hW.lt x hx
  obtain ⟨p, q, hA0, hV, rfl, _, _⟩ := hW
  have hA : DataW.TrodAll enc Try.prog W 0 (fun _ => true) true Try.f6.params.toList args.toList ds p := hA0
  rw [Try.params6] at hA hval
  obtain ⟨v0, vs0, d00, ds0, p0, q0, hargs, rfl, rfl, h0, r0⟩ := trodAll_cons hA
  obtain ⟨v1, vs1, d10, ds1, p1, q1, rfl, rfl, rfl, h1, r1⟩ := trodAll_cons r0
  obtain ⟨rfl, rfl, rfl⟩ := trodAll_nil r1
  obtain rfl : args = #[v0, v1] := by cases args; simp_all
  obtain ⟨rfl, rfl⟩ := trodVars_none hV
  have h0k := h0
  obtain ⟨L0, V0, a0, cap0, ts0, rfl, hl0, hs0, hr0⟩ := open_series (hval 0 24 v0 rfl rfl) h0
  obtain ⟨n1, rfl, rfl, rfl, wf1⟩ := open_int Try.underlying2 (hval 1 2 v1 rfl rfl) h1
  clear hA0 hval0
  simp only [List.append_nil] at hW' hlt
  refine (main_TruncateSeries L0 V0 a0 cap0 ts0 hl0 hs0 n1 W hr0).mono fun e W' ⟨he, hg⟩ => ?_
  subst he
  have hk0 := Below.trod seatLaid (by kernel_rfl) (of_decide_eq_true (by kernel_rfl)) h0k hg (fun x hx => hlt x (by simp [hx]))
  exact ⟨_, rfl, shut_reads (pa := p0) hW' (fun _ _ _ => (trodAll_cons_mk (shut_bool Try.underlying4 _) trodAll_mk0)) (by have h := (trodAll_cons_mk hk0 (trodAll_cons_mk (shut_int Try.underlying2 wf1) trodAll_mk0)); simp only [List.append_nil] at h; exact h) (fun _ => rfl) hg⟩

theorem over : Rows.fnExactTruncateSeriesRow.holds Try.pinned (OpenSpec.ofChange Rows.fnExactTruncateSeriesSpec) :=
  OpenClaim.holds_of_wide 6 Try.f6 rfl rfl rfl rfl rfl rfl rfl ⟨rfl, rfl, rfl, rfl, rfl⟩ rfl rfl rfl rfl rfl (by kernel_rfl) Try.func6 (by kernel_rfl)
    (of_decide_eq_true (by kernel_rfl)) (by unfold Func.isWrapper; first | (rw [if_pos (by decide +kernel)]; kernel_rfl) | (rw [if_neg (by decide +kernel)]; exact ⟨rfl, rfl⟩))
    (fun os started H enc _ => lifted os started H enc)

theorem proved : Rows.FnExactTruncateSeriesSaid := over
end fnExactTruncateSeries
end Go.Proofs.Ytjciadbmpkkgdaa
