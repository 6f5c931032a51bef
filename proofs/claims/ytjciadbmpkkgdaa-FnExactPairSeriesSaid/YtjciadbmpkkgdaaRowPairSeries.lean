/-
  'FnExactPairSeries' returns true at every input: the program's PairSeries and its model's return the same fraction and code, and both arguments read as before. No condition.
-/
import Derived.Test.YtjciadbmpkkgdaaLawPairSeries
import Derived.Test.YtjciadbmpkkgdaaPairT
import Derived.Test.YtjciadbmpkkgdaaOpen
namespace Go.Proofs.Ytjciadbmpkkgdaa
open Go.ChangeShapes Go.WideShapes Go.ChangeAt Go.RowKit
open Go.ChangeMaps (open_string shut_string)

theorem main_PairSeries (L1 V1 : Int) (a1 : Option Addr) (cap1 : Nat) (ts1 : List Tm) (hl1 : ts1.length ≤ maxLen) (hs1 : ∀ i (h : i < ts1.length), (ts1[i]).s.size ≤ maxLen) (L2 V2 : Int) (a2 : Option Addr) (cap2 : Nat) (ts2 : List Tm) (hl2 : ts2.length ≤ maxLen) (hs2 : ∀ i (h : i < ts2.length), (ts2[i]).s.size ≤ maxLen) (w : World) (hr1 : Row w a1 ts1) (hr2 : Row w a2 ts2) :
    Calls Try.prog 8 #[.agg #[.int .i64 L1, .int .i64 V1, .slice a1 ts1.length cap1], .agg #[.int .i64 L2, .int .i64 V2, .slice a2 ts2.length cap2]] w fun e w' => e = .returned (.bool true) ∧ Below w.heap.size w w' := by
  have law := law_PairSeries L1 V1 a1 cap1 ts1 hl1 hs1 L2 V2 a2 cap2 ts2 hl2 hs2 w hr1 hr2
  by_cases hc : codeL L1 V1 ts1 L2 V2 ts2 = 0
  · have h1 : serB L1 V1 ts1 = true := by
      cases h : serB L1 V1 ts1 with
      | true => rfl
      | false => rw [codeL_1 h] at hc; cases hc
    have h2 : serB L2 V2 ts2 = true := by
      cases h : serB L2 V2 ts2 with
      | true => rfl
      | false => rw [codeL_2 h] at hc; cases hc
    exact law _ (fun W g1 g2 q1 q2 b1 b2 t1 t2 => sPair_2 L1 V1 L2 V2 g1 g2 ts1 ts2 q1 q2 hs1 hs2 hc h1 h2 W b1 b2 t1 t2) (fun W g1 g2 q1 q2 b1 b2 t1 t2 => iPair_2 L1 V1 L2 V2 g1 g2 ts1 ts2 q1 q2 hs1 hs2 hc h1 h2 W b1 b2 t1 t2)
  · exact law _ (fun W g1 g2 q1 q2 b1 b2 t1 t2 => sPair_1 L1 V1 L2 V2 g1 g2 ts1 ts2 q1 q2 hs1 hs2 _ rfl hc W b1 b2 t1 t2) (fun W g1 g2 q1 q2 b1 b2 t1 t2 => iPair_1 L1 V1 L2 V2 g1 g2 ts1 ts2 q1 q2 hs1 hs2 _ rfl hc W b1 b2 t1 t2)

namespace fnExactPairSeries
set_option maxRecDepth 100000 in
theorem lifted (os : Os) (started : os.Started) (H : Type) (enc : TypeId × Value → H) :
    ReturnsInHanded {} Try.checked os 8 .any (Rows.fnExactPairSeriesSpec.pre6 enc Try.prog Try.f8 Rows.fnExactPairSeriesRow.domain false) (Rows.fnExactPairSeriesSpec.post enc Try.prog Try.f8 false true false false) := by
  refine returnsInHanded_of_change (C := Try.checked) seatOwn started (by kernel_rfl) Try.func8
    (ChangeSpec.witness6 (enc := enc) (C := Try.checked) false ⟨#[], #[.agg #[.int .i64 0, .int .i64 0, .slice none 0 0], .agg #[.int .i64 0, .int .i64 0, .slice none 0 0]], []⟩ 8 (by kernel_rfl) (by kernel_rfl) (by kernel_rfl) (by kernel_rfl)) ?_
  intro W base args ds gs before hval0 hW _ _
  have hval : ∀ (j : Nat) t v, Try.f8.params[j]? = some t → args[j]? = some v → Value.okWide Try.prog W .any base t v := hval0
  have hW' := hW
  have hlt : ∀ x ∈ before, x.block < W.heap.size := fun x hx => hW.lt x hx
  obtain ⟨p, q, hA0, hV, rfl, _, _⟩ := hW
  have hA : DataW.TrodAll enc Try.prog W 0 (fun _ => true) true Try.f8.params.toList args.toList ds p := hA0
  rw [Try.params8] at hA hval
  obtain ⟨v0, vs0, d00, ds0, p0, q0, hargs, rfl, rfl, h0, r0⟩ := trodAll_cons hA
  obtain ⟨v1, vs1, d10, ds1, p1, q1, rfl, rfl, rfl, h1, r1⟩ := trodAll_cons r0
  obtain ⟨rfl, rfl, rfl⟩ := trodAll_nil r1
  obtain rfl : args = #[v0, v1] := by cases args; simp_all
  obtain ⟨rfl, rfl⟩ := trodVars_none hV
  have h0k := h0
  obtain ⟨L0, V0, a0, cap0, ts0, rfl, hl0, hs0, hr0⟩ := open_series (hval 0 24 v0 rfl rfl) h0
  have h1k := h1
  obtain ⟨L1, V1, a1, cap1, ts1, rfl, hl1, hs1, hr1⟩ := open_series (hval 1 24 v1 rfl rfl) h1
  clear hA0 hval0
  simp only [List.append_nil] at hW' hlt
  refine (main_PairSeries L0 V0 a0 cap0 ts0 hl0 hs0 L1 V1 a1 cap1 ts1 hl1 hs1 W hr0 hr1).mono fun e W' ⟨he, hg⟩ => ?_
  subst he
  have hk0 := Below.trod seatLaid (by kernel_rfl) (of_decide_eq_true (by kernel_rfl)) h0k hg (fun x hx => hlt x (by simp [hx]))
  have hk1 := Below.trod seatLaid (by kernel_rfl) (of_decide_eq_true (by kernel_rfl)) h1k hg (fun x hx => hlt x (by simp [hx]))
  exact ⟨_, rfl, shut_reads (pa := p0 ++ p1) hW' (fun _ _ _ => (trodAll_cons_mk (shut_bool Try.underlying4 _) trodAll_mk0)) (by have h := (trodAll_cons_mk hk0 (trodAll_cons_mk hk1 trodAll_mk0)); simp only [List.append_nil] at h; exact h) (fun _ => rfl) hg⟩

theorem over : Rows.fnExactPairSeriesRow.holds Try.pinned (OpenSpec.ofChange Rows.fnExactPairSeriesSpec) :=
  OpenClaim.holds_of_wide 8 Try.f8 rfl rfl rfl rfl rfl rfl rfl ⟨rfl, rfl, rfl, rfl, rfl⟩ rfl rfl rfl rfl rfl (by kernel_rfl) Try.func8 (by kernel_rfl)
    (of_decide_eq_true (by kernel_rfl)) (by unfold Func.isWrapper; first | (rw [if_pos (by decide +kernel)]; kernel_rfl) | (rw [if_neg (by decide +kernel)]; exact ⟨rfl, rfl⟩))
    (fun os started H enc _ => lifted os started H enc)

theorem proved : Rows.FnExactPairSeriesSaid := over
end fnExactPairSeries
end Go.Proofs.Ytjciadbmpkkgdaa
