/-
  'FnExactScaleSeries' returns true at every input: the program's ScaleSeries and its model's return the same series and code, in memory of its own, and the arguments read as before. No condition.
-/
import Derived.Test.YtbhbcjaaomdlaaaLawScaleSeries
import Derived.Test.YtbhbcjaaomdlaaaScM
namespace Go.Proofs.Ytbhbcjaaomdlaaa
open Go.ChangeShapes Go.WideShapes Go.ChangeAt Go.RowKit
open Go.ChangeMaps (open_string shut_string)

theorem main_ScaleSeries (L V : Int) (a : Option Addr) (cap : Nat) (ts : List Tm) (hl : ts.length ≤ maxLen) (hs : ∀ i (h : i < ts.length), (ts[i]).s.size ≤ maxLen) (p q : Int) (w : World) (hr : Row w a ts) :
    Calls Try.prog 4 #[.agg #[.int .i64 L, .int .i64 V, .slice a ts.length cap], .agg #[.int .i64 p, .int .i64 q]] w fun e w' => e = .returned (.bool true) ∧ Below w.heap.size w w' := by
  have law := law_ScaleSeries L V a cap ts hl hs p q w hr
  cases h1 : serB L V ts with
  | false => exact law 0 0 1 [] (by simp) (fun W g hq hp t => sScale_1 L V p q g ts W h1 hq hs hp t) (fun W g hq hp t => iScale_1 L V p q g ts W h1 hq hs hp t)
  | true =>
    cases h2 : isF p q with
    | false => exact law 0 0 1 [] (by simp) (fun W g hq hp t => sScale_2 L V p q g ts W h1 h2 hq hs hp t) (fun W g hq hp t => iScale_2 L V p q g ts W h1 h2 hq hs hp t)
    | true =>
      have hF := ser_isF h1
      have hpq := isF_out h2
      by_cases hbig : ts.length ≤ 1048576
      · by_cases h0 : p = 0
        · subst h0
          have hk := keep_zero (ts := ts) hpq.1 hF
          refine law L V 0 [] (by simp) (fun W g hq hp t => sScale_4 L V 0 q g ts W [] h1 h2 (fun W _ _ => l01Scale_n L V q g 0 ts.length ts W) hq hs hp t) (fun W g hq hp t => ?_)
          have h := iScale_4 L V 0 q g ts W h1 h2 hF (zero_ok hpq.1 hF) hq hs hp t
          rw [hk] at h
          exact h
        · have hsc := fun W g hb ht => l01Scale_c L V p q (by omega) (by omega) h0 g 0 ts.length ts hbig (fun t ht => by have := isF_out (hF t ht); omega) hs W hb ht
          cases hok : okAll ts p q with
          | false =>
            have hn : scaleL p q ts = none := by unfold scaleL; rw [hok]; simp
            exact law 0 0 3 [] (by simp) (fun W g hq hp t => sScale_3 L V p q g ts W h1 h2 (fun W hb ht => by have h := hsc W g hb ht; rw [hn] at h; exact h) hq hs hp t) (fun W g hq hp t => iScale_3 L V p q g ts W h1 h2 hF hok hq hs hp t)
          | true =>
            have hn : scaleL p q ts = some (ts.map (mulT p q)) := by unfold scaleL; rw [hok]; simp
            have hk := keep_all h0 (ser_nn h1) hok
            refine law L V 0 (ts.map (mulT p q)) (by simp; omega) (fun W g hq hp t => sScale_4 L V p q g ts W _ h1 h2 (fun W hb ht => by have h := hsc W g hb ht; rw [hn] at h; exact h) hq hs hp t) (fun W g hq hp t => ?_)
            have h := iScale_4 L V p q g ts W h1 h2 hF hok hq hs hp t
            rw [hk] at h
            exact h
      · exact law 0 0 0 [] (by simp) (fun W g hq _ _ => absurd hq hbig) (fun W g hq _ _ => absurd hq hbig)

namespace fnExactScaleSeries
set_option maxRecDepth 100000 in
theorem lifted (os : Os) (started : os.Started) (H : Type) (enc : TypeId × Value → H) :
    ReturnsInHanded {} Try.checked os 4 .any (Rows.fnExactScaleSeriesSpec.pre6 enc Try.prog Try.f4 Rows.fnExactScaleSeriesRow.domain false) (Rows.fnExactScaleSeriesSpec.post enc Try.prog Try.f4 false true false false) := by
  refine returnsInHanded_of_change (C := Try.checked) seatOwn started (by kernel_rfl) Try.func4
    (ChangeSpec.witness6 (enc := enc) (C := Try.checked) false ⟨#[], #[.agg #[.int .i64 0, .int .i64 0, .slice none 0 0], .agg #[.int .i64 0, .int .i64 0]], []⟩ 8 (by kernel_rfl) (by kernel_rfl) (by kernel_rfl) (by kernel_rfl)) ?_
  intro W base args ds gs before hval0 hW _ _
  have hval : ∀ (j : Nat) t v, Try.f4.params[j]? = some t → args[j]? = some v → Value.okWide Try.prog W .any base t v := hval0
  have hW' := hW
  have hlt : ∀ x ∈ before, x.block < W.heap.size := fun x hx => hW.lt x hx
  obtain ⟨p, q, hA0, hV, rfl, _, _⟩ := hW
  have hA : DataW.TrodAll enc Try.prog W 0 (fun _ => true) true Try.f4.params.toList args.toList ds p := hA0
  rw [Try.params4] at hA hval
  obtain ⟨v0, vs0, d00, ds0, p0, q0, hargs, rfl, rfl, h0, r0⟩ := trodAll_cons hA
  obtain ⟨v1, vs1, d10, ds1, p1, q1, rfl, rfl, rfl, h1, r1⟩ := trodAll_cons r0
  obtain ⟨rfl, rfl, rfl⟩ := trodAll_nil r1
  obtain rfl : args = #[v0, v1] := by cases args; simp_all
  obtain ⟨rfl, rfl⟩ := trodVars_none hV
  have h0k := h0
  obtain ⟨L0, V0, a0, cap0, ts0, rfl, hl0, hs0, hr0⟩ := open_series (hval 0 24 v0 rfl rfl) h0
  obtain ⟨c1, e1, y1, z1, m1, rfl, rfl, rfl, hy1, hz1⟩ := Joins.open_agg2 Try.underlying36 (by kernel_rfl) lawsFraction_cells (hval 1 36 v1 rfl rfl) h1
  obtain ⟨n1, q01, rfl, wn1⟩ := DataW.trod_int Try.underlying2 hy1
  obtain ⟨d1, q11, rfl, wd1⟩ := DataW.trod_int Try.underlying2 hz1
  simp at q01 q11
  subst q01 q11
  clear hA0 hval0
  simp only [List.append_nil] at hW' hlt
  refine (main_ScaleSeries L0 V0 a0 cap0 ts0 hl0 hs0 n1 d1 W hr0).mono fun e W' ⟨he, hg⟩ => ?_
  subst he
  have hk0 := Below.trod seatLaid (by kernel_rfl) (of_decide_eq_true (by kernel_rfl)) h0k hg (fun x hx => hlt x (by simp [hx]))
  exact ⟨_, rfl, shut_reads (pa := p0) hW' (fun _ _ _ => (trodAll_cons_mk (shut_bool Try.underlying4 _) trodAll_mk0)) (by have h := (trodAll_cons_mk hk0 (trodAll_cons_mk (shut_frac wn1 wd1 _ _ _ _) trodAll_mk0)); simp only [List.append_nil] at h; exact h) (fun _ => rfl) hg⟩

theorem over : Rows.fnExactScaleSeriesRow.holds Try.pinned (OpenSpec.ofChange Rows.fnExactScaleSeriesSpec) :=
  OpenClaim.holds_of_wide 4 Try.f4 rfl rfl rfl rfl rfl rfl rfl ⟨rfl, rfl, rfl, rfl, rfl⟩ rfl rfl rfl rfl rfl (by kernel_rfl) Try.func4 (by kernel_rfl)
    (of_decide_eq_true (by kernel_rfl)) (by unfold Func.isWrapper; first | (rw [if_pos (by decide +kernel)]; kernel_rfl) | (rw [if_neg (by decide +kernel)]; exact ⟨rfl, rfl⟩))
    (fun os started H enc _ => lifted os started H enc)

theorem proved : Rows.FnExactScaleSeriesSaid := over
end fnExactScaleSeries
end Go.Proofs.Ytbhbcjaaomdlaaa
