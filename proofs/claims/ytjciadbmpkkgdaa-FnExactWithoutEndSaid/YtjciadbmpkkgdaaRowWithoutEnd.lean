/-
  'FnExactWithoutEnd' returns true at every input: the program's WithoutEnd and its model's return the same series and code, in memory of its own, and the argument reads as before. No condition.
-/
import Derived.Test.YtjciadbmpkkgdaaLawWithoutEnd
import Derived.Test.YtjciadbmpkkgdaaWoI
namespace Go.Proofs.Ytjciadbmpkkgdaa
open Go.ChangeShapes Go.WideShapes Go.ChangeAt Go.RowKit
open Go.ChangeMaps (open_string shut_string)

theorem main_WithoutEnd (L V : Int) (a : Option Addr) (cap : Nat) (ts : List Tm) (hl : ts.length ≤ maxLen) (hs : ∀ i (h : i < ts.length), (ts[i]).s.size ≤ maxLen) (u : ByteArray) (hz : u.size ≤ maxLen) (w : World) (hr : Row w a ts) :
    Calls Try.prog 10 #[.agg #[.int .i64 L, .int .i64 V, .slice a ts.length cap], .string u] w fun e w' => e = .returned (.bool true) ∧ Below w.heap.size w w' := by
  have law := law_WithoutEnd L V a cap ts hl hs u hz w hr
  by_cases hbig : ts.length ≤ 1048576
  · by_cases hc : codeW L V ts u = 0
    · have h1 : serB L V ts = true := by
        cases h : serB L V ts with
        | true => rfl
        | false => unfold codeW at hc; rw [h] at hc; cases hc
      have hu : u.size ≤ 5 := by
        have hV := shape_out (show shapeB L V = true from by unfold serB at h1; rw [Bool.and_eq_true] at h1; exact h1.1)
        by_cases h : (u.size : Int) ≤ V
        · omega
        · unfold codeW at hc; rw [h1, decide_eq_false h] at hc; cases hc
      exact law L V 0 (pickL (cutE u) ts) (Nat.le_trans (pickL_length _ _) hbig) (fun W g q p t => scutE_ok L V g ts u hu h1 hc q hs W p t) (fun W g q p t => icutE_c L V g ts u W L V 0 (pickL (cutE u) ts) fun W' hB => iWo_ok L V g ts u hz q hs W' (by have := hB.size; omega) (t.below hB p) 69 (enters_of Try.func69 (by decide) rfl) (cutE u) (cutE_shrinks u) (cutE_as u) h1 hc)
    · exact law 0 0 (codeW L V ts u) [] (by simp) (fun W g q p t => scutE_err L V g ts u hz _ rfl hc q hs W p t) (fun W g q p t => icutE_c L V g ts u W 0 0 (codeW L V ts u) [] fun W' hB => iWo_err L V g ts u hz q hs W' (by have := hB.size; omega) (t.below hB p) 69 _ rfl hc)
  · exact law 0 0 0 [] (by simp) (fun W g h2 hb ht => absurd h2 hbig) (fun W g h2 hb ht => absurd h2 hbig)

namespace fnExactWithoutEnd
set_option maxRecDepth 100000 in
theorem lifted (os : Os) (started : os.Started) (H : Type) (enc : TypeId × Value → H) :
    ReturnsInHanded {} Try.checked os 10 .any (Rows.fnExactWithoutEndSpec.pre6 enc Try.prog Try.f10 Rows.fnExactWithoutEndRow.domain false) (Rows.fnExactWithoutEndSpec.post enc Try.prog Try.f10 false true false false) := by
  refine returnsInHanded_of_change (C := Try.checked) seatOwn started (by kernel_rfl) Try.func10
    (ChangeSpec.witness6 (enc := enc) (C := Try.checked) false ⟨#[], #[.agg #[.int .i64 0, .int .i64 0, .slice none 0 0], .string ByteArray.empty], []⟩ 8 (by kernel_rfl) (by kernel_rfl) (by kernel_rfl) (by kernel_rfl)) ?_
  intro W base args ds gs before hval0 hW _ _
  have hval : ∀ (j : Nat) t v, Try.f10.params[j]? = some t → args[j]? = some v → Value.okWide Try.prog W .any base t v := hval0
  have hW' := hW
  have hlt : ∀ x ∈ before, x.block < W.heap.size := fun x hx => hW.lt x hx
  obtain ⟨p, q, hA0, hV, rfl, _, _⟩ := hW
  have hA : DataW.TrodAll enc Try.prog W 0 (fun _ => true) true Try.f10.params.toList args.toList ds p := hA0
  rw [Try.params10] at hA hval
  obtain ⟨v0, vs0, d00, ds0, p0, q0, hargs, rfl, rfl, h0, r0⟩ := trodAll_cons hA
  obtain ⟨v1, vs1, d10, ds1, p1, q1, rfl, rfl, rfl, h1, r1⟩ := trodAll_cons r0
  obtain ⟨rfl, rfl, rfl⟩ := trodAll_nil r1
  obtain rfl : args = #[v0, v1] := by cases args; simp_all
  obtain ⟨rfl, rfl⟩ := trodVars_none hV
  have h0k := h0
  obtain ⟨L0, V0, a0, cap0, ts0, rfl, hl0, hs0, hr0⟩ := open_series (hval 0 24 v0 rfl rfl) h0
  obtain ⟨s1, rfl, rfl, rfl, wf1⟩ := open_string Try.underlying9 (hval 1 9 v1 rfl rfl) h1
  clear hA0 hval0
  simp only [List.append_nil] at hW' hlt
  refine (main_WithoutEnd L0 V0 a0 cap0 ts0 hl0 hs0 s1 wf1 W hr0).mono fun e W' ⟨he, hg⟩ => ?_
  subst he
  have hk0 := Below.trod seatLaid (by kernel_rfl) (of_decide_eq_true (by kernel_rfl)) h0k hg (fun x hx => hlt x (by simp [hx]))
  exact ⟨_, rfl, shut_reads (pa := p0) hW' (fun _ _ _ => (trodAll_cons_mk (shut_bool Try.underlying4 _) trodAll_mk0)) (by have h := (trodAll_cons_mk hk0 (trodAll_cons_mk (shut_string Try.underlying9 wf1) trodAll_mk0)); simp only [List.append_nil] at h; exact h) (fun _ => rfl) hg⟩

theorem over : Rows.fnExactWithoutEndRow.holds Try.pinned (OpenSpec.ofChange Rows.fnExactWithoutEndSpec) :=
  OpenClaim.holds_of_wide 10 Try.f10 rfl rfl rfl rfl rfl rfl rfl ⟨rfl, rfl, rfl, rfl, rfl⟩ rfl rfl rfl rfl rfl (by kernel_rfl) Try.func10 (by kernel_rfl)
    (of_decide_eq_true (by kernel_rfl)) (by unfold Func.isWrapper; first | (rw [if_pos (by decide +kernel)]; kernel_rfl) | (rw [if_neg (by decide +kernel)]; exact ⟨rfl, rfl⟩))
    (fun os started H enc _ => lifted os started H enc)

theorem proved : Rows.FnExactWithoutEndSaid := over
end fnExactWithoutEnd
end Go.Proofs.Ytjciadbmpkkgdaa
