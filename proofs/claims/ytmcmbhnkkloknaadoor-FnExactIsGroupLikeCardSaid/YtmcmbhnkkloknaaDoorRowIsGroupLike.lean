/-
  'FnExactIsGroupLike' returns true at every input: the program's IsGroupLike and its model's return the same answer and code, and the argument reads as before. No condition.
-/
import Derived.Test.YtmcmbhnkkloknaaDoorLawIsGroupLike
import Derived.Test.YtmcmbhnkkloknaaDoorHsG
import Derived.Test.YtmcmbhnkkloknaaDoorOpenR
import Derived.Test.YtmcmbhnkkloknaaDoorDoor
namespace Go.Proofs.YtmcmbhnkkloknaaDoor
open Go.ChangeShapes Go.WideShapes Go.ChangeAt Go.RowKit

theorem main_IsGroupLike (L V : Int) (a : Option Addr) (cap : Nat) (ts : List Tm) (hl : ts.length ≤ maxLen) (hs : ∀ i (h : i < ts.length), (ts[i]).s.size ≤ maxLen) (w : World) (hr : Row w a ts) :
    Calls Tryd.prog 3 #[.agg #[.int .i64 L, .int .i64 V, .slice a ts.length cap]] w fun e w' => e = .returned (.bool true) ∧ Below w.heap.size w w' := by
  have law := law_IsGroupLike L V a cap ts hl hs w hr
  cases h1 : serB L V ts with
  | false => exact law false 1 (fun W g q hb ht => sGrl_1 L V g ts q hs W hb ht h1) (fun W g q hb ht => iGrl_1 L V g ts q hs W hb ht h1)
  | true =>
    have h5 := shape_out (show shapeB L V = true from by have h := h1; unfold serB at h; rw [Bool.and_eq_true] at h; exact h.1)
    by_cases h2 : (valL [] ts).1 = 1 ∧ (valL [] ts).2 = 1
    · obtain ⟨D, rfl⟩ : ∃ D : Nat, L = D := ⟨L.toNat, by omega⟩
      obtain ⟨N, rfl⟩ : ∃ N : Nat, V = N := ⟨V.toNat, by omega⟩
      have hm : N - 1 + 1 = N := by omega
      exact law _ _ (fun W g q hb ht => sGrl_3 D N (N - 1) hm g ts q hs W hb ht h1 h2) (fun W g q hb ht => iGrl_3 D N (N - 1) hm g ts q hs W hb ht h1 h2)
    · exact law false 0 (fun W g q hb ht => sGrl_2 L V g ts q hs W hb ht h1 h2) (fun W g q hb ht => iGrl_2 L V g ts q hs W hb ht h1 h2)

namespace fnExactIsGroupLike
set_option maxRecDepth 100000 in
theorem lifted (os : Os) (started : os.Started) (H : Type) (enc : TypeId × Value → H) :
    ReturnsInHanded {} Tryd.checked os 3 .any (fun w args => (Rows.fnExactIsGroupLikeSpec.pre enc Tryd.prog Tryd.f3 [] false w args ∧ laidMetH Tryd.prog Rows.fnExactIsGroupLikeRow.laid w) ∧ sizedMet enc Tryd.prog Tryd.f3 (OpenSpec.ofChange Rows.fnExactIsGroupLikeSpec) false w args)
      (Rows.fnExactIsGroupLikeSpec.post enc Tryd.prog Tryd.f3 false true false false) := by
  refine returnsInHanded_of_change_and (C := Tryd.checked) (X := fun w _ => laidMetH Tryd.prog Rows.fnExactIsGroupLikeRow.laid w) (fun _ _ _ hh h => h.of_heap hh) seatOwn started (by kernel_rfl) Tryd.func3
    (ChangeSpec.witness_shaped (enc := enc) (C := Tryd.checked) (os := os) (X := fun w _ => laidMetH Tryd.prog Rows.fnExactIsGroupLikeRow.laid w) false (World.doorLaid Tryd.prog 400 os) #[.agg #[.int .i64 0, .int .i64 0, .slice none 0 0]] 8 rfl (door_shaped os _) (by kernel_rfl) (by kernel_rfl) (by kernel_rfl) (door_met3 os _)) ?_
  intro W base args ds gs before hval0 hW _ _ _ _
  have hval : ∀ (j : Nat) t v, Tryd.f3.params[j]? = some t → args[j]? = some v → Value.okWide Tryd.prog W .any base t v := hval0
  have hW' := hW
  have hlt : ∀ x ∈ before, x.block < W.heap.size := fun x hx => hW.lt x hx
  obtain ⟨p, q, hA0, hV, rfl, _, _⟩ := hW
  have hA : DataW.TrodAll enc Tryd.prog W 0 (fun _ => true) true Tryd.f3.params.toList args.toList ds p := hA0
  rw [Tryd.params3] at hA hval
  obtain ⟨v0, vs0, d00, ds0, p0, q0, hargs, rfl, rfl, h0, r0⟩ := trodAll_cons hA
  obtain ⟨rfl, rfl, rfl⟩ := trodAll_nil r0
  obtain rfl : args = #[v0] := by cases args; simp_all
  obtain ⟨rfl, rfl⟩ := trodVars_none hV
  have h0k := h0
  obtain ⟨L0, V0, a0, cap0, ts0, rfl, hl0, hs0, hr0⟩ := open_series (hval 0 24 v0 rfl rfl) h0
  clear hA0 hval0
  simp only [List.append_nil] at hW' hlt
  refine (main_IsGroupLike L0 V0 a0 cap0 ts0 hl0 hs0 W hr0).mono fun e W' ⟨he, hg⟩ => ?_
  subst he
  have hk0 := Below.trod seatLaid (by kernel_rfl) (of_decide_eq_true (by kernel_rfl)) h0k hg (fun x hx => hlt x (by simp [hx]))
  exact ⟨_, rfl, shut_reads (pa := p0) hW' (fun _ _ _ => (trodAll_cons_mk (shut_bool Tryd.underlying4 _) trodAll_mk0)) (by have h := (trodAll_cons_mk hk0 trodAll_mk0); simp only [List.append_nil] at h; exact h) (fun _ => rfl) hg⟩
end fnExactIsGroupLike
end Go.Proofs.YtmcmbhnkkloknaaDoor
