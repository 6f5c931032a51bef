/-
  'FnExactValueAtShuffle' returns true at every input: the program's ValueAtShuffle and its model's return the same fraction and code, and the argument reads as before. No condition.
-/
import Derived.Test.YteljpgoaaelbfaaDoorLawValueAtShuffle
import Derived.Test.YteljpgoaaelbfaaDoorVaS
import Derived.Test.YteljpgoaaelbfaaDoorOpenR
import Derived.Test.YteljpgoaaelbfaaDoorDoor
namespace Go.Proofs.YteljpgoaaelbfaaDoor
open Go.ChangeShapes Go.WideShapes Go.ChangeAt Go.RowKit

open Go.ChangeMaps (open_string shut_string)
theorem main_ValueAtShuffle (L V : Int) (a : Option Addr) (cap : Nat) (ts : List Tm) (hl : ts.length ≤ maxLen) (hs : ∀ i (h : i < ts.length), (ts[i]).s.size ≤ maxLen) (v : ByteArray) (hv : v.size ≤ maxLen) (u : ByteArray) (hu : u.size ≤ maxLen) (w : World) (hr : Row w a ts) :
    Calls Tryd.prog 4 #[.agg #[.int .i64 L, .int .i64 V, .slice a ts.length cap], .string v, .string u] w fun e w' => e = .returned (.bool true) ∧ Below w.heap.size w w' := by
  have law := law_ValueAtShuffle L V a cap ts hl hs v hv u hu w hr
  cases h1 : serB L V ts with
  | false => exact law 0 0 1 (fun W g q qv qu hb ht => sVal_1 L V g ts q hs v u qv qu h1 W hb ht) (fun W g q qv qu hb ht => iVal_1 L V g ts q hs v u qv qu h1 W hb ht)
  | true =>
    have h5 := shape_out (show shapeB L V = true from by have h := h1; unfold serB at h; rw [Bool.and_eq_true] at h; exact h.1)
    cases h2 : wordB L v.data.toList with
    | false => exact law 0 0 2 (fun W g q qv qu hb ht => sVal_2 L V g ts q hs v u qv qu h1 h2 W hb ht) (fun W g q qv qu hb ht => iVal_2 L V g ts q hs v u qv qu h1 (by rw [h2]; simp) W hb ht)
    | true =>
      cases h3 : wordB L u.data.toList with
      | false =>
        refine law 0 0 2 (fun W g q qv qu hb ht => sVal_3 L V g ts q hs v u qv qu h1 h2 h3 W hb ht) (fun W g q qv qu hb ht => ?_)
        by_cases hlv : (v.size : Int) ≤ V
        · exact iVal_3 L V g ts q hs v u qv qu h1 (by rw [h2]; simpa using hlv) (by rw [h3]; simp) W hb ht
        · exact iVal_2 L V g ts q hs v u qv qu h1 (by rw [h2]; simpa using hlv) W hb ht
      | true =>
        by_cases hsum : V < (v.size : Int) + (u.size : Int)
        · refine law 0 0 2 (fun W g q qv qu hb ht => sVal_4 L V g ts q hs v u qv qu h1 h2 h3 hsum W hb ht) (fun W g q qv qu hb ht => ?_)
          by_cases hlv : (v.size : Int) ≤ V
          · by_cases hlu : (u.size : Int) ≤ V
            · exact iVal_4 L V g ts q hs v u qv qu h1 (by rw [h2]; simpa using hlv) (by rw [h3]; simpa using hlu) hsum W hb ht
            · exact iVal_3 L V g ts q hs v u qv qu h1 (by rw [h2]; simpa using hlv) (by rw [h3]; simpa using hlu) W hb ht
          · exact iVal_2 L V g ts q hs v u qv qu h1 (by rw [h2]; simpa using hlv) W hb ht
        · obtain ⟨D, rfl⟩ := Int.eq_ofNat_of_zero_le (show 0 ≤ L by omega)
          exact law _ _ _ (fun W g q qv qu hb ht => sVal_5 D V g ts q hs v u qv qu h1 h2 h3 (by omega) W hb ht) (fun W g q qv qu hb ht => iVal_5 D V g ts q hs v u qv qu h1 h2 h3 (by omega) W hb ht)

namespace fnExactValueAtShuffle
set_option maxRecDepth 100000 in
theorem lifted (os : Os) (started : os.Started) (H : Type) (enc : TypeId × Value → H) :
    ReturnsInHanded {} Tryd.checked os 4 .any (fun w args => (Rows.fnExactValueAtShuffleSpec.pre enc Tryd.prog Tryd.f4 [] false w args ∧ laidMetH Tryd.prog Rows.fnExactValueAtShuffleRow.laid w) ∧ sizedMet enc Tryd.prog Tryd.f4 (OpenSpec.ofChange Rows.fnExactValueAtShuffleSpec) false w args)
      (Rows.fnExactValueAtShuffleSpec.post enc Tryd.prog Tryd.f4 false true false false) := by
  refine returnsInHanded_of_change_and (C := Tryd.checked) (X := fun w _ => laidMetH Tryd.prog Rows.fnExactValueAtShuffleRow.laid w) (fun _ _ _ hh h => h.of_heap hh) seatOwn started (by kernel_rfl) Tryd.func4
    (ChangeSpec.witness_shaped (enc := enc) (C := Tryd.checked) (os := os) (X := fun w _ => laidMetH Tryd.prog Rows.fnExactValueAtShuffleRow.laid w) false (World.doorLaid Tryd.prog 400 os) #[.agg #[.int .i64 0, .int .i64 0, .slice none 0 0], .string ByteArray.empty, .string ByteArray.empty] 8 rfl (door_shaped os _) (by kernel_rfl) (by kernel_rfl) (by kernel_rfl) (door_met3 os _)) ?_
  intro W base args ds gs before hval0 hW _ _ _ _
  have hval : ∀ (j : Nat) t v, Tryd.f4.params[j]? = some t → args[j]? = some v → Value.okWide Tryd.prog W .any base t v := hval0
  have hW' := hW
  have hlt : ∀ x ∈ before, x.block < W.heap.size := fun x hx => hW.lt x hx
  obtain ⟨p, q, hA0, hV, rfl, _, _⟩ := hW
  have hA : DataW.TrodAll enc Tryd.prog W 0 (fun _ => true) true Tryd.f4.params.toList args.toList ds p := hA0
  rw [Tryd.params4] at hA hval
  obtain ⟨v0, vs0, d00, ds0, p0, q0, hargs, rfl, rfl, h0, r0⟩ := trodAll_cons hA
  obtain ⟨v1, vs1, d10, ds1, p1, q1, rfl, rfl, rfl, h1, r1⟩ := trodAll_cons r0
  obtain ⟨v2, vs2, d20, ds2, p2, q2, rfl, rfl, rfl, h2, r2⟩ := trodAll_cons r1
  obtain ⟨rfl, rfl, rfl⟩ := trodAll_nil r2
  obtain rfl : args = #[v0, v1, v2] := by cases args; simp_all
  obtain ⟨rfl, rfl⟩ := trodVars_none hV
  have h0k := h0
  obtain ⟨L0, V0, a0, cap0, ts0, rfl, hl0, hs0, hr0⟩ := open_series (hval 0 32 v0 rfl rfl) h0
  obtain ⟨s1, rfl, rfl, rfl, wf1⟩ := open_string Tryd.underlying9 (hval 1 9 v1 rfl rfl) h1
  obtain ⟨s2, rfl, rfl, rfl, wf2⟩ := open_string Tryd.underlying9 (hval 2 9 v2 rfl rfl) h2
  clear hA0 hval0
  simp only [List.append_nil] at hW' hlt
  refine (main_ValueAtShuffle L0 V0 a0 cap0 ts0 hl0 hs0 s1 wf1 s2 wf2 W hr0).mono fun e W' ⟨he, hg⟩ => ?_
  subst he
  have hk0 := Below.trod seatLaid (by kernel_rfl) (of_decide_eq_true (by kernel_rfl)) h0k hg (fun x hx => hlt x (by simp [hx]))
  exact ⟨_, rfl, shut_reads (pa := p0) hW' (fun _ _ _ => (trodAll_cons_mk (shut_bool Tryd.underlying4 _) trodAll_mk0)) (by have h := (trodAll_cons_mk hk0 (trodAll_cons_mk (shut_string Tryd.underlying9 wf1) (trodAll_cons_mk (shut_string Tryd.underlying9 wf2) trodAll_mk0))); simp only [List.append_nil] at h; exact h) (fun _ => rfl) hg⟩
end fnExactValueAtShuffle
end Go.Proofs.YteljpgoaaelbfaaDoor
