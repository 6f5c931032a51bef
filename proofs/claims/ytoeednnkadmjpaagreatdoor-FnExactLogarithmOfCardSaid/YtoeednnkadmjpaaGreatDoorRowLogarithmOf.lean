/-
  'FnExactLogarithmOf' returns true at every input: the program's LogarithmOf and its model's return the same series and code, in memory of its own, and the argument reads as before. No condition.
-/
import Derived.Test.YtoeednnkadmjpaaGreatDoorLawLogarithmOf
import Derived.Test.YtoeednnkadmjpaaGreatDoorLogSer
import Derived.Test.YtoeednnkadmjpaaGreatDoorDoor
namespace Go.Proofs.YtoeednnkadmjpaaGreatDoor
open Go.ChangeShapes Go.WideShapes Go.ChangeAt Go.RowKit
open Go.ChangeMaps (open_string shut_string)

theorem main_LogarithmOf (L V : Int) (a : Option Addr) (cap : Nat) (ts : List Tm) (hl : ts.length ≤ maxLen) (hs : ∀ i (h : i < ts.length), (ts[i]).s.size ≤ maxLen) (w : World) (hr : Row w a ts) :
    Calls Tryz.prog 5 #[.agg #[.int .i64 L, .int .i64 V, .slice a ts.length cap]] w fun e w' => e = .returned (.bool true) ∧ Below w.heap.size w w' := by
  have law := law_LogarithmOf L V a cap ts hl hs w hr
  by_cases hbig : ts.length ≤ 1048576
  · cases h1 : serB L V ts with
    | false => exact law 0 0 1 [] (by simp) (fun W g q hb ht => sLog_1 L V g ts q hs h1 W hb ht) (fun W g q hb ht => iLog_1 L V g ts q hs h1 W hb ht)
    | true =>
      have hsh : shapeB L V = true := by unfold serB at h1; rw [Bool.and_eq_true] at h1; exact h1.1
      have hLV := shape_out hsh
      obtain ⟨D, rfl⟩ : ∃ D : Nat, L = D := ⟨L.toNat, by omega⟩
      obtain ⟨N, rfl⟩ : ∃ N : Nat, V = N := ⟨V.toNat, by omega⟩
      obtain ⟨p, q, hpq⟩ : ∃ p q, valL [] ts = (p, q) := ⟨(valL [] ts).1, (valL [] ts).2, rfl⟩
      by_cases hp1 : p = 1
      · by_cases hq1 : q = 1
        · have hp : p = 1 ∧ q = 1 := ⟨hp1, hq1⟩
          have hfew := allW_few (D := D) (by omega) (n := N) (by omega)
          have HS := fun W g q1 hb ht => sLog_3 D N p q g ts q1 hs h1 hpq hp W hb ht
          cases hv : logV (valV ts ts.length) (allW D N) N with
          | none =>
            rw [hv] at HS
            exact law 0 0 3 [] (by simp) (fun W g q1 hb ht => HS W g q1 hb ht) (fun W g q1 hb ht => iLog_3no D N p q g ts q1 hs h1 hpq hp hv W hb ht)
          | some h =>
            rw [hv] at HS
            have hlen := termsOf_len h (allW D N)
            exact law D N 0 (termsOf h (allW D N)) (by omega) (fun W g q1 hb ht => HS W g q1 hb ht) (fun W g q1 hb ht => iLog_3yes D N p q g ts q1 hs h1 hpq hp h hv W hb ht)
        · exact law 0 0 5 [] (by simp) (fun W g q1 hb ht => sLog_2b D N p q g ts q1 hs h1 hpq ⟨hp1, hq1⟩ W hb ht) (fun W g q1 hb ht => iLog_2b D N p q g ts q1 hs h1 hpq ⟨hp1, hq1⟩ W hb ht)
      · exact law 0 0 5 [] (by simp) (fun W g q1 hb ht => sLog_2a D N p q g ts q1 hs h1 hpq hp1 W hb ht) (fun W g q1 hb ht => iLog_2a D N p q g ts q1 hs h1 hpq hp1 W hb ht)
  · exact law 0 0 0 [] (by simp) (fun W g q _ _ => absurd q hbig) (fun W g q _ _ => absurd q hbig)

namespace fnExactLogarithmOf
set_option maxRecDepth 100000 in
theorem lifted (os : Os) (started : os.Started) (H : Type) (enc : TypeId × Value → H) :
    ReturnsInHanded {} Tryz.checked os 5 .any (fun w args => (Rows.fnExactLogarithmOfSpec.pre enc Tryz.prog Tryz.f5 [] false w args ∧ laidMetH Tryz.prog Rows.fnExactLogarithmOfRow.laid w) ∧ sizedMet enc Tryz.prog Tryz.f5 (OpenSpec.ofChange Rows.fnExactLogarithmOfSpec) false w args)
      (Rows.fnExactLogarithmOfSpec.post enc Tryz.prog Tryz.f5 false true false false) := by
  refine returnsInHanded_of_change_and (C := Tryz.checked) (X := fun w _ => laidMetH Tryz.prog Rows.fnExactLogarithmOfRow.laid w) (fun _ _ _ hh h => h.of_heap hh) seatOwn started (by kernel_rfl) Tryz.func5
    (ChangeSpec.witness_shaped (enc := enc) (C := Tryz.checked) (os := os) (X := fun w _ => laidMetH Tryz.prog Rows.fnExactLogarithmOfRow.laid w) false (World.doorLaid Tryz.prog 400 os) #[.agg #[.int .i64 0, .int .i64 0, .slice none 0 0]] 8 rfl (door_shaped os _) (by kernel_rfl) (by kernel_rfl) (by kernel_rfl) (door_met3 os _)) ?_
  intro W base args ds gs before hval0 hW _ _ _ _
  have hval : ∀ (j : Nat) t v, Tryz.f5.params[j]? = some t → args[j]? = some v → Value.okWide Tryz.prog W .any base t v := hval0
  have hW' := hW
  have hlt : ∀ x ∈ before, x.block < W.heap.size := fun x hx => hW.lt x hx
  obtain ⟨p, q, hA0, hV, rfl, _, _⟩ := hW
  have hA : DataW.TrodAll enc Tryz.prog W 0 (fun _ => true) true Tryz.f5.params.toList args.toList ds p := hA0
  rw [Tryz.params5] at hA hval
  obtain ⟨v0, vs0, d00, ds0, p0, q0, hargs, rfl, rfl, h0, r0⟩ := trodAll_cons hA
  obtain ⟨rfl, rfl, rfl⟩ := trodAll_nil r0
  obtain rfl : args = #[v0] := by cases args; simp_all
  obtain ⟨rfl, rfl⟩ := trodVars_none hV
  have h0k := h0
  obtain ⟨L0, V0, a0, cap0, ts0, rfl, hl0, hs0, hr0⟩ := open_series (hval 0 24 v0 rfl rfl) h0
  clear hA0 hval0
  simp only [List.append_nil] at hW' hlt
  refine (main_LogarithmOf L0 V0 a0 cap0 ts0 hl0 hs0 W hr0).mono fun e W' ⟨he, hg⟩ => ?_
  subst he
  have hk0 := Below.trod seatLaid (by kernel_rfl) (of_decide_eq_true (by kernel_rfl)) h0k hg (fun x hx => hlt x (by simp [hx]))
  exact ⟨_, rfl, shut_reads (pa := p0) hW' (fun _ _ _ => (trodAll_cons_mk (shut_bool Tryz.underlying4 _) trodAll_mk0)) (by have h := (trodAll_cons_mk hk0 trodAll_mk0); simp only [List.append_nil] at h; exact h) (fun _ => rfl) hg⟩
end fnExactLogarithmOf
end Go.Proofs.YtoeednnkadmjpaaGreatDoor
