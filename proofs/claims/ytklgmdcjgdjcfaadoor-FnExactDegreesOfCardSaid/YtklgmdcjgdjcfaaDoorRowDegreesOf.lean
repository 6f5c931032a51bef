/-
  'FnExactDegreesOf' returns true at every input: the program's DegreesOf and its model's return the same lists and code, in memory of its own, and the argument reads as before. No condition.
-/
import Derived.Test.YtklgmdcjgdjcfaaDoorLawDegreesOf
import Derived.Test.YtklgmdcjgdjcfaaDoorDegS
import Derived.Test.YtklgmdcjgdjcfaaDoorFew
import Derived.Test.YtklgmdcjgdjcfaaDoorDoor
namespace Go.Proofs.YtklgmdcjgdjcfaaDoor
open Go.ChangeShapes Go.WideShapes Go.ChangeAt Go.RowKit
open Go.ChangeMaps (open_string shut_string)

theorem main_DegreesOf (L V : Int) (a : Option Addr) (cap : Nat) (ts : List Tm) (hl : ts.length ≤ maxLen) (hs : ∀ i (h : i < ts.length), (ts[i]).s.size ≤ maxLen) (w : World) (hr : Row w a ts) :
    Calls Tryd.prog 3 #[.agg #[.int .i64 L, .int .i64 V, .slice a ts.length cap]] w fun e w' => e = .returned (.bool true) ∧ Below w.heap.size w w' := by
  by_cases hbig : ts.length ≤ 1048576
  · cases h1 : serB L V ts with
    | false => exact law_DegreesOf L V a cap ts hl hs w hr [] 1 (by simp) (by simp [flat]) (fun W g h2 hb ht => sDeg_1 L V g ts W h1 h2 hs hb ht) (fun W g h2 hb ht => iDeg_1 L V g ts W h1 h2 hs hb ht)
    | true =>
      have hsh : shapeB L V = true := by unfold serB at h1; rw [Bool.and_eq_true] at h1; exact h1.1
      have hLV := shape_out hsh
      obtain ⟨D, rfl⟩ : ∃ D : Nat, L = D := ⟨L.toNat, by omega⟩
      have hD : 1 ≤ D ∧ D ≤ 3 := by omega
      have hfl : flat (degL D ts) ≤ 1048576 := by
        rw [flat_degL]
        have h3 : ts.length * D ≤ 1024 * 3 := Nat.mul_le_mul (ser_few h1) hD.2
        omega
      exact law_DegreesOf D V a cap ts hl hs w hr (degL D ts) 0 (by rw [degL_length]; exact hbig) hfl (fun W g h3 hb ht => sDeg_2 V g ts W D hD h1 h3 hs hb ht) (fun W g h3 hb ht => iDeg_2 V g ts W D hD h1 h3 hs hb ht)
  · exact law_DegreesOf L V a cap ts hl hs w hr [] 0 (by simp) (by simp [flat]) (fun W g h2 hb ht => absurd h2 hbig) (fun W g h2 hb ht => absurd h2 hbig)

namespace fnExactDegreesOf
set_option maxRecDepth 100000 in
theorem lifted (os : Os) (started : os.Started) (H : Type) (enc : TypeId × Value → H) :
    ReturnsInHanded {} Tryd.checked os 3 .any (fun w args => (Rows.fnExactDegreesOfSpec.pre enc Tryd.prog Tryd.f3 [] false w args ∧ laidMetH Tryd.prog Rows.fnExactDegreesOfRow.laid w) ∧ sizedMet enc Tryd.prog Tryd.f3 (OpenSpec.ofChange Rows.fnExactDegreesOfSpec) false w args)
      (Rows.fnExactDegreesOfSpec.post enc Tryd.prog Tryd.f3 false true false false) := by
  refine returnsInHanded_of_change_and (C := Tryd.checked) (X := fun w _ => laidMetH Tryd.prog Rows.fnExactDegreesOfRow.laid w) (fun _ _ _ hh h => h.of_heap hh) seatOwn started (by kernel_rfl) Tryd.func3
    (ChangeSpec.witness_shaped (enc := enc) (C := Tryd.checked) (os := os) (X := fun w _ => laidMetH Tryd.prog Rows.fnExactDegreesOfRow.laid w) false (World.doorLaid Tryd.prog 400 os) #[.agg #[.int .i64 0, .int .i64 0, .slice none 0 0]] 8 rfl (door_shaped os _) (by kernel_rfl) (by kernel_rfl) (by kernel_rfl) (door_met3 os _)) ?_
  intro W base args ds gs before hval0 hW _ _ _ _
  have hval : ∀ (j : Nat) t v, Tryd.f3.params[j]? = some t → args[j]? = some v → Value.okWide Tryd.prog W .any base t v := hval0
  have hW' := hW
  have hlt : ∀ x ∈ before, x.block < W.heap.size := fun x hx => hW.lt x hx
  obtain ⟨p, q, hA0, hV, rfl, _, _⟩ := hW
  have hA : DataW.TrodAll enc Tryd.prog W 0 (fun _ => true) true Tryd.f3.params.toList args.toList ds p := hA0
  rw [Tryd.params3] at hA hval
  obtain ⟨v0, vs0, d00, ds0, p0, q0, hargs, rfl, rfl, h0, r0⟩ := trodAll_cons hA
  obtain ⟨rfl, rfl, rfl⟩ := trodAll_nil r0
  obtain rfl : args = #[v0] := by cases args; simp_all
  obtain ⟨rfl, rfl⟩ := trodVars_none hV
  have h0k := h0
  obtain ⟨L0, V0, a0, cap0, ts0, rfl, hl0, hs0, hr0⟩ := open_series (hval 0 24 v0 rfl rfl) h0
  clear hA0 hval0
  simp only [List.append_nil] at hW' hlt
  refine (main_DegreesOf L0 V0 a0 cap0 ts0 hl0 hs0 W hr0).mono fun e W' ⟨he, hg⟩ => ?_
  subst he
  have hk0 := Below.trod seatLaid (by kernel_rfl) (of_decide_eq_true (by kernel_rfl)) h0k hg (fun x hx => hlt x (by simp [hx]))
  exact ⟨_, rfl, shut_reads (pa := p0) hW' (fun _ _ _ => (trodAll_cons_mk (shut_bool Tryd.underlying4 _) trodAll_mk0)) (by have h := (trodAll_cons_mk hk0 trodAll_mk0); simp only [List.append_nil] at h; exact h) (fun _ => rfl) hg⟩
end fnExactDegreesOf
end Go.Proofs.YtklgmdcjgdjcfaaDoor
