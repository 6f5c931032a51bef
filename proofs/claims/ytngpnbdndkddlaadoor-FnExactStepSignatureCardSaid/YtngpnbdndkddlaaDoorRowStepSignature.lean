/-
  'FnExactStepSignature' returns true at every input: the program's StepSignature and its model's return the same series and code, in memory of its own, and the step reads as before. No condition.
-/
import Derived.Test.YtngpnbdndkddlaaDoorLawStepSignature
import Derived.Test.YtngpnbdndkddlaaDoorStpS
import Derived.Test.YtngpnbdndkddlaaDoorOpenR
import Derived.Test.YtngpnbdndkddlaaDoorDoor
namespace Go.Proofs.YtngpnbdndkddlaaDoor
open Go.ChangeShapes Go.WideShapes Go.ChangeAt Go.RowKit

theorem main_StepSignature (n0 n1 : Int) (a : Option Addr) (cap : Nat) (zs : List Int) (hl : zs.length ≤ maxLen) (w : World) (hr : IRow 0 w.heap.size w a zs) :
    Calls Tryd.prog 3 #[.int .i64 n0, .int .i64 n1, .slice a zs.length cap] w fun e w' => e = .returned (.bool true) ∧ Below w.heap.size w w' := by
  have law := law_StepSignature n0 n1 a cap zs hl w hr
  by_cases hc : codeP n0 n1 [zs] = 0
  · have hp : pathB n0 [zs] = true := by
      cases h : pathB n0 [zs] with
      | true => rfl
      | false => rw [codeP_1 h] at hc; cases hc
    have hsh : shapeB n0 n1 = true := by
      cases h : shapeB n0 n1 with
      | true => rfl
      | false => rw [codeP_2 hp h] at hc; cases hc
    have hLV := shape_out hsh
    obtain ⟨D, rfl⟩ : ∃ D : Nat, n0 = D := ⟨n0.toNat, by omega⟩
    obtain ⟨N, rfl⟩ : ∃ N : Nat, n1 = N := ⟨n1.toNat, by omega⟩
    have hfew := allW_few (D := D) (by omega) (n := N) (by omega)
    cases hv : expV (stepV zs) (allW D N) N with
    | none => exact law 0 0 3 [] (by simp) (fun W b k q1 hr => sStp_no D N (by omega) (by omega) _ _ b k zs q1 hp hc hv W hr (Nat.le_refl _)) (fun W b k q1 hr => iStp_no D N (by omega) (by omega) _ _ b k zs q1 hp hc hv W hr (Nat.le_refl _))
    | some h =>
      have hlen := termsOf_len h (allW D N)
      exact law D N 0 (termsOf h (allW D N)) (by omega) (fun W b k q1 hr => sStp_yes D N (by omega) (by omega) _ _ b k zs q1 hp hc h hv W hr (Nat.le_refl _)) (fun W b k q1 hr => iStp_yes D N (by omega) (by omega) _ _ b k zs q1 hp hc h hv W hr (Nat.le_refl _))
  · exact law 0 0 _ [] (by simp) (fun W b k q1 hr => sStp_1 n0 n1 _ _ b k zs q1 _ rfl hc W hr (Nat.le_refl _)) (fun W b k q1 hr => iStp_1 n0 n1 _ _ b k zs q1 _ rfl hc W hr (Nat.le_refl _))

namespace fnExactStepSignature
set_option maxRecDepth 100000 in
theorem lifted (os : Os) (started : os.Started) (H : Type) (enc : TypeId × Value → H) :
    ReturnsInHanded {} Tryd.checked os 3 .any (fun w args => (Rows.fnExactStepSignatureSpec.pre enc Tryd.prog Tryd.f3 [] false w args ∧ laidMetH Tryd.prog Rows.fnExactStepSignatureRow.laid w) ∧ sizedMet enc Tryd.prog Tryd.f3 (OpenSpec.ofChange Rows.fnExactStepSignatureSpec) false w args)
      (Rows.fnExactStepSignatureSpec.post enc Tryd.prog Tryd.f3 false true false false) := by
  refine returnsInHanded_of_change_and (C := Tryd.checked) (X := fun w _ => laidMetH Tryd.prog Rows.fnExactStepSignatureRow.laid w) (fun _ _ _ hh h => h.of_heap hh) seatOwn started (by kernel_rfl) Tryd.func3
    (ChangeSpec.witness_shaped (enc := enc) (C := Tryd.checked) (os := os) (X := fun w _ => laidMetH Tryd.prog Rows.fnExactStepSignatureRow.laid w) false (World.doorLaid Tryd.prog 400 os) #[.int .i64 0, .int .i64 0, .slice none 0 0] 8 rfl (door_shaped os _) (by kernel_rfl) (by kernel_rfl) (by kernel_rfl) (door_met3 os _)) ?_
  intro W base args ds gs before hval0 hW _ _ _ _
  have hval : ∀ (j : Nat) t v, Tryd.f3.params[j]? = some t → args[j]? = some v → Value.okWide Tryd.prog W .any base t v := hval0
  have hW' := hW
  have hlt : ∀ x ∈ before, x.block < W.heap.size := fun x hx => hW.lt x hx
  obtain ⟨p, q, hA0, hV, rfl, _, _⟩ := hW
  have hA : DataW.TrodAll enc Tryd.prog W 0 (fun _ => true) true Tryd.f3.params.toList args.toList ds p := hA0
  rw [Tryd.params3] at hA hval
  obtain ⟨v0, vs0, d00, ds0, p0, q0, hargs, rfl, rfl, h0, r0⟩ := trodAll_cons hA
  obtain ⟨v1, vs1, d10, ds1, p1, q1, rfl, rfl, rfl, h1, r1⟩ := trodAll_cons r0
  obtain ⟨v2, vs2, d20, ds2, p2, q2, rfl, rfl, rfl, h2, r2⟩ := trodAll_cons r1
  obtain ⟨rfl, rfl, rfl⟩ := trodAll_nil r2
  obtain rfl : args = #[v0, v1, v2] := by cases args; simp_all
  obtain ⟨rfl, rfl⟩ := trodVars_none hV
  obtain ⟨n0, rfl, rfl, rfl, wf0⟩ := open_int Tryd.underlying2 (hval 0 2 v0 rfl rfl) h0
  obtain ⟨n1, rfl, rfl, rfl, wf1⟩ := open_int Tryd.underlying2 (hval 1 2 v1 rfl rfl) h1
  have h2k := h2
  obtain ⟨a2, cap2, ps2, rfl, hl2, hr2⟩ := open_row (hval 2 22 v2 rfl rfl) h2
  clear hA0 hval0
  simp only [List.append_nil, List.nil_append] at hW' hlt
  refine (main_StepSignature n0 n1 a2 cap2 ps2 hl2 W hr2).mono fun e W' ⟨he, hg⟩ => ?_
  subst he
  have hk2 := Below.trod seatLaid (by kernel_rfl) (of_decide_eq_true (by kernel_rfl)) h2k hg (fun x hx => hlt x (by simp [hx]))
  exact ⟨_, rfl, shut_reads (pa := p2) hW' (fun _ _ _ => (trodAll_cons_mk (shut_bool Tryd.underlying4 _) trodAll_mk0)) (by have h := (trodAll_cons_mk (shut_int Tryd.underlying2 wf0) (trodAll_cons_mk (shut_int Tryd.underlying2 wf1) (trodAll_cons_mk hk2 trodAll_mk0))); simp only [List.append_nil, List.nil_append] at h; exact h) (fun _ => rfl) hg⟩
end fnExactStepSignature
end Go.Proofs.YtngpnbdndkddlaaDoor
