/-
  'FnExactLeftBracket' returns true at every input: the program's LeftBracket and its model's return the same series and code, in memory of its own. No condition.
-/
import Derived.Test.YtjjkkaikinjmdaaDoorLawLeftBracket
import Derived.Test.YtjjkkaikinjmdaaDoorBvD
import Derived.Test.YtjjkkaikinjmdaaDoorOpenR
import Derived.Test.YtjjkkaikinjmdaaDoorDoor
namespace Go.Proofs.YtjjkkaikinjmdaaDoor
open Go.ChangeShapes Go.WideShapes Go.ChangeAt Go.RowKit

open Go.ChangeMaps (open_string shut_string)
theorem main_LeftBracket (L V : Int) (s : ByteArray) (hs : s.size ≤ maxLen) (w : World) :
    Calls Tryd.prog 4 #[.int .i64 L, .int .i64 V, .string s] w fun e w' => e = .returned (.bool true) ∧ Below w.heap.size w w' := by
  by_cases h0 : codeW L V s = 0
  · have h1 := codeW_0 h0
    have h2 := shape_out h1.2.1
    obtain ⟨D, rfl⟩ := Int.eq_ofNat_of_zero_le (show 0 ≤ L by omega)
    obtain ⟨N, rfl⟩ := Int.eq_ofNat_of_zero_le (show 0 ≤ V by omega)
    cases hv : leftW (allW D N) s with
    | none => exact law_LeftBracket D N s hs w 0 0 3 [] (by simp) (fun W => by have h := sLeftBracket_3 D N s h0 W; rw [hv] at h; exact h) (fun W => by have h := iLeftBracket_3 D N s h0 W; rw [hv] at h; exact h)
    | some h => exact law_LeftBracket D N s hs w D N 0 (termsOf h (allW D N)) (by have := termsOf_len h (allW D N); have := allW_few (D := D) (by omega) (n := N) (by omega); omega) (fun W => by have h := sLeftBracket_3 D N s h0 W; rw [hv] at h; exact h) (fun W => by have h := iLeftBracket_3 D N s h0 W; rw [hv] at h; exact h)
  · exact law_LeftBracket L V s hs w 0 0 (codeW L V s) [] (by simp) (fun W => sLeftBracket_1 L V s hs _ rfl h0 W) (fun W => iLeftBracket_1 L V s hs _ rfl h0 W)

namespace fnExactLeftBracket
set_option maxRecDepth 100000 in
theorem lifted (os : Os) (started : os.Started) (H : Type) (enc : TypeId × Value → H) :
    ReturnsInHanded {} Tryd.checked os 4 .any (fun w args => (Rows.fnExactLeftBracketSpec.pre enc Tryd.prog Tryd.f4 [] false w args ∧ laidMetH Tryd.prog Rows.fnExactLeftBracketRow.laid w) ∧ sizedMet enc Tryd.prog Tryd.f4 (OpenSpec.ofChange Rows.fnExactLeftBracketSpec) false w args)
      (Rows.fnExactLeftBracketSpec.post enc Tryd.prog Tryd.f4 false true false false) := by
  refine returnsInHanded_of_change_and (C := Tryd.checked) (X := fun w _ => laidMetH Tryd.prog Rows.fnExactLeftBracketRow.laid w) (fun _ _ _ hh h => h.of_heap hh) seatOwn started (by kernel_rfl) Tryd.func4
    (ChangeSpec.witness_shaped (enc := enc) (C := Tryd.checked) (os := os) (X := fun w _ => laidMetH Tryd.prog Rows.fnExactLeftBracketRow.laid w) false (World.doorLaid Tryd.prog 400 os) #[.int .i64 0, .int .i64 0, .string ByteArray.empty] 8 rfl (door_shaped os _) (by kernel_rfl) (by kernel_rfl) (by kernel_rfl) (door_met3 os _)) ?_
  intro W base args ds gs before hval0 hW _ _ _ _
  have hval : ∀ (j : Nat) t v, Tryd.f4.params[j]? = some t → args[j]? = some v → Value.okWide Tryd.prog W .any base t v := hval0
  have hW' := hW
  have hlt : ∀ x ∈ before, x.block < W.heap.size := fun x hx => hW.lt x hx
  obtain ⟨p, q, hA0, hV, rfl, _, _⟩ := hW
  have hA : DataW.TrodAll enc Tryd.prog W 0 (fun _ => true) true Tryd.f4.params.toList args.toList ds p := hA0
  rw [Tryd.params4] at hA hval
  obtain ⟨v0, vs0, d00, ds0, p0, q0, hargs, rfl, rfl, h0, r0⟩ := trodAll_cons hA
  obtain ⟨v1, vs1, d10, ds1, p1, q1, rfl, rfl, rfl, h1, r1⟩ := trodAll_cons r0
  obtain ⟨v2, vs2, d20, ds2, p2, q2, rfl, rfl, rfl, h2, r2⟩ := trodAll_cons r1
  obtain ⟨rfl, rfl, rfl⟩ := trodAll_nil r2
  obtain rfl : args = #[v0, v1, v2] := by cases args; simp_all
  obtain ⟨rfl, rfl⟩ := trodVars_none hV
  obtain ⟨n0, rfl, rfl, rfl, wf0⟩ := open_int Tryd.underlying2 (hval 0 2 v0 rfl rfl) h0
  obtain ⟨n1, rfl, rfl, rfl, wf1⟩ := open_int Tryd.underlying2 (hval 1 2 v1 rfl rfl) h1
  obtain ⟨s2, rfl, rfl, rfl, wf2⟩ := open_string Tryd.underlying9 (hval 2 9 v2 rfl rfl) h2
  clear hA0 hval0
  simp only [List.append_nil] at hW' hlt
  refine (main_LeftBracket n0 n1 s2 wf2 W ).mono fun e W' ⟨he, hg⟩ => ?_
  subst he
  exact ⟨_, rfl, shut_reads (pa := []) hW' (fun _ _ _ => (trodAll_cons_mk (shut_bool Tryd.underlying4 _) trodAll_mk0)) (trodAll_cons_mk (shut_int Tryd.underlying2 wf0) (trodAll_cons_mk (shut_int Tryd.underlying2 wf1) (trodAll_cons_mk (shut_string Tryd.underlying9 wf2) trodAll_mk0))) (fun _ => rfl) hg⟩
end fnExactLeftBracket
end Go.Proofs.YtjjkkaikinjmdaaDoor
