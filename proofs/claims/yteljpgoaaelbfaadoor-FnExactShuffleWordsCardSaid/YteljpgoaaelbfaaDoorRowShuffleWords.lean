/-
  'FnExactShuffleWords' returns true at every input: the program's ShuffleWords and its model's return the same series and code, in memory of its own. No condition.
-/
import Derived.Test.YteljpgoaaelbfaaDoorLawShuffleWords
import Derived.Test.YteljpgoaaelbfaaDoorShuZ
import Derived.Test.YteljpgoaaelbfaaDoorOpenR
import Derived.Test.YteljpgoaaelbfaaDoorDoor
namespace Go.Proofs.YteljpgoaaelbfaaDoor
open Go.ChangeShapes Go.WideShapes Go.ChangeAt Go.RowKit

open Go.ChangeMaps (open_string shut_string)
theorem main_ShuffleWords (L V : Int) (v : ByteArray) (hv : v.size ≤ maxLen) (u : ByteArray) (hu : u.size ≤ maxLen) (w : World) :
    Calls Tryd.prog 3 #[.int .i64 L, .int .i64 V, .string v, .string u] w fun e w' => e = .returned (.bool true) ∧ Below w.heap.size w w' := by
  have law := law_ShuffleWords L V v hv u hu w
  cases h1 : shapeB L V with
  | false => exact law 0 0 2 [] (by simp) (sShw_0 L V v u hv hu h1) (iShw_0 L V v u hv hu h1)
  | true =>
    have h5 := shape_out h1
    cases h2 : wordB L v.data.toList with
    | false => exact law 0 0 2 [] (by simp) (sShw_1 L V v u hv hu h1 h2) (iShw_1 L V v u hv hu h1 (by rw [h2]; simp))
    | true =>
      by_cases hlv : (v.size : Int) ≤ V
      · have i1 : (decide ((v.size : Int) ≤ V) && wordB L v.data.toList) = true := by rw [h2]; simpa using hlv
        cases h3 : wordB L u.data.toList with
        | false => exact law 0 0 2 [] (by simp) (sShw_2 L V v u hv hu h1 h2 h3) (iShw_2 L V v u hv hu h1 i1 (by rw [h3]; simp))
        | true =>
          by_cases hlw : (u.size : Int) ≤ V
          · have i2 : (decide ((u.size : Int) ≤ V) && wordB L u.data.toList) = true := by rw [h3]; simpa using hlw
            by_cases hsum : V < (v.size : Int) + (u.size : Int)
            · exact law L V 0 [] (by simp) (sShw_5 L V v u hv hu h1 h2 h3 hlv hlw hsum) (iShw_5 L V v u hv hu h1 i1 i2 hsum)
            · obtain ⟨D, rfl⟩ := Int.eq_ofNat_of_zero_le (show 0 ≤ L by omega)
              exact law D V 0 (shL D v u) (by have := shL_few (D := D) (v := v) (w := u) (by omega) (by omega); omega) (sShw_6 D V v u hv hu h1 h2 h3 (by omega)) (iShw_6 D V v u hv hu h1 h2 h3 (by omega))
          · have i2 : (decide ((u.size : Int) ≤ V) && wordB L u.data.toList) = false := by rw [h3]; simpa using hlw
            exact law 0 0 2 [] (by simp) (sShw_4 L V v u hv hu h1 h2 h3 hlv hlw) (iShw_2 L V v u hv hu h1 i1 i2)
      · have i1 : (decide ((v.size : Int) ≤ V) && wordB L v.data.toList) = false := by rw [h2]; simpa using hlv
        cases h3 : wordB L u.data.toList with
        | false => exact law 0 0 2 [] (by simp) (sShw_2 L V v u hv hu h1 h2 h3) (iShw_1 L V v u hv hu h1 i1)
        | true => exact law 0 0 2 [] (by simp) (sShw_3 L V v u hv hu h1 h2 h3 hlv) (iShw_1 L V v u hv hu h1 i1)

namespace fnExactShuffleWords
set_option maxRecDepth 100000 in
theorem lifted (os : Os) (started : os.Started) (H : Type) (enc : TypeId × Value → H) :
    ReturnsInHanded {} Tryd.checked os 3 .any (fun w args => (Rows.fnExactShuffleWordsSpec.pre enc Tryd.prog Tryd.f3 [] false w args ∧ laidMetH Tryd.prog Rows.fnExactShuffleWordsRow.laid w) ∧ sizedMet enc Tryd.prog Tryd.f3 (OpenSpec.ofChange Rows.fnExactShuffleWordsSpec) false w args)
      (Rows.fnExactShuffleWordsSpec.post enc Tryd.prog Tryd.f3 false true false false) := by
  refine returnsInHanded_of_change_and (C := Tryd.checked) (X := fun w _ => laidMetH Tryd.prog Rows.fnExactShuffleWordsRow.laid w) (fun _ _ _ hh h => h.of_heap hh) seatOwn started (by kernel_rfl) Tryd.func3
    (ChangeSpec.witness_shaped (enc := enc) (C := Tryd.checked) (os := os) (X := fun w _ => laidMetH Tryd.prog Rows.fnExactShuffleWordsRow.laid w) false (World.doorLaid Tryd.prog 400 os) #[.int .i64 0, .int .i64 0, .string ByteArray.empty, .string ByteArray.empty] 8 rfl (door_shaped os _) (by kernel_rfl) (by kernel_rfl) (by kernel_rfl) (door_met3 os _)) ?_
  intro W base args ds gs before hval0 hW _ _ _ _
  have hval : ∀ (j : Nat) t v, Tryd.f3.params[j]? = some t → args[j]? = some v → Value.okWide Tryd.prog W .any base t v := hval0
  have hW' := hW
  have hlt : ∀ x ∈ before, x.block < W.heap.size := fun x hx => hW.lt x hx
  obtain ⟨p, q, hA0, hV, rfl, _, _⟩ := hW
  have hA : DataW.TrodAll enc Tryd.prog W 0 (fun _ => true) true Tryd.f3.params.toList args.toList ds p := hA0
  rw [Tryd.params3] at hA hval
  obtain ⟨v0, vs0, d00, ds0, p0, q0, hargs, rfl, rfl, h0, r0⟩ := trodAll_cons hA
  obtain ⟨v1, vs1, d10, ds1, p1, q1, rfl, rfl, rfl, h1, r1⟩ := trodAll_cons r0
  obtain ⟨v2, vs2, d20, ds2, p2, q2, rfl, rfl, rfl, h2, r2⟩ := trodAll_cons r1
  obtain ⟨v3, vs3, d30, ds3, p3, q3, rfl, rfl, rfl, h3, r3⟩ := trodAll_cons r2
  obtain ⟨rfl, rfl, rfl⟩ := trodAll_nil r3
  obtain rfl : args = #[v0, v1, v2, v3] := by cases args; simp_all
  obtain ⟨rfl, rfl⟩ := trodVars_none hV
  obtain ⟨n0, rfl, rfl, rfl, wf0⟩ := open_int Tryd.underlying2 (hval 0 2 v0 rfl rfl) h0
  obtain ⟨n1, rfl, rfl, rfl, wf1⟩ := open_int Tryd.underlying2 (hval 1 2 v1 rfl rfl) h1
  obtain ⟨s2, rfl, rfl, rfl, wf2⟩ := open_string Tryd.underlying9 (hval 2 9 v2 rfl rfl) h2
  obtain ⟨s3, rfl, rfl, rfl, wf3⟩ := open_string Tryd.underlying9 (hval 3 9 v3 rfl rfl) h3
  clear hA0 hval0
  simp only [List.append_nil] at hW' hlt
  refine (main_ShuffleWords n0 n1 s2 wf2 s3 wf3 W ).mono fun e W' ⟨he, hg⟩ => ?_
  subst he
  exact ⟨_, rfl, shut_reads (pa := []) hW' (fun _ _ _ => (trodAll_cons_mk (shut_bool Tryd.underlying4 _) trodAll_mk0)) (trodAll_cons_mk (shut_int Tryd.underlying2 wf0) (trodAll_cons_mk (shut_int Tryd.underlying2 wf1) (trodAll_cons_mk (shut_string Tryd.underlying9 wf2) (trodAll_cons_mk (shut_string Tryd.underlying9 wf3) trodAll_mk0)))) (fun _ => rfl) hg⟩
end fnExactShuffleWords
end Go.Proofs.YteljpgoaaelbfaaDoor
