/-
  'FnExactParseGroup' returns true at every input: the program's ParseGroup and its model's agree in every field, and the result lies in memory of its own. No condition.
-/
import Derived.Test.YtnhiceopgjfaaaaOpen
import Derived.Test.YtnhiceopgjfaaaaLawParseGroup
import Derived.Test.YtnhiceopgjfaaaaPGx
import Derived.ChangeMaps5
namespace Go.Proofs.Ytnhiceopgjfaaaa
open Go.ChangeShapes Go.WideShapes Go.ChangeAt Go.RowKit
open Go.ChangeMaps (open_string shut_string)

theorem main_ParseGroup (n0 : Int) (s1 : ByteArray) (hz1 : s1.size ≤ maxLen) (w : World) :
    Calls Try.prog 12 #[.int .i64 n0, .string s1] w fun e w' => e = .returned (.bool true) ∧ Below w.heap.size w w' := by
  by_cases hb : s1.size ≤ 1048576
  · have law := law_ParseGroup n0 s1 hz1 w
    cases h : inB n0 1 3 with
    | false => exact law [] 2 (by simp) (fun W => sParseGroup_1 n0 s1 W h) (fun W => iParseGroup_1 n0 s1 W h)
    | true =>
      cases hg : grpB n0 (numsG s1 s1.size) with
      | true =>
        have hp : ParT n0 s1 (numsG s1 s1.size) 0 := ⟨fun _ => ⟨rfl, rfl⟩, fun h => by rw [hg] at h; cases h⟩
        exact law (numsG s1 s1.size) 0 (by rw [numsG_length s1 s1.size (Nat.le_refl _)]; exact hb) (fun W => sParseGroup_2 n0 s1 hb W h _ _ hp) (fun W => iParseGroup_2 n0 s1 hb W h _ _ hp)
      | false =>
        have hp : ParT n0 s1 [] 6 := ⟨fun h => (by rw [hg] at h; cases h), fun _ => ⟨rfl, rfl⟩⟩
        exact law [] 6 (by simp) (fun W => sParseGroup_2 n0 s1 hb W h _ _ hp) (fun W => iParseGroup_2 n0 s1 hb W h _ _ hp)
  · have hbig : (1048576 : Int) < (s1.size : Int) := by omega
    go_enter Try.func12, Try.ntmps12
    go_wp2
    go_ret
    exact ⟨rfl, Below.refl _ _⟩

namespace fnExactParseGroup
set_option maxRecDepth 100000 in
theorem lifted (os : Os) (started : os.Started) (H : Type) (enc : TypeId × Value → H) :
    ReturnsInHanded {} Try.checked os 12 .any (Rows.fnExactParseGroupSpec.pre6 enc Try.prog Try.f12 Rows.fnExactParseGroupRow.domain false) (Rows.fnExactParseGroupSpec.post enc Try.prog Try.f12 false true false false) := by
  refine returnsInHanded_of_change (C := Try.checked) seatOwn started (by kernel_rfl) Try.func12
    (ChangeSpec.witness6 (enc := enc) (C := Try.checked) false ⟨#[], #[.int .i64 0, .string ByteArray.empty], []⟩ 8 (by kernel_rfl) (by kernel_rfl) (by kernel_rfl) (by kernel_rfl)) ?_
  intro W base args ds gs before hval0 hW _ _
  have hval : ∀ (j : Nat) t v, Try.f12.params[j]? = some t → args[j]? = some v → Value.okWide Try.prog W .any base t v := hval0
  have hW' := hW
  have hlt : ∀ x ∈ before, x.block < W.heap.size := fun x hx => hW.lt x hx
  obtain ⟨p, q, hA0, hV, rfl, _, _⟩ := hW
  have hA : DataW.TrodAll enc Try.prog W 0 (fun _ => true) true Try.f12.params.toList args.toList ds p := hA0
  rw [Try.params12] at hA hval
  obtain ⟨v0, vs0, d00, ds0, p0, q0, hargs, rfl, rfl, h0, r0⟩ := trodAll_cons hA
  obtain ⟨v1, vs1, d10, ds1, p1, q1, rfl, rfl, rfl, h1, r1⟩ := trodAll_cons r0
  obtain ⟨rfl, rfl, rfl⟩ := trodAll_nil r1
  obtain rfl : args = #[v0, v1] := by cases args; simp_all
  obtain ⟨rfl, rfl⟩ := trodVars_none hV
  obtain ⟨n0, rfl, rfl, rfl, wf0⟩ := open_int Try.underlying2 (hval 0 2 v0 rfl rfl) h0
  obtain ⟨s1, rfl, rfl, rfl, wf1⟩ := open_string Try.underlying9 (hval 1 9 v1 rfl rfl) h1
  clear hA0 hval0
  simp only [List.append_nil] at hW' hlt
  refine (main_ParseGroup n0 s1 wf1 W ).mono fun e W' ⟨he, hg⟩ => ?_
  subst he
  exact ⟨_, rfl, shut_reads (pa := []) hW' (fun _ _ _ => (trodAll_cons_mk (shut_bool Try.underlying4 _) trodAll_mk0)) (trodAll_cons_mk (shut_int Try.underlying2 wf0) (trodAll_cons_mk (shut_string Try.underlying9 wf1) trodAll_mk0)) (fun _ => rfl) hg⟩

theorem over : Rows.fnExactParseGroupRow.holds Try.pinned (OpenSpec.ofChange Rows.fnExactParseGroupSpec) :=
  OpenClaim.holds_of_wide 12 Try.f12 rfl rfl rfl rfl rfl rfl rfl ⟨rfl, rfl, rfl, rfl, rfl⟩ rfl rfl rfl rfl rfl (by kernel_rfl) Try.func12 (by kernel_rfl)
    (of_decide_eq_true (by kernel_rfl)) (by unfold Func.isWrapper; first | (rw [if_pos (by decide +kernel)]; kernel_rfl) | (rw [if_neg (by decide +kernel)]; exact ⟨rfl, rfl⟩))
    (fun os started H enc _ => lifted os started H enc)

theorem proved : Rows.FnExactParseGroupSaid := over
end fnExactParseGroup
end Go.Proofs.Ytnhiceopgjfaaaa
