/-
  'FnExactAreEqualInGroup' returns true at every input: the program's AreEqualInGroup and its model's agree in bool and code, and the arguments read as before. No condition.
-/
import Derived.Test.YtnhiceopgjfaaaaOpenR
import Derived.Test.YtnhiceopgjfaaaaLawAreEqualInGroup
import Derived.Test.YtnhiceopgjfaaaaEqG
namespace Go.Proofs.Ytnhiceopgjfaaaa
open Go.ChangeShapes Go.WideShapes Go.ChangeAt Go.RowKit

theorem main_AreEqualInGroup (n0 : Int) (a1 : Option Addr) (cap1 : Nat) (ps1 : List Int) (hl1 : ps1.length ≤ maxLen) (a2 : Option Addr) (cap2 : Nat) (ps2 : List Int) (hl2 : ps2.length ≤ maxLen) (w : World) (hr1 : IRow 0 w.heap.size w a1 ps1) (hr2 : IRow 0 w.heap.size w a2 ps2) :
    Calls Try.prog 10 #[.int .i64 n0, .slice a1 ps1.length cap1, .slice a2 ps2.length cap2] w fun e w' => e = .returned (.bool true) ∧ Below w.heap.size w w' := by
  have law := law_AreEqualInGroup n0 a1 cap1 ps1 hl1 a2 cap2 ps2 hl2 w hr1 hr2
  cases h : grpB n0 ps1 with
  | false => exact law false 2 (fun W b1 k1 b2 k2 q1 q2 r1 r2 => sAreEqualInGroup_1 n0 b1 b2 k1 k2 ps1 ps2 q1 q2 W r1 r2 h) (fun W b1 k1 b2 k2 q1 q2 r1 r2 => iAreEqualInGroup_1 n0 b1 b2 k1 k2 ps1 ps2 q1 q2 W r1 r2 h)
  | true =>
    cases h2 : grpB n0 ps2 with
    | false => exact law false 2 (fun W b1 k1 b2 k2 q1 q2 r1 r2 => sAreEqualInGroup_2 n0 b1 b2 k1 k2 ps1 ps2 q1 q2 W r1 r2 h h2) (fun W b1 k1 b2 k2 q1 q2 r1 r2 => iAreEqualInGroup_2 n0 b1 b2 k1 k2 ps1 ps2 q1 q2 W r1 r2 h h2)
    | true => exact law (eqG ps1 ps2) 0 (fun W b1 k1 b2 k2 q1 q2 r1 r2 => sAreEqualInGroup_3 n0 b1 b2 k1 k2 ps1 ps2 q1 q2 W r1 r2 h h2) (fun W b1 k1 b2 k2 q1 q2 r1 r2 => iAreEqualInGroup_3 n0 b1 b2 k1 k2 ps1 ps2 q1 q2 W r1 r2 h h2)

namespace fnExactAreEqualInGroup
set_option maxRecDepth 100000 in
theorem lifted (os : Os) (started : os.Started) (H : Type) (enc : TypeId × Value → H) :
    ReturnsInHanded {} Try.checked os 10 .any (Rows.fnExactAreEqualInGroupSpec.pre6 enc Try.prog Try.f10 Rows.fnExactAreEqualInGroupRow.domain false) (Rows.fnExactAreEqualInGroupSpec.post enc Try.prog Try.f10 false true false false) := by
  refine returnsInHanded_of_change (C := Try.checked) seatOwn started (by kernel_rfl) Try.func10
    (ChangeSpec.witness6 (enc := enc) (C := Try.checked) false ⟨#[], #[.int .i64 0, .slice none 0 0, .slice none 0 0], []⟩ 8 (by kernel_rfl) (by kernel_rfl) (by kernel_rfl) (by kernel_rfl)) ?_
  intro W base args ds gs before hval0 hW _ _
  have hval : ∀ (j : Nat) t v, Try.f10.params[j]? = some t → args[j]? = some v → Value.okWide Try.prog W .any base t v := hval0
  have hW' := hW
  have hlt : ∀ x ∈ before, x.block < W.heap.size := fun x hx => hW.lt x hx
  obtain ⟨p, q, hA0, hV, rfl, _, _⟩ := hW
  have hA : DataW.TrodAll enc Try.prog W 0 (fun _ => true) true Try.f10.params.toList args.toList ds p := hA0
  rw [Try.params10] at hA hval
  obtain ⟨v0, vs0, d00, ds0, p0, q0, hargs, rfl, rfl, h0, r0⟩ := trodAll_cons hA
  obtain ⟨v1, vs1, d10, ds1, p1, q1, rfl, rfl, rfl, h1, r1⟩ := trodAll_cons r0
  obtain ⟨v2, vs2, d20, ds2, p2, q2, rfl, rfl, rfl, h2, r2⟩ := trodAll_cons r1
  obtain ⟨rfl, rfl, rfl⟩ := trodAll_nil r2
  obtain rfl : args = #[v0, v1, v2] := by cases args; simp_all
  obtain ⟨rfl, rfl⟩ := trodVars_none hV
  obtain ⟨n0, rfl, rfl, rfl, wf0⟩ := open_int Try.underlying2 (hval 0 2 v0 rfl rfl) h0
  have h1k := h1
  obtain ⟨a1, cap1, ps1, rfl, hl1, hr1⟩ := open_row (hval 1 22 v1 rfl rfl) h1
  have h2k := h2
  obtain ⟨a2, cap2, ps2, rfl, hl2, hr2⟩ := open_row (hval 2 22 v2 rfl rfl) h2
  clear hA0 hval0
  simp only [List.append_nil, List.nil_append] at hW' hlt
  refine (main_AreEqualInGroup n0 a1 cap1 ps1 hl1 a2 cap2 ps2 hl2 W hr1 hr2).mono fun e W' ⟨he, hg⟩ => ?_
  subst he
  have hk1 := Below.trod seatLaid (by kernel_rfl) (of_decide_eq_true (by kernel_rfl)) h1k hg (fun x hx => hlt x (by simp [hx]))
  have hk2 := Below.trod seatLaid (by kernel_rfl) (of_decide_eq_true (by kernel_rfl)) h2k hg (fun x hx => hlt x (by simp [hx]))
  exact ⟨_, rfl, shut_reads (pa := p1 ++ p2) hW' (fun _ _ _ => (trodAll_cons_mk (shut_bool Try.underlying4 _) trodAll_mk0)) (by have h := (trodAll_cons_mk (shut_int Try.underlying2 wf0) (trodAll_cons_mk hk1 (trodAll_cons_mk hk2 trodAll_mk0))); simp only [List.append_nil, List.nil_append] at h; exact h) (fun _ => rfl) hg⟩

theorem over : Rows.fnExactAreEqualInGroupRow.holds Try.pinned (OpenSpec.ofChange Rows.fnExactAreEqualInGroupSpec) :=
  OpenClaim.holds_of_wide 10 Try.f10 rfl rfl rfl rfl rfl rfl rfl ⟨rfl, rfl, rfl, rfl, rfl⟩ rfl rfl rfl rfl rfl (by kernel_rfl) Try.func10 (by kernel_rfl)
    (of_decide_eq_true (by kernel_rfl)) (by unfold Func.isWrapper; first | (rw [if_pos (by decide +kernel)]; kernel_rfl) | (rw [if_neg (by decide +kernel)]; exact ⟨rfl, rfl⟩))
    (fun os started H enc _ => lifted os started H enc)

theorem proved : Rows.FnExactAreEqualInGroupSaid := over
end fnExactAreEqualInGroup
end Go.Proofs.Ytnhiceopgjfaaaa
