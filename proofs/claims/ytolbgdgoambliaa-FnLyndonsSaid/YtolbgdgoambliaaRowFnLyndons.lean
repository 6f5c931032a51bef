/-
  'FnLyndons' returns true at every input: the program and the model say the same at whatever is drawn; factors make the word, are Lyndon words and don't rise; cuts leave two that rise; lists have as many words as are counted. No condition.
-/
import Derived.Test.YtolbgdgoambliaaLawFnLyndons
import Derived.Test.YtolbgdgoambliaaOpenB
namespace Go.Proofs.Ytolbgdgoambliaa
open Go.ChangeShapes Go.WideShapes Go.ChangeAt Go.RowKit

theorem main_FnLyndons (a0 : Option Addr) (cap0 : Nat) (ps0 : List Int) (hl0 : ∀ z ∈ ps0, 0 ≤ z ∧ z ≤ 255) (w : World) (hr0 : BRow w.heap.size w a0 ps0) :
    Calls Try.prog 3 #[.slice a0 ps0.length cap0] w fun e w' => e = .returned (.bool true) ∧ Below w.heap.size w w' :=
  law_FnLyndons a0 cap0 ps0 w hr0 hl0

namespace fnLyndons
set_option maxRecDepth 100000 in
theorem liftedG (os : Os) (started : os.Started) (H : Type) (enc : TypeId × Value → H) :
    ReturnsInHanded {} Try.checked os 3 .any (Rows.fnLyndonsSpec.pre6 enc Try.prog Try.f3 Rows.fnLyndonsRow.domain false) (Rows.fnLyndonsSpec.post enc Try.prog Try.f3 false true false false) := by
  refine returnsInHanded_of_change (C := Try.checked) seatOwn started (by kernel_rfl) Try.func3
    (ChangeSpec.witness6 (enc := enc) (C := Try.checked) false ⟨#[], #[.slice none 0 0], []⟩ 8 (by kernel_rfl) (by kernel_rfl) (by kernel_rfl) (by kernel_rfl)) ?_
  intro W base args ds gs before hval0 hW _ _
  have hval : ∀ (j : Nat) t v, Try.f3.params[j]? = some t → args[j]? = some v → Value.okWide Try.prog W .any base t v := hval0
  have hW' := hW
  have hlt : ∀ x ∈ before, x.block < W.heap.size := fun x hx => hW.lt x hx
  obtain ⟨p, q, hA0, hV, rfl, _, _⟩ := hW
  have hA : DataW.TrodAll enc Try.prog W 0 (fun _ => true) true Try.f3.params.toList args.toList ds p := hA0
  rw [Try.params3] at hA hval
  obtain ⟨v0, vs0, d00, ds0, p0, q0, hargs, rfl, rfl, h0, r0⟩ := trodAll_cons hA
  obtain ⟨rfl, rfl, rfl⟩ := trodAll_nil r0
  obtain rfl : args = #[v0] := by cases args; simp_all
  obtain ⟨rfl, rfl⟩ := trodVars_none hV
  have h0k := h0
  obtain ⟨a0, cap0, ps0, rfl, hl0, hr0⟩ := open_bytes (hval 0 22 v0 rfl rfl) h0
  clear hA0 hval0
  simp only [List.append_nil] at hW' hlt
  refine (main_FnLyndons a0 cap0 ps0 hl0 W hr0).mono fun e W' ⟨he, hg⟩ => ?_
  subst he
  have hk0 := Below.trod seatLaid (by kernel_rfl) (of_decide_eq_true (by kernel_rfl)) h0k hg (fun x hx => hlt x (by simp [hx]))
  exact ⟨_, rfl, shut_reads (pa := p0) hW' (fun _ _ _ => (trodAll_cons_mk (shut_bool Try.underlying4 _) trodAll_mk0)) (by have h := (trodAll_cons_mk hk0 trodAll_mk0); simp only [List.append_nil] at h; exact h) (fun _ => rfl) hg⟩

theorem overG : Rows.fnLyndonsRow.holds Try.pinned (OpenSpec.ofChange Rows.fnLyndonsSpec) :=
  OpenClaim.holds_of_wide 3 Try.f3 rfl rfl rfl rfl rfl rfl rfl ⟨rfl, rfl, rfl, rfl, rfl⟩ rfl rfl rfl rfl rfl (by kernel_rfl) Try.func3 (by kernel_rfl)
    (of_decide_eq_true (by kernel_rfl)) (by unfold Func.isWrapper; first | (rw [if_pos (by decide +kernel)]; kernel_rfl) | (rw [if_neg (by decide +kernel)]; exact ⟨rfl, rfl⟩))
    (fun os started H enc _ => liftedG os started H enc)

theorem provedG : Rows.FnLyndonsSaid := overG
end fnLyndons
end Go.Proofs.Ytolbgdgoambliaa
