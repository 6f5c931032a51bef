/-
  'FnExactSumsOf' returns true at every input: the program's SumsOf and its model's agree in every field, the result lies in memory of its own, and the arguments read as before. No condition.
-/
import Derived.Test.YtncodnjnndjjaaaOpenR
import Derived.Test.YtncodnjnndjjaaaLawSumsOf
import Derived.Test.YtncodnjnndjjaaaDfS
namespace Go.Proofs.Ytncodnjnndjjaaa
open Go.ChangeShapes Go.WideShapes Go.ChangeAt Go.RowKit

theorem main_SumsOf (a0 : Option Addr) (cap0 : Nat) (ps0 : List Int) (hl0 : ps0.length ≤ maxLen) (w : World) (hr0 : IRow 0 w.heap.size w a0 ps0) :
    Calls Try.prog 9 #[.slice a0 ps0.length cap0] w fun e w' => e = .returned (.bool true) ∧ Below w.heap.size w w' := by
  have law := law_SumsOf a0 cap0 ps0 hl0 w hr0
  cases h : listB ps0 with
  | false => exact law [] 2 (by simp) (fun W b q hr => sSums_1 b ps0.length ps0 q W hr h) (fun W b q hr => iSums_1 b ps0.length ps0 q W hr h)
  | true => exact law (sumsL ps0) 0 (by rw [sumsL_length]; have := (listB_true h).1; omega) (fun W b q hr => sSums_2 b ps0.length ps0 q W hr h) (fun W b q hr => iSums_2 b ps0.length ps0 q W hr h)

namespace fnExactSumsOf
set_option maxRecDepth 100000 in
theorem lifted (os : Os) (started : os.Started) (H : Type) (enc : TypeId × Value → H) :
    ReturnsInHanded {} Try.checked os 9 .any (Rows.fnExactSumsOfSpec.pre6 enc Try.prog Try.f9 Rows.fnExactSumsOfRow.domain false) (Rows.fnExactSumsOfSpec.post enc Try.prog Try.f9 false true false false) := by
  refine returnsInHanded_of_change (C := Try.checked) seatOwn started (by kernel_rfl) Try.func9
    (ChangeSpec.witness6 (enc := enc) (C := Try.checked) false ⟨#[], #[.slice none 0 0], []⟩ 8 (by kernel_rfl) (by kernel_rfl) (by kernel_rfl) (by kernel_rfl)) ?_
  intro W base args ds gs before hval0 hW _ _
  have hval : ∀ (j : Nat) t v, Try.f9.params[j]? = some t → args[j]? = some v → Value.okWide Try.prog W .any base t v := hval0
  have hW' := hW
  have hlt : ∀ x ∈ before, x.block < W.heap.size := fun x hx => hW.lt x hx
  obtain ⟨p, q, hA0, hV, rfl, _, _⟩ := hW
  have hA : DataW.TrodAll enc Try.prog W 0 (fun _ => true) true Try.f9.params.toList args.toList ds p := hA0
  rw [Try.params9] at hA hval
  obtain ⟨v0, vs0, d00, ds0, p0, q0, hargs, rfl, rfl, h0, r0⟩ := trodAll_cons hA
  obtain ⟨rfl, rfl, rfl⟩ := trodAll_nil r0
  obtain rfl : args = #[v0] := by cases args; simp_all
  obtain ⟨rfl, rfl⟩ := trodVars_none hV
  have h0k := h0
  obtain ⟨a0, cap0, ps0, rfl, hl0, hr0⟩ := open_row (hval 0 29 v0 rfl rfl) h0
  clear hA0 hval0
  simp only [List.append_nil] at hW' hlt
  refine (main_SumsOf a0 cap0 ps0 hl0 W hr0).mono fun e W' ⟨he, hg⟩ => ?_
  subst he
  have hk0 := Below.trod seatLaid (by kernel_rfl) (of_decide_eq_true (by kernel_rfl)) h0k hg (fun x hx => hlt x (by simp [hx]))
  exact ⟨_, rfl, shut_reads (pa := p0) hW' (fun _ _ _ => (trodAll_cons_mk (shut_bool Try.underlying4 _) trodAll_mk0)) (by have h := (trodAll_cons_mk hk0 trodAll_mk0); simp only [List.append_nil] at h; exact h) (fun _ => rfl) hg⟩

theorem over : Rows.fnExactSumsOfRow.holds Try.pinned (OpenSpec.ofChange Rows.fnExactSumsOfSpec) :=
  OpenClaim.holds_of_wide 9 Try.f9 rfl rfl rfl rfl rfl rfl rfl ⟨rfl, rfl, rfl, rfl, rfl⟩ rfl rfl rfl rfl rfl (by kernel_rfl) Try.func9 (by kernel_rfl)
    (of_decide_eq_true (by kernel_rfl)) (by unfold Func.isWrapper; first | (rw [if_pos (by decide +kernel)]; kernel_rfl) | (rw [if_neg (by decide +kernel)]; exact ⟨rfl, rfl⟩))
    (fun os started H enc _ => lifted os started H enc)

theorem proved : Rows.FnExactSumsOfSaid := over
end fnExactSumsOf
end Go.Proofs.Ytncodnjnndjjaaa
