/-
  'FnExactPowerSum' returns true at every input: the program's PowerSum and its model's agree in number and code, and the lists read as before. No condition.
-/
import Derived.Test.YtncodnjnndjjaaaOpenR
import Derived.Test.YtncodnjnndjjaaaLawPowerSum
import Derived.Test.YtncodnjnndjjaaaPwM
namespace Go.Proofs.Ytncodnjnndjjaaa
open Go.ChangeShapes Go.WideShapes Go.ChangeAt Go.RowKit

theorem main_PowerSum (a0 : Option Addr) (cap0 : Nat) (ps0 : List Int) (hl0 : ps0.length ≤ maxLen) (a1 : Option Addr) (cap1 : Nat) (ps1 : List Int) (hl1 : ps1.length ≤ maxLen) (w : World) (hr0 : IRow 0 w.heap.size w a0 ps0) (hr1 : IRow 0 w.heap.size w a1 ps1) :
    Calls Try.prog 5 #[.slice a0 ps0.length cap0, .slice a1 ps1.length cap1] w fun e w' => e = .returned (.bool true) ∧ Below w.heap.size w w' := by
  have law := law_PowerSum a0 cap0 ps0 hl0 a1 cap1 ps1 hl1 w hr0 hr1
  cases h1 : listB ps0 with
  | false => exact law 0 2 (fun W b0 b1 q0 q1 r0 r1 => sPow_1 _ _ _ _ b0 b1 _ _ ps0 ps1 q0 q1 W r0 (Nat.le_refl _) r1 (Nat.le_refl _) (.inl h1)) (fun W b0 b1 q0 q1 r0 r1 => iPow_1 _ _ _ _ b0 b1 _ _ ps0 ps1 q0 q1 W r0 (Nat.le_refl _) r1 (Nat.le_refl _) (.inl h1))
  | true =>
    cases h2 : partsB 6 ps1 with
    | false => exact law 0 2 (fun W b0 b1 q0 q1 r0 r1 => sPow_1 _ _ _ _ b0 b1 _ _ ps0 ps1 q0 q1 W r0 (Nat.le_refl _) r1 (Nat.le_refl _) (.inr ⟨h1, h2⟩)) (fun W b0 b1 q0 q1 r0 r1 => iPow_1 _ _ _ _ b0 b1 _ _ ps0 ps1 q0 q1 W r0 (Nat.le_refl _) r1 (Nat.le_refl _) (.inr ⟨h1, h2⟩))
    | true =>
      cases hp : psL ps0 (bwA ps1) with
      | none => exact law 0 3 (fun W b0 b1 q0 q1 r0 r1 => (sPow_2 _ _ _ _ b0 b1 _ _ ps0 ps1 q0 q1 W r0 (Nat.le_refl _) r1 (Nat.le_refl _) h1 h2).mono fun e w' h => ⟨by rw [h.1, hp]; rfl, h.2⟩) (fun W b0 b1 q0 q1 r0 r1 => (iPow_2 _ _ _ _ b0 b1 _ _ ps0 ps1 q0 q1 W r0 (Nat.le_refl _) r1 (Nat.le_refl _) h1 h2).mono fun e w' h => ⟨by rw [h.1, hp]; rfl, h.2⟩)
      | some F => exact law (F.getD 0 0) 0 (fun W b0 b1 q0 q1 r0 r1 => (sPow_2 _ _ _ _ b0 b1 _ _ ps0 ps1 q0 q1 W r0 (Nat.le_refl _) r1 (Nat.le_refl _) h1 h2).mono fun e w' h => ⟨by rw [h.1, hp]; rfl, h.2⟩) (fun W b0 b1 q0 q1 r0 r1 => (iPow_2 _ _ _ _ b0 b1 _ _ ps0 ps1 q0 q1 W r0 (Nat.le_refl _) r1 (Nat.le_refl _) h1 h2).mono fun e w' h => ⟨by rw [h.1, hp]; rfl, h.2⟩)

namespace fnExactPowerSum
set_option maxRecDepth 100000 in
theorem lifted (os : Os) (started : os.Started) (H : Type) (enc : TypeId × Value → H) :
    ReturnsInHanded {} Try.checked os 5 .any (Rows.fnExactPowerSumSpec.pre6 enc Try.prog Try.f5 Rows.fnExactPowerSumRow.domain false) (Rows.fnExactPowerSumSpec.post enc Try.prog Try.f5 false true false false) := by
  refine returnsInHanded_of_change (C := Try.checked) seatOwn started (by kernel_rfl) Try.func5
    (ChangeSpec.witness6 (enc := enc) (C := Try.checked) false ⟨#[], #[.slice none 0 0, .slice none 0 0], []⟩ 8 (by kernel_rfl) (by kernel_rfl) (by kernel_rfl) (by kernel_rfl)) ?_
  intro W base args ds gs before hval0 hW _ _
  have hval : ∀ (j : Nat) t v, Try.f5.params[j]? = some t → args[j]? = some v → Value.okWide Try.prog W .any base t v := hval0
  have hW' := hW
  have hlt : ∀ x ∈ before, x.block < W.heap.size := fun x hx => hW.lt x hx
  obtain ⟨p, q, hA0, hV, rfl, _, _⟩ := hW
  have hA : DataW.TrodAll enc Try.prog W 0 (fun _ => true) true Try.f5.params.toList args.toList ds p := hA0
  rw [Try.params5] at hA hval
  obtain ⟨v0, vs0, d00, ds0, p0, q0, hargs, rfl, rfl, h0, r0⟩ := trodAll_cons hA
  obtain ⟨v1, vs1, d10, ds1, p1, q1, rfl, rfl, rfl, h1, r1⟩ := trodAll_cons r0
  obtain ⟨rfl, rfl, rfl⟩ := trodAll_nil r1
  obtain rfl : args = #[v0, v1] := by cases args; simp_all
  obtain ⟨rfl, rfl⟩ := trodVars_none hV
  have h0k := h0
  obtain ⟨a0, cap0, ps0, rfl, hl0, hr0⟩ := open_row (hval 0 29 v0 rfl rfl) h0
  have h1k := h1
  obtain ⟨a1, cap1, ps1, rfl, hl1, hr1⟩ := open_row (hval 1 29 v1 rfl rfl) h1
  clear hA0 hval0
  simp only [List.append_nil] at hW' hlt
  refine (main_PowerSum a0 cap0 ps0 hl0 a1 cap1 ps1 hl1 W hr0 hr1).mono fun e W' ⟨he, hg⟩ => ?_
  subst he
  have hk0 := Below.trod seatLaid (by kernel_rfl) (of_decide_eq_true (by kernel_rfl)) h0k hg (fun x hx => hlt x (by simp [hx]))
  have hk1 := Below.trod seatLaid (by kernel_rfl) (of_decide_eq_true (by kernel_rfl)) h1k hg (fun x hx => hlt x (by simp [hx]))
  exact ⟨_, rfl, shut_reads (pa := p0 ++ p1) hW' (fun _ _ _ => (trodAll_cons_mk (shut_bool Try.underlying4 _) trodAll_mk0)) (by have h := (trodAll_cons_mk hk0 (trodAll_cons_mk hk1 trodAll_mk0)); simp only [List.append_nil] at h; exact h) (fun _ => rfl) hg⟩

theorem over : Rows.fnExactPowerSumRow.holds Try.pinned (OpenSpec.ofChange Rows.fnExactPowerSumSpec) :=
  OpenClaim.holds_of_wide 5 Try.f5 rfl rfl rfl rfl rfl rfl rfl ⟨rfl, rfl, rfl, rfl, rfl⟩ rfl rfl rfl rfl rfl (by kernel_rfl) Try.func5 (by kernel_rfl)
    (of_decide_eq_true (by kernel_rfl)) (by unfold Func.isWrapper; first | (rw [if_pos (by decide +kernel)]; kernel_rfl) | (rw [if_neg (by decide +kernel)]; exact ⟨rfl, rfl⟩))
    (fun os started H enc _ => lifted os started H enc)

theorem proved : Rows.FnExactPowerSumSaid := over
end fnExactPowerSum
end Go.Proofs.Ytncodnjnndjjaaa
