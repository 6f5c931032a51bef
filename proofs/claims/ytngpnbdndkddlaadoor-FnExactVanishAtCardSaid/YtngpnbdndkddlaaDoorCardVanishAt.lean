/-
  'FnExactVanishAt' returns true at every input. The tied card: the listed tables of the library hold what its text lays; no other condition.
-/
import Derived.Test.YtngpnbdndkddlaaDoorOverVanishAt
import Derived.Test.YtngpnbdndkddlaaDoorDoorMain
import Derived.Test.YtngpnbdndkddlaaDoorDoor
namespace Go.Proofs.YtngpnbdndkddlaaDoor
open Go.ChangeShapes Go.WideShapes Go.ChangeAt Go.RowKit
namespace fnExactVanishAt
theorem wfText : Rows.fnExactVanishAtRow.wfByText (OpenSpec.ofChange Rows.fnExactVanishAtSpec) = true := by kernel_rfl
theorem funcIs : Tryd.prog.funcNamed "loop.example/g01260/laws.FnExactVanishAt" = some 6 := by kernel_rfl
theorem goesNot : false = Rows.fnExactVanishAtRow.goesBy Tryd.pinned.checked.prog := by kernel_rfl
theorem standIns : ([2, 34, 2].all fun u => !Tryd.prog.wantsStandIn u) = true := by kernel_rfl

theorem proved : Rows.FnExactVanishAtCardSaid :=
  Claim7.holds_tied_plain_at .later [] Rows.fnExactVanishAtCard.laidKinds true Rows.fnExactStepSignatureCard.stood.harness Rows.fnExactStepSignatureCard.stood.looks
    over (fun _ h => by cases h) wfText (fun _ h => by cases h) fnExactVanishAt_row_tie rfl ⟨rfl, rfl⟩ doorMain rfl
    (fun f fn hf hfn => by
      obtain rfl : f = 6 := Option.some.inj (funcIs.symm.trans hf) |>.symm
      obtain rfl : fn = Tryd.f6 := (Option.some.inj (Tryd.func6.symm.trans hfn)).symm
      exact ⟨doorLooks, fun j t ht => by
        rw [Tryd.params6] at ht
        have hm : t ∈ [2, 34, 2] := by simpa using Array.mem_of_getElem? ht
        exact (show Tryd.prog.wantsStandIn t = false by simpa using List.all_eq_true.1 standIns t hm)⟩)
    goesNot
end fnExactVanishAt
end Go.Proofs.YtngpnbdndkddlaaDoor
