/-
  'FnExactDoTablesCommute' returns true at every input. The tied card: the listed tables of the library hold what its text lays; no other condition.
-/
import Derived.Test.YtngpnbdndkddlaaDoorOverDoTablesCommute
import Derived.Test.YtngpnbdndkddlaaDoorDoorMain
import Derived.Test.YtngpnbdndkddlaaDoorDoor
namespace Go.Proofs.YtngpnbdndkddlaaDoor
open Go.ChangeShapes Go.WideShapes Go.ChangeAt Go.RowKit
namespace fnExactDoTablesCommute
theorem wfText : Rows.fnExactDoTablesCommuteRow.wfByText (OpenSpec.ofChange Rows.fnExactDoTablesCommuteSpec) = true := by kernel_rfl
theorem funcIs : Tryd.prog.funcNamed "loop.example/g01260/laws.FnExactDoTablesCommute" = some 4 := by kernel_rfl
theorem goesNot : false = Rows.fnExactDoTablesCommuteRow.goesBy Tryd.pinned.checked.prog := by kernel_rfl
theorem standIns : ([2, 34].all fun u => !Tryd.prog.wantsStandIn u) = true := by kernel_rfl

theorem proved : Rows.FnExactDoTablesCommuteCardSaid :=
  Claim7.holds_tied_plain_at .later [] Rows.fnExactDoTablesCommuteCard.laidKinds true Rows.fnExactStepSignatureCard.stood.harness Rows.fnExactStepSignatureCard.stood.looks
    over (fun _ h => by cases h) wfText (fun _ h => by cases h) fnExactDoTablesCommute_row_tie rfl ⟨rfl, rfl⟩ doorMain rfl
    (fun f fn hf hfn => by
      obtain rfl : f = 4 := Option.some.inj (funcIs.symm.trans hf) |>.symm
      obtain rfl : fn = Tryd.f4 := (Option.some.inj (Tryd.func4.symm.trans hfn)).symm
      exact ⟨doorLooks, fun j t ht => by
        rw [Tryd.params4] at ht
        have hm : t ∈ [2, 34] := by simpa using Array.mem_of_getElem? ht
        exact (show Tryd.prog.wantsStandIn t = false by simpa using List.all_eq_true.1 standIns t hm)⟩)
    goesNot
end fnExactDoTablesCommute
end Go.Proofs.YtngpnbdndkddlaaDoor
