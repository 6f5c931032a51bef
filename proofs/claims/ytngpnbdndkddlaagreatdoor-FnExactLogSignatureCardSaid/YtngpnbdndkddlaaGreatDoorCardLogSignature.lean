/-
  'FnExactLogSignature' returns true at every input. The tied card: the listed tables of the library hold what its text lays; no other condition.
-/
import Derived.Test.YtngpnbdndkddlaaGreatDoorOverLogSignature
import Derived.Test.YtngpnbdndkddlaaGreatDoorDoorMain
import Derived.Test.YtngpnbdndkddlaaGreatDoorDoor
namespace Go.Proofs.YtngpnbdndkddlaaGreatDoor
open Go.ChangeShapes Go.WideShapes Go.ChangeAt Go.RowKit
namespace fnExactLogSignature
theorem wfText : Rows.fnExactLogSignatureRow.wfByText (OpenSpec.ofChange Rows.fnExactLogSignatureSpec) = true := by kernel_rfl
theorem funcIs : Tryz.prog.funcNamed "loop.example/g01260/laws.FnExactLogSignature" = some 4 := by kernel_rfl
theorem goesNot : false = Rows.fnExactLogSignatureRow.goesBy Tryz.pinned.checked.prog := by kernel_rfl
theorem standIns : ([2, 2, 22].all fun u => !Tryz.prog.wantsStandIn u) = true := by kernel_rfl

theorem proved : Rows.FnExactLogSignatureCardSaid :=
  Claim7.holds_tied_plain_at .later [] Rows.fnExactLogSignatureCard.laidKinds true Rows.fnExactSignatureOfCard.stood.harness Rows.fnExactSignatureOfCard.stood.looks
    over (fun _ h => by cases h) wfText (fun _ h => by cases h) fnExactLogSignature_row_tie rfl ⟨rfl, rfl⟩ doorMain rfl
    (fun f fn hf hfn => by
      obtain rfl : f = 4 := Option.some.inj (funcIs.symm.trans hf) |>.symm
      obtain rfl : fn = Tryz.f4 := (Option.some.inj (Tryz.func4.symm.trans hfn)).symm
      exact ⟨doorLooks, fun j t ht => by
        rw [Tryz.params4] at ht
        have hm : t ∈ [2, 2, 22] := by simpa using Array.mem_of_getElem? ht
        exact (show Tryz.prog.wantsStandIn t = false by simpa using List.all_eq_true.1 standIns t hm)⟩)
    goesNot
end fnExactLogSignature
end Go.Proofs.YtngpnbdndkddlaaGreatDoor
