/-
  No cell of these rows narrows 'for every input' (looked for: loops, veiled, ifaces, maps, wideKeys, modest, calm, conditions, laid).
  DERIVED. THE GIVEN ROWS OF THIS SEAT. 7 by the template 'for every input the law returns true; each argument reads behind the call as it read before'; 0 by the template 'total and deterministic' (their statements: YtncodnjnndjjaaaTotals.lean).
  GIVEN WITH THE SEED: the statements are not yours to turn. If you find one false, say at which input.
  Laid BY PROGRAM, IN A SANDBOX (cutbox-rows.mjs): the forced cells as the released guide's own fill.sh prints them over the translation bef910dacb3f5663… (all of the seat's roots in one cut). By AI agents, Wed Nov 11 2026. No macro, syntax, notation, axiom, sorry.
-/
import Derived.Test.YtncodnjnndjjaaaChecked
import GoSem.Claim
import GoSem.ClaimJoined
import GoSem.ClaimMapViews
import Derived.JoinedTies
import Derived.KernelRfl
namespace Go.Proofs.Ytncodnjnndjjaaa
/- THE CELL 'sum', in the pinned program and in every row, IS THE sha256 OF THE DUMP (.gsa) THAT YtncodnjnndjjaaaProg.lean LOADS. Nothing in Lean hashes anything: it is a label: what it is worth is what the hold of that sum in a sandbox is worth. -/
noncomputable def Try.pinned : Pinned := { name := "ytncodnjnndjjaaa", sum := "bef910dacb3f566386f021a11b7e9282e90ef2753d8cc56d239fd6ff611229c6", checked := Try.checked }
namespace Rows
def none {H : Type} : Left H := { results := [], args := [] }

/-- 'laws.FnExactStrictSum': WHATEVER THE INPUT: true; the input reads as it did. -/
def fnExactStrictSumSpec : ChangeSpec := { name := "fnExactStrictSum", fn := fun _ => fun
  | [d1, d2, d3] => { results := [.lit (.bool true)], args := [d1, d2, d3] }
  | _ => none }
def fnExactStrictSumRow : OpenClaim := { program := "ytncodnjnndjjaaa", sum := "bef910dacb3f566386f021a11b7e9282e90ef2753d8cc56d239fd6ff611229c6", func := "loop.example/g01260/laws.FnExactStrictSum", spec := "fnExactStrictSum", unfollowed := true, recurses := true, apart := false }
def FnExactStrictSumSaid : Prop := fnExactStrictSumRow.holds Try.pinned (OpenSpec.ofChange fnExactStrictSumSpec)

/-- ITS FALSE NEIGHBOUR: 'it returns false'. Refute it at one input. -/
def fnExactStrictSumWrong : ChangeSpec := { name := "fnExactStrictSum", fn := fun _ => fun
  | [d1, d2, d3] => { results := [.lit (.bool false)], args := [d1, d2, d3] }
  | _ => none }
def FnExactStrictSumWrongFalsely : Prop := fnExactStrictSumRow.holds Try.pinned (OpenSpec.ofChange fnExactStrictSumWrong)

/-- 'laws.FnExactWeakSum': WHATEVER THE INPUT: true; the input reads as it did. -/
def fnExactWeakSumSpec : ChangeSpec := { name := "fnExactWeakSum", fn := fun _ => fun
  | [d1, d2, d3] => { results := [.lit (.bool true)], args := [d1, d2, d3] }
  | _ => none }
def fnExactWeakSumRow : OpenClaim := { program := "ytncodnjnndjjaaa", sum := "bef910dacb3f566386f021a11b7e9282e90ef2753d8cc56d239fd6ff611229c6", func := "loop.example/g01260/laws.FnExactWeakSum", spec := "fnExactWeakSum", unfollowed := true, recurses := true, apart := false }
def FnExactWeakSumSaid : Prop := fnExactWeakSumRow.holds Try.pinned (OpenSpec.ofChange fnExactWeakSumSpec)

/-- ITS FALSE NEIGHBOUR: 'it returns false'. Refute it at one input. -/
def fnExactWeakSumWrong : ChangeSpec := { name := "fnExactWeakSum", fn := fun _ => fun
  | [d1, d2, d3] => { results := [.lit (.bool false)], args := [d1, d2, d3] }
  | _ => none }
def FnExactWeakSumWrongFalsely : Prop := fnExactWeakSumRow.holds Try.pinned (OpenSpec.ofChange fnExactWeakSumWrong)

/-- 'laws.FnExactPowerSum': WHATEVER THE INPUT: true; the input reads as it did. -/
def fnExactPowerSumSpec : ChangeSpec := { name := "fnExactPowerSum", fn := fun _ => fun
  | [d1, d2] => { results := [.lit (.bool true)], args := [d1, d2] }
  | _ => none }
def fnExactPowerSumRow : OpenClaim := { program := "ytncodnjnndjjaaa", sum := "bef910dacb3f566386f021a11b7e9282e90ef2753d8cc56d239fd6ff611229c6", func := "loop.example/g01260/laws.FnExactPowerSum", spec := "fnExactPowerSum", unfollowed := true, recurses := true, apart := false }
def FnExactPowerSumSaid : Prop := fnExactPowerSumRow.holds Try.pinned (OpenSpec.ofChange fnExactPowerSumSpec)

/-- ITS FALSE NEIGHBOUR: 'it returns false'. Refute it at one input. -/
def fnExactPowerSumWrong : ChangeSpec := { name := "fnExactPowerSum", fn := fun _ => fun
  | [d1, d2] => { results := [.lit (.bool false)], args := [d1, d2] }
  | _ => none }
def FnExactPowerSumWrongFalsely : Prop := fnExactPowerSumRow.holds Try.pinned (OpenSpec.ofChange fnExactPowerSumWrong)

/-- 'laws.FnExactQuasiProduct': WHATEVER THE INPUT: true; the input reads as it did. -/
def fnExactQuasiProductSpec : ChangeSpec := { name := "fnExactQuasiProduct", fn := fun _ => fun
  | [d1, d2] => { results := [.lit (.bool true)], args := [d1, d2] }
  | _ => none }
def fnExactQuasiProductRow : OpenClaim := { program := "ytncodnjnndjjaaa", sum := "bef910dacb3f566386f021a11b7e9282e90ef2753d8cc56d239fd6ff611229c6", func := "loop.example/g01260/laws.FnExactQuasiProduct", spec := "fnExactQuasiProduct", inPlace := ["slices.overlaps[[]int64]", "slices.overlaps[int64]"], unfollowed := true, recurses := true, apart := false }
def FnExactQuasiProductSaid : Prop := fnExactQuasiProductRow.holds Try.pinned (OpenSpec.ofChange fnExactQuasiProductSpec)

/-- ITS FALSE NEIGHBOUR: 'it returns false'. Refute it at one input. -/
def fnExactQuasiProductWrong : ChangeSpec := { name := "fnExactQuasiProduct", fn := fun _ => fun
  | [d1, d2] => { results := [.lit (.bool false)], args := [d1, d2] }
  | _ => none }
def FnExactQuasiProductWrongFalsely : Prop := fnExactQuasiProductRow.holds Try.pinned (OpenSpec.ofChange fnExactQuasiProductWrong)

/-- 'laws.FnExactWithoutRests': WHATEVER THE INPUT: true; the input reads as it did. -/
def fnExactWithoutRestsSpec : ChangeSpec := { name := "fnExactWithoutRests", fn := fun _ => fun
  | [d1, d2] => { results := [.lit (.bool true)], args := [d1, d2] }
  | _ => none }
def fnExactWithoutRestsRow : OpenClaim := { program := "ytncodnjnndjjaaa", sum := "bef910dacb3f566386f021a11b7e9282e90ef2753d8cc56d239fd6ff611229c6", func := "loop.example/g01260/laws.FnExactWithoutRests", spec := "fnExactWithoutRests", unfollowed := true, recurses := true, apart := false }
def FnExactWithoutRestsSaid : Prop := fnExactWithoutRestsRow.holds Try.pinned (OpenSpec.ofChange fnExactWithoutRestsSpec)

/-- ITS FALSE NEIGHBOUR: 'it returns false'. Refute it at one input. -/
def fnExactWithoutRestsWrong : ChangeSpec := { name := "fnExactWithoutRests", fn := fun _ => fun
  | [d1, d2] => { results := [.lit (.bool false)], args := [d1, d2] }
  | _ => none }
def FnExactWithoutRestsWrongFalsely : Prop := fnExactWithoutRestsRow.holds Try.pinned (OpenSpec.ofChange fnExactWithoutRestsWrong)

/-- 'laws.FnExactDifferencesOf': WHATEVER THE INPUT: true; the input reads as it did. -/
def fnExactDifferencesOfSpec : ChangeSpec := { name := "fnExactDifferencesOf", fn := fun _ => fun
  | [d] => { results := [.lit (.bool true)], args := [d] }
  | _ => none }
def fnExactDifferencesOfRow : OpenClaim := { program := "ytncodnjnndjjaaa", sum := "bef910dacb3f566386f021a11b7e9282e90ef2753d8cc56d239fd6ff611229c6", func := "loop.example/g01260/laws.FnExactDifferencesOf", spec := "fnExactDifferencesOf", apart := false }
def FnExactDifferencesOfSaid : Prop := fnExactDifferencesOfRow.holds Try.pinned (OpenSpec.ofChange fnExactDifferencesOfSpec)

/-- ITS FALSE NEIGHBOUR: 'it returns false'. Refute it at one input. -/
def fnExactDifferencesOfWrong : ChangeSpec := { name := "fnExactDifferencesOf", fn := fun _ => fun
  | [d] => { results := [.lit (.bool false)], args := [d] }
  | _ => none }
def FnExactDifferencesOfWrongFalsely : Prop := fnExactDifferencesOfRow.holds Try.pinned (OpenSpec.ofChange fnExactDifferencesOfWrong)

/-- 'laws.FnExactSumsOf': WHATEVER THE INPUT: true; the input reads as it did. -/
def fnExactSumsOfSpec : ChangeSpec := { name := "fnExactSumsOf", fn := fun _ => fun
  | [d] => { results := [.lit (.bool true)], args := [d] }
  | _ => none }
def fnExactSumsOfRow : OpenClaim := { program := "ytncodnjnndjjaaa", sum := "bef910dacb3f566386f021a11b7e9282e90ef2753d8cc56d239fd6ff611229c6", func := "loop.example/g01260/laws.FnExactSumsOf", spec := "fnExactSumsOf", apart := false }
def FnExactSumsOfSaid : Prop := fnExactSumsOfRow.holds Try.pinned (OpenSpec.ofChange fnExactSumsOfSpec)

/-- ITS FALSE NEIGHBOUR: 'it returns false'. Refute it at one input. -/
def fnExactSumsOfWrong : ChangeSpec := { name := "fnExactSumsOf", fn := fun _ => fun
  | [d] => { results := [.lit (.bool false)], args := [d] }
  | _ => none }
def FnExactSumsOfWrongFalsely : Prop := fnExactSumsOfRow.holds Try.pinned (OpenSpec.ofChange fnExactSumsOfWrong)

/- THE SECOND FORM. 'bulk': how many values and letters a reading holds, each counted each time it is reached (what is shared counts as often as it is met; a slice's spare places count too). A statement '..UptoSaid' is the law's where the arguments, and the package variables that the reading takes, are together of bulk at most 1048576: NARROWER than '..Said'. Prove '..Said' where nothing that the law and all that it calls make is longer than what came in: it says more and counts as full. Else prove '..UptoSaid'. A law counts once. -/
mutual
def uptoBulk {H : Type} : DataW H → Nat
  | .lit (.string bytes) => bytes.length + 1
  | .lit _ => 1
  | .nil => 1
  | .ptr d => uptoBulk d + 1
  | .slice elems spare => uptoBulkAll elems + uptoBulkAll spare + 1
  | .agg parts => uptoBulkAll parts + 1
  | .iface _ d => uptoBulk d + 1
  | .map entries => uptoBulkEntries entries + 1
  | .held _ => 1
def uptoBulkAll {H : Type} : List (DataW H) → Nat
  | [] => 0
  | d :: r => uptoBulk d + uptoBulkAll r
def uptoBulkEntries {H : Type} : List (Lit × DataW H) → Nat
  | [] => 0
  | x :: r => uptoBulkEntry x + uptoBulkEntries r
def uptoBulkEntry {H : Type} : Lit × DataW H → Nat
  | (.string bytes, d) => bytes.length + uptoBulk d + 1
  | (_, d) => uptoBulk d + 1
 end
def uptoSmall : (H : Type) → List (DataW H) → Bool := fun _ ds => decide (uptoBulkAll ds ≤ 1048576)
def OpenSpec.upto (s : _root_.Go.ChangeSpec) : _root_.Go.OpenSpec := { _root_.Go.OpenSpec.ofChange s with cond := some uptoSmall }

/-- 'laws.FnExactStrictSum', WHERE WHAT IT READS IS OF BULK AT MOST 1048576: true; the input reads as it did. -/
def fnExactStrictSumUptoRow : OpenClaim := { program := "ytncodnjnndjjaaa", sum := "bef910dacb3f566386f021a11b7e9282e90ef2753d8cc56d239fd6ff611229c6", func := "loop.example/g01260/laws.FnExactStrictSum", spec := "fnExactStrictSum", unfollowed := true, recurses := true, apart := false, narrowed := true }
def FnExactStrictSumUptoSaid : Prop := fnExactStrictSumUptoRow.holds Try.pinned (OpenSpec.upto fnExactStrictSumSpec)

/-- 'laws.FnExactWeakSum', WHERE WHAT IT READS IS OF BULK AT MOST 1048576: true; the input reads as it did. -/
def fnExactWeakSumUptoRow : OpenClaim := { program := "ytncodnjnndjjaaa", sum := "bef910dacb3f566386f021a11b7e9282e90ef2753d8cc56d239fd6ff611229c6", func := "loop.example/g01260/laws.FnExactWeakSum", spec := "fnExactWeakSum", unfollowed := true, recurses := true, apart := false, narrowed := true }
def FnExactWeakSumUptoSaid : Prop := fnExactWeakSumUptoRow.holds Try.pinned (OpenSpec.upto fnExactWeakSumSpec)

/-- 'laws.FnExactPowerSum', WHERE WHAT IT READS IS OF BULK AT MOST 1048576: true; the input reads as it did. -/
def fnExactPowerSumUptoRow : OpenClaim := { program := "ytncodnjnndjjaaa", sum := "bef910dacb3f566386f021a11b7e9282e90ef2753d8cc56d239fd6ff611229c6", func := "loop.example/g01260/laws.FnExactPowerSum", spec := "fnExactPowerSum", unfollowed := true, recurses := true, apart := false, narrowed := true }
def FnExactPowerSumUptoSaid : Prop := fnExactPowerSumUptoRow.holds Try.pinned (OpenSpec.upto fnExactPowerSumSpec)

/-- 'laws.FnExactQuasiProduct', WHERE WHAT IT READS IS OF BULK AT MOST 1048576: true; the input reads as it did. -/
def fnExactQuasiProductUptoRow : OpenClaim := { program := "ytncodnjnndjjaaa", sum := "bef910dacb3f566386f021a11b7e9282e90ef2753d8cc56d239fd6ff611229c6", func := "loop.example/g01260/laws.FnExactQuasiProduct", spec := "fnExactQuasiProduct", inPlace := ["slices.overlaps[[]int64]", "slices.overlaps[int64]"], unfollowed := true, recurses := true, apart := false, narrowed := true }
def FnExactQuasiProductUptoSaid : Prop := fnExactQuasiProductUptoRow.holds Try.pinned (OpenSpec.upto fnExactQuasiProductSpec)

/-- 'laws.FnExactWithoutRests', WHERE WHAT IT READS IS OF BULK AT MOST 1048576: true; the input reads as it did. -/
def fnExactWithoutRestsUptoRow : OpenClaim := { program := "ytncodnjnndjjaaa", sum := "bef910dacb3f566386f021a11b7e9282e90ef2753d8cc56d239fd6ff611229c6", func := "loop.example/g01260/laws.FnExactWithoutRests", spec := "fnExactWithoutRests", unfollowed := true, recurses := true, apart := false, narrowed := true }
def FnExactWithoutRestsUptoSaid : Prop := fnExactWithoutRestsUptoRow.holds Try.pinned (OpenSpec.upto fnExactWithoutRestsSpec)

/-- 'laws.FnExactDifferencesOf', WHERE WHAT IT READS IS OF BULK AT MOST 1048576: true; the input reads as it did. -/
def fnExactDifferencesOfUptoRow : OpenClaim := { program := "ytncodnjnndjjaaa", sum := "bef910dacb3f566386f021a11b7e9282e90ef2753d8cc56d239fd6ff611229c6", func := "loop.example/g01260/laws.FnExactDifferencesOf", spec := "fnExactDifferencesOf", apart := false, narrowed := true }
def FnExactDifferencesOfUptoSaid : Prop := fnExactDifferencesOfUptoRow.holds Try.pinned (OpenSpec.upto fnExactDifferencesOfSpec)

/-- 'laws.FnExactSumsOf', WHERE WHAT IT READS IS OF BULK AT MOST 1048576: true; the input reads as it did. -/
def fnExactSumsOfUptoRow : OpenClaim := { program := "ytncodnjnndjjaaa", sum := "bef910dacb3f566386f021a11b7e9282e90ef2753d8cc56d239fd6ff611229c6", func := "loop.example/g01260/laws.FnExactSumsOf", spec := "fnExactSumsOf", apart := false, narrowed := true }
def FnExactSumsOfUptoSaid : Prop := fnExactSumsOfUptoRow.holds Try.pinned (OpenSpec.upto fnExactSumsOfSpec)

end Rows
end Go.Proofs.Ytncodnjnndjjaaa
