/-
  No cell of these rows narrows 'for every input' (looked for: loops, veiled, ifaces, maps, wideKeys, modest, calm, conditions, laid).
  DERIVED. THE GIVEN ROWS OF THIS SEAT. 8 by the template 'for every input the law returns true; each argument reads behind the call as it read before'; 0 by the template 'total and deterministic' (their statements: YtgelajjjghboaaaTotals.lean).
  GIVEN WITH THE SEED: the statements are not yours to turn. If you find one false, say at which input.
  Laid BY PROGRAM, IN A SANDBOX (cutbox-rows.mjs): the forced cells as the released guide's own fill.sh prints them over the translation cbd9ecb38b9e3785… (all of the seat's roots in one cut). By AI agents, Wed Nov 11 2026. No macro, syntax, notation, axiom, sorry.
-/
import Derived.Test.YtgelajjjghboaaaChecked
import GoSem.Claim
import GoSem.ClaimJoined
import GoSem.ClaimMapViews
import Derived.JoinedTies
import Derived.KernelRfl
namespace Go.Proofs.Ytgelajjjghboaaa
/- THE CELL 'sum', in the pinned program and in every row, IS THE sha256 OF THE DUMP (.gsa) THAT YtgelajjjghboaaaProg.lean LOADS. Nothing in Lean hashes anything: it is a label: what it is worth is what the hold of that sum in a sandbox is worth. -/
noncomputable def Try.pinned : Pinned := { name := "ytgelajjjghboaaa", sum := "cbd9ecb38b9e3785f98f8724015235fae5ed05eb3bf9680a478d74383191d82e", checked := Try.checked }
namespace Rows
def none {H : Type} : Left H := { results := [], args := [] }

/-- 'laws.FnExactNextLyndon': WHATEVER THE INPUT: true; the input reads as it did. -/
def fnExactNextLyndonSpec : ChangeSpec := { name := "fnExactNextLyndon", fn := fun _ => fun
  | [d1, d2, d3] => { results := [.lit (.bool true)], args := [d1, d2, d3] }
  | _ => none }
def fnExactNextLyndonRow : OpenClaim := { program := "ytgelajjjghboaaa", sum := "cbd9ecb38b9e3785f98f8724015235fae5ed05eb3bf9680a478d74383191d82e", func := "loop.example/g01260/laws.FnExactNextLyndon", spec := "fnExactNextLyndon", apart := false }
def FnExactNextLyndonSaid : Prop := fnExactNextLyndonRow.holds Try.pinned (OpenSpec.ofChange fnExactNextLyndonSpec)

/-- ITS FALSE NEIGHBOUR: 'it returns false'. Refute it at one input. -/
def fnExactNextLyndonWrong : ChangeSpec := { name := "fnExactNextLyndon", fn := fun _ => fun
  | [d1, d2, d3] => { results := [.lit (.bool false)], args := [d1, d2, d3] }
  | _ => none }
def FnExactNextLyndonWrongFalsely : Prop := fnExactNextLyndonRow.holds Try.pinned (OpenSpec.ofChange fnExactNextLyndonWrong)

/-- 'laws.FnExactIsLyndon': WHATEVER THE INPUT: true; the input reads as it did. -/
def fnExactIsLyndonSpec : ChangeSpec := { name := "fnExactIsLyndon", fn := fun _ => fun
  | [d1, d2] => { results := [.lit (.bool true)], args := [d1, d2] }
  | _ => none }
def fnExactIsLyndonRow : OpenClaim := { program := "ytgelajjjghboaaa", sum := "cbd9ecb38b9e3785f98f8724015235fae5ed05eb3bf9680a478d74383191d82e", func := "loop.example/g01260/laws.FnExactIsLyndon", spec := "fnExactIsLyndon", apart := false }
def FnExactIsLyndonSaid : Prop := fnExactIsLyndonRow.holds Try.pinned (OpenSpec.ofChange fnExactIsLyndonSpec)

/-- ITS FALSE NEIGHBOUR: 'it returns false'. Refute it at one input. -/
def fnExactIsLyndonWrong : ChangeSpec := { name := "fnExactIsLyndon", fn := fun _ => fun
  | [d1, d2] => { results := [.lit (.bool false)], args := [d1, d2] }
  | _ => none }
def FnExactIsLyndonWrongFalsely : Prop := fnExactIsLyndonRow.holds Try.pinned (OpenSpec.ofChange fnExactIsLyndonWrong)

/-- 'laws.FnExactNecklaceOf': WHATEVER THE INPUT: true; the input reads as it did. -/
def fnExactNecklaceOfSpec : ChangeSpec := { name := "fnExactNecklaceOf", fn := fun _ => fun
  | [d1, d2] => { results := [.lit (.bool true)], args := [d1, d2] }
  | _ => none }
def fnExactNecklaceOfRow : OpenClaim := { program := "ytgelajjjghboaaa", sum := "cbd9ecb38b9e3785f98f8724015235fae5ed05eb3bf9680a478d74383191d82e", func := "loop.example/g01260/laws.FnExactNecklaceOf", spec := "fnExactNecklaceOf", apart := false }
def FnExactNecklaceOfSaid : Prop := fnExactNecklaceOfRow.holds Try.pinned (OpenSpec.ofChange fnExactNecklaceOfSpec)

/-- ITS FALSE NEIGHBOUR: 'it returns false'. Refute it at one input. -/
def fnExactNecklaceOfWrong : ChangeSpec := { name := "fnExactNecklaceOf", fn := fun _ => fun
  | [d1, d2] => { results := [.lit (.bool false)], args := [d1, d2] }
  | _ => none }
def FnExactNecklaceOfWrongFalsely : Prop := fnExactNecklaceOfRow.holds Try.pinned (OpenSpec.ofChange fnExactNecklaceOfWrong)

/-- 'laws.FnExactRootOf': WHATEVER THE INPUT: true; the input reads as it did. -/
def fnExactRootOfSpec : ChangeSpec := { name := "fnExactRootOf", fn := fun _ => fun
  | [d1, d2] => { results := [.lit (.bool true)], args := [d1, d2] }
  | _ => none }
def fnExactRootOfRow : OpenClaim := { program := "ytgelajjjghboaaa", sum := "cbd9ecb38b9e3785f98f8724015235fae5ed05eb3bf9680a478d74383191d82e", func := "loop.example/g01260/laws.FnExactRootOf", spec := "fnExactRootOf", inPlace := ["internal/abi.NoEscape", "internal/bytealg.MakeNoZero"], apart := false }
def FnExactRootOfSaid : Prop := fnExactRootOfRow.holds Try.pinned (OpenSpec.ofChange fnExactRootOfSpec)

/-- ITS FALSE NEIGHBOUR: 'it returns false'. Refute it at one input. -/
def fnExactRootOfWrong : ChangeSpec := { name := "fnExactRootOf", fn := fun _ => fun
  | [d1, d2] => { results := [.lit (.bool false)], args := [d1, d2] }
  | _ => none }
def FnExactRootOfWrongFalsely : Prop := fnExactRootOfRow.holds Try.pinned (OpenSpec.ofChange fnExactRootOfWrong)

/-- 'laws.FnExactCutOf': WHATEVER THE INPUT: true; the input reads as it did. -/
def fnExactCutOfSpec : ChangeSpec := { name := "fnExactCutOf", fn := fun _ => fun
  | [d1, d2] => { results := [.lit (.bool true)], args := [d1, d2] }
  | _ => none }
def fnExactCutOfRow : OpenClaim := { program := "ytgelajjjghboaaa", sum := "cbd9ecb38b9e3785f98f8724015235fae5ed05eb3bf9680a478d74383191d82e", func := "loop.example/g01260/laws.FnExactCutOf", spec := "fnExactCutOf", apart := false }
def FnExactCutOfSaid : Prop := fnExactCutOfRow.holds Try.pinned (OpenSpec.ofChange fnExactCutOfSpec)

/-- ITS FALSE NEIGHBOUR: 'it returns false'. Refute it at one input. -/
def fnExactCutOfWrong : ChangeSpec := { name := "fnExactCutOf", fn := fun _ => fun
  | [d1, d2] => { results := [.lit (.bool false)], args := [d1, d2] }
  | _ => none }
def FnExactCutOfWrongFalsely : Prop := fnExactCutOfRow.holds Try.pinned (OpenSpec.ofChange fnExactCutOfWrong)

/-- 'laws.FnExactFactorsOf': WHATEVER THE INPUT: true; the input reads as it did. -/
def fnExactFactorsOfSpec : ChangeSpec := { name := "fnExactFactorsOf", fn := fun _ => fun
  | [d1, d2] => { results := [.lit (.bool true)], args := [d1, d2] }
  | _ => none }
def fnExactFactorsOfRow : OpenClaim := { program := "ytgelajjjghboaaa", sum := "cbd9ecb38b9e3785f98f8724015235fae5ed05eb3bf9680a478d74383191d82e", func := "loop.example/g01260/laws.FnExactFactorsOf", spec := "fnExactFactorsOf", unfollowed := true, recurses := true, apart := false }
def FnExactFactorsOfSaid : Prop := fnExactFactorsOfRow.holds Try.pinned (OpenSpec.ofChange fnExactFactorsOfSpec)

/-- ITS FALSE NEIGHBOUR: 'it returns false'. Refute it at one input. -/
def fnExactFactorsOfWrong : ChangeSpec := { name := "fnExactFactorsOf", fn := fun _ => fun
  | [d1, d2] => { results := [.lit (.bool false)], args := [d1, d2] }
  | _ => none }
def FnExactFactorsOfWrongFalsely : Prop := fnExactFactorsOfRow.holds Try.pinned (OpenSpec.ofChange fnExactFactorsOfWrong)

/-- 'laws.FnExactNumberOfWord': WHATEVER THE INPUT: true; the input reads as it did. -/
def fnExactNumberOfWordSpec : ChangeSpec := { name := "fnExactNumberOfWord", fn := fun _ => fun
  | [d1, d2] => { results := [.lit (.bool true)], args := [d1, d2] }
  | _ => none }
def fnExactNumberOfWordRow : OpenClaim := { program := "ytgelajjjghboaaa", sum := "cbd9ecb38b9e3785f98f8724015235fae5ed05eb3bf9680a478d74383191d82e", func := "loop.example/g01260/laws.FnExactNumberOfWord", spec := "fnExactNumberOfWord", apart := false }
def FnExactNumberOfWordSaid : Prop := fnExactNumberOfWordRow.holds Try.pinned (OpenSpec.ofChange fnExactNumberOfWordSpec)

/-- ITS FALSE NEIGHBOUR: 'it returns false'. Refute it at one input. -/
def fnExactNumberOfWordWrong : ChangeSpec := { name := "fnExactNumberOfWord", fn := fun _ => fun
  | [d1, d2] => { results := [.lit (.bool false)], args := [d1, d2] }
  | _ => none }
def FnExactNumberOfWordWrongFalsely : Prop := fnExactNumberOfWordRow.holds Try.pinned (OpenSpec.ofChange fnExactNumberOfWordWrong)

/-- 'laws.FnExactCutsOfWord': WHATEVER THE INPUT: true; the input reads as it did. -/
def fnExactCutsOfWordSpec : ChangeSpec := { name := "fnExactCutsOfWord", fn := fun _ => fun
  | [d1, d2] => { results := [.lit (.bool true)], args := [d1, d2] }
  | _ => none }
def fnExactCutsOfWordRow : OpenClaim := { program := "ytgelajjjghboaaa", sum := "cbd9ecb38b9e3785f98f8724015235fae5ed05eb3bf9680a478d74383191d82e", func := "loop.example/g01260/laws.FnExactCutsOfWord", spec := "fnExactCutsOfWord", apart := false }
def FnExactCutsOfWordSaid : Prop := fnExactCutsOfWordRow.holds Try.pinned (OpenSpec.ofChange fnExactCutsOfWordSpec)

/-- ITS FALSE NEIGHBOUR: 'it returns false'. Refute it at one input. -/
def fnExactCutsOfWordWrong : ChangeSpec := { name := "fnExactCutsOfWord", fn := fun _ => fun
  | [d1, d2] => { results := [.lit (.bool false)], args := [d1, d2] }
  | _ => none }
def FnExactCutsOfWordWrongFalsely : Prop := fnExactCutsOfWordRow.holds Try.pinned (OpenSpec.ofChange fnExactCutsOfWordWrong)

/- THE SECOND FORM. 'bulk': how many values and letters a reading holds, each counted each time it is reached (what is shared counts as often as it is met; a slice's spare places count too). A statement '..UptoSaid' is the law's where the arguments, and the package variables that the reading takes, are together of bulk at most 1048576: NARROWER than '..Said'. Prove '..Said' where nothing that the law and all that it calls make is longer than what came in: it says more and counts as full. Else prove '..UptoSaid'. A law counts once. -/
mutual
def uptoBulk {H : Type} : DataW H → Nat
  | .lit (.string bytes) => bytes.length + 1
  | .lit _ => 1
  | .nil => 1
  | .ptr d => uptoBulk d + 1
  | .slice elems spare => uptoBulkAll elems + uptoBulkAll spare + 1
  | .agg parts => uptoBulkAll parts + 1
  | .iface _ d => uptoBulk d + 1
  | .map entries => uptoBulkEntries entries + 1
  | .held _ => 1
def uptoBulkAll {H : Type} : List (DataW H) → Nat
  | [] => 0
  | d :: r => uptoBulk d + uptoBulkAll r
def uptoBulkEntries {H : Type} : List (Lit × DataW H) → Nat
  | [] => 0
  | x :: r => uptoBulkEntry x + uptoBulkEntries r
def uptoBulkEntry {H : Type} : Lit × DataW H → Nat
  | (.string bytes, d) => bytes.length + uptoBulk d + 1
  | (_, d) => uptoBulk d + 1
 end
def uptoSmall : (H : Type) → List (DataW H) → Bool := fun _ ds => decide (uptoBulkAll ds ≤ 1048576)
def OpenSpec.upto (s : _root_.Go.ChangeSpec) : _root_.Go.OpenSpec := { _root_.Go.OpenSpec.ofChange s with cond := some uptoSmall }

/-- 'laws.FnExactNextLyndon', WHERE WHAT IT READS IS OF BULK AT MOST 1048576: true; the input reads as it did. -/
def fnExactNextLyndonUptoRow : OpenClaim := { program := "ytgelajjjghboaaa", sum := "cbd9ecb38b9e3785f98f8724015235fae5ed05eb3bf9680a478d74383191d82e", func := "loop.example/g01260/laws.FnExactNextLyndon", spec := "fnExactNextLyndon", apart := false, narrowed := true }
def FnExactNextLyndonUptoSaid : Prop := fnExactNextLyndonUptoRow.holds Try.pinned (OpenSpec.upto fnExactNextLyndonSpec)

/-- 'laws.FnExactIsLyndon', WHERE WHAT IT READS IS OF BULK AT MOST 1048576: true; the input reads as it did. -/
def fnExactIsLyndonUptoRow : OpenClaim := { program := "ytgelajjjghboaaa", sum := "cbd9ecb38b9e3785f98f8724015235fae5ed05eb3bf9680a478d74383191d82e", func := "loop.example/g01260/laws.FnExactIsLyndon", spec := "fnExactIsLyndon", apart := false, narrowed := true }
def FnExactIsLyndonUptoSaid : Prop := fnExactIsLyndonUptoRow.holds Try.pinned (OpenSpec.upto fnExactIsLyndonSpec)

/-- 'laws.FnExactNecklaceOf', WHERE WHAT IT READS IS OF BULK AT MOST 1048576: true; the input reads as it did. -/
def fnExactNecklaceOfUptoRow : OpenClaim := { program := "ytgelajjjghboaaa", sum := "cbd9ecb38b9e3785f98f8724015235fae5ed05eb3bf9680a478d74383191d82e", func := "loop.example/g01260/laws.FnExactNecklaceOf", spec := "fnExactNecklaceOf", apart := false, narrowed := true }
def FnExactNecklaceOfUptoSaid : Prop := fnExactNecklaceOfUptoRow.holds Try.pinned (OpenSpec.upto fnExactNecklaceOfSpec)

/-- 'laws.FnExactRootOf', WHERE WHAT IT READS IS OF BULK AT MOST 1048576: true; the input reads as it did. -/
def fnExactRootOfUptoRow : OpenClaim := { program := "ytgelajjjghboaaa", sum := "cbd9ecb38b9e3785f98f8724015235fae5ed05eb3bf9680a478d74383191d82e", func := "loop.example/g01260/laws.FnExactRootOf", spec := "fnExactRootOf", inPlace := ["internal/abi.NoEscape", "internal/bytealg.MakeNoZero"], apart := false, narrowed := true }
def FnExactRootOfUptoSaid : Prop := fnExactRootOfUptoRow.holds Try.pinned (OpenSpec.upto fnExactRootOfSpec)

/-- 'laws.FnExactCutOf', WHERE WHAT IT READS IS OF BULK AT MOST 1048576: true; the input reads as it did. -/
def fnExactCutOfUptoRow : OpenClaim := { program := "ytgelajjjghboaaa", sum := "cbd9ecb38b9e3785f98f8724015235fae5ed05eb3bf9680a478d74383191d82e", func := "loop.example/g01260/laws.FnExactCutOf", spec := "fnExactCutOf", apart := false, narrowed := true }
def FnExactCutOfUptoSaid : Prop := fnExactCutOfUptoRow.holds Try.pinned (OpenSpec.upto fnExactCutOfSpec)

/-- 'laws.FnExactFactorsOf', WHERE WHAT IT READS IS OF BULK AT MOST 1048576: true; the input reads as it did. -/
def fnExactFactorsOfUptoRow : OpenClaim := { program := "ytgelajjjghboaaa", sum := "cbd9ecb38b9e3785f98f8724015235fae5ed05eb3bf9680a478d74383191d82e", func := "loop.example/g01260/laws.FnExactFactorsOf", spec := "fnExactFactorsOf", unfollowed := true, recurses := true, apart := false, narrowed := true }
def FnExactFactorsOfUptoSaid : Prop := fnExactFactorsOfUptoRow.holds Try.pinned (OpenSpec.upto fnExactFactorsOfSpec)

/-- 'laws.FnExactNumberOfWord', WHERE WHAT IT READS IS OF BULK AT MOST 1048576: true; the input reads as it did. -/
def fnExactNumberOfWordUptoRow : OpenClaim := { program := "ytgelajjjghboaaa", sum := "cbd9ecb38b9e3785f98f8724015235fae5ed05eb3bf9680a478d74383191d82e", func := "loop.example/g01260/laws.FnExactNumberOfWord", spec := "fnExactNumberOfWord", apart := false, narrowed := true }
def FnExactNumberOfWordUptoSaid : Prop := fnExactNumberOfWordUptoRow.holds Try.pinned (OpenSpec.upto fnExactNumberOfWordSpec)

/-- 'laws.FnExactCutsOfWord', WHERE WHAT IT READS IS OF BULK AT MOST 1048576: true; the input reads as it did. -/
def fnExactCutsOfWordUptoRow : OpenClaim := { program := "ytgelajjjghboaaa", sum := "cbd9ecb38b9e3785f98f8724015235fae5ed05eb3bf9680a478d74383191d82e", func := "loop.example/g01260/laws.FnExactCutsOfWord", spec := "fnExactCutsOfWord", apart := false, narrowed := true }
def FnExactCutsOfWordUptoSaid : Prop := fnExactCutsOfWordUptoRow.holds Try.pinned (OpenSpec.upto fnExactCutsOfWordSpec)

end Rows
end Go.Proofs.Ytgelajjjghboaaa
