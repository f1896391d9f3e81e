/-
  No cell of these rows narrows 'for every input' (looked for: loops, veiled, ifaces, maps, wideKeys, modest, calm, conditions, laid).
  DERIVED. THE GIVEN ROWS OF THIS SEAT. 9 by the template 'for every input the law returns true; each argument reads behind the call as it read before'; 0 by the template 'total and deterministic' (their statements: YtpheembgjdgniaaTotals.lean).
  GIVEN WITH THE SEED: the statements are not yours to turn. If you find one false, say at which input.
  Laid BY PROGRAM, IN A SANDBOX (cutbox-rows.mjs): the forced cells as the released guide's own fill.sh prints them over the translation 61c3d01ffe825f7d… (all of the seat's roots in one cut). By AI agents, Wed Nov 11 2026. No macro, syntax, notation, axiom, sorry.
-/
import Derived.Test.YtpheembgjdgniaaChecked
import GoSem.Claim
import GoSem.ClaimJoined
import GoSem.ClaimMapViews
import Derived.JoinedTies
import Derived.KernelRfl
namespace Go.Proofs.Ytpheembgjdgniaa
/- THE CELL 'sum', in the pinned program and in every row, IS THE sha256 OF THE DUMP (.gsa) THAT YtpheembgjdgniaaProg.lean LOADS. Nothing in Lean hashes anything: it is a label: what it is worth is what the hold of that sum in a sandbox is worth. -/
noncomputable def Try.pinned : Pinned := { name := "ytpheembgjdgniaa", sum := "61c3d01ffe825f7dbf0ed7e3a491e14f21738efcf48fec930883cedf8d095cc3", checked := Try.checked }
namespace Rows
def none {H : Type} : Left H := { results := [], args := [] }

/-- 'laws.FnWithinBound': WHATEVER THE INPUT: true; the input reads as it did. -/
def fnWithinBoundSpec : ChangeSpec := { name := "fnWithinBound", fn := fun _ => fun
  | [d] => { results := [.lit (.bool true)], args := [d] }
  | _ => none }
def fnWithinBoundRow : OpenClaim := { program := "ytpheembgjdgniaa", sum := "61c3d01ffe825f7dbf0ed7e3a491e14f21738efcf48fec930883cedf8d095cc3", func := "loop.example/g00879/laws.FnWithinBound", spec := "fnWithinBound", apart := false }
def FnWithinBoundSaid : Prop := fnWithinBoundRow.holds Try.pinned (OpenSpec.ofChange fnWithinBoundSpec)

/-- ITS FALSE NEIGHBOUR: 'it returns false'. Refute it at one input. -/
def fnWithinBoundWrong : ChangeSpec := { name := "fnWithinBound", fn := fun _ => fun
  | [d] => { results := [.lit (.bool false)], args := [d] }
  | _ => none }
def FnWithinBoundWrongFalsely : Prop := fnWithinBoundRow.holds Try.pinned (OpenSpec.ofChange fnWithinBoundWrong)

/-- 'laws.FnErrorValues': WHATEVER THE INPUT: true; the input reads as it did. -/
def fnErrorValuesSpec : ChangeSpec := { name := "fnErrorValues", fn := fun _ => fun
  | [d] => { results := [.lit (.bool true)], args := [d] }
  | _ => none }
def fnErrorValuesRow : OpenClaim := { program := "ytpheembgjdgniaa", sum := "61c3d01ffe825f7dbf0ed7e3a491e14f21738efcf48fec930883cedf8d095cc3", func := "loop.example/g00879/laws.FnErrorValues", spec := "fnErrorValues", apart := false }
def FnErrorValuesSaid : Prop := fnErrorValuesRow.holds Try.pinned (OpenSpec.ofChange fnErrorValuesSpec)

/-- ITS FALSE NEIGHBOUR: 'it returns false'. Refute it at one input. -/
def fnErrorValuesWrong : ChangeSpec := { name := "fnErrorValues", fn := fun _ => fun
  | [d] => { results := [.lit (.bool false)], args := [d] }
  | _ => none }
def FnErrorValuesWrongFalsely : Prop := fnErrorValuesRow.holds Try.pinned (OpenSpec.ofChange fnErrorValuesWrong)

/-- 'laws.FnLocators': WHATEVER THE INPUT: true; the input reads as it did. -/
def fnLocatorsSpec : ChangeSpec := { name := "fnLocators", fn := fun _ => fun
  | [d] => { results := [.lit (.bool true)], args := [d] }
  | _ => none }
def fnLocatorsRow : OpenClaim := { program := "ytpheembgjdgniaa", sum := "61c3d01ffe825f7dbf0ed7e3a491e14f21738efcf48fec930883cedf8d095cc3", func := "loop.example/g00879/laws.FnLocators", spec := "fnLocators", apart := false }
def FnLocatorsSaid : Prop := fnLocatorsRow.holds Try.pinned (OpenSpec.ofChange fnLocatorsSpec)

/-- ITS FALSE NEIGHBOUR: 'it returns false'. Refute it at one input. -/
def fnLocatorsWrong : ChangeSpec := { name := "fnLocators", fn := fun _ => fun
  | [d] => { results := [.lit (.bool false)], args := [d] }
  | _ => none }
def FnLocatorsWrongFalsely : Prop := fnLocatorsRow.holds Try.pinned (OpenSpec.ofChange fnLocatorsWrong)

/-- 'laws.FnExactLocatorOf': WHATEVER THE INPUT: true; the input reads as it did. -/
def fnExactLocatorOfSpec : ChangeSpec := { name := "fnExactLocatorOf", fn := fun _ => fun
  | [d1, d2] => { results := [.lit (.bool true)], args := [d1, d2] }
  | _ => none }
def fnExactLocatorOfRow : OpenClaim := { program := "ytpheembgjdgniaa", sum := "61c3d01ffe825f7dbf0ed7e3a491e14f21738efcf48fec930883cedf8d095cc3", func := "loop.example/g00879/laws.FnExactLocatorOf", spec := "fnExactLocatorOf", apart := false }
def FnExactLocatorOfSaid : Prop := fnExactLocatorOfRow.holds Try.pinned (OpenSpec.ofChange fnExactLocatorOfSpec)

/-- ITS FALSE NEIGHBOUR: 'it returns false'. Refute it at one input. -/
def fnExactLocatorOfWrong : ChangeSpec := { name := "fnExactLocatorOf", fn := fun _ => fun
  | [d1, d2] => { results := [.lit (.bool false)], args := [d1, d2] }
  | _ => none }
def FnExactLocatorOfWrongFalsely : Prop := fnExactLocatorOfRow.holds Try.pinned (OpenSpec.ofChange fnExactLocatorOfWrong)

/-- 'laws.FnExactIndicesOf': WHATEVER THE INPUT: true; the input reads as it did. -/
def fnExactIndicesOfSpec : ChangeSpec := { name := "fnExactIndicesOf", fn := fun _ => fun
  | [d1, d2] => { results := [.lit (.bool true)], args := [d1, d2] }
  | _ => none }
def fnExactIndicesOfRow : OpenClaim := { program := "ytpheembgjdgniaa", sum := "61c3d01ffe825f7dbf0ed7e3a491e14f21738efcf48fec930883cedf8d095cc3", func := "loop.example/g00879/laws.FnExactIndicesOf", spec := "fnExactIndicesOf", apart := false }
def FnExactIndicesOfSaid : Prop := fnExactIndicesOfRow.holds Try.pinned (OpenSpec.ofChange fnExactIndicesOfSpec)

/-- ITS FALSE NEIGHBOUR: 'it returns false'. Refute it at one input. -/
def fnExactIndicesOfWrong : ChangeSpec := { name := "fnExactIndicesOf", fn := fun _ => fun
  | [d1, d2] => { results := [.lit (.bool false)], args := [d1, d2] }
  | _ => none }
def FnExactIndicesOfWrongFalsely : Prop := fnExactIndicesOfRow.holds Try.pinned (OpenSpec.ofChange fnExactIndicesOfWrong)

/-- 'laws.FnExactErrorValues': WHATEVER THE INPUT: true; the input reads as it did. -/
def fnExactErrorValuesSpec : ChangeSpec := { name := "fnExactErrorValues", fn := fun _ => fun
  | [d1, d2, d3] => { results := [.lit (.bool true)], args := [d1, d2, d3] }
  | _ => none }
def fnExactErrorValuesRow : OpenClaim := { program := "ytpheembgjdgniaa", sum := "61c3d01ffe825f7dbf0ed7e3a491e14f21738efcf48fec930883cedf8d095cc3", func := "loop.example/g00879/laws.FnExactErrorValues", spec := "fnExactErrorValues", apart := false }
def FnExactErrorValuesSaid : Prop := fnExactErrorValuesRow.holds Try.pinned (OpenSpec.ofChange fnExactErrorValuesSpec)

/-- ITS FALSE NEIGHBOUR: 'it returns false'. Refute it at one input. -/
def fnExactErrorValuesWrong : ChangeSpec := { name := "fnExactErrorValues", fn := fun _ => fun
  | [d1, d2, d3] => { results := [.lit (.bool false)], args := [d1, d2, d3] }
  | _ => none }
def FnExactErrorValuesWrongFalsely : Prop := fnExactErrorValuesRow.holds Try.pinned (OpenSpec.ofChange fnExactErrorValuesWrong)

/-- 'laws.FnExactCorrectWord': WHATEVER THE INPUT: true; the input reads as it did. -/
def fnExactCorrectWordSpec : ChangeSpec := { name := "fnExactCorrectWord", fn := fun _ => fun
  | [d1, d2, d3] => { results := [.lit (.bool true)], args := [d1, d2, d3] }
  | _ => none }
def fnExactCorrectWordRow : OpenClaim := { program := "ytpheembgjdgniaa", sum := "61c3d01ffe825f7dbf0ed7e3a491e14f21738efcf48fec930883cedf8d095cc3", func := "loop.example/g00879/laws.FnExactCorrectWord", spec := "fnExactCorrectWord", apart := false }
def FnExactCorrectWordSaid : Prop := fnExactCorrectWordRow.holds Try.pinned (OpenSpec.ofChange fnExactCorrectWordSpec)

/-- ITS FALSE NEIGHBOUR: 'it returns false'. Refute it at one input. -/
def fnExactCorrectWordWrong : ChangeSpec := { name := "fnExactCorrectWord", fn := fun _ => fun
  | [d1, d2, d3] => { results := [.lit (.bool false)], args := [d1, d2, d3] }
  | _ => none }
def FnExactCorrectWordWrongFalsely : Prop := fnExactCorrectWordRow.holds Try.pinned (OpenSpec.ofChange fnExactCorrectWordWrong)

/-- 'laws.FnExactIsCorrectable': WHATEVER THE INPUT: true; the input reads as it did. -/
def fnExactIsCorrectableSpec : ChangeSpec := { name := "fnExactIsCorrectable", fn := fun _ => fun
  | [d1, d2, d3] => { results := [.lit (.bool true)], args := [d1, d2, d3] }
  | _ => none }
def fnExactIsCorrectableRow : OpenClaim := { program := "ytpheembgjdgniaa", sum := "61c3d01ffe825f7dbf0ed7e3a491e14f21738efcf48fec930883cedf8d095cc3", func := "loop.example/g00879/laws.FnExactIsCorrectable", spec := "fnExactIsCorrectable", apart := false }
def FnExactIsCorrectableSaid : Prop := fnExactIsCorrectableRow.holds Try.pinned (OpenSpec.ofChange fnExactIsCorrectableSpec)

/-- ITS FALSE NEIGHBOUR: 'it returns false'. Refute it at one input. -/
def fnExactIsCorrectableWrong : ChangeSpec := { name := "fnExactIsCorrectable", fn := fun _ => fun
  | [d1, d2, d3] => { results := [.lit (.bool false)], args := [d1, d2, d3] }
  | _ => none }
def FnExactIsCorrectableWrongFalsely : Prop := fnExactIsCorrectableRow.holds Try.pinned (OpenSpec.ofChange fnExactIsCorrectableWrong)

/-- 'laws.FnExactDamageOf': WHATEVER THE INPUT: true; the input reads as it did. -/
def fnExactDamageOfSpec : ChangeSpec := { name := "fnExactDamageOf", fn := fun _ => fun
  | [d1, d2, d3, d4] => { results := [.lit (.bool true)], args := [d1, d2, d3, d4] }
  | _ => none }
def fnExactDamageOfRow : OpenClaim := { program := "ytpheembgjdgniaa", sum := "61c3d01ffe825f7dbf0ed7e3a491e14f21738efcf48fec930883cedf8d095cc3", func := "loop.example/g00879/laws.FnExactDamageOf", spec := "fnExactDamageOf", apart := false }
def FnExactDamageOfSaid : Prop := fnExactDamageOfRow.holds Try.pinned (OpenSpec.ofChange fnExactDamageOfSpec)

/-- ITS FALSE NEIGHBOUR: 'it returns false'. Refute it at one input. -/
def fnExactDamageOfWrong : ChangeSpec := { name := "fnExactDamageOf", fn := fun _ => fun
  | [d1, d2, d3, d4] => { results := [.lit (.bool false)], args := [d1, d2, d3, d4] }
  | _ => none }
def FnExactDamageOfWrongFalsely : Prop := fnExactDamageOfRow.holds Try.pinned (OpenSpec.ofChange fnExactDamageOfWrong)

/- THE SECOND FORM. 'bulk': how many values and letters a reading holds, each counted each time it is reached (what is shared counts as often as it is met; a slice's spare places count too). A statement '..UptoSaid' is the law's where the arguments, and the package variables that the reading takes, are together of bulk at most 1048576: NARROWER than '..Said'. Prove '..Said' where nothing that the law and all that it calls make is longer than what came in: it says more and counts as full. Else prove '..UptoSaid'. A law counts once. -/
mutual
def uptoBulk {H : Type} : DataW H → Nat
  | .lit (.string bytes) => bytes.length + 1
  | .lit _ => 1
  | .nil => 1
  | .ptr d => uptoBulk d + 1
  | .slice elems spare => uptoBulkAll elems + uptoBulkAll spare + 1
  | .agg parts => uptoBulkAll parts + 1
  | .iface _ d => uptoBulk d + 1
  | .map entries => uptoBulkEntries entries + 1
  | .held _ => 1
def uptoBulkAll {H : Type} : List (DataW H) → Nat
  | [] => 0
  | d :: r => uptoBulk d + uptoBulkAll r
def uptoBulkEntries {H : Type} : List (Lit × DataW H) → Nat
  | [] => 0
  | x :: r => uptoBulkEntry x + uptoBulkEntries r
def uptoBulkEntry {H : Type} : Lit × DataW H → Nat
  | (.string bytes, d) => bytes.length + uptoBulk d + 1
  | (_, d) => uptoBulk d + 1
 end
def uptoSmall : (H : Type) → List (DataW H) → Bool := fun _ ds => decide (uptoBulkAll ds ≤ 1048576)
def OpenSpec.upto (s : _root_.Go.ChangeSpec) : _root_.Go.OpenSpec := { _root_.Go.OpenSpec.ofChange s with cond := some uptoSmall }

/-- 'laws.FnWithinBound', WHERE WHAT IT READS IS OF BULK AT MOST 1048576: true; the input reads as it did. -/
def fnWithinBoundUptoRow : OpenClaim := { program := "ytpheembgjdgniaa", sum := "61c3d01ffe825f7dbf0ed7e3a491e14f21738efcf48fec930883cedf8d095cc3", func := "loop.example/g00879/laws.FnWithinBound", spec := "fnWithinBound", apart := false, narrowed := true }
def FnWithinBoundUptoSaid : Prop := fnWithinBoundUptoRow.holds Try.pinned (OpenSpec.upto fnWithinBoundSpec)

/-- 'laws.FnErrorValues', WHERE WHAT IT READS IS OF BULK AT MOST 1048576: true; the input reads as it did. -/
def fnErrorValuesUptoRow : OpenClaim := { program := "ytpheembgjdgniaa", sum := "61c3d01ffe825f7dbf0ed7e3a491e14f21738efcf48fec930883cedf8d095cc3", func := "loop.example/g00879/laws.FnErrorValues", spec := "fnErrorValues", apart := false, narrowed := true }
def FnErrorValuesUptoSaid : Prop := fnErrorValuesUptoRow.holds Try.pinned (OpenSpec.upto fnErrorValuesSpec)

/-- 'laws.FnLocators', WHERE WHAT IT READS IS OF BULK AT MOST 1048576: true; the input reads as it did. -/
def fnLocatorsUptoRow : OpenClaim := { program := "ytpheembgjdgniaa", sum := "61c3d01ffe825f7dbf0ed7e3a491e14f21738efcf48fec930883cedf8d095cc3", func := "loop.example/g00879/laws.FnLocators", spec := "fnLocators", apart := false, narrowed := true }
def FnLocatorsUptoSaid : Prop := fnLocatorsUptoRow.holds Try.pinned (OpenSpec.upto fnLocatorsSpec)

/-- 'laws.FnExactLocatorOf', WHERE WHAT IT READS IS OF BULK AT MOST 1048576: true; the input reads as it did. -/
def fnExactLocatorOfUptoRow : OpenClaim := { program := "ytpheembgjdgniaa", sum := "61c3d01ffe825f7dbf0ed7e3a491e14f21738efcf48fec930883cedf8d095cc3", func := "loop.example/g00879/laws.FnExactLocatorOf", spec := "fnExactLocatorOf", apart := false, narrowed := true }
def FnExactLocatorOfUptoSaid : Prop := fnExactLocatorOfUptoRow.holds Try.pinned (OpenSpec.upto fnExactLocatorOfSpec)

/-- 'laws.FnExactIndicesOf', WHERE WHAT IT READS IS OF BULK AT MOST 1048576: true; the input reads as it did. -/
def fnExactIndicesOfUptoRow : OpenClaim := { program := "ytpheembgjdgniaa", sum := "61c3d01ffe825f7dbf0ed7e3a491e14f21738efcf48fec930883cedf8d095cc3", func := "loop.example/g00879/laws.FnExactIndicesOf", spec := "fnExactIndicesOf", apart := false, narrowed := true }
def FnExactIndicesOfUptoSaid : Prop := fnExactIndicesOfUptoRow.holds Try.pinned (OpenSpec.upto fnExactIndicesOfSpec)

/-- 'laws.FnExactErrorValues', WHERE WHAT IT READS IS OF BULK AT MOST 1048576: true; the input reads as it did. -/
def fnExactErrorValuesUptoRow : OpenClaim := { program := "ytpheembgjdgniaa", sum := "61c3d01ffe825f7dbf0ed7e3a491e14f21738efcf48fec930883cedf8d095cc3", func := "loop.example/g00879/laws.FnExactErrorValues", spec := "fnExactErrorValues", apart := false, narrowed := true }
def FnExactErrorValuesUptoSaid : Prop := fnExactErrorValuesUptoRow.holds Try.pinned (OpenSpec.upto fnExactErrorValuesSpec)

/-- 'laws.FnExactCorrectWord', WHERE WHAT IT READS IS OF BULK AT MOST 1048576: true; the input reads as it did. -/
def fnExactCorrectWordUptoRow : OpenClaim := { program := "ytpheembgjdgniaa", sum := "61c3d01ffe825f7dbf0ed7e3a491e14f21738efcf48fec930883cedf8d095cc3", func := "loop.example/g00879/laws.FnExactCorrectWord", spec := "fnExactCorrectWord", apart := false, narrowed := true }
def FnExactCorrectWordUptoSaid : Prop := fnExactCorrectWordUptoRow.holds Try.pinned (OpenSpec.upto fnExactCorrectWordSpec)

/-- 'laws.FnExactIsCorrectable', WHERE WHAT IT READS IS OF BULK AT MOST 1048576: true; the input reads as it did. -/
def fnExactIsCorrectableUptoRow : OpenClaim := { program := "ytpheembgjdgniaa", sum := "61c3d01ffe825f7dbf0ed7e3a491e14f21738efcf48fec930883cedf8d095cc3", func := "loop.example/g00879/laws.FnExactIsCorrectable", spec := "fnExactIsCorrectable", apart := false, narrowed := true }
def FnExactIsCorrectableUptoSaid : Prop := fnExactIsCorrectableUptoRow.holds Try.pinned (OpenSpec.upto fnExactIsCorrectableSpec)

/-- 'laws.FnExactDamageOf', WHERE WHAT IT READS IS OF BULK AT MOST 1048576: true; the input reads as it did. -/
def fnExactDamageOfUptoRow : OpenClaim := { program := "ytpheembgjdgniaa", sum := "61c3d01ffe825f7dbf0ed7e3a491e14f21738efcf48fec930883cedf8d095cc3", func := "loop.example/g00879/laws.FnExactDamageOf", spec := "fnExactDamageOf", apart := false, narrowed := true }
def FnExactDamageOfUptoSaid : Prop := fnExactDamageOfUptoRow.holds Try.pinned (OpenSpec.upto fnExactDamageOfSpec)

end Rows
end Go.Proofs.Ytpheembgjdgniaa
