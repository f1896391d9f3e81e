/-
  No cell of these rows narrows 'for every input' (looked for: loops, veiled, ifaces, maps, wideKeys, modest, calm, conditions, laid).
  DERIVED. THE GIVEN ROWS OF THIS SEAT. 7 by the template 'for every input the law returns true; each argument reads behind the call as it read before'; 0 by the template 'total and deterministic' (their statements: YtdniocdmncldjaaTotals.lean).
  GIVEN WITH THE SEED: the statements are not yours to turn. If you find one false, say at which input.
  Laid BY PROGRAM, IN A SANDBOX (cutbox-rows.mjs): the forced cells as the released guide's own fill.sh prints them over the translation 1af252ad942b68a8… (all of the seat's roots in one cut). By AI agents, Wed Nov 11 2026. No macro, syntax, notation, axiom, sorry.
-/
import Derived.Test.YtdniocdmncldjaaChecked
import GoSem.Claim
import GoSem.ClaimJoined
import GoSem.ClaimMapViews
import Derived.JoinedTies
import Derived.KernelRfl
namespace Go.Proofs.Ytdniocdmncldjaa
/- THE CELL 'sum', in the pinned program and in every row, IS THE sha256 OF THE DUMP (.gsa) THAT YtdniocdmncldjaaProg.lean LOADS. Nothing in Lean hashes anything: it is a label: what it is worth is what the hold of that sum in a sandbox is worth. -/
noncomputable def Try.pinned : Pinned := { name := "ytdniocdmncldjaa", sum := "1af252ad942b68a8272a634edf28654f46d5d942daed0cb7657bb0ee3854ebbf", checked := Try.checked }
namespace Rows
def none {H : Type} : Left H := { results := [], args := [] }

/-- 'laws.FnRecurrences': WHATEVER THE INPUT: true; the input reads as it did. -/
def fnRecurrencesSpec : ChangeSpec := { name := "fnRecurrences", fn := fun _ => fun
  | [d] => { results := [.lit (.bool true)], args := [d] }
  | _ => none }
def fnRecurrencesRow : OpenClaim := { program := "ytdniocdmncldjaa", sum := "1af252ad942b68a8272a634edf28654f46d5d942daed0cb7657bb0ee3854ebbf", func := "loop.example/g00879/laws.FnRecurrences", spec := "fnRecurrences", unfollowed := true, recurses := true, apart := false }
def FnRecurrencesSaid : Prop := fnRecurrencesRow.holds Try.pinned (OpenSpec.ofChange fnRecurrencesSpec)

/-- ITS FALSE NEIGHBOUR: 'it returns false'. Refute it at one input. -/
def fnRecurrencesWrong : ChangeSpec := { name := "fnRecurrences", fn := fun _ => fun
  | [d] => { results := [.lit (.bool false)], args := [d] }
  | _ => none }
def FnRecurrencesWrongFalsely : Prop := fnRecurrencesRow.holds Try.pinned (OpenSpec.ofChange fnRecurrencesWrong)

/-- 'laws.FnExactSequenceLength': WHATEVER THE INPUT: true; the input reads as it did. -/
def fnExactSequenceLengthSpec : ChangeSpec := { name := "fnExactSequenceLength", fn := fun _ => fun
  | [d1, d2] => { results := [.lit (.bool true)], args := [d1, d2] }
  | _ => none }
def fnExactSequenceLengthRow : OpenClaim := { program := "ytdniocdmncldjaa", sum := "1af252ad942b68a8272a634edf28654f46d5d942daed0cb7657bb0ee3854ebbf", func := "loop.example/g00879/laws.FnExactSequenceLength", spec := "fnExactSequenceLength", unfollowed := true, recurses := true, apart := false }
def FnExactSequenceLengthSaid : Prop := fnExactSequenceLengthRow.holds Try.pinned (OpenSpec.ofChange fnExactSequenceLengthSpec)

/-- ITS FALSE NEIGHBOUR: 'it returns false'. Refute it at one input. -/
def fnExactSequenceLengthWrong : ChangeSpec := { name := "fnExactSequenceLength", fn := fun _ => fun
  | [d1, d2] => { results := [.lit (.bool false)], args := [d1, d2] }
  | _ => none }
def FnExactSequenceLengthWrongFalsely : Prop := fnExactSequenceLengthRow.holds Try.pinned (OpenSpec.ofChange fnExactSequenceLengthWrong)

/-- 'laws.FnExactRecurrenceOf': WHATEVER THE INPUT: true; the input reads as it did. -/
def fnExactRecurrenceOfSpec : ChangeSpec := { name := "fnExactRecurrenceOf", fn := fun _ => fun
  | [d1, d2] => { results := [.lit (.bool true)], args := [d1, d2] }
  | _ => none }
def fnExactRecurrenceOfRow : OpenClaim := { program := "ytdniocdmncldjaa", sum := "1af252ad942b68a8272a634edf28654f46d5d942daed0cb7657bb0ee3854ebbf", func := "loop.example/g00879/laws.FnExactRecurrenceOf", spec := "fnExactRecurrenceOf", unfollowed := true, recurses := true, apart := false }
def FnExactRecurrenceOfSaid : Prop := fnExactRecurrenceOfRow.holds Try.pinned (OpenSpec.ofChange fnExactRecurrenceOfSpec)

/-- ITS FALSE NEIGHBOUR: 'it returns false'. Refute it at one input. -/
def fnExactRecurrenceOfWrong : ChangeSpec := { name := "fnExactRecurrenceOf", fn := fun _ => fun
  | [d1, d2] => { results := [.lit (.bool false)], args := [d1, d2] }
  | _ => none }
def FnExactRecurrenceOfWrongFalsely : Prop := fnExactRecurrenceOfRow.holds Try.pinned (OpenSpec.ofChange fnExactRecurrenceOfWrong)

/-- 'laws.FnExactIsSatisfied': WHATEVER THE INPUT: true; the input reads as it did. -/
def fnExactIsSatisfiedSpec : ChangeSpec := { name := "fnExactIsSatisfied", fn := fun _ => fun
  | [d1, d2, d3, d4] => { results := [.lit (.bool true)], args := [d1, d2, d3, d4] }
  | _ => none }
def fnExactIsSatisfiedRow : OpenClaim := { program := "ytdniocdmncldjaa", sum := "1af252ad942b68a8272a634edf28654f46d5d942daed0cb7657bb0ee3854ebbf", func := "loop.example/g00879/laws.FnExactIsSatisfied", spec := "fnExactIsSatisfied", apart := false }
def FnExactIsSatisfiedSaid : Prop := fnExactIsSatisfiedRow.holds Try.pinned (OpenSpec.ofChange fnExactIsSatisfiedSpec)

/-- ITS FALSE NEIGHBOUR: 'it returns false'. Refute it at one input. -/
def fnExactIsSatisfiedWrong : ChangeSpec := { name := "fnExactIsSatisfied", fn := fun _ => fun
  | [d1, d2, d3, d4] => { results := [.lit (.bool false)], args := [d1, d2, d3, d4] }
  | _ => none }
def FnExactIsSatisfiedWrongFalsely : Prop := fnExactIsSatisfiedRow.holds Try.pinned (OpenSpec.ofChange fnExactIsSatisfiedWrong)

/-- 'laws.FnExactContinueSequence': WHATEVER THE INPUT: true; the input reads as it did. -/
def fnExactContinueSequenceSpec : ChangeSpec := { name := "fnExactContinueSequence", fn := fun _ => fun
  | [d1, d2, d3] => { results := [.lit (.bool true)], args := [d1, d2, d3] }
  | _ => none }
def fnExactContinueSequenceRow : OpenClaim := { program := "ytdniocdmncldjaa", sum := "1af252ad942b68a8272a634edf28654f46d5d942daed0cb7657bb0ee3854ebbf", func := "loop.example/g00879/laws.FnExactContinueSequence", spec := "fnExactContinueSequence", unfollowed := true, recurses := true, apart := false }
def FnExactContinueSequenceSaid : Prop := fnExactContinueSequenceRow.holds Try.pinned (OpenSpec.ofChange fnExactContinueSequenceSpec)

/-- ITS FALSE NEIGHBOUR: 'it returns false'. Refute it at one input. -/
def fnExactContinueSequenceWrong : ChangeSpec := { name := "fnExactContinueSequence", fn := fun _ => fun
  | [d1, d2, d3] => { results := [.lit (.bool false)], args := [d1, d2, d3] }
  | _ => none }
def FnExactContinueSequenceWrongFalsely : Prop := fnExactContinueSequenceRow.holds Try.pinned (OpenSpec.ofChange fnExactContinueSequenceWrong)

/-- 'laws.FnExactCorrectByRegister': WHATEVER THE INPUT: true; the input reads as it did. -/
def fnExactCorrectByRegisterSpec : ChangeSpec := { name := "fnExactCorrectByRegister", fn := fun _ => fun
  | [d1, d2, d3] => { results := [.lit (.bool true)], args := [d1, d2, d3] }
  | _ => none }
def fnExactCorrectByRegisterRow : OpenClaim := { program := "ytdniocdmncldjaa", sum := "1af252ad942b68a8272a634edf28654f46d5d942daed0cb7657bb0ee3854ebbf", func := "loop.example/g00879/laws.FnExactCorrectByRegister", spec := "fnExactCorrectByRegister", unfollowed := true, recurses := true, apart := false }
def FnExactCorrectByRegisterSaid : Prop := fnExactCorrectByRegisterRow.holds Try.pinned (OpenSpec.ofChange fnExactCorrectByRegisterSpec)

/-- ITS FALSE NEIGHBOUR: 'it returns false'. Refute it at one input. -/
def fnExactCorrectByRegisterWrong : ChangeSpec := { name := "fnExactCorrectByRegister", fn := fun _ => fun
  | [d1, d2, d3] => { results := [.lit (.bool false)], args := [d1, d2, d3] }
  | _ => none }
def FnExactCorrectByRegisterWrongFalsely : Prop := fnExactCorrectByRegisterRow.holds Try.pinned (OpenSpec.ofChange fnExactCorrectByRegisterWrong)

/-- 'laws.FnExactErrorLocator': WHATEVER THE INPUT: true; the input reads as it did. -/
def fnExactErrorLocatorSpec : ChangeSpec := { name := "fnExactErrorLocator", fn := fun _ => fun
  | [d1, d2] => { results := [.lit (.bool true)], args := [d1, d2] }
  | _ => none }
def fnExactErrorLocatorRow : OpenClaim := { program := "ytdniocdmncldjaa", sum := "1af252ad942b68a8272a634edf28654f46d5d942daed0cb7657bb0ee3854ebbf", func := "loop.example/g00879/laws.FnExactErrorLocator", spec := "fnExactErrorLocator", unfollowed := true, recurses := true, apart := false }
def FnExactErrorLocatorSaid : Prop := fnExactErrorLocatorRow.holds Try.pinned (OpenSpec.ofChange fnExactErrorLocatorSpec)

/-- ITS FALSE NEIGHBOUR: 'it returns false'. Refute it at one input. -/
def fnExactErrorLocatorWrong : ChangeSpec := { name := "fnExactErrorLocator", fn := fun _ => fun
  | [d1, d2] => { results := [.lit (.bool false)], args := [d1, d2] }
  | _ => none }
def FnExactErrorLocatorWrongFalsely : Prop := fnExactErrorLocatorRow.holds Try.pinned (OpenSpec.ofChange fnExactErrorLocatorWrong)

/- THE SECOND FORM. 'bulk': how many values and letters a reading holds, each counted each time it is reached (what is shared counts as often as it is met; a slice's spare places count too). A statement '..UptoSaid' is the law's where the arguments, and the package variables that the reading takes, are together of bulk at most 1048576: NARROWER than '..Said'. Prove '..Said' where nothing that the law and all that it calls make is longer than what came in: it says more and counts as full. Else prove '..UptoSaid'. A law counts once. -/
mutual
def uptoBulk {H : Type} : DataW H → Nat
  | .lit (.string bytes) => bytes.length + 1
  | .lit _ => 1
  | .nil => 1
  | .ptr d => uptoBulk d + 1
  | .slice elems spare => uptoBulkAll elems + uptoBulkAll spare + 1
  | .agg parts => uptoBulkAll parts + 1
  | .iface _ d => uptoBulk d + 1
  | .map entries => uptoBulkEntries entries + 1
  | .held _ => 1
def uptoBulkAll {H : Type} : List (DataW H) → Nat
  | [] => 0
  | d :: r => uptoBulk d + uptoBulkAll r
def uptoBulkEntries {H : Type} : List (Lit × DataW H) → Nat
  | [] => 0
  | x :: r => uptoBulkEntry x + uptoBulkEntries r
def uptoBulkEntry {H : Type} : Lit × DataW H → Nat
  | (.string bytes, d) => bytes.length + uptoBulk d + 1
  | (_, d) => uptoBulk d + 1
 end
def uptoSmall : (H : Type) → List (DataW H) → Bool := fun _ ds => decide (uptoBulkAll ds ≤ 1048576)
def OpenSpec.upto (s : _root_.Go.ChangeSpec) : _root_.Go.OpenSpec := { _root_.Go.OpenSpec.ofChange s with cond := some uptoSmall }

/-- 'laws.FnRecurrences', WHERE WHAT IT READS IS OF BULK AT MOST 1048576: true; the input reads as it did. -/
def fnRecurrencesUptoRow : OpenClaim := { program := "ytdniocdmncldjaa", sum := "1af252ad942b68a8272a634edf28654f46d5d942daed0cb7657bb0ee3854ebbf", func := "loop.example/g00879/laws.FnRecurrences", spec := "fnRecurrences", unfollowed := true, recurses := true, apart := false, narrowed := true }
def FnRecurrencesUptoSaid : Prop := fnRecurrencesUptoRow.holds Try.pinned (OpenSpec.upto fnRecurrencesSpec)

/-- 'laws.FnExactSequenceLength', WHERE WHAT IT READS IS OF BULK AT MOST 1048576: true; the input reads as it did. -/
def fnExactSequenceLengthUptoRow : OpenClaim := { program := "ytdniocdmncldjaa", sum := "1af252ad942b68a8272a634edf28654f46d5d942daed0cb7657bb0ee3854ebbf", func := "loop.example/g00879/laws.FnExactSequenceLength", spec := "fnExactSequenceLength", unfollowed := true, recurses := true, apart := false, narrowed := true }
def FnExactSequenceLengthUptoSaid : Prop := fnExactSequenceLengthUptoRow.holds Try.pinned (OpenSpec.upto fnExactSequenceLengthSpec)

/-- 'laws.FnExactRecurrenceOf', WHERE WHAT IT READS IS OF BULK AT MOST 1048576: true; the input reads as it did. -/
def fnExactRecurrenceOfUptoRow : OpenClaim := { program := "ytdniocdmncldjaa", sum := "1af252ad942b68a8272a634edf28654f46d5d942daed0cb7657bb0ee3854ebbf", func := "loop.example/g00879/laws.FnExactRecurrenceOf", spec := "fnExactRecurrenceOf", unfollowed := true, recurses := true, apart := false, narrowed := true }
def FnExactRecurrenceOfUptoSaid : Prop := fnExactRecurrenceOfUptoRow.holds Try.pinned (OpenSpec.upto fnExactRecurrenceOfSpec)

/-- 'laws.FnExactIsSatisfied', WHERE WHAT IT READS IS OF BULK AT MOST 1048576: true; the input reads as it did. -/
def fnExactIsSatisfiedUptoRow : OpenClaim := { program := "ytdniocdmncldjaa", sum := "1af252ad942b68a8272a634edf28654f46d5d942daed0cb7657bb0ee3854ebbf", func := "loop.example/g00879/laws.FnExactIsSatisfied", spec := "fnExactIsSatisfied", apart := false, narrowed := true }
def FnExactIsSatisfiedUptoSaid : Prop := fnExactIsSatisfiedUptoRow.holds Try.pinned (OpenSpec.upto fnExactIsSatisfiedSpec)

/-- 'laws.FnExactContinueSequence', WHERE WHAT IT READS IS OF BULK AT MOST 1048576: true; the input reads as it did. -/
def fnExactContinueSequenceUptoRow : OpenClaim := { program := "ytdniocdmncldjaa", sum := "1af252ad942b68a8272a634edf28654f46d5d942daed0cb7657bb0ee3854ebbf", func := "loop.example/g00879/laws.FnExactContinueSequence", spec := "fnExactContinueSequence", unfollowed := true, recurses := true, apart := false, narrowed := true }
def FnExactContinueSequenceUptoSaid : Prop := fnExactContinueSequenceUptoRow.holds Try.pinned (OpenSpec.upto fnExactContinueSequenceSpec)

/-- 'laws.FnExactCorrectByRegister', WHERE WHAT IT READS IS OF BULK AT MOST 1048576: true; the input reads as it did. -/
def fnExactCorrectByRegisterUptoRow : OpenClaim := { program := "ytdniocdmncldjaa", sum := "1af252ad942b68a8272a634edf28654f46d5d942daed0cb7657bb0ee3854ebbf", func := "loop.example/g00879/laws.FnExactCorrectByRegister", spec := "fnExactCorrectByRegister", unfollowed := true, recurses := true, apart := false, narrowed := true }
def FnExactCorrectByRegisterUptoSaid : Prop := fnExactCorrectByRegisterUptoRow.holds Try.pinned (OpenSpec.upto fnExactCorrectByRegisterSpec)

/-- 'laws.FnExactErrorLocator', WHERE WHAT IT READS IS OF BULK AT MOST 1048576: true; the input reads as it did. -/
def fnExactErrorLocatorUptoRow : OpenClaim := { program := "ytdniocdmncldjaa", sum := "1af252ad942b68a8272a634edf28654f46d5d942daed0cb7657bb0ee3854ebbf", func := "loop.example/g00879/laws.FnExactErrorLocator", spec := "fnExactErrorLocator", unfollowed := true, recurses := true, apart := false, narrowed := true }
def FnExactErrorLocatorUptoSaid : Prop := fnExactErrorLocatorUptoRow.holds Try.pinned (OpenSpec.upto fnExactErrorLocatorSpec)

end Rows
end Go.Proofs.Ytdniocdmncldjaa
