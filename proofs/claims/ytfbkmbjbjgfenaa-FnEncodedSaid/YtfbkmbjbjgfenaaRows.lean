/-
  No cell of these rows narrows 'for every input' (looked for: loops, veiled, ifaces, maps, wideKeys, modest, calm, conditions, laid).
  DERIVED. THE GIVEN ROWS OF THIS SEAT. 13 by the template 'for every input the law returns true; each argument reads behind the call as it read before'; 0 by the template 'total and deterministic' (their statements: YtfbkmbjbjgfenaaTotals.lean).
  GIVEN WITH THE SEED: the statements are not yours to turn. If you find one false, say at which input.
  Laid BY PROGRAM, IN A SANDBOX (cutbox-rows.mjs): the forced cells as the released guide's own fill.sh prints them over the translation 4cff7133c1473d06… (all of the seat's roots in one cut). By AI agents, Wed Nov 11 2026. No macro, syntax, notation, axiom, sorry.
-/
import Derived.Test.YtfbkmbjbjgfenaaChecked
import GoSem.Claim
import GoSem.ClaimJoined
import GoSem.ClaimMapViews
import Derived.JoinedTies
import Derived.KernelRfl
namespace Go.Proofs.Ytfbkmbjbjgfenaa
/- THE CELL 'sum', in the pinned program and in every row, IS THE sha256 OF THE DUMP (.gsa) THAT YtfbkmbjbjgfenaaProg.lean LOADS. Nothing in Lean hashes anything: it is a label: what it is worth is what the hold of that sum in a sandbox is worth. -/
noncomputable def Try.pinned : Pinned := { name := "ytfbkmbjbjgfenaa", sum := "4cff7133c1473d06e23ab70c73a6a473e5346453ee1e595dfd3572830ba7d860", checked := Try.checked }
namespace Rows
def none {H : Type} : Left H := { results := [], args := [] }

/-- 'laws.FnEncoded': WHATEVER THE INPUT: true; the input reads as it did. -/
def fnEncodedSpec : ChangeSpec := { name := "fnEncoded", fn := fun _ => fun
  | [d] => { results := [.lit (.bool true)], args := [d] }
  | _ => none }
def fnEncodedRow : OpenClaim := { program := "ytfbkmbjbjgfenaa", sum := "4cff7133c1473d06e23ab70c73a6a473e5346453ee1e595dfd3572830ba7d860", func := "loop.example/g00879/laws.FnEncoded", spec := "fnEncoded", unfollowed := true, recurses := true, apart := false }
def FnEncodedSaid : Prop := fnEncodedRow.holds Try.pinned (OpenSpec.ofChange fnEncodedSpec)

/-- ITS FALSE NEIGHBOUR: 'it returns false'. Refute it at one input. -/
def fnEncodedWrong : ChangeSpec := { name := "fnEncoded", fn := fun _ => fun
  | [d] => { results := [.lit (.bool false)], args := [d] }
  | _ => none }
def FnEncodedWrongFalsely : Prop := fnEncodedRow.holds Try.pinned (OpenSpec.ofChange fnEncodedWrong)

/-- 'laws.FnCodeSums': WHATEVER THE INPUT: true; the input reads as it did. -/
def fnCodeSumsSpec : ChangeSpec := { name := "fnCodeSums", fn := fun _ => fun
  | [d] => { results := [.lit (.bool true)], args := [d] }
  | _ => none }
def fnCodeSumsRow : OpenClaim := { program := "ytfbkmbjbjgfenaa", sum := "4cff7133c1473d06e23ab70c73a6a473e5346453ee1e595dfd3572830ba7d860", func := "loop.example/g00879/laws.FnCodeSums", spec := "fnCodeSums", unfollowed := true, recurses := true, apart := false }
def FnCodeSumsSaid : Prop := fnCodeSumsRow.holds Try.pinned (OpenSpec.ofChange fnCodeSumsSpec)

/-- ITS FALSE NEIGHBOUR: 'it returns false'. Refute it at one input. -/
def fnCodeSumsWrong : ChangeSpec := { name := "fnCodeSums", fn := fun _ => fun
  | [d] => { results := [.lit (.bool false)], args := [d] }
  | _ => none }
def FnCodeSumsWrongFalsely : Prop := fnCodeSumsRow.holds Try.pinned (OpenSpec.ofChange fnCodeSumsWrong)

/-- 'laws.FnCodeDistance': WHATEVER THE INPUT: true; the input reads as it did. -/
def fnCodeDistanceSpec : ChangeSpec := { name := "fnCodeDistance", fn := fun _ => fun
  | [d] => { results := [.lit (.bool true)], args := [d] }
  | _ => none }
def fnCodeDistanceRow : OpenClaim := { program := "ytfbkmbjbjgfenaa", sum := "4cff7133c1473d06e23ab70c73a6a473e5346453ee1e595dfd3572830ba7d860", func := "loop.example/g00879/laws.FnCodeDistance", spec := "fnCodeDistance", apart := false }
def FnCodeDistanceSaid : Prop := fnCodeDistanceRow.holds Try.pinned (OpenSpec.ofChange fnCodeDistanceSpec)

/-- ITS FALSE NEIGHBOUR: 'it returns false'. Refute it at one input. -/
def fnCodeDistanceWrong : ChangeSpec := { name := "fnCodeDistance", fn := fun _ => fun
  | [d] => { results := [.lit (.bool false)], args := [d] }
  | _ => none }
def FnCodeDistanceWrongFalsely : Prop := fnCodeDistanceRow.holds Try.pinned (OpenSpec.ofChange fnCodeDistanceWrong)

/-- 'laws.FnGenerator': WHATEVER THE INPUT: true; the input reads as it did. -/
def fnGeneratorSpec : ChangeSpec := { name := "fnGenerator", fn := fun _ => fun
  | [d] => { results := [.lit (.bool true)], args := [d] }
  | _ => none }
def fnGeneratorRow : OpenClaim := { program := "ytfbkmbjbjgfenaa", sum := "4cff7133c1473d06e23ab70c73a6a473e5346453ee1e595dfd3572830ba7d860", func := "loop.example/g00879/laws.FnGenerator", spec := "fnGenerator", unfollowed := true, recurses := true, apart := false }
def FnGeneratorSaid : Prop := fnGeneratorRow.holds Try.pinned (OpenSpec.ofChange fnGeneratorSpec)

/-- ITS FALSE NEIGHBOUR: 'it returns false'. Refute it at one input. -/
def fnGeneratorWrong : ChangeSpec := { name := "fnGenerator", fn := fun _ => fun
  | [d] => { results := [.lit (.bool false)], args := [d] }
  | _ => none }
def FnGeneratorWrongFalsely : Prop := fnGeneratorRow.holds Try.pinned (OpenSpec.ofChange fnGeneratorWrong)

/-- 'laws.FnExactIsCode': WHATEVER THE INPUT: true; the input reads as it did. -/
def fnExactIsCodeSpec : ChangeSpec := { name := "fnExactIsCode", fn := fun _ => fun
  | [d] => { results := [.lit (.bool true)], args := [d] }
  | _ => none }
def fnExactIsCodeRow : OpenClaim := { program := "ytfbkmbjbjgfenaa", sum := "4cff7133c1473d06e23ab70c73a6a473e5346453ee1e595dfd3572830ba7d860", func := "loop.example/g00879/laws.FnExactIsCode", spec := "fnExactIsCode", apart := false }
def FnExactIsCodeSaid : Prop := fnExactIsCodeRow.holds Try.pinned (OpenSpec.ofChange fnExactIsCodeSpec)

/-- ITS FALSE NEIGHBOUR: 'it returns false'. Refute it at one input. -/
def fnExactIsCodeWrong : ChangeSpec := { name := "fnExactIsCode", fn := fun _ => fun
  | [d] => { results := [.lit (.bool false)], args := [d] }
  | _ => none }
def FnExactIsCodeWrongFalsely : Prop := fnExactIsCodeRow.holds Try.pinned (OpenSpec.ofChange fnExactIsCodeWrong)

/-- 'laws.FnExactGeneratorOf': WHATEVER THE INPUT: true; the input reads as it did. -/
def fnExactGeneratorOfSpec : ChangeSpec := { name := "fnExactGeneratorOf", fn := fun _ => fun
  | [d] => { results := [.lit (.bool true)], args := [d] }
  | _ => none }
def fnExactGeneratorOfRow : OpenClaim := { program := "ytfbkmbjbjgfenaa", sum := "4cff7133c1473d06e23ab70c73a6a473e5346453ee1e595dfd3572830ba7d860", func := "loop.example/g00879/laws.FnExactGeneratorOf", spec := "fnExactGeneratorOf", apart := false }
def FnExactGeneratorOfSaid : Prop := fnExactGeneratorOfRow.holds Try.pinned (OpenSpec.ofChange fnExactGeneratorOfSpec)

/-- ITS FALSE NEIGHBOUR: 'it returns false'. Refute it at one input. -/
def fnExactGeneratorOfWrong : ChangeSpec := { name := "fnExactGeneratorOf", fn := fun _ => fun
  | [d] => { results := [.lit (.bool false)], args := [d] }
  | _ => none }
def FnExactGeneratorOfWrongFalsely : Prop := fnExactGeneratorOfRow.holds Try.pinned (OpenSpec.ofChange fnExactGeneratorOfWrong)

/-- 'laws.FnExactEncodeWord': WHATEVER THE INPUT: true; the input reads as it did. -/
def fnExactEncodeWordSpec : ChangeSpec := { name := "fnExactEncodeWord", fn := fun _ => fun
  | [d1, d2] => { results := [.lit (.bool true)], args := [d1, d2] }
  | _ => none }
def fnExactEncodeWordRow : OpenClaim := { program := "ytfbkmbjbjgfenaa", sum := "4cff7133c1473d06e23ab70c73a6a473e5346453ee1e595dfd3572830ba7d860", func := "loop.example/g00879/laws.FnExactEncodeWord", spec := "fnExactEncodeWord", apart := false }
def FnExactEncodeWordSaid : Prop := fnExactEncodeWordRow.holds Try.pinned (OpenSpec.ofChange fnExactEncodeWordSpec)

/-- ITS FALSE NEIGHBOUR: 'it returns false'. Refute it at one input. -/
def fnExactEncodeWordWrong : ChangeSpec := { name := "fnExactEncodeWord", fn := fun _ => fun
  | [d1, d2] => { results := [.lit (.bool false)], args := [d1, d2] }
  | _ => none }
def FnExactEncodeWordWrongFalsely : Prop := fnExactEncodeWordRow.holds Try.pinned (OpenSpec.ofChange fnExactEncodeWordWrong)

/-- 'laws.FnExactIsCodeWord': WHATEVER THE INPUT: true; the input reads as it did. -/
def fnExactIsCodeWordSpec : ChangeSpec := { name := "fnExactIsCodeWord", fn := fun _ => fun
  | [d1, d2] => { results := [.lit (.bool true)], args := [d1, d2] }
  | _ => none }
def fnExactIsCodeWordRow : OpenClaim := { program := "ytfbkmbjbjgfenaa", sum := "4cff7133c1473d06e23ab70c73a6a473e5346453ee1e595dfd3572830ba7d860", func := "loop.example/g00879/laws.FnExactIsCodeWord", spec := "fnExactIsCodeWord", unfollowed := true, recurses := true, apart := false }
def FnExactIsCodeWordSaid : Prop := fnExactIsCodeWordRow.holds Try.pinned (OpenSpec.ofChange fnExactIsCodeWordSpec)

/-- ITS FALSE NEIGHBOUR: 'it returns false'. Refute it at one input. -/
def fnExactIsCodeWordWrong : ChangeSpec := { name := "fnExactIsCodeWord", fn := fun _ => fun
  | [d1, d2] => { results := [.lit (.bool false)], args := [d1, d2] }
  | _ => none }
def FnExactIsCodeWordWrongFalsely : Prop := fnExactIsCodeWordRow.holds Try.pinned (OpenSpec.ofChange fnExactIsCodeWordWrong)

/-- 'laws.FnExactSyndromesOf': WHATEVER THE INPUT: true; the input reads as it did. -/
def fnExactSyndromesOfSpec : ChangeSpec := { name := "fnExactSyndromesOf", fn := fun _ => fun
  | [d1, d2] => { results := [.lit (.bool true)], args := [d1, d2] }
  | _ => none }
def fnExactSyndromesOfRow : OpenClaim := { program := "ytfbkmbjbjgfenaa", sum := "4cff7133c1473d06e23ab70c73a6a473e5346453ee1e595dfd3572830ba7d860", func := "loop.example/g00879/laws.FnExactSyndromesOf", spec := "fnExactSyndromesOf", apart := false }
def FnExactSyndromesOfSaid : Prop := fnExactSyndromesOfRow.holds Try.pinned (OpenSpec.ofChange fnExactSyndromesOfSpec)

/-- ITS FALSE NEIGHBOUR: 'it returns false'. Refute it at one input. -/
def fnExactSyndromesOfWrong : ChangeSpec := { name := "fnExactSyndromesOf", fn := fun _ => fun
  | [d1, d2] => { results := [.lit (.bool false)], args := [d1, d2] }
  | _ => none }
def FnExactSyndromesOfWrongFalsely : Prop := fnExactSyndromesOfRow.holds Try.pinned (OpenSpec.ofChange fnExactSyndromesOfWrong)

/-- 'laws.FnExactMessageOf': WHATEVER THE INPUT: true; the input reads as it did. -/
def fnExactMessageOfSpec : ChangeSpec := { name := "fnExactMessageOf", fn := fun _ => fun
  | [d1, d2] => { results := [.lit (.bool true)], args := [d1, d2] }
  | _ => none }
def fnExactMessageOfRow : OpenClaim := { program := "ytfbkmbjbjgfenaa", sum := "4cff7133c1473d06e23ab70c73a6a473e5346453ee1e595dfd3572830ba7d860", func := "loop.example/g00879/laws.FnExactMessageOf", spec := "fnExactMessageOf", apart := false }
def FnExactMessageOfSaid : Prop := fnExactMessageOfRow.holds Try.pinned (OpenSpec.ofChange fnExactMessageOfSpec)

/-- ITS FALSE NEIGHBOUR: 'it returns false'. Refute it at one input. -/
def fnExactMessageOfWrong : ChangeSpec := { name := "fnExactMessageOf", fn := fun _ => fun
  | [d1, d2] => { results := [.lit (.bool false)], args := [d1, d2] }
  | _ => none }
def FnExactMessageOfWrongFalsely : Prop := fnExactMessageOfRow.holds Try.pinned (OpenSpec.ofChange fnExactMessageOfWrong)

/-- 'laws.FnExactWordDistance': WHATEVER THE INPUT: true; the input reads as it did. -/
def fnExactWordDistanceSpec : ChangeSpec := { name := "fnExactWordDistance", fn := fun _ => fun
  | [d1, d2] => { results := [.lit (.bool true)], args := [d1, d2] }
  | _ => none }
def fnExactWordDistanceRow : OpenClaim := { program := "ytfbkmbjbjgfenaa", sum := "4cff7133c1473d06e23ab70c73a6a473e5346453ee1e595dfd3572830ba7d860", func := "loop.example/g00879/laws.FnExactWordDistance", spec := "fnExactWordDistance", apart := false }
def FnExactWordDistanceSaid : Prop := fnExactWordDistanceRow.holds Try.pinned (OpenSpec.ofChange fnExactWordDistanceSpec)

/-- ITS FALSE NEIGHBOUR: 'it returns false'. Refute it at one input. -/
def fnExactWordDistanceWrong : ChangeSpec := { name := "fnExactWordDistance", fn := fun _ => fun
  | [d1, d2] => { results := [.lit (.bool false)], args := [d1, d2] }
  | _ => none }
def FnExactWordDistanceWrongFalsely : Prop := fnExactWordDistanceRow.holds Try.pinned (OpenSpec.ofChange fnExactWordDistanceWrong)

/-- 'laws.FnExactIsWithin': WHATEVER THE INPUT: true; the input reads as it did. -/
def fnExactIsWithinSpec : ChangeSpec := { name := "fnExactIsWithin", fn := fun _ => fun
  | [d1, d2, d3] => { results := [.lit (.bool true)], args := [d1, d2, d3] }
  | _ => none }
def fnExactIsWithinRow : OpenClaim := { program := "ytfbkmbjbjgfenaa", sum := "4cff7133c1473d06e23ab70c73a6a473e5346453ee1e595dfd3572830ba7d860", func := "loop.example/g00879/laws.FnExactIsWithin", spec := "fnExactIsWithin", apart := false }
def FnExactIsWithinSaid : Prop := fnExactIsWithinRow.holds Try.pinned (OpenSpec.ofChange fnExactIsWithinSpec)

/-- ITS FALSE NEIGHBOUR: 'it returns false'. Refute it at one input. -/
def fnExactIsWithinWrong : ChangeSpec := { name := "fnExactIsWithin", fn := fun _ => fun
  | [d1, d2, d3] => { results := [.lit (.bool false)], args := [d1, d2, d3] }
  | _ => none }
def FnExactIsWithinWrongFalsely : Prop := fnExactIsWithinRow.holds Try.pinned (OpenSpec.ofChange fnExactIsWithinWrong)

/-- 'laws.FnExactAddWords': WHATEVER THE INPUT: true; the input reads as it did. -/
def fnExactAddWordsSpec : ChangeSpec := { name := "fnExactAddWords", fn := fun _ => fun
  | [d1, d2, d3] => { results := [.lit (.bool true)], args := [d1, d2, d3] }
  | _ => none }
def fnExactAddWordsRow : OpenClaim := { program := "ytfbkmbjbjgfenaa", sum := "4cff7133c1473d06e23ab70c73a6a473e5346453ee1e595dfd3572830ba7d860", func := "loop.example/g00879/laws.FnExactAddWords", spec := "fnExactAddWords", apart := false }
def FnExactAddWordsSaid : Prop := fnExactAddWordsRow.holds Try.pinned (OpenSpec.ofChange fnExactAddWordsSpec)

/-- ITS FALSE NEIGHBOUR: 'it returns false'. Refute it at one input. -/
def fnExactAddWordsWrong : ChangeSpec := { name := "fnExactAddWords", fn := fun _ => fun
  | [d1, d2, d3] => { results := [.lit (.bool false)], args := [d1, d2, d3] }
  | _ => none }
def FnExactAddWordsWrongFalsely : Prop := fnExactAddWordsRow.holds Try.pinned (OpenSpec.ofChange fnExactAddWordsWrong)

/- THE SECOND FORM. 'bulk': how many values and letters a reading holds, each counted each time it is reached (what is shared counts as often as it is met; a slice's spare places count too). A statement '..UptoSaid' is the law's where the arguments, and the package variables that the reading takes, are together of bulk at most 1048576: NARROWER than '..Said'. Prove '..Said' where nothing that the law and all that it calls make is longer than what came in: it says more and counts as full. Else prove '..UptoSaid'. A law counts once. -/
mutual
def uptoBulk {H : Type} : DataW H → Nat
  | .lit (.string bytes) => bytes.length + 1
  | .lit _ => 1
  | .nil => 1
  | .ptr d => uptoBulk d + 1
  | .slice elems spare => uptoBulkAll elems + uptoBulkAll spare + 1
  | .agg parts => uptoBulkAll parts + 1
  | .iface _ d => uptoBulk d + 1
  | .map entries => uptoBulkEntries entries + 1
  | .held _ => 1
def uptoBulkAll {H : Type} : List (DataW H) → Nat
  | [] => 0
  | d :: r => uptoBulk d + uptoBulkAll r
def uptoBulkEntries {H : Type} : List (Lit × DataW H) → Nat
  | [] => 0
  | x :: r => uptoBulkEntry x + uptoBulkEntries r
def uptoBulkEntry {H : Type} : Lit × DataW H → Nat
  | (.string bytes, d) => bytes.length + uptoBulk d + 1
  | (_, d) => uptoBulk d + 1
 end
def uptoSmall : (H : Type) → List (DataW H) → Bool := fun _ ds => decide (uptoBulkAll ds ≤ 1048576)
def OpenSpec.upto (s : _root_.Go.ChangeSpec) : _root_.Go.OpenSpec := { _root_.Go.OpenSpec.ofChange s with cond := some uptoSmall }

/-- 'laws.FnEncoded', WHERE WHAT IT READS IS OF BULK AT MOST 1048576: true; the input reads as it did. -/
def fnEncodedUptoRow : OpenClaim := { program := "ytfbkmbjbjgfenaa", sum := "4cff7133c1473d06e23ab70c73a6a473e5346453ee1e595dfd3572830ba7d860", func := "loop.example/g00879/laws.FnEncoded", spec := "fnEncoded", unfollowed := true, recurses := true, apart := false, narrowed := true }
def FnEncodedUptoSaid : Prop := fnEncodedUptoRow.holds Try.pinned (OpenSpec.upto fnEncodedSpec)

/-- 'laws.FnCodeSums', WHERE WHAT IT READS IS OF BULK AT MOST 1048576: true; the input reads as it did. -/
def fnCodeSumsUptoRow : OpenClaim := { program := "ytfbkmbjbjgfenaa", sum := "4cff7133c1473d06e23ab70c73a6a473e5346453ee1e595dfd3572830ba7d860", func := "loop.example/g00879/laws.FnCodeSums", spec := "fnCodeSums", unfollowed := true, recurses := true, apart := false, narrowed := true }
def FnCodeSumsUptoSaid : Prop := fnCodeSumsUptoRow.holds Try.pinned (OpenSpec.upto fnCodeSumsSpec)

/-- 'laws.FnCodeDistance', WHERE WHAT IT READS IS OF BULK AT MOST 1048576: true; the input reads as it did. -/
def fnCodeDistanceUptoRow : OpenClaim := { program := "ytfbkmbjbjgfenaa", sum := "4cff7133c1473d06e23ab70c73a6a473e5346453ee1e595dfd3572830ba7d860", func := "loop.example/g00879/laws.FnCodeDistance", spec := "fnCodeDistance", apart := false, narrowed := true }
def FnCodeDistanceUptoSaid : Prop := fnCodeDistanceUptoRow.holds Try.pinned (OpenSpec.upto fnCodeDistanceSpec)

/-- 'laws.FnGenerator', WHERE WHAT IT READS IS OF BULK AT MOST 1048576: true; the input reads as it did. -/
def fnGeneratorUptoRow : OpenClaim := { program := "ytfbkmbjbjgfenaa", sum := "4cff7133c1473d06e23ab70c73a6a473e5346453ee1e595dfd3572830ba7d860", func := "loop.example/g00879/laws.FnGenerator", spec := "fnGenerator", unfollowed := true, recurses := true, apart := false, narrowed := true }
def FnGeneratorUptoSaid : Prop := fnGeneratorUptoRow.holds Try.pinned (OpenSpec.upto fnGeneratorSpec)

/-- 'laws.FnExactIsCode', WHERE WHAT IT READS IS OF BULK AT MOST 1048576: true; the input reads as it did. -/
def fnExactIsCodeUptoRow : OpenClaim := { program := "ytfbkmbjbjgfenaa", sum := "4cff7133c1473d06e23ab70c73a6a473e5346453ee1e595dfd3572830ba7d860", func := "loop.example/g00879/laws.FnExactIsCode", spec := "fnExactIsCode", apart := false, narrowed := true }
def FnExactIsCodeUptoSaid : Prop := fnExactIsCodeUptoRow.holds Try.pinned (OpenSpec.upto fnExactIsCodeSpec)

/-- 'laws.FnExactGeneratorOf', WHERE WHAT IT READS IS OF BULK AT MOST 1048576: true; the input reads as it did. -/
def fnExactGeneratorOfUptoRow : OpenClaim := { program := "ytfbkmbjbjgfenaa", sum := "4cff7133c1473d06e23ab70c73a6a473e5346453ee1e595dfd3572830ba7d860", func := "loop.example/g00879/laws.FnExactGeneratorOf", spec := "fnExactGeneratorOf", apart := false, narrowed := true }
def FnExactGeneratorOfUptoSaid : Prop := fnExactGeneratorOfUptoRow.holds Try.pinned (OpenSpec.upto fnExactGeneratorOfSpec)

/-- 'laws.FnExactEncodeWord', WHERE WHAT IT READS IS OF BULK AT MOST 1048576: true; the input reads as it did. -/
def fnExactEncodeWordUptoRow : OpenClaim := { program := "ytfbkmbjbjgfenaa", sum := "4cff7133c1473d06e23ab70c73a6a473e5346453ee1e595dfd3572830ba7d860", func := "loop.example/g00879/laws.FnExactEncodeWord", spec := "fnExactEncodeWord", apart := false, narrowed := true }
def FnExactEncodeWordUptoSaid : Prop := fnExactEncodeWordUptoRow.holds Try.pinned (OpenSpec.upto fnExactEncodeWordSpec)

/-- 'laws.FnExactIsCodeWord', WHERE WHAT IT READS IS OF BULK AT MOST 1048576: true; the input reads as it did. -/
def fnExactIsCodeWordUptoRow : OpenClaim := { program := "ytfbkmbjbjgfenaa", sum := "4cff7133c1473d06e23ab70c73a6a473e5346453ee1e595dfd3572830ba7d860", func := "loop.example/g00879/laws.FnExactIsCodeWord", spec := "fnExactIsCodeWord", unfollowed := true, recurses := true, apart := false, narrowed := true }
def FnExactIsCodeWordUptoSaid : Prop := fnExactIsCodeWordUptoRow.holds Try.pinned (OpenSpec.upto fnExactIsCodeWordSpec)

/-- 'laws.FnExactSyndromesOf', WHERE WHAT IT READS IS OF BULK AT MOST 1048576: true; the input reads as it did. -/
def fnExactSyndromesOfUptoRow : OpenClaim := { program := "ytfbkmbjbjgfenaa", sum := "4cff7133c1473d06e23ab70c73a6a473e5346453ee1e595dfd3572830ba7d860", func := "loop.example/g00879/laws.FnExactSyndromesOf", spec := "fnExactSyndromesOf", apart := false, narrowed := true }
def FnExactSyndromesOfUptoSaid : Prop := fnExactSyndromesOfUptoRow.holds Try.pinned (OpenSpec.upto fnExactSyndromesOfSpec)

/-- 'laws.FnExactMessageOf', WHERE WHAT IT READS IS OF BULK AT MOST 1048576: true; the input reads as it did. -/
def fnExactMessageOfUptoRow : OpenClaim := { program := "ytfbkmbjbjgfenaa", sum := "4cff7133c1473d06e23ab70c73a6a473e5346453ee1e595dfd3572830ba7d860", func := "loop.example/g00879/laws.FnExactMessageOf", spec := "fnExactMessageOf", apart := false, narrowed := true }
def FnExactMessageOfUptoSaid : Prop := fnExactMessageOfUptoRow.holds Try.pinned (OpenSpec.upto fnExactMessageOfSpec)

/-- 'laws.FnExactWordDistance', WHERE WHAT IT READS IS OF BULK AT MOST 1048576: true; the input reads as it did. -/
def fnExactWordDistanceUptoRow : OpenClaim := { program := "ytfbkmbjbjgfenaa", sum := "4cff7133c1473d06e23ab70c73a6a473e5346453ee1e595dfd3572830ba7d860", func := "loop.example/g00879/laws.FnExactWordDistance", spec := "fnExactWordDistance", apart := false, narrowed := true }
def FnExactWordDistanceUptoSaid : Prop := fnExactWordDistanceUptoRow.holds Try.pinned (OpenSpec.upto fnExactWordDistanceSpec)

/-- 'laws.FnExactIsWithin', WHERE WHAT IT READS IS OF BULK AT MOST 1048576: true; the input reads as it did. -/
def fnExactIsWithinUptoRow : OpenClaim := { program := "ytfbkmbjbjgfenaa", sum := "4cff7133c1473d06e23ab70c73a6a473e5346453ee1e595dfd3572830ba7d860", func := "loop.example/g00879/laws.FnExactIsWithin", spec := "fnExactIsWithin", apart := false, narrowed := true }
def FnExactIsWithinUptoSaid : Prop := fnExactIsWithinUptoRow.holds Try.pinned (OpenSpec.upto fnExactIsWithinSpec)

/-- 'laws.FnExactAddWords', WHERE WHAT IT READS IS OF BULK AT MOST 1048576: true; the input reads as it did. -/
def fnExactAddWordsUptoRow : OpenClaim := { program := "ytfbkmbjbjgfenaa", sum := "4cff7133c1473d06e23ab70c73a6a473e5346453ee1e595dfd3572830ba7d860", func := "loop.example/g00879/laws.FnExactAddWords", spec := "fnExactAddWords", apart := false, narrowed := true }
def FnExactAddWordsUptoSaid : Prop := fnExactAddWordsUptoRow.holds Try.pinned (OpenSpec.upto fnExactAddWordsSpec)

end Rows
end Go.Proofs.Ytfbkmbjbjgfenaa
