/-
  No cell of these rows narrows 'for every input' (looked for: loops, veiled, ifaces, maps, wideKeys, modest, calm, conditions, laid).
  DERIVED. THE GIVEN ROWS OF THIS SEAT. 13 by the template 'for every input the law returns true; each argument reads behind the call as it read before'; 0 by the template 'total and deterministic' (their statements: YtbenmgnigeefdaaTotals.lean).
  GIVEN WITH THE SEED: the statements are not yours to turn. If you find one false, say at which input.
  Laid BY PROGRAM, IN A SANDBOX (cutbox-rows.mjs): the forced cells as the released guide's own fill.sh prints them over the translation 5466645f70c21a61… (all of the seat's roots in one cut). By AI agents, Wed Nov 11 2026. No macro, syntax, notation, axiom, sorry.
-/
import Derived.Test.YtbenmgnigeefdaaChecked
import GoSem.Claim
import GoSem.ClaimJoined
import GoSem.ClaimMapViews
import Derived.JoinedTies
import Derived.KernelRfl
namespace Go.Proofs.Ytbenmgnigeefdaa
/- THE CELL 'sum', in the pinned program and in every row, IS THE sha256 OF THE DUMP (.gsa) THAT YtbenmgnigeefdaaProg.lean LOADS. Nothing in Lean hashes anything: it is a label: what it is worth is what the hold of that sum in a sandbox is worth. -/
noncomputable def Try.pinned : Pinned := { name := "ytbenmgnigeefdaa", sum := "5466645f70c21a61d7a50f10de8c7b58ec3a52e33734fb1f2147c006942c6865", checked := Try.checked }
namespace Rows
def none {H : Type} : Left H := { results := [], args := [] }

/-- 'laws.FnFieldLogs': WHATEVER THE INPUT: true; the input reads as it did. -/
def fnFieldLogsSpec : ChangeSpec := { name := "fnFieldLogs", fn := fun _ => fun
  | [d] => { results := [.lit (.bool true)], args := [d] }
  | _ => none }
def fnFieldLogsRow : OpenClaim := { program := "ytbenmgnigeefdaa", sum := "5466645f70c21a61d7a50f10de8c7b58ec3a52e33734fb1f2147c006942c6865", func := "loop.example/g00879/laws.FnFieldLogs", spec := "fnFieldLogs", apart := false }
def FnFieldLogsSaid : Prop := fnFieldLogsRow.holds Try.pinned (OpenSpec.ofChange fnFieldLogsSpec)

/-- ITS FALSE NEIGHBOUR: 'it returns false'. Refute it at one input. -/
def fnFieldLogsWrong : ChangeSpec := { name := "fnFieldLogs", fn := fun _ => fun
  | [d] => { results := [.lit (.bool false)], args := [d] }
  | _ => none }
def FnFieldLogsWrongFalsely : Prop := fnFieldLogsRow.holds Try.pinned (OpenSpec.ofChange fnFieldLogsWrong)

/-- 'laws.FnFieldInverse': WHATEVER THE INPUT: true; the input reads as it did. -/
def fnFieldInverseSpec : ChangeSpec := { name := "fnFieldInverse", fn := fun _ => fun
  | [d] => { results := [.lit (.bool true)], args := [d] }
  | _ => none }
def fnFieldInverseRow : OpenClaim := { program := "ytbenmgnigeefdaa", sum := "5466645f70c21a61d7a50f10de8c7b58ec3a52e33734fb1f2147c006942c6865", func := "loop.example/g00879/laws.FnFieldInverse", spec := "fnFieldInverse", apart := false }
def FnFieldInverseSaid : Prop := fnFieldInverseRow.holds Try.pinned (OpenSpec.ofChange fnFieldInverseSpec)

/-- ITS FALSE NEIGHBOUR: 'it returns false'. Refute it at one input. -/
def fnFieldInverseWrong : ChangeSpec := { name := "fnFieldInverse", fn := fun _ => fun
  | [d] => { results := [.lit (.bool false)], args := [d] }
  | _ => none }
def FnFieldInverseWrongFalsely : Prop := fnFieldInverseRow.holds Try.pinned (OpenSpec.ofChange fnFieldInverseWrong)

/-- 'laws.FnFieldRing': WHATEVER THE INPUT: true; the input reads as it did. -/
def fnFieldRingSpec : ChangeSpec := { name := "fnFieldRing", fn := fun _ => fun
  | [d] => { results := [.lit (.bool true)], args := [d] }
  | _ => none }
def fnFieldRingRow : OpenClaim := { program := "ytbenmgnigeefdaa", sum := "5466645f70c21a61d7a50f10de8c7b58ec3a52e33734fb1f2147c006942c6865", func := "loop.example/g00879/laws.FnFieldRing", spec := "fnFieldRing", apart := false }
def FnFieldRingSaid : Prop := fnFieldRingRow.holds Try.pinned (OpenSpec.ofChange fnFieldRingSpec)

/-- ITS FALSE NEIGHBOUR: 'it returns false'. Refute it at one input. -/
def fnFieldRingWrong : ChangeSpec := { name := "fnFieldRing", fn := fun _ => fun
  | [d] => { results := [.lit (.bool false)], args := [d] }
  | _ => none }
def FnFieldRingWrongFalsely : Prop := fnFieldRingRow.holds Try.pinned (OpenSpec.ofChange fnFieldRingWrong)

/-- 'laws.FnFieldFound': WHATEVER THE INPUT: true; the input reads as it did. -/
def fnFieldFoundSpec : ChangeSpec := { name := "fnFieldFound", fn := fun _ => fun
  | [d] => { results := [.lit (.bool true)], args := [d] }
  | _ => none }
def fnFieldFoundRow : OpenClaim := { program := "ytbenmgnigeefdaa", sum := "5466645f70c21a61d7a50f10de8c7b58ec3a52e33734fb1f2147c006942c6865", func := "loop.example/g00879/laws.FnFieldFound", spec := "fnFieldFound", apart := false }
def FnFieldFoundSaid : Prop := fnFieldFoundRow.holds Try.pinned (OpenSpec.ofChange fnFieldFoundSpec)

/-- ITS FALSE NEIGHBOUR: 'it returns false'. Refute it at one input. -/
def fnFieldFoundWrong : ChangeSpec := { name := "fnFieldFound", fn := fun _ => fun
  | [d] => { results := [.lit (.bool false)], args := [d] }
  | _ => none }
def FnFieldFoundWrongFalsely : Prop := fnFieldFoundRow.holds Try.pinned (OpenSpec.ofChange fnFieldFoundWrong)

/-- 'laws.FnExactIsField': WHATEVER THE INPUT: true; the input reads as it did. -/
def fnExactIsFieldSpec : ChangeSpec := { name := "fnExactIsField", fn := fun _ => fun
  | [d] => { results := [.lit (.bool true)], args := [d] }
  | _ => none }
def fnExactIsFieldRow : OpenClaim := { program := "ytbenmgnigeefdaa", sum := "5466645f70c21a61d7a50f10de8c7b58ec3a52e33734fb1f2147c006942c6865", func := "loop.example/g00879/laws.FnExactIsField", spec := "fnExactIsField", apart := false }
def FnExactIsFieldSaid : Prop := fnExactIsFieldRow.holds Try.pinned (OpenSpec.ofChange fnExactIsFieldSpec)

/-- ITS FALSE NEIGHBOUR: 'it returns false'. Refute it at one input. -/
def fnExactIsFieldWrong : ChangeSpec := { name := "fnExactIsField", fn := fun _ => fun
  | [d] => { results := [.lit (.bool false)], args := [d] }
  | _ => none }
def FnExactIsFieldWrongFalsely : Prop := fnExactIsFieldRow.holds Try.pinned (OpenSpec.ofChange fnExactIsFieldWrong)

/-- 'laws.FnExactFieldSize': WHATEVER THE INPUT: true; the input reads as it did. -/
def fnExactFieldSizeSpec : ChangeSpec := { name := "fnExactFieldSize", fn := fun _ => fun
  | [d] => { results := [.lit (.bool true)], args := [d] }
  | _ => none }
def fnExactFieldSizeRow : OpenClaim := { program := "ytbenmgnigeefdaa", sum := "5466645f70c21a61d7a50f10de8c7b58ec3a52e33734fb1f2147c006942c6865", func := "loop.example/g00879/laws.FnExactFieldSize", spec := "fnExactFieldSize", apart := false }
def FnExactFieldSizeSaid : Prop := fnExactFieldSizeRow.holds Try.pinned (OpenSpec.ofChange fnExactFieldSizeSpec)

/-- ITS FALSE NEIGHBOUR: 'it returns false'. Refute it at one input. -/
def fnExactFieldSizeWrong : ChangeSpec := { name := "fnExactFieldSize", fn := fun _ => fun
  | [d] => { results := [.lit (.bool false)], args := [d] }
  | _ => none }
def FnExactFieldSizeWrongFalsely : Prop := fnExactFieldSizeRow.holds Try.pinned (OpenSpec.ofChange fnExactFieldSizeWrong)

/-- 'laws.FnExactFieldOf': WHATEVER THE INPUT: true; the input reads as it did. -/
def fnExactFieldOfSpec : ChangeSpec := { name := "fnExactFieldOf", fn := fun _ => fun
  | [d] => { results := [.lit (.bool true)], args := [d] }
  | _ => none }
def fnExactFieldOfRow : OpenClaim := { program := "ytbenmgnigeefdaa", sum := "5466645f70c21a61d7a50f10de8c7b58ec3a52e33734fb1f2147c006942c6865", func := "loop.example/g00879/laws.FnExactFieldOf", spec := "fnExactFieldOf", apart := false }
def FnExactFieldOfSaid : Prop := fnExactFieldOfRow.holds Try.pinned (OpenSpec.ofChange fnExactFieldOfSpec)

/-- ITS FALSE NEIGHBOUR: 'it returns false'. Refute it at one input. -/
def fnExactFieldOfWrong : ChangeSpec := { name := "fnExactFieldOf", fn := fun _ => fun
  | [d] => { results := [.lit (.bool false)], args := [d] }
  | _ => none }
def FnExactFieldOfWrongFalsely : Prop := fnExactFieldOfRow.holds Try.pinned (OpenSpec.ofChange fnExactFieldOfWrong)

/-- 'laws.FnExactFieldAdd': WHATEVER THE INPUT: true; the input reads as it did. -/
def fnExactFieldAddSpec : ChangeSpec := { name := "fnExactFieldAdd", fn := fun _ => fun
  | [d1, d2, d3] => { results := [.lit (.bool true)], args := [d1, d2, d3] }
  | _ => none }
def fnExactFieldAddRow : OpenClaim := { program := "ytbenmgnigeefdaa", sum := "5466645f70c21a61d7a50f10de8c7b58ec3a52e33734fb1f2147c006942c6865", func := "loop.example/g00879/laws.FnExactFieldAdd", spec := "fnExactFieldAdd", apart := false }
def FnExactFieldAddSaid : Prop := fnExactFieldAddRow.holds Try.pinned (OpenSpec.ofChange fnExactFieldAddSpec)

/-- ITS FALSE NEIGHBOUR: 'it returns false'. Refute it at one input. -/
def fnExactFieldAddWrong : ChangeSpec := { name := "fnExactFieldAdd", fn := fun _ => fun
  | [d1, d2, d3] => { results := [.lit (.bool false)], args := [d1, d2, d3] }
  | _ => none }
def FnExactFieldAddWrongFalsely : Prop := fnExactFieldAddRow.holds Try.pinned (OpenSpec.ofChange fnExactFieldAddWrong)

/-- 'laws.FnExactFieldNeg': WHATEVER THE INPUT: true; the input reads as it did. -/
def fnExactFieldNegSpec : ChangeSpec := { name := "fnExactFieldNeg", fn := fun _ => fun
  | [d1, d2] => { results := [.lit (.bool true)], args := [d1, d2] }
  | _ => none }
def fnExactFieldNegRow : OpenClaim := { program := "ytbenmgnigeefdaa", sum := "5466645f70c21a61d7a50f10de8c7b58ec3a52e33734fb1f2147c006942c6865", func := "loop.example/g00879/laws.FnExactFieldNeg", spec := "fnExactFieldNeg", apart := false }
def FnExactFieldNegSaid : Prop := fnExactFieldNegRow.holds Try.pinned (OpenSpec.ofChange fnExactFieldNegSpec)

/-- ITS FALSE NEIGHBOUR: 'it returns false'. Refute it at one input. -/
def fnExactFieldNegWrong : ChangeSpec := { name := "fnExactFieldNeg", fn := fun _ => fun
  | [d1, d2] => { results := [.lit (.bool false)], args := [d1, d2] }
  | _ => none }
def FnExactFieldNegWrongFalsely : Prop := fnExactFieldNegRow.holds Try.pinned (OpenSpec.ofChange fnExactFieldNegWrong)

/-- 'laws.FnExactFieldMul': WHATEVER THE INPUT: true; the input reads as it did. -/
def fnExactFieldMulSpec : ChangeSpec := { name := "fnExactFieldMul", fn := fun _ => fun
  | [d1, d2, d3] => { results := [.lit (.bool true)], args := [d1, d2, d3] }
  | _ => none }
def fnExactFieldMulRow : OpenClaim := { program := "ytbenmgnigeefdaa", sum := "5466645f70c21a61d7a50f10de8c7b58ec3a52e33734fb1f2147c006942c6865", func := "loop.example/g00879/laws.FnExactFieldMul", spec := "fnExactFieldMul", apart := false }
def FnExactFieldMulSaid : Prop := fnExactFieldMulRow.holds Try.pinned (OpenSpec.ofChange fnExactFieldMulSpec)

/-- ITS FALSE NEIGHBOUR: 'it returns false'. Refute it at one input. -/
def fnExactFieldMulWrong : ChangeSpec := { name := "fnExactFieldMul", fn := fun _ => fun
  | [d1, d2, d3] => { results := [.lit (.bool false)], args := [d1, d2, d3] }
  | _ => none }
def FnExactFieldMulWrongFalsely : Prop := fnExactFieldMulRow.holds Try.pinned (OpenSpec.ofChange fnExactFieldMulWrong)

/-- 'laws.FnExactFieldInv': WHATEVER THE INPUT: true; the input reads as it did. -/
def fnExactFieldInvSpec : ChangeSpec := { name := "fnExactFieldInv", fn := fun _ => fun
  | [d1, d2] => { results := [.lit (.bool true)], args := [d1, d2] }
  | _ => none }
def fnExactFieldInvRow : OpenClaim := { program := "ytbenmgnigeefdaa", sum := "5466645f70c21a61d7a50f10de8c7b58ec3a52e33734fb1f2147c006942c6865", func := "loop.example/g00879/laws.FnExactFieldInv", spec := "fnExactFieldInv", apart := false }
def FnExactFieldInvSaid : Prop := fnExactFieldInvRow.holds Try.pinned (OpenSpec.ofChange fnExactFieldInvSpec)

/-- ITS FALSE NEIGHBOUR: 'it returns false'. Refute it at one input. -/
def fnExactFieldInvWrong : ChangeSpec := { name := "fnExactFieldInv", fn := fun _ => fun
  | [d1, d2] => { results := [.lit (.bool false)], args := [d1, d2] }
  | _ => none }
def FnExactFieldInvWrongFalsely : Prop := fnExactFieldInvRow.holds Try.pinned (OpenSpec.ofChange fnExactFieldInvWrong)

/-- 'laws.FnExactFieldPow': WHATEVER THE INPUT: true; the input reads as it did. -/
def fnExactFieldPowSpec : ChangeSpec := { name := "fnExactFieldPow", fn := fun _ => fun
  | [d1, d2, d3] => { results := [.lit (.bool true)], args := [d1, d2, d3] }
  | _ => none }
def fnExactFieldPowRow : OpenClaim := { program := "ytbenmgnigeefdaa", sum := "5466645f70c21a61d7a50f10de8c7b58ec3a52e33734fb1f2147c006942c6865", func := "loop.example/g00879/laws.FnExactFieldPow", spec := "fnExactFieldPow", apart := false }
def FnExactFieldPowSaid : Prop := fnExactFieldPowRow.holds Try.pinned (OpenSpec.ofChange fnExactFieldPowSpec)

/-- ITS FALSE NEIGHBOUR: 'it returns false'. Refute it at one input. -/
def fnExactFieldPowWrong : ChangeSpec := { name := "fnExactFieldPow", fn := fun _ => fun
  | [d1, d2, d3] => { results := [.lit (.bool false)], args := [d1, d2, d3] }
  | _ => none }
def FnExactFieldPowWrongFalsely : Prop := fnExactFieldPowRow.holds Try.pinned (OpenSpec.ofChange fnExactFieldPowWrong)

/-- 'laws.FnExactFieldLog': WHATEVER THE INPUT: true; the input reads as it did. -/
def fnExactFieldLogSpec : ChangeSpec := { name := "fnExactFieldLog", fn := fun _ => fun
  | [d1, d2] => { results := [.lit (.bool true)], args := [d1, d2] }
  | _ => none }
def fnExactFieldLogRow : OpenClaim := { program := "ytbenmgnigeefdaa", sum := "5466645f70c21a61d7a50f10de8c7b58ec3a52e33734fb1f2147c006942c6865", func := "loop.example/g00879/laws.FnExactFieldLog", spec := "fnExactFieldLog", apart := false }
def FnExactFieldLogSaid : Prop := fnExactFieldLogRow.holds Try.pinned (OpenSpec.ofChange fnExactFieldLogSpec)

/-- ITS FALSE NEIGHBOUR: 'it returns false'. Refute it at one input. -/
def fnExactFieldLogWrong : ChangeSpec := { name := "fnExactFieldLog", fn := fun _ => fun
  | [d1, d2] => { results := [.lit (.bool false)], args := [d1, d2] }
  | _ => none }
def FnExactFieldLogWrongFalsely : Prop := fnExactFieldLogRow.holds Try.pinned (OpenSpec.ofChange fnExactFieldLogWrong)

/- THE SECOND FORM. 'bulk': how many values and letters a reading holds, each counted each time it is reached (what is shared counts as often as it is met; a slice's spare places count too). A statement '..UptoSaid' is the law's where the arguments, and the package variables that the reading takes, are together of bulk at most 1048576: NARROWER than '..Said'. Prove '..Said' where nothing that the law and all that it calls make is longer than what came in: it says more and counts as full. Else prove '..UptoSaid'. A law counts once. -/
mutual
def uptoBulk {H : Type} : DataW H → Nat
  | .lit (.string bytes) => bytes.length + 1
  | .lit _ => 1
  | .nil => 1
  | .ptr d => uptoBulk d + 1
  | .slice elems spare => uptoBulkAll elems + uptoBulkAll spare + 1
  | .agg parts => uptoBulkAll parts + 1
  | .iface _ d => uptoBulk d + 1
  | .map entries => uptoBulkEntries entries + 1
  | .held _ => 1
def uptoBulkAll {H : Type} : List (DataW H) → Nat
  | [] => 0
  | d :: r => uptoBulk d + uptoBulkAll r
def uptoBulkEntries {H : Type} : List (Lit × DataW H) → Nat
  | [] => 0
  | x :: r => uptoBulkEntry x + uptoBulkEntries r
def uptoBulkEntry {H : Type} : Lit × DataW H → Nat
  | (.string bytes, d) => bytes.length + uptoBulk d + 1
  | (_, d) => uptoBulk d + 1
 end
def uptoSmall : (H : Type) → List (DataW H) → Bool := fun _ ds => decide (uptoBulkAll ds ≤ 1048576)
def OpenSpec.upto (s : _root_.Go.ChangeSpec) : _root_.Go.OpenSpec := { _root_.Go.OpenSpec.ofChange s with cond := some uptoSmall }

/-- 'laws.FnFieldLogs', WHERE WHAT IT READS IS OF BULK AT MOST 1048576: true; the input reads as it did. -/
def fnFieldLogsUptoRow : OpenClaim := { program := "ytbenmgnigeefdaa", sum := "5466645f70c21a61d7a50f10de8c7b58ec3a52e33734fb1f2147c006942c6865", func := "loop.example/g00879/laws.FnFieldLogs", spec := "fnFieldLogs", apart := false, narrowed := true }
def FnFieldLogsUptoSaid : Prop := fnFieldLogsUptoRow.holds Try.pinned (OpenSpec.upto fnFieldLogsSpec)

/-- 'laws.FnFieldInverse', WHERE WHAT IT READS IS OF BULK AT MOST 1048576: true; the input reads as it did. -/
def fnFieldInverseUptoRow : OpenClaim := { program := "ytbenmgnigeefdaa", sum := "5466645f70c21a61d7a50f10de8c7b58ec3a52e33734fb1f2147c006942c6865", func := "loop.example/g00879/laws.FnFieldInverse", spec := "fnFieldInverse", apart := false, narrowed := true }
def FnFieldInverseUptoSaid : Prop := fnFieldInverseUptoRow.holds Try.pinned (OpenSpec.upto fnFieldInverseSpec)

/-- 'laws.FnFieldRing', WHERE WHAT IT READS IS OF BULK AT MOST 1048576: true; the input reads as it did. -/
def fnFieldRingUptoRow : OpenClaim := { program := "ytbenmgnigeefdaa", sum := "5466645f70c21a61d7a50f10de8c7b58ec3a52e33734fb1f2147c006942c6865", func := "loop.example/g00879/laws.FnFieldRing", spec := "fnFieldRing", apart := false, narrowed := true }
def FnFieldRingUptoSaid : Prop := fnFieldRingUptoRow.holds Try.pinned (OpenSpec.upto fnFieldRingSpec)

/-- 'laws.FnFieldFound', WHERE WHAT IT READS IS OF BULK AT MOST 1048576: true; the input reads as it did. -/
def fnFieldFoundUptoRow : OpenClaim := { program := "ytbenmgnigeefdaa", sum := "5466645f70c21a61d7a50f10de8c7b58ec3a52e33734fb1f2147c006942c6865", func := "loop.example/g00879/laws.FnFieldFound", spec := "fnFieldFound", apart := false, narrowed := true }
def FnFieldFoundUptoSaid : Prop := fnFieldFoundUptoRow.holds Try.pinned (OpenSpec.upto fnFieldFoundSpec)

/-- 'laws.FnExactIsField', WHERE WHAT IT READS IS OF BULK AT MOST 1048576: true; the input reads as it did. -/
def fnExactIsFieldUptoRow : OpenClaim := { program := "ytbenmgnigeefdaa", sum := "5466645f70c21a61d7a50f10de8c7b58ec3a52e33734fb1f2147c006942c6865", func := "loop.example/g00879/laws.FnExactIsField", spec := "fnExactIsField", apart := false, narrowed := true }
def FnExactIsFieldUptoSaid : Prop := fnExactIsFieldUptoRow.holds Try.pinned (OpenSpec.upto fnExactIsFieldSpec)

/-- 'laws.FnExactFieldSize', WHERE WHAT IT READS IS OF BULK AT MOST 1048576: true; the input reads as it did. -/
def fnExactFieldSizeUptoRow : OpenClaim := { program := "ytbenmgnigeefdaa", sum := "5466645f70c21a61d7a50f10de8c7b58ec3a52e33734fb1f2147c006942c6865", func := "loop.example/g00879/laws.FnExactFieldSize", spec := "fnExactFieldSize", apart := false, narrowed := true }
def FnExactFieldSizeUptoSaid : Prop := fnExactFieldSizeUptoRow.holds Try.pinned (OpenSpec.upto fnExactFieldSizeSpec)

/-- 'laws.FnExactFieldOf', WHERE WHAT IT READS IS OF BULK AT MOST 1048576: true; the input reads as it did. -/
def fnExactFieldOfUptoRow : OpenClaim := { program := "ytbenmgnigeefdaa", sum := "5466645f70c21a61d7a50f10de8c7b58ec3a52e33734fb1f2147c006942c6865", func := "loop.example/g00879/laws.FnExactFieldOf", spec := "fnExactFieldOf", apart := false, narrowed := true }
def FnExactFieldOfUptoSaid : Prop := fnExactFieldOfUptoRow.holds Try.pinned (OpenSpec.upto fnExactFieldOfSpec)

/-- 'laws.FnExactFieldAdd', WHERE WHAT IT READS IS OF BULK AT MOST 1048576: true; the input reads as it did. -/
def fnExactFieldAddUptoRow : OpenClaim := { program := "ytbenmgnigeefdaa", sum := "5466645f70c21a61d7a50f10de8c7b58ec3a52e33734fb1f2147c006942c6865", func := "loop.example/g00879/laws.FnExactFieldAdd", spec := "fnExactFieldAdd", apart := false, narrowed := true }
def FnExactFieldAddUptoSaid : Prop := fnExactFieldAddUptoRow.holds Try.pinned (OpenSpec.upto fnExactFieldAddSpec)

/-- 'laws.FnExactFieldNeg', WHERE WHAT IT READS IS OF BULK AT MOST 1048576: true; the input reads as it did. -/
def fnExactFieldNegUptoRow : OpenClaim := { program := "ytbenmgnigeefdaa", sum := "5466645f70c21a61d7a50f10de8c7b58ec3a52e33734fb1f2147c006942c6865", func := "loop.example/g00879/laws.FnExactFieldNeg", spec := "fnExactFieldNeg", apart := false, narrowed := true }
def FnExactFieldNegUptoSaid : Prop := fnExactFieldNegUptoRow.holds Try.pinned (OpenSpec.upto fnExactFieldNegSpec)

/-- 'laws.FnExactFieldMul', WHERE WHAT IT READS IS OF BULK AT MOST 1048576: true; the input reads as it did. -/
def fnExactFieldMulUptoRow : OpenClaim := { program := "ytbenmgnigeefdaa", sum := "5466645f70c21a61d7a50f10de8c7b58ec3a52e33734fb1f2147c006942c6865", func := "loop.example/g00879/laws.FnExactFieldMul", spec := "fnExactFieldMul", apart := false, narrowed := true }
def FnExactFieldMulUptoSaid : Prop := fnExactFieldMulUptoRow.holds Try.pinned (OpenSpec.upto fnExactFieldMulSpec)

/-- 'laws.FnExactFieldInv', WHERE WHAT IT READS IS OF BULK AT MOST 1048576: true; the input reads as it did. -/
def fnExactFieldInvUptoRow : OpenClaim := { program := "ytbenmgnigeefdaa", sum := "5466645f70c21a61d7a50f10de8c7b58ec3a52e33734fb1f2147c006942c6865", func := "loop.example/g00879/laws.FnExactFieldInv", spec := "fnExactFieldInv", apart := false, narrowed := true }
def FnExactFieldInvUptoSaid : Prop := fnExactFieldInvUptoRow.holds Try.pinned (OpenSpec.upto fnExactFieldInvSpec)

/-- 'laws.FnExactFieldPow', WHERE WHAT IT READS IS OF BULK AT MOST 1048576: true; the input reads as it did. -/
def fnExactFieldPowUptoRow : OpenClaim := { program := "ytbenmgnigeefdaa", sum := "5466645f70c21a61d7a50f10de8c7b58ec3a52e33734fb1f2147c006942c6865", func := "loop.example/g00879/laws.FnExactFieldPow", spec := "fnExactFieldPow", apart := false, narrowed := true }
def FnExactFieldPowUptoSaid : Prop := fnExactFieldPowUptoRow.holds Try.pinned (OpenSpec.upto fnExactFieldPowSpec)

/-- 'laws.FnExactFieldLog', WHERE WHAT IT READS IS OF BULK AT MOST 1048576: true; the input reads as it did. -/
def fnExactFieldLogUptoRow : OpenClaim := { program := "ytbenmgnigeefdaa", sum := "5466645f70c21a61d7a50f10de8c7b58ec3a52e33734fb1f2147c006942c6865", func := "loop.example/g00879/laws.FnExactFieldLog", spec := "fnExactFieldLog", apart := false, narrowed := true }
def FnExactFieldLogUptoSaid : Prop := fnExactFieldLogUptoRow.holds Try.pinned (OpenSpec.upto fnExactFieldLogSpec)

end Rows
end Go.Proofs.Ytbenmgnigeefdaa
