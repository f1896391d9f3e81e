/-
  No cell of these rows narrows 'for every input' (looked for: loops, veiled, ifaces, maps, wideKeys, modest, calm, conditions, laid).
  DERIVED. THE GIVEN ROWS OF THIS SEAT. 9 by the template 'for every input the law returns true; each argument reads behind the call as it read before'; 0 by the template 'total and deterministic' (their statements: YthmpfnbcodolcaaTotals.lean).
  GIVEN WITH THE SEED: the statements are not yours to turn. If you find one false, say at which input.
  Laid BY PROGRAM, IN A SANDBOX (cutbox-rows.mjs): the forced cells as the released guide's own fill.sh prints them over the translation 1fbf4623c6ab3c6e… (all of the seat's roots in one cut). By AI agents, Wed Nov 11 2026. No macro, syntax, notation, axiom, sorry.
-/
import Derived.Test.YthmpfnbcodolcaaChecked
import GoSem.Claim
import GoSem.ClaimJoined
import GoSem.ClaimMapViews
import Derived.JoinedTies
import Derived.KernelRfl
namespace Go.Proofs.Ythmpfnbcodolcaa
/- THE CELL 'sum', in the pinned program and in every row, IS THE sha256 OF THE DUMP (.gsa) THAT YthmpfnbcodolcaaProg.lean LOADS. Nothing in Lean hashes anything: it is a label: what it is worth is what the hold of that sum in a sandbox is worth. -/
noncomputable def Try.pinned : Pinned := { name := "ythmpfnbcodolcaa", sum := "1fbf4623c6ab3c6e12f3d8e152df205ab379e464b0c2130ad688e9a6044f97ce", checked := Try.checked }
namespace Rows
def none {H : Type} : Left H := { results := [], args := [] }

/-- 'laws.FnSegments': WHATEVER THE INPUT: true; the input reads as it did. -/
def fnSegmentsSpec : ChangeSpec := { name := "fnSegments", fn := fun _ => fun
  | [d] => { results := [.lit (.bool true)], args := [d] }
  | _ => none }
def fnSegmentsRow : OpenClaim := { program := "ythmpfnbcodolcaa", sum := "1fbf4623c6ab3c6e12f3d8e152df205ab379e464b0c2130ad688e9a6044f97ce", func := "loop.example/g00879/laws.FnSegments", spec := "fnSegments", unfollowed := true, recurses := true, apart := false }
def FnSegmentsSaid : Prop := fnSegmentsRow.holds Try.pinned (OpenSpec.ofChange fnSegmentsSpec)

/-- ITS FALSE NEIGHBOUR: 'it returns false'. Refute it at one input. -/
def fnSegmentsWrong : ChangeSpec := { name := "fnSegments", fn := fun _ => fun
  | [d] => { results := [.lit (.bool false)], args := [d] }
  | _ => none }
def FnSegmentsWrongFalsely : Prop := fnSegmentsRow.holds Try.pinned (OpenSpec.ofChange fnSegmentsWrong)

/-- 'laws.FnSegmentsRead': WHATEVER THE INPUT: true; the input reads as it did. -/
def fnSegmentsReadSpec : ChangeSpec := { name := "fnSegmentsRead", fn := fun _ => fun
  | [d] => { results := [.lit (.bool true)], args := [d] }
  | _ => none }
def fnSegmentsReadRow : OpenClaim := { program := "ythmpfnbcodolcaa", sum := "1fbf4623c6ab3c6e12f3d8e152df205ab379e464b0c2130ad688e9a6044f97ce", func := "loop.example/g00879/laws.FnSegmentsRead", spec := "fnSegmentsRead", unfollowed := true, recurses := true, apart := false }
def FnSegmentsReadSaid : Prop := fnSegmentsReadRow.holds Try.pinned (OpenSpec.ofChange fnSegmentsReadSpec)

/-- ITS FALSE NEIGHBOUR: 'it returns false'. Refute it at one input. -/
def fnSegmentsReadWrong : ChangeSpec := { name := "fnSegmentsRead", fn := fun _ => fun
  | [d] => { results := [.lit (.bool false)], args := [d] }
  | _ => none }
def FnSegmentsReadWrongFalsely : Prop := fnSegmentsReadRow.holds Try.pinned (OpenSpec.ofChange fnSegmentsReadWrong)

/-- 'laws.FnPayloadSegments': WHATEVER THE INPUT: true; the input reads as it did. -/
def fnPayloadSegmentsSpec : ChangeSpec := { name := "fnPayloadSegments", fn := fun _ => fun
  | [d] => { results := [.lit (.bool true)], args := [d] }
  | _ => none }
def fnPayloadSegmentsRow : OpenClaim := { program := "ythmpfnbcodolcaa", sum := "1fbf4623c6ab3c6e12f3d8e152df205ab379e464b0c2130ad688e9a6044f97ce", func := "loop.example/g00879/laws.FnPayloadSegments", spec := "fnPayloadSegments", inPlace := ["internal/abi.NoEscape"], unfollowed := true, recurses := true, apart := false }
def FnPayloadSegmentsSaid : Prop := fnPayloadSegmentsRow.holds Try.pinned (OpenSpec.ofChange fnPayloadSegmentsSpec)

/-- ITS FALSE NEIGHBOUR: 'it returns false'. Refute it at one input. -/
def fnPayloadSegmentsWrong : ChangeSpec := { name := "fnPayloadSegments", fn := fun _ => fun
  | [d] => { results := [.lit (.bool false)], args := [d] }
  | _ => none }
def FnPayloadSegmentsWrongFalsely : Prop := fnPayloadSegmentsRow.holds Try.pinned (OpenSpec.ofChange fnPayloadSegmentsWrong)

/-- 'laws.FnExactReadSegment': WHATEVER THE INPUT: true; the input reads as it did. -/
def fnExactReadSegmentSpec : ChangeSpec := { name := "fnExactReadSegment", fn := fun _ => fun
  | [d1, d2] => { results := [.lit (.bool true)], args := [d1, d2] }
  | _ => none }
def fnExactReadSegmentRow : OpenClaim := { program := "ythmpfnbcodolcaa", sum := "1fbf4623c6ab3c6e12f3d8e152df205ab379e464b0c2130ad688e9a6044f97ce", func := "loop.example/g00879/laws.FnExactReadSegment", spec := "fnExactReadSegment", unfollowed := true, recurses := true, apart := false }
def FnExactReadSegmentSaid : Prop := fnExactReadSegmentRow.holds Try.pinned (OpenSpec.ofChange fnExactReadSegmentSpec)

/-- ITS FALSE NEIGHBOUR: 'it returns false'. Refute it at one input. -/
def fnExactReadSegmentWrong : ChangeSpec := { name := "fnExactReadSegment", fn := fun _ => fun
  | [d1, d2] => { results := [.lit (.bool false)], args := [d1, d2] }
  | _ => none }
def FnExactReadSegmentWrongFalsely : Prop := fnExactReadSegmentRow.holds Try.pinned (OpenSpec.ofChange fnExactReadSegmentWrong)

/-- 'laws.FnExactFieldWidth': WHATEVER THE INPUT: true; the input reads as it did. -/
def fnExactFieldWidthSpec : ChangeSpec := { name := "fnExactFieldWidth", fn := fun _ => fun
  | [d] => { results := [.lit (.bool true)], args := [d] }
  | _ => none }
def fnExactFieldWidthRow : OpenClaim := { program := "ythmpfnbcodolcaa", sum := "1fbf4623c6ab3c6e12f3d8e152df205ab379e464b0c2130ad688e9a6044f97ce", func := "loop.example/g00879/laws.FnExactFieldWidth", spec := "fnExactFieldWidth", apart := false }
def FnExactFieldWidthSaid : Prop := fnExactFieldWidthRow.holds Try.pinned (OpenSpec.ofChange fnExactFieldWidthSpec)

/-- ITS FALSE NEIGHBOUR: 'it returns false'. Refute it at one input. -/
def fnExactFieldWidthWrong : ChangeSpec := { name := "fnExactFieldWidth", fn := fun _ => fun
  | [d] => { results := [.lit (.bool false)], args := [d] }
  | _ => none }
def FnExactFieldWidthWrongFalsely : Prop := fnExactFieldWidthRow.holds Try.pinned (OpenSpec.ofChange fnExactFieldWidthWrong)

/-- 'laws.FnExactPayloadSize': WHATEVER THE INPUT: true; the input reads as it did. -/
def fnExactPayloadSizeSpec : ChangeSpec := { name := "fnExactPayloadSize", fn := fun _ => fun
  | [d1, d2] => { results := [.lit (.bool true)], args := [d1, d2] }
  | _ => none }
def fnExactPayloadSizeRow : OpenClaim := { program := "ythmpfnbcodolcaa", sum := "1fbf4623c6ab3c6e12f3d8e152df205ab379e464b0c2130ad688e9a6044f97ce", func := "loop.example/g00879/laws.FnExactPayloadSize", spec := "fnExactPayloadSize", unfollowed := true, recurses := true, apart := false }
def FnExactPayloadSizeSaid : Prop := fnExactPayloadSizeRow.holds Try.pinned (OpenSpec.ofChange fnExactPayloadSizeSpec)

/-- ITS FALSE NEIGHBOUR: 'it returns false'. Refute it at one input. -/
def fnExactPayloadSizeWrong : ChangeSpec := { name := "fnExactPayloadSize", fn := fun _ => fun
  | [d1, d2] => { results := [.lit (.bool false)], args := [d1, d2] }
  | _ => none }
def FnExactPayloadSizeWrongFalsely : Prop := fnExactPayloadSizeRow.holds Try.pinned (OpenSpec.ofChange fnExactPayloadSizeWrong)

/-- 'laws.FnExactDecodePayload': WHATEVER THE INPUT: true; the input reads as it did. -/
def fnExactDecodePayloadSpec : ChangeSpec := { name := "fnExactDecodePayload", fn := fun _ => fun
  | [d1, d2] => { results := [.lit (.bool true)], args := [d1, d2] }
  | _ => none }
def fnExactDecodePayloadRow : OpenClaim := { program := "ythmpfnbcodolcaa", sum := "1fbf4623c6ab3c6e12f3d8e152df205ab379e464b0c2130ad688e9a6044f97ce", func := "loop.example/g00879/laws.FnExactDecodePayload", spec := "fnExactDecodePayload", inPlace := ["internal/abi.NoEscape"], unfollowed := true, recurses := true, apart := false }
def FnExactDecodePayloadSaid : Prop := fnExactDecodePayloadRow.holds Try.pinned (OpenSpec.ofChange fnExactDecodePayloadSpec)

/-- ITS FALSE NEIGHBOUR: 'it returns false'. Refute it at one input. -/
def fnExactDecodePayloadWrong : ChangeSpec := { name := "fnExactDecodePayload", fn := fun _ => fun
  | [d1, d2] => { results := [.lit (.bool false)], args := [d1, d2] }
  | _ => none }
def FnExactDecodePayloadWrongFalsely : Prop := fnExactDecodePayloadRow.holds Try.pinned (OpenSpec.ofChange fnExactDecodePayloadWrong)

/-- 'laws.FnExactElementBits': WHATEVER THE INPUT: true; the input reads as it did. -/
def fnExactElementBitsSpec : ChangeSpec := { name := "fnExactElementBits", fn := fun _ => fun
  | [d1, d2] => { results := [.lit (.bool true)], args := [d1, d2] }
  | _ => none }
def fnExactElementBitsRow : OpenClaim := { program := "ythmpfnbcodolcaa", sum := "1fbf4623c6ab3c6e12f3d8e152df205ab379e464b0c2130ad688e9a6044f97ce", func := "loop.example/g00879/laws.FnExactElementBits", spec := "fnExactElementBits", apart := false }
def FnExactElementBitsSaid : Prop := fnExactElementBitsRow.holds Try.pinned (OpenSpec.ofChange fnExactElementBitsSpec)

/-- ITS FALSE NEIGHBOUR: 'it returns false'. Refute it at one input. -/
def fnExactElementBitsWrong : ChangeSpec := { name := "fnExactElementBits", fn := fun _ => fun
  | [d1, d2] => { results := [.lit (.bool false)], args := [d1, d2] }
  | _ => none }
def FnExactElementBitsWrongFalsely : Prop := fnExactElementBitsRow.holds Try.pinned (OpenSpec.ofChange fnExactElementBitsWrong)

/-- 'laws.FnExactPayloadSegments': WHATEVER THE INPUT: true; the input reads as it did. -/
def fnExactPayloadSegmentsSpec : ChangeSpec := { name := "fnExactPayloadSegments", fn := fun _ => fun
  | [d1, d2] => { results := [.lit (.bool true)], args := [d1, d2] }
  | _ => none }
def fnExactPayloadSegmentsRow : OpenClaim := { program := "ythmpfnbcodolcaa", sum := "1fbf4623c6ab3c6e12f3d8e152df205ab379e464b0c2130ad688e9a6044f97ce", func := "loop.example/g00879/laws.FnExactPayloadSegments", spec := "fnExactPayloadSegments", unfollowed := true, recurses := true, apart := false }
def FnExactPayloadSegmentsSaid : Prop := fnExactPayloadSegmentsRow.holds Try.pinned (OpenSpec.ofChange fnExactPayloadSegmentsSpec)

/-- ITS FALSE NEIGHBOUR: 'it returns false'. Refute it at one input. -/
def fnExactPayloadSegmentsWrong : ChangeSpec := { name := "fnExactPayloadSegments", fn := fun _ => fun
  | [d1, d2] => { results := [.lit (.bool false)], args := [d1, d2] }
  | _ => none }
def FnExactPayloadSegmentsWrongFalsely : Prop := fnExactPayloadSegmentsRow.holds Try.pinned (OpenSpec.ofChange fnExactPayloadSegmentsWrong)

/- THE SECOND FORM. 'bulk': how many values and letters a reading holds, each counted each time it is reached (what is shared counts as often as it is met; a slice's spare places count too). A statement '..UptoSaid' is the law's where the arguments, and the package variables that the reading takes, are together of bulk at most 1048576: NARROWER than '..Said'. Prove '..Said' where nothing that the law and all that it calls make is longer than what came in: it says more and counts as full. Else prove '..UptoSaid'. A law counts once. -/
mutual
def uptoBulk {H : Type} : DataW H → Nat
  | .lit (.string bytes) => bytes.length + 1
  | .lit _ => 1
  | .nil => 1
  | .ptr d => uptoBulk d + 1
  | .slice elems spare => uptoBulkAll elems + uptoBulkAll spare + 1
  | .agg parts => uptoBulkAll parts + 1
  | .iface _ d => uptoBulk d + 1
  | .map entries => uptoBulkEntries entries + 1
  | .held _ => 1
def uptoBulkAll {H : Type} : List (DataW H) → Nat
  | [] => 0
  | d :: r => uptoBulk d + uptoBulkAll r
def uptoBulkEntries {H : Type} : List (Lit × DataW H) → Nat
  | [] => 0
  | x :: r => uptoBulkEntry x + uptoBulkEntries r
def uptoBulkEntry {H : Type} : Lit × DataW H → Nat
  | (.string bytes, d) => bytes.length + uptoBulk d + 1
  | (_, d) => uptoBulk d + 1
 end
def uptoSmall : (H : Type) → List (DataW H) → Bool := fun _ ds => decide (uptoBulkAll ds ≤ 1048576)
def OpenSpec.upto (s : _root_.Go.ChangeSpec) : _root_.Go.OpenSpec := { _root_.Go.OpenSpec.ofChange s with cond := some uptoSmall }

/-- 'laws.FnSegments', WHERE WHAT IT READS IS OF BULK AT MOST 1048576: true; the input reads as it did. -/
def fnSegmentsUptoRow : OpenClaim := { program := "ythmpfnbcodolcaa", sum := "1fbf4623c6ab3c6e12f3d8e152df205ab379e464b0c2130ad688e9a6044f97ce", func := "loop.example/g00879/laws.FnSegments", spec := "fnSegments", unfollowed := true, recurses := true, apart := false, narrowed := true }
def FnSegmentsUptoSaid : Prop := fnSegmentsUptoRow.holds Try.pinned (OpenSpec.upto fnSegmentsSpec)

/-- 'laws.FnSegmentsRead', WHERE WHAT IT READS IS OF BULK AT MOST 1048576: true; the input reads as it did. -/
def fnSegmentsReadUptoRow : OpenClaim := { program := "ythmpfnbcodolcaa", sum := "1fbf4623c6ab3c6e12f3d8e152df205ab379e464b0c2130ad688e9a6044f97ce", func := "loop.example/g00879/laws.FnSegmentsRead", spec := "fnSegmentsRead", unfollowed := true, recurses := true, apart := false, narrowed := true }
def FnSegmentsReadUptoSaid : Prop := fnSegmentsReadUptoRow.holds Try.pinned (OpenSpec.upto fnSegmentsReadSpec)

/-- 'laws.FnPayloadSegments', WHERE WHAT IT READS IS OF BULK AT MOST 1048576: true; the input reads as it did. -/
def fnPayloadSegmentsUptoRow : OpenClaim := { program := "ythmpfnbcodolcaa", sum := "1fbf4623c6ab3c6e12f3d8e152df205ab379e464b0c2130ad688e9a6044f97ce", func := "loop.example/g00879/laws.FnPayloadSegments", spec := "fnPayloadSegments", inPlace := ["internal/abi.NoEscape"], unfollowed := true, recurses := true, apart := false, narrowed := true }
def FnPayloadSegmentsUptoSaid : Prop := fnPayloadSegmentsUptoRow.holds Try.pinned (OpenSpec.upto fnPayloadSegmentsSpec)

/-- 'laws.FnExactReadSegment', WHERE WHAT IT READS IS OF BULK AT MOST 1048576: true; the input reads as it did. -/
def fnExactReadSegmentUptoRow : OpenClaim := { program := "ythmpfnbcodolcaa", sum := "1fbf4623c6ab3c6e12f3d8e152df205ab379e464b0c2130ad688e9a6044f97ce", func := "loop.example/g00879/laws.FnExactReadSegment", spec := "fnExactReadSegment", unfollowed := true, recurses := true, apart := false, narrowed := true }
def FnExactReadSegmentUptoSaid : Prop := fnExactReadSegmentUptoRow.holds Try.pinned (OpenSpec.upto fnExactReadSegmentSpec)

/-- 'laws.FnExactFieldWidth', WHERE WHAT IT READS IS OF BULK AT MOST 1048576: true; the input reads as it did. -/
def fnExactFieldWidthUptoRow : OpenClaim := { program := "ythmpfnbcodolcaa", sum := "1fbf4623c6ab3c6e12f3d8e152df205ab379e464b0c2130ad688e9a6044f97ce", func := "loop.example/g00879/laws.FnExactFieldWidth", spec := "fnExactFieldWidth", apart := false, narrowed := true }
def FnExactFieldWidthUptoSaid : Prop := fnExactFieldWidthUptoRow.holds Try.pinned (OpenSpec.upto fnExactFieldWidthSpec)

/-- 'laws.FnExactPayloadSize', WHERE WHAT IT READS IS OF BULK AT MOST 1048576: true; the input reads as it did. -/
def fnExactPayloadSizeUptoRow : OpenClaim := { program := "ythmpfnbcodolcaa", sum := "1fbf4623c6ab3c6e12f3d8e152df205ab379e464b0c2130ad688e9a6044f97ce", func := "loop.example/g00879/laws.FnExactPayloadSize", spec := "fnExactPayloadSize", unfollowed := true, recurses := true, apart := false, narrowed := true }
def FnExactPayloadSizeUptoSaid : Prop := fnExactPayloadSizeUptoRow.holds Try.pinned (OpenSpec.upto fnExactPayloadSizeSpec)

/-- 'laws.FnExactDecodePayload', WHERE WHAT IT READS IS OF BULK AT MOST 1048576: true; the input reads as it did. -/
def fnExactDecodePayloadUptoRow : OpenClaim := { program := "ythmpfnbcodolcaa", sum := "1fbf4623c6ab3c6e12f3d8e152df205ab379e464b0c2130ad688e9a6044f97ce", func := "loop.example/g00879/laws.FnExactDecodePayload", spec := "fnExactDecodePayload", inPlace := ["internal/abi.NoEscape"], unfollowed := true, recurses := true, apart := false, narrowed := true }
def FnExactDecodePayloadUptoSaid : Prop := fnExactDecodePayloadUptoRow.holds Try.pinned (OpenSpec.upto fnExactDecodePayloadSpec)

/-- 'laws.FnExactElementBits', WHERE WHAT IT READS IS OF BULK AT MOST 1048576: true; the input reads as it did. -/
def fnExactElementBitsUptoRow : OpenClaim := { program := "ythmpfnbcodolcaa", sum := "1fbf4623c6ab3c6e12f3d8e152df205ab379e464b0c2130ad688e9a6044f97ce", func := "loop.example/g00879/laws.FnExactElementBits", spec := "fnExactElementBits", apart := false, narrowed := true }
def FnExactElementBitsUptoSaid : Prop := fnExactElementBitsUptoRow.holds Try.pinned (OpenSpec.upto fnExactElementBitsSpec)

/-- 'laws.FnExactPayloadSegments', WHERE WHAT IT READS IS OF BULK AT MOST 1048576: true; the input reads as it did. -/
def fnExactPayloadSegmentsUptoRow : OpenClaim := { program := "ythmpfnbcodolcaa", sum := "1fbf4623c6ab3c6e12f3d8e152df205ab379e464b0c2130ad688e9a6044f97ce", func := "loop.example/g00879/laws.FnExactPayloadSegments", spec := "fnExactPayloadSegments", unfollowed := true, recurses := true, apart := false, narrowed := true }
def FnExactPayloadSegmentsUptoSaid : Prop := fnExactPayloadSegmentsUptoRow.holds Try.pinned (OpenSpec.upto fnExactPayloadSegmentsSpec)

end Rows
end Go.Proofs.Ythmpfnbcodolcaa
