/-
  No cell of these rows narrows 'for every input' (looked for: loops, veiled, ifaces, maps, wideKeys, modest, calm, conditions, laid).
  DERIVED. THE GIVEN ROWS OF THIS SEAT. 8 by the template 'for every input the law returns true; each argument reads behind the call as it read before'; 0 by the template 'total and deterministic' (their statements: YtkdpkbnhckpnoaaTotals.lean).
  GIVEN WITH THE SEED: the statements are not yours to turn. If you find one false, say at which input.
  Laid BY PROGRAM, IN A SANDBOX (cutbox-rows.mjs): the forced cells as the released guide's own fill.sh prints them over the translation 0b8092d9994f84a5… (all of the seat's roots in one cut). By AI agents, Wed Nov 11 2026. No macro, syntax, notation, axiom, sorry.
-/
import Derived.Test.YtkdpkbnhckpnoaaChecked
import GoSem.Claim
import GoSem.ClaimJoined
import GoSem.ClaimMapViews
import Derived.JoinedTies
import Derived.KernelRfl
namespace Go.Proofs.Ytkdpkbnhckpnoaa
/- THE CELL 'sum', in the pinned program and in every row, IS THE sha256 OF THE DUMP (.gsa) THAT YtkdpkbnhckpnoaaProg.lean LOADS. Nothing in Lean hashes anything: it is a label: what it is worth is what the hold of that sum in a sandbox is worth. -/
noncomputable def Try.pinned : Pinned := { name := "ytkdpkbnhckpnoaa", sum := "0b8092d9994f84a57855f294603e9e766c0cd7605da854d0db5f9fa0d0c131e1", checked := Try.checked }
namespace Rows
def none {H : Type} : Left H := { results := [], args := [] }

/-- 'laws.FnStreams': WHATEVER THE INPUT: true; the input reads as it did. -/
def fnStreamsSpec : ChangeSpec := { name := "fnStreams", fn := fun _ => fun
  | [d] => { results := [.lit (.bool true)], args := [d] }
  | _ => none }
def fnStreamsRow : OpenClaim := { program := "ytkdpkbnhckpnoaa", sum := "0b8092d9994f84a57855f294603e9e766c0cd7605da854d0db5f9fa0d0c131e1", func := "loop.example/g00879/laws.FnStreams", spec := "fnStreams", unfollowed := true, recurses := true, apart := false }
def FnStreamsSaid : Prop := fnStreamsRow.holds Try.pinned (OpenSpec.ofChange fnStreamsSpec)

/-- ITS FALSE NEIGHBOUR: 'it returns false'. Refute it at one input. -/
def fnStreamsWrong : ChangeSpec := { name := "fnStreams", fn := fun _ => fun
  | [d] => { results := [.lit (.bool false)], args := [d] }
  | _ => none }
def FnStreamsWrongFalsely : Prop := fnStreamsRow.holds Try.pinned (OpenSpec.ofChange fnStreamsWrong)

/-- 'laws.FnExactIsLayout': WHATEVER THE INPUT: true; the input reads as it did. -/
def fnExactIsLayoutSpec : ChangeSpec := { name := "fnExactIsLayout", fn := fun _ => fun
  | [d] => { results := [.lit (.bool true)], args := [d] }
  | _ => none }
def fnExactIsLayoutRow : OpenClaim := { program := "ytkdpkbnhckpnoaa", sum := "0b8092d9994f84a57855f294603e9e766c0cd7605da854d0db5f9fa0d0c131e1", func := "loop.example/g00879/laws.FnExactIsLayout", spec := "fnExactIsLayout", apart := false }
def FnExactIsLayoutSaid : Prop := fnExactIsLayoutRow.holds Try.pinned (OpenSpec.ofChange fnExactIsLayoutSpec)

/-- ITS FALSE NEIGHBOUR: 'it returns false'. Refute it at one input. -/
def fnExactIsLayoutWrong : ChangeSpec := { name := "fnExactIsLayout", fn := fun _ => fun
  | [d] => { results := [.lit (.bool false)], args := [d] }
  | _ => none }
def FnExactIsLayoutWrongFalsely : Prop := fnExactIsLayoutRow.holds Try.pinned (OpenSpec.ofChange fnExactIsLayoutWrong)

/-- 'laws.FnExactBlockCodes': WHATEVER THE INPUT: true; the input reads as it did. -/
def fnExactBlockCodesSpec : ChangeSpec := { name := "fnExactBlockCodes", fn := fun _ => fun
  | [d] => { results := [.lit (.bool true)], args := [d] }
  | _ => none }
def fnExactBlockCodesRow : OpenClaim := { program := "ytkdpkbnhckpnoaa", sum := "0b8092d9994f84a57855f294603e9e766c0cd7605da854d0db5f9fa0d0c131e1", func := "loop.example/g00879/laws.FnExactBlockCodes", spec := "fnExactBlockCodes", apart := false }
def FnExactBlockCodesSaid : Prop := fnExactBlockCodesRow.holds Try.pinned (OpenSpec.ofChange fnExactBlockCodesSpec)

/-- ITS FALSE NEIGHBOUR: 'it returns false'. Refute it at one input. -/
def fnExactBlockCodesWrong : ChangeSpec := { name := "fnExactBlockCodes", fn := fun _ => fun
  | [d] => { results := [.lit (.bool false)], args := [d] }
  | _ => none }
def FnExactBlockCodesWrongFalsely : Prop := fnExactBlockCodesRow.holds Try.pinned (OpenSpec.ofChange fnExactBlockCodesWrong)

/-- 'laws.FnExactStreamIndex': WHATEVER THE INPUT: true; the input reads as it did. -/
def fnExactStreamIndexSpec : ChangeSpec := { name := "fnExactStreamIndex", fn := fun _ => fun
  | [d1, d2, d3] => { results := [.lit (.bool true)], args := [d1, d2, d3] }
  | _ => none }
def fnExactStreamIndexRow : OpenClaim := { program := "ytkdpkbnhckpnoaa", sum := "0b8092d9994f84a57855f294603e9e766c0cd7605da854d0db5f9fa0d0c131e1", func := "loop.example/g00879/laws.FnExactStreamIndex", spec := "fnExactStreamIndex", unfollowed := true, recurses := true, apart := false }
def FnExactStreamIndexSaid : Prop := fnExactStreamIndexRow.holds Try.pinned (OpenSpec.ofChange fnExactStreamIndexSpec)

/-- ITS FALSE NEIGHBOUR: 'it returns false'. Refute it at one input. -/
def fnExactStreamIndexWrong : ChangeSpec := { name := "fnExactStreamIndex", fn := fun _ => fun
  | [d1, d2, d3] => { results := [.lit (.bool false)], args := [d1, d2, d3] }
  | _ => none }
def FnExactStreamIndexWrongFalsely : Prop := fnExactStreamIndexRow.holds Try.pinned (OpenSpec.ofChange fnExactStreamIndexWrong)

/-- 'laws.FnExactEncodeStream': WHATEVER THE INPUT: true; the input reads as it did. -/
def fnExactEncodeStreamSpec : ChangeSpec := { name := "fnExactEncodeStream", fn := fun _ => fun
  | [d1, d2] => { results := [.lit (.bool true)], args := [d1, d2] }
  | _ => none }
def fnExactEncodeStreamRow : OpenClaim := { program := "ytkdpkbnhckpnoaa", sum := "0b8092d9994f84a57855f294603e9e766c0cd7605da854d0db5f9fa0d0c131e1", func := "loop.example/g00879/laws.FnExactEncodeStream", spec := "fnExactEncodeStream", unfollowed := true, recurses := true, apart := false }
def FnExactEncodeStreamSaid : Prop := fnExactEncodeStreamRow.holds Try.pinned (OpenSpec.ofChange fnExactEncodeStreamSpec)

/-- ITS FALSE NEIGHBOUR: 'it returns false'. Refute it at one input. -/
def fnExactEncodeStreamWrong : ChangeSpec := { name := "fnExactEncodeStream", fn := fun _ => fun
  | [d1, d2] => { results := [.lit (.bool false)], args := [d1, d2] }
  | _ => none }
def FnExactEncodeStreamWrongFalsely : Prop := fnExactEncodeStreamRow.holds Try.pinned (OpenSpec.ofChange fnExactEncodeStreamWrong)

/-- 'laws.FnExactSplitStream': WHATEVER THE INPUT: true; the input reads as it did. -/
def fnExactSplitStreamSpec : ChangeSpec := { name := "fnExactSplitStream", fn := fun _ => fun
  | [d1, d2] => { results := [.lit (.bool true)], args := [d1, d2] }
  | _ => none }
def fnExactSplitStreamRow : OpenClaim := { program := "ytkdpkbnhckpnoaa", sum := "0b8092d9994f84a57855f294603e9e766c0cd7605da854d0db5f9fa0d0c131e1", func := "loop.example/g00879/laws.FnExactSplitStream", spec := "fnExactSplitStream", unfollowed := true, recurses := true, apart := false }
def FnExactSplitStreamSaid : Prop := fnExactSplitStreamRow.holds Try.pinned (OpenSpec.ofChange fnExactSplitStreamSpec)

/-- ITS FALSE NEIGHBOUR: 'it returns false'. Refute it at one input. -/
def fnExactSplitStreamWrong : ChangeSpec := { name := "fnExactSplitStream", fn := fun _ => fun
  | [d1, d2] => { results := [.lit (.bool false)], args := [d1, d2] }
  | _ => none }
def FnExactSplitStreamWrongFalsely : Prop := fnExactSplitStreamRow.holds Try.pinned (OpenSpec.ofChange fnExactSplitStreamWrong)

/-- 'laws.FnExactBurstBound': WHATEVER THE INPUT: true; the input reads as it did. -/
def fnExactBurstBoundSpec : ChangeSpec := { name := "fnExactBurstBound", fn := fun _ => fun
  | [d] => { results := [.lit (.bool true)], args := [d] }
  | _ => none }
def fnExactBurstBoundRow : OpenClaim := { program := "ytkdpkbnhckpnoaa", sum := "0b8092d9994f84a57855f294603e9e766c0cd7605da854d0db5f9fa0d0c131e1", func := "loop.example/g00879/laws.FnExactBurstBound", spec := "fnExactBurstBound", unfollowed := true, recurses := true, apart := false }
def FnExactBurstBoundSaid : Prop := fnExactBurstBoundRow.holds Try.pinned (OpenSpec.ofChange fnExactBurstBoundSpec)

/-- ITS FALSE NEIGHBOUR: 'it returns false'. Refute it at one input. -/
def fnExactBurstBoundWrong : ChangeSpec := { name := "fnExactBurstBound", fn := fun _ => fun
  | [d] => { results := [.lit (.bool false)], args := [d] }
  | _ => none }
def FnExactBurstBoundWrongFalsely : Prop := fnExactBurstBoundRow.holds Try.pinned (OpenSpec.ofChange fnExactBurstBoundWrong)

/-- 'laws.FnExactStreamDamage': WHATEVER THE INPUT: true; the input reads as it did. -/
def fnExactStreamDamageSpec : ChangeSpec := { name := "fnExactStreamDamage", fn := fun _ => fun
  | [d1, d2, d3] => { results := [.lit (.bool true)], args := [d1, d2, d3] }
  | _ => none }
def fnExactStreamDamageRow : OpenClaim := { program := "ytkdpkbnhckpnoaa", sum := "0b8092d9994f84a57855f294603e9e766c0cd7605da854d0db5f9fa0d0c131e1", func := "loop.example/g00879/laws.FnExactStreamDamage", spec := "fnExactStreamDamage", unfollowed := true, recurses := true, apart := false }
def FnExactStreamDamageSaid : Prop := fnExactStreamDamageRow.holds Try.pinned (OpenSpec.ofChange fnExactStreamDamageSpec)

/-- ITS FALSE NEIGHBOUR: 'it returns false'. Refute it at one input. -/
def fnExactStreamDamageWrong : ChangeSpec := { name := "fnExactStreamDamage", fn := fun _ => fun
  | [d1, d2, d3] => { results := [.lit (.bool false)], args := [d1, d2, d3] }
  | _ => none }
def FnExactStreamDamageWrongFalsely : Prop := fnExactStreamDamageRow.holds Try.pinned (OpenSpec.ofChange fnExactStreamDamageWrong)

/- THE SECOND FORM. 'bulk': how many values and letters a reading holds, each counted each time it is reached (what is shared counts as often as it is met; a slice's spare places count too). A statement '..UptoSaid' is the law's where the arguments, and the package variables that the reading takes, are together of bulk at most 1048576: NARROWER than '..Said'. Prove '..Said' where nothing that the law and all that it calls make is longer than what came in: it says more and counts as full. Else prove '..UptoSaid'. A law counts once. -/
mutual
def uptoBulk {H : Type} : DataW H → Nat
  | .lit (.string bytes) => bytes.length + 1
  | .lit _ => 1
  | .nil => 1
  | .ptr d => uptoBulk d + 1
  | .slice elems spare => uptoBulkAll elems + uptoBulkAll spare + 1
  | .agg parts => uptoBulkAll parts + 1
  | .iface _ d => uptoBulk d + 1
  | .map entries => uptoBulkEntries entries + 1
  | .held _ => 1
def uptoBulkAll {H : Type} : List (DataW H) → Nat
  | [] => 0
  | d :: r => uptoBulk d + uptoBulkAll r
def uptoBulkEntries {H : Type} : List (Lit × DataW H) → Nat
  | [] => 0
  | x :: r => uptoBulkEntry x + uptoBulkEntries r
def uptoBulkEntry {H : Type} : Lit × DataW H → Nat
  | (.string bytes, d) => bytes.length + uptoBulk d + 1
  | (_, d) => uptoBulk d + 1
 end
def uptoSmall : (H : Type) → List (DataW H) → Bool := fun _ ds => decide (uptoBulkAll ds ≤ 1048576)
def OpenSpec.upto (s : _root_.Go.ChangeSpec) : _root_.Go.OpenSpec := { _root_.Go.OpenSpec.ofChange s with cond := some uptoSmall }

/-- 'laws.FnStreams', WHERE WHAT IT READS IS OF BULK AT MOST 1048576: true; the input reads as it did. -/
def fnStreamsUptoRow : OpenClaim := { program := "ytkdpkbnhckpnoaa", sum := "0b8092d9994f84a57855f294603e9e766c0cd7605da854d0db5f9fa0d0c131e1", func := "loop.example/g00879/laws.FnStreams", spec := "fnStreams", unfollowed := true, recurses := true, apart := false, narrowed := true }
def FnStreamsUptoSaid : Prop := fnStreamsUptoRow.holds Try.pinned (OpenSpec.upto fnStreamsSpec)

/-- 'laws.FnExactIsLayout', WHERE WHAT IT READS IS OF BULK AT MOST 1048576: true; the input reads as it did. -/
def fnExactIsLayoutUptoRow : OpenClaim := { program := "ytkdpkbnhckpnoaa", sum := "0b8092d9994f84a57855f294603e9e766c0cd7605da854d0db5f9fa0d0c131e1", func := "loop.example/g00879/laws.FnExactIsLayout", spec := "fnExactIsLayout", apart := false, narrowed := true }
def FnExactIsLayoutUptoSaid : Prop := fnExactIsLayoutUptoRow.holds Try.pinned (OpenSpec.upto fnExactIsLayoutSpec)

/-- 'laws.FnExactBlockCodes', WHERE WHAT IT READS IS OF BULK AT MOST 1048576: true; the input reads as it did. -/
def fnExactBlockCodesUptoRow : OpenClaim := { program := "ytkdpkbnhckpnoaa", sum := "0b8092d9994f84a57855f294603e9e766c0cd7605da854d0db5f9fa0d0c131e1", func := "loop.example/g00879/laws.FnExactBlockCodes", spec := "fnExactBlockCodes", apart := false, narrowed := true }
def FnExactBlockCodesUptoSaid : Prop := fnExactBlockCodesUptoRow.holds Try.pinned (OpenSpec.upto fnExactBlockCodesSpec)

/-- 'laws.FnExactStreamIndex', WHERE WHAT IT READS IS OF BULK AT MOST 1048576: true; the input reads as it did. -/
def fnExactStreamIndexUptoRow : OpenClaim := { program := "ytkdpkbnhckpnoaa", sum := "0b8092d9994f84a57855f294603e9e766c0cd7605da854d0db5f9fa0d0c131e1", func := "loop.example/g00879/laws.FnExactStreamIndex", spec := "fnExactStreamIndex", unfollowed := true, recurses := true, apart := false, narrowed := true }
def FnExactStreamIndexUptoSaid : Prop := fnExactStreamIndexUptoRow.holds Try.pinned (OpenSpec.upto fnExactStreamIndexSpec)

/-- 'laws.FnExactEncodeStream', WHERE WHAT IT READS IS OF BULK AT MOST 1048576: true; the input reads as it did. -/
def fnExactEncodeStreamUptoRow : OpenClaim := { program := "ytkdpkbnhckpnoaa", sum := "0b8092d9994f84a57855f294603e9e766c0cd7605da854d0db5f9fa0d0c131e1", func := "loop.example/g00879/laws.FnExactEncodeStream", spec := "fnExactEncodeStream", unfollowed := true, recurses := true, apart := false, narrowed := true }
def FnExactEncodeStreamUptoSaid : Prop := fnExactEncodeStreamUptoRow.holds Try.pinned (OpenSpec.upto fnExactEncodeStreamSpec)

/-- 'laws.FnExactSplitStream', WHERE WHAT IT READS IS OF BULK AT MOST 1048576: true; the input reads as it did. -/
def fnExactSplitStreamUptoRow : OpenClaim := { program := "ytkdpkbnhckpnoaa", sum := "0b8092d9994f84a57855f294603e9e766c0cd7605da854d0db5f9fa0d0c131e1", func := "loop.example/g00879/laws.FnExactSplitStream", spec := "fnExactSplitStream", unfollowed := true, recurses := true, apart := false, narrowed := true }
def FnExactSplitStreamUptoSaid : Prop := fnExactSplitStreamUptoRow.holds Try.pinned (OpenSpec.upto fnExactSplitStreamSpec)

/-- 'laws.FnExactBurstBound', WHERE WHAT IT READS IS OF BULK AT MOST 1048576: true; the input reads as it did. -/
def fnExactBurstBoundUptoRow : OpenClaim := { program := "ytkdpkbnhckpnoaa", sum := "0b8092d9994f84a57855f294603e9e766c0cd7605da854d0db5f9fa0d0c131e1", func := "loop.example/g00879/laws.FnExactBurstBound", spec := "fnExactBurstBound", unfollowed := true, recurses := true, apart := false, narrowed := true }
def FnExactBurstBoundUptoSaid : Prop := fnExactBurstBoundUptoRow.holds Try.pinned (OpenSpec.upto fnExactBurstBoundSpec)

/-- 'laws.FnExactStreamDamage', WHERE WHAT IT READS IS OF BULK AT MOST 1048576: true; the input reads as it did. -/
def fnExactStreamDamageUptoRow : OpenClaim := { program := "ytkdpkbnhckpnoaa", sum := "0b8092d9994f84a57855f294603e9e766c0cd7605da854d0db5f9fa0d0c131e1", func := "loop.example/g00879/laws.FnExactStreamDamage", spec := "fnExactStreamDamage", unfollowed := true, recurses := true, apart := false, narrowed := true }
def FnExactStreamDamageUptoSaid : Prop := fnExactStreamDamageUptoRow.holds Try.pinned (OpenSpec.upto fnExactStreamDamageSpec)

end Rows
end Go.Proofs.Ytkdpkbnhckpnoaa
