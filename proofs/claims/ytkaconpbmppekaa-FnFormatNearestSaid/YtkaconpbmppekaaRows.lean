/-
  No cell of these rows narrows 'for every input' (looked for: loops, veiled, ifaces, maps, wideKeys, modest, calm, conditions, laid).
  DERIVED. THE GIVEN ROWS OF THIS SEAT. 9 by the template 'for every input the law returns true; each argument reads behind the call as it read before'; 0 by the template 'total and deterministic' (their statements: YtkaconpbmppekaaTotals.lean).
  GIVEN WITH THE SEED: the statements are not yours to turn. If you find one false, say at which input.
  Laid BY PROGRAM, IN A SANDBOX (cutbox-rows.mjs): the forced cells as the released guide's own fill.sh prints them over the translation 5678bd9341981450… (all of the seat's roots in one cut). By AI agents, Wed Nov 11 2026. No macro, syntax, notation, axiom, sorry.
-/
import Derived.Test.YtkaconpbmppekaaChecked
import GoSem.Claim
import GoSem.ClaimJoined
import GoSem.ClaimMapViews
import Derived.JoinedTies
import Derived.KernelRfl
namespace Go.Proofs.Ytkaconpbmppekaa
/- THE CELL 'sum', in the pinned program and in every row, IS THE sha256 OF THE DUMP (.gsa) THAT YtkaconpbmppekaaProg.lean LOADS. Nothing in Lean hashes anything: it is a label: what it is worth is what the hold of that sum in a sandbox is worth. -/
noncomputable def Try.pinned : Pinned := { name := "ytkaconpbmppekaa", sum := "5678bd93419814504cf71e9316269f72fc0a73e1cf5e1f0f95ad8e498f4be29d", checked := Try.checked }
namespace Rows
def none {H : Type} : Left H := { results := [], args := [] }

/-- 'laws.FnFormatWords': WHATEVER THE INPUT: true; the input reads as it did. -/
def fnFormatWordsSpec : ChangeSpec := { name := "fnFormatWords", fn := fun _ => fun
  | [d] => { results := [.lit (.bool true)], args := [d] }
  | _ => none }
def fnFormatWordsRow : OpenClaim := { program := "ytkaconpbmppekaa", sum := "5678bd93419814504cf71e9316269f72fc0a73e1cf5e1f0f95ad8e498f4be29d", func := "loop.example/g00879/laws.FnFormatWords", spec := "fnFormatWords", apart := false }
def FnFormatWordsSaid : Prop := fnFormatWordsRow.holds Try.pinned (OpenSpec.ofChange fnFormatWordsSpec)

/-- ITS FALSE NEIGHBOUR: 'it returns false'. Refute it at one input. -/
def fnFormatWordsWrong : ChangeSpec := { name := "fnFormatWords", fn := fun _ => fun
  | [d] => { results := [.lit (.bool false)], args := [d] }
  | _ => none }
def FnFormatWordsWrongFalsely : Prop := fnFormatWordsRow.holds Try.pinned (OpenSpec.ofChange fnFormatWordsWrong)

/-- 'laws.FnFormatNearest': WHATEVER THE INPUT: true; the input reads as it did. -/
def fnFormatNearestSpec : ChangeSpec := { name := "fnFormatNearest", fn := fun _ => fun
  | [d] => { results := [.lit (.bool true)], args := [d] }
  | _ => none }
def fnFormatNearestRow : OpenClaim := { program := "ytkaconpbmppekaa", sum := "5678bd93419814504cf71e9316269f72fc0a73e1cf5e1f0f95ad8e498f4be29d", func := "loop.example/g00879/laws.FnFormatNearest", spec := "fnFormatNearest", unfollowed := true, recurses := true, apart := false }
def FnFormatNearestSaid : Prop := fnFormatNearestRow.holds Try.pinned (OpenSpec.ofChange fnFormatNearestSpec)

/-- ITS FALSE NEIGHBOUR: 'it returns false'. Refute it at one input. -/
def fnFormatNearestWrong : ChangeSpec := { name := "fnFormatNearest", fn := fun _ => fun
  | [d] => { results := [.lit (.bool false)], args := [d] }
  | _ => none }
def FnFormatNearestWrongFalsely : Prop := fnFormatNearestRow.holds Try.pinned (OpenSpec.ofChange fnFormatNearestWrong)

/-- 'laws.FnFormatShare': WHATEVER THE INPUT: true; the input reads as it did. -/
def fnFormatShareSpec : ChangeSpec := { name := "fnFormatShare", fn := fun _ => fun
  | [d] => { results := [.lit (.bool true)], args := [d] }
  | _ => none }
def fnFormatShareRow : OpenClaim := { program := "ytkaconpbmppekaa", sum := "5678bd93419814504cf71e9316269f72fc0a73e1cf5e1f0f95ad8e498f4be29d", func := "loop.example/g00879/laws.FnFormatShare", spec := "fnFormatShare", unfollowed := true, recurses := true, apart := false }
def FnFormatShareSaid : Prop := fnFormatShareRow.holds Try.pinned (OpenSpec.ofChange fnFormatShareSpec)

/-- ITS FALSE NEIGHBOUR: 'it returns false'. Refute it at one input. -/
def fnFormatShareWrong : ChangeSpec := { name := "fnFormatShare", fn := fun _ => fun
  | [d] => { results := [.lit (.bool false)], args := [d] }
  | _ => none }
def FnFormatShareWrongFalsely : Prop := fnFormatShareRow.holds Try.pinned (OpenSpec.ofChange fnFormatShareWrong)

/-- 'laws.FnExactIsFormatCode': WHATEVER THE INPUT: true; the input reads as it did. -/
def fnExactIsFormatCodeSpec : ChangeSpec := { name := "fnExactIsFormatCode", fn := fun _ => fun
  | [d] => { results := [.lit (.bool true)], args := [d] }
  | _ => none }
def fnExactIsFormatCodeRow : OpenClaim := { program := "ytkaconpbmppekaa", sum := "5678bd93419814504cf71e9316269f72fc0a73e1cf5e1f0f95ad8e498f4be29d", func := "loop.example/g00879/laws.FnExactIsFormatCode", spec := "fnExactIsFormatCode", apart := false }
def FnExactIsFormatCodeSaid : Prop := fnExactIsFormatCodeRow.holds Try.pinned (OpenSpec.ofChange fnExactIsFormatCodeSpec)

/-- ITS FALSE NEIGHBOUR: 'it returns false'. Refute it at one input. -/
def fnExactIsFormatCodeWrong : ChangeSpec := { name := "fnExactIsFormatCode", fn := fun _ => fun
  | [d] => { results := [.lit (.bool false)], args := [d] }
  | _ => none }
def FnExactIsFormatCodeWrongFalsely : Prop := fnExactIsFormatCodeRow.holds Try.pinned (OpenSpec.ofChange fnExactIsFormatCodeWrong)

/-- 'laws.FnExactStandardFormat': WHATEVER THE INPUT: true; the input reads as it did. -/
def fnExactStandardFormatSpec : ChangeSpec := { name := "fnExactStandardFormat", fn := fun _ => fun
  | [] => { results := [.lit (.bool true)], args := [] }
  | _ => none }
def fnExactStandardFormatRow : OpenClaim := { program := "ytkaconpbmppekaa", sum := "5678bd93419814504cf71e9316269f72fc0a73e1cf5e1f0f95ad8e498f4be29d", func := "loop.example/g00879/laws.FnExactStandardFormat", spec := "fnExactStandardFormat", apart := false }
def FnExactStandardFormatSaid : Prop := fnExactStandardFormatRow.holds Try.pinned (OpenSpec.ofChange fnExactStandardFormatSpec)

/-- ITS FALSE NEIGHBOUR: 'it returns false'. Refute it at one input. -/
def fnExactStandardFormatWrong : ChangeSpec := { name := "fnExactStandardFormat", fn := fun _ => fun
  | [] => { results := [.lit (.bool false)], args := [] }
  | _ => none }
def FnExactStandardFormatWrongFalsely : Prop := fnExactStandardFormatRow.holds Try.pinned (OpenSpec.ofChange fnExactStandardFormatWrong)

/-- 'laws.FnExactFormatWord': WHATEVER THE INPUT: true; the input reads as it did. -/
def fnExactFormatWordSpec : ChangeSpec := { name := "fnExactFormatWord", fn := fun _ => fun
  | [d1, d2] => { results := [.lit (.bool true)], args := [d1, d2] }
  | _ => none }
def fnExactFormatWordRow : OpenClaim := { program := "ytkaconpbmppekaa", sum := "5678bd93419814504cf71e9316269f72fc0a73e1cf5e1f0f95ad8e498f4be29d", func := "loop.example/g00879/laws.FnExactFormatWord", spec := "fnExactFormatWord", apart := false }
def FnExactFormatWordSaid : Prop := fnExactFormatWordRow.holds Try.pinned (OpenSpec.ofChange fnExactFormatWordSpec)

/-- ITS FALSE NEIGHBOUR: 'it returns false'. Refute it at one input. -/
def fnExactFormatWordWrong : ChangeSpec := { name := "fnExactFormatWord", fn := fun _ => fun
  | [d1, d2] => { results := [.lit (.bool false)], args := [d1, d2] }
  | _ => none }
def FnExactFormatWordWrongFalsely : Prop := fnExactFormatWordRow.holds Try.pinned (OpenSpec.ofChange fnExactFormatWordWrong)

/-- 'laws.FnExactFormatDistance': WHATEVER THE INPUT: true; the input reads as it did. -/
def fnExactFormatDistanceSpec : ChangeSpec := { name := "fnExactFormatDistance", fn := fun _ => fun
  | [d] => { results := [.lit (.bool true)], args := [d] }
  | _ => none }
def fnExactFormatDistanceRow : OpenClaim := { program := "ytkaconpbmppekaa", sum := "5678bd93419814504cf71e9316269f72fc0a73e1cf5e1f0f95ad8e498f4be29d", func := "loop.example/g00879/laws.FnExactFormatDistance", spec := "fnExactFormatDistance", apart := false }
def FnExactFormatDistanceSaid : Prop := fnExactFormatDistanceRow.holds Try.pinned (OpenSpec.ofChange fnExactFormatDistanceSpec)

/-- ITS FALSE NEIGHBOUR: 'it returns false'. Refute it at one input. -/
def fnExactFormatDistanceWrong : ChangeSpec := { name := "fnExactFormatDistance", fn := fun _ => fun
  | [d] => { results := [.lit (.bool false)], args := [d] }
  | _ => none }
def FnExactFormatDistanceWrongFalsely : Prop := fnExactFormatDistanceRow.holds Try.pinned (OpenSpec.ofChange fnExactFormatDistanceWrong)

/-- 'laws.FnExactNearestFormat': WHATEVER THE INPUT: true; the input reads as it did. -/
def fnExactNearestFormatSpec : ChangeSpec := { name := "fnExactNearestFormat", fn := fun _ => fun
  | [d1, d2] => { results := [.lit (.bool true)], args := [d1, d2] }
  | _ => none }
def fnExactNearestFormatRow : OpenClaim := { program := "ytkaconpbmppekaa", sum := "5678bd93419814504cf71e9316269f72fc0a73e1cf5e1f0f95ad8e498f4be29d", func := "loop.example/g00879/laws.FnExactNearestFormat", spec := "fnExactNearestFormat", unfollowed := true, recurses := true, apart := false }
def FnExactNearestFormatSaid : Prop := fnExactNearestFormatRow.holds Try.pinned (OpenSpec.ofChange fnExactNearestFormatSpec)

/-- ITS FALSE NEIGHBOUR: 'it returns false'. Refute it at one input. -/
def fnExactNearestFormatWrong : ChangeSpec := { name := "fnExactNearestFormat", fn := fun _ => fun
  | [d1, d2] => { results := [.lit (.bool false)], args := [d1, d2] }
  | _ => none }
def FnExactNearestFormatWrongFalsely : Prop := fnExactNearestFormatRow.holds Try.pinned (OpenSpec.ofChange fnExactNearestFormatWrong)

/-- 'laws.FnExactFormatShare': WHATEVER THE INPUT: true; the input reads as it did. -/
def fnExactFormatShareSpec : ChangeSpec := { name := "fnExactFormatShare", fn := fun _ => fun
  | [d1, d2, d3] => { results := [.lit (.bool true)], args := [d1, d2, d3] }
  | _ => none }
def fnExactFormatShareRow : OpenClaim := { program := "ytkaconpbmppekaa", sum := "5678bd93419814504cf71e9316269f72fc0a73e1cf5e1f0f95ad8e498f4be29d", func := "loop.example/g00879/laws.FnExactFormatShare", spec := "fnExactFormatShare", unfollowed := true, recurses := true, apart := false }
def FnExactFormatShareSaid : Prop := fnExactFormatShareRow.holds Try.pinned (OpenSpec.ofChange fnExactFormatShareSpec)

/-- ITS FALSE NEIGHBOUR: 'it returns false'. Refute it at one input. -/
def fnExactFormatShareWrong : ChangeSpec := { name := "fnExactFormatShare", fn := fun _ => fun
  | [d1, d2, d3] => { results := [.lit (.bool false)], args := [d1, d2, d3] }
  | _ => none }
def FnExactFormatShareWrongFalsely : Prop := fnExactFormatShareRow.holds Try.pinned (OpenSpec.ofChange fnExactFormatShareWrong)

/- THE SECOND FORM. 'bulk': how many values and letters a reading holds, each counted each time it is reached (what is shared counts as often as it is met; a slice's spare places count too). A statement '..UptoSaid' is the law's where the arguments, and the package variables that the reading takes, are together of bulk at most 1048576: NARROWER than '..Said'. Prove '..Said' where nothing that the law and all that it calls make is longer than what came in: it says more and counts as full. Else prove '..UptoSaid'. A law counts once. -/
mutual
def uptoBulk {H : Type} : DataW H → Nat
  | .lit (.string bytes) => bytes.length + 1
  | .lit _ => 1
  | .nil => 1
  | .ptr d => uptoBulk d + 1
  | .slice elems spare => uptoBulkAll elems + uptoBulkAll spare + 1
  | .agg parts => uptoBulkAll parts + 1
  | .iface _ d => uptoBulk d + 1
  | .map entries => uptoBulkEntries entries + 1
  | .held _ => 1
def uptoBulkAll {H : Type} : List (DataW H) → Nat
  | [] => 0
  | d :: r => uptoBulk d + uptoBulkAll r
def uptoBulkEntries {H : Type} : List (Lit × DataW H) → Nat
  | [] => 0
  | x :: r => uptoBulkEntry x + uptoBulkEntries r
def uptoBulkEntry {H : Type} : Lit × DataW H → Nat
  | (.string bytes, d) => bytes.length + uptoBulk d + 1
  | (_, d) => uptoBulk d + 1
 end
def uptoSmall : (H : Type) → List (DataW H) → Bool := fun _ ds => decide (uptoBulkAll ds ≤ 1048576)
def OpenSpec.upto (s : _root_.Go.ChangeSpec) : _root_.Go.OpenSpec := { _root_.Go.OpenSpec.ofChange s with cond := some uptoSmall }

/-- 'laws.FnFormatWords', WHERE WHAT IT READS IS OF BULK AT MOST 1048576: true; the input reads as it did. -/
def fnFormatWordsUptoRow : OpenClaim := { program := "ytkaconpbmppekaa", sum := "5678bd93419814504cf71e9316269f72fc0a73e1cf5e1f0f95ad8e498f4be29d", func := "loop.example/g00879/laws.FnFormatWords", spec := "fnFormatWords", apart := false, narrowed := true }
def FnFormatWordsUptoSaid : Prop := fnFormatWordsUptoRow.holds Try.pinned (OpenSpec.upto fnFormatWordsSpec)

/-- 'laws.FnFormatNearest', WHERE WHAT IT READS IS OF BULK AT MOST 1048576: true; the input reads as it did. -/
def fnFormatNearestUptoRow : OpenClaim := { program := "ytkaconpbmppekaa", sum := "5678bd93419814504cf71e9316269f72fc0a73e1cf5e1f0f95ad8e498f4be29d", func := "loop.example/g00879/laws.FnFormatNearest", spec := "fnFormatNearest", unfollowed := true, recurses := true, apart := false, narrowed := true }
def FnFormatNearestUptoSaid : Prop := fnFormatNearestUptoRow.holds Try.pinned (OpenSpec.upto fnFormatNearestSpec)

/-- 'laws.FnFormatShare', WHERE WHAT IT READS IS OF BULK AT MOST 1048576: true; the input reads as it did. -/
def fnFormatShareUptoRow : OpenClaim := { program := "ytkaconpbmppekaa", sum := "5678bd93419814504cf71e9316269f72fc0a73e1cf5e1f0f95ad8e498f4be29d", func := "loop.example/g00879/laws.FnFormatShare", spec := "fnFormatShare", unfollowed := true, recurses := true, apart := false, narrowed := true }
def FnFormatShareUptoSaid : Prop := fnFormatShareUptoRow.holds Try.pinned (OpenSpec.upto fnFormatShareSpec)

/-- 'laws.FnExactIsFormatCode', WHERE WHAT IT READS IS OF BULK AT MOST 1048576: true; the input reads as it did. -/
def fnExactIsFormatCodeUptoRow : OpenClaim := { program := "ytkaconpbmppekaa", sum := "5678bd93419814504cf71e9316269f72fc0a73e1cf5e1f0f95ad8e498f4be29d", func := "loop.example/g00879/laws.FnExactIsFormatCode", spec := "fnExactIsFormatCode", apart := false, narrowed := true }
def FnExactIsFormatCodeUptoSaid : Prop := fnExactIsFormatCodeUptoRow.holds Try.pinned (OpenSpec.upto fnExactIsFormatCodeSpec)

/-- 'laws.FnExactStandardFormat', WHERE WHAT IT READS IS OF BULK AT MOST 1048576: true; the input reads as it did. -/
def fnExactStandardFormatUptoRow : OpenClaim := { program := "ytkaconpbmppekaa", sum := "5678bd93419814504cf71e9316269f72fc0a73e1cf5e1f0f95ad8e498f4be29d", func := "loop.example/g00879/laws.FnExactStandardFormat", spec := "fnExactStandardFormat", apart := false, narrowed := true }
def FnExactStandardFormatUptoSaid : Prop := fnExactStandardFormatUptoRow.holds Try.pinned (OpenSpec.upto fnExactStandardFormatSpec)

/-- 'laws.FnExactFormatWord', WHERE WHAT IT READS IS OF BULK AT MOST 1048576: true; the input reads as it did. -/
def fnExactFormatWordUptoRow : OpenClaim := { program := "ytkaconpbmppekaa", sum := "5678bd93419814504cf71e9316269f72fc0a73e1cf5e1f0f95ad8e498f4be29d", func := "loop.example/g00879/laws.FnExactFormatWord", spec := "fnExactFormatWord", apart := false, narrowed := true }
def FnExactFormatWordUptoSaid : Prop := fnExactFormatWordUptoRow.holds Try.pinned (OpenSpec.upto fnExactFormatWordSpec)

/-- 'laws.FnExactFormatDistance', WHERE WHAT IT READS IS OF BULK AT MOST 1048576: true; the input reads as it did. -/
def fnExactFormatDistanceUptoRow : OpenClaim := { program := "ytkaconpbmppekaa", sum := "5678bd93419814504cf71e9316269f72fc0a73e1cf5e1f0f95ad8e498f4be29d", func := "loop.example/g00879/laws.FnExactFormatDistance", spec := "fnExactFormatDistance", apart := false, narrowed := true }
def FnExactFormatDistanceUptoSaid : Prop := fnExactFormatDistanceUptoRow.holds Try.pinned (OpenSpec.upto fnExactFormatDistanceSpec)

/-- 'laws.FnExactNearestFormat', WHERE WHAT IT READS IS OF BULK AT MOST 1048576: true; the input reads as it did. -/
def fnExactNearestFormatUptoRow : OpenClaim := { program := "ytkaconpbmppekaa", sum := "5678bd93419814504cf71e9316269f72fc0a73e1cf5e1f0f95ad8e498f4be29d", func := "loop.example/g00879/laws.FnExactNearestFormat", spec := "fnExactNearestFormat", unfollowed := true, recurses := true, apart := false, narrowed := true }
def FnExactNearestFormatUptoSaid : Prop := fnExactNearestFormatUptoRow.holds Try.pinned (OpenSpec.upto fnExactNearestFormatSpec)

/-- 'laws.FnExactFormatShare', WHERE WHAT IT READS IS OF BULK AT MOST 1048576: true; the input reads as it did. -/
def fnExactFormatShareUptoRow : OpenClaim := { program := "ytkaconpbmppekaa", sum := "5678bd93419814504cf71e9316269f72fc0a73e1cf5e1f0f95ad8e498f4be29d", func := "loop.example/g00879/laws.FnExactFormatShare", spec := "fnExactFormatShare", unfollowed := true, recurses := true, apart := false, narrowed := true }
def FnExactFormatShareUptoSaid : Prop := fnExactFormatShareUptoRow.holds Try.pinned (OpenSpec.upto fnExactFormatShareSpec)

end Rows
end Go.Proofs.Ytkaconpbmppekaa
