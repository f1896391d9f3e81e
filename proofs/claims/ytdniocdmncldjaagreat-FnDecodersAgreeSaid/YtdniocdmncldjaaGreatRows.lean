/-
  No cell of these rows narrows 'for every input' (looked for: loops, veiled, ifaces, maps, wideKeys, modest, calm, conditions, laid).
  DERIVED. THE GIVEN ROWS OF THIS SEAT. 2 by the template 'for every input the law returns true; each argument reads behind the call as it read before'; 0 by the template 'total and deterministic' (their statements: YtdniocdmncldjaaGreatTotals.lean).
  GIVEN WITH THE SEED: the statements are not yours to turn. If you find one false, say at which input.
  Laid BY PROGRAM, IN A SANDBOX (cutbox-rows.mjs): the forced cells as the released guide's own fill.sh prints them over the translation 28202067e7049790… (all of the seat's roots in one cut). By AI agents, Wed Nov 11 2026. No macro, syntax, notation, axiom, sorry.
-/
import Derived.Test.YtdniocdmncldjaaGreatChecked
import GoSem.Claim
import GoSem.ClaimJoined
import GoSem.ClaimMapViews
import Derived.JoinedTies
import Derived.KernelRfl
namespace Go.Proofs.YtdniocdmncldjaaGreat
/- THE CELL 'sum', in the pinned program and in every row, IS THE sha256 OF THE DUMP (.gsa) THAT YtdniocdmncldjaaGreatProg.lean LOADS. Nothing in Lean hashes anything: it is a label: what it is worth is what the hold of that sum in a sandbox is worth. -/
noncomputable def Tryz.pinned : Pinned := { name := "ytdniocdmncldjaagreat", sum := "28202067e70497900a6fbf39fdae00d7a806ed49cdad9916bb91d3f0c4a53554", checked := Tryz.checked }
namespace Rows
def none {H : Type} : Left H := { results := [], args := [] }

/-- 'laws.FnDecodersAgree': WHATEVER THE INPUT: true; the input reads as it did. -/
def fnDecodersAgreeSpec : ChangeSpec := { name := "fnDecodersAgree", fn := fun _ => fun
  | [d] => { results := [.lit (.bool true)], args := [d] }
  | _ => none }
def fnDecodersAgreeRow : OpenClaim := { program := "ytdniocdmncldjaagreat", sum := "28202067e70497900a6fbf39fdae00d7a806ed49cdad9916bb91d3f0c4a53554", func := "loop.example/g00879/laws.FnDecodersAgree", spec := "fnDecodersAgree", unfollowed := true, recurses := true, apart := false }
def FnDecodersAgreeSaid : Prop := fnDecodersAgreeRow.holds Tryz.pinned (OpenSpec.ofChange fnDecodersAgreeSpec)

/-- ITS FALSE NEIGHBOUR: 'it returns false'. Refute it at one input. -/
def fnDecodersAgreeWrong : ChangeSpec := { name := "fnDecodersAgree", fn := fun _ => fun
  | [d] => { results := [.lit (.bool false)], args := [d] }
  | _ => none }
def FnDecodersAgreeWrongFalsely : Prop := fnDecodersAgreeRow.holds Tryz.pinned (OpenSpec.ofChange fnDecodersAgreeWrong)

/-- 'laws.FnErrorRecurrence': WHATEVER THE INPUT: true; the input reads as it did. -/
def fnErrorRecurrenceSpec : ChangeSpec := { name := "fnErrorRecurrence", fn := fun _ => fun
  | [d] => { results := [.lit (.bool true)], args := [d] }
  | _ => none }
def fnErrorRecurrenceRow : OpenClaim := { program := "ytdniocdmncldjaagreat", sum := "28202067e70497900a6fbf39fdae00d7a806ed49cdad9916bb91d3f0c4a53554", func := "loop.example/g00879/laws.FnErrorRecurrence", spec := "fnErrorRecurrence", unfollowed := true, recurses := true, apart := false }
def FnErrorRecurrenceSaid : Prop := fnErrorRecurrenceRow.holds Tryz.pinned (OpenSpec.ofChange fnErrorRecurrenceSpec)

/-- ITS FALSE NEIGHBOUR: 'it returns false'. Refute it at one input. -/
def fnErrorRecurrenceWrong : ChangeSpec := { name := "fnErrorRecurrence", fn := fun _ => fun
  | [d] => { results := [.lit (.bool false)], args := [d] }
  | _ => none }
def FnErrorRecurrenceWrongFalsely : Prop := fnErrorRecurrenceRow.holds Tryz.pinned (OpenSpec.ofChange fnErrorRecurrenceWrong)

/- THE SECOND FORM. 'bulk': how many values and letters a reading holds, each counted each time it is reached (what is shared counts as often as it is met; a slice's spare places count too). A statement '..UptoSaid' is the law's where the arguments, and the package variables that the reading takes, are together of bulk at most 1048576: NARROWER than '..Said'. Prove '..Said' where nothing that the law and all that it calls make is longer than what came in: it says more and counts as full. Else prove '..UptoSaid'. A law counts once. -/
mutual
def uptoBulk {H : Type} : DataW H → Nat
  | .lit (.string bytes) => bytes.length + 1
  | .lit _ => 1
  | .nil => 1
  | .ptr d => uptoBulk d + 1
  | .slice elems spare => uptoBulkAll elems + uptoBulkAll spare + 1
  | .agg parts => uptoBulkAll parts + 1
  | .iface _ d => uptoBulk d + 1
  | .map entries => uptoBulkEntries entries + 1
  | .held _ => 1
def uptoBulkAll {H : Type} : List (DataW H) → Nat
  | [] => 0
  | d :: r => uptoBulk d + uptoBulkAll r
def uptoBulkEntries {H : Type} : List (Lit × DataW H) → Nat
  | [] => 0
  | x :: r => uptoBulkEntry x + uptoBulkEntries r
def uptoBulkEntry {H : Type} : Lit × DataW H → Nat
  | (.string bytes, d) => bytes.length + uptoBulk d + 1
  | (_, d) => uptoBulk d + 1
 end
def uptoSmall : (H : Type) → List (DataW H) → Bool := fun _ ds => decide (uptoBulkAll ds ≤ 1048576)
def OpenSpec.upto (s : _root_.Go.ChangeSpec) : _root_.Go.OpenSpec := { _root_.Go.OpenSpec.ofChange s with cond := some uptoSmall }

/-- 'laws.FnDecodersAgree', WHERE WHAT IT READS IS OF BULK AT MOST 1048576: true; the input reads as it did. -/
def fnDecodersAgreeUptoRow : OpenClaim := { program := "ytdniocdmncldjaagreat", sum := "28202067e70497900a6fbf39fdae00d7a806ed49cdad9916bb91d3f0c4a53554", func := "loop.example/g00879/laws.FnDecodersAgree", spec := "fnDecodersAgree", unfollowed := true, recurses := true, apart := false, narrowed := true }
def FnDecodersAgreeUptoSaid : Prop := fnDecodersAgreeUptoRow.holds Tryz.pinned (OpenSpec.upto fnDecodersAgreeSpec)

/-- 'laws.FnErrorRecurrence', WHERE WHAT IT READS IS OF BULK AT MOST 1048576: true; the input reads as it did. -/
def fnErrorRecurrenceUptoRow : OpenClaim := { program := "ytdniocdmncldjaagreat", sum := "28202067e70497900a6fbf39fdae00d7a806ed49cdad9916bb91d3f0c4a53554", func := "loop.example/g00879/laws.FnErrorRecurrence", spec := "fnErrorRecurrence", unfollowed := true, recurses := true, apart := false, narrowed := true }
def FnErrorRecurrenceUptoSaid : Prop := fnErrorRecurrenceUptoRow.holds Tryz.pinned (OpenSpec.upto fnErrorRecurrenceSpec)

end Rows
end Go.Proofs.YtdniocdmncldjaaGreat
