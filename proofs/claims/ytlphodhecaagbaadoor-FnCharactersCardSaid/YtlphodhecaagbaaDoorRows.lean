/-
  NARROWER THAN 'FOR EVERY INPUT', by the rows' own cells (each row's printed sentence says how): FnCharacters: laid · FnExactModeName: laid.
  DERIVED. THE GIVEN ROWS OF THIS SEAT. 2 by the template 'for every input the law returns true; each argument reads behind the call as it read before'; 0 by the template 'total and deterministic' (their statements: YtlphodhecaagbaaDoorTotals.lean).
  GIVEN WITH THE SEED: the statements are not yours to turn. If you find one false, say at which input.
  Laid BY PROGRAM, IN A SANDBOX (cutbox-rows.mjs): the forced cells as the released guide's own fill.sh prints them over the translation ce4f95a02ee68b79… (all of the seat's roots in one cut). By AI agents, Wed Nov 11 2026. No macro, syntax, notation, axiom, sorry.
-/
import Derived.Test.YtlphodhecaagbaaDoorChecked
import GoSem.Claim
import GoSem.ClaimJoined
import GoSem.ClaimMapViews
import Derived.JoinedTies
import Derived.KernelRfl
namespace Go.Proofs.YtlphodhecaagbaaDoor
/- THE CELL 'sum', in the pinned program and in every row, IS THE sha256 OF THE DUMP (.gsa) THAT YtlphodhecaagbaaDoorProg.lean LOADS. Nothing in Lean hashes anything: it is a label: what it is worth is what the hold of that sum in a sandbox is worth. -/
noncomputable def Tryd.pinned : Pinned := { name := "ytlphodhecaagbaadoor", sum := "ce4f95a02ee68b7949b0272cc2e474b7908f0b9855e194086a662956ccc9cc49", checked := Tryd.checked }
namespace Rows
def none {H : Type} : Left H := { results := [], args := [] }

/- WHAT THE LISTED PACKAGE-LEVEL VARIABLES READ AS WHEN THE CALL BEGINS. Each datum BY PROGRAM (the guide's laid-datum.mjs) off the statement by which the dump's own 'gosem.cut.vars' lays the variable. In a bare row this is a premise. The card (YtlphodhecaagbaaDoorCards.lean) ties it to the program's text. -/
def laid_loop_example_g00879_impl_modeNames {H : Type} : DataW H := .agg [.lit (.string [101, 110, 100]), .lit (.string [100, 105, 103, 105, 116, 115]), .lit (.string [108, 101, 116, 116, 101, 114, 115]), .lit (.string [108, 111, 119, 101, 114]), .lit (.string [98, 121, 116, 101, 115]), .lit (.string [97, 112, 112, 101, 110, 100])]

/-- 'laws.FnCharacters': WHATEVER THE INPUT: true; the input reads as it did. -/
def fnCharactersSpec : ChangeSpec := { name := "fnCharacters", vars := ["loop.example/g00879/impl.modeNames"], fn := fun _ => fun
  | [d, g1] => { results := [.lit (.bool true)], args := [d], vars := [g1] }
  | _ => none }
def fnCharactersRow : OpenClaim := { program := "ytlphodhecaagbaadoor", sum := "ce4f95a02ee68b7949b0272cc2e474b7908f0b9855e194086a662956ccc9cc49", func := "loop.example/g00879/laws.FnCharacters", spec := "fnCharacters", unfollowed := true, recurses := true, named := ["loop.example/g00879/impl.modeNames"], apart := false, laid := [("loop.example/g00879/impl.modeNames", laid_loop_example_g00879_impl_modeNames)] }
def FnCharactersSaid : Prop := fnCharactersRow.holds Tryd.pinned (OpenSpec.ofChange fnCharactersSpec)

/-- ITS FALSE NEIGHBOUR: 'it returns false'. Refute it at one input. -/
def fnCharactersWrong : ChangeSpec := { name := "fnCharacters", vars := ["loop.example/g00879/impl.modeNames"], fn := fun _ => fun
  | [d, g1] => { results := [.lit (.bool false)], args := [d], vars := [g1] }
  | _ => none }
def FnCharactersWrongFalsely : Prop := fnCharactersRow.holds Tryd.pinned (OpenSpec.ofChange fnCharactersWrong)

/-- 'laws.FnExactModeName': WHATEVER THE INPUT: true; the input reads as it did. -/
def fnExactModeNameSpec : ChangeSpec := { name := "fnExactModeName", vars := ["loop.example/g00879/impl.modeNames"], fn := fun _ => fun
  | [d, g1] => { results := [.lit (.bool true)], args := [d], vars := [g1] }
  | _ => none }
def fnExactModeNameRow : OpenClaim := { program := "ytlphodhecaagbaadoor", sum := "ce4f95a02ee68b7949b0272cc2e474b7908f0b9855e194086a662956ccc9cc49", func := "loop.example/g00879/laws.FnExactModeName", spec := "fnExactModeName", named := ["loop.example/g00879/impl.modeNames"], apart := false, laid := [("loop.example/g00879/impl.modeNames", laid_loop_example_g00879_impl_modeNames)] }
def FnExactModeNameSaid : Prop := fnExactModeNameRow.holds Tryd.pinned (OpenSpec.ofChange fnExactModeNameSpec)

/-- ITS FALSE NEIGHBOUR: 'it returns false'. Refute it at one input. -/
def fnExactModeNameWrong : ChangeSpec := { name := "fnExactModeName", vars := ["loop.example/g00879/impl.modeNames"], fn := fun _ => fun
  | [d, g1] => { results := [.lit (.bool false)], args := [d], vars := [g1] }
  | _ => none }
def FnExactModeNameWrongFalsely : Prop := fnExactModeNameRow.holds Tryd.pinned (OpenSpec.ofChange fnExactModeNameWrong)

/- THE SECOND FORM. 'bulk': how many values and letters a reading holds, each counted each time it is reached (what is shared counts as often as it is met; a slice's spare places count too). A statement '..UptoSaid' is the law's where the arguments, and the package variables that the reading takes, are together of bulk at most 1048576: NARROWER than '..Said'. Prove '..Said' where nothing that the law and all that it calls make is longer than what came in: it says more and counts as full. Else prove '..UptoSaid'. A law counts once. -/
mutual
def uptoBulk {H : Type} : DataW H → Nat
  | .lit (.string bytes) => bytes.length + 1
  | .lit _ => 1
  | .nil => 1
  | .ptr d => uptoBulk d + 1
  | .slice elems spare => uptoBulkAll elems + uptoBulkAll spare + 1
  | .agg parts => uptoBulkAll parts + 1
  | .iface _ d => uptoBulk d + 1
  | .map entries => uptoBulkEntries entries + 1
  | .held _ => 1
def uptoBulkAll {H : Type} : List (DataW H) → Nat
  | [] => 0
  | d :: r => uptoBulk d + uptoBulkAll r
def uptoBulkEntries {H : Type} : List (Lit × DataW H) → Nat
  | [] => 0
  | x :: r => uptoBulkEntry x + uptoBulkEntries r
def uptoBulkEntry {H : Type} : Lit × DataW H → Nat
  | (.string bytes, d) => bytes.length + uptoBulk d + 1
  | (_, d) => uptoBulk d + 1
 end
def uptoSmall : (H : Type) → List (DataW H) → Bool := fun _ ds => decide (uptoBulkAll ds ≤ 1048576)
def OpenSpec.upto (s : _root_.Go.ChangeSpec) : _root_.Go.OpenSpec := { _root_.Go.OpenSpec.ofChange s with cond := some uptoSmall }

/-- 'laws.FnCharacters', WHERE WHAT IT READS IS OF BULK AT MOST 1048576: true; the input reads as it did. -/
def fnCharactersUptoRow : OpenClaim := { program := "ytlphodhecaagbaadoor", sum := "ce4f95a02ee68b7949b0272cc2e474b7908f0b9855e194086a662956ccc9cc49", func := "loop.example/g00879/laws.FnCharacters", spec := "fnCharacters", unfollowed := true, recurses := true, named := ["loop.example/g00879/impl.modeNames"], apart := false, laid := [("loop.example/g00879/impl.modeNames", laid_loop_example_g00879_impl_modeNames)], narrowed := true }
def FnCharactersUptoSaid : Prop := fnCharactersUptoRow.holds Tryd.pinned (OpenSpec.upto fnCharactersSpec)

/-- 'laws.FnExactModeName', WHERE WHAT IT READS IS OF BULK AT MOST 1048576: true; the input reads as it did. -/
def fnExactModeNameUptoRow : OpenClaim := { program := "ytlphodhecaagbaadoor", sum := "ce4f95a02ee68b7949b0272cc2e474b7908f0b9855e194086a662956ccc9cc49", func := "loop.example/g00879/laws.FnExactModeName", spec := "fnExactModeName", named := ["loop.example/g00879/impl.modeNames"], apart := false, laid := [("loop.example/g00879/impl.modeNames", laid_loop_example_g00879_impl_modeNames)], narrowed := true }
def FnExactModeNameUptoSaid : Prop := fnExactModeNameUptoRow.holds Tryd.pinned (OpenSpec.upto fnExactModeNameSpec)

end Rows
end Go.Proofs.YtlphodhecaagbaaDoor
