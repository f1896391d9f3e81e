/-
  No cell of these rows narrows 'for every input' (looked for: loops, veiled, ifaces, maps, wideKeys, modest, calm, conditions, laid).
  DERIVED. THE GIVEN ROWS OF THIS SEAT. 15 by the template 'for every input the law returns true; each argument reads behind the call as it read before'; 0 by the template 'total and deterministic' (their statements: YthafkohopkgckaaTotals.lean).
  GIVEN WITH THE SEED: the statements are not yours to turn. If you find one false, say at which input.
  Laid BY PROGRAM, IN A SANDBOX (cutbox-rows.mjs): the forced cells as the released guide's own fill.sh prints them over the translation d8fe09bb3fbcb4a8… (all of the seat's roots in one cut). By AI agents, Wed Nov 11 2026. No macro, syntax, notation, axiom, sorry.
-/
import Derived.Test.YthafkohopkgckaaChecked
import GoSem.Claim
import GoSem.ClaimJoined
import GoSem.ClaimMapViews
import Derived.JoinedTies
import Derived.KernelRfl
namespace Go.Proofs.Ythafkohopkgckaa
/- THE CELL 'sum', in the pinned program and in every row, IS THE sha256 OF THE DUMP (.gsa) THAT YthafkohopkgckaaProg.lean LOADS. Nothing in Lean hashes anything: it is a label: what it is worth is what the hold of that sum in a sandbox is worth. -/
noncomputable def Try.pinned : Pinned := { name := "ythafkohopkgckaa", sum := "d8fe09bb3fbcb4a8b0fc2ccb082960bb83c393a267df21e78084493c3491fd92", checked := Try.checked }
namespace Rows
def none {H : Type} : Left H := { results := [], args := [] }

/-- 'laws.FnFieldRing': WHATEVER THE INPUT: true; the input reads as it did. -/
def fnFieldRingSpec : ChangeSpec := { name := "fnFieldRing", fn := fun _ => fun
  | [d] => { results := [.lit (.bool true)], args := [d] }
  | _ => none }
def fnFieldRingRow : OpenClaim := { program := "ythafkohopkgckaa", sum := "d8fe09bb3fbcb4a8b0fc2ccb082960bb83c393a267df21e78084493c3491fd92", func := "loop.example/g00879/laws.FnFieldRing", spec := "fnFieldRing", apart := false }
def FnFieldRingSaid : Prop := fnFieldRingRow.holds Try.pinned (OpenSpec.ofChange fnFieldRingSpec)

/-- ITS FALSE NEIGHBOUR: 'it returns false'. Refute it at one input. -/
def fnFieldRingWrong : ChangeSpec := { name := "fnFieldRing", fn := fun _ => fun
  | [d] => { results := [.lit (.bool false)], args := [d] }
  | _ => none }
def FnFieldRingWrongFalsely : Prop := fnFieldRingRow.holds Try.pinned (OpenSpec.ofChange fnFieldRingWrong)

/-- 'laws.FnPolyProducts': WHATEVER THE INPUT: true; the input reads as it did. -/
def fnPolyProductsSpec : ChangeSpec := { name := "fnPolyProducts", fn := fun _ => fun
  | [d] => { results := [.lit (.bool true)], args := [d] }
  | _ => none }
def fnPolyProductsRow : OpenClaim := { program := "ythafkohopkgckaa", sum := "d8fe09bb3fbcb4a8b0fc2ccb082960bb83c393a267df21e78084493c3491fd92", func := "loop.example/g00879/laws.FnPolyProducts", spec := "fnPolyProducts", apart := false }
def FnPolyProductsSaid : Prop := fnPolyProductsRow.holds Try.pinned (OpenSpec.ofChange fnPolyProductsSpec)

/-- ITS FALSE NEIGHBOUR: 'it returns false'. Refute it at one input. -/
def fnPolyProductsWrong : ChangeSpec := { name := "fnPolyProducts", fn := fun _ => fun
  | [d] => { results := [.lit (.bool false)], args := [d] }
  | _ => none }
def FnPolyProductsWrongFalsely : Prop := fnPolyProductsRow.holds Try.pinned (OpenSpec.ofChange fnPolyProductsWrong)

/-- 'laws.FnPolyDivision': WHATEVER THE INPUT: true; the input reads as it did. -/
def fnPolyDivisionSpec : ChangeSpec := { name := "fnPolyDivision", fn := fun _ => fun
  | [d] => { results := [.lit (.bool true)], args := [d] }
  | _ => none }
def fnPolyDivisionRow : OpenClaim := { program := "ythafkohopkgckaa", sum := "d8fe09bb3fbcb4a8b0fc2ccb082960bb83c393a267df21e78084493c3491fd92", func := "loop.example/g00879/laws.FnPolyDivision", spec := "fnPolyDivision", apart := false }
def FnPolyDivisionSaid : Prop := fnPolyDivisionRow.holds Try.pinned (OpenSpec.ofChange fnPolyDivisionSpec)

/-- ITS FALSE NEIGHBOUR: 'it returns false'. Refute it at one input. -/
def fnPolyDivisionWrong : ChangeSpec := { name := "fnPolyDivision", fn := fun _ => fun
  | [d] => { results := [.lit (.bool false)], args := [d] }
  | _ => none }
def FnPolyDivisionWrongFalsely : Prop := fnPolyDivisionRow.holds Try.pinned (OpenSpec.ofChange fnPolyDivisionWrong)

/-- 'laws.FnPolyRoots': WHATEVER THE INPUT: true; the input reads as it did. -/
def fnPolyRootsSpec : ChangeSpec := { name := "fnPolyRoots", fn := fun _ => fun
  | [d] => { results := [.lit (.bool true)], args := [d] }
  | _ => none }
def fnPolyRootsRow : OpenClaim := { program := "ythafkohopkgckaa", sum := "d8fe09bb3fbcb4a8b0fc2ccb082960bb83c393a267df21e78084493c3491fd92", func := "loop.example/g00879/laws.FnPolyRoots", spec := "fnPolyRoots", apart := false }
def FnPolyRootsSaid : Prop := fnPolyRootsRow.holds Try.pinned (OpenSpec.ofChange fnPolyRootsSpec)

/-- ITS FALSE NEIGHBOUR: 'it returns false'. Refute it at one input. -/
def fnPolyRootsWrong : ChangeSpec := { name := "fnPolyRoots", fn := fun _ => fun
  | [d] => { results := [.lit (.bool false)], args := [d] }
  | _ => none }
def FnPolyRootsWrongFalsely : Prop := fnPolyRootsRow.holds Try.pinned (OpenSpec.ofChange fnPolyRootsWrong)

/-- 'laws.FnPolyFit': WHATEVER THE INPUT: true; the input reads as it did. -/
def fnPolyFitSpec : ChangeSpec := { name := "fnPolyFit", fn := fun _ => fun
  | [d] => { results := [.lit (.bool true)], args := [d] }
  | _ => none }
def fnPolyFitRow : OpenClaim := { program := "ythafkohopkgckaa", sum := "d8fe09bb3fbcb4a8b0fc2ccb082960bb83c393a267df21e78084493c3491fd92", func := "loop.example/g00879/laws.FnPolyFit", spec := "fnPolyFit", apart := false }
def FnPolyFitSaid : Prop := fnPolyFitRow.holds Try.pinned (OpenSpec.ofChange fnPolyFitSpec)

/-- ITS FALSE NEIGHBOUR: 'it returns false'. Refute it at one input. -/
def fnPolyFitWrong : ChangeSpec := { name := "fnPolyFit", fn := fun _ => fun
  | [d] => { results := [.lit (.bool false)], args := [d] }
  | _ => none }
def FnPolyFitWrongFalsely : Prop := fnPolyFitRow.holds Try.pinned (OpenSpec.ofChange fnPolyFitWrong)

/-- 'laws.FnPolyGcd': WHATEVER THE INPUT: true; the input reads as it did. -/
def fnPolyGcdSpec : ChangeSpec := { name := "fnPolyGcd", fn := fun _ => fun
  | [d] => { results := [.lit (.bool true)], args := [d] }
  | _ => none }
def fnPolyGcdRow : OpenClaim := { program := "ythafkohopkgckaa", sum := "d8fe09bb3fbcb4a8b0fc2ccb082960bb83c393a267df21e78084493c3491fd92", func := "loop.example/g00879/laws.FnPolyGcd", spec := "fnPolyGcd", apart := false }
def FnPolyGcdSaid : Prop := fnPolyGcdRow.holds Try.pinned (OpenSpec.ofChange fnPolyGcdSpec)

/-- ITS FALSE NEIGHBOUR: 'it returns false'. Refute it at one input. -/
def fnPolyGcdWrong : ChangeSpec := { name := "fnPolyGcd", fn := fun _ => fun
  | [d] => { results := [.lit (.bool false)], args := [d] }
  | _ => none }
def FnPolyGcdWrongFalsely : Prop := fnPolyGcdRow.holds Try.pinned (OpenSpec.ofChange fnPolyGcdWrong)

/-- 'laws.FnExactIsPolynomial': WHATEVER THE INPUT: true; the input reads as it did. -/
def fnExactIsPolynomialSpec : ChangeSpec := { name := "fnExactIsPolynomial", fn := fun _ => fun
  | [d1, d2] => { results := [.lit (.bool true)], args := [d1, d2] }
  | _ => none }
def fnExactIsPolynomialRow : OpenClaim := { program := "ythafkohopkgckaa", sum := "d8fe09bb3fbcb4a8b0fc2ccb082960bb83c393a267df21e78084493c3491fd92", func := "loop.example/g00879/laws.FnExactIsPolynomial", spec := "fnExactIsPolynomial", apart := false }
def FnExactIsPolynomialSaid : Prop := fnExactIsPolynomialRow.holds Try.pinned (OpenSpec.ofChange fnExactIsPolynomialSpec)

/-- ITS FALSE NEIGHBOUR: 'it returns false'. Refute it at one input. -/
def fnExactIsPolynomialWrong : ChangeSpec := { name := "fnExactIsPolynomial", fn := fun _ => fun
  | [d1, d2] => { results := [.lit (.bool false)], args := [d1, d2] }
  | _ => none }
def FnExactIsPolynomialWrongFalsely : Prop := fnExactIsPolynomialRow.holds Try.pinned (OpenSpec.ofChange fnExactIsPolynomialWrong)

/-- 'laws.FnExactPolyAdd': WHATEVER THE INPUT: true; the input reads as it did. -/
def fnExactPolyAddSpec : ChangeSpec := { name := "fnExactPolyAdd", fn := fun _ => fun
  | [d1, d2, d3] => { results := [.lit (.bool true)], args := [d1, d2, d3] }
  | _ => none }
def fnExactPolyAddRow : OpenClaim := { program := "ythafkohopkgckaa", sum := "d8fe09bb3fbcb4a8b0fc2ccb082960bb83c393a267df21e78084493c3491fd92", func := "loop.example/g00879/laws.FnExactPolyAdd", spec := "fnExactPolyAdd", apart := false }
def FnExactPolyAddSaid : Prop := fnExactPolyAddRow.holds Try.pinned (OpenSpec.ofChange fnExactPolyAddSpec)

/-- ITS FALSE NEIGHBOUR: 'it returns false'. Refute it at one input. -/
def fnExactPolyAddWrong : ChangeSpec := { name := "fnExactPolyAdd", fn := fun _ => fun
  | [d1, d2, d3] => { results := [.lit (.bool false)], args := [d1, d2, d3] }
  | _ => none }
def FnExactPolyAddWrongFalsely : Prop := fnExactPolyAddRow.holds Try.pinned (OpenSpec.ofChange fnExactPolyAddWrong)

/-- 'laws.FnExactPolyMul': WHATEVER THE INPUT: true; the input reads as it did. -/
def fnExactPolyMulSpec : ChangeSpec := { name := "fnExactPolyMul", fn := fun _ => fun
  | [d1, d2, d3] => { results := [.lit (.bool true)], args := [d1, d2, d3] }
  | _ => none }
def fnExactPolyMulRow : OpenClaim := { program := "ythafkohopkgckaa", sum := "d8fe09bb3fbcb4a8b0fc2ccb082960bb83c393a267df21e78084493c3491fd92", func := "loop.example/g00879/laws.FnExactPolyMul", spec := "fnExactPolyMul", apart := false }
def FnExactPolyMulSaid : Prop := fnExactPolyMulRow.holds Try.pinned (OpenSpec.ofChange fnExactPolyMulSpec)

/-- ITS FALSE NEIGHBOUR: 'it returns false'. Refute it at one input. -/
def fnExactPolyMulWrong : ChangeSpec := { name := "fnExactPolyMul", fn := fun _ => fun
  | [d1, d2, d3] => { results := [.lit (.bool false)], args := [d1, d2, d3] }
  | _ => none }
def FnExactPolyMulWrongFalsely : Prop := fnExactPolyMulRow.holds Try.pinned (OpenSpec.ofChange fnExactPolyMulWrong)

/-- 'laws.FnExactPolyDiv': WHATEVER THE INPUT: true; the input reads as it did. -/
def fnExactPolyDivSpec : ChangeSpec := { name := "fnExactPolyDiv", fn := fun _ => fun
  | [d1, d2, d3] => { results := [.lit (.bool true)], args := [d1, d2, d3] }
  | _ => none }
def fnExactPolyDivRow : OpenClaim := { program := "ythafkohopkgckaa", sum := "d8fe09bb3fbcb4a8b0fc2ccb082960bb83c393a267df21e78084493c3491fd92", func := "loop.example/g00879/laws.FnExactPolyDiv", spec := "fnExactPolyDiv", apart := false }
def FnExactPolyDivSaid : Prop := fnExactPolyDivRow.holds Try.pinned (OpenSpec.ofChange fnExactPolyDivSpec)

/-- ITS FALSE NEIGHBOUR: 'it returns false'. Refute it at one input. -/
def fnExactPolyDivWrong : ChangeSpec := { name := "fnExactPolyDiv", fn := fun _ => fun
  | [d1, d2, d3] => { results := [.lit (.bool false)], args := [d1, d2, d3] }
  | _ => none }
def FnExactPolyDivWrongFalsely : Prop := fnExactPolyDivRow.holds Try.pinned (OpenSpec.ofChange fnExactPolyDivWrong)

/-- 'laws.FnExactPolyEval': WHATEVER THE INPUT: true; the input reads as it did. -/
def fnExactPolyEvalSpec : ChangeSpec := { name := "fnExactPolyEval", fn := fun _ => fun
  | [d1, d2, d3] => { results := [.lit (.bool true)], args := [d1, d2, d3] }
  | _ => none }
def fnExactPolyEvalRow : OpenClaim := { program := "ythafkohopkgckaa", sum := "d8fe09bb3fbcb4a8b0fc2ccb082960bb83c393a267df21e78084493c3491fd92", func := "loop.example/g00879/laws.FnExactPolyEval", spec := "fnExactPolyEval", apart := false }
def FnExactPolyEvalSaid : Prop := fnExactPolyEvalRow.holds Try.pinned (OpenSpec.ofChange fnExactPolyEvalSpec)

/-- ITS FALSE NEIGHBOUR: 'it returns false'. Refute it at one input. -/
def fnExactPolyEvalWrong : ChangeSpec := { name := "fnExactPolyEval", fn := fun _ => fun
  | [d1, d2, d3] => { results := [.lit (.bool false)], args := [d1, d2, d3] }
  | _ => none }
def FnExactPolyEvalWrongFalsely : Prop := fnExactPolyEvalRow.holds Try.pinned (OpenSpec.ofChange fnExactPolyEvalWrong)

/-- 'laws.FnExactPolyDerivative': WHATEVER THE INPUT: true; the input reads as it did. -/
def fnExactPolyDerivativeSpec : ChangeSpec := { name := "fnExactPolyDerivative", fn := fun _ => fun
  | [d1, d2] => { results := [.lit (.bool true)], args := [d1, d2] }
  | _ => none }
def fnExactPolyDerivativeRow : OpenClaim := { program := "ythafkohopkgckaa", sum := "d8fe09bb3fbcb4a8b0fc2ccb082960bb83c393a267df21e78084493c3491fd92", func := "loop.example/g00879/laws.FnExactPolyDerivative", spec := "fnExactPolyDerivative", apart := false }
def FnExactPolyDerivativeSaid : Prop := fnExactPolyDerivativeRow.holds Try.pinned (OpenSpec.ofChange fnExactPolyDerivativeSpec)

/-- ITS FALSE NEIGHBOUR: 'it returns false'. Refute it at one input. -/
def fnExactPolyDerivativeWrong : ChangeSpec := { name := "fnExactPolyDerivative", fn := fun _ => fun
  | [d1, d2] => { results := [.lit (.bool false)], args := [d1, d2] }
  | _ => none }
def FnExactPolyDerivativeWrongFalsely : Prop := fnExactPolyDerivativeRow.holds Try.pinned (OpenSpec.ofChange fnExactPolyDerivativeWrong)

/-- 'laws.FnExactPolyRoots': WHATEVER THE INPUT: true; the input reads as it did. -/
def fnExactPolyRootsSpec : ChangeSpec := { name := "fnExactPolyRoots", fn := fun _ => fun
  | [d1, d2] => { results := [.lit (.bool true)], args := [d1, d2] }
  | _ => none }
def fnExactPolyRootsRow : OpenClaim := { program := "ythafkohopkgckaa", sum := "d8fe09bb3fbcb4a8b0fc2ccb082960bb83c393a267df21e78084493c3491fd92", func := "loop.example/g00879/laws.FnExactPolyRoots", spec := "fnExactPolyRoots", apart := false }
def FnExactPolyRootsSaid : Prop := fnExactPolyRootsRow.holds Try.pinned (OpenSpec.ofChange fnExactPolyRootsSpec)

/-- ITS FALSE NEIGHBOUR: 'it returns false'. Refute it at one input. -/
def fnExactPolyRootsWrong : ChangeSpec := { name := "fnExactPolyRoots", fn := fun _ => fun
  | [d1, d2] => { results := [.lit (.bool false)], args := [d1, d2] }
  | _ => none }
def FnExactPolyRootsWrongFalsely : Prop := fnExactPolyRootsRow.holds Try.pinned (OpenSpec.ofChange fnExactPolyRootsWrong)

/-- 'laws.FnExactPolyFit': WHATEVER THE INPUT: true; the input reads as it did. -/
def fnExactPolyFitSpec : ChangeSpec := { name := "fnExactPolyFit", fn := fun _ => fun
  | [d1, d2, d3] => { results := [.lit (.bool true)], args := [d1, d2, d3] }
  | _ => none }
def fnExactPolyFitRow : OpenClaim := { program := "ythafkohopkgckaa", sum := "d8fe09bb3fbcb4a8b0fc2ccb082960bb83c393a267df21e78084493c3491fd92", func := "loop.example/g00879/laws.FnExactPolyFit", spec := "fnExactPolyFit", apart := false }
def FnExactPolyFitSaid : Prop := fnExactPolyFitRow.holds Try.pinned (OpenSpec.ofChange fnExactPolyFitSpec)

/-- ITS FALSE NEIGHBOUR: 'it returns false'. Refute it at one input. -/
def fnExactPolyFitWrong : ChangeSpec := { name := "fnExactPolyFit", fn := fun _ => fun
  | [d1, d2, d3] => { results := [.lit (.bool false)], args := [d1, d2, d3] }
  | _ => none }
def FnExactPolyFitWrongFalsely : Prop := fnExactPolyFitRow.holds Try.pinned (OpenSpec.ofChange fnExactPolyFitWrong)

/-- 'laws.FnExactPolyGcd': WHATEVER THE INPUT: true; the input reads as it did. -/
def fnExactPolyGcdSpec : ChangeSpec := { name := "fnExactPolyGcd", fn := fun _ => fun
  | [d1, d2, d3] => { results := [.lit (.bool true)], args := [d1, d2, d3] }
  | _ => none }
def fnExactPolyGcdRow : OpenClaim := { program := "ythafkohopkgckaa", sum := "d8fe09bb3fbcb4a8b0fc2ccb082960bb83c393a267df21e78084493c3491fd92", func := "loop.example/g00879/laws.FnExactPolyGcd", spec := "fnExactPolyGcd", apart := false }
def FnExactPolyGcdSaid : Prop := fnExactPolyGcdRow.holds Try.pinned (OpenSpec.ofChange fnExactPolyGcdSpec)

/-- ITS FALSE NEIGHBOUR: 'it returns false'. Refute it at one input. -/
def fnExactPolyGcdWrong : ChangeSpec := { name := "fnExactPolyGcd", fn := fun _ => fun
  | [d1, d2, d3] => { results := [.lit (.bool false)], args := [d1, d2, d3] }
  | _ => none }
def FnExactPolyGcdWrongFalsely : Prop := fnExactPolyGcdRow.holds Try.pinned (OpenSpec.ofChange fnExactPolyGcdWrong)

/- THE SECOND FORM. 'bulk': how many values and letters a reading holds, each counted each time it is reached (what is shared counts as often as it is met; a slice's spare places count too). A statement '..UptoSaid' is the law's where the arguments, and the package variables that the reading takes, are together of bulk at most 1048576: NARROWER than '..Said'. Prove '..Said' where nothing that the law and all that it calls make is longer than what came in: it says more and counts as full. Else prove '..UptoSaid'. A law counts once. -/
mutual
def uptoBulk {H : Type} : DataW H → Nat
  | .lit (.string bytes) => bytes.length + 1
  | .lit _ => 1
  | .nil => 1
  | .ptr d => uptoBulk d + 1
  | .slice elems spare => uptoBulkAll elems + uptoBulkAll spare + 1
  | .agg parts => uptoBulkAll parts + 1
  | .iface _ d => uptoBulk d + 1
  | .map entries => uptoBulkEntries entries + 1
  | .held _ => 1
def uptoBulkAll {H : Type} : List (DataW H) → Nat
  | [] => 0
  | d :: r => uptoBulk d + uptoBulkAll r
def uptoBulkEntries {H : Type} : List (Lit × DataW H) → Nat
  | [] => 0
  | x :: r => uptoBulkEntry x + uptoBulkEntries r
def uptoBulkEntry {H : Type} : Lit × DataW H → Nat
  | (.string bytes, d) => bytes.length + uptoBulk d + 1
  | (_, d) => uptoBulk d + 1
 end
def uptoSmall : (H : Type) → List (DataW H) → Bool := fun _ ds => decide (uptoBulkAll ds ≤ 1048576)
def OpenSpec.upto (s : _root_.Go.ChangeSpec) : _root_.Go.OpenSpec := { _root_.Go.OpenSpec.ofChange s with cond := some uptoSmall }

/-- 'laws.FnFieldRing', WHERE WHAT IT READS IS OF BULK AT MOST 1048576: true; the input reads as it did. -/
def fnFieldRingUptoRow : OpenClaim := { program := "ythafkohopkgckaa", sum := "d8fe09bb3fbcb4a8b0fc2ccb082960bb83c393a267df21e78084493c3491fd92", func := "loop.example/g00879/laws.FnFieldRing", spec := "fnFieldRing", apart := false, narrowed := true }
def FnFieldRingUptoSaid : Prop := fnFieldRingUptoRow.holds Try.pinned (OpenSpec.upto fnFieldRingSpec)

/-- 'laws.FnPolyProducts', WHERE WHAT IT READS IS OF BULK AT MOST 1048576: true; the input reads as it did. -/
def fnPolyProductsUptoRow : OpenClaim := { program := "ythafkohopkgckaa", sum := "d8fe09bb3fbcb4a8b0fc2ccb082960bb83c393a267df21e78084493c3491fd92", func := "loop.example/g00879/laws.FnPolyProducts", spec := "fnPolyProducts", apart := false, narrowed := true }
def FnPolyProductsUptoSaid : Prop := fnPolyProductsUptoRow.holds Try.pinned (OpenSpec.upto fnPolyProductsSpec)

/-- 'laws.FnPolyDivision', WHERE WHAT IT READS IS OF BULK AT MOST 1048576: true; the input reads as it did. -/
def fnPolyDivisionUptoRow : OpenClaim := { program := "ythafkohopkgckaa", sum := "d8fe09bb3fbcb4a8b0fc2ccb082960bb83c393a267df21e78084493c3491fd92", func := "loop.example/g00879/laws.FnPolyDivision", spec := "fnPolyDivision", apart := false, narrowed := true }
def FnPolyDivisionUptoSaid : Prop := fnPolyDivisionUptoRow.holds Try.pinned (OpenSpec.upto fnPolyDivisionSpec)

/-- 'laws.FnPolyRoots', WHERE WHAT IT READS IS OF BULK AT MOST 1048576: true; the input reads as it did. -/
def fnPolyRootsUptoRow : OpenClaim := { program := "ythafkohopkgckaa", sum := "d8fe09bb3fbcb4a8b0fc2ccb082960bb83c393a267df21e78084493c3491fd92", func := "loop.example/g00879/laws.FnPolyRoots", spec := "fnPolyRoots", apart := false, narrowed := true }
def FnPolyRootsUptoSaid : Prop := fnPolyRootsUptoRow.holds Try.pinned (OpenSpec.upto fnPolyRootsSpec)

/-- 'laws.FnPolyFit', WHERE WHAT IT READS IS OF BULK AT MOST 1048576: true; the input reads as it did. -/
def fnPolyFitUptoRow : OpenClaim := { program := "ythafkohopkgckaa", sum := "d8fe09bb3fbcb4a8b0fc2ccb082960bb83c393a267df21e78084493c3491fd92", func := "loop.example/g00879/laws.FnPolyFit", spec := "fnPolyFit", apart := false, narrowed := true }
def FnPolyFitUptoSaid : Prop := fnPolyFitUptoRow.holds Try.pinned (OpenSpec.upto fnPolyFitSpec)

/-- 'laws.FnPolyGcd', WHERE WHAT IT READS IS OF BULK AT MOST 1048576: true; the input reads as it did. -/
def fnPolyGcdUptoRow : OpenClaim := { program := "ythafkohopkgckaa", sum := "d8fe09bb3fbcb4a8b0fc2ccb082960bb83c393a267df21e78084493c3491fd92", func := "loop.example/g00879/laws.FnPolyGcd", spec := "fnPolyGcd", apart := false, narrowed := true }
def FnPolyGcdUptoSaid : Prop := fnPolyGcdUptoRow.holds Try.pinned (OpenSpec.upto fnPolyGcdSpec)

/-- 'laws.FnExactIsPolynomial', WHERE WHAT IT READS IS OF BULK AT MOST 1048576: true; the input reads as it did. -/
def fnExactIsPolynomialUptoRow : OpenClaim := { program := "ythafkohopkgckaa", sum := "d8fe09bb3fbcb4a8b0fc2ccb082960bb83c393a267df21e78084493c3491fd92", func := "loop.example/g00879/laws.FnExactIsPolynomial", spec := "fnExactIsPolynomial", apart := false, narrowed := true }
def FnExactIsPolynomialUptoSaid : Prop := fnExactIsPolynomialUptoRow.holds Try.pinned (OpenSpec.upto fnExactIsPolynomialSpec)

/-- 'laws.FnExactPolyAdd', WHERE WHAT IT READS IS OF BULK AT MOST 1048576: true; the input reads as it did. -/
def fnExactPolyAddUptoRow : OpenClaim := { program := "ythafkohopkgckaa", sum := "d8fe09bb3fbcb4a8b0fc2ccb082960bb83c393a267df21e78084493c3491fd92", func := "loop.example/g00879/laws.FnExactPolyAdd", spec := "fnExactPolyAdd", apart := false, narrowed := true }
def FnExactPolyAddUptoSaid : Prop := fnExactPolyAddUptoRow.holds Try.pinned (OpenSpec.upto fnExactPolyAddSpec)

/-- 'laws.FnExactPolyMul', WHERE WHAT IT READS IS OF BULK AT MOST 1048576: true; the input reads as it did. -/
def fnExactPolyMulUptoRow : OpenClaim := { program := "ythafkohopkgckaa", sum := "d8fe09bb3fbcb4a8b0fc2ccb082960bb83c393a267df21e78084493c3491fd92", func := "loop.example/g00879/laws.FnExactPolyMul", spec := "fnExactPolyMul", apart := false, narrowed := true }
def FnExactPolyMulUptoSaid : Prop := fnExactPolyMulUptoRow.holds Try.pinned (OpenSpec.upto fnExactPolyMulSpec)

/-- 'laws.FnExactPolyDiv', WHERE WHAT IT READS IS OF BULK AT MOST 1048576: true; the input reads as it did. -/
def fnExactPolyDivUptoRow : OpenClaim := { program := "ythafkohopkgckaa", sum := "d8fe09bb3fbcb4a8b0fc2ccb082960bb83c393a267df21e78084493c3491fd92", func := "loop.example/g00879/laws.FnExactPolyDiv", spec := "fnExactPolyDiv", apart := false, narrowed := true }
def FnExactPolyDivUptoSaid : Prop := fnExactPolyDivUptoRow.holds Try.pinned (OpenSpec.upto fnExactPolyDivSpec)

/-- 'laws.FnExactPolyEval', WHERE WHAT IT READS IS OF BULK AT MOST 1048576: true; the input reads as it did. -/
def fnExactPolyEvalUptoRow : OpenClaim := { program := "ythafkohopkgckaa", sum := "d8fe09bb3fbcb4a8b0fc2ccb082960bb83c393a267df21e78084493c3491fd92", func := "loop.example/g00879/laws.FnExactPolyEval", spec := "fnExactPolyEval", apart := false, narrowed := true }
def FnExactPolyEvalUptoSaid : Prop := fnExactPolyEvalUptoRow.holds Try.pinned (OpenSpec.upto fnExactPolyEvalSpec)

/-- 'laws.FnExactPolyDerivative', WHERE WHAT IT READS IS OF BULK AT MOST 1048576: true; the input reads as it did. -/
def fnExactPolyDerivativeUptoRow : OpenClaim := { program := "ythafkohopkgckaa", sum := "d8fe09bb3fbcb4a8b0fc2ccb082960bb83c393a267df21e78084493c3491fd92", func := "loop.example/g00879/laws.FnExactPolyDerivative", spec := "fnExactPolyDerivative", apart := false, narrowed := true }
def FnExactPolyDerivativeUptoSaid : Prop := fnExactPolyDerivativeUptoRow.holds Try.pinned (OpenSpec.upto fnExactPolyDerivativeSpec)

/-- 'laws.FnExactPolyRoots', WHERE WHAT IT READS IS OF BULK AT MOST 1048576: true; the input reads as it did. -/
def fnExactPolyRootsUptoRow : OpenClaim := { program := "ythafkohopkgckaa", sum := "d8fe09bb3fbcb4a8b0fc2ccb082960bb83c393a267df21e78084493c3491fd92", func := "loop.example/g00879/laws.FnExactPolyRoots", spec := "fnExactPolyRoots", apart := false, narrowed := true }
def FnExactPolyRootsUptoSaid : Prop := fnExactPolyRootsUptoRow.holds Try.pinned (OpenSpec.upto fnExactPolyRootsSpec)

/-- 'laws.FnExactPolyFit', WHERE WHAT IT READS IS OF BULK AT MOST 1048576: true; the input reads as it did. -/
def fnExactPolyFitUptoRow : OpenClaim := { program := "ythafkohopkgckaa", sum := "d8fe09bb3fbcb4a8b0fc2ccb082960bb83c393a267df21e78084493c3491fd92", func := "loop.example/g00879/laws.FnExactPolyFit", spec := "fnExactPolyFit", apart := false, narrowed := true }
def FnExactPolyFitUptoSaid : Prop := fnExactPolyFitUptoRow.holds Try.pinned (OpenSpec.upto fnExactPolyFitSpec)

/-- 'laws.FnExactPolyGcd', WHERE WHAT IT READS IS OF BULK AT MOST 1048576: true; the input reads as it did. -/
def fnExactPolyGcdUptoRow : OpenClaim := { program := "ythafkohopkgckaa", sum := "d8fe09bb3fbcb4a8b0fc2ccb082960bb83c393a267df21e78084493c3491fd92", func := "loop.example/g00879/laws.FnExactPolyGcd", spec := "fnExactPolyGcd", apart := false, narrowed := true }
def FnExactPolyGcdUptoSaid : Prop := fnExactPolyGcdUptoRow.holds Try.pinned (OpenSpec.upto fnExactPolyGcdSpec)

end Rows
end Go.Proofs.Ythafkohopkgckaa
