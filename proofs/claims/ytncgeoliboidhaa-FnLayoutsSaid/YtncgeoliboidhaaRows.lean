/-
  No cell of these rows narrows 'for every input' (looked for: loops, veiled, ifaces, maps, wideKeys, modest, calm, conditions, laid).
  DERIVED. THE GIVEN ROWS OF THIS SEAT. 7 by the template 'for every input the law returns true; each argument reads behind the call as it read before'; 0 by the template 'total and deterministic' (their statements: YtncgeoliboidhaaTotals.lean).
  GIVEN WITH THE SEED: the statements are not yours to turn. If you find one false, say at which input.
  Laid BY PROGRAM, IN A SANDBOX (cutbox-rows.mjs): the forced cells as the released guide's own fill.sh prints them over the translation 851e5dadc3bf7ff8… (all of the seat's roots in one cut). By AI agents, Wed Nov 11 2026. No macro, syntax, notation, axiom, sorry.
-/
import Derived.Test.YtncgeoliboidhaaChecked
import GoSem.Claim
import GoSem.ClaimJoined
import GoSem.ClaimMapViews
import Derived.JoinedTies
import Derived.KernelRfl
namespace Go.Proofs.Ytncgeoliboidhaa
/- THE CELL 'sum', in the pinned program and in every row, IS THE sha256 OF THE DUMP (.gsa) THAT YtncgeoliboidhaaProg.lean LOADS. Nothing in Lean hashes anything: it is a label: what it is worth is what the hold of that sum in a sandbox is worth. -/
noncomputable def Try.pinned : Pinned := { name := "ytncgeoliboidhaa", sum := "851e5dadc3bf7ff81d1981ffab830fdd393db622f052a504d5ec88b1e53a78f1", checked := Try.checked }
namespace Rows
def none {H : Type} : Left H := { results := [], args := [] }

/-- 'laws.FnExactIsFamily': WHATEVER THE INPUT: true; the input reads as it did. -/
def fnExactIsFamilySpec : ChangeSpec := { name := "fnExactIsFamily", fn := fun _ => fun
  | [d] => { results := [.lit (.bool true)], args := [d] }
  | _ => none }
def fnExactIsFamilyRow : OpenClaim := { program := "ytncgeoliboidhaa", sum := "851e5dadc3bf7ff81d1981ffab830fdd393db622f052a504d5ec88b1e53a78f1", func := "loop.example/g00879/laws.FnExactIsFamily", spec := "fnExactIsFamily", unfollowed := true, recurses := true, apart := false }
def FnExactIsFamilySaid : Prop := fnExactIsFamilyRow.holds Try.pinned (OpenSpec.ofChange fnExactIsFamilySpec)

/-- ITS FALSE NEIGHBOUR: 'it returns false'. Refute it at one input. -/
def fnExactIsFamilyWrong : ChangeSpec := { name := "fnExactIsFamily", fn := fun _ => fun
  | [d] => { results := [.lit (.bool false)], args := [d] }
  | _ => none }
def FnExactIsFamilyWrongFalsely : Prop := fnExactIsFamilyRow.holds Try.pinned (OpenSpec.ofChange fnExactIsFamilyWrong)

/-- 'laws.FnExactElementCount': WHATEVER THE INPUT: true; the input reads as it did. -/
def fnExactElementCountSpec : ChangeSpec := { name := "fnExactElementCount", fn := fun _ => fun
  | [d1, d2] => { results := [.lit (.bool true)], args := [d1, d2] }
  | _ => none }
def fnExactElementCountRow : OpenClaim := { program := "ytncgeoliboidhaa", sum := "851e5dadc3bf7ff81d1981ffab830fdd393db622f052a504d5ec88b1e53a78f1", func := "loop.example/g00879/laws.FnExactElementCount", spec := "fnExactElementCount", unfollowed := true, recurses := true, apart := false }
def FnExactElementCountSaid : Prop := fnExactElementCountRow.holds Try.pinned (OpenSpec.ofChange fnExactElementCountSpec)

/-- ITS FALSE NEIGHBOUR: 'it returns false'. Refute it at one input. -/
def fnExactElementCountWrong : ChangeSpec := { name := "fnExactElementCount", fn := fun _ => fun
  | [d1, d2] => { results := [.lit (.bool false)], args := [d1, d2] }
  | _ => none }
def FnExactElementCountWrongFalsely : Prop := fnExactElementCountRow.holds Try.pinned (OpenSpec.ofChange fnExactElementCountWrong)

/-- 'laws.FnExactLayoutOf': WHATEVER THE INPUT: true; the input reads as it did. -/
def fnExactLayoutOfSpec : ChangeSpec := { name := "fnExactLayoutOf", fn := fun _ => fun
  | [d1, d2, d3] => { results := [.lit (.bool true)], args := [d1, d2, d3] }
  | _ => none }
def fnExactLayoutOfRow : OpenClaim := { program := "ytncgeoliboidhaa", sum := "851e5dadc3bf7ff81d1981ffab830fdd393db622f052a504d5ec88b1e53a78f1", func := "loop.example/g00879/laws.FnExactLayoutOf", spec := "fnExactLayoutOf", unfollowed := true, recurses := true, apart := false }
def FnExactLayoutOfSaid : Prop := fnExactLayoutOfRow.holds Try.pinned (OpenSpec.ofChange fnExactLayoutOfSpec)

/-- ITS FALSE NEIGHBOUR: 'it returns false'. Refute it at one input. -/
def fnExactLayoutOfWrong : ChangeSpec := { name := "fnExactLayoutOf", fn := fun _ => fun
  | [d1, d2, d3] => { results := [.lit (.bool false)], args := [d1, d2, d3] }
  | _ => none }
def FnExactLayoutOfWrongFalsely : Prop := fnExactLayoutOfRow.holds Try.pinned (OpenSpec.ofChange fnExactLayoutOfWrong)

/-- 'laws.FnExactRoomOf': WHATEVER THE INPUT: true; the input reads as it did. -/
def fnExactRoomOfSpec : ChangeSpec := { name := "fnExactRoomOf", fn := fun _ => fun
  | [d1, d2, d3] => { results := [.lit (.bool true)], args := [d1, d2, d3] }
  | _ => none }
def fnExactRoomOfRow : OpenClaim := { program := "ytncgeoliboidhaa", sum := "851e5dadc3bf7ff81d1981ffab830fdd393db622f052a504d5ec88b1e53a78f1", func := "loop.example/g00879/laws.FnExactRoomOf", spec := "fnExactRoomOf", unfollowed := true, recurses := true, apart := false }
def FnExactRoomOfSaid : Prop := fnExactRoomOfRow.holds Try.pinned (OpenSpec.ofChange fnExactRoomOfSpec)

/-- ITS FALSE NEIGHBOUR: 'it returns false'. Refute it at one input. -/
def fnExactRoomOfWrong : ChangeSpec := { name := "fnExactRoomOf", fn := fun _ => fun
  | [d1, d2, d3] => { results := [.lit (.bool false)], args := [d1, d2, d3] }
  | _ => none }
def FnExactRoomOfWrongFalsely : Prop := fnExactRoomOfRow.holds Try.pinned (OpenSpec.ofChange fnExactRoomOfWrong)

/-- 'laws.FnExactSmallestSize': WHATEVER THE INPUT: true; the input reads as it did. -/
def fnExactSmallestSizeSpec : ChangeSpec := { name := "fnExactSmallestSize", fn := fun _ => fun
  | [d1, d2, d3] => { results := [.lit (.bool true)], args := [d1, d2, d3] }
  | _ => none }
def fnExactSmallestSizeRow : OpenClaim := { program := "ytncgeoliboidhaa", sum := "851e5dadc3bf7ff81d1981ffab830fdd393db622f052a504d5ec88b1e53a78f1", func := "loop.example/g00879/laws.FnExactSmallestSize", spec := "fnExactSmallestSize", unfollowed := true, recurses := true, apart := false }
def FnExactSmallestSizeSaid : Prop := fnExactSmallestSizeRow.holds Try.pinned (OpenSpec.ofChange fnExactSmallestSizeSpec)

/-- ITS FALSE NEIGHBOUR: 'it returns false'. Refute it at one input. -/
def fnExactSmallestSizeWrong : ChangeSpec := { name := "fnExactSmallestSize", fn := fun _ => fun
  | [d1, d2, d3] => { results := [.lit (.bool false)], args := [d1, d2, d3] }
  | _ => none }
def FnExactSmallestSizeWrongFalsely : Prop := fnExactSmallestSizeRow.holds Try.pinned (OpenSpec.ofChange fnExactSmallestSizeWrong)

/-- 'laws.FnExactErrorRoom': WHATEVER THE INPUT: true; the input reads as it did. -/
def fnExactErrorRoomSpec : ChangeSpec := { name := "fnExactErrorRoom", fn := fun _ => fun
  | [d1, d2, d3] => { results := [.lit (.bool true)], args := [d1, d2, d3] }
  | _ => none }
def fnExactErrorRoomRow : OpenClaim := { program := "ytncgeoliboidhaa", sum := "851e5dadc3bf7ff81d1981ffab830fdd393db622f052a504d5ec88b1e53a78f1", func := "loop.example/g00879/laws.FnExactErrorRoom", spec := "fnExactErrorRoom", unfollowed := true, recurses := true, apart := false }
def FnExactErrorRoomSaid : Prop := fnExactErrorRoomRow.holds Try.pinned (OpenSpec.ofChange fnExactErrorRoomSpec)

/-- ITS FALSE NEIGHBOUR: 'it returns false'. Refute it at one input. -/
def fnExactErrorRoomWrong : ChangeSpec := { name := "fnExactErrorRoom", fn := fun _ => fun
  | [d1, d2, d3] => { results := [.lit (.bool false)], args := [d1, d2, d3] }
  | _ => none }
def FnExactErrorRoomWrongFalsely : Prop := fnExactErrorRoomRow.holds Try.pinned (OpenSpec.ofChange fnExactErrorRoomWrong)

/-- 'laws.FnLayouts': WHATEVER THE INPUT: true; the input reads as it did. -/
def fnLayoutsSpec : ChangeSpec := { name := "fnLayouts", fn := fun _ => fun
  | [d] => { results := [.lit (.bool true)], args := [d] }
  | _ => none }
def fnLayoutsRow : OpenClaim := { program := "ytncgeoliboidhaa", sum := "851e5dadc3bf7ff81d1981ffab830fdd393db622f052a504d5ec88b1e53a78f1", func := "loop.example/g00879/laws.FnLayouts", spec := "fnLayouts", unfollowed := true, recurses := true, apart := false }
def FnLayoutsSaid : Prop := fnLayoutsRow.holds Try.pinned (OpenSpec.ofChange fnLayoutsSpec)

/-- ITS FALSE NEIGHBOUR: 'it returns false'. Refute it at one input. -/
def fnLayoutsWrong : ChangeSpec := { name := "fnLayouts", fn := fun _ => fun
  | [d] => { results := [.lit (.bool false)], args := [d] }
  | _ => none }
def FnLayoutsWrongFalsely : Prop := fnLayoutsRow.holds Try.pinned (OpenSpec.ofChange fnLayoutsWrong)

/- THE SECOND FORM. 'bulk': how many values and letters a reading holds, each counted each time it is reached (what is shared counts as often as it is met; a slice's spare places count too). A statement '..UptoSaid' is the law's where the arguments, and the package variables that the reading takes, are together of bulk at most 1048576: NARROWER than '..Said'. Prove '..Said' where nothing that the law and all that it calls make is longer than what came in: it says more and counts as full. Else prove '..UptoSaid'. A law counts once. -/
mutual
def uptoBulk {H : Type} : DataW H → Nat
  | .lit (.string bytes) => bytes.length + 1
  | .lit _ => 1
  | .nil => 1
  | .ptr d => uptoBulk d + 1
  | .slice elems spare => uptoBulkAll elems + uptoBulkAll spare + 1
  | .agg parts => uptoBulkAll parts + 1
  | .iface _ d => uptoBulk d + 1
  | .map entries => uptoBulkEntries entries + 1
  | .held _ => 1
def uptoBulkAll {H : Type} : List (DataW H) → Nat
  | [] => 0
  | d :: r => uptoBulk d + uptoBulkAll r
def uptoBulkEntries {H : Type} : List (Lit × DataW H) → Nat
  | [] => 0
  | x :: r => uptoBulkEntry x + uptoBulkEntries r
def uptoBulkEntry {H : Type} : Lit × DataW H → Nat
  | (.string bytes, d) => bytes.length + uptoBulk d + 1
  | (_, d) => uptoBulk d + 1
 end
def uptoSmall : (H : Type) → List (DataW H) → Bool := fun _ ds => decide (uptoBulkAll ds ≤ 1048576)
def OpenSpec.upto (s : _root_.Go.ChangeSpec) : _root_.Go.OpenSpec := { _root_.Go.OpenSpec.ofChange s with cond := some uptoSmall }

/-- 'laws.FnExactIsFamily', WHERE WHAT IT READS IS OF BULK AT MOST 1048576: true; the input reads as it did. -/
def fnExactIsFamilyUptoRow : OpenClaim := { program := "ytncgeoliboidhaa", sum := "851e5dadc3bf7ff81d1981ffab830fdd393db622f052a504d5ec88b1e53a78f1", func := "loop.example/g00879/laws.FnExactIsFamily", spec := "fnExactIsFamily", unfollowed := true, recurses := true, apart := false, narrowed := true }
def FnExactIsFamilyUptoSaid : Prop := fnExactIsFamilyUptoRow.holds Try.pinned (OpenSpec.upto fnExactIsFamilySpec)

/-- 'laws.FnExactElementCount', WHERE WHAT IT READS IS OF BULK AT MOST 1048576: true; the input reads as it did. -/
def fnExactElementCountUptoRow : OpenClaim := { program := "ytncgeoliboidhaa", sum := "851e5dadc3bf7ff81d1981ffab830fdd393db622f052a504d5ec88b1e53a78f1", func := "loop.example/g00879/laws.FnExactElementCount", spec := "fnExactElementCount", unfollowed := true, recurses := true, apart := false, narrowed := true }
def FnExactElementCountUptoSaid : Prop := fnExactElementCountUptoRow.holds Try.pinned (OpenSpec.upto fnExactElementCountSpec)

/-- 'laws.FnExactLayoutOf', WHERE WHAT IT READS IS OF BULK AT MOST 1048576: true; the input reads as it did. -/
def fnExactLayoutOfUptoRow : OpenClaim := { program := "ytncgeoliboidhaa", sum := "851e5dadc3bf7ff81d1981ffab830fdd393db622f052a504d5ec88b1e53a78f1", func := "loop.example/g00879/laws.FnExactLayoutOf", spec := "fnExactLayoutOf", unfollowed := true, recurses := true, apart := false, narrowed := true }
def FnExactLayoutOfUptoSaid : Prop := fnExactLayoutOfUptoRow.holds Try.pinned (OpenSpec.upto fnExactLayoutOfSpec)

/-- 'laws.FnExactRoomOf', WHERE WHAT IT READS IS OF BULK AT MOST 1048576: true; the input reads as it did. -/
def fnExactRoomOfUptoRow : OpenClaim := { program := "ytncgeoliboidhaa", sum := "851e5dadc3bf7ff81d1981ffab830fdd393db622f052a504d5ec88b1e53a78f1", func := "loop.example/g00879/laws.FnExactRoomOf", spec := "fnExactRoomOf", unfollowed := true, recurses := true, apart := false, narrowed := true }
def FnExactRoomOfUptoSaid : Prop := fnExactRoomOfUptoRow.holds Try.pinned (OpenSpec.upto fnExactRoomOfSpec)

/-- 'laws.FnExactSmallestSize', WHERE WHAT IT READS IS OF BULK AT MOST 1048576: true; the input reads as it did. -/
def fnExactSmallestSizeUptoRow : OpenClaim := { program := "ytncgeoliboidhaa", sum := "851e5dadc3bf7ff81d1981ffab830fdd393db622f052a504d5ec88b1e53a78f1", func := "loop.example/g00879/laws.FnExactSmallestSize", spec := "fnExactSmallestSize", unfollowed := true, recurses := true, apart := false, narrowed := true }
def FnExactSmallestSizeUptoSaid : Prop := fnExactSmallestSizeUptoRow.holds Try.pinned (OpenSpec.upto fnExactSmallestSizeSpec)

/-- 'laws.FnExactErrorRoom', WHERE WHAT IT READS IS OF BULK AT MOST 1048576: true; the input reads as it did. -/
def fnExactErrorRoomUptoRow : OpenClaim := { program := "ytncgeoliboidhaa", sum := "851e5dadc3bf7ff81d1981ffab830fdd393db622f052a504d5ec88b1e53a78f1", func := "loop.example/g00879/laws.FnExactErrorRoom", spec := "fnExactErrorRoom", unfollowed := true, recurses := true, apart := false, narrowed := true }
def FnExactErrorRoomUptoSaid : Prop := fnExactErrorRoomUptoRow.holds Try.pinned (OpenSpec.upto fnExactErrorRoomSpec)

/-- 'laws.FnLayouts', WHERE WHAT IT READS IS OF BULK AT MOST 1048576: true; the input reads as it did. -/
def fnLayoutsUptoRow : OpenClaim := { program := "ytncgeoliboidhaa", sum := "851e5dadc3bf7ff81d1981ffab830fdd393db622f052a504d5ec88b1e53a78f1", func := "loop.example/g00879/laws.FnLayouts", spec := "fnLayouts", unfollowed := true, recurses := true, apart := false, narrowed := true }
def FnLayoutsUptoSaid : Prop := fnLayoutsUptoRow.holds Try.pinned (OpenSpec.upto fnLayoutsSpec)

end Rows
end Go.Proofs.Ytncgeoliboidhaa
