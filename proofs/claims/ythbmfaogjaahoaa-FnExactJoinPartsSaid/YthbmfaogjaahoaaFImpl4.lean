/-
  The contracts of the program's IsField, FieldSize, FieldAdd, FieldNeg, FieldMul and what tells their errors.
  Condition: none.
-/
import Derived.Test.YthbmfaogjaahoaaFImpl3
import Derived.Test.YthbmfaogjaahoaaFErr
namespace Go.Proofs.Ythbmfaogjaahoaa
open Go.RowKit
set_option linter.unusedSimpArgs false

def ElRel (w : World) (p k g : Int) (q n : Nat) (zs : List Int) (i : Value) (wr : World) : Prop :=
  ∃ j : Nat, j ≤ n ∧ i = .int .i64 j ∧ Hid ((zs.take j).all (elB q) = true) ∧ Box w wr 36 p k g

end Go.Proofs.Ythbmfaogjaahoaa
