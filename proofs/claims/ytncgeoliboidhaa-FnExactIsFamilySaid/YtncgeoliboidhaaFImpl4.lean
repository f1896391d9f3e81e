/-
  The contracts of the program's IsField, FieldSize, FieldAdd, FieldNeg, FieldMul and what tells their errors.
  Condition: none.
-/
import Derived.Test.YtncgeoliboidhaaFImpl3
import Derived.Test.YtncgeoliboidhaaFErr
namespace Go.Proofs.Ytncgeoliboidhaa
open Go.RowKit
set_option linter.unusedSimpArgs false

def ElRel (w : World) (p k g : Int) (q n : Nat) (zs : List Int) (i : Value) (wr : World) : Prop :=
  ∃ j : Nat, j ≤ n ∧ i = .int .i64 j ∧ Hid ((zs.take j).all (elB q) = true) ∧ Box w wr 29 p k g

end Go.Proofs.Ytncgeoliboidhaa
