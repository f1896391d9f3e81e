/-
  The contracts of the model's FieldSize, FieldAdd, FieldNeg and FieldMul, and of what tells their errors.
  Condition: none.
-/
import Derived.Test.YtncgeoliboidhaaFSpec2
import Derived.Deep.RegionHeld3
namespace Go.Proofs.Ytncgeoliboidhaa
open Go.RowKit
set_option linter.unusedSimpArgs false
set_option linter.unusedVariables false

theorem in_elB {q : Nat} {x : Int} : inR x 0 ((q : Int) - 1) = elB q x := by
  rw [inR, elB, decide_eq_decide]; omega

def IsRel (w : World) (p k g : Int) (q n : Nat) (zs : List Int) (i : Value) (wr : World) : Prop :=
  ∃ j : Nat, j ≤ n ∧ i = .int .i64 j ∧ Hid ((zs.take j).all (elB q) = true) ∧ Box w wr 29 p k g

end Go.Proofs.Ytncgeoliboidhaa
