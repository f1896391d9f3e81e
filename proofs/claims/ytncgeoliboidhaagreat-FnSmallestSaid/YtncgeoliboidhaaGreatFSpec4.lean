/-
  The contracts of the model's powers, inverses and logarithms.
  Condition: none beyond the kinds that each names.
-/
import Derived.Test.YtncgeoliboidhaaGreatVC
import Derived.Test.YtncgeoliboidhaaGreatVE
namespace Go.Proofs.YtncgeoliboidhaaGreat
open Go.RowKit
set_option linter.unusedSimpArgs false
set_option linter.unusedVariables false

def SqRel (w : World) (p k g : Int) (q : Nat) (mul : Nat → Nat → Nat) (a n : Nat) (s i o : Value) (wr : World) : Prop :=
  ∃ x m y : Nat, x < q ∧ m ≤ n ∧ y < q ∧ s = .int .i64 x ∧ i = .int .i64 m ∧ o = .int .i64 y ∧ Hid (mul y (pw mul x m) = pw mul a n) ∧ Box w wr 25 p k g

def SLogRel (w : World) (p k g : Int) (q : Nat) (mul : Nat → Nat → Nat) (γ l : Nat) (s i : Value) (wr : World) : Prop :=
  ∃ j x : Nat, j ≤ l ∧ x < q ∧ s = .int .i64 j ∧ i = .int .i64 x ∧ Hid (x = pw mul γ j) ∧ Box w wr 25 p k g

end Go.Proofs.YtncgeoliboidhaaGreat
