/-
  The contracts of the test of code words, of the program.
  Condition: the code is valid, and the list is a word of it.
-/
import Derived.Test.YtdniocdmncldjaaGreatCode5
namespace Go.Proofs.YtdniocdmncldjaaGreat
open Go.RowKit
set_option linter.unusedSimpArgs false
set_option linter.unusedVariables false

section
variable {R : Fld} {γ : El R} {p k g : Int} {l c : Nat}
/-- An index of something, or none. -/
def Found (b : Bool) (w : World) (x : Ending) (w' : World) : Prop := ∃ i : Int, x = .returned (.int .i64 i) ∧ decide (0 ≤ i) = b ∧ w = w'
def FxRel (n : Nat) (ps : List (El R)) (i : Value) : Prop := ∃ j : Nat, j ≤ n ∧ i = .int .i64 j ∧ Hid (∀ i, i < j → cf ps i = 0)

end
end Go.Proofs.YtdniocdmncldjaaGreat
