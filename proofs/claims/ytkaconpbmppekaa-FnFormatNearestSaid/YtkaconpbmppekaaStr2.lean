/-
  The contracts of StringOfBits, BitsText and ReadBits, of the program and of the model.
  Condition: the slices and strings are shorter than 2^40.
-/
import Derived.Test.YtkaconpbmppekaaStr
import Derived.Test.YtkaconpbmppekaaStrMath
namespace Go.Proofs.Ytkaconpbmppekaa
open Go.RowKit

/-- What a function leaves that returns a string and a code. -/
def GivesS (s : ByteArray) (r : Int) (w : World) (x : Ending) (w' : World) : Prop := x = .returned (.tuple #[.string s, .int .i64 r]) ∧ Below w.heap.size w w'

def ByteRel (n : Nat) (ns : List Int) (base : Nat) (w : World) (v i : Value) (wr : World) : Prop :=
  ∃ k p : Nat, k ≤ ns.length ∧ p ≤ n ∧ p = 8 * k ∧ i = .int .i64 p ∧ Own wr base 5 .u8 v (ns.take k) ∧ Below base w wr

end Go.Proofs.Ytkaconpbmppekaa
