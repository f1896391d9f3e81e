/-
  The contracts of BitsOfString and StringOfBits, of the program and of the model.
  Condition: the slices and strings are shorter than 2^40.
-/
import Derived.Test.YthmpfnbcodolcaaNumber
import Derived.Test.YthmpfnbcodolcaaDrawK
namespace Go.Proofs.Ythmpfnbcodolcaa
open Go.RowKit

def StrRel (n : Nat) (zs : List Int) (base : Nat) (f : List Int → List Int) (w : World) (v i : Value) (wr : World) : Prop :=
  ∃ k : Nat, k ≤ n ∧ i = .int .i64 k ∧ Own wr base 2 .i64 v (f (zs.take k)) ∧ Below base w wr

def bosCode (s : ByteArray) : Int := if s.size ≤ 1024 then 0 else 3
def bosOf (s : ByteArray) : List Int := if s.size ≤ 1024 then strBits (bytesI s) else []

def StrRel2 (zs : List Int) (base : Nat) (k : Nat) (y : Int) (w : World) (v i : Value) (wr : World) : Prop :=
  ∃ j : Nat, j ≤ 8 ∧ i = .int .i64 (7 - (j : Int)) ∧ Own wr base 2 .i64 v (strBits (zs.take k) ++ (bitsOf y 8).take j) ∧ Below base w wr

end Go.Proofs.Ythmpfnbcodolcaa
