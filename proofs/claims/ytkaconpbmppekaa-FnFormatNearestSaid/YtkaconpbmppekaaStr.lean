/-
  The contracts of BitsOfString and StringOfBits, of the program and of the model.
  Condition: the slices and strings are shorter than 2^40.
-/
import Derived.Test.YtkaconpbmppekaaNumber
namespace Go.Proofs.Ytkaconpbmppekaa
open Go.RowKit

theorem info8 : (Try.prog.info? 5).map (fun i => (i.zero, i.size, i.bytes)) = some (some (.int .u8 0), 1, 1) := by kernel_rfl
theorem elem8 : IsElem Try.prog 22 5 .u8 1 := ⟨Try.underlying22, info8, by omega⟩

def StrRel (n : Nat) (zs : List Int) (base : Nat) (f : List Int → List Int) (w : World) (v i : Value) (wr : World) : Prop :=
  ∃ k : Nat, k ≤ n ∧ i = .int .i64 k ∧ Own wr base 2 .i64 v (f (zs.take k)) ∧ Below base w wr

def bosCode (s : ByteArray) : Int := if s.size ≤ 1024 then 0 else 3
def bosOf (s : ByteArray) : List Int := if s.size ≤ 1024 then strBits (bytesI s) else []

def StrRel2 (zs : List Int) (base : Nat) (k : Nat) (y : Int) (w : World) (v i : Value) (wr : World) : Prop :=
  ∃ j : Nat, j ≤ 8 ∧ i = .int .i64 (7 - (j : Int)) ∧ Own wr base 2 .i64 v (strBits (zs.take k) ++ (bitsOf y 8).take j) ∧ Below base w wr

end Go.Proofs.Ytkaconpbmppekaa
