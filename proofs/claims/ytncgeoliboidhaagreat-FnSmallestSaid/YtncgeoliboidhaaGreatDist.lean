/-
  The contracts of BitDistance and XorBits, of the program and of the model.
  Condition: the slices are shorter than 2^40.
-/
import Derived.Test.YtncgeoliboidhaaGreatIsBits
import Derived.Test.YtncgeoliboidhaaGreatMarks
import Derived.Deep.RegionHeld3
namespace Go.Proofs.YtncgeoliboidhaaGreat
open Go.RowKit


/-- What a function leaves that returns a number and a code. -/
def Gives2 (v r : Int) (w : World) (x : Ending) (w' : World) : Prop := x = .returned (.tuple #[.int .i64 v, .int .i64 r]) ∧ Below w.heap.size w w'

def distOf (za zb : List Int) : Int := if pairCode za zb = 0 then (differ za zb : Int) else 0

/-- What a function leaves that returns a new slice of integers and a code. -/
def NewInts2 (e : TypeId) (k : IntKind) (zs : List Int) (r : Int) (w : World) (x : Ending) (w' : World) : Prop :=
  ∃ A c, x = .returned (.tuple #[.slice A zs.length c, .int .i64 r]) ∧ zs.length ≤ c ∧ Own w' w.heap.size e k (.slice A zs.length c) zs ∧ Below w.heap.size w w'

def xorOf (za zb : List Int) : List Int := if pairCode za zb = 0 then xorL za zb else []

def XorRel (n : Nat) (zs : List Int) (w : World) (i : Value) (wr : World) : Prop :=
  ∃ k : Nat, k ≤ n ∧ i = .int .i64 k ∧ Own wr w.heap.size 2 .i64 (.slice (some ⟨w.heap.size, 0, none⟩) n n) (zs.take k ++ List.replicate (n - k) 0) ∧ Below w.heap.size w wr

theorem nilOwn (w : World) (base : Nat) (e : TypeId) (k : IntKind) : Own w base e k (.slice none 0 0) [] := World.ownsRow_nil w base e 1

def XRel (n : Nat) (zs : List Int) (w : World) (v i : Value) (wr : World) : Prop :=
  ∃ k : Nat, k ≤ n ∧ i = .int .i64 k ∧ Own wr w.heap.size 2 .i64 v (zs.take k) ∧ Below w.heap.size w wr

end Go.Proofs.YtncgeoliboidhaaGreat
