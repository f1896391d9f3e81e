/-
  The contracts of AppendBits and what it calls, of the program and of the model.
  Condition: the slices are shorter than 2^40.
-/
import Derived.Test.YtncgeoliboidhaaDist
namespace Go.Proofs.Ytncgeoliboidhaa
open Go.RowKit

/-- What a function leaves that appends to a slice of its caller's own. -/
def Longer (e : TypeId) (k : IntKind) (base : Nat) (zs : List Int) (w : World) (x : Ending) (w' : World) : Prop :=
  ∃ v, x = .returned v ∧ Own w' base e k v zs ∧ Below base w w'

def AppRel (base wd : Nat) (zs ys : List Int) (w : World) (v i : Value) (wr : World) : Prop :=
  ∃ j : Nat, j ≤ wd ∧ i = .int .i64 ((wd : Int) - 1 - (j : Int)) ∧ Own wr base 2 .i64 v (zs ++ ys.take j) ∧ Below base w wr

theorem new2_nil (e : TypeId) (k : IntKind) (r : Int) (w : World) : NewInts2 e k [] r w (.returned (.tuple #[.slice none 0 0, .int .i64 r])) w :=
  ⟨none, 0, rfl, Nat.le_refl _, nilOwn _ _ _ _, Below.refl _ _⟩

end Go.Proofs.Ytncgeoliboidhaa
