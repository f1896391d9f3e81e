/-
  The contract of the program's FieldOf.
  Condition: none.
-/
import Derived.Test.YthbmfaogjaahoaaFOf
import Derived.Test.YthbmfaogjaahoaaTD
namespace Go.Proofs.Ythbmfaogjaahoaa
open Go.RowKit
set_option linter.unusedSimpArgs false
set_option linter.unusedVariables false

def LowGRel (w : World) (K : Nat) (i : Value) (wr : World) : Prop :=
  ∃ G : Nat, 2 ^ K ≤ G ∧ G ≤ 2 ^ (K + 1) ∧ i = .int .i64 G ∧ Hid (∀ j : Nat, j < G → 2 ^ K ≤ j → fieldB 2 K j = false) ∧ Box w wr 36 0 0 0

theorem pow_c {K : Nat} (h3 : 3 ≤ K) (h8 : K ≤ 8) : ∃ c : Int, wrap64 (2 ^ K) = c ∧ c = 2 ^ K := by
  obtain ⟨c, h1, _, h2, _⟩ := (show ∃ c : Int, wrap64 (2 ^ K) = c ∧ True ∧ c = 2 ^ K ∧ True from by
    obtain ⟨pw, hpw, he, _, _⟩ := pow_fits K (by omega)
    exact ⟨pw, hpw, trivial, he, trivial⟩)
  exact ⟨c, h1, h2⟩

def OfRel (s : Int) (i : Value) : Prop := ∃ j : Nat, 3 ≤ j ∧ j ≤ 9 ∧ i = .int .i64 j ∧ Hid (∀ K : Nat, 3 ≤ K → K < j → s ≠ 2 ^ K)

end Go.Proofs.Ythbmfaogjaahoaa
