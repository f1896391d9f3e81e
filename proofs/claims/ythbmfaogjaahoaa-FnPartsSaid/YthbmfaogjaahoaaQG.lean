/-
  What the walks of the exact laws of segments share: the segment that a law is given is handed on as it is.
  The laws' own functions on slices of segments: their size, their copy, whether two are the same.
  Condition: as each statement says.
-/
import Derived.Test.YthbmfaogjaahoaaSg5
import Derived.Test.YthbmfaogjaahoaaLawKit
import Derived.Test.YthbmfaogjaahoaaSq1
import Derived.Deep.RegionHeld3
namespace Go.Proofs.Ythbmfaogjaahoaa
open Go.RowKit
set_option linter.unusedSimpArgs false
set_option linter.unusedVariables false

end Go.Proofs.Ythbmfaogjaahoaa

namespace Go.Proofs.Ythbmfaogjaahoaa
open Go.RowKit
set_option linter.unusedSimpArgs false
set_option linter.unusedVariables false

def szR (s : ByteArray) (x : Nat) : Int := if s.size ≤ x then ((x - s.size : Nat) : Int) else -1
/-- What the size of a slice tells. -/
def SzS (n : Nat) (T : Nat → ByteArray) (w : World) (x : Ending) (w' : World) : Prop :=
  ∃ r : Int, x = .returned (.int .i64 r) ∧ (r < 0 ∨ (0 ≤ r ∧ n ≤ 1048576 ∧ ∀ j, j < n → (T j).size ≤ 1048576)) ∧ Below w.heap.size w w'
def SzRel (w : World) (n : Nat) (T : Nat → ByteArray) (l i : Value) (wr : World) : Prop :=
  ∃ k x : Nat, k ≤ n ∧ i = .int .i64 k ∧ l = .int .i64 x ∧ x ≤ 1048576 ∧ Hid (∀ j, j < k → (T j).size ≤ 1048576) ∧ Below w.heap.size w wr

/-- A new slice of segments. -/
def NewS (n : Nat) (M : Nat → Int) (T : Nat → ByteArray) (w : World) (x : Ending) (w' : World) : Prop :=
  ∃ A c, x = .returned (.slice A n c) ∧ n ≤ c ∧ c ≤ 9223372036854775807 ∧ OwnS w' w.heap.size (.slice A n c) n (segV M T) ∧ Below w.heap.size w w'
def TsRel (w : World) (n : Nat) (M : Nat → Int) (T : Nat → ByteArray) (i : Value) (wr : World) : Prop :=
  ∃ k : Nat, k ≤ n ∧ i = .int .i64 k ∧ OwnS wr w.heap.size (.slice (some ⟨w.heap.size, 0, none⟩) n n) n (segT M T k) ∧ Below w.heap.size w wr

def EqRelS (w : World) (n : Nat) (i : Value) (wr : World) : Prop := ∃ k : Nat, k ≤ n ∧ i = .int .i64 k ∧ Below w.heap.size w wr
theorem segs_cells {w wr : World} {B n i b off : Nat} {M : Nat → Int} {T : Nat → ByteArray} (hb : b < B) (hB : B ≤ w.heap.size) (hc : ∀ j : Nat, j < n → w.cell? ⟨b, off + j * 2, none⟩ = some (.int .i64 (M j)) ∧ w.cell? ⟨b, off + j * 2 + 1, none⟩ = some (.string (T j))) (hi : i < n) (h : Below w.heap.size w wr) :
    wr.cell? ⟨b, off + i * 2, none⟩ = some (.int .i64 (M i)) ∧ wr.cell? ⟨b, off + i * 2 + 1, none⟩ = some (.string (T i)) :=
  ⟨(h.cell (p := ⟨b, off + i * 2, none⟩) (by show b < _; omega)).trans (hc i hi).1, (h.cell (p := ⟨b, off + i * 2 + 1, none⟩) (by show b < _; omega)).trans (hc i hi).2⟩

end Go.Proofs.Ythbmfaogjaahoaa
