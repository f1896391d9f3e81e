/-
  The narrowest mode of a text: the program and the model.
  Condition: the text is shorter than 2^40.
-/
import Derived.Test.YthbmfaogjaahoaaSg5
namespace Go.Proofs.Ythbmfaogjaahoaa
open Go.RowKit
set_option linter.unusedSimpArgs false
set_option linter.unusedVariables false

/-- The three modes that are looked at lie in a block. -/
def NRow (w wr : World) : Prop := wr.heap[w.heap.size]? = some (.cells #[.int .i64 1, .int .i64 3, .int .i64 2] 2 (0, 0)) ∧ Below w.heap.size w wr
theorem NRow.cells {w wr : World} (h : NRow w wr) : wr.cell? ⟨w.heap.size, 0, none⟩ = some (.int .i64 1) ∧ wr.cell? ⟨w.heap.size, 1, none⟩ = some (.int .i64 3) ∧ wr.cell? ⟨w.heap.size, 2, none⟩ = some (.int .i64 2) := cells3 h.1
theorem NRow.next {w wr wr' : World} (h : NRow w wr) (hb : Below wr.heap.size wr wr') : NRow w wr' := by
  have hlt := (Array.getElem?_eq_some_iff.1 h.1).1
  exact ⟨by rw [hb.block _ hlt]; exact h.1, h.2.trans (hb.mono (Nat.le_of_lt hlt))⟩
/-- What the rounds have found. -/
def narAt (bs : List Int) (k : Nat) : Prop := (1 ≤ k → allV 1 bs = false) ∧ (2 ≤ k → allV 3 bs = false) ∧ (3 ≤ k → allV 2 bs = false)

end Go.Proofs.Ythbmfaogjaahoaa
