/-
  What the walks of the exact laws of codes share: the code that a law is given is handed on as it is.
  Condition: none.
-/
import Derived.Test.YtlphodhecaagbaaGreatCode1
import Derived.Test.YtlphodhecaagbaaGreatJH
namespace Go.Proofs.YtlphodhecaagbaaGreat
open Go.RowKit
set_option linter.unusedVariables false
set_option linter.unusedSimpArgs false

section
variable {w wr wr' : World} {p k g L C : Int}
/-- No struct was given. -/
def NBox (w wr : World) : Prop := w.heap.size ≤ wr.heap.size ∧ Below w.heap.size w wr
theorem NBox.start (w : World) : NBox w w := ⟨Nat.le_refl _, Below.refl _ _⟩
theorem NBox.next (h : NBox w wr) (hb : Below wr.heap.size wr wr') : NBox w wr' := ⟨Nat.le_trans h.1 hb.size, h.2.trans (hb.mono h.1)⟩
end

theorem row_up {w : World} {N : Nat} {o : Obj} (h : w.heap[N]? = some o) (o' : Obj) : (w.alloc o').heap[N]? = some o := by
  rw [((Below.refl (w.heap.size) w).alloc (Nat.le_refl _) o').block N (Array.getElem?_eq_some_iff.1 h).1]; exact h
theorem row5 {w : World} {b : Nat} {x0 x1 x2 x3 x4 : Value} {t : TypeId} (h : w.heap[b]? = some (.cells #[x0, x1, x2, x3, x4] t (0, 0))) :
    w.cell? ⟨b, 0, none⟩ = some x0 ∧ w.cell? ⟨b, 1, none⟩ = some x1 ∧ w.cell? ⟨b, 2, none⟩ = some x2 ∧ w.cell? ⟨b, 3, none⟩ = some x3 ∧ w.cell? ⟨b, 4, none⟩ = some x4 ∧
    w.frozen? ⟨b, 0, none⟩ = false ∧ w.frozen? ⟨b, 1, none⟩ = false ∧ w.frozen? ⟨b, 2, none⟩ = false ∧ w.frozen? ⟨b, 3, none⟩ = false ∧ w.frozen? ⟨b, 4, none⟩ = false :=
  ⟨cell_of_row w b 0 _ _ _ h, cell_of_row w b 1 _ _ _ h, cell_of_row w b 2 _ _ _ h, cell_of_row w b 3 _ _ _ h, cell_of_row w b 4 _ _ _ h, frozen_of_row w b 0 _ _ h, frozen_of_row w b 1 _ _ h, frozen_of_row w b 2 _ _ h, frozen_of_row w b 3 _ _ h, frozen_of_row w b 4 _ _ h⟩

end Go.Proofs.YtlphodhecaagbaaGreat
