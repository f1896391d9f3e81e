/-
  A struct that a call was given, in the first block that the call made.
  No condition.
-/
import Derived.Test.YtncgeoliboidhaaGreatVA
import Derived.Test.YtncgeoliboidhaaGreatFmSpec2
namespace Go.Proofs.YtncgeoliboidhaaGreat
open Go.RowKit
set_option linter.unusedVariables false

/-- The struct that a call was given lies with its cells in the first block that it made, and nothing before it has changed. -/
def Bxf (w wr : World) (t : TypeId) (cs : Array Value) : Prop :=
  wr.heap[w.heap.size]? = some (.cells cs t (0, 0)) ∧ Below w.heap.size w wr
section
variable {w wr wr' : World} {t : TypeId} {cs : Array Value}
theorem Bxf.start (w : World) (t : TypeId) (cs : Array Value) : Bxf w (w.alloc (.cells cs t)) t cs := ⟨heap_alloc_new w _, (Below.refl _ _).alloc (Nat.le_refl _) _⟩
theorem Bxf.lt (h : Bxf w wr t cs) : w.heap.size < wr.heap.size := (Array.getElem?_eq_some_iff.1 h.1).1
theorem Bxf.next (h : Bxf w wr t cs) (hb : Below wr.heap.size wr wr') : Bxf w wr' t cs :=
  ⟨by rw [hb.block _ h.lt]; exact h.1, h.2.trans (hb.mono (Nat.le_of_lt h.lt))⟩
theorem Bxf.alloc (h : Bxf w wr t cs) (o : Obj) : Bxf w (wr.alloc o) t cs := h.next ((Below.refl _ _).alloc (Nat.le_refl _) o)
theorem Bxf.drew (h : Bxf w wr t cs) : Bxf w wr.drew t cs := ⟨h.1, h.2.drew⟩
theorem Bxf.drewN (h : Bxf w wr t cs) (n : Nat) : Bxf w (wr.drewN n) t cs := ⟨h.1, below_drewN h.2 n⟩
theorem Bxf.grow {row : Option Nat} (h : Bxf w wr t cs) (hg : wr.grownBy wr' row) (hr : ∀ b, row = some b → w.heap.size < b) : Bxf w wr' t cs :=
  ⟨by rw [hg.block _ h.lt (by intro e; have := hr _ e.symm; omega)]; exact h.1, h.2.grown hg (Nat.le_of_lt h.lt) (fun r hr' => by have := hr r hr'; omega)⟩
theorem Bxf.cell (h : Bxf w wr t cs) {j : Nat} {v : Value} (hv : cs[j]? = some v) : wr.cell? ⟨w.heap.size, j, none⟩ = some v := by
  rw [cell_of_row wr w.heap.size j _ _ _ h.1]; exact hv
end
end Go.Proofs.YtncgeoliboidhaaGreat
