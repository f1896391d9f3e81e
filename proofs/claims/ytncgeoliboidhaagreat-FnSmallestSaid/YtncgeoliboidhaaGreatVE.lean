/-
  The contracts of the program's FieldAdd, FieldNeg and FieldMul.
  The contracts of the program's table of powers and of what is read from it.
  The contracts of the program's logarithms, powers and inverses, and of FieldInv, FieldPow and FieldLog.
  Condition: as each statement says.
-/
import Derived.Test.YtncgeoliboidhaaGreatVB
import Derived.Deep.WholeRow
import Derived.Deep.RegionHeld3
import Derived.Great.Ranges
namespace Go.Proofs.YtncgeoliboidhaaGreat
open Go.RowKit
set_option linter.unusedSimpArgs false
set_option linter.unusedVariables false

end Go.Proofs.YtncgeoliboidhaaGreat

namespace Go.Proofs.YtncgeoliboidhaaGreat
open Go.RowKit
set_option linter.unusedSimpArgs false
set_option linter.unusedVariables false

/-- The table of the powers of a generator. -/
def tbl (q : Nat) (mul : Nat → Nat → Nat) (γ i : Nat) : Int := if i < q - 1 then (pw mul γ i : Nat) else 0
/-- An array of the table's type reads as t. -/
def Tab (cs : Array Value) (t : Nat → Int) : Prop := cs.size = 1021 ∧ ∀ i, i < 1021 → cs[i]? = some (.int .i64 (t i))

theorem tab_put {cs : Array Value} {q : Nat} {mul : Nat → Nat → Nat} {γ j : Nat} (hj : j < 1021) (h : Tab cs (fun i => if i < j then (pw mul γ i : Nat) else 0)) :
    Tab (cs.setIfInBounds j (.int .i64 (pw mul γ j : Nat))) (fun i => if i < j + 1 then (pw mul γ i : Nat) else 0) := by
  refine ⟨by simp [h.1], fun i hi => ?_⟩
  rw [Array.getElem?_setIfInBounds]
  have hs := h.1
  have h2 := h.2 i hi
  by_cases he : j = i
  · subst he
    simp [hs, hj]
  · rw [if_neg he, h2]
    congr 2
    by_cases h3 : i < j
    · simp [h3, show i < j + 1 by omega]
    · simp [h3, show ¬ i < j + 1 by omega]
theorem tab_end {cs : Array Value} {q : Nat} {mul : Nat → Nat → Nat} {γ : Nat} (h : Tab cs (fun i => if i < q - 1 then (pw mul γ i : Nat) else 0)) : Tab cs (tbl q mul γ) := ⟨h.1, fun i hi => by rw [h.2 i hi]; rfl⟩
theorem Tab.one {cs : Array Value} {t : Nat → Int} (h : Tab cs t) : cs.all (·.oneCell') = true := by
  rw [Array.all_eq_true]
  intro i hi
  have := h.2 i (by rw [← h.1]; exact hi)
  rw [Array.getElem?_eq_getElem hi] at this
  injection this with this
  rw [this]; rfl
theorem heap_below {w w' : World} {i : Nat} {o : Obj} (h : w.heap[i]? = some o) (hb : Below w.heap.size w w') : w'.heap[i]? = some o := by
  rw [hb.block i (Array.getElem?_eq_some_iff.1 h).1]; exact h

theorem Box.set {w wr : World} {t : TypeId} {p k g : Int} (h : Box w wr t p k g) (b o : Nat) (v : Value) (hb : w.heap.size < b) : Box w (wr.setCell ⟨b, o, none⟩ v) t p k g :=
  ⟨by rw [heap_setCell_other wr ⟨b, o, none⟩ _ v (by simp; omega)]; exact h.1, h.2.setCell (by simp; omega) v⟩

theorem Below.setRow {B : Nat} {w w' : World} (h : Below B w w') (g : Nat) (cs : Array Value) (hg : B ≤ g) : Below B w (w'.setRow g cs) :=
  ⟨h.os, h.tape, h.output, by simp; exact h.size, fun i hi => (setRow_other w' g i cs (by omega)).trans (h.block i hi)⟩

def TabR (t : Nat → Int) (w : World) (x : Ending) (w' : World) : Prop := ∃ cs : Array Value, x = .returned (.agg cs) ∧ Tab cs t ∧ Below w.heap.size w w'

end Go.Proofs.YtncgeoliboidhaaGreat

namespace Go.Proofs.YtncgeoliboidhaaGreat
open Go.RowKit
set_option linter.unusedSimpArgs false
set_option linter.unusedVariables false

def LogRel (w : World) (cs : Array Value) (l : Nat) (i : Value) : Prop := ∃ j : Nat, j ≤ l ∧ i = .int .i64 j

theorem wrap_mul {l n : Nat} (hl : l ≤ 1021) (hn : n ≤ 1000000) : IntKind.i64.wrap ((l : Int) * (n : Int)) = ((l * n : Nat) : Int) := by
  have h : l * n ≤ 1021 * 1000000 := Nat.mul_le_mul hl hn
  rw [← Int.natCast_mul]
  generalize l * n = y at h
  exact IntWalk.i64_in _ ⟨by omega, by omega⟩
theorem row_below {w w' : World} {b : Nat} {cs : Array Value} {t : TypeId} {fr : Nat × Nat} (h : w.heap[b]? = some (.cells cs t fr)) : w.rangeAt b 0 cs.toList := fun j v hv => by
  rw [Nat.zero_add, cell_of_row w b j cs t fr h]
  simpa using hv

theorem Box.setRow {w wr : World} {t : TypeId} {p k g : Int} (h : Box w wr t p k g) (b : Nat) (cs : Array Value) (hb : w.heap.size < b) : Box w (wr.setRow b cs) t p k g :=
  ⟨by rw [setRow_other wr b _ cs (by omega)]; exact h.1, Go.Proofs.YtncgeoliboidhaaGreat.Below.setRow h.2 b cs (by omega)⟩

theorem inv_cases (p k g a : Int) : (∃ c : Int, invC p k g a = c ∧ (c != 0) = true ∧ c ≠ 0) ∨ ∃ (x q : Nat) (mul : Nat → Nat → Nat) (γ : Nat), invC p k g a = 0 ∧ a = x ∧ x ≠ 0 ∧ x < q ∧ Kd p k g q mul ∧ 1 ≤ γ ∧ γ < q ∧ gen q mul γ = true ∧ genF p g = γ ∧ ((p ≠ 2 ∧ k = 1 ∧ g = γ) ∨ (p = 2 ∧ 3 ≤ k ∧ γ = 2)) := by
  rcases err1 p k g a with ⟨c, hc, hne, hne'⟩ | ⟨x, q, mul, γ, hc, rfl, hx, hK, h1, h2, h3, h4, h5⟩
  · exact .inl ⟨c, invC_bad hc hne', hne, hne'⟩
  · by_cases hx0 : x = 0
    · subst hx0
      exact .inl ⟨5, invC_zero hc, rfl, by decide⟩
    · exact .inr ⟨x, q, mul, γ, invC_ok hc (by omega), rfl, hx0, hx, hK, h1, h2, h3, h4, h5⟩

end Go.Proofs.YtncgeoliboidhaaGreat
