/-
  A struct of three numbers that a call was given, in the block that the call made of it; small words for walks.
  No condition.
-/
import Derived.Test.YtncgeoliboidhaaWords
namespace Go.Proofs.Ytncgeoliboidhaa
open Go.RowKit

/-- What a function leaves that returns two values and at most makes new memory. -/
def GivesII (a b : Int) (w : World) (x : Ending) (w' : World) : Prop := x = .returned (.tuple #[.int .i64 a, .int .i64 b]) ∧ Below w.heap.size w w'

/-- Three cells of a block. -/
theorem cells3 {w : World} {g : Nat} {a b c : Value} {t : TypeId} {fr : Nat × Nat} (h : w.heap[g]? = some (.cells #[a, b, c] t fr)) :
    w.cell? ⟨g, 0, none⟩ = some a ∧ w.cell? ⟨g, 1, none⟩ = some b ∧ w.cell? ⟨g, 2, none⟩ = some c :=
  ⟨cell_of_row w g 0 _ _ _ h, cell_of_row w g 1 _ _ _ h, cell_of_row w g 2 _ _ _ h⟩
theorem i64xor (a b : Nat) (ha : a < 4611686018427387904) (hb : b < 4611686018427387904) : bits .xor .i64 (a : Int) (b : Int) = ((a ^^^ b : Nat) : Int) := by
  show IntKind.i64.wrap ((BitVec.ofInt 64 (a : Int) ^^^ BitVec.ofInt 64 (b : Int)).toNat : Int) = _
  have h : a ^^^ b < 2 ^ 62 := Nat.xor_lt_two_pow (show a < 2 ^ 62 from ha) (show b < 2 ^ 62 from hb)
  rw [BitVec.toNat_xor, i64Nat a (by omega), i64Nat b (by omega), IntKind.wrap_i64]
  omega

/-- The struct that a call was given lies in the first block that it made, and nothing before it has changed. -/
def Box (w wr : World) (t : TypeId) (p k g : Int) : Prop :=
  wr.heap[w.heap.size]? = some (.cells #[.int .i64 p, .int .i64 k, .int .i64 g] t (0, 0)) ∧ Below w.heap.size w wr
section
variable {w wr wr' : World} {t : TypeId} {p k g : Int}
theorem Box.start (w : World) (t : TypeId) (p k g : Int) : Box w (w.alloc (.cells #[.int .i64 p, .int .i64 k, .int .i64 g] t)) t p k g :=
  ⟨heap_alloc_new w _, (Below.refl _ _).alloc (Nat.le_refl _) _⟩
theorem Box.lt (h : Box w wr t p k g) : w.heap.size < wr.heap.size := (Array.getElem?_eq_some_iff.1 h.1).1
theorem Box.next (h : Box w wr t p k g) (hb : Below wr.heap.size wr wr') : Box w wr' t p k g :=
  ⟨by rw [hb.block _ h.lt]; exact h.1, h.2.trans (hb.mono (Nat.le_of_lt h.lt))⟩
theorem Box.alloc (h : Box w wr t p k g) (o : Obj) : Box w (wr.alloc o) t p k g := h.next ((Below.refl _ _).alloc (Nat.le_refl _) o)
theorem Box.drew (h : Box w wr t p k g) : Box w wr.drew t p k g := ⟨h.1, h.2.drew⟩
theorem Box.drewN (h : Box w wr t p k g) (n : Nat) : Box w (wr.drewN n) t p k g := ⟨h.1, below_drewN h.2 n⟩
theorem Box.cells (h : Box w wr t p k g) : wr.cell? ⟨w.heap.size, 0, none⟩ = some (.int .i64 p) ∧ wr.cell? ⟨w.heap.size, 1, none⟩ = some (.int .i64 k) ∧ wr.cell? ⟨w.heap.size, 2, none⟩ = some (.int .i64 g) := cells3 h.1
end
theorem alloc_size (w : World) (o : Obj) : (w.alloc o).heap.size = w.heap.size + 1 := by show (w.heap.push o).size = _; simp
theorem Own.low {w : World} {base base' : Nat} {e : TypeId} {k : IntKind} {v : Value} {zs : List Int} (h : Own w base e k v zs) (hb : base' ≤ base) : Own w base' e k v zs := by
  refine ⟨h.1, ?_⟩
  rcases h.2 with h0 | ⟨g, cap, cur, h1, h2, h3⟩
  · exact .inl h0
  · exact .inr ⟨g, cap, cur, h1, by omega, h3⟩
theorem Box.grow' {w wr wr' : World} {t : TypeId} {p k g : Int} {row : Option Nat} (h : Box w wr t p k g) (hg : wr.grownBy wr' row) (hr : ∀ b, row = some b → w.heap.size < b) : Box w wr' t p k g :=
  ⟨by rw [hg.block _ h.lt (by intro e; have := hr _ e.symm; omega)]; exact h.1, h.2.grown hg (Nat.le_of_lt h.lt) (fun r hr' => by have := hr r hr'; omega)⟩
end Go.Proofs.Ytncgeoliboidhaa
