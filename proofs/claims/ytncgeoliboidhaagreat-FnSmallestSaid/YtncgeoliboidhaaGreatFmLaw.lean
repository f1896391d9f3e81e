/-
  The laws' own functions on families: size, copy, whether two are the same.
  Condition: as each statement says.
-/
import Derived.Test.YtncgeoliboidhaaGreatBxf
import Derived.Test.YtncgeoliboidhaaGreatFmSpec2
import Derived.Test.YtncgeoliboidhaaGreatFLaw
import Derived.Test.YtncgeoliboidhaaGreatLawKit
import Derived.Test.YtncgeoliboidhaaGreatMarks
import Derived.Deep.RegionHeld3
namespace Go.Proofs.YtncgeoliboidhaaGreat
open Go.RowKit
set_option linter.unusedVariables false
set_option linter.unusedSimpArgs false

/-- The box of a program's family. -/
def FBox (w wr : World) (s : ByteArray) (κ p k g : Int) (A : Option Addr) (n c : Nat) (C : Int) (A' : Option Addr) (n' c' : Nat) : Prop := Bxf w wr 28 #[.string s, .int .i64 κ, .int .i64 p, .int .i64 k, .int .i64 g, .slice A n c, .int .i64 C, .slice A' n' c']
/-- The cells of a family in a block. -/
def FCells (w : World) (b : Nat) (s : ByteArray) (κ p k g : Int) (A : Option Addr) (n c : Nat) (C : Int) (A' : Option Addr) (n' c' : Nat) : Prop :=
  w.cell? ⟨b, 0, none⟩ = some (.string s) ∧ w.cell? ⟨b, 1, none⟩ = some (.int .i64 κ) ∧ w.cell? ⟨b, 2, none⟩ = some (.int .i64 p) ∧ w.cell? ⟨b, 3, none⟩ = some (.int .i64 k) ∧ w.cell? ⟨b, 4, none⟩ = some (.int .i64 g) ∧
  w.cell? ⟨b, 5, none⟩ = some (.slice A n c) ∧ w.cell? ⟨b, 6, none⟩ = some (.int .i64 C) ∧ w.cell? ⟨b, 7, none⟩ = some (.slice A' n' c')
section
variable {w wr wr' : World} {s : ByteArray} {κ p k g : Int} {A : Option Addr} {n c : Nat} {C : Int} {A' : Option Addr} {n' c' : Nat}
theorem FBox.start (w : World) (s : ByteArray) (κ p k g : Int) (A : Option Addr) (n c : Nat) (C : Int) (A' : Option Addr) (n' c' : Nat) : FBox w (w.alloc (.cells #[.string s, .int .i64 κ, .int .i64 p, .int .i64 k, .int .i64 g, .slice A n c, .int .i64 C, .slice A' n' c'] 28)) s κ p k g A n c C A' n' c' := Bxf.start w _ _
theorem FBox.lt (h : FBox w wr s κ p k g A n c C A' n' c') : w.heap.size < wr.heap.size := Bxf.lt h
theorem FBox.next (h : FBox w wr s κ p k g A n c C A' n' c') (hb : Below wr.heap.size wr wr') : FBox w wr' s κ p k g A n c C A' n' c' := Bxf.next h hb
theorem FBox.drew (h : FBox w wr s κ p k g A n c C A' n' c') : FBox w wr.drew s κ p k g A n c C A' n' c' := Bxf.drew h
theorem FBox.drewN (h : FBox w wr s κ p k g A n c C A' n' c') (m : Nat) : FBox w (wr.drewN m) s κ p k g A n c C A' n' c' := Bxf.drewN h m
theorem FBox.alloc (h : FBox w wr s κ p k g A n c C A' n' c') (o : Obj) : FBox w (wr.alloc o) s κ p k g A n c C A' n' c' := Bxf.alloc h o
theorem FBox.grow {row : Option Nat} (h : FBox w wr s κ p k g A n c C A' n' c') (hg : wr.grownBy wr' row) (hr : ∀ b, row = some b → w.heap.size < b) : FBox w wr' s κ p k g A n c C A' n' c' := Bxf.grow h hg hr
theorem FBox.cells (h : FBox w wr s κ p k g A n c C A' n' c') : FCells wr w.heap.size s κ p k g A n c C A' n' c' :=
  ⟨Bxf.cell h rfl, Bxf.cell h rfl, Bxf.cell h rfl, Bxf.cell h rfl, Bxf.cell h rfl, Bxf.cell h rfl, Bxf.cell h rfl, Bxf.cell h rfl⟩
end
theorem row8 {w : World} {b : Nat} {x0 x1 x2 x3 x4 x5 x6 x7 : Value} {t : TypeId} (h : w.heap[b]? = some (.cells #[x0, x1, x2, x3, x4, x5, x6, x7] t (0, 0))) :
    (w.cell? ⟨b, 0, none⟩ = some x0 ∧ w.cell? ⟨b, 1, none⟩ = some x1 ∧ w.cell? ⟨b, 2, none⟩ = some x2 ∧ w.cell? ⟨b, 3, none⟩ = some x3 ∧ w.cell? ⟨b, 4, none⟩ = some x4 ∧ w.cell? ⟨b, 5, none⟩ = some x5 ∧ w.cell? ⟨b, 6, none⟩ = some x6 ∧ w.cell? ⟨b, 7, none⟩ = some x7) ∧
    w.frozen? ⟨b, 0, none⟩ = false ∧ w.frozen? ⟨b, 1, none⟩ = false ∧ w.frozen? ⟨b, 2, none⟩ = false ∧ w.frozen? ⟨b, 3, none⟩ = false ∧ w.frozen? ⟨b, 4, none⟩ = false ∧ w.frozen? ⟨b, 5, none⟩ = false ∧ w.frozen? ⟨b, 6, none⟩ = false ∧ w.frozen? ⟨b, 7, none⟩ = false :=
  ⟨⟨cell_of_row w b 0 _ _ _ h, cell_of_row w b 1 _ _ _ h, cell_of_row w b 2 _ _ _ h, cell_of_row w b 3 _ _ _ h, cell_of_row w b 4 _ _ _ h, cell_of_row w b 5 _ _ _ h, cell_of_row w b 6 _ _ _ h, cell_of_row w b 7 _ _ _ h⟩, frozen_of_row w b 0 _ _ h, frozen_of_row w b 1 _ _ h, frozen_of_row w b 2 _ _ h, frozen_of_row w b 3 _ _ h, frozen_of_row w b 4 _ _ h, frozen_of_row w b 5 _ _ h, frozen_of_row w b 6 _ _ h, frozen_of_row w b 7 _ _ h⟩
/-- A new family: its lists are new. -/
def NewFm (s : ByteArray) (κ p k g : Int) (zs : List Int) (C : Int) (ls : List Int) (w : World) (x : Ending) (w' : World) : Prop :=
  ∃ A c A' c', x = .returned (.agg #[.string s, .int .i64 κ, .int .i64 p, .int .i64 k, .int .i64 g, .slice A zs.length c, .int .i64 C, .slice A' ls.length c']) ∧ Ints .i64 w' w'.heap.size A zs.length zs ∧ Ints .i64 w' w'.heap.size A' ls.length ls ∧ Below w.heap.size w w'

end Go.Proofs.YtncgeoliboidhaaGreat
