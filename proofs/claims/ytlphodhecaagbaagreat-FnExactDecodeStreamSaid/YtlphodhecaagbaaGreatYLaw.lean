/-
  What the walks of the exact laws of layouts share: the layout that a law is given is handed on as it is.
  Condition: none.
-/
import Derived.Test.YtlphodhecaagbaaGreatCode1
import Derived.Test.YtlphodhecaagbaaGreatJH
import Derived.Test.YtlphodhecaagbaaGreatCLaw
namespace Go.Proofs.YtlphodhecaagbaaGreat
open Go.RowKit
set_option linter.unusedVariables false
set_option linter.unusedSimpArgs false

/-- The box of a law's own layout. -/
def KBox (w wr : World) (p k g D K C : Int) : Prop := Bxd w wr 50 #[.int .i64 p, .int .i64 k, .int .i64 g, .int .i64 D, .int .i64 K, .int .i64 C]
section
variable {w wr wr' : World} {p k g D K C : Int}
theorem KBox.start (w : World) (p k g D K C : Int) : KBox w (w.alloc (.cells #[.int .i64 p, .int .i64 k, .int .i64 g, .int .i64 D, .int .i64 K, .int .i64 C] 50)) p k g D K C := Bxd.start w _ _
theorem KBox.lt (h : KBox w wr p k g D K C) : w.heap.size < wr.heap.size := Bxd.lt h
theorem KBox.next (h : KBox w wr p k g D K C) (hb : Below wr.heap.size wr wr') : KBox w wr' p k g D K C := Bxd.next h hb
theorem KBox.grow' {row : Option Nat} (h : KBox w wr p k g D K C) (hg : wr.grownBy wr' row) (hr : ∀ b, row = some b → w.heap.size < b) : KBox w wr' p k g D K C := Bxd.grow h hg hr
theorem KBox.cells (h : KBox w wr p k g D K C) : wr.cell? ⟨w.heap.size, 0, none⟩ = some (.int .i64 p) ∧ wr.cell? ⟨w.heap.size, 1, none⟩ = some (.int .i64 k) ∧ wr.cell? ⟨w.heap.size, 2, none⟩ = some (.int .i64 g) ∧ wr.cell? ⟨w.heap.size, 3, none⟩ = some (.int .i64 D) ∧ wr.cell? ⟨w.heap.size, 4, none⟩ = some (.int .i64 K) ∧ wr.cell? ⟨w.heap.size, 5, none⟩ = some (.int .i64 C) :=
  ⟨Bxd.cell h rfl, Bxd.cell h rfl, Bxd.cell h rfl, Bxd.cell h rfl, Bxd.cell h rfl, Bxd.cell h rfl⟩
end
theorem row6 {w : World} {b : Nat} {x0 x1 x2 x3 x4 x5 : Value} {t : TypeId} (h : w.heap[b]? = some (.cells #[x0, x1, x2, x3, x4, x5] t (0, 0))) :
    w.cell? ⟨b, 0, none⟩ = some x0 ∧ w.cell? ⟨b, 1, none⟩ = some x1 ∧ w.cell? ⟨b, 2, none⟩ = some x2 ∧ w.cell? ⟨b, 3, none⟩ = some x3 ∧ w.cell? ⟨b, 4, none⟩ = some x4 ∧ w.cell? ⟨b, 5, none⟩ = some x5 ∧
    w.frozen? ⟨b, 0, none⟩ = false ∧ w.frozen? ⟨b, 1, none⟩ = false ∧ w.frozen? ⟨b, 2, none⟩ = false ∧ w.frozen? ⟨b, 3, none⟩ = false ∧ w.frozen? ⟨b, 4, none⟩ = false ∧ w.frozen? ⟨b, 5, none⟩ = false :=
  ⟨cell_of_row w b 0 _ _ _ h, cell_of_row w b 1 _ _ _ h, cell_of_row w b 2 _ _ _ h, cell_of_row w b 3 _ _ _ h, cell_of_row w b 4 _ _ _ h, cell_of_row w b 5 _ _ _ h, frozen_of_row w b 0 _ _ h, frozen_of_row w b 1 _ _ h, frozen_of_row w b 2 _ _ h, frozen_of_row w b 3 _ _ h, frozen_of_row w b 4 _ _ h, frozen_of_row w b 5 _ _ h⟩

set_option maxRecDepth 100000 in
set_option maxHeartbeats 2000000 in
theorem toLayout (p k g D K C : Int) (w : World) :
    Calls Tryz.prog 22 #[.agg #[.int .i64 p, .int .i64 k, .int .i64 g, .int .i64 D, .int .i64 K, .int .i64 C]] w (Gives (.agg #[.int .i64 p, .int .i64 k, .int .i64 g, .int .i64 D, .int .i64 K, .int .i64 C]) w) := by
  obtain ⟨w0, hw0⟩ : ∃ w0, w0 = ((w.alloc (.cells #[.int .i64 p, .int .i64 k, .int .i64 g, .int .i64 D, .int .i64 K, .int .i64 C] 50)).alloc (.cells #[.int .i64 0, .int .i64 0, .int .i64 0, .int .i64 0, .int .i64 0, .int .i64 0] 27)).alloc (.cells #[.int .i64 0, .int .i64 0, .int .i64 0, .int .i64 0, .int .i64 0, .int .i64 0] 27) := ⟨_, rfl⟩
  have hs : w0.heap.size = w.heap.size + 3 := by rw [hw0, alloc_size, alloc_size, alloc_size]
  have HB := hide (show Below w.heap.size w w0 by rw [hw0]; exact (((Below.refl _ _).alloc (Nat.le_refl _) _).alloc (by rw [alloc_size]; omega) _).alloc (by rw [alloc_size, alloc_size]; omega) _)
  have r1 : w0.heap[w.heap.size]? = some (.cells #[.int .i64 p, .int .i64 k, .int .i64 g, .int .i64 D, .int .i64 K, .int .i64 C] 50 (0, 0)) := by rw [hw0]; exact row_up (row_up (heap_alloc_new w _) _) _
  have r2 : w0.heap[w.heap.size + 1]? = some (.cells #[.int .i64 0, .int .i64 0, .int .i64 0, .int .i64 0, .int .i64 0, .int .i64 0] 27 (0, 0)) := by
    rw [hw0]; have h1 := heap_alloc_new (w.alloc (.cells #[.int .i64 p, .int .i64 k, .int .i64 g, .int .i64 D, .int .i64 K, .int .i64 C] 50)) (.cells #[.int .i64 0, .int .i64 0, .int .i64 0, .int .i64 0, .int .i64 0, .int .i64 0] 27); rw [alloc_size] at h1; exact row_up h1 _
  have r3 : w0.heap[w.heap.size + 1 + 1]? = some (.cells #[.int .i64 0, .int .i64 0, .int .i64 0, .int .i64 0, .int .i64 0, .int .i64 0] 27 (0, 0)) := by
    rw [hw0]; have h1 := heap_alloc_new ((w.alloc (.cells #[.int .i64 p, .int .i64 k, .int .i64 g, .int .i64 D, .int .i64 K, .int .i64 C] 50)).alloc (.cells #[.int .i64 0, .int .i64 0, .int .i64 0, .int .i64 0, .int .i64 0, .int .i64 0] 27)) (.cells #[.int .i64 0, .int .i64 0, .int .i64 0, .int .i64 0, .int .i64 0, .int .i64 0] 27); rw [alloc_size, alloc_size] at h1; exact h1
  have HR1 := hide r1
  have HR2 := hide r2
  have HR3 := hide r3
  have HW := hide hw0
  have HS := hide hs
  clear r1 r2 r3 hw0 hs
  go_enter Tryz.func22, Tryz.ntmps22
  go_wp2_with fail
  rw [← HW.out]
  refine (toField p k g w0).mono ?_
  rintro e w1 ⟨rfl, hb⟩
  obtain ⟨a0, a1, a2, a3, a4, a5, _, _, _, _, _, _⟩ := row6 (show w1.heap[w.heap.size]? = _ by rw [hb.block _ (by rw [HS.out]; omega)]; exact HR1.out)
  obtain ⟨b0, b1, b2, b3, b4, b5, f0, f1, f2, f3, f4, f5⟩ := row6 (show w1.heap[w.heap.size + 1]? = _ by rw [hb.block _ (by rw [HS.out]; omega)]; exact HR2.out)
  obtain ⟨c0, c1, c2, c3, c4, c5, e0, e1, e2, e3, e4, e5⟩ := row6 (show w1.heap[w.heap.size + 1 + 1]? = _ by rw [hb.block _ (by rw [HS.out]; omega)]; exact HR3.out)
  have HB1 := hide (HB.out.trans (hb.mono (by rw [HS.out]; omega)))
  clear hb HW HR1 HR2 HR3
  go_wp2_with fail
  refine bodyPost_ret (v := .agg #[.int .i64 p, .int .i64 k, .int .i64 g, .int .i64 D, .int .i64 K, .int .i64 C]) (by simp [results, Tryz.results22, go_sem, b0, b1, b2, b3, b4, b5]) rfl ⟨rfl, ?_⟩
  have q1 : w.heap.size ≤ w.heap.size + 1 := Nat.le_succ _
  have q2 : w.heap.size ≤ w.heap.size + 1 + 1 := by omega
  repeat (with_reducible refine Below.setCell ?_ (by first | exact q1 | exact q2) _)
  exact HB1.out
end Go.Proofs.YtlphodhecaagbaaGreat
