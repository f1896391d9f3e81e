/-
  The table of best cells in memory: a block of cells, four numbers each.
  Condition: as each statement says.
-/
import Derived.Test.YthbmfaogjaahoaaProg
import Derived.Test.YthbmfaogjaahoaaBox
import Derived.Test.YthbmfaogjaahoaaDp1
import Derived.Deep.WholeRow
namespace Go.Proofs.Ythbmfaogjaahoaa
open Go.RowKit
set_option linter.unusedSimpArgs false
set_option linter.unusedVariables false

/-- The array cs has the numbers of t 0 .. t (N - 1). -/
def TabQ (cs : Array Value) (N : Nat) (t : Nat → Cel) : Prop :=
  cs.size = N * 4 ∧ ∀ i, i < N → cs[i * 4]? = some (.int .i64 (t i).l) ∧ cs[i * 4 + 1]? = some (.int .i64 (t i).c) ∧ cs[i * 4 + 2]? = some (.int .i64 (t i).s) ∧ cs[i * 4 + 3]? = some (.int .i64 (t i).m)
/-- Block b has the table t. -/
def RowQ (w : World) (b : Nat) (T : TypeId) (N : Nat) (t : Nat → Cel) : Prop := ∃ cs, w.heap[b]? = some (.cells cs T (0, 0)) ∧ TabQ cs N t
section
variable {w w' : World} {b N : Nat} {T : TypeId} {t : Nat → Cel} {cs : Array Value}
theorem TabQ.at_ (h : TabQ cs N t) {k : Nat} (hk : k < N * 4) : ∃ x : Int, cs[k]? = some (.int .i64 x) := by
  obtain ⟨a, b, c, d⟩ := h.2 (k / 4) (by omega)
  rcases (show k % 4 = 0 ∨ k % 4 = 1 ∨ k % 4 = 2 ∨ k % 4 = 3 by omega) with e | e | e | e
  · exact ⟨_, by rw [show k = k / 4 * 4 by omega]; exact a⟩
  · exact ⟨_, by rw [show k = k / 4 * 4 + 1 by omega]; exact b⟩
  · exact ⟨_, by rw [show k = k / 4 * 4 + 2 by omega]; exact c⟩
  · exact ⟨_, by rw [show k = k / 4 * 4 + 3 by omega]; exact d⟩
theorem TabQ.one (h : TabQ cs N t) : cs.all (·.oneCell') = true := by
  rw [Array.all_eq_true]
  intro i hi
  obtain ⟨x, hx⟩ := h.at_ (k := i) (by rw [← h.1]; exact hi)
  rw [Array.getElem?_eq_getElem hi] at hx
  injection hx with hx
  rw [hx]; rfl
theorem TabQ.put (h : TabQ cs N t) {i : Nat} (hi : i < N) (x : Cel) :
    TabQ ((((cs.setIfInBounds (i * 4) (.int .i64 x.l)).setIfInBounds (i * 4 + 1) (.int .i64 x.c)).setIfInBounds (i * 4 + 2) (.int .i64 x.s)).setIfInBounds (i * 4 + 3) (.int .i64 x.m)) N (upd t i x) := by
  have hs := h.1
  refine ⟨by simp [hs], fun k hk => ?_⟩
  have h2 := h.2 k hk
  simp only [Array.getElem?_setIfInBounds, Array.size_setIfInBounds]
  by_cases e : k = i
  · subst e
    rw [upd_at]
    refine ⟨?_, ?_, ?_, ?_⟩
    · rw [if_neg (by omega), if_neg (by omega), if_neg (by omega), if_pos rfl, if_pos (by omega)]
    · rw [if_neg (by omega), if_neg (by omega), if_pos rfl, if_pos (by omega)]
    · rw [if_neg (by omega), if_pos rfl, if_pos (by omega)]
    · rw [if_pos rfl, if_pos (by omega)]
  · rw [upd_ne t x e]
    refine ⟨?_, ?_, ?_, ?_⟩
    · rw [if_neg (by omega), if_neg (by omega), if_neg (by omega), if_neg (by omega)]; exact h2.1
    · rw [if_neg (by omega), if_neg (by omega), if_neg (by omega), if_neg (by omega)]; exact h2.2.1
    · rw [if_neg (by omega), if_neg (by omega), if_neg (by omega), if_neg (by omega)]; exact h2.2.2.1
    · rw [if_neg (by omega), if_neg (by omega), if_neg (by omega), if_neg (by omega)]; exact h2.2.2.2
theorem RowQ.lt (h : RowQ w b T N t) : b < w.heap.size := by obtain ⟨cs, h, _⟩ := h; exact (Array.getElem?_eq_some_iff.1 h).1
theorem RowQ.cells (h : RowQ w b T N t) {i : Nat} (hi : i < N) :
    w.cell? ⟨b, i * 4, none⟩ = some (.int .i64 (t i).l) ∧ w.cell? ⟨b, i * 4 + 1, none⟩ = some (.int .i64 (t i).c) ∧ w.cell? ⟨b, i * 4 + 2, none⟩ = some (.int .i64 (t i).s) ∧ w.cell? ⟨b, i * 4 + 3, none⟩ = some (.int .i64 (t i).m) := by
  obtain ⟨cs, hb, ht⟩ := h
  obtain ⟨h0, h1, h2, h3⟩ := ht.2 i hi
  exact ⟨(cell_of_row w b _ _ _ _ hb).trans h0, (cell_of_row w b _ _ _ _ hb).trans h1, (cell_of_row w b _ _ _ _ hb).trans h2, (cell_of_row w b _ _ _ _ hb).trans h3⟩
theorem RowQ.frozen (h : RowQ w b T N t) (i : Nat) : w.frozen? ⟨b, i, none⟩ = false := by obtain ⟨cs, h, _⟩ := h; exact frozen_of_row w b i _ _ h
theorem RowQ.same (h : RowQ w b T N t) (hb : w'.heap[b]? = w.heap[b]?) : RowQ w' b T N t := by obtain ⟨cs, h, ht⟩ := h; exact ⟨cs, hb.trans h, ht⟩
theorem RowQ.next (h : RowQ w b T N t) (hb : Below w.heap.size w w') : RowQ w' b T N t := h.same (hb.block b h.lt)
theorem RowQ.alloc (h : RowQ w b T N t) (o : Obj) : RowQ (w.alloc o) b T N t := h.next ((Below.refl _ _).alloc (Nat.le_refl _) o)
theorem RowQ.drew (h : RowQ w b T N t) : RowQ w.drew b T N t := h
theorem RowQ.grown {row : Option Nat} (h : RowQ w b T N t) (hg : w.grownBy w' row) (hr : row ≠ some b) : RowQ w' b T N t := h.same (hg.block b h.lt (fun e => hr e.symm))
theorem RowQ.other (h : RowQ w b T N t) {g : Nat} (o : Nat) (v : Value) (hne : b ≠ g) : RowQ (w.setCell ⟨g, o, none⟩ v) b T N t := h.same (heap_setCell_other w ⟨g, o, none⟩ b v hne)
/-- Four stores. -/
def set4 (w : World) (b i : Nat) (x : Cel) : World := (((w.setCell ⟨b, i * 4, none⟩ (.int .i64 x.l)).setCell ⟨b, i * 4 + 1, none⟩ (.int .i64 x.c)).setCell ⟨b, i * 4 + 2, none⟩ (.int .i64 x.s)).setCell ⟨b, i * 4 + 3, none⟩ (.int .i64 x.m)
theorem RowQ.put (h : RowQ w b T N t) {i : Nat} (hi : i < N) (x : Cel) : RowQ (set4 w b i x) b T N (upd t i x) := by
  obtain ⟨cs, hb, ht⟩ := h
  refine ⟨_, ?_, ht.put hi x⟩
  unfold set4
  exact heap_setCell_same _ b _ _ _ _ (heap_setCell_same _ b _ _ _ _ (heap_setCell_same _ b _ _ _ _ (heap_setCell_same _ b _ _ _ _ hb)))
theorem set4_grown (w : World) (b i : Nat) (x : Cel) : w.grownBy (set4 w b i x) (some b) := by
  unfold set4
  have g : ∀ (w : World) (o : Nat) (v : Value), w.grownBy (w.setCell ⟨b, o, none⟩ v) (some b) := fun w o v =>
    ⟨rfl, rfl, rfl, by simp [World.setCell], fun k _ hk => Below.heap_setCell _ _ _ _ (fun e => hk (by simp [e]))⟩
  exact grown_trans (grown_trans (grown_trans (g _ _ _) (g _ _ _)) (g _ _ _)) (g _ _ _)
end
/-- All zeros. -/
theorem tabQ_zero (N : Nat) : TabQ (Array.replicate (N * 4) (.int .i64 0)) N (fun _ => zc) := by
  refine ⟨by simp, fun i hi => ?_⟩
  refine ⟨?_, ?_, ?_, ?_⟩ <;>
  · rw [Array.getElem?_replicate, if_pos (by omega)]; rfl
theorem RowQ.new (w : World) (T : TypeId) {N : Nat} {cs : Array Value} (h : TabQ cs N (fun _ => zc)) : RowQ (w.alloc (.cells cs T)) w.heap.size T N (fun _ => zc) := ⟨cs, heap_alloc_new w _, h⟩

theorem elemQ : (Try.prog.info? 139).map (fun i => (i.zero, i.size, i.bytes)) = some (some (.agg #[.int .i64 0, .int .i64 0, .int .i64 0, .int .i64 0]), 4, 32) := by kernel_rfl
/-- make([]l10Cell, n). -/
theorem make_cells (n : Nat) (hn : n ≤ 1000) : ∃ cs, TabQ cs n (fun _ => zc) ∧ ∀ w, (Instr.makeSlice 140 (.int .i64 n) (.int .i64 n)).run Try.prog w = .ok (.slice (some ⟨w.heap.size, 0, none⟩) n n) (w.alloc (.cells cs 139)) := by
  obtain ⟨ti, hi, hz0, hz1, hz2⟩ := info_parts elemQ
  refine ⟨Array.replicate (n * 4) (.int .i64 0), tabQ_zero n, fun w => ?_⟩
  have h := run_make (P := Try.prog) w 140 139 ti _ Try.underlying140 hi hz0 .i64 .i64 (n : Int) (n : Int) (by omega) (by omega) (by rw [hz2]; omega) (by omega)
  have hm : madeCells (Value.cells (.agg #[.int .i64 0, .int .i64 0, .int .i64 0, .int .i64 0])) (n * 4) = Array.replicate (n * 4) (.int .i64 0) := by
    apply Array.ext
    · simp [madeCells]
    · intro j h1 h2
      have h5 : j % 4 < 4 := Nat.mod_lt _ (by decide)
      rcases (show j % 4 = 0 ∨ j % 4 = 1 ∨ j % 4 = 2 ∨ j % 4 = 3 by omega) with e | e | e | e <;> simp [madeCells, Value.cells, e]
  rw [hz1] at h
  rw [show (((n : Nat) : Int).toNat * 4) = n * 4 by simp, hm] at h
  simpa using h
/-- The program's table. -/
theorem zero_table : ∃ Z : Array Value, TabQ Z 401 (fun _ => zc) ∧ ∀ w, (zeroValue 148).run Try.prog w = .ok (.agg Z) w := by
  have h : (Try.prog.info? 148).map (fun i => (i.zero, i.size)) = some (some (.agg (Array.replicate 1604 (.int .i64 0))), 1604) := by kernel_rfl
  obtain ⟨h1, h2⟩ := zero_of_info h
  exact ⟨_, tabQ_zero 401, h1⟩
theorem size_table : (Try.prog.info? 148).map (·.size) = some 1604 := by kernel_rfl
end Go.Proofs.Ythbmfaogjaahoaa
