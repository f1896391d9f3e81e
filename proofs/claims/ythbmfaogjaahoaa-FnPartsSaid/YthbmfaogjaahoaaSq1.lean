/-
  Words for slices of segments: one that reads as numbers and texts, one that a call owns.
  No condition: these are plain definitions and lemmas.
-/
import Derived.Test.YthbmfaogjaahoaaProg
import Derived.Test.YthbmfaogjaahoaaSgMath
import Derived.Test.YthbmfaogjaahoaaBox
namespace Go.Proofs.Ythbmfaogjaahoaa
open Go.RowKit
set_option linter.unusedSimpArgs false
set_option linter.unusedVariables false

/-- The slice with address A and length n reads as the segments (M j, T j); where it is not empty it lies in a block below B. -/
def Segs (w : World) (B : Nat) (A : Option Addr) (n : Nat) (M : Nat → Int) (T : Nat → ByteArray) : Prop :=
  0 < n → ∃ b off, A = some ⟨b, off, none⟩ ∧ b < B ∧ ∀ j : Nat, j < n → w.cell? ⟨b, off + j * 2, none⟩ = some (.int .i64 (M j)) ∧ w.cell? ⟨b, off + j * 2 + 1, none⟩ = some (.string (T j))
section
variable {w w' : World} {B B' n : Nat} {A : Option Addr} {M : Nat → Int} {T : Nat → ByteArray}
theorem Segs.keep (h : Segs w B A n M T) (hk : ∀ b o, b < B → w'.cell? ⟨b, o, none⟩ = w.cell? ⟨b, o, none⟩) : Segs w' B A n M T := fun hn => by
  obtain ⟨b, off, e, hb, hc⟩ := h hn
  exact ⟨b, off, e, hb, fun j hj => ⟨(hk _ _ hb).trans (hc j hj).1, (hk _ _ hb).trans (hc j hj).2⟩⟩
theorem Segs.more (h : Segs w B A n M T) (hB : B ≤ B') : Segs w B' A n M T := fun hn => by
  obtain ⟨b, off, e, hb, hc⟩ := h hn
  exact ⟨b, off, e, by omega, hc⟩
theorem Segs.below (h : Segs w B A n M T) (hb : Below B w w') : Segs w' B A n M T := h.keep fun _ _ hp => hb.cell (p := ⟨_, _, none⟩) hp
theorem Segs.drew (h : Segs w B A n M T) : Segs w.drew B A n M T := h
end

/-- The cells of a slice of segments, one behind the other. -/
def segV (M : Nat → Int) (T : Nat → ByteArray) (i : Nat) : Value := if i % 2 = 0 then .int .i64 (M (i / 2)) else .string (T (i / 2))
theorem segV_at (M : Nat → Int) (T : Nat → ByteArray) (j : Nat) : segV M T (j * 2) = .int .i64 (M j) ∧ segV M T (j * 2 + 1) = .string (T j) := by
  refine ⟨?_, ?_⟩
  · unfold segV; rw [if_pos (by omega), show j * 2 / 2 = j by omega]
  · unfold segV; rw [if_neg (by omega), show (j * 2 + 1) / 2 = j by omega]

/-- A slice of n segments whose cells are f 0, f 1, ..: it is owned. -/
def OwnS (w : World) (base : Nat) (v : Value) (n : Nat) (f : Nat → Value) : Prop := w.ownsRow base 107 2 v n ((List.range (n * 2)).map f)
section
variable {w w' : World} {base n : Nat} {v : Value} {f : Nat → Value}
theorem OwnS.below (h : OwnS w base v n f) {B : Nat} (hb : Below B w w') (hB : w.heap.size ≤ B) : OwnS w' base v n f := by
  refine World.ownsRow.kept h (row := none) ⟨hb.os, hb.tape, hb.output, hb.size, fun i hi _ => hb.block i (by omega)⟩ ?_
  rcases v.ownBlock with _ | g <;> simp
theorem OwnS.next (h : OwnS w base v n f) (hb : Below w.heap.size w w') : OwnS w' base v n f := h.below hb (Nat.le_refl _)
theorem OwnS.drew (h : OwnS w base v n f) : OwnS w.drew base v n f := h
theorem OwnS.grown {row : Option Nat} (h : OwnS w base v n f) (hg : w.grownBy w' row) (hne : v.ownBlock = none ∨ v.ownBlock ≠ row) : OwnS w' base v n f := World.ownsRow.kept h hg hne
theorem OwnS.low {base' : Nat} (h : OwnS w base v n f) (hb : base' ≤ base) : OwnS w base' v n f := by
  refine ⟨h.1, ?_⟩
  rcases h.2 with h0 | ⟨g, cap, cur, h1, h2, h3⟩
  · exact .inl h0
  · exact .inr ⟨g, cap, cur, h1, Nat.le_trans hb h2, h3⟩
theorem OwnS.nil (w : World) (base : Nat) (f : Nat → Value) : OwnS w base (.slice none 0 0) 0 f := World.ownsRow_nil _ _ _ _
theorem OwnS.form (h : OwnS w base v n f) (hn : 0 < n) : ∃ g c, v = .slice (some ⟨g, 0, none⟩) n c ∧ base ≤ g ∧ g < w.heap.size ∧ n ≤ c := by
  rcases h.2 with ⟨_, h0⟩ | ⟨g, cap, cur, hv, hb, hg, hnc, _⟩
  · omega
  · exact ⟨g, cap, hv, hb, (Array.getElem?_eq_some_iff.1 hg).1, hnc⟩
theorem OwnS.form0 (h : OwnS w base v n f) : ∃ A c, v = .slice A n c ∧ n ≤ c ∧ c ≤ 9223372036854775807 := by
  rcases h.2 with ⟨rfl, rfl⟩ | ⟨g, cap, cur, hv, hb, hg, hnc, hm, _⟩
  · exact ⟨none, 0, rfl, Nat.le_refl _, by omega⟩
  · exact ⟨_, cap, hv, hnc, by unfold maxLen at hm; omega⟩
theorem OwnS.cell {g c i : Nat} (h : OwnS w base (.slice (some ⟨g, 0, none⟩) n c) n f) (hi : i < n * 2) : w.cell? ⟨g, i, none⟩ = some (f i) := by
  rw [World.ownsRow.cellAt h i hi, List.getElem?_map, List.getElem?_range hi]; rfl
theorem OwnS.frozen {g c : Nat} (h : OwnS w base (.slice (some ⟨g, 0, none⟩) n c) n f) (i : Nat) : w.frozen? ⟨g, i, none⟩ = false := World.ownsRow.frozenAt h i
theorem OwnS.congr {f' : Nat → Value} (h : OwnS w base v n f) (he : ∀ i, i < n * 2 → f' i = f i) : OwnS w base v n f' := by
  unfold OwnS
  rw [show ((List.range (n * 2)).map f') = ((List.range (n * 2)).map f) from List.map_congr_left fun i hi => he i (List.mem_range.1 hi)]
  exact h
theorem OwnS.put {g c : Nat} (h : OwnS w base (.slice (some ⟨g, 0, none⟩) n c) n f) (i : Nat) (x : Value) :
    OwnS (w.setCell ⟨g, i, none⟩ x) base (.slice (some ⟨g, 0, none⟩) n c) n (fun j => if j = i then x else f j) ∧ w.grownBy (w.setCell ⟨g, i, none⟩ x) (some g) := by
  obtain ⟨h1, h2⟩ := World.ownsRow.stored h i x
  refine ⟨?_, h2⟩
  unfold OwnS
  rw [show ((List.range (n * 2)).map fun j => if j = i then x else f j) = ((List.range (n * 2)).map f).set i x from ?_]
  · exact h1
  · apply List.ext_getElem?
    intro j
    by_cases hj : j < n * 2
    · by_cases hji : j = i
      · subst hji
        rw [List.getElem?_set_self (by simpa using hj), List.getElem?_map, List.getElem?_range hj]
        simp
      · rw [List.getElem?_set_ne (Ne.symm hji), List.getElem?_map, List.getElem?_map, List.getElem?_range hj]
        simp [hji]
    · rw [List.getElem?_eq_none (by simp; omega), List.getElem?_eq_none (by simp; omega)]
theorem OwnS.put2 {g c i : Nat} (h : OwnS w base (.slice (some ⟨g, 0, none⟩) n c) n f) (x0 x1 : Value) :
    OwnS ((w.setCell ⟨g, i, none⟩ x0).setCell ⟨g, i + 1, none⟩ x1) base (.slice (some ⟨g, 0, none⟩) n c) n (fun j => if j = i + 1 then x1 else if j = i then x0 else f j) ∧
    w.grownBy ((w.setCell ⟨g, i, none⟩ x0).setCell ⟨g, i + 1, none⟩ x1) (some g) := by
  obtain ⟨a0, b0⟩ := h.put i x0
  obtain ⟨a1, b1⟩ := a0.put (i + 1) x1
  exact ⟨a1, grown_trans b0 b1⟩
theorem OwnS.segs {A : Option Addr} {c : Nat} {M : Nat → Int} {T : Nat → ByteArray} (h : OwnS w base (.slice A n c) n (segV M T)) : Segs w w.heap.size A n M T := fun hn => by
  obtain ⟨g, c', e, _, hg, _⟩ := h.form hn
  simp only [Value.slice.injEq] at e
  obtain ⟨rfl, _, rfl⟩ := e
  refine ⟨g, 0, rfl, hg, fun j hj => ?_⟩
  rw [Nat.zero_add, h.cell (i := j * 2) (by omega), h.cell (i := j * 2 + 1) (by omega), (segV_at M T j).1, (segV_at M T j).2]
  exact ⟨rfl, rfl⟩
end
/-- The cells, as far as they have been laid. -/
def segZ (i : Nat) : Value := if i % 2 = 0 then .int .i64 0 else .string ByteArray.empty
def segT (M : Nat → Int) (T : Nat → ByteArray) (k i : Nat) : Value := if i < k * 2 then segV M T i else segZ i
theorem segT_step (M : Nat → Int) (T : Nat → ByteArray) (k : Nat) : (fun j => if j = k * 2 + 1 then .string (T k) else if j = k * 2 then .int .i64 (M k) else segT M T k j) = segT M T (k + 1) := by
  obtain ⟨h0, h1⟩ := segV_at M T k
  funext j
  unfold segT
  split
  · subst j; rw [if_pos (by omega), h1]
  · split
    · subst j; rw [if_pos (by omega), h0]
    · by_cases hj : j < k * 2
      · rw [if_pos hj, if_pos (by omega)]
      · rw [if_neg hj, if_neg (by omega)]
theorem elemS : (Try.prog.info? 107).map (fun i => (i.zero, i.size, i.bytes)) = some (some (.agg #[.int .i64 0, .string ByteArray.empty]), 2, 24) := by kernel_rfl
/-- make([]Segment, n). -/
theorem make_segs (w : World) (base n : Nat) (M : Nat → Int) (T : Nat → ByteArray) (hn : n ≤ 1048576) (hb : base ≤ w.heap.size) :
    ∃ w1, (Instr.makeSlice 69 (.int .i64 n) (.int .i64 n)).run Try.prog w = .ok (.slice (some ⟨w.heap.size, 0, none⟩) n n) w1 ∧ OwnS w1 base (.slice (some ⟨w.heap.size, 0, none⟩) n n) n (segT M T 0) ∧ Below w.heap.size w w1 := by
  obtain ⟨ti, hi, hz0, hz1, hz2⟩ := info_parts elemS
  obtain ⟨w1, hrun, ho, hg⟩ := run_make_full (P := Try.prog) w base 69 107 ti _ 2 Try.underlying69 hi hz0 hz1 .i64 .i64 n (by rw [hz2]; omega) (by simp only [maxLen]; omega) (by omega)
  refine ⟨w1, hrun, ?_, (Below.refl w.heap.size w).grown hg (Nat.le_refl _) (by simp)⟩
  unfold OwnS
  rw [show ((List.range (n * 2)).map (segT M T 0)) = (madeCells (Value.cells (.agg #[.int .i64 0, .string ByteArray.empty])) (n * 2)).toList from ?_]
  · exact ho
  · apply List.ext_getElem?
    intro j
    by_cases hj : j < n * 2
    · have h5 : j % 2 < 2 := Nat.mod_lt _ (by decide)
      have hc0 : segT M T 0 j = segZ j := by unfold segT; rw [if_neg (by omega)]
      rcases (show j % 2 = 0 ∨ j % 2 = 1 by omega) with h | h
      · simp [madeCells, hj, Value.cells, hc0, segZ, h]
      · simp [madeCells, hj, Value.cells, hc0, segZ, h]
    · simp [madeCells, hj]
end Go.Proofs.Ythbmfaogjaahoaa
