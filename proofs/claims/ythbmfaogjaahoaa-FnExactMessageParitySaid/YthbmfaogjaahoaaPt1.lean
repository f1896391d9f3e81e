/-
  Words for slices of parts: one that reads as numbers and texts, one that a call owns.
  No condition: these are plain definitions and lemmas.
-/
import Derived.Test.YthbmfaogjaahoaaProg
import Derived.Test.YthbmfaogjaahoaaSgMath
import Derived.Test.YthbmfaogjaahoaaBox
namespace Go.Proofs.Ythbmfaogjaahoaa
open Go.RowKit
set_option linter.unusedSimpArgs false
set_option linter.unusedVariables false

/-- A part: its three numbers and its text. -/
structure PtV where
  i : Int
  c : Int
  p : Int
  t : ByteArray
def PtV.val (x : PtV) : Value := .agg #[.int .i64 x.i, .int .i64 x.c, .int .i64 x.p, .string x.t]
def PtV.wf (x : PtV) : Prop := ((Lit.int .i64 x.i).wf = true ∧ (Lit.int .i64 x.c).wf = true ∧ (Lit.int .i64 x.p).wf = true) ∧ x.t.size ≤ maxLen
def PtV.zero : PtV := ⟨0, 0, 0, ByteArray.empty⟩

/-- Four cells from an offset on read as a part. -/
def PtAt (w : World) (b off : Nat) (x : PtV) : Prop :=
  w.cell? ⟨b, off, none⟩ = some (.int .i64 x.i) ∧ w.cell? ⟨b, off + 1, none⟩ = some (.int .i64 x.c) ∧ w.cell? ⟨b, off + 2, none⟩ = some (.int .i64 x.p) ∧ w.cell? ⟨b, off + 3, none⟩ = some (.string x.t)
theorem PtAt.keep {w w' : World} {b off : Nat} {x : PtV} (h : PtAt w b off x) (hk : ∀ o, w'.cell? ⟨b, o, none⟩ = w.cell? ⟨b, o, none⟩) : PtAt w' b off x :=
  ⟨(hk _).trans h.1, (hk _).trans h.2.1, (hk _).trans h.2.2.1, (hk _).trans h.2.2.2⟩
theorem PtAt.below {w w' : World} {b off B : Nat} {x : PtV} (h : PtAt w b off x) (hb : Below B w w') (hB : b < B) : PtAt w' b off x := h.keep fun o => hb.cell (p := ⟨b, o, none⟩) hB

/-- The slice with address A and length n reads as the parts X j; where it is not empty it lies in a block below B. -/
def Pts (w : World) (B : Nat) (A : Option Addr) (n : Nat) (X : Nat → PtV) : Prop :=
  0 < n → ∃ b off, A = some ⟨b, off, none⟩ ∧ b < B ∧ ∀ j : Nat, j < n → PtAt w b (off + j * 4) (X j)
section
variable {w w' : World} {B B' n : Nat} {A : Option Addr} {X : Nat → PtV}
theorem Pts.keep (h : Pts w B A n X) (hk : ∀ b o, b < B → w'.cell? ⟨b, o, none⟩ = w.cell? ⟨b, o, none⟩) : Pts w' B A n X := fun hn => by
  obtain ⟨b, off, e, hb, hc⟩ := h hn
  exact ⟨b, off, e, hb, fun j hj => (hc j hj).keep fun o => hk b o hb⟩
theorem Pts.more (h : Pts w B A n X) (hB : B ≤ B') : Pts w B' A n X := fun hn => by
  obtain ⟨b, off, e, hb, hc⟩ := h hn
  exact ⟨b, off, e, by omega, hc⟩
theorem Pts.below (h : Pts w B A n X) (hb : Below B w w') : Pts w' B A n X := h.keep fun _ _ hp => hb.cell (p := ⟨_, _, none⟩) hp
theorem Pts.drew (h : Pts w B A n X) : Pts w.drew B A n X := h
end

/-- The cells of a slice of parts, one behind the other. -/
def ptV (X : Nat → PtV) (i : Nat) : Value :=
  if i % 4 = 0 then .int .i64 (X (i / 4)).i else if i % 4 = 1 then .int .i64 (X (i / 4)).c else if i % 4 = 2 then .int .i64 (X (i / 4)).p else .string (X (i / 4)).t
theorem ptV_at (X : Nat → PtV) (j : Nat) : ptV X (j * 4) = .int .i64 (X j).i ∧ ptV X (j * 4 + 1) = .int .i64 (X j).c ∧ ptV X (j * 4 + 2) = .int .i64 (X j).p ∧ ptV X (j * 4 + 3) = .string (X j).t := by
  refine ⟨?_, ?_, ?_, ?_⟩
  · unfold ptV; rw [if_pos (by omega), show j * 4 / 4 = j by omega]
  · unfold ptV; rw [if_neg (by omega), if_pos (by omega), show (j * 4 + 1) / 4 = j by omega]
  · unfold ptV; rw [if_neg (by omega), if_neg (by omega), if_pos (by omega), show (j * 4 + 2) / 4 = j by omega]
  · unfold ptV; rw [if_neg (by omega), if_neg (by omega), if_neg (by omega), show (j * 4 + 3) / 4 = j by omega]

/-- A slice of n parts whose cells are f 0, f 1, ..: it is owned. -/
def OwnPt (w : World) (base : Nat) (v : Value) (n : Nat) (f : Nat → Value) : Prop := w.ownsRow base 26 4 v n ((List.range (n * 4)).map f)
section
variable {w w' : World} {base n : Nat} {v : Value} {f : Nat → Value}
theorem OwnPt.below (h : OwnPt w base v n f) {B : Nat} (hb : Below B w w') (hB : w.heap.size ≤ B) : OwnPt w' base v n f := by
  refine World.ownsRow.kept h (row := none) ⟨hb.os, hb.tape, hb.output, hb.size, fun i hi _ => hb.block i (by omega)⟩ ?_
  rcases v.ownBlock with _ | g <;> simp
theorem OwnPt.next (h : OwnPt w base v n f) (hb : Below w.heap.size w w') : OwnPt w' base v n f := h.below hb (Nat.le_refl _)
theorem OwnPt.drew (h : OwnPt w base v n f) : OwnPt w.drew base v n f := h
theorem OwnPt.grown {row : Option Nat} (h : OwnPt w base v n f) (hg : w.grownBy w' row) (hne : v.ownBlock = none ∨ v.ownBlock ≠ row) : OwnPt w' base v n f := World.ownsRow.kept h hg hne
theorem OwnPt.low {base' : Nat} (h : OwnPt w base v n f) (hb : base' ≤ base) : OwnPt w base' v n f := by
  refine ⟨h.1, ?_⟩
  rcases h.2 with h0 | ⟨g, cap, cur, h1, h2, h3⟩
  · exact .inl h0
  · exact .inr ⟨g, cap, cur, h1, Nat.le_trans hb h2, h3⟩
theorem OwnPt.nil (w : World) (base : Nat) (f : Nat → Value) : OwnPt w base (.slice none 0 0) 0 f := World.ownsRow_nil _ _ _ _
theorem OwnPt.form (h : OwnPt w base v n f) (hn : 0 < n) : ∃ g c, v = .slice (some ⟨g, 0, none⟩) n c ∧ base ≤ g ∧ g < w.heap.size ∧ n ≤ c := by
  rcases h.2 with ⟨_, h0⟩ | ⟨g, cap, cur, hv, hb, hg, hnc, _⟩
  · omega
  · exact ⟨g, cap, hv, hb, (Array.getElem?_eq_some_iff.1 hg).1, hnc⟩
theorem OwnPt.form0 (h : OwnPt w base v n f) : ∃ A c, v = .slice A n c ∧ n ≤ c ∧ c ≤ 9223372036854775807 := by
  rcases h.2 with ⟨rfl, rfl⟩ | ⟨g, cap, cur, hv, hb, hg, hnc, hm, _⟩
  · exact ⟨none, 0, rfl, Nat.le_refl _, by omega⟩
  · exact ⟨_, cap, hv, hnc, by unfold maxLen at hm; omega⟩
theorem OwnPt.cell {g c i : Nat} (h : OwnPt w base (.slice (some ⟨g, 0, none⟩) n c) n f) (hi : i < n * 4) : w.cell? ⟨g, i, none⟩ = some (f i) := by
  rw [World.ownsRow.cellAt h i hi, List.getElem?_map, List.getElem?_range hi]; rfl
theorem OwnPt.frozen {g c : Nat} (h : OwnPt w base (.slice (some ⟨g, 0, none⟩) n c) n f) (i : Nat) : w.frozen? ⟨g, i, none⟩ = false := World.ownsRow.frozenAt h i
theorem OwnPt.congr {f' : Nat → Value} (h : OwnPt w base v n f) (he : ∀ i, i < n * 4 → f' i = f i) : OwnPt w base v n f' := by
  unfold OwnPt
  rw [show ((List.range (n * 4)).map f') = ((List.range (n * 4)).map f) from List.map_congr_left fun i hi => he i (List.mem_range.1 hi)]
  exact h
theorem OwnPt.put {g c : Nat} (h : OwnPt w base (.slice (some ⟨g, 0, none⟩) n c) n f) (i : Nat) (x : Value) :
    OwnPt (w.setCell ⟨g, i, none⟩ x) base (.slice (some ⟨g, 0, none⟩) n c) n (fun j => if j = i then x else f j) ∧ w.grownBy (w.setCell ⟨g, i, none⟩ x) (some g) := by
  obtain ⟨h1, h2⟩ := World.ownsRow.stored h i x
  refine ⟨?_, h2⟩
  unfold OwnPt
  rw [show ((List.range (n * 4)).map fun j => if j = i then x else f j) = ((List.range (n * 4)).map f).set i x from ?_]
  · exact h1
  · apply List.ext_getElem?
    intro j
    by_cases hj : j < n * 4
    · by_cases hji : j = i
      · subst hji
        rw [List.getElem?_set_self (by simpa using hj), List.getElem?_map, List.getElem?_range hj]
        simp
      · rw [List.getElem?_set_ne (Ne.symm hji), List.getElem?_map, List.getElem?_map, List.getElem?_range hj]
        simp [hji]
    · rw [List.getElem?_eq_none (by simp; omega), List.getElem?_eq_none (by simp; omega)]
/-- The four cells of a part laid one behind the other. -/
def setPt (w : World) (g o : Nat) (x : PtV) : World :=
  (((w.setCell ⟨g, o, none⟩ (.int .i64 x.i)).setCell ⟨g, o + 1, none⟩ (.int .i64 x.c)).setCell ⟨g, o + 2, none⟩ (.int .i64 x.p)).setCell ⟨g, o + 3, none⟩ (.string x.t)
theorem OwnPt.put4 {g c i : Nat} (h : OwnPt w base (.slice (some ⟨g, 0, none⟩) n c) n f) (x : PtV) :
    OwnPt (setPt w g i x) base (.slice (some ⟨g, 0, none⟩) n c) n (fun j => if j = i + 3 then .string x.t else if j = i + 2 then .int .i64 x.p else if j = i + 1 then .int .i64 x.c else if j = i then .int .i64 x.i else f j) ∧
    w.grownBy (setPt w g i x) (some g) := by
  obtain ⟨a0, b0⟩ := h.put i (.int .i64 x.i)
  obtain ⟨a1, b1⟩ := a0.put (i + 1) (.int .i64 x.c)
  obtain ⟨a2, b2⟩ := a1.put (i + 2) (.int .i64 x.p)
  obtain ⟨a3, b3⟩ := a2.put (i + 3) (.string x.t)
  exact ⟨a3, grown_trans (grown_trans (grown_trans b0 b1) b2) b3⟩
theorem OwnPt.at_ {g c j : Nat} {X : Nat → PtV} (h : OwnPt w base (.slice (some ⟨g, 0, none⟩) n c) n (ptV X)) (hj : j < n) : PtAt w g (j * 4) (X j) := by
  obtain ⟨e0, e1, e2, e3⟩ := ptV_at X j
  exact ⟨by rw [h.cell (by omega), e0], by rw [h.cell (by omega), e1], by rw [h.cell (by omega), e2], by rw [h.cell (by omega), e3]⟩
theorem OwnPt.pts {A : Option Addr} {c : Nat} {X : Nat → PtV} (h : OwnPt w base (.slice A n c) n (ptV X)) : Pts w w.heap.size A n X := fun hn => by
  obtain ⟨g, c', e, _, hg, _⟩ := h.form hn
  simp only [Value.slice.injEq] at e
  obtain ⟨rfl, _, rfl⟩ := e
  refine ⟨g, 0, rfl, hg, fun j hj => ?_⟩
  rw [Nat.zero_add]
  exact h.at_ hj
end
/-- The cells, as far as they have been laid. -/
def ptT (X : Nat → PtV) (k i : Nat) : Value := if i < k * 4 then ptV X i else ptV (fun _ => PtV.zero) i
theorem ptT_step (X : Nat → PtV) (k : Nat) : (fun j => if j = k * 4 + 3 then .string (X k).t else if j = k * 4 + 2 then .int .i64 (X k).p else if j = k * 4 + 1 then .int .i64 (X k).c else if j = k * 4 then .int .i64 (X k).i else ptT X k j) = ptT X (k + 1) := by
  obtain ⟨h0, h1, h2, h3⟩ := ptV_at X k
  funext j
  unfold ptT
  split
  · subst j; rw [if_pos (by omega), h3]
  · split
    · subst j; rw [if_pos (by omega), h2]
    · split
      · subst j; rw [if_pos (by omega), h1]
      · split
        · subst j; rw [if_pos (by omega), h0]
        · by_cases hj : j < k * 4
          · rw [if_pos hj, if_pos (by omega)]
          · rw [if_neg hj, if_neg (by omega)]
theorem elemPt : (Try.prog.info? 26).map (fun i => (i.zero, i.size, i.bytes)) = some (some (.agg #[.int .i64 0, .int .i64 0, .int .i64 0, .string ByteArray.empty]), 4, 40) := by kernel_rfl
/-- make([]Part, n). -/
theorem make_pts (w : World) (base n : Nat) (X : Nat → PtV) (hn : n ≤ 1048576) (hb : base ≤ w.heap.size) :
    ∃ w1, (Instr.makeSlice 42 (.int .i64 n) (.int .i64 n)).run Try.prog w = .ok (.slice (some ⟨w.heap.size, 0, none⟩) n n) w1 ∧ OwnPt w1 base (.slice (some ⟨w.heap.size, 0, none⟩) n n) n (ptT X 0) ∧ Below w.heap.size w w1 := by
  obtain ⟨ti, hi, hz0, hz1, hz2⟩ := info_parts elemPt
  obtain ⟨w1, hrun, ho, hg⟩ := run_make_full (P := Try.prog) w base 42 26 ti _ 4 Try.underlying42 hi hz0 hz1 .i64 .i64 n (by rw [hz2]; omega) (by simp only [maxLen]; omega) (by omega)
  refine ⟨w1, hrun, ?_, (Below.refl w.heap.size w).grown hg (Nat.le_refl _) (by simp)⟩
  unfold OwnPt
  rw [show ((List.range (n * 4)).map (ptT X 0)) = (madeCells (Value.cells (.agg #[.int .i64 0, .int .i64 0, .int .i64 0, .string ByteArray.empty])) (n * 4)).toList from ?_]
  · exact ho
  · apply List.ext_getElem?
    intro j
    by_cases hj : j < n * 4
    · have h5 : j % 4 < 4 := Nat.mod_lt _ (by decide)
      have hc0 : ptT X 0 j = ptV (fun _ => PtV.zero) j := by unfold ptT; rw [if_neg (by omega)]
      rcases (show j % 4 = 0 ∨ j % 4 = 1 ∨ j % 4 = 2 ∨ j % 4 = 3 by omega) with h | h | h | h <;> simp [madeCells, hj, Value.cells, hc0, ptV, PtV.zero, h]
    · simp [madeCells, hj]
/-- A part that a call was given lies in the block behind the others. -/
def Box4 (w wr : World) (t : TypeId) (i c p : Int) (s : ByteArray) : Prop := wr.heap[w.heap.size]? = some (.cells #[.int .i64 i, .int .i64 c, .int .i64 p, .string s] t (0, 0)) ∧ Below w.heap.size w wr
section
variable {w wr wr' : World} {t : TypeId} {i c p : Int} {s : ByteArray}
theorem Box4.start (w : World) (t : TypeId) (i c p : Int) (s : ByteArray) : Box4 w (w.alloc (.cells #[.int .i64 i, .int .i64 c, .int .i64 p, .string s] t)) t i c p s := ⟨heap_alloc_new w _, (Below.refl _ _).alloc (Nat.le_refl _) _⟩
theorem Box4.lt (h : Box4 w wr t i c p s) : w.heap.size < wr.heap.size := (Array.getElem?_eq_some_iff.1 h.1).1
theorem Box4.next (h : Box4 w wr t i c p s) (hb : Below wr.heap.size wr wr') : Box4 w wr' t i c p s :=
  ⟨by rw [hb.block _ h.lt]; exact h.1, h.2.trans (hb.mono (Nat.le_of_lt h.lt))⟩
theorem Box4.alloc (h : Box4 w wr t i c p s) (o : Obj) : Box4 w (wr.alloc o) t i c p s := h.next ((Below.refl _ _).alloc (Nat.le_refl _) o)
theorem Box4.drew (h : Box4 w wr t i c p s) : Box4 w wr.drew t i c p s := ⟨h.1, h.2.drew⟩
theorem Box4.cells (h : Box4 w wr t i c p s) : wr.cell? ⟨w.heap.size, 0, none⟩ = some (.int .i64 i) ∧ wr.cell? ⟨w.heap.size, 1, none⟩ = some (.int .i64 c) ∧ wr.cell? ⟨w.heap.size, 2, none⟩ = some (.int .i64 p) ∧ wr.cell? ⟨w.heap.size, 3, none⟩ = some (.string s) := by
  refine ⟨?_, ?_, ?_, ?_⟩ <;> simp [World.cell?, h.1]
theorem Box4.grow' {row : Option Nat} (h : Box4 w wr t i c p s) (hg : wr.grownBy wr' row) (hr : ∀ b, row = some b → w.heap.size < b) : Box4 w wr' t i c p s :=
  ⟨by rw [hg.block _ h.lt (by intro e; have := hr _ e.symm; omega)]; exact h.1, h.2.grown hg (Nat.le_of_lt h.lt) (fun r hr' => by have := hr r hr'; omega)⟩
end
end Go.Proofs.Ythbmfaogjaahoaa
