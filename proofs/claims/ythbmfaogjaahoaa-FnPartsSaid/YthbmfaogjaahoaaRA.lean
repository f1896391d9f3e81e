/-
  Words for slices of parts: one that reads as numbers and texts, one that a call owns.
  Whether a part is valid, and the parity of a string: of the model and of the program.
  Condition: as each statement says.
-/
import Derived.Test.YthbmfaogjaahoaaProg
import Derived.Test.YthbmfaogjaahoaaSgMath
import Derived.Test.YthbmfaogjaahoaaBox
import Derived.Test.YthbmfaogjaahoaaAppend
import Derived.Test.YthbmfaogjaahoaaSpecIn
import Derived.Test.YthbmfaogjaahoaaPG
namespace Go.Proofs.Ythbmfaogjaahoaa
open Go.RowKit
set_option linter.unusedSimpArgs false
set_option linter.unusedVariables false

/-- A part: its three numbers and its text. -/
structure PtV where
  i : Int
  c : Int
  p : Int
  t : ByteArray
def PtV.val (x : PtV) : Value := .agg #[.int .i64 x.i, .int .i64 x.c, .int .i64 x.p, .string x.t]
def PtV.wf (x : PtV) : Prop := ((Lit.int .i64 x.i).wf = true ∧ (Lit.int .i64 x.c).wf = true ∧ (Lit.int .i64 x.p).wf = true) ∧ x.t.size ≤ maxLen
def PtV.zero : PtV := ⟨0, 0, 0, ByteArray.empty⟩

/-- Four cells from an offset on read as a part. -/
def PtAt (w : World) (b off : Nat) (x : PtV) : Prop :=
  w.cell? ⟨b, off, none⟩ = some (.int .i64 x.i) ∧ w.cell? ⟨b, off + 1, none⟩ = some (.int .i64 x.c) ∧ w.cell? ⟨b, off + 2, none⟩ = some (.int .i64 x.p) ∧ w.cell? ⟨b, off + 3, none⟩ = some (.string x.t)
theorem PtAt.keep {w w' : World} {b off : Nat} {x : PtV} (h : PtAt w b off x) (hk : ∀ o, w'.cell? ⟨b, o, none⟩ = w.cell? ⟨b, o, none⟩) : PtAt w' b off x :=
  ⟨(hk _).trans h.1, (hk _).trans h.2.1, (hk _).trans h.2.2.1, (hk _).trans h.2.2.2⟩
theorem PtAt.below {w w' : World} {b off B : Nat} {x : PtV} (h : PtAt w b off x) (hb : Below B w w') (hB : b < B) : PtAt w' b off x := h.keep fun o => hb.cell (p := ⟨b, o, none⟩) hB

/-- The slice with address A and length n reads as the parts X j; where it is not empty it lies in a block below B. -/
def Pts (w : World) (B : Nat) (A : Option Addr) (n : Nat) (X : Nat → PtV) : Prop :=
  0 < n → ∃ b off, A = some ⟨b, off, none⟩ ∧ b < B ∧ ∀ j : Nat, j < n → PtAt w b (off + j * 4) (X j)
section
variable {w w' : World} {B B' n : Nat} {A : Option Addr} {X : Nat → PtV}
theorem Pts.keep (h : Pts w B A n X) (hk : ∀ b o, b < B → w'.cell? ⟨b, o, none⟩ = w.cell? ⟨b, o, none⟩) : Pts w' B A n X := fun hn => by
  obtain ⟨b, off, e, hb, hc⟩ := h hn
  exact ⟨b, off, e, hb, fun j hj => (hc j hj).keep fun o => hk b o hb⟩
theorem Pts.more (h : Pts w B A n X) (hB : B ≤ B') : Pts w B' A n X := fun hn => by
  obtain ⟨b, off, e, hb, hc⟩ := h hn
  exact ⟨b, off, e, by omega, hc⟩
theorem Pts.below (h : Pts w B A n X) (hb : Below B w w') : Pts w' B A n X := h.keep fun _ _ hp => hb.cell (p := ⟨_, _, none⟩) hp
theorem Pts.drew (h : Pts w B A n X) : Pts w.drew B A n X := h
end

/-- The cells of a slice of parts, one behind the other. -/
def ptV (X : Nat → PtV) (i : Nat) : Value :=
  if i % 4 = 0 then .int .i64 (X (i / 4)).i else if i % 4 = 1 then .int .i64 (X (i / 4)).c else if i % 4 = 2 then .int .i64 (X (i / 4)).p else .string (X (i / 4)).t
theorem ptV_at (X : Nat → PtV) (j : Nat) : ptV X (j * 4) = .int .i64 (X j).i ∧ ptV X (j * 4 + 1) = .int .i64 (X j).c ∧ ptV X (j * 4 + 2) = .int .i64 (X j).p ∧ ptV X (j * 4 + 3) = .string (X j).t := by
  refine ⟨?_, ?_, ?_, ?_⟩
  · unfold ptV; rw [if_pos (by omega), show j * 4 / 4 = j by omega]
  · unfold ptV; rw [if_neg (by omega), if_pos (by omega), show (j * 4 + 1) / 4 = j by omega]
  · unfold ptV; rw [if_neg (by omega), if_neg (by omega), if_pos (by omega), show (j * 4 + 2) / 4 = j by omega]
  · unfold ptV; rw [if_neg (by omega), if_neg (by omega), if_neg (by omega), show (j * 4 + 3) / 4 = j by omega]

/-- A slice of n parts whose cells are f 0, f 1, ..: it is owned. -/
def OwnPt (w : World) (base : Nat) (v : Value) (n : Nat) (f : Nat → Value) : Prop := w.ownsRow base 26 4 v n ((List.range (n * 4)).map f)
section
variable {w w' : World} {base n : Nat} {v : Value} {f : Nat → Value}
theorem OwnPt.below (h : OwnPt w base v n f) {B : Nat} (hb : Below B w w') (hB : w.heap.size ≤ B) : OwnPt w' base v n f := by
  refine World.ownsRow.kept h (row := none) ⟨hb.os, hb.tape, hb.output, hb.size, fun i hi _ => hb.block i (by omega)⟩ ?_
  rcases v.ownBlock with _ | g <;> simp
theorem OwnPt.next (h : OwnPt w base v n f) (hb : Below w.heap.size w w') : OwnPt w' base v n f := h.below hb (Nat.le_refl _)
theorem OwnPt.drew (h : OwnPt w base v n f) : OwnPt w.drew base v n f := h
theorem OwnPt.grown {row : Option Nat} (h : OwnPt w base v n f) (hg : w.grownBy w' row) (hne : v.ownBlock = none ∨ v.ownBlock ≠ row) : OwnPt w' base v n f := World.ownsRow.kept h hg hne
theorem OwnPt.low {base' : Nat} (h : OwnPt w base v n f) (hb : base' ≤ base) : OwnPt w base' v n f := by
  refine ⟨h.1, ?_⟩
  rcases h.2 with h0 | ⟨g, cap, cur, h1, h2, h3⟩
  · exact .inl h0
  · exact .inr ⟨g, cap, cur, h1, Nat.le_trans hb h2, h3⟩
theorem OwnPt.nil (w : World) (base : Nat) (f : Nat → Value) : OwnPt w base (.slice none 0 0) 0 f := World.ownsRow_nil _ _ _ _
theorem OwnPt.form (h : OwnPt w base v n f) (hn : 0 < n) : ∃ g c, v = .slice (some ⟨g, 0, none⟩) n c ∧ base ≤ g ∧ g < w.heap.size ∧ n ≤ c := by
  rcases h.2 with ⟨_, h0⟩ | ⟨g, cap, cur, hv, hb, hg, hnc, _⟩
  · omega
  · exact ⟨g, cap, hv, hb, (Array.getElem?_eq_some_iff.1 hg).1, hnc⟩
theorem OwnPt.form0 (h : OwnPt w base v n f) : ∃ A c, v = .slice A n c ∧ n ≤ c ∧ c ≤ 9223372036854775807 := by
  rcases h.2 with ⟨rfl, rfl⟩ | ⟨g, cap, cur, hv, hb, hg, hnc, hm, _⟩
  · exact ⟨none, 0, rfl, Nat.le_refl _, by omega⟩
  · exact ⟨_, cap, hv, hnc, by unfold maxLen at hm; omega⟩
theorem OwnPt.cell {g c i : Nat} (h : OwnPt w base (.slice (some ⟨g, 0, none⟩) n c) n f) (hi : i < n * 4) : w.cell? ⟨g, i, none⟩ = some (f i) := by
  rw [World.ownsRow.cellAt h i hi, List.getElem?_map, List.getElem?_range hi]; rfl
theorem OwnPt.frozen {g c : Nat} (h : OwnPt w base (.slice (some ⟨g, 0, none⟩) n c) n f) (i : Nat) : w.frozen? ⟨g, i, none⟩ = false := World.ownsRow.frozenAt h i
theorem OwnPt.congr {f' : Nat → Value} (h : OwnPt w base v n f) (he : ∀ i, i < n * 4 → f' i = f i) : OwnPt w base v n f' := by
  unfold OwnPt
  rw [show ((List.range (n * 4)).map f') = ((List.range (n * 4)).map f) from List.map_congr_left fun i hi => he i (List.mem_range.1 hi)]
  exact h
theorem OwnPt.put {g c : Nat} (h : OwnPt w base (.slice (some ⟨g, 0, none⟩) n c) n f) (i : Nat) (x : Value) :
    OwnPt (w.setCell ⟨g, i, none⟩ x) base (.slice (some ⟨g, 0, none⟩) n c) n (fun j => if j = i then x else f j) ∧ w.grownBy (w.setCell ⟨g, i, none⟩ x) (some g) := by
  obtain ⟨h1, h2⟩ := World.ownsRow.stored h i x
  refine ⟨?_, h2⟩
  unfold OwnPt
  rw [show ((List.range (n * 4)).map fun j => if j = i then x else f j) = ((List.range (n * 4)).map f).set i x from ?_]
  · exact h1
  · apply List.ext_getElem?
    intro j
    by_cases hj : j < n * 4
    · by_cases hji : j = i
      · subst hji
        rw [List.getElem?_set_self (by simpa using hj), List.getElem?_map, List.getElem?_range hj]
        simp
      · rw [List.getElem?_set_ne (Ne.symm hji), List.getElem?_map, List.getElem?_map, List.getElem?_range hj]
        simp [hji]
    · rw [List.getElem?_eq_none (by simp; omega), List.getElem?_eq_none (by simp; omega)]
/-- The four cells of a part laid one behind the other. -/
def setPt (w : World) (g o : Nat) (x : PtV) : World :=
  (((w.setCell ⟨g, o, none⟩ (.int .i64 x.i)).setCell ⟨g, o + 1, none⟩ (.int .i64 x.c)).setCell ⟨g, o + 2, none⟩ (.int .i64 x.p)).setCell ⟨g, o + 3, none⟩ (.string x.t)
theorem OwnPt.put4 {g c i : Nat} (h : OwnPt w base (.slice (some ⟨g, 0, none⟩) n c) n f) (x : PtV) :
    OwnPt (setPt w g i x) base (.slice (some ⟨g, 0, none⟩) n c) n (fun j => if j = i + 3 then .string x.t else if j = i + 2 then .int .i64 x.p else if j = i + 1 then .int .i64 x.c else if j = i then .int .i64 x.i else f j) ∧
    w.grownBy (setPt w g i x) (some g) := by
  obtain ⟨a0, b0⟩ := h.put i (.int .i64 x.i)
  obtain ⟨a1, b1⟩ := a0.put (i + 1) (.int .i64 x.c)
  obtain ⟨a2, b2⟩ := a1.put (i + 2) (.int .i64 x.p)
  obtain ⟨a3, b3⟩ := a2.put (i + 3) (.string x.t)
  exact ⟨a3, grown_trans (grown_trans (grown_trans b0 b1) b2) b3⟩
theorem OwnPt.at_ {g c j : Nat} {X : Nat → PtV} (h : OwnPt w base (.slice (some ⟨g, 0, none⟩) n c) n (ptV X)) (hj : j < n) : PtAt w g (j * 4) (X j) := by
  obtain ⟨e0, e1, e2, e3⟩ := ptV_at X j
  exact ⟨by rw [h.cell (by omega), e0], by rw [h.cell (by omega), e1], by rw [h.cell (by omega), e2], by rw [h.cell (by omega), e3]⟩
theorem OwnPt.pts {A : Option Addr} {c : Nat} {X : Nat → PtV} (h : OwnPt w base (.slice A n c) n (ptV X)) : Pts w w.heap.size A n X := fun hn => by
  obtain ⟨g, c', e, _, hg, _⟩ := h.form hn
  simp only [Value.slice.injEq] at e
  obtain ⟨rfl, _, rfl⟩ := e
  refine ⟨g, 0, rfl, hg, fun j hj => ?_⟩
  rw [Nat.zero_add]
  exact h.at_ hj
end
/-- The cells, as far as they have been laid. -/
def ptT (X : Nat → PtV) (k i : Nat) : Value := if i < k * 4 then ptV X i else ptV (fun _ => PtV.zero) i
theorem ptT_step (X : Nat → PtV) (k : Nat) : (fun j => if j = k * 4 + 3 then .string (X k).t else if j = k * 4 + 2 then .int .i64 (X k).p else if j = k * 4 + 1 then .int .i64 (X k).c else if j = k * 4 then .int .i64 (X k).i else ptT X k j) = ptT X (k + 1) := by
  obtain ⟨h0, h1, h2, h3⟩ := ptV_at X k
  funext j
  unfold ptT
  split
  · subst j; rw [if_pos (by omega), h3]
  · split
    · subst j; rw [if_pos (by omega), h2]
    · split
      · subst j; rw [if_pos (by omega), h1]
      · split
        · subst j; rw [if_pos (by omega), h0]
        · by_cases hj : j < k * 4
          · rw [if_pos hj, if_pos (by omega)]
          · rw [if_neg hj, if_neg (by omega)]
theorem elemPt : (Try.prog.info? 26).map (fun i => (i.zero, i.size, i.bytes)) = some (some (.agg #[.int .i64 0, .int .i64 0, .int .i64 0, .string ByteArray.empty]), 4, 40) := by kernel_rfl
/-- make([]Part, n). -/
theorem make_pts (w : World) (base n : Nat) (X : Nat → PtV) (hn : n ≤ 1048576) (hb : base ≤ w.heap.size) :
    ∃ w1, (Instr.makeSlice 42 (.int .i64 n) (.int .i64 n)).run Try.prog w = .ok (.slice (some ⟨w.heap.size, 0, none⟩) n n) w1 ∧ OwnPt w1 base (.slice (some ⟨w.heap.size, 0, none⟩) n n) n (ptT X 0) ∧ Below w.heap.size w w1 := by
  obtain ⟨ti, hi, hz0, hz1, hz2⟩ := info_parts elemPt
  obtain ⟨w1, hrun, ho, hg⟩ := run_make_full (P := Try.prog) w base 42 26 ti _ 4 Try.underlying42 hi hz0 hz1 .i64 .i64 n (by rw [hz2]; omega) (by simp only [maxLen]; omega) (by omega)
  refine ⟨w1, hrun, ?_, (Below.refl w.heap.size w).grown hg (Nat.le_refl _) (by simp)⟩
  unfold OwnPt
  rw [show ((List.range (n * 4)).map (ptT X 0)) = (madeCells (Value.cells (.agg #[.int .i64 0, .int .i64 0, .int .i64 0, .string ByteArray.empty])) (n * 4)).toList from ?_]
  · exact ho
  · apply List.ext_getElem?
    intro j
    by_cases hj : j < n * 4
    · have h5 : j % 4 < 4 := Nat.mod_lt _ (by decide)
      have hc0 : ptT X 0 j = ptV (fun _ => PtV.zero) j := by unfold ptT; rw [if_neg (by omega)]
      rcases (show j % 4 = 0 ∨ j % 4 = 1 ∨ j % 4 = 2 ∨ j % 4 = 3 by omega) with h | h | h | h <;> simp [madeCells, hj, Value.cells, hc0, ptV, PtV.zero, h]
    · simp [madeCells, hj]
/-- A part that a call was given lies in the block behind the others. -/
def Box4 (w wr : World) (t : TypeId) (i c p : Int) (s : ByteArray) : Prop := wr.heap[w.heap.size]? = some (.cells #[.int .i64 i, .int .i64 c, .int .i64 p, .string s] t (0, 0)) ∧ Below w.heap.size w wr
section
variable {w wr wr' : World} {t : TypeId} {i c p : Int} {s : ByteArray}
theorem Box4.start (w : World) (t : TypeId) (i c p : Int) (s : ByteArray) : Box4 w (w.alloc (.cells #[.int .i64 i, .int .i64 c, .int .i64 p, .string s] t)) t i c p s := ⟨heap_alloc_new w _, (Below.refl _ _).alloc (Nat.le_refl _) _⟩
theorem Box4.lt (h : Box4 w wr t i c p s) : w.heap.size < wr.heap.size := (Array.getElem?_eq_some_iff.1 h.1).1
theorem Box4.next (h : Box4 w wr t i c p s) (hb : Below wr.heap.size wr wr') : Box4 w wr' t i c p s :=
  ⟨by rw [hb.block _ h.lt]; exact h.1, h.2.trans (hb.mono (Nat.le_of_lt h.lt))⟩
theorem Box4.alloc (h : Box4 w wr t i c p s) (o : Obj) : Box4 w (wr.alloc o) t i c p s := h.next ((Below.refl _ _).alloc (Nat.le_refl _) o)
theorem Box4.drew (h : Box4 w wr t i c p s) : Box4 w wr.drew t i c p s := ⟨h.1, h.2.drew⟩
theorem Box4.cells (h : Box4 w wr t i c p s) : wr.cell? ⟨w.heap.size, 0, none⟩ = some (.int .i64 i) ∧ wr.cell? ⟨w.heap.size, 1, none⟩ = some (.int .i64 c) ∧ wr.cell? ⟨w.heap.size, 2, none⟩ = some (.int .i64 p) ∧ wr.cell? ⟨w.heap.size, 3, none⟩ = some (.string s) := by
  refine ⟨?_, ?_, ?_, ?_⟩ <;> simp [World.cell?, h.1]
theorem Box4.grow' {row : Option Nat} (h : Box4 w wr t i c p s) (hg : wr.grownBy wr' row) (hr : ∀ b, row = some b → w.heap.size < b) : Box4 w wr' t i c p s :=
  ⟨by rw [hg.block _ h.lt (by intro e; have := hr _ e.symm; omega)]; exact h.1, h.2.grown hg (Nat.le_of_lt h.lt) (fun r hr' => by have := hr r hr'; omega)⟩
end
end Go.Proofs.Ythbmfaogjaahoaa

namespace Go.Proofs.Ythbmfaogjaahoaa
open Go.RowKit
set_option linter.unusedSimpArgs false
set_option linter.unusedVariables false

/-- A part is valid. -/
def isPt (x : PtV) : Bool := inR x.c 1 8 && inR x.i 0 (x.c - 1) && inR x.p 0 255 && decide (x.t.size ≤ 400)
theorem isPt_yes {x : PtV} (h : isPt x = true) : (1 ≤ x.c ∧ x.c ≤ 8) ∧ (0 ≤ x.i ∧ x.i < x.c) ∧ (0 ≤ x.p ∧ x.p ≤ 255) ∧ x.t.size ≤ 400 := by
  simp only [isPt, inR, Bool.and_eq_true, decide_eq_true_eq] at h
  omega
theorem isPt_of {x : PtV} (h : (1 ≤ x.c ∧ x.c ≤ 8) ∧ (0 ≤ x.i ∧ x.i < x.c) ∧ (0 ≤ x.p ∧ x.p ≤ 255) ∧ x.t.size ≤ 400) : isPt x = true := by
  simp only [isPt, inR, Bool.and_eq_true, decide_eq_true_eq]
  omega
theorem isPt_no {x : PtV} (h : ¬ ((1 ≤ x.c ∧ x.c ≤ 8) ∧ (0 ≤ x.i ∧ x.i < x.c) ∧ (0 ≤ x.p ∧ x.p ≤ 255) ∧ x.t.size ≤ 400)) : isPt x = false := by
  cases hb : isPt x with
  | false => rfl
  | true => exact absurd (isPt_yes hb) h

set_option maxHeartbeats 1000000 in
theorem implIsVal (i c p : Int) (t : ByteArray) (ht : t.size ≤ 1099511627776) (hc : -9223372036854775808 ≤ c ∧ c ≤ 9223372036854775807) (w : World) :
    Calls Try.prog 41 #[.agg #[.int .i64 i, .int .i64 c, .int .i64 p, .string t]] w (Gives (.bool (isPt ⟨i, c, p, t⟩)) w) := by
  by_cases h1 : 0 ≤ i
  · by_cases h2 : i < c
    · by_cases h3 : c ≤ 8
      · have HC : ∀ (b : Bool), inR p 0 (2 ^ 8 - 1) = b → ∀ w, Calls Try.prog 69 #[.int .i64 p, .int .i64 8] w fun e w' => e = .returned (.bool b) ∧ w = w' := fun b hb w => implFits_is p 8 b w (by omega) hb
        have HC := hide HC
        by_cases h4 : 0 ≤ p ∧ p ≤ 255
        · have HR := hide (show isPt ⟨i, c, p, t⟩ = decide (t.size ≤ 400) by
            cases hd : decide (t.size ≤ 400) with
            | true => exact isPt_of ⟨⟨by show 1 ≤ c; omega, h3⟩, ⟨h1, h2⟩, h4, of_decide_eq_true hd⟩
            | false => exact isPt_no fun h => of_decide_eq_false hd h.2.2.2)
          have HP := hide (inR_yes (x := p) (lo := 0) (hi := 2 ^ 8 - 1) h4.1 (by omega))
          clear h4
          go_enter Try.func41, Try.ntmps41
          go_wp2_with fail
          refine (HC.out true HP.out _).mono ?_
          rintro e _ ⟨rfl, rfl⟩
          go_wp2_with fail
          refine (implIsMsg t ht _).mono ?_
          rintro e _ ⟨rfl, rfl⟩
          go_wp2_with fail
          go_ret
          exact ⟨ret_bool HR.out, (Below.refl _ _).alloc (Nat.le_refl _) _⟩
        · have HR := hide (show isPt ⟨i, c, p, t⟩ = false from isPt_no fun h => h4 h.2.2.1)
          have HP := hide (inR_no (x := p) (lo := 0) (hi := 2 ^ 8 - 1) (by omega))
          clear h4
          go_enter Try.func41, Try.ntmps41
          go_wp2_with fail
          refine (HC.out false HP.out _).mono ?_
          rintro e _ ⟨rfl, rfl⟩
          go_wp2_with fail
          go_ret
          exact ⟨ret_bool HR.out, (Below.refl _ _).alloc (Nat.le_refl _) _⟩
      · have HR := hide (show isPt ⟨i, c, p, t⟩ = false from isPt_no fun h => h3 h.1.2)
        have h3' : decide (c ≤ 8) = false := by simpa using h3
        go_enter Try.func41, Try.ntmps41
        go_wp2_with fail
        go_ret
        exact ⟨ret_bool HR.out, (Below.refl _ _).alloc (Nat.le_refl _) _⟩
    · have HR := hide (show isPt ⟨i, c, p, t⟩ = false from isPt_no fun h => h2 h.2.1.2)
      have h2' : decide (i < c) = false := by simpa using h2
      go_enter Try.func41, Try.ntmps41
      go_wp2_with fail
      go_ret
      exact ⟨ret_bool HR.out, (Below.refl _ _).alloc (Nat.le_refl _) _⟩
  · have HR := hide (show isPt ⟨i, c, p, t⟩ = false from isPt_no fun h => h1 h.2.1.1)
    have h1' : decide (0 ≤ i) = false := by simpa using h1
    go_enter Try.func41, Try.ntmps41
    go_wp2_with fail
    go_ret
    exact ⟨ret_bool HR.out, (Below.refl _ _).alloc (Nat.le_refl _) _⟩

set_option maxHeartbeats 1000000 in
theorem implIsPart (i c p : Int) (t : ByteArray) (ht : t.size ≤ 1099511627776) (hc : -9223372036854775808 ≤ c ∧ c ≤ 9223372036854775807) (w : World) :
    Calls Try.prog 13 #[.agg #[.int .i64 i, .int .i64 c, .int .i64 p, .string t]] w (Gives (.bool (isPt ⟨i, c, p, t⟩)) w) := by
  go_enter Try.func13, Try.ntmps13
  go_wp2_with fail
  refine (implIsVal i c p t ht hc _).mono ?_
  rintro e w1 ⟨rfl, hb1⟩
  have HB := hide (((Below.refl w.heap.size w).alloc (Nat.le_refl _) _).trans (hb1.mono (by rw [alloc_size]; omega)))
  clear hb1
  go_wp2_with fail
  go_ret
  exact ⟨rfl, HB.out⟩

set_option maxHeartbeats 1000000 in
theorem specIsPart (i c p : Int) (t : ByteArray) (ht : t.size ≤ 1099511627776) (hc : -9223372036854775808 ≤ c ∧ c ≤ 9223372036854775807) (w : World) :
    Calls Try.prog 11 #[.agg #[.int .i64 i, .int .i64 c, .int .i64 p, .string t]] w (Gives (.bool (isPt ⟨i, c, p, t⟩)) w) := by
  by_cases h1 : 1 ≤ c ∧ c ≤ 8
  · by_cases h2 : 0 ≤ i ∧ i < c
    · by_cases h4 : 0 ≤ p ∧ p ≤ 255
      · have HR := hide (show isPt ⟨i, c, p, t⟩ = decide ((t.size : Int) ≤ 400) by
          by_cases hd : t.size ≤ 400
          · rw [decide_eq_true (show (t.size : Int) ≤ 400 by omega)]; exact isPt_of ⟨h1, h2, h4, hd⟩
          · rw [decide_eq_false (show ¬ (t.size : Int) ≤ 400 by omega)]; exact isPt_no fun h => hd h.2.2.2)
        obtain ⟨b, hbb⟩ : ∃ b, decide ((t.size : Int) ≤ 400) = b := ⟨_, rfl⟩
        rw [hbb] at HR
        go_enter Try.func11, Try.ntmps11
        go_wp2_with fail
        refine (specIn_yes c 1 8 _ h1.1 h1.2).mono ?_
        rintro e _ ⟨rfl, rfl⟩
        go_wp2_with fail
        refine (specIn_yes i 0 (c - 1) _ h2.1 (by omega)).mono ?_
        rintro e _ ⟨rfl, rfl⟩
        go_wp2_with fail
        refine (specIn_yes p 0 255 _ h4.1 h4.2).mono ?_
        rintro e _ ⟨rfl, rfl⟩
        clear h4 h2 h1
        cases b
        · have hbn : ¬ (t.size : Int) ≤ 400 := of_decide_eq_false hbb
          clear hbb
          go_wp2_with fail
          go_ret
          exact ⟨ret_bool (by first | exact HR.out | (rw [HR.out]; simp; omega)), (Below.refl _ _).alloc (Nat.le_refl _) _⟩
        · have hbn : (t.size : Int) ≤ 400 := of_decide_eq_true hbb
          clear hbb
          go_wp2_with fail
          go_ret
          exact ⟨ret_bool (by first | exact HR.out | (rw [HR.out]; simp; omega)), (Below.refl _ _).alloc (Nat.le_refl _) _⟩
      · have HR := hide (show isPt ⟨i, c, p, t⟩ = false from isPt_no fun h => h4 h.2.2.1)
        go_enter Try.func11, Try.ntmps11
        go_wp2_with fail
        refine (specIn_yes c 1 8 _ h1.1 h1.2).mono ?_
        rintro e _ ⟨rfl, rfl⟩
        go_wp2_with fail
        refine (specIn_yes i 0 (c - 1) _ h2.1 (by omega)).mono ?_
        rintro e _ ⟨rfl, rfl⟩
        go_wp2_with fail
        refine (specIn_no p 0 255 _ (by omega)).mono ?_
        rintro e _ ⟨rfl, rfl⟩
        go_wp2_with fail
        go_ret
        exact ⟨ret_bool HR.out, (Below.refl _ _).alloc (Nat.le_refl _) _⟩
    · have HR := hide (show isPt ⟨i, c, p, t⟩ = false from isPt_no fun h => h2 h.2.1)
      go_enter Try.func11, Try.ntmps11
      go_wp2_with fail
      refine (specIn_yes c 1 8 _ h1.1 h1.2).mono ?_
      rintro e _ ⟨rfl, rfl⟩
      go_wp2_with fail
      refine (specIn_no i 0 (c - 1) _ (by omega)).mono ?_
      rintro e _ ⟨rfl, rfl⟩
      go_wp2_with fail
      go_ret
      exact ⟨ret_bool HR.out, (Below.refl _ _).alloc (Nat.le_refl _) _⟩
  · have HR := hide (show isPt ⟨i, c, p, t⟩ = false from isPt_no fun h => h1 h.1)
    go_enter Try.func11, Try.ntmps11
    go_wp2_with fail
    refine (specIn_no c 1 8 _ (by omega)).mono ?_
    rintro e _ ⟨rfl, rfl⟩
    go_wp2_with fail
    go_ret
    exact ⟨ret_bool HR.out, (Below.refl _ _).alloc (Nat.le_refl _) _⟩

/-- The exclusive or of numbers. -/
def parI (bs : List Int) : Int := bs.foldl (fun a b => bits .xor .u8 a b) 0
def parT (bs : List Int) (k : Nat) : Int := parI (bs.take k)
theorem parT_step {bs : List Int} {k : Nat} {y : Int} (h : bs[k]? = some y) : parT bs (k + 1) = bits .xor .u8 (parT bs k) y := by
  unfold parT parI
  rw [List.take_add_one, h]
  simp [List.foldl_append]
theorem parT_bd (bs : List Int) (k : Nat) : 0 ≤ parT bs k ∧ parT bs k ≤ 255 := by
  unfold parT parI
  rcases List.eq_nil_or_concat (bs.take k) with h | ⟨l, a, h⟩
  · rw [h]; decide
  · rw [h, List.concat_eq_append, List.foldl_append]
    simp only [List.foldl_cons, List.foldl_nil]
    exact ⟨Go.bits_lo_u8 _ _ _, Go.bits_hi_u8 _ _ _⟩
theorem parT_all (bs : List Int) : parT bs bs.length = parI bs := by unfold parT; rw [List.take_length]
theorem par_bd (bs : List Int) : 0 ≤ parI bs ∧ parI bs ≤ 255 := parT_all bs ▸ parT_bd bs bs.length
def MpRel (w : World) (s : ByteArray) (a i : Value) (wr : World) : Prop :=
  ∃ (k : Nat) (x : Int), k ≤ s.size ∧ i = .int .i64 k ∧ a = .int .u8 x ∧ (0 ≤ x ∧ x ≤ 255) ∧ Hid (x = parT (bytesI s) k) ∧ w = wr

set_option maxHeartbeats 1000000 in
theorem implPar (s : ByteArray) (hs : s.size ≤ 1099511627776) (w : World) :
    Calls Try.prog 15 #[.string s] w fun e w' => e = .returned (.int .i64 (parI (bytesI s))) ∧ w = w' := by
  go_enter Try.func15, Try.ntmps15
  go_wp2_with fail
  go_loopw [3, 7] (fun a i wr => MpRel w s a i wr) (fun _ i _ => s.size - (intOf i).toNat)
  case atStart => exact ⟨0, 0, Nat.zero_le _, rfl, rfl, by omega, hide (by rfl), rfl⟩
  case round =>
    obtain ⟨k, x, hk, rfl, rfl, hx, hp, rfl⟩ := hrel
    have HP := hp
    clear hp
    by_cases hlt : k < s.size
    · obtain ⟨y, hy, hy2, hy0, hy1⟩ := byteAt s hlt
      have HS := hide (show bits .xor .u8 x y = parT (bytesI s) (k + 1) by rw [parT_step hy2, ← HP.out])
      have hb := parT_bd (bytesI s) (k + 1)
      obtain ⟨z, hz⟩ : ∃ z, bits .xor .u8 x y = z := ⟨_, rfl⟩
      rw [hz] at HS
      rw [← HS.out] at hb
      clear hy2
      go_wp2_with fail
      go_roundw
      case rel => exact ⟨k + 1, z, by omega, by go_num, by first | rfl | rw [hz], hb, HS, rfl⟩
      case measure => simp [intOf]; omega
    · have HE := hide (show x = parI (bytesI s) by rw [HP.out, ← parT_all, bytesI_len, show k = s.size by omega])
      go_wp2_with fail
      go_ret
      exact ⟨ret_int HE.out.symm, rfl⟩

set_option maxHeartbeats 1000000 in
theorem specPar (s : ByteArray) (hs : s.size ≤ 1099511627776) (w : World) :
    Calls Try.prog 14 #[.string s] w fun e w' => e = .returned (.int .i64 (parI (bytesI s))) ∧ w = w' := by
  go_enter Try.func14, Try.ntmps14
  go_wp2_with fail
  go_loopw [3, 4] (fun a i wr => MpRel w s a i wr) (fun _ i _ => s.size - (intOf i).toNat)
  case atStart => exact ⟨0, 0, Nat.zero_le _, rfl, rfl, by omega, hide (by rfl), rfl⟩
  case round =>
    obtain ⟨k, x, hk, rfl, rfl, hx, hp, rfl⟩ := hrel
    have HP := hp
    clear hp
    by_cases hlt : k < s.size
    · obtain ⟨y, hy, hy2, hy0, hy1⟩ := byteAt s hlt
      have HS := hide (show bits .xor .u8 x y = parT (bytesI s) (k + 1) by rw [parT_step hy2, ← HP.out])
      have hb := parT_bd (bytesI s) (k + 1)
      obtain ⟨z, hz⟩ : ∃ z, bits .xor .u8 x y = z := ⟨_, rfl⟩
      rw [hz] at HS
      rw [← HS.out] at hb
      clear hy2
      go_wp2_with fail
      go_roundw
      case rel => exact ⟨k + 1, z, by omega, by go_num, by first | rfl | rw [hz], hb, HS, rfl⟩
      case measure => simp [intOf]; omega
    · have HE := hide (show x = parI (bytesI s) by rw [HP.out, ← parT_all, bytesI_len, show k = s.size by omega])
      go_wp2_with fail
      go_ret
      exact ⟨ret_int HE.out.symm, rfl⟩
end Go.Proofs.Ythbmfaogjaahoaa
