/-
  Words for slices of parts: one that reads as numbers and texts, one that a call owns.
  Whether a part is valid, and the parity of a string: of the model and of the program.
  The laws' own functions on parts and on slices of parts: sizes, copies, whether two are the same.
  Condition: as each statement says.
-/
import Derived.Test.YthbmfaogjaahoaaProg
import Derived.Test.YthbmfaogjaahoaaSgMath
import Derived.Test.YthbmfaogjaahoaaBox
import Derived.Test.YthbmfaogjaahoaaAppend
import Derived.Test.YthbmfaogjaahoaaSpecIn
import Derived.Test.YthbmfaogjaahoaaPG
import Derived.Test.YthbmfaogjaahoaaLawKit
import Derived.Deep.RegionHeld3
namespace Go.Proofs.Ythbmfaogjaahoaa
open Go.RowKit
set_option linter.unusedSimpArgs false
set_option linter.unusedVariables false

/-- A part: its three numbers and its text. -/
structure PtV where
  i : Int
  c : Int
  p : Int
  t : ByteArray
def PtV.val (x : PtV) : Value := .agg #[.int .i64 x.i, .int .i64 x.c, .int .i64 x.p, .string x.t]
def PtV.wf (x : PtV) : Prop := ((Lit.int .i64 x.i).wf = true ∧ (Lit.int .i64 x.c).wf = true ∧ (Lit.int .i64 x.p).wf = true) ∧ x.t.size ≤ maxLen
def PtV.zero : PtV := ⟨0, 0, 0, ByteArray.empty⟩

/-- Four cells from an offset on read as a part. -/
def PtAt (w : World) (b off : Nat) (x : PtV) : Prop :=
  w.cell? ⟨b, off, none⟩ = some (.int .i64 x.i) ∧ w.cell? ⟨b, off + 1, none⟩ = some (.int .i64 x.c) ∧ w.cell? ⟨b, off + 2, none⟩ = some (.int .i64 x.p) ∧ w.cell? ⟨b, off + 3, none⟩ = some (.string x.t)
theorem PtAt.keep {w w' : World} {b off : Nat} {x : PtV} (h : PtAt w b off x) (hk : ∀ o, w'.cell? ⟨b, o, none⟩ = w.cell? ⟨b, o, none⟩) : PtAt w' b off x :=
  ⟨(hk _).trans h.1, (hk _).trans h.2.1, (hk _).trans h.2.2.1, (hk _).trans h.2.2.2⟩
theorem PtAt.below {w w' : World} {b off B : Nat} {x : PtV} (h : PtAt w b off x) (hb : Below B w w') (hB : b < B) : PtAt w' b off x := h.keep fun o => hb.cell (p := ⟨b, o, none⟩) hB

/-- The slice with address A and length n reads as the parts X j; where it is not empty it lies in a block below B. -/
def Pts (w : World) (B : Nat) (A : Option Addr) (n : Nat) (X : Nat → PtV) : Prop :=
  0 < n → ∃ b off, A = some ⟨b, off, none⟩ ∧ b < B ∧ ∀ j : Nat, j < n → PtAt w b (off + j * 4) (X j)
section
variable {w w' : World} {B B' n : Nat} {A : Option Addr} {X : Nat → PtV}
theorem Pts.keep (h : Pts w B A n X) (hk : ∀ b o, b < B → w'.cell? ⟨b, o, none⟩ = w.cell? ⟨b, o, none⟩) : Pts w' B A n X := fun hn => by
  obtain ⟨b, off, e, hb, hc⟩ := h hn
  exact ⟨b, off, e, hb, fun j hj => (hc j hj).keep fun o => hk b o hb⟩
theorem Pts.more (h : Pts w B A n X) (hB : B ≤ B') : Pts w B' A n X := fun hn => by
  obtain ⟨b, off, e, hb, hc⟩ := h hn
  exact ⟨b, off, e, by omega, hc⟩
theorem Pts.below (h : Pts w B A n X) (hb : Below B w w') : Pts w' B A n X := h.keep fun _ _ hp => hb.cell (p := ⟨_, _, none⟩) hp
theorem Pts.drew (h : Pts w B A n X) : Pts w.drew B A n X := h
end

/-- The cells of a slice of parts, one behind the other. -/
def ptV (X : Nat → PtV) (i : Nat) : Value :=
  if i % 4 = 0 then .int .i64 (X (i / 4)).i else if i % 4 = 1 then .int .i64 (X (i / 4)).c else if i % 4 = 2 then .int .i64 (X (i / 4)).p else .string (X (i / 4)).t
theorem ptV_at (X : Nat → PtV) (j : Nat) : ptV X (j * 4) = .int .i64 (X j).i ∧ ptV X (j * 4 + 1) = .int .i64 (X j).c ∧ ptV X (j * 4 + 2) = .int .i64 (X j).p ∧ ptV X (j * 4 + 3) = .string (X j).t := by
  refine ⟨?_, ?_, ?_, ?_⟩
  · unfold ptV; rw [if_pos (by omega), show j * 4 / 4 = j by omega]
  · unfold ptV; rw [if_neg (by omega), if_pos (by omega), show (j * 4 + 1) / 4 = j by omega]
  · unfold ptV; rw [if_neg (by omega), if_neg (by omega), if_pos (by omega), show (j * 4 + 2) / 4 = j by omega]
  · unfold ptV; rw [if_neg (by omega), if_neg (by omega), if_neg (by omega), show (j * 4 + 3) / 4 = j by omega]

/-- A slice of n parts whose cells are f 0, f 1, ..: it is owned. -/
def OwnPt (w : World) (base : Nat) (v : Value) (n : Nat) (f : Nat → Value) : Prop := w.ownsRow base 26 4 v n ((List.range (n * 4)).map f)
section
variable {w w' : World} {base n : Nat} {v : Value} {f : Nat → Value}
theorem OwnPt.below (h : OwnPt w base v n f) {B : Nat} (hb : Below B w w') (hB : w.heap.size ≤ B) : OwnPt w' base v n f := by
  refine World.ownsRow.kept h (row := none) ⟨hb.os, hb.tape, hb.output, hb.size, fun i hi _ => hb.block i (by omega)⟩ ?_
  rcases v.ownBlock with _ | g <;> simp
theorem OwnPt.next (h : OwnPt w base v n f) (hb : Below w.heap.size w w') : OwnPt w' base v n f := h.below hb (Nat.le_refl _)
theorem OwnPt.drew (h : OwnPt w base v n f) : OwnPt w.drew base v n f := h
theorem OwnPt.grown {row : Option Nat} (h : OwnPt w base v n f) (hg : w.grownBy w' row) (hne : v.ownBlock = none ∨ v.ownBlock ≠ row) : OwnPt w' base v n f := World.ownsRow.kept h hg hne
theorem OwnPt.low {base' : Nat} (h : OwnPt w base v n f) (hb : base' ≤ base) : OwnPt w base' v n f := by
  refine ⟨h.1, ?_⟩
  rcases h.2 with h0 | ⟨g, cap, cur, h1, h2, h3⟩
  · exact .inl h0
  · exact .inr ⟨g, cap, cur, h1, Nat.le_trans hb h2, h3⟩
theorem OwnPt.nil (w : World) (base : Nat) (f : Nat → Value) : OwnPt w base (.slice none 0 0) 0 f := World.ownsRow_nil _ _ _ _
theorem OwnPt.form (h : OwnPt w base v n f) (hn : 0 < n) : ∃ g c, v = .slice (some ⟨g, 0, none⟩) n c ∧ base ≤ g ∧ g < w.heap.size ∧ n ≤ c := by
  rcases h.2 with ⟨_, h0⟩ | ⟨g, cap, cur, hv, hb, hg, hnc, _⟩
  · omega
  · exact ⟨g, cap, hv, hb, (Array.getElem?_eq_some_iff.1 hg).1, hnc⟩
theorem OwnPt.form0 (h : OwnPt w base v n f) : ∃ A c, v = .slice A n c ∧ n ≤ c ∧ c ≤ 9223372036854775807 := by
  rcases h.2 with ⟨rfl, rfl⟩ | ⟨g, cap, cur, hv, hb, hg, hnc, hm, _⟩
  · exact ⟨none, 0, rfl, Nat.le_refl _, by omega⟩
  · exact ⟨_, cap, hv, hnc, by unfold maxLen at hm; omega⟩
theorem OwnPt.cell {g c i : Nat} (h : OwnPt w base (.slice (some ⟨g, 0, none⟩) n c) n f) (hi : i < n * 4) : w.cell? ⟨g, i, none⟩ = some (f i) := by
  rw [World.ownsRow.cellAt h i hi, List.getElem?_map, List.getElem?_range hi]; rfl
theorem OwnPt.frozen {g c : Nat} (h : OwnPt w base (.slice (some ⟨g, 0, none⟩) n c) n f) (i : Nat) : w.frozen? ⟨g, i, none⟩ = false := World.ownsRow.frozenAt h i
theorem OwnPt.congr {f' : Nat → Value} (h : OwnPt w base v n f) (he : ∀ i, i < n * 4 → f' i = f i) : OwnPt w base v n f' := by
  unfold OwnPt
  rw [show ((List.range (n * 4)).map f') = ((List.range (n * 4)).map f) from List.map_congr_left fun i hi => he i (List.mem_range.1 hi)]
  exact h
theorem OwnPt.put {g c : Nat} (h : OwnPt w base (.slice (some ⟨g, 0, none⟩) n c) n f) (i : Nat) (x : Value) :
    OwnPt (w.setCell ⟨g, i, none⟩ x) base (.slice (some ⟨g, 0, none⟩) n c) n (fun j => if j = i then x else f j) ∧ w.grownBy (w.setCell ⟨g, i, none⟩ x) (some g) := by
  obtain ⟨h1, h2⟩ := World.ownsRow.stored h i x
  refine ⟨?_, h2⟩
  unfold OwnPt
  rw [show ((List.range (n * 4)).map fun j => if j = i then x else f j) = ((List.range (n * 4)).map f).set i x from ?_]
  · exact h1
  · apply List.ext_getElem?
    intro j
    by_cases hj : j < n * 4
    · by_cases hji : j = i
      · subst hji
        rw [List.getElem?_set_self (by simpa using hj), List.getElem?_map, List.getElem?_range hj]
        simp
      · rw [List.getElem?_set_ne (Ne.symm hji), List.getElem?_map, List.getElem?_map, List.getElem?_range hj]
        simp [hji]
    · rw [List.getElem?_eq_none (by simp; omega), List.getElem?_eq_none (by simp; omega)]
/-- The four cells of a part laid one behind the other. -/
def setPt (w : World) (g o : Nat) (x : PtV) : World :=
  (((w.setCell ⟨g, o, none⟩ (.int .i64 x.i)).setCell ⟨g, o + 1, none⟩ (.int .i64 x.c)).setCell ⟨g, o + 2, none⟩ (.int .i64 x.p)).setCell ⟨g, o + 3, none⟩ (.string x.t)
theorem OwnPt.put4 {g c i : Nat} (h : OwnPt w base (.slice (some ⟨g, 0, none⟩) n c) n f) (x : PtV) :
    OwnPt (setPt w g i x) base (.slice (some ⟨g, 0, none⟩) n c) n (fun j => if j = i + 3 then .string x.t else if j = i + 2 then .int .i64 x.p else if j = i + 1 then .int .i64 x.c else if j = i then .int .i64 x.i else f j) ∧
    w.grownBy (setPt w g i x) (some g) := by
  obtain ⟨a0, b0⟩ := h.put i (.int .i64 x.i)
  obtain ⟨a1, b1⟩ := a0.put (i + 1) (.int .i64 x.c)
  obtain ⟨a2, b2⟩ := a1.put (i + 2) (.int .i64 x.p)
  obtain ⟨a3, b3⟩ := a2.put (i + 3) (.string x.t)
  exact ⟨a3, grown_trans (grown_trans (grown_trans b0 b1) b2) b3⟩
theorem OwnPt.at_ {g c j : Nat} {X : Nat → PtV} (h : OwnPt w base (.slice (some ⟨g, 0, none⟩) n c) n (ptV X)) (hj : j < n) : PtAt w g (j * 4) (X j) := by
  obtain ⟨e0, e1, e2, e3⟩ := ptV_at X j
  exact ⟨by rw [h.cell (by omega), e0], by rw [h.cell (by omega), e1], by rw [h.cell (by omega), e2], by rw [h.cell (by omega), e3]⟩
theorem OwnPt.pts {A : Option Addr} {c : Nat} {X : Nat → PtV} (h : OwnPt w base (.slice A n c) n (ptV X)) : Pts w w.heap.size A n X := fun hn => by
  obtain ⟨g, c', e, _, hg, _⟩ := h.form hn
  simp only [Value.slice.injEq] at e
  obtain ⟨rfl, _, rfl⟩ := e
  refine ⟨g, 0, rfl, hg, fun j hj => ?_⟩
  rw [Nat.zero_add]
  exact h.at_ hj
end
/-- The cells, as far as they have been laid. -/
def ptT (X : Nat → PtV) (k i : Nat) : Value := if i < k * 4 then ptV X i else ptV (fun _ => PtV.zero) i
theorem ptT_step (X : Nat → PtV) (k : Nat) : (fun j => if j = k * 4 + 3 then .string (X k).t else if j = k * 4 + 2 then .int .i64 (X k).p else if j = k * 4 + 1 then .int .i64 (X k).c else if j = k * 4 then .int .i64 (X k).i else ptT X k j) = ptT X (k + 1) := by
  obtain ⟨h0, h1, h2, h3⟩ := ptV_at X k
  funext j
  unfold ptT
  split
  · subst j; rw [if_pos (by omega), h3]
  · split
    · subst j; rw [if_pos (by omega), h2]
    · split
      · subst j; rw [if_pos (by omega), h1]
      · split
        · subst j; rw [if_pos (by omega), h0]
        · by_cases hj : j < k * 4
          · rw [if_pos hj, if_pos (by omega)]
          · rw [if_neg hj, if_neg (by omega)]
theorem elemPt : (Try.prog.info? 26).map (fun i => (i.zero, i.size, i.bytes)) = some (some (.agg #[.int .i64 0, .int .i64 0, .int .i64 0, .string ByteArray.empty]), 4, 40) := by kernel_rfl
/-- make([]Part, n). -/
theorem make_pts (w : World) (base n : Nat) (X : Nat → PtV) (hn : n ≤ 1048576) (hb : base ≤ w.heap.size) :
    ∃ w1, (Instr.makeSlice 42 (.int .i64 n) (.int .i64 n)).run Try.prog w = .ok (.slice (some ⟨w.heap.size, 0, none⟩) n n) w1 ∧ OwnPt w1 base (.slice (some ⟨w.heap.size, 0, none⟩) n n) n (ptT X 0) ∧ Below w.heap.size w w1 := by
  obtain ⟨ti, hi, hz0, hz1, hz2⟩ := info_parts elemPt
  obtain ⟨w1, hrun, ho, hg⟩ := run_make_full (P := Try.prog) w base 42 26 ti _ 4 Try.underlying42 hi hz0 hz1 .i64 .i64 n (by rw [hz2]; omega) (by simp only [maxLen]; omega) (by omega)
  refine ⟨w1, hrun, ?_, (Below.refl w.heap.size w).grown hg (Nat.le_refl _) (by simp)⟩
  unfold OwnPt
  rw [show ((List.range (n * 4)).map (ptT X 0)) = (madeCells (Value.cells (.agg #[.int .i64 0, .int .i64 0, .int .i64 0, .string ByteArray.empty])) (n * 4)).toList from ?_]
  · exact ho
  · apply List.ext_getElem?
    intro j
    by_cases hj : j < n * 4
    · have h5 : j % 4 < 4 := Nat.mod_lt _ (by decide)
      have hc0 : ptT X 0 j = ptV (fun _ => PtV.zero) j := by unfold ptT; rw [if_neg (by omega)]
      rcases (show j % 4 = 0 ∨ j % 4 = 1 ∨ j % 4 = 2 ∨ j % 4 = 3 by omega) with h | h | h | h <;> simp [madeCells, hj, Value.cells, hc0, ptV, PtV.zero, h]
    · simp [madeCells, hj]
/-- A part that a call was given lies in the block behind the others. -/
def Box4 (w wr : World) (t : TypeId) (i c p : Int) (s : ByteArray) : Prop := wr.heap[w.heap.size]? = some (.cells #[.int .i64 i, .int .i64 c, .int .i64 p, .string s] t (0, 0)) ∧ Below w.heap.size w wr
section
variable {w wr wr' : World} {t : TypeId} {i c p : Int} {s : ByteArray}
theorem Box4.start (w : World) (t : TypeId) (i c p : Int) (s : ByteArray) : Box4 w (w.alloc (.cells #[.int .i64 i, .int .i64 c, .int .i64 p, .string s] t)) t i c p s := ⟨heap_alloc_new w _, (Below.refl _ _).alloc (Nat.le_refl _) _⟩
theorem Box4.lt (h : Box4 w wr t i c p s) : w.heap.size < wr.heap.size := (Array.getElem?_eq_some_iff.1 h.1).1
theorem Box4.next (h : Box4 w wr t i c p s) (hb : Below wr.heap.size wr wr') : Box4 w wr' t i c p s :=
  ⟨by rw [hb.block _ h.lt]; exact h.1, h.2.trans (hb.mono (Nat.le_of_lt h.lt))⟩
theorem Box4.alloc (h : Box4 w wr t i c p s) (o : Obj) : Box4 w (wr.alloc o) t i c p s := h.next ((Below.refl _ _).alloc (Nat.le_refl _) o)
theorem Box4.drew (h : Box4 w wr t i c p s) : Box4 w wr.drew t i c p s := ⟨h.1, h.2.drew⟩
theorem Box4.cells (h : Box4 w wr t i c p s) : wr.cell? ⟨w.heap.size, 0, none⟩ = some (.int .i64 i) ∧ wr.cell? ⟨w.heap.size, 1, none⟩ = some (.int .i64 c) ∧ wr.cell? ⟨w.heap.size, 2, none⟩ = some (.int .i64 p) ∧ wr.cell? ⟨w.heap.size, 3, none⟩ = some (.string s) := by
  refine ⟨?_, ?_, ?_, ?_⟩ <;> simp [World.cell?, h.1]
theorem Box4.grow' {row : Option Nat} (h : Box4 w wr t i c p s) (hg : wr.grownBy wr' row) (hr : ∀ b, row = some b → w.heap.size < b) : Box4 w wr' t i c p s :=
  ⟨by rw [hg.block _ h.lt (by intro e; have := hr _ e.symm; omega)]; exact h.1, h.2.grown hg (Nat.le_of_lt h.lt) (fun r hr' => by have := hr r hr'; omega)⟩
end
end Go.Proofs.Ythbmfaogjaahoaa

namespace Go.Proofs.Ythbmfaogjaahoaa
open Go.RowKit
set_option linter.unusedSimpArgs false
set_option linter.unusedVariables false

/-- A part is valid. -/
def isPt (x : PtV) : Bool := inR x.c 1 8 && inR x.i 0 (x.c - 1) && inR x.p 0 255 && decide (x.t.size ≤ 400)
theorem isPt_yes {x : PtV} (h : isPt x = true) : (1 ≤ x.c ∧ x.c ≤ 8) ∧ (0 ≤ x.i ∧ x.i < x.c) ∧ (0 ≤ x.p ∧ x.p ≤ 255) ∧ x.t.size ≤ 400 := by
  simp only [isPt, inR, Bool.and_eq_true, decide_eq_true_eq] at h
  omega
theorem isPt_of {x : PtV} (h : (1 ≤ x.c ∧ x.c ≤ 8) ∧ (0 ≤ x.i ∧ x.i < x.c) ∧ (0 ≤ x.p ∧ x.p ≤ 255) ∧ x.t.size ≤ 400) : isPt x = true := by
  simp only [isPt, inR, Bool.and_eq_true, decide_eq_true_eq]
  omega
theorem isPt_no {x : PtV} (h : ¬ ((1 ≤ x.c ∧ x.c ≤ 8) ∧ (0 ≤ x.i ∧ x.i < x.c) ∧ (0 ≤ x.p ∧ x.p ≤ 255) ∧ x.t.size ≤ 400)) : isPt x = false := by
  cases hb : isPt x with
  | false => rfl
  | true => exact absurd (isPt_yes hb) h

set_option maxHeartbeats 1000000 in
theorem implIsVal (i c p : Int) (t : ByteArray) (ht : t.size ≤ 1099511627776) (hc : -9223372036854775808 ≤ c ∧ c ≤ 9223372036854775807) (w : World) :
    Calls Try.prog 41 #[.agg #[.int .i64 i, .int .i64 c, .int .i64 p, .string t]] w (Gives (.bool (isPt ⟨i, c, p, t⟩)) w) := by
  by_cases h1 : 0 ≤ i
  · by_cases h2 : i < c
    · by_cases h3 : c ≤ 8
      · have HC : ∀ (b : Bool), inR p 0 (2 ^ 8 - 1) = b → ∀ w, Calls Try.prog 69 #[.int .i64 p, .int .i64 8] w fun e w' => e = .returned (.bool b) ∧ w = w' := fun b hb w => implFits_is p 8 b w (by omega) hb
        have HC := hide HC
        by_cases h4 : 0 ≤ p ∧ p ≤ 255
        · have HR := hide (show isPt ⟨i, c, p, t⟩ = decide (t.size ≤ 400) by
            cases hd : decide (t.size ≤ 400) with
            | true => exact isPt_of ⟨⟨by show 1 ≤ c; omega, h3⟩, ⟨h1, h2⟩, h4, of_decide_eq_true hd⟩
            | false => exact isPt_no fun h => of_decide_eq_false hd h.2.2.2)
          have HP := hide (inR_yes (x := p) (lo := 0) (hi := 2 ^ 8 - 1) h4.1 (by omega))
          clear h4
          go_enter Try.func41, Try.ntmps41
          go_wp2_with fail
          refine (HC.out true HP.out _).mono ?_
          rintro e _ ⟨rfl, rfl⟩
          go_wp2_with fail
          refine (implIsMsg t ht _).mono ?_
          rintro e _ ⟨rfl, rfl⟩
          go_wp2_with fail
          go_ret
          exact ⟨ret_bool HR.out, (Below.refl _ _).alloc (Nat.le_refl _) _⟩
        · have HR := hide (show isPt ⟨i, c, p, t⟩ = false from isPt_no fun h => h4 h.2.2.1)
          have HP := hide (inR_no (x := p) (lo := 0) (hi := 2 ^ 8 - 1) (by omega))
          clear h4
          go_enter Try.func41, Try.ntmps41
          go_wp2_with fail
          refine (HC.out false HP.out _).mono ?_
          rintro e _ ⟨rfl, rfl⟩
          go_wp2_with fail
          go_ret
          exact ⟨ret_bool HR.out, (Below.refl _ _).alloc (Nat.le_refl _) _⟩
      · have HR := hide (show isPt ⟨i, c, p, t⟩ = false from isPt_no fun h => h3 h.1.2)
        have h3' : decide (c ≤ 8) = false := by simpa using h3
        go_enter Try.func41, Try.ntmps41
        go_wp2_with fail
        go_ret
        exact ⟨ret_bool HR.out, (Below.refl _ _).alloc (Nat.le_refl _) _⟩
    · have HR := hide (show isPt ⟨i, c, p, t⟩ = false from isPt_no fun h => h2 h.2.1.2)
      have h2' : decide (i < c) = false := by simpa using h2
      go_enter Try.func41, Try.ntmps41
      go_wp2_with fail
      go_ret
      exact ⟨ret_bool HR.out, (Below.refl _ _).alloc (Nat.le_refl _) _⟩
  · have HR := hide (show isPt ⟨i, c, p, t⟩ = false from isPt_no fun h => h1 h.2.1.1)
    have h1' : decide (0 ≤ i) = false := by simpa using h1
    go_enter Try.func41, Try.ntmps41
    go_wp2_with fail
    go_ret
    exact ⟨ret_bool HR.out, (Below.refl _ _).alloc (Nat.le_refl _) _⟩

set_option maxHeartbeats 1000000 in
theorem implIsPart (i c p : Int) (t : ByteArray) (ht : t.size ≤ 1099511627776) (hc : -9223372036854775808 ≤ c ∧ c ≤ 9223372036854775807) (w : World) :
    Calls Try.prog 13 #[.agg #[.int .i64 i, .int .i64 c, .int .i64 p, .string t]] w (Gives (.bool (isPt ⟨i, c, p, t⟩)) w) := by
  go_enter Try.func13, Try.ntmps13
  go_wp2_with fail
  refine (implIsVal i c p t ht hc _).mono ?_
  rintro e w1 ⟨rfl, hb1⟩
  have HB := hide (((Below.refl w.heap.size w).alloc (Nat.le_refl _) _).trans (hb1.mono (by rw [alloc_size]; omega)))
  clear hb1
  go_wp2_with fail
  go_ret
  exact ⟨rfl, HB.out⟩

set_option maxHeartbeats 1000000 in
theorem specIsPart (i c p : Int) (t : ByteArray) (ht : t.size ≤ 1099511627776) (hc : -9223372036854775808 ≤ c ∧ c ≤ 9223372036854775807) (w : World) :
    Calls Try.prog 11 #[.agg #[.int .i64 i, .int .i64 c, .int .i64 p, .string t]] w (Gives (.bool (isPt ⟨i, c, p, t⟩)) w) := by
  by_cases h1 : 1 ≤ c ∧ c ≤ 8
  · by_cases h2 : 0 ≤ i ∧ i < c
    · by_cases h4 : 0 ≤ p ∧ p ≤ 255
      · have HR := hide (show isPt ⟨i, c, p, t⟩ = decide ((t.size : Int) ≤ 400) by
          by_cases hd : t.size ≤ 400
          · rw [decide_eq_true (show (t.size : Int) ≤ 400 by omega)]; exact isPt_of ⟨h1, h2, h4, hd⟩
          · rw [decide_eq_false (show ¬ (t.size : Int) ≤ 400 by omega)]; exact isPt_no fun h => hd h.2.2.2)
        obtain ⟨b, hbb⟩ : ∃ b, decide ((t.size : Int) ≤ 400) = b := ⟨_, rfl⟩
        rw [hbb] at HR
        go_enter Try.func11, Try.ntmps11
        go_wp2_with fail
        refine (specIn_yes c 1 8 _ h1.1 h1.2).mono ?_
        rintro e _ ⟨rfl, rfl⟩
        go_wp2_with fail
        refine (specIn_yes i 0 (c - 1) _ h2.1 (by omega)).mono ?_
        rintro e _ ⟨rfl, rfl⟩
        go_wp2_with fail
        refine (specIn_yes p 0 255 _ h4.1 h4.2).mono ?_
        rintro e _ ⟨rfl, rfl⟩
        clear h4 h2 h1
        cases b
        · have hbn : ¬ (t.size : Int) ≤ 400 := of_decide_eq_false hbb
          clear hbb
          go_wp2_with fail
          go_ret
          exact ⟨ret_bool (by first | exact HR.out | (rw [HR.out]; simp; omega)), (Below.refl _ _).alloc (Nat.le_refl _) _⟩
        · have hbn : (t.size : Int) ≤ 400 := of_decide_eq_true hbb
          clear hbb
          go_wp2_with fail
          go_ret
          exact ⟨ret_bool (by first | exact HR.out | (rw [HR.out]; simp; omega)), (Below.refl _ _).alloc (Nat.le_refl _) _⟩
      · have HR := hide (show isPt ⟨i, c, p, t⟩ = false from isPt_no fun h => h4 h.2.2.1)
        go_enter Try.func11, Try.ntmps11
        go_wp2_with fail
        refine (specIn_yes c 1 8 _ h1.1 h1.2).mono ?_
        rintro e _ ⟨rfl, rfl⟩
        go_wp2_with fail
        refine (specIn_yes i 0 (c - 1) _ h2.1 (by omega)).mono ?_
        rintro e _ ⟨rfl, rfl⟩
        go_wp2_with fail
        refine (specIn_no p 0 255 _ (by omega)).mono ?_
        rintro e _ ⟨rfl, rfl⟩
        go_wp2_with fail
        go_ret
        exact ⟨ret_bool HR.out, (Below.refl _ _).alloc (Nat.le_refl _) _⟩
    · have HR := hide (show isPt ⟨i, c, p, t⟩ = false from isPt_no fun h => h2 h.2.1)
      go_enter Try.func11, Try.ntmps11
      go_wp2_with fail
      refine (specIn_yes c 1 8 _ h1.1 h1.2).mono ?_
      rintro e _ ⟨rfl, rfl⟩
      go_wp2_with fail
      refine (specIn_no i 0 (c - 1) _ (by omega)).mono ?_
      rintro e _ ⟨rfl, rfl⟩
      go_wp2_with fail
      go_ret
      exact ⟨ret_bool HR.out, (Below.refl _ _).alloc (Nat.le_refl _) _⟩
  · have HR := hide (show isPt ⟨i, c, p, t⟩ = false from isPt_no fun h => h1 h.1)
    go_enter Try.func11, Try.ntmps11
    go_wp2_with fail
    refine (specIn_no c 1 8 _ (by omega)).mono ?_
    rintro e _ ⟨rfl, rfl⟩
    go_wp2_with fail
    go_ret
    exact ⟨ret_bool HR.out, (Below.refl _ _).alloc (Nat.le_refl _) _⟩

/-- The exclusive or of numbers. -/
def parI (bs : List Int) : Int := bs.foldl (fun a b => bits .xor .u8 a b) 0
def parT (bs : List Int) (k : Nat) : Int := parI (bs.take k)
theorem parT_step {bs : List Int} {k : Nat} {y : Int} (h : bs[k]? = some y) : parT bs (k + 1) = bits .xor .u8 (parT bs k) y := by
  unfold parT parI
  rw [List.take_add_one, h]
  simp [List.foldl_append]
theorem parT_bd (bs : List Int) (k : Nat) : 0 ≤ parT bs k ∧ parT bs k ≤ 255 := by
  unfold parT parI
  rcases List.eq_nil_or_concat (bs.take k) with h | ⟨l, a, h⟩
  · rw [h]; decide
  · rw [h, List.concat_eq_append, List.foldl_append]
    simp only [List.foldl_cons, List.foldl_nil]
    exact ⟨Go.bits_lo_u8 _ _ _, Go.bits_hi_u8 _ _ _⟩
theorem parT_all (bs : List Int) : parT bs bs.length = parI bs := by unfold parT; rw [List.take_length]
theorem par_bd (bs : List Int) : 0 ≤ parI bs ∧ parI bs ≤ 255 := parT_all bs ▸ parT_bd bs bs.length
def MpRel (w : World) (s : ByteArray) (a i : Value) (wr : World) : Prop :=
  ∃ (k : Nat) (x : Int), k ≤ s.size ∧ i = .int .i64 k ∧ a = .int .u8 x ∧ (0 ≤ x ∧ x ≤ 255) ∧ Hid (x = parT (bytesI s) k) ∧ w = wr

set_option maxHeartbeats 1000000 in
theorem implPar (s : ByteArray) (hs : s.size ≤ 1099511627776) (w : World) :
    Calls Try.prog 15 #[.string s] w fun e w' => e = .returned (.int .i64 (parI (bytesI s))) ∧ w = w' := by
  go_enter Try.func15, Try.ntmps15
  go_wp2_with fail
  go_loopw [3, 7] (fun a i wr => MpRel w s a i wr) (fun _ i _ => s.size - (intOf i).toNat)
  case atStart => exact ⟨0, 0, Nat.zero_le _, rfl, rfl, by omega, hide (by rfl), rfl⟩
  case round =>
    obtain ⟨k, x, hk, rfl, rfl, hx, hp, rfl⟩ := hrel
    have HP := hp
    clear hp
    by_cases hlt : k < s.size
    · obtain ⟨y, hy, hy2, hy0, hy1⟩ := byteAt s hlt
      have HS := hide (show bits .xor .u8 x y = parT (bytesI s) (k + 1) by rw [parT_step hy2, ← HP.out])
      have hb := parT_bd (bytesI s) (k + 1)
      obtain ⟨z, hz⟩ : ∃ z, bits .xor .u8 x y = z := ⟨_, rfl⟩
      rw [hz] at HS
      rw [← HS.out] at hb
      clear hy2
      go_wp2_with fail
      go_roundw
      case rel => exact ⟨k + 1, z, by omega, by go_num, by first | rfl | rw [hz], hb, HS, rfl⟩
      case measure => simp [intOf]; omega
    · have HE := hide (show x = parI (bytesI s) by rw [HP.out, ← parT_all, bytesI_len, show k = s.size by omega])
      go_wp2_with fail
      go_ret
      exact ⟨ret_int HE.out.symm, rfl⟩

set_option maxHeartbeats 1000000 in
theorem specPar (s : ByteArray) (hs : s.size ≤ 1099511627776) (w : World) :
    Calls Try.prog 14 #[.string s] w fun e w' => e = .returned (.int .i64 (parI (bytesI s))) ∧ w = w' := by
  go_enter Try.func14, Try.ntmps14
  go_wp2_with fail
  go_loopw [3, 4] (fun a i wr => MpRel w s a i wr) (fun _ i _ => s.size - (intOf i).toNat)
  case atStart => exact ⟨0, 0, Nat.zero_le _, rfl, rfl, by omega, hide (by rfl), rfl⟩
  case round =>
    obtain ⟨k, x, hk, rfl, rfl, hx, hp, rfl⟩ := hrel
    have HP := hp
    clear hp
    by_cases hlt : k < s.size
    · obtain ⟨y, hy, hy2, hy0, hy1⟩ := byteAt s hlt
      have HS := hide (show bits .xor .u8 x y = parT (bytesI s) (k + 1) by rw [parT_step hy2, ← HP.out])
      have hb := parT_bd (bytesI s) (k + 1)
      obtain ⟨z, hz⟩ : ∃ z, bits .xor .u8 x y = z := ⟨_, rfl⟩
      rw [hz] at HS
      rw [← HS.out] at hb
      clear hy2
      go_wp2_with fail
      go_roundw
      case rel => exact ⟨k + 1, z, by omega, by go_num, by first | rfl | rw [hz], hb, HS, rfl⟩
      case measure => simp [intOf]; omega
    · have HE := hide (show x = parI (bytesI s) by rw [HP.out, ← parT_all, bytesI_len, show k = s.size by omega])
      go_wp2_with fail
      go_ret
      exact ⟨ret_int HE.out.symm, rfl⟩
end Go.Proofs.Ythbmfaogjaahoaa

namespace Go.Proofs.Ythbmfaogjaahoaa
open Go.RowKit
set_option linter.unusedSimpArgs false
set_option linter.unusedVariables false

set_option maxHeartbeats 400000 in
theorem toPart (i c p : Int) (t : ByteArray) (w : World) :
    Calls Try.prog 12 #[.agg #[.int .i64 i, .int .i64 c, .int .i64 p, .string t]] w (Gives (.agg #[.int .i64 i, .int .i64 c, .int .i64 p, .string t]) w) := by
  go_enter Try.func12, Try.ntmps12
  go_wp2_with fail
  refine bodyPost_ret (v := .agg #[.int .i64 i, .int .i64 c, .int .i64 p, .string t]) (by simp [results, Try.results12, go_sem]) rfl ⟨rfl, ?_⟩
  exact ((((Below.refl _ _).alloc (Nat.le_refl _) _).alloc (by rw [alloc_size]; omega) _).alloc (by rw [alloc_size, alloc_size]; omega) _)

def szRp (s : ByteArray) (x : Nat) : Int := if s.size ≤ x then ((x - s.size : Nat) : Int) else -1
theorem szPt (i c p : Int) (s : ByteArray) (x : Nat) (hx : x ≤ 1048576) (hs : s.size ≤ 9223372036854775807) (w : World) :
    Calls Try.prog 10 #[.agg #[.int .i64 i, .int .i64 c, .int .i64 p, .string s], .int .i64 x] w (Gives (.int .i64 (szRp s x)) w) := by
  by_cases h : s.size ≤ x
  · have HR := hide (show szRp s x = (x : Int) - (s.size : Int) by rw [szRp, if_pos h]; omega)
    have hn : ¬ ((x : Int) - (s.size : Int)) < 0 := by omega
    go_enter Try.func10, Try.ntmps10
    go_wp2_with fail
    go_ret
    exact ⟨ret_int HR.out, (Below.refl _ _).alloc (Nat.le_refl _) _⟩
  · have HR := hide (show szRp s x = -1 by rw [szRp, if_neg h])
    have hn : ((x : Int) - (s.size : Int)) < 0 := by omega
    go_enter Try.func10, Try.ntmps10
    go_wp2_with fail
    go_ret
    exact ⟨ret_int HR.out, (Below.refl _ _).alloc (Nat.le_refl _) _⟩

/-- What the size of a slice tells. -/
def SzP (n : Nat) (X : Nat → PtV) (w : World) (x : Ending) (w' : World) : Prop :=
  ∃ r : Int, x = .returned (.int .i64 r) ∧ (r < 0 ∨ (0 ≤ r ∧ n ≤ 1048576 ∧ ∀ j, j < n → (X j).t.size ≤ 1048576)) ∧ Below w.heap.size w w'
def SzPRel (w : World) (n : Nat) (X : Nat → PtV) (l i : Value) (wr : World) : Prop :=
  ∃ k x : Nat, k ≤ n ∧ i = .int .i64 k ∧ l = .int .i64 x ∧ x ≤ 1048576 ∧ Hid (∀ j, j < k → (X j).t.size ≤ 1048576) ∧ Below w.heap.size w wr

set_option maxRecDepth 100000 in
set_option maxHeartbeats 1000000 in
theorem szPts (A : Option Addr) (n c : Nat) (X : Nat → PtV) (w : World) (hI : Pts w w.heap.size A n X) (hn : n ≤ 9223372036854775807) (hT : ∀ j, j < n → (X j).t.size ≤ 9223372036854775807) :
    Calls Try.prog 27 #[.slice A n c, .int .i64 1048576] w (SzP n X w) := by
  have HI := hide hI
  have HT := hide hT
  clear hI hT
  by_cases h : n ≤ 1048576
  · have hn1 : ¬ (1048576 - (n : Int)) < 0 := by omega
    go_enter Try.func27, Try.ntmps27
    go_wp2_with fail
    go_loopw [1, 5] (fun l i wr => SzPRel w n X l i wr) (fun _ i _ => n - (intOf i).toNat)
    case atStart => exact ⟨0, 1048576 - n, Nat.zero_le _, rfl, by go_num, by omega, hide (fun j hj => absurd hj (by omega)), Below.refl _ _⟩
    case round =>
      obtain ⟨k, x, hk, rfl, rfl, hx, hz, hb⟩ := hrel
      have HB := hide hb
      have HZ := hz
      clear hb hz hn1
      by_cases hlt : k < n
      · obtain ⟨b, off, rfl, hb, hc⟩ := HI.out (by omega)
        obtain ⟨e0, e1, e2, e3⟩ := (hc k hlt).below HB.out hb
        have hs := HT.out k hlt
        have HZ1 := hide (fun (h : (X k).t.size ≤ 1048576) (j : Nat) (hj : j < k + 1) => show (X j).t.size ≤ 1048576 from if e : j < k then HZ.out j e else by rw [show j = k by omega]; exact h)
        clear hc
        obtain ⟨i0, hi0⟩ : ∃ m, (X k).i = m := ⟨_, rfl⟩
        obtain ⟨c0, hc0⟩ : ∃ m, (X k).c = m := ⟨_, rfl⟩
        obtain ⟨p0, hp0⟩ : ∃ m, (X k).p = m := ⟨_, rfl⟩
        obtain ⟨s, hse⟩ : ∃ s, (X k).t = s := ⟨_, rfl⟩
        rw [hi0] at e0
        rw [hc0] at e1
        rw [hp0] at e2
        rw [hse] at e3 hs HZ1
        have HC := hide (szPt i0 c0 p0 s x hx hs)
        clear hi0 hc0 hp0 hse
        go_wp2_with fail
        refine (HC.out _).mono ?_
        rintro e w1 ⟨rfl, hb1⟩
        have HB1 := hide (HB.out.trans (hb1.mono HB.out.size))
        clear hb1 HC e0 e1 e2 e3
        by_cases hq : s.size ≤ x
        · have hr : szRp s x = ((x - s.size : Nat) : Int) := by rw [szRp, if_pos hq]
          rw [hr]
          clear hr
          have HZ2 := hide (HZ1.out (by omega))
          obtain ⟨y, hy⟩ : ∃ y, x - s.size = y := ⟨_, rfl⟩
          have hy1 : y ≤ 1048576 := by omega
          rw [hy]
          clear hy hq hs HZ1
          go_wp2_with fail
          go_roundw
          case rel => exact ⟨k + 1, y, by omega, by go_num, rfl, hy1, HZ2, HB1.out⟩
          case measure => simp [intOf]; omega
        · have hr : szRp s x = -1 := by rw [szRp, if_neg hq]
          rw [hr]
          clear hr hq hs HZ1
          have HF := hide (show SzP n X w (.returned (.int .i64 (-1))) w1 from ⟨-1, rfl, .inl (by omega), HB1.out⟩)
          go_wp2_with fail
          go_ret
          exact HF.out
      · have HF := hide (show SzP n X w (.returned (.int .i64 x)) wr from ⟨x, rfl, .inr ⟨by omega, h, fun j hj => HZ.out j (by omega)⟩, HB.out⟩)
        go_wp2_with fail
        go_ret
        exact HF.out
  · have hn1 : (1048576 - (n : Int)) < 0 := by omega
    have HF := hide (show SzP n X w (.returned (.int .i64 (-1))) w from ⟨-1, rfl, .inl (by omega), Below.refl _ _⟩)
    go_enter Try.func27, Try.ntmps27
    go_wp2_with fail
    go_ret
    exact HF.out

/-- A new slice of parts. -/
def NewPt (n : Nat) (X : Nat → PtV) (w : World) (x : Ending) (w' : World) : Prop :=
  ∃ A c, x = .returned (.slice A n c) ∧ n ≤ c ∧ c ≤ 9223372036854775807 ∧ OwnPt w' w.heap.size (.slice A n c) n (ptV X) ∧ Below w.heap.size w w'
def TpRel (w : World) (n : Nat) (X : Nat → PtV) (i : Value) (wr : World) : Prop :=
  ∃ k : Nat, k ≤ n ∧ i = .int .i64 k ∧ OwnPt wr w.heap.size (.slice (some ⟨w.heap.size, 0, none⟩) n n) n (ptT X k) ∧ Below w.heap.size w wr

set_option maxRecDepth 100000 in
set_option maxHeartbeats 1000000 in
theorem toPts (A : Option Addr) (n c B : Nat) (X : Nat → PtV) (w : World) (hI : Pts w B A n X) (hB : B ≤ w.heap.size) (hn : n ≤ 1048576) :
    Calls Try.prog 29 #[.slice A n c] w (NewPt n X w) := by
  obtain ⟨w1, hrun, ho, hb1⟩ := make_pts w w.heap.size n X hn (Nat.le_refl _)
  have HI := hide hI
  have HO := hide ho
  have HB := hide hb1
  clear hI ho hb1
  go_enter Try.func29, Try.ntmps29
  go_wp2_with fail
  clear hrun
  go_loopw [4] (fun i wr => TpRel w n X i wr) (fun i _ => n - (intOf i).toNat)
  case atStart => exact ⟨0, Nat.zero_le _, rfl, HO.out, HB.out⟩
  case round =>
    clear HO HB
    obtain ⟨k, hk, rfl, ho, hb⟩ := hrel
    have HO := hide ho
    have HB := hide hb
    clear ho hb
    by_cases hlt : k < n
    · obtain ⟨b, off, rfl, hb, hc⟩ := HI.out (by omega)
      obtain ⟨e0, e1, e2, e3⟩ := (hc k hlt).below HB.out (by omega)
      clear hc
      have HST := hide (ptT_step X k)
      obtain ⟨i0, hi0⟩ : ∃ m, (X k).i = m := ⟨_, rfl⟩
      obtain ⟨c0, hc0⟩ : ∃ m, (X k).c = m := ⟨_, rfl⟩
      obtain ⟨p0, hp0⟩ : ∃ m, (X k).p = m := ⟨_, rfl⟩
      obtain ⟨s, hse⟩ : ∃ s, (X k).t = s := ⟨_, rfl⟩
      rw [hi0] at e0 HST
      rw [hc0] at e1 HST
      rw [hp0] at e2 HST
      rw [hse] at e3 HST
      clear hi0 hc0 hp0 hse
      go_wp2_with fail
      refine (toPart i0 c0 p0 s _).mono ?_
      rintro e w2 ⟨rfl, hb2⟩
      have HB2 := hide (HB.out.trans (hb2.mono HB.out.size))
      have HO2 := hide (HO.out.next hb2)
      clear hb2 e0 e1 e2 e3
      have f0 := HO2.out.frozen (k * 4)
      have f1 := HO2.out.frozen (k * 4 + 1)
      have f2 := HO2.out.frozen (k * 4 + 2)
      have f3 := HO2.out.frozen (k * 4 + 3)
      have z0 := HO2.out.cell (i := k * 4) (by omega)
      have z1 := HO2.out.cell (i := k * 4 + 1) (by omega)
      have z2 := HO2.out.cell (i := k * 4 + 2) (by omega)
      have z3 := HO2.out.cell (i := k * 4 + 3) (by omega)
      obtain ⟨y0, hy0⟩ : ∃ y, ptT X k (k * 4) = y := ⟨_, rfl⟩
      obtain ⟨y1, hy1⟩ : ∃ y, ptT X k (k * 4 + 1) = y := ⟨_, rfl⟩
      obtain ⟨y2, hy2⟩ : ∃ y, ptT X k (k * 4 + 2) = y := ⟨_, rfl⟩
      obtain ⟨y3, hy3⟩ : ∃ y, ptT X k (k * 4 + 3) = y := ⟨_, rfl⟩
      rw [hy0] at z0
      rw [hy1] at z1
      rw [hy2] at z2
      rw [hy3] at z3
      obtain ⟨q1, q2⟩ := HO2.out.put4 (i := k * 4) ⟨i0, c0, p0, s⟩
      rw [HST.out] at q1
      have Q1 := hide q1
      have Q2 := hide (HB2.out.grown q2 HB2.out.size (fun g hg => by cases hg; exact Nat.le_refl _))
      clear q1 q2 hy0 hy1 hy2 hy3
      go_wp2_with fail
      go_roundw
      case rel => exact ⟨k + 1, by omega, by go_num, Q1.out, Q2.out⟩
      case measure => simp [intOf]; omega
    · obtain rfl : k = n := by omega
      have HF := hide (show NewPt k X w (.returned (.slice (some ⟨w.heap.size, 0, none⟩) k k)) wr from ⟨_, _, rfl, Nat.le_refl _, by omega, HO.out.congr fun i hi => by unfold ptT; rw [if_pos hi], HB.out⟩)
      go_wp2_with fail
      go_ret
      exact HF.out

theorem eqPt_same (i c p : Int) (s : ByteArray) (w : World) :
    Calls Try.prog 20 #[.agg #[.int .i64 i, .int .i64 c, .int .i64 p, .string s], .agg #[.int .i64 i, .int .i64 c, .int .i64 p, .string s]] w (Gives (.bool true) w) := by
  have e1 : (i != i) = false := by simp
  have e2 : (c != c) = false := by simp
  have e3 : (p != p) = false := by simp
  go_enter Try.func20, Try.ntmps20
  go_wp2_with fail
  go_ret
  exact ⟨rfl, ((Below.refl _ _).alloc (Nat.le_refl _) _).alloc (by rw [alloc_size]; omega) _⟩
def EqPRel (w : World) (n : Nat) (i : Value) (wr : World) : Prop := ∃ k : Nat, k ≤ n ∧ i = .int .i64 k ∧ Below w.heap.size w wr

set_option maxRecDepth 100000 in
set_option maxHeartbeats 2000000 in
theorem eqPts_same (A A' : Option Addr) (n c c' B B' : Nat) (X : Nat → PtV) (w : World) (h : Pts w B A n X) (h' : Pts w B' A' n X) (hB : B ≤ w.heap.size) (hB' : B' ≤ w.heap.size) (hn : n ≤ 1048576) :
    Calls Try.prog 24 #[.slice A n c, .slice A' n c'] w (Gives (.bool true) w) := by
  have HO := hide h
  have HO' := hide h'
  clear h h'
  go_enter Try.func24, Try.ntmps24
  go_wp2_with fail
  go_loopw [5] (fun i wr => EqPRel w n i wr) (fun i _ => n - (intOf i).toNat)
  case atStart => exact ⟨0, Nat.zero_le _, rfl, Below.refl _ _⟩
  case round =>
    obtain ⟨i, hi, rfl, hb⟩ := hrel
    have HB := hide hb
    clear hb
    by_cases hlt : i < n
    · obtain ⟨b, off, rfl, hb, hc⟩ := HO.out (by omega)
      obtain ⟨b', off', rfl, hb', hc'⟩ := HO'.out (by omega)
      obtain ⟨i0, hi0⟩ : ∃ m, (X i).i = m := ⟨_, rfl⟩
      obtain ⟨c0, hc0⟩ : ∃ m, (X i).c = m := ⟨_, rfl⟩
      obtain ⟨p0, hp0⟩ : ∃ m, (X i).p = m := ⟨_, rfl⟩
      obtain ⟨s, hse⟩ : ∃ s, (X i).t = s := ⟨_, rfl⟩
      have hX : X i = ⟨i0, c0, p0, s⟩ := by rw [← hi0, ← hc0, ← hp0, ← hse]
      have HCA := hide (fun (wx : World) (hx : Below w.heap.size w wx) => (hX ▸ hc i hlt : PtAt w b (off + i * 4) ⟨i0, c0, p0, s⟩).below hx (by omega))
      have HCB := hide (fun (wx : World) (hx : Below w.heap.size w wx) => (hX ▸ hc' i hlt : PtAt w b' (off' + i * 4) ⟨i0, c0, p0, s⟩).below hx (by omega))
      clear hb hb' hc hc' HO HO' hX hi0 hc0 hp0 hse
      obtain ⟨a0, a1, a2, a3⟩ := HCA.out _ HB.out
      obtain ⟨b0, b1, b2, b3⟩ := HCB.out _ HB.out
      simp only at a0 a1 a2 a3 b0 b1 b2 b3
      go_wp2_with fail
      go_region_held3 (fun w' => (w'.cell? ⟨b, off + i * 4, none⟩ = some (.int .i64 i0) ∧ w'.cell? ⟨b, off + i * 4 + 1, none⟩ = some (.int .i64 c0) ∧ w'.cell? ⟨b, off + i * 4 + 2, none⟩ = some (.int .i64 p0) ∧ w'.cell? ⟨b, off + i * 4 + 3, none⟩ = some (.string s)) ∧ (w'.cell? ⟨b', off' + i * 4, none⟩ = some (.int .i64 i0) ∧ w'.cell? ⟨b', off' + i * 4 + 1, none⟩ = some (.int .i64 c0) ∧ w'.cell? ⟨b', off' + i * 4 + 2, none⟩ = some (.int .i64 p0) ∧ w'.cell? ⟨b', off' + i * 4 + 3, none⟩ = some (.string s)))
        (first
          | exact ⟨HCA.out _ HB.out.drew, HCB.out _ HB.out.drew⟩
          | exact ⟨HCA.out _ HB2.out, HCB.out _ HB2.out⟩)
        ((go_at_call 20; refine (eqPt_same i0 c0 p0 s _).mono ?_; rintro e w2 ⟨rfl, hb2⟩; have HB2 := hide (HB.out.drew.trans (hb2.mono HB.out.drew.size)); clear hb2))
      go_wp2_with fail
      go_roundw
      case rel => exact ⟨i + 1, by omega, by go_num, HB2.out⟩
      case measure => simp [intOf]; omega
    · go_wp2_with fail
      go_ret
      exact ⟨rfl, HB.out⟩
end Go.Proofs.Ythbmfaogjaahoaa
