/-
  The variables of the program's textOf in memory: what its loops keep.
  No condition.
-/
import Derived.Test.YthmpfnbcodolcaaRdF
import Derived.Test.YthmpfnbcodolcaaRdN
import Derived.Test.YthmpfnbcodolcaaRdC
import Derived.Test.YthmpfnbcodolcaaRdE
import Derived.Test.YthmpfnbcodolcaaSgSt
namespace Go.Proofs.Ythmpfnbcodolcaa
open Go Go.RowKit
set_option linter.unusedSimpArgs false
set_option linter.unusedVariables false

/-- The mode, the list, the two results and the text. -/
structure TxM (w W : World) (mv lv : Value) (bt n : Nat) (tx : List Int) : Prop where
  r0 : W.heap[w.heap.size]? = some (.cells #[mv] 103 (0, 0))
  r1 : W.heap[w.heap.size + 1]? = some (.cells #[lv] 24 (0, 0))
  r2 : W.heap[w.heap.size + 1 + 1]? = some (.cells #[.string ⟨#[]⟩] 9 (0, 0))
  r3 : W.heap[w.heap.size + 1 + 1 + 1]? = some (.cells #[.bool false] 4 (0, 0))
  own : Own W (w.heap.size + 1 + 1 + 1 + 1) 5 .u8 (.slice (some ⟨bt, 0, none⟩) n n) tx
  bel : Below w.heap.size w W
section
variable {w W W' : World} {mv lv : Value} {bt n : Nat} {tx : List Int}
theorem TxM.lt (h : TxM w W mv lv bt n tx) : w.heap.size + 1 + 1 + 1 + 1 ≤ bt ∧ bt < W.heap.size := h.own.lt rfl
theorem TxM.next (h : TxM w W mv lv bt n tx) (hb : Below W.heap.size W W') : TxM w W' mv lv bt n tx := by
  have h4 := (Array.getElem?_eq_some_iff.1 h.r3).1
  exact ⟨by rw [hb.block _ (by omega)]; exact h.r0, by rw [hb.block _ (by omega)]; exact h.r1, by rw [hb.block _ (by omega)]; exact h.r2, by rw [hb.block _ (by omega)]; exact h.r3,
    h.own.below hb (Nat.le_refl _), h.bel.trans (hb.mono h.bel.size)⟩
theorem TxM.drew (h : TxM w W mv lv bt n tx) : TxM w W.drew mv lv bt n tx := ⟨h.r0, h.r1, h.r2, h.r3, h.own.drew, h.bel.drew⟩
theorem TxM.turn {B : Nat} (h : TxM w W mv lv bt n tx) (ht : Turn B W W') (hB : w.heap.size ≤ B) : TxM w W' mv lv bt n tx :=
  ⟨ht.row h.r0, ht.row h.r1, ht.row h.r2, ht.row h.r3, ht.own h.own, ht.below h.bel (Nat.le_refl _) hB⟩
/-- Another block is written. -/
theorem TxM.other (h : TxM w W mv lv bt n tx) {b : Nat} (h1 : w.heap.size + 1 + 1 + 1 < b) (h2 : b ≠ bt) (v : Value) : TxM w (W.setCell ⟨b, 0, none⟩ v) mv lv bt n tx :=
  ⟨row_put h.r0 (by omega), row_put h.r1 (by omega), row_put h.r2 (by omega), row_put h.r3 (by omega),
    h.own.grown (row := some b) (grownBy_setCell' W b v) (.inr (by simp [Value.ownBlock]; omega)), h.bel.setCell (p := ⟨b, 0, none⟩) (by show w.heap.size ≤ b; omega) v⟩
/-- The list is written. -/
theorem TxM.list (h : TxM w W mv lv bt n tx) (v : Value) : TxM w (W.setCell ⟨w.heap.size + 1, 0, none⟩ v) mv v bt n tx := by
  have hl := h.lt
  exact ⟨row_put h.r0 (by omega), heap_setCell_same W (w.heap.size + 1) 0 _ _ v h.r1, row_put h.r2 (by omega), row_put h.r3 (by omega),
    h.own.grown (row := some (w.heap.size + 1)) (grownBy_setCell' W (w.heap.size + 1) v) (.inr (by simp [Value.ownBlock]; omega)), h.bel.setCell (p := ⟨w.heap.size + 1, 0, none⟩) (by show w.heap.size ≤ w.heap.size + 1; omega) v⟩
/-- A character is written. -/
theorem TxM.put (h : TxM w W mv lv bt n tx) (j : Nat) (x : Int) : TxM w (W.setCell ⟨bt, j, none⟩ (.int .u8 x)) mv lv bt n (tx.set j x) := by
  have hl := h.lt
  obtain ⟨h1, h2⟩ := h.own.stored j x
  exact ⟨row_put h.r0 (by omega), row_put h.r1 (by omega), row_put h.r2 (by omega), row_put h.r3 (by omega), h1, h.bel.setCell (p := ⟨bt, j, none⟩) (by show w.heap.size ≤ bt; omega) _⟩
theorem TxM.cells (h : TxM w W mv lv bt n tx) : W.cell? ⟨w.heap.size, 0, none⟩ = some mv ∧ W.cell? ⟨w.heap.size + 1, 0, none⟩ = some lv ∧ W.cell? ⟨w.heap.size + 1 + 1, 0, none⟩ = some (.string ⟨#[]⟩) ∧ W.cell? ⟨w.heap.size + 1 + 1 + 1, 0, none⟩ = some (.bool false) :=
  ⟨(cell1 h.r0).1, (cell1 h.r1).1, (cell1 h.r2).1, (cell1 h.r3).1⟩
theorem TxM.open (h : TxM w W mv lv bt n tx) : W.frozen? ⟨w.heap.size + 1, 0, none⟩ = false ∧ W.frozen? ⟨w.heap.size + 1 + 1, 0, none⟩ = false ∧ W.frozen? ⟨w.heap.size + 1 + 1 + 1, 0, none⟩ = false :=
  ⟨(cell1 h.r1).2, (cell1 h.r2).2, (cell1 h.r3).2⟩
end
theorem keeps_put {B : Nat} {W0 W : World} (h : KeepsFrom B W0 W) (a : Addr) (v : Value) : KeepsFrom B W0 (W.setCell a v) := h.trans ((KeepsOthers.setCell W a v).from B)
theorem keeps_turn {B B1 : Nat} {W0 W W' : World} (h : KeepsFrom B W0 W) (h1 : W0.heap.size ≤ B1) (ht : Turn B1 W W') : KeepsFrom B W0 W' := by
  obtain ⟨row, hg, hr⟩ := ht
  exact ownFrom_keepsFrom (β := Unit) (B := B) h1 () W W' row h hg hr
/-- What a round keeps besides: the group's box, the iterator's boxes, the loop's record. -/
structure RdR (w W0 W : World) (mv lv : Value) (bt n : Nat) (tx : List Int) (Bn bg : Nat) (gv : Value) : Prop where
  mem : TxM w W mv lv bt n tx
  grp : W.heap[bg]? = some (.cells #[gv] 22 (0, 0))
  keep : KeepsFrom (Bn + 2) W0 W
  ck : CkKeep Bn W0 W
  lo : bt < Bn ∧ Bn + 2 ≤ bg ∧ bg < W0.heap.size
section
variable {w W0 W W' : World} {mv lv gv : Value} {bt n Bn bg : Nat} {tx : List Int}
theorem RdR.size (h : RdR w W0 W mv lv bt n tx Bn bg gv) : W0.heap.size ≤ W.heap.size := h.keep.size
theorem RdR.next (h : RdR w W0 W mv lv bt n tx Bn bg gv) (hb : Below W.heap.size W W') : RdR w W0 W' mv lv bt n tx Bn bg gv := by
  have h0 := h.lo; have h1 := h.size
  exact ⟨h.mem.next hb, by rw [hb.block _ (by omega)]; exact h.grp, h.keep.trans (keeps_below hb), ⟨(hb.block _ (by omega)).trans h.ck.1, (hb.block _ (by omega)).trans h.ck.2⟩, h0⟩
theorem RdR.drew (h : RdR w W0 W mv lv bt n tx Bn bg gv) : RdR w W0 W.drew mv lv bt n tx Bn bg gv :=
  ⟨h.mem.drew, h.grp, h.keep.trans ((KeepsOthers.drew W).from _), h.ck, h.lo⟩
theorem RdR.turn {B : Nat} (h : RdR w W0 W mv lv bt n tx Bn bg gv) (ht : Turn B W W') (hB : W0.heap.size ≤ B) : RdR w W0 W' mv lv bt n tx Bn bg gv := by
  have h0 := h.lo; have h1 := h.size; have h2 := h.mem.lt
  exact ⟨h.mem.turn ht (by omega), ht.row h.grp, keeps_turn h.keep hB ht, ⟨(ht.block (by omega) (by omega)).trans h.ck.1, (ht.block (by omega) (by omega)).trans h.ck.2⟩, h0⟩
theorem RdR.other (h : RdR w W0 W mv lv bt n tx Bn bg gv) {b : Nat} (hb : W0.heap.size ≤ b) (v : Value) : RdR w W0 (W.setCell ⟨b, 0, none⟩ v) mv lv bt n tx Bn bg gv := by
  have h0 := h.lo; have h1 := h.size; have h2 := h.mem.lt
  exact ⟨h.mem.other (by omega) (by omega) v, row_put h.grp (by omega), keeps_put h.keep _ _,
    ⟨(heap_setCell_other W ⟨b, 0, none⟩ Bn v (show Bn ≠ b by omega)).trans h.ck.1, (heap_setCell_other W ⟨b, 0, none⟩ (Bn + 1) v (show Bn + 1 ≠ b by omega)).trans h.ck.2⟩, h0⟩
theorem RdR.list (h : RdR w W0 W mv lv bt n tx Bn bg gv) (v : Value) : RdR w W0 (W.setCell ⟨w.heap.size + 1, 0, none⟩ v) mv v bt n tx Bn bg gv := by
  have h0 := h.lo; have h1 := h.size; have h2 := h.mem.lt
  exact ⟨h.mem.list v, row_put h.grp (by omega), keeps_put h.keep _ _,
    ⟨(heap_setCell_other W ⟨w.heap.size + 1, 0, none⟩ Bn v (show Bn ≠ w.heap.size + 1 by omega)).trans h.ck.1, (heap_setCell_other W ⟨w.heap.size + 1, 0, none⟩ (Bn + 1) v (show Bn + 1 ≠ w.heap.size + 1 by omega)).trans h.ck.2⟩, h0⟩
theorem RdR.put (h : RdR w W0 W mv lv bt n tx Bn bg gv) (j : Nat) (x : Int) : RdR w W0 (W.setCell ⟨bt, j, none⟩ (.int .u8 x)) mv lv bt n (tx.set j x) Bn bg gv := by
  have h0 := h.lo; have h1 := h.size; have h2 := h.mem.lt
  exact ⟨h.mem.put j x, row_put h.grp (by omega), keeps_put h.keep _ _,
    ⟨(heap_setCell_other W ⟨bt, j, none⟩ Bn _ (show Bn ≠ bt by omega)).trans h.ck.1, (heap_setCell_other W ⟨bt, j, none⟩ (Bn + 1) _ (show Bn + 1 ≠ bt by omega)).trans h.ck.2⟩, h0⟩
theorem RdR.cells (h : RdR w W0 W mv lv bt n tx Bn bg gv) : W.cell? ⟨w.heap.size, 0, none⟩ = some mv ∧ W.cell? ⟨w.heap.size + 1, 0, none⟩ = some lv ∧ W.cell? ⟨bg, 0, none⟩ = some gv :=
  ⟨h.mem.cells.1, h.mem.cells.2.1, (cell1 h.grp).1⟩
end
/-- What the inner round keeps. -/
structure KpB (B bk : Nat) (W0 W : World) : Prop where
  keep : KeepsFrom B W0 W
  box : W.heap[bk]? = W0.heap[bk]?
  lt : bk < W0.heap.size
theorem KpB.refl {B bk : Nat} {W : World} (h : bk < W.heap.size) : KpB B bk W W := ⟨KeepsFrom.refl _ _, rfl, h⟩
theorem KpB.next {B bk : Nat} {W0 W W' : World} (h : KpB B bk W0 W) (hb : Below W.heap.size W W') : KpB B bk W0 W' :=
  ⟨h.keep.trans (keeps_below hb), (hb.block _ (Nat.lt_of_lt_of_le h.lt h.keep.size)).trans h.box, h.lt⟩
theorem KpB.drew {B bk : Nat} {W0 W : World} (h : KpB B bk W0 W) : KpB B bk W0 W.drew := ⟨h.keep.trans ((KeepsOthers.drew W).from _), h.box, h.lt⟩
theorem KpB.put {B bk : Nat} {W0 W : World} (h : KpB B bk W0 W) {b : Nat} (hne : bk ≠ b) (j : Nat) (v : Value) : KpB B bk W0 (W.setCell ⟨b, j, none⟩ v) :=
  ⟨keeps_put h.keep _ _, (heap_setCell_other W ⟨b, j, none⟩ bk v hne).trans h.box, h.lt⟩
/-- make([]byte, n). -/
theorem make_u8 (w : World) (n : Nat) (hn : n ≤ 255) : ∃ w', (Instr.makeSlice 22 (.int .i64 (n : Int)) (.int .i64 (n : Int))).run Try.prog w = .ok (.slice (some ⟨w.heap.size, 0, none⟩) n n) w' ∧
    Own w' w.heap.size 5 .u8 (.slice (some ⟨w.heap.size, 0, none⟩) n n) (List.replicate n 0) ∧ Below w.heap.size w w' := by
  obtain ⟨i, hi, hz0, hz1, hz2⟩ := info_parts (elem8 : IsElem Try.prog _ _ _ _).info
  obtain ⟨w', hrun, ho, hg⟩ := run_make_full (P := Try.prog) w w.heap.size 22 5 i (.int .u8 0) 1 elem8.under hi hz0 hz1 .i64 .i64 n (Nat.le_trans (Nat.mul_le_mul_right _ (by rw [hz2]; exact elem8.small)) (show 8 * n ≤ 281474976710656 by omega)) (by simp only [maxLen]; omega) (Nat.le_refl _)
  refine ⟨w', hrun, Own.intro ho (by simp) ?_, (Below.refl w.heap.size w).grown hg (Nat.le_refl _) (by simp)⟩
  rw [Nat.mul_one]
  show (madeCells #[Value.int .u8 0] n).toList = _
  rw [toList_madeCells_one, List.map_replicate]
/-- A slice's rest. -/
theorem cut_rest (A : Option Addr) (m c s : Nat) (h : s ≤ m) (w : World) : (Instr.sliceAt 24 (.slice A m c) (some (.int .i64 (s : Int))) none none).run Try.prog w = .ok (.slice (subA A c s) (m - s) (c - s)) w := by
  have hu : Try.prog.underlying 24 = some (.slice (Try.prog.elem 24)) := by kernel_rfl
  have hz : (sizeOf (Try.prog.elem 24)).run Try.prog w = .ok 1 w := by
    have h : Try.prog.elem 24 = 2 := by kernel_rfl
    rw [h]
    obtain ⟨i, hi, hz0, hz1, hz2⟩ := info_parts info64
    simp [sizeOf, typeInfo, hi, hz1]
  rw [run_sliceAt_slice w _ _ _ _ _ hu, run_slice_l w _ A m c hu .i64 (s : Int) (by omega) (by omega), hz, Result.andThen_ok, sliced]
  simp only [Int.toNat_natCast, Nat.mul_one]
  rfl
theorem Ints.tailI {k : IntKind} {w : World} {B n c s : Nat} {A : Option Addr} {zs : List Int} (h : Ints k w B A n zs) (hc : n ≤ c) (hs : s ≤ n) : Ints k w B (subA A c s) (n - s) (zs.drop s) := by
  have := h.sub hc (lo := s) (m := n - s) (by omega)
  rwa [List.take_of_length_le (by rw [List.length_drop, h.len]; exact Nat.le_refl _)] at this
/-- The text behind some groups, and within one. -/
theorem tx_begin {zs : List Int} {m : Int} {n j p cc q : Nat} (hj : (rdT zs 0 m n j).length = p) (hn : p + cc + q = n) (B v : Nat) :
    rdT zs 0 m n j ++ List.replicate (n - p) 0 = rdT zs 0 m n j ++ (List.replicate (cc - 0) 0 ++ dgN B m v 0) ++ List.replicate q 0 := by
  rw [show n - p = cc + q by omega, ← List.replicate_append_replicate]
  simp [dgN, List.append_assoc]
theorem tx_put {P D : List Int} {p kk q : Nat} {y : Int} (hp : P.length = p) :
    (P ++ (List.replicate (kk + 1) 0 ++ D) ++ List.replicate q 0).set (p + kk) y = P ++ (List.replicate kk 0 ++ (y :: D)) ++ List.replicate q 0 := by
  rw [List.append_assoc, List.set_append_right _ _ (by omega), show p + kk - P.length = kk by omega, List.replicate_succ', List.append_assoc (List.replicate kk 0), List.append_assoc (List.replicate kk 0), List.set_append_right _ _ (by simp)]
  simp [List.append_assoc]
theorem tx_cell {P D : List Int} {p r q i : Nat} (hp : P.length = p) (hi : i < r) : (P ++ (List.replicate r 0 ++ D) ++ List.replicate q 0)[p + i]? = some 0 := by
  rw [List.append_assoc, List.getElem?_append_right (by omega), show p + i - P.length = i by omega, List.append_assoc, List.getElem?_append_left (by simp; omega), List.getElem?_replicate, if_pos hi]
end Go.Proofs.Ythmpfnbcodolcaa
