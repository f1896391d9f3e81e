/-
  The variables of the program's textOf in memory: what its loops keep.
  The program's textOf: the text that is written at the beginning of a bit list.
  Condition: as each statement says.
-/
import Derived.Test.YthbmfaogjaahoaaPD
import Derived.Test.YthbmfaogjaahoaaPB
import Derived.Test.YthbmfaogjaahoaaPE
namespace Go.Proofs.Ythbmfaogjaahoaa
open Go Go.RowKit
set_option linter.unusedSimpArgs false
set_option linter.unusedVariables false

/-- The mode, the list, the two results and the text. -/
structure TxM (w W : World) (mv lv : Value) (bt n : Nat) (tx : List Int) : Prop where
  r0 : W.heap[w.heap.size]? = some (.cells #[mv] 155 (0, 0))
  r1 : W.heap[w.heap.size + 1]? = some (.cells #[lv] 33 (0, 0))
  r2 : W.heap[w.heap.size + 1 + 1]? = some (.cells #[.string ⟨#[]⟩] 9 (0, 0))
  r3 : W.heap[w.heap.size + 1 + 1 + 1]? = some (.cells #[.bool false] 4 (0, 0))
  own : Own W (w.heap.size + 1 + 1 + 1 + 1) 5 .u8 (.slice (some ⟨bt, 0, none⟩) n n) tx
  bel : Below w.heap.size w W
section
variable {w W W' : World} {mv lv : Value} {bt n : Nat} {tx : List Int}
theorem TxM.lt (h : TxM w W mv lv bt n tx) : w.heap.size + 1 + 1 + 1 + 1 ≤ bt ∧ bt < W.heap.size := h.own.lt rfl
theorem TxM.next (h : TxM w W mv lv bt n tx) (hb : Below W.heap.size W W') : TxM w W' mv lv bt n tx := by
  have h4 := (Array.getElem?_eq_some_iff.1 h.r3).1
  exact ⟨by rw [hb.block _ (by omega)]; exact h.r0, by rw [hb.block _ (by omega)]; exact h.r1, by rw [hb.block _ (by omega)]; exact h.r2, by rw [hb.block _ (by omega)]; exact h.r3,
    h.own.below hb (Nat.le_refl _), h.bel.trans (hb.mono h.bel.size)⟩
theorem TxM.drew (h : TxM w W mv lv bt n tx) : TxM w W.drew mv lv bt n tx := ⟨h.r0, h.r1, h.r2, h.r3, h.own.drew, h.bel.drew⟩
theorem TxM.turn {B : Nat} (h : TxM w W mv lv bt n tx) (ht : Turn B W W') (hB : w.heap.size ≤ B) : TxM w W' mv lv bt n tx :=
  ⟨ht.row h.r0, ht.row h.r1, ht.row h.r2, ht.row h.r3, ht.own h.own, ht.below h.bel (Nat.le_refl _) hB⟩
/-- Another block is written. -/
theorem TxM.other (h : TxM w W mv lv bt n tx) {b : Nat} (h1 : w.heap.size + 1 + 1 + 1 < b) (h2 : b ≠ bt) (v : Value) : TxM w (W.setCell ⟨b, 0, none⟩ v) mv lv bt n tx :=
  ⟨row_put h.r0 (by omega), row_put h.r1 (by omega), row_put h.r2 (by omega), row_put h.r3 (by omega),
    h.own.grown (row := some b) (grownBy_setCell' W b v) (.inr (by simp [Value.ownBlock]; omega)), h.bel.setCell (p := ⟨b, 0, none⟩) (by show w.heap.size ≤ b; omega) v⟩
/-- The list is written. -/
theorem TxM.list (h : TxM w W mv lv bt n tx) (v : Value) : TxM w (W.setCell ⟨w.heap.size + 1, 0, none⟩ v) mv v bt n tx := by
  have hl := h.lt
  exact ⟨row_put h.r0 (by omega), heap_setCell_same W (w.heap.size + 1) 0 _ _ v h.r1, row_put h.r2 (by omega), row_put h.r3 (by omega),
    h.own.grown (row := some (w.heap.size + 1)) (grownBy_setCell' W (w.heap.size + 1) v) (.inr (by simp [Value.ownBlock]; omega)), h.bel.setCell (p := ⟨w.heap.size + 1, 0, none⟩) (by show w.heap.size ≤ w.heap.size + 1; omega) v⟩
/-- A character is written. -/
theorem TxM.put (h : TxM w W mv lv bt n tx) (j : Nat) (x : Int) : TxM w (W.setCell ⟨bt, j, none⟩ (.int .u8 x)) mv lv bt n (tx.set j x) := by
  have hl := h.lt
  obtain ⟨h1, h2⟩ := h.own.stored j x
  exact ⟨row_put h.r0 (by omega), row_put h.r1 (by omega), row_put h.r2 (by omega), row_put h.r3 (by omega), h1, h.bel.setCell (p := ⟨bt, j, none⟩) (by show w.heap.size ≤ bt; omega) _⟩
theorem TxM.cells (h : TxM w W mv lv bt n tx) : W.cell? ⟨w.heap.size, 0, none⟩ = some mv ∧ W.cell? ⟨w.heap.size + 1, 0, none⟩ = some lv ∧ W.cell? ⟨w.heap.size + 1 + 1, 0, none⟩ = some (.string ⟨#[]⟩) ∧ W.cell? ⟨w.heap.size + 1 + 1 + 1, 0, none⟩ = some (.bool false) :=
  ⟨(cell1 h.r0).1, (cell1 h.r1).1, (cell1 h.r2).1, (cell1 h.r3).1⟩
theorem TxM.open (h : TxM w W mv lv bt n tx) : W.frozen? ⟨w.heap.size + 1, 0, none⟩ = false ∧ W.frozen? ⟨w.heap.size + 1 + 1, 0, none⟩ = false ∧ W.frozen? ⟨w.heap.size + 1 + 1 + 1, 0, none⟩ = false :=
  ⟨(cell1 h.r1).2, (cell1 h.r2).2, (cell1 h.r3).2⟩
end
theorem keeps_put {B : Nat} {W0 W : World} (h : KeepsFrom B W0 W) (a : Addr) (v : Value) : KeepsFrom B W0 (W.setCell a v) := h.trans ((KeepsOthers.setCell W a v).from B)
theorem keeps_turn {B B1 : Nat} {W0 W W' : World} (h : KeepsFrom B W0 W) (h1 : W0.heap.size ≤ B1) (ht : Turn B1 W W') : KeepsFrom B W0 W' := by
  obtain ⟨row, hg, hr⟩ := ht
  exact ownFrom_keepsFrom (β := Unit) (B := B) h1 () W W' row h hg hr
/-- What a round keeps besides: the group's box, the iterator's boxes, the loop's record. -/
structure RdR (w W0 W : World) (mv lv : Value) (bt n : Nat) (tx : List Int) (Bn bg : Nat) (gv : Value) : Prop where
  mem : TxM w W mv lv bt n tx
  grp : W.heap[bg]? = some (.cells #[gv] 57 (0, 0))
  keep : KeepsFrom (Bn + 2) W0 W
  ck : CkKeep Bn W0 W
  lo : bt < Bn ∧ Bn + 2 ≤ bg ∧ bg < W0.heap.size
section
variable {w W0 W W' : World} {mv lv gv : Value} {bt n Bn bg : Nat} {tx : List Int}
theorem RdR.size (h : RdR w W0 W mv lv bt n tx Bn bg gv) : W0.heap.size ≤ W.heap.size := h.keep.size
theorem RdR.next (h : RdR w W0 W mv lv bt n tx Bn bg gv) (hb : Below W.heap.size W W') : RdR w W0 W' mv lv bt n tx Bn bg gv := by
  have h0 := h.lo; have h1 := h.size
  exact ⟨h.mem.next hb, by rw [hb.block _ (by omega)]; exact h.grp, h.keep.trans (keeps_below hb), ⟨(hb.block _ (by omega)).trans h.ck.1, (hb.block _ (by omega)).trans h.ck.2⟩, h0⟩
theorem RdR.drew (h : RdR w W0 W mv lv bt n tx Bn bg gv) : RdR w W0 W.drew mv lv bt n tx Bn bg gv :=
  ⟨h.mem.drew, h.grp, h.keep.trans ((KeepsOthers.drew W).from _), h.ck, h.lo⟩
theorem RdR.turn {B : Nat} (h : RdR w W0 W mv lv bt n tx Bn bg gv) (ht : Turn B W W') (hB : W0.heap.size ≤ B) : RdR w W0 W' mv lv bt n tx Bn bg gv := by
  have h0 := h.lo; have h1 := h.size; have h2 := h.mem.lt
  exact ⟨h.mem.turn ht (by omega), ht.row h.grp, keeps_turn h.keep hB ht, ⟨(ht.block (by omega) (by omega)).trans h.ck.1, (ht.block (by omega) (by omega)).trans h.ck.2⟩, h0⟩
theorem RdR.other (h : RdR w W0 W mv lv bt n tx Bn bg gv) {b : Nat} (hb : W0.heap.size ≤ b) (v : Value) : RdR w W0 (W.setCell ⟨b, 0, none⟩ v) mv lv bt n tx Bn bg gv := by
  have h0 := h.lo; have h1 := h.size; have h2 := h.mem.lt
  exact ⟨h.mem.other (by omega) (by omega) v, row_put h.grp (by omega), keeps_put h.keep _ _,
    ⟨(heap_setCell_other W ⟨b, 0, none⟩ Bn v (show Bn ≠ b by omega)).trans h.ck.1, (heap_setCell_other W ⟨b, 0, none⟩ (Bn + 1) v (show Bn + 1 ≠ b by omega)).trans h.ck.2⟩, h0⟩
theorem RdR.list (h : RdR w W0 W mv lv bt n tx Bn bg gv) (v : Value) : RdR w W0 (W.setCell ⟨w.heap.size + 1, 0, none⟩ v) mv v bt n tx Bn bg gv := by
  have h0 := h.lo; have h1 := h.size; have h2 := h.mem.lt
  exact ⟨h.mem.list v, row_put h.grp (by omega), keeps_put h.keep _ _,
    ⟨(heap_setCell_other W ⟨w.heap.size + 1, 0, none⟩ Bn v (show Bn ≠ w.heap.size + 1 by omega)).trans h.ck.1, (heap_setCell_other W ⟨w.heap.size + 1, 0, none⟩ (Bn + 1) v (show Bn + 1 ≠ w.heap.size + 1 by omega)).trans h.ck.2⟩, h0⟩
theorem RdR.put (h : RdR w W0 W mv lv bt n tx Bn bg gv) (j : Nat) (x : Int) : RdR w W0 (W.setCell ⟨bt, j, none⟩ (.int .u8 x)) mv lv bt n (tx.set j x) Bn bg gv := by
  have h0 := h.lo; have h1 := h.size; have h2 := h.mem.lt
  exact ⟨h.mem.put j x, row_put h.grp (by omega), keeps_put h.keep _ _,
    ⟨(heap_setCell_other W ⟨bt, j, none⟩ Bn _ (show Bn ≠ bt by omega)).trans h.ck.1, (heap_setCell_other W ⟨bt, j, none⟩ (Bn + 1) _ (show Bn + 1 ≠ bt by omega)).trans h.ck.2⟩, h0⟩
theorem RdR.cells (h : RdR w W0 W mv lv bt n tx Bn bg gv) : W.cell? ⟨w.heap.size, 0, none⟩ = some mv ∧ W.cell? ⟨w.heap.size + 1, 0, none⟩ = some lv ∧ W.cell? ⟨bg, 0, none⟩ = some gv :=
  ⟨h.mem.cells.1, h.mem.cells.2.1, (cell1 h.grp).1⟩
end
/-- What the inner round keeps. -/
structure KpB (B bk : Nat) (W0 W : World) : Prop where
  keep : KeepsFrom B W0 W
  box : W.heap[bk]? = W0.heap[bk]?
  lt : bk < W0.heap.size
theorem KpB.refl {B bk : Nat} {W : World} (h : bk < W.heap.size) : KpB B bk W W := ⟨KeepsFrom.refl _ _, rfl, h⟩
theorem KpB.next {B bk : Nat} {W0 W W' : World} (h : KpB B bk W0 W) (hb : Below W.heap.size W W') : KpB B bk W0 W' :=
  ⟨h.keep.trans (keeps_below hb), (hb.block _ (Nat.lt_of_lt_of_le h.lt h.keep.size)).trans h.box, h.lt⟩
theorem KpB.drew {B bk : Nat} {W0 W : World} (h : KpB B bk W0 W) : KpB B bk W0 W.drew := ⟨h.keep.trans ((KeepsOthers.drew W).from _), h.box, h.lt⟩
theorem KpB.put {B bk : Nat} {W0 W : World} (h : KpB B bk W0 W) {b : Nat} (hne : bk ≠ b) (j : Nat) (v : Value) : KpB B bk W0 (W.setCell ⟨b, j, none⟩ v) :=
  ⟨keeps_put h.keep _ _, (heap_setCell_other W ⟨b, j, none⟩ bk v hne).trans h.box, h.lt⟩
/-- make([]byte, n). -/
theorem make_u8 (w : World) (n : Nat) (hn : n ≤ 255) : ∃ w', (Instr.makeSlice 57 (.int .i64 (n : Int)) (.int .i64 (n : Int))).run Try.prog w = .ok (.slice (some ⟨w.heap.size, 0, none⟩) n n) w' ∧
    Own w' w.heap.size 5 .u8 (.slice (some ⟨w.heap.size, 0, none⟩) n n) (List.replicate n 0) ∧ Below w.heap.size w w' := by
  obtain ⟨i, hi, hz0, hz1, hz2⟩ := info_parts (elem8 : IsElem Try.prog _ _ _ _).info
  obtain ⟨w', hrun, ho, hg⟩ := run_make_full (P := Try.prog) w w.heap.size 57 5 i (.int .u8 0) 1 elem8.under hi hz0 hz1 .i64 .i64 n (Nat.le_trans (Nat.mul_le_mul_right _ (by rw [hz2]; exact elem8.small)) (show 8 * n ≤ 281474976710656 by omega)) (by simp only [maxLen]; omega) (Nat.le_refl _)
  refine ⟨w', hrun, Own.intro ho (by simp) ?_, (Below.refl w.heap.size w).grown hg (Nat.le_refl _) (by simp)⟩
  rw [Nat.mul_one]
  show (madeCells #[Value.int .u8 0] n).toList = _
  rw [toList_madeCells_one, List.map_replicate]
/-- A slice's rest. -/
theorem cut_rest (A : Option Addr) (m c s : Nat) (h : s ≤ m) (w : World) : (Instr.sliceAt 33 (.slice A m c) (some (.int .i64 (s : Int))) none none).run Try.prog w = .ok (.slice (subA A c s) (m - s) (c - s)) w := by
  have hu : Try.prog.underlying 33 = some (.slice (Try.prog.elem 33)) := by kernel_rfl
  have hz : (sizeOf (Try.prog.elem 33)).run Try.prog w = .ok 1 w := by
    have h : Try.prog.elem 33 = 2 := by kernel_rfl
    rw [h]
    obtain ⟨i, hi, hz0, hz1, hz2⟩ := info_parts info64
    simp [sizeOf, typeInfo, hi, hz1]
  rw [run_sliceAt_slice w _ _ _ _ _ hu, run_slice_l w _ A m c hu .i64 (s : Int) (by omega) (by omega), hz, Result.andThen_ok, sliced]
  simp only [Int.toNat_natCast, Nat.mul_one]
  rfl
theorem Ints.tailI {k : IntKind} {w : World} {B n c s : Nat} {A : Option Addr} {zs : List Int} (h : Ints k w B A n zs) (hc : n ≤ c) (hs : s ≤ n) : Ints k w B (subA A c s) (n - s) (zs.drop s) := by
  have := h.sub hc (lo := s) (m := n - s) (by omega)
  rwa [List.take_of_length_le (by rw [List.length_drop, h.len]; exact Nat.le_refl _)] at this
/-- The text behind some groups, and within one. -/
theorem tx_begin {zs : List Int} {m : Int} {n j p cc q : Nat} (hj : (rdT zs 0 m n j).length = p) (hn : p + cc + q = n) (B v : Nat) :
    rdT zs 0 m n j ++ List.replicate (n - p) 0 = rdT zs 0 m n j ++ (List.replicate (cc - 0) 0 ++ dgN B m v 0) ++ List.replicate q 0 := by
  rw [show n - p = cc + q by omega, ← List.replicate_append_replicate]
  simp [dgN, List.append_assoc]
theorem tx_put {P D : List Int} {p kk q : Nat} {y : Int} (hp : P.length = p) :
    (P ++ (List.replicate (kk + 1) 0 ++ D) ++ List.replicate q 0).set (p + kk) y = P ++ (List.replicate kk 0 ++ (y :: D)) ++ List.replicate q 0 := by
  rw [List.append_assoc, List.set_append_right _ _ (by omega), show p + kk - P.length = kk by omega, List.replicate_succ', List.append_assoc (List.replicate kk 0), List.append_assoc (List.replicate kk 0), List.set_append_right _ _ (by simp)]
  simp [List.append_assoc]
theorem tx_cell {P D : List Int} {p r q i : Nat} (hp : P.length = p) (hi : i < r) : (P ++ (List.replicate r 0 ++ D) ++ List.replicate q 0)[p + i]? = some 0 := by
  rw [List.append_assoc, List.getElem?_append_right (by omega), show p + i - P.length = i by omega, List.append_assoc, List.getElem?_append_left (by simp; omega), List.getElem?_replicate, if_pos hi]
end Go.Proofs.Ythbmfaogjaahoaa

namespace Go.Proofs.Ythbmfaogjaahoaa
open Go Go.RowKit
set_option linter.unusedSimpArgs false
set_option linter.unusedVariables false
attribute [local go_sem] Oper.semAt_some
set_option maxRecDepth 100000 in
set_option maxHeartbeats 4000000 in
theorem implTextA (m : Int) (hm : 1 ≤ m ∧ m ≤ 4) (a : ByteArray) (z : Int) (G : Nat) (hGG : gsz m = G) (HM : MV m = .iface 170 (.agg #[.string a, .int .i64 z]))
    (hC : ∀ w, Calls Try.prog 150 #[.agg #[.string a, .int .i64 z]] w (Gives (.int .i64 (gbase m : Nat)) w)) (hCH : ∀ (x : Nat) w, x < gbase m → Calls Try.prog 149 #[.agg #[.string a, .int .i64 z], .int .i64 x] w (Gives (.int .u8 (chr m (x : Int))) w)) (hGS : ∀ w, Calls Try.prog 151 #[.agg #[.string a, .int .i64 z]] w (Gives (.int .i64 (G : Nat)) w))
    (A : Option Addr) (k c B : Nat) (zs : List Int) (n : Nat) (w : World) (hn : 1 ≤ n ∧ n ≤ 255) (hI : Ints .i64 w B A k zs) (hB : B ≤ w.heap.size) (hk : k ≤ 8192) (hc : k ≤ c) (hcc : c ≤ 9223372036854775807) (hbt : ∀ x ∈ zs, x = 0 ∨ x = 1) :
    Calls Try.prog 114 #[.iface 170 (.agg #[.string a, .int .i64 z]), .slice A k c, .int .i64 n] w fun e w' => e = .returned (.tuple #[.string (rtS zs m n), .bool (rtB zs m n)]) ∧ Below w.heap.size w w' := by
  have HI := hide hI
  have hl := hide hI.len
  have HBT := hide hbt
  have HC := hide hC
  have HCH := hide hCH
  have HGS := hide hGS
  have HX := hide HM
  have HGG := hide hGG
  have HTW := hide (fun w => implTextWidth m hm n hn.2 w)
  rw [HM] at HTW
  have hg1 : 1 ≤ G := by rw [← hGG]; exact gsz_pos m
  have hg3 : G ≤ 3 := by rw [← hGG]; exact gsz_le m
  have hmdC := mdC_a
  have hmdK := mdK_a
  have hnaK := naK_a
  have hmdG := mdG_a
  obtain ⟨T, hT⟩ : ∃ T, twid m n = T := ⟨_, rfl⟩
  have HT := hide hT
  rw [hT] at HTW
  clear hC hCH hGS HM hGG hI hbt hT
  refine (callsIn_wide (n := 6)).1 ?_
  refine callsIn_of_wp_marks Try.func114 rfl trivial ?_ rfl
  simp only [Try.ntmps114, List.size_toArray, List.length_cons, List.length_nil, Nat.reduceAdd, Nat.reduceSub, Array.replicate_succ, Array.replicate_zero, List.push_toArray, List.append_toArray, List.nil_append, List.cons_append]
  gi_wp2_with fail
  obtain ⟨Wa, hWa⟩ : ∃ Wa, Wa = ((((w.alloc (.cells #[.iface 170 (.agg #[.string a, .int .i64 z])] 155)).alloc (.cells #[.slice A k c] 33)).alloc (.cells #[.string ⟨#[]⟩] 9)).alloc (.cells #[.bool false] 4)) := ⟨_, rfl⟩
  rw [← hWa]
  have hWs : Wa.heap.size = w.heap.size + 4 := by rw [hWa, alloc_size, alloc_size, alloc_size, alloc_size]
  have HBa := hide (show Below w.heap.size w Wa by
    rw [hWa]
    exact ((((Below.refl _ w).alloc (Nat.le_refl _) _).alloc (by rw [alloc_size]; omega) _).alloc (by rw [alloc_size, alloc_size]; omega) _).alloc (by rw [alloc_size, alloc_size, alloc_size]; omega) _)
  have HK := hide (show Wa.heap[w.heap.size]? = some (.cells #[.iface 170 (.agg #[.string a, .int .i64 z])] 155 (0, 0)) ∧ Wa.heap[w.heap.size + 1]? = some (.cells #[.slice A k c] 33 (0, 0)) ∧ Wa.heap[w.heap.size + 1 + 1]? = some (.cells #[.string ⟨#[]⟩] 9 (0, 0)) ∧ Wa.heap[w.heap.size + 1 + 1 + 1]? = some (.cells #[.bool false] 4 (0, 0)) by
    have q0 := heap_alloc_new w (.cells #[.iface 170 (.agg #[.string a, .int .i64 z])] 155)
    have q1 := heap_alloc_new (w.alloc (.cells #[.iface 170 (.agg #[.string a, .int .i64 z])] 155)) (.cells #[.slice A k c] 33)
    have q2 := heap_alloc_new ((w.alloc (.cells #[.iface 170 (.agg #[.string a, .int .i64 z])] 155)).alloc (.cells #[.slice A k c] 33)) (.cells #[.string ⟨#[]⟩] 9)
    have q3 := heap_alloc_new (((w.alloc (.cells #[.iface 170 (.agg #[.string a, .int .i64 z])] 155)).alloc (.cells #[.slice A k c] 33)).alloc (.cells #[.string ⟨#[]⟩] 9)) (.cells #[.bool false] 4)
    simp only [alloc_size] at q1 q2 q3
    rw [hWa]
    exact ⟨row_keep (row_keep (row_keep q0 _) _) _, row_keep (row_keep q1 _) _, row_keep q2 _, q3⟩)
  clear hWa
  have hk9 : k ≤ 9223372036854775807 := by omega
  refine region_only ?_
  refine tail_begin (fun w' => w'.cell? ⟨w.heap.size, 0, none⟩ = some (.iface 170 (.agg #[.string a, .int .i64 z])) ∧ w'.cell? ⟨w.heap.size + 1, 0, none⟩ = some (.slice A k c)) 6 (by kernel_rfl) ⟨(cell1 HK.out.1).1, (cell1 HK.out.2.1).1⟩ (fun hS' => ?_)
  refine tail_take2 0 rfl (by kernel_rfl) (by kernel_rfl) (by kernel_rfl) (by decide) (fun _ _ _ h => h) (by rfl) (v := ?_) ?_ (by assumption) ?_
  rotate_left 1
  · intro w' hS'; obtain ⟨d0, d1⟩ := hS'; go_simp; try with_reducible rfl
  try simp only [Act.put, List.setIfInBounds_toArray, List.set_cons_zero, List.set_cons_succ]
  refine tail_take2 1 rfl (by kernel_rfl) (by kernel_rfl) (by kernel_rfl) (by decide) (fun _ _ _ h => h) (by rfl) (v := ?_) ?_ (by assumption) ?_
  rotate_left 1
  · intro w' hS'; obtain ⟨d0, d1⟩ := hS'; go_simp; try with_reducible rfl
  try simp only [Act.put, List.setIfInBounds_toArray, List.set_cons_zero, List.set_cons_succ]
  refine tail_take2 2 rfl (by kernel_rfl) (by kernel_rfl) (by kernel_rfl) (by decide) (fun _ _ _ h => h) (by rfl) (v := ?_) ?_ (by assumption) ?_
  rotate_left 1
  · intro w' hS'; obtain ⟨d0, d1⟩ := hS'; go_simp; try with_reducible rfl
  try simp only [Act.put, List.setIfInBounds_toArray, List.set_cons_zero, List.set_cons_succ]
  refine tail_take2 3 rfl (by kernel_rfl) (by kernel_rfl) (by kernel_rfl) (by decide) (fun _ _ _ h => h) (by rfl) (v := ?_) ?_ (by assumption) ?_
  rotate_left 1
  · intro w' hS'; obtain ⟨d0, d1⟩ := hS'; go_simp; try with_reducible rfl
  try simp only [Act.put, List.setIfInBounds_toArray, List.set_cons_zero, List.set_cons_succ]
  refine tail_call 4 rfl (by kernel_rfl) rfl (fun K hK => ?_)
  go_simp
  (go_at_call 115; refine (HTW.out _).mono ?_; rintro e w1 ⟨rfl, hb1⟩; have HR1 := hide (show Below Wa.heap.size Wa w1 from ⟨hb1.os, hb1.tape, hb1.output, hb1.size, hb1.block⟩); have HB1 := hide (HBa.out.trans (HR1.out.mono (by omega))); clear hb1)
  refine hK.out _ _ (by (try dsimp only); exact ⟨(cell1 ((HR1.out.block _ (by omega)).trans HK.out.1)).1, (cell1 ((HR1.out.block _ (by omega)).trans HK.out.2.1)).1⟩) (fun hS' => ?_)
  clear hK K
  try simp only [Act.put, List.setIfInBounds_toArray, List.set_cons_zero, List.set_cons_succ]
  refine tail_take2 5 rfl (by kernel_rfl) (by kernel_rfl) (by kernel_rfl) (by decide) (fun _ _ _ h => h) (by rfl) (v := ?_) ?_ (by assumption) ?_
  rotate_left 1
  · intro w' hS'; (try dsimp only at hS'); go_simp; try with_reducible rfl
  try simp only [Act.put, List.setIfInBounds_toArray, List.set_cons_zero, List.set_cons_succ]
  refine tail_end (by kernel_rfl) ?_
  unfold OnlyN
  clear hS'
  have HK1 := hide (show w1.heap[w.heap.size]? = some (.cells #[.iface 170 (.agg #[.string a, .int .i64 z])] 155 (0, 0)) ∧ w1.heap[w.heap.size + 1]? = some (.cells #[.slice A k c] 33 (0, 0)) ∧ w1.heap[w.heap.size + 1 + 1]? = some (.cells #[.string ⟨#[]⟩] 9 (0, 0)) ∧ w1.heap[w.heap.size + 1 + 1 + 1]? = some (.cells #[.bool false] 4 (0, 0)) from
    ⟨(HR1.out.block _ (by omega)).trans HK.out.1, (HR1.out.block _ (by omega)).trans HK.out.2.1, (HR1.out.block _ (by omega)).trans HK.out.2.2.1, (HR1.out.block _ (by omega)).trans HK.out.2.2.2⟩)
  have hw1s : w.heap.size + 4 ≤ w1.heap.size := by have := HR1.out.size; omega
  clear HK HR1 HBa
  by_cases hkT : k < T
  · have HNO := hide (show rtB zs m n = false ∧ rtS zs m n = ⟨#[]⟩ by
      have h : rtB zs m n = false := by
        unfold rtB
        exact @decide_eq_false _ (Classical.propDecidable _) (fun h => by have h1 := h.1; rw [HT.out, hl.out] at h1; omega)
      exact ⟨h, by unfold rtS; rw [h]; rfl⟩)
    obtain ⟨c2, f2⟩ := cell1 HK1.out.2.2.1
    obtain ⟨c3, f3⟩ := cell1 HK1.out.2.2.2
    have hne : w.heap.size + 1 + 1 ≠ w.heap.size + 1 + 1 + 1 := by omega
    have q2 := row_put (heap_setCell_same w1 (w.heap.size + 1 + 1) 0 _ _ (.string ⟨#[]⟩) HK1.out.2.2.1) (off := 0) (v := .bool false) hne
    have q3 := heap_setCell_same (w1.setCell ⟨w.heap.size + 1 + 1, 0, none⟩ (.string ⟨#[]⟩)) (w.heap.size + 1 + 1 + 1) 0 _ _ (.bool false) (row_put HK1.out.2.2.2 hne.symm)
    have z2 := (cell1 q2).1
    have z3 := (cell1 q3).1
    clear q2 q3
    gi_wp2_with fail
    refine ⟨.tuple #[.string ⟨#[]⟩, .bool false], by simp [results, Try.results114, go_sem, z2, z3], ?_⟩
    rw [HNO.out.1, HNO.out.2]
    exact ⟨rfl, (HB1.out.setCell (p := ⟨w.heap.size + 1 + 1, 0, none⟩) (by show w.heap.size ≤ w.heap.size + 1 + 1; omega) _).setCell (p := ⟨w.heap.size + 1 + 1 + 1, 0, none⟩) (by show w.heap.size ≤ w.heap.size + 1 + 1 + 1; omega) _⟩
  obtain ⟨w2, hmk, hown2, hbel2⟩ := make_u8 w1 n hn.2
  obtain ⟨bt, hbt⟩ : ∃ bt, w1.heap.size = bt := ⟨_, rfl⟩
  rw [hbt] at hmk hown2
  have HM2 := hide (show TxM w w2 (.iface 170 (.agg #[.string a, .int .i64 z])) (.slice A k c) bt n (List.replicate n 0) from
    ⟨(hbel2.block _ (by omega)).trans HK1.out.1, (hbel2.block _ (by omega)).trans HK1.out.2.1, (hbel2.block _ (by omega)).trans HK1.out.2.2.1, (hbel2.block _ (by omega)).trans HK1.out.2.2.2, hown2.low (by omega), HB1.out.trans (hbel2.mono (by omega))⟩)
  have hbw2 : bt < w2.heap.size := (hown2.lt rfl).2
  obtain ⟨c0, _⟩ := HM2.out.cells
  clear hown2 hbel2 HK1 HB1 hbt
  gi_wp2_with fail
  refine ⟨trivial, (callsIn_wide.2 (HGS.out _)).mono ?_⟩
  rintro e w3 ⟨rfl, hb3⟩
  have HM3 := hide (HM2.out.next hb3)
  have hbw3 : bt < w3.heap.size := by have := hb3.size; omega
  clear hb3 c0 HM2 hmk
  gi_wp2_with fail
  refine ⟨trivial, (callsIn_wide.2 (implChunk bt 0 n n G hg1 w3)).mono ?_⟩
  rintro e w4 ⟨rfl, hw4⟩
  have HB4 := hide (show Below w3.heap.size w3 w4 by rw [hw4]; exact ((Below.refl _ _).alloc (Nat.le_refl _) _).alloc (by rw [alloc_size]; omega) _)
  have HM4 := hide (HM3.out.next HB4.out)
  have HC4 := hide (show CkRow w4 w3.heap.size bt 0 n n G by
    rw [hw4]
    have q := heap_alloc_new (w3.alloc (.cells #[.slice (some ⟨bt, 0, none⟩) n n] 57)) (.cells #[.int .i64 (G : Nat)] 3)
    rw [alloc_size] at q
    exact ⟨row_keep (heap_alloc_new w3 _) _, q⟩)
  have hs4 : w4.heap.size = w3.heap.size + 2 := by rw [hw4, alloc_size, alloc_size]
  have hlt4 := HM4.out.lt
  have hN1 : 1 ≤ gct G n := by have := (gct_lt hg1 (n := n) (j := 0)).2 (by omega); omega
  clear hw4
  gi_wp2_with fail
  refine range_next hg1 hg3 hn.2 (Nat.le_refl _) (by omega) HC4.out (by omega) rfl rfl
    (fun j W => j ≤ gct G n ∧ rdOk zs 0 m n j ∧ ∃ A' R c', (j < gct G n → (zs.drop (j * wid m G)).length = R ∧ Ints .i64 w B A' R (zs.drop (j * wid m G)) ∧ R ≤ c' ∧ c' ≤ c) ∧ TxM w W (.iface 170 (.agg #[.string a, .int .i64 z])) (.slice A' R c') bt n (rdT zs 0 m n j ++ List.replicate (n - (rdT zs 0 m n j).length) 0))
    (fun c W => c = .ret ∧ ¬ RtIs zs m n ∧ W.heap[w.heap.size + 1 + 1]? = some (.cells #[.string ⟨#[]⟩] 9 (0, 0)) ∧ W.heap[w.heap.size + 1 + 1 + 1]? = some (.cells #[.bool false] 4 (0, 0)) ∧ Below w.heap.size w W)
    (fun j W W' h ht => ⟨h.1, h.2.1, h.2.2.imp fun A' h => h.imp fun R h => h.imp fun c' h => ⟨h.1, h.2.turn ht (by omega)⟩⟩)
    (fun c W W' h ht => ⟨h.1, h.2.1, ht.row h.2.2.1, ht.row h.2.2.2.1, ht.below h.2.2.2.2 (Nat.le_refl _) (by omega)⟩)
    ⟨Nat.zero_le _, fun i hi => absurd hi (by omega), A, k, c, (fun _ => by
      rw [Nat.zero_mul, List.drop_zero]; exact ⟨hl.out, HI.out, hc, Nat.le_refl _⟩), by simpa [rdT] using HM4.out⟩
    (fun x b W => ∃ bg, b = { tmps := #[.iface 170 (.agg #[.string a, .int .i64 z]), .slice A k c, .int .i64 n, .pointer (some ⟨w.heap.size, 0, none⟩), .pointer (some ⟨w.heap.size + 1, 0, none⟩), undef, .pointer (some ⟨w.heap.size + 1 + 1, 0, none⟩), .pointer (some ⟨w.heap.size + 1 + 1 + 1, 0, none⟩), .slice (some ⟨bt, 0, none⟩) n n, .pointer (some ⟨bg, 0, none⟩), undef, undef, undef, .slice A k c, .int .i64 k, .iface 170 (.agg #[.string a, .int .i64 z]), .int .i64 n, .int .i64 T, .bool false, .int .i64 n, .slice (some ⟨bt, 0, none⟩) n n, .slice (some ⟨bt, 0, none⟩) n n, .iface 170 (.agg #[.string a, .int .i64 z]), .int .i64 G, .func (.func 129) #[] #[.pointer (some ⟨w3.heap.size, 0, none⟩), .pointer (some ⟨w3.heap.size + 1, 0, none⟩)], .slice (some ⟨bt, x.val * G, none⟩) (min G (n - x.val * G)) (min G (n - x.val * G)), undef, undef, undef, undef, undef, undef, undef, undef, undef, undef, undef, undef, undef, undef, undef, undef, undef, undef, undef, undef, undef, undef, undef, undef, undef, undef, undef, undef, undef, undef, undef, undef, undef, undef, undef, undef, undef, undef, undef], defers := [] } ∧ w4.heap.size ≤ bg ∧ W.heap[bg]? = some (.cells #[.slice (some ⟨bt, x.val * G, none⟩) (min G (n - x.val * G)) (min G (n - x.val * G))] 57 (0, 0)))
    (fun x b W W' h ht => h.imp fun bg h => ⟨h.1, h.2.1, ht.row h.2.2⟩) ?assign ?body ?done ?stop
  case assign =>
    rintro l x W K' hsz ⟨_, _, A', R, c', _, hM⟩ hK'
    have hlt := hM.lt
    simp only [encC, Nat.zero_add]
    gi_wp2_with fail
    exact hK' _ _ ((Below.refl _ _).alloc (Nat.le_refl _) _) ⟨W.heap.size, rfl, hsz, heap_alloc_new W _⟩
  case body =>
    rintro l x b W hl2 hrec ⟨hj, hok, A', R, c', hF, hM⟩ ⟨bg, rfl, hbg, hgr⟩
    obtain ⟨hR, hI', hc', hcc'⟩ := hF x.isLt
    clear hF
    have HIW := hide hI'
    have HOK := hide hok
    have hxG := (gct_lt hg1).1 x.isLt
    obtain ⟨j, hjx⟩ : ∃ j, x.val = j := ⟨_, rfl⟩
    have hjN : j < gct G n := by rw [← hjx]; exact x.isLt
    simp only [hjx] at hxG hM HIW HOK hgr hR ⊢
    obtain ⟨mm, hmm⟩ : ∃ mm, min G (n - j * G) = mm := ⟨_, rfl⟩
    have HGL := hide (show glN m n j = mm by rw [glN, HGG.out]; exact hmm)
    have hmm1 : 1 ≤ mm := by omega
    have hmmG : mm ≤ G := by omega
    have hmms : j * G + mm ≤ n := by omega
    simp only [hmm] at hgr ⊢
    obtain ⟨p, hp⟩ : ∃ p, j * G = p := ⟨_, rfl⟩
    have HP := hide hp
    have HPL := hide (show (rdT zs 0 m n j).length = p by rw [rdT_len zs 0 m n j (by rw [HGG.out]; omega), HGG.out]; omega)
    simp only [hp] at hgr hmms ⊢
    have HM := hide (show RdR w W W (.iface 170 (.agg #[.string a, .int .i64 z])) _ bt n _ w3.heap.size bg _ from ⟨hM, hgr, KeepsFrom.refl _ _, ⟨rfl, rfl⟩, by omega, by omega, (Array.getElem?_eq_some_iff.1 hgr).1⟩)
    obtain ⟨q, hq⟩ : ∃ q, p + mm + q = n := ⟨n - p - mm, by omega⟩
    have HQ := hide hq
    -- the number
    have hge := gp_end (m := m) (n := n) (j := j) (by rw [HGG.out]; exact hjN)
    rw [HGL.out, HGG.out, HT.out] at hge
    have hGW := implGroupWidth m hm mm (by rw [HGG.out]; exact hmmG)
    have hGM := implLim m hm mm (by omega)
    rw [HX.out] at hGW hGM
    have hwl := wid_le m mm
    obtain ⟨hv1, hv2⟩ := num_nat HBT.out (j * wid m G) (wid m mm)
    have HVN := hide (show gvN zs 0 m n j = (numVal ((zs.drop (j * wid m G)).take (wid m mm))).toNat by unfold gvN gpN; rw [HGL.out, HGG.out, Nat.zero_add])
    obtain ⟨v, hve⟩ : ∃ v, (numVal ((zs.drop (j * wid m G)).take (wid m mm))).toNat = v := ⟨_, rfl⟩
    rw [hve] at hv1 hv2 HVN
    have HDL := hide (show R = zs.length - j * wid m G by rw [← hR, List.length_drop])
    have hkl := hl.out
    obtain ⟨o, ho⟩ : ∃ o, j * wid m G = o := ⟨_, rfl⟩
    have HOO := hide ho
    simp only [ho] at hge hv1 HVN HDL HIW
    obtain ⟨Wd, hWd⟩ : ∃ Wd, wid m mm = Wd := ⟨_, rfl⟩
    have HWD := hide hWd
    rw [hWd] at hGW hwl hv1 hv2 hge
    have hv : v ≤ 2048 := by have : (2 : Nat) ^ Wd ≤ 2 ^ 11 := Nat.pow_le_pow_right (by omega) hwl; omega
    have HGW := hide hGW
    have HGM := hide hGM
    have hRW : Wd ≤ R := by have := HDL.out; omega
    have HNU := hide (fun wx (hb : Below w.heap.size w wx) => show Calls Try.prog 75 #[.slice A' Wd c'] wx (fun e w' => e = .returned (.int .i64 (v : Nat)) ∧ wx = w') by
      rw [← hv1]
      refine implNumberOf _ Wd c' B ((zs.drop o).take Wd) wx ?_ (by omega) (fun x hx => HBT.out x (List.mem_of_mem_drop (List.mem_of_mem_take hx)))
      have h := HIW.out.below (hb.mono hB)
      refine ⟨by rw [List.length_take]; have := h.len; omega, fun hp => ?_⟩
      obtain ⟨b', off', e, hb, hcl⟩ := h.2 (by omega)
      exact ⟨b', off', e, hb, fun i y hy => hcl i y (by rw [List.getElem?_take] at hy; split at hy; exact hy; cases hy)⟩)
    obtain ⟨c0, c1, cg⟩ := HM.out.cells
    have hWdc : (Wd : Int) ≤ (c' : Int) := by omega
    have hWs : w.heap.size + 4 ≤ W.heap.size := by have := hM.lt; omega
    clear hM hI' hok hgr hjx hmm hp hq hge hGW hGM hve ho hWd hv1 hR
    gi_wp2_with fail
    refine ⟨trivial, (calls_round l _ (HGW.out _)).mono ?_⟩
    rintro e w6 ⟨rfl, hb6⟩
    have HM6 := hide (HM.out.next hb6)
    clear hb6 c0 c1 cg
    obtain ⟨c0, c1, cg⟩ := HM6.out.cells
    gi_wp2_with fail
    refine ⟨trivial, (calls_round l _ (HNU.out _ HM6.out.mem.bel)).mono ?_⟩
    rintro e wz ⟨rfl, hwz⟩
    rw [← hwz]
    clear hwz c0 c1 cg
    gi_wp2_with fail
    obtain ⟨bn, hbn⟩ : ∃ bn, w6.heap.size = bn := ⟨_, rfl⟩
    obtain ⟨w7, hw7⟩ : ∃ w7, w6.alloc (.cells #[.int .i64 (v : Nat)] 2) = w7 := ⟨_, rfl⟩
    have HM7 := hide (show RdR w W w7 (.iface 170 (.agg #[.string a, .int .i64 z])) _ bt n _ w3.heap.size bg _ by rw [← hw7]; exact HM6.out.next ((Below.refl _ _).alloc (Nat.le_refl _) _))
    have HNB := hide (show w7.heap[bn]? = some (.cells #[.int .i64 (v : Nat)] 2 (0, 0)) by rw [← hw7, ← hbn]; exact heap_alloc_new w6 _)
    have hWbn : W.heap.size ≤ bn := by have := HM6.out.size; omega
    rw [hw7, hbn]
    clear hw7 hbn HM6 HM
    have HMD := hide (HM7.out.drew)
    have HGM7 := hide (HGM.out w7.drew)
    obtain ⟨L, hL⟩ : ∃ L, glim m mm = L := ⟨_, rfl⟩
    rw [hL] at HGM7
    have HL := hide hL
    have HNB7 := hide (show w7.drew.heap[bn]? = some (.cells #[.int .i64 (v : Nat)] 2 (0, 0)) from HNB.out)
    clear hL
    refine round_begin (fun w' => w'.cell? ⟨bn, 0, none⟩ = some (.int .i64 (v : Nat)) ∧ w'.cell? ⟨w.heap.size, 0, none⟩ = some (.iface 170 (.agg #[.string a, .int .i64 z])) ∧ w'.cell? ⟨bg, 0, none⟩ = some (.slice (some ⟨bt, p, none⟩) mm mm)) 6 (by kernel_rfl) (by kernel_rfl) (by rintro ⟨_, _, hq⟩; exact hq) ⟨(cell1 HNB7.out).1, HMD.out.cells.1, HMD.out.cells.2.2⟩ (fun hS' => ?_)
    refine tail_take2 0 rfl (by kernel_rfl) (by kernel_rfl) (by kernel_rfl) (by decide) (fun _ _ _ h => h) (by rfl) (v := ?_) ?_ (by assumption) ?_
    rotate_left 1
    · intro w' hS'; obtain ⟨d0, d1, d2⟩ := hS'; go_simp; try with_reducible rfl
    try simp only [Act.put, List.setIfInBounds_toArray, List.set_cons_zero, List.set_cons_succ]
    refine tail_take2 1 rfl (by kernel_rfl) (by kernel_rfl) (by kernel_rfl) (by decide) (fun _ _ _ h => h) (by rfl) (v := ?_) ?_ (by assumption) ?_
    rotate_left 1
    · intro w' hS'; obtain ⟨d0, d1, d2⟩ := hS'; go_simp; try with_reducible rfl
    try simp only [Act.put, List.setIfInBounds_toArray, List.set_cons_zero, List.set_cons_succ]
    refine tail_take2 2 rfl (by kernel_rfl) (by kernel_rfl) (by kernel_rfl) (by decide) (fun _ _ _ h => h) (by rfl) (v := ?_) ?_ (by assumption) ?_
    rotate_left 1
    · intro w' hS'; obtain ⟨d0, d1, d2⟩ := hS'; go_simp; try with_reducible rfl
    try simp only [Act.put, List.setIfInBounds_toArray, List.set_cons_zero, List.set_cons_succ]
    refine tail_take2 3 rfl (by kernel_rfl) (by kernel_rfl) (by kernel_rfl) (by decide) (fun _ _ _ h => h) (by rfl) (v := ?_) ?_ (by assumption) ?_
    rotate_left 1
    · intro w' hS'; obtain ⟨d0, d1, d2⟩ := hS'; go_simp; try with_reducible rfl
    try simp only [Act.put, List.setIfInBounds_toArray, List.set_cons_zero, List.set_cons_succ]
    refine tail_call 4 rfl (by kernel_rfl) rfl (fun K hK => ?_)
    go_simp
    (go_at_call 125; refine (HGM7.out).mono ?_; rintro e w8 ⟨rfl, hb8⟩; have HM8 := hide (HMD.out.next hb8); have HNB8 := hide ((hb8.block _ (Array.getElem?_eq_some_iff.1 HNB7.out).1).trans HNB7.out); clear hb8)
    refine hK.out _ _ (by (try dsimp only); exact ⟨(cell1 HNB8.out).1, HM8.out.cells.1, HM8.out.cells.2.2⟩) (fun hS' => ?_)
    clear hK K
    try simp only [Act.put, List.setIfInBounds_toArray, List.set_cons_zero, List.set_cons_succ]
    refine tail_take2 5 rfl (by kernel_rfl) (by kernel_rfl) (by kernel_rfl) (by decide) (fun _ _ _ h => h) (by rfl) (v := ?_) ?_ (by assumption) ?_
    rotate_left 1
    · intro w' hS'; (try dsimp only at hS'); go_simp; try with_reducible rfl
    try simp only [Act.put, List.setIfInBounds_toArray, List.set_cons_zero, List.set_cons_succ]
    refine tail_end (by kernel_rfl) ?_
    clear hS'
    by_cases hLv : L ≤ v
    · have hLI : (L : Int) ≤ (v : Int) := by omega
      have HNO := hide (show ¬ RtIs zs m n from fun h => by
        have h1 := h.2 j (by rw [HGG.out]; exact hjN)
        rw [HVN.out, HGL.out, HL.out] at h1
        omega)
      obtain ⟨c2, f2⟩ := cell1 HM8.out.mem.r2
      obtain ⟨c3, f3⟩ := cell1 HM8.out.mem.r3
      have hne : w.heap.size + 1 + 1 ≠ w.heap.size + 1 + 1 + 1 := by omega
      gi_wp2_with fail
      exact ⟨by rw [hs4]; exact keeps_put (keeps_put HM8.out.keep _ _) _ _, rfl, HNO.out, row_put (heap_setCell_same w8 (w.heap.size + 1 + 1) 0 _ _ _ HM8.out.mem.r2) hne, heap_setCell_same _ (w.heap.size + 1 + 1 + 1) 0 _ _ _ (row_put HM8.out.mem.r3 hne.symm),
        (HM8.out.mem.bel.setCell (p := ⟨w.heap.size + 1 + 1, 0, none⟩) (by show w.heap.size ≤ w.heap.size + 1 + 1; omega) _).setCell (p := ⟨w.heap.size + 1 + 1 + 1, 0, none⟩) (by show w.heap.size ≤ w.heap.size + 1 + 1 + 1; omega) _⟩
    have hLI : ¬ (L : Int) ≤ (v : Int) := by omega
    have HVL := hide (show gvN zs 0 m n j < glim m (glN m n j) by rw [HVN.out, HGL.out, HL.out]; omega)
    have hcut := cut_rest A' R c' Wd hRW
    obtain ⟨A2, hA2⟩ : ∃ A2, subA A' c' Wd = A2 := ⟨_, rfl⟩
    have HI2 := hide (show Ints .i64 w B A2 (R - Wd) ((zs.drop o).drop Wd) by rw [← hA2]; exact HIW.out.tailI hc' hRW)
    rw [hA2] at hcut
    obtain ⟨c0, c1, cg⟩ := HM8.out.cells
    obtain ⟨f1, _, _⟩ := HM8.out.mem.open
    have HM9 := hide (HM8.out.list (.slice A2 (R - Wd) (c' - Wd)))
    have HNB9 := hide (row_put HNB8.out (off := 0) (v := .slice A2 (R - Wd) (c' - Wd)) (show bn ≠ w.heap.size + 1 by omega))
    obtain ⟨_, _, cg9⟩ := HM9.out.cells
    clear hA2
    gi_wp2_with fail
    refine ⟨trivial, (calls_round l _ (implBackward bt p mm mm _)).mono ?_⟩
    rintro e wA ⟨rfl, hwA⟩
    obtain ⟨w9, hw9⟩ : ∃ w9, w8.setCell ⟨w.heap.size + 1, 0, none⟩ (.slice A2 (R - Wd) (c' - Wd)) = w9 := ⟨_, rfl⟩
    rw [hw9] at HM9 HNB9 hwA ⊢
    have HMA := hide (show RdR w W wA (.iface 170 (.agg #[.string a, .int .i64 z])) _ bt n _ w3.heap.size bg _ by rw [hwA]; exact HM9.out.next ((Below.refl _ _).alloc (Nat.le_refl _) _))
    have HNA := hide (show wA.heap[bn]? = some (.cells #[.int .i64 (v : Nat)] 2 (0, 0)) by rw [hwA]; exact row_keep HNB9.out _)
    have HBA := hide (show BkRow wA w9.heap.size bt p mm mm by rw [hwA]; exact heap_alloc_new w9 _)
    have hbn9 : bn < w9.heap.size := (Array.getElem?_eq_some_iff.1 HNB9.out).1
    have hA9 : w9.heap.size < wA.heap.size := by rw [hwA, alloc_size]; omega
    have h9W : W.heap.size ≤ w9.heap.size := HM9.out.size
    clear hw9 hwA c0 c1 cg f1 cg9 hcut HM9 HM8 HNB9 HNB8 HM7 HNB HMD HNB7 HGM7
    gi_wp2_with fail
    obtain ⟨r0, hr0⟩ := hrec
    have hlA : wA.heap[l]? = some (.loop r0) := HMA.out.keep.same l _ (by omega) hr0 rfl
    have hWA := HMA.out.size
    have htb := tx_begin (zs := zs) (m := m) (n := n) (j := j) (p := p) (cc := mm) (q := q) HPL.out HQ.out (gbase m) v
    rw [HPL.out, htb] at HMA
    have hbnA : bn < wA.heap.size := (Array.getElem?_eq_some_iff.1 HNA.out).1
    have hmm3 : mm ≤ 3 := by omega
    clear htb
    refine range_back (l0 := l) (r0 := r0) (bd := bt) (off := p) (n := mm) (c := mm) (Bn := w9.heap.size) (by omega) (Nat.le_refl _) (by omega) HBA.out hlA (by omega) rfl rfl
      (fun t W' => t ≤ mm ∧ wA.heap.size ≤ W'.heap.size ∧ RdR w W W' (.iface 170 (.agg #[.string a, .int .i64 z])) (.slice A2 (R - Wd) (c' - Wd)) bt n (rdT zs 0 m n j ++ (List.replicate (mm - t) 0 ++ dgN (gbase m) m v t) ++ List.replicate q 0) w3.heap.size bg (.slice (some ⟨bt, p, none⟩) mm mm) ∧ W'.heap[bn]? = some (.cells #[.int .i64 (v / gbase m ^ t : Nat)] 2 (0, 0)))
      (fun t W' W'' h ht => ⟨h.1, Nat.le_trans h.2.1 ht.size, h.2.2.1.turn ht hWA, ht.row h.2.2.2⟩)
      (fun t W' h ht => h.2.2.1.mem.own.cellAt (tx_cell HPL.out (by omega)))
      ⟨Nat.zero_le _, Nat.le_refl _, HMA.out, by rw [Nat.pow_zero, Nat.div_one]; exact HNA.out⟩
      (fun t => { tmps := #[.iface 170 (.agg #[.string a, .int .i64 z]), .slice A k c, .int .i64 n, .pointer (some ⟨w.heap.size, 0, none⟩), .pointer (some ⟨w.heap.size + 1, 0, none⟩), undef, .pointer (some ⟨w.heap.size + 1 + 1, 0, none⟩), .pointer (some ⟨w.heap.size + 1 + 1 + 1, 0, none⟩), .slice (some ⟨bt, 0, none⟩) n n, .pointer (some ⟨bg, 0, none⟩), .int .i64 Wd, .pointer (some ⟨bn, 0, none⟩), .int .i64 (mm - 1 - t : Nat), .slice A k c, .int .i64 k, .iface 170 (.agg #[.string a, .int .i64 z]), .int .i64 n, .int .i64 T, .bool false, .int .i64 n, .slice (some ⟨bt, 0, none⟩) n n, .slice (some ⟨bt, 0, none⟩) n n, .iface 170 (.agg #[.string a, .int .i64 z]), .int .i64 G, .func (.func 129) #[] #[.pointer (some ⟨w3.heap.size, 0, none⟩), .pointer (some ⟨w3.heap.size + 1, 0, none⟩)], .slice (some ⟨bt, p, none⟩) mm mm, .iface 170 (.agg #[.string a, .int .i64 z]), .slice (some ⟨bt, p, none⟩) mm mm, .int .i64 mm, .int .i64 Wd, .slice A' R c', .int .i64 Wd, .slice A' Wd c', .int .i64 (v : Nat), .int .i64 (v : Nat), .iface 170 (.agg #[.string a, .int .i64 z]), .slice (some ⟨bt, p, none⟩) mm mm, .int .i64 mm, .int .i64 L, .bool false, .slice A' R c', .int .i64 Wd, .slice A2 (R - Wd) (c' - Wd), .slice (some ⟨bt, p, none⟩) mm mm, .func (.func 130) #[] #[.pointer (some ⟨w9.heap.size, 0, none⟩)], .int .i64 (mm - 1 - t : Nat), .int .u8 0, undef, undef, undef, undef, undef, undef, undef, undef, undef, undef, undef, undef, undef, undef, undef, undef, undef, undef], defers := [] }) ?assign2 ?body2 ?done2
    case assign2 =>
      intro l' t W' K' ht hK'
      gi_wp2_with fail
      exact hK'
    case body2 =>
      rintro l' t W' ht hl' ⟨_, hsA, hR, hN⟩
      have HR := hide hR
      have HN := hide hN
      clear hR hN
      have hgb1 := gbase_pos m
      have hgb2 := gbase_le m
      have HC2 := hide HC.out
      have HCH2 := hide HCH.out
      have HDG := hide (show dgN (gbase m) m v (t + 1) = chr m ((v / gbase m ^ t % gbase m : Nat) : Int) :: dgN (gbase m) m v t from rfl)
      have HUN := hide (show v / gbase m ^ (t + 1) = v / gbase m ^ t / gbase m by rw [Nat.pow_succ, ← Nat.div_div_eq_div_mul])
      have hul := Nat.div_le_self v (gbase m ^ t)
      obtain ⟨u, hu⟩ : ∃ u, v / gbase m ^ t = u := ⟨_, rfl⟩
      rw [hu] at HN HDG HUN hul
      obtain ⟨gb, hgbe⟩ : ∃ gb, gbase m = gb := ⟨_, rfl⟩
      rw [hgbe] at HR HDG HUN hgb1 hgb2 HC2 HCH2
      have hx3 : u % gb < gb := Nat.mod_lt _ (by omega)
      have htm : (u : Int).tmod (gb : Int) = ((u % gb : Nat) : Int) := by rw [Int.tmod_eq_emod_of_nonneg (by omega)]; rfl
      have hdl := Nat.div_le_self u gb
      have htd0 : (u : Int).tdiv (gb : Int) = ((u / gb : Nat) : Int) := by rw [Int.tdiv_eq_ediv_of_nonneg (by omega)]; rfl
      have htd1 : ((u : Int) / (gb : Int)) = ((u / gb : Nat) : Int) := rfl
      obtain ⟨x3, hx3e⟩ : ∃ x3, u % gb = x3 := ⟨_, rfl⟩
      obtain ⟨u2, hu2e⟩ : ∃ u2, u / gb = u2 := ⟨_, rfl⟩
      rw [hx3e] at hx3 htm HDG
      rw [hu2e] at hdl htd0 htd1 HUN
      have HCHx := hide (fun w => HCH2.out x3 w hx3)
      obtain ⟨y, hy⟩ : ∃ y, chr m (x3 : Int) = y := ⟨_, rfl⟩
      rw [hy] at HDG HCHx
      obtain ⟨kk, hkk⟩ : ∃ kk, mm - 1 - t = kk := ⟨_, rfl⟩
      have hkm : kk < mm := by omega
      have hkI : (kk : Int) < (mm : Int) := by omega
      have hk0 : (0 : Int) ≤ (kk : Int) := by omega
      have HTP := hide (show (rdT zs 0 m n j ++ (List.replicate (mm - t) 0 ++ dgN gb m v t) ++ List.replicate q 0).set (p + kk) y = rdT zs 0 m n j ++ (List.replicate (mm - (t + 1)) 0 ++ dgN gb m v (t + 1)) ++ List.replicate q 0 by
        rw [HDG.out, show mm - t = kk + 1 by omega, show mm - (t + 1) = kk by omega]
        exact tx_put HPL.out)
      have HZC := hide (tx_cell (P := rdT zs 0 m n j) (D := dgN gb m v t) (q := q) (r := mm - t) (i := kk) HPL.out (by omega))
      obtain ⟨tx, htx⟩ : ∃ tx, rdT zs 0 m n j ++ (List.replicate (mm - t) 0 ++ dgN gb m v t) ++ List.replicate q 0 = tx := ⟨_, rfl⟩
      obtain ⟨tx2, htx2⟩ : ∃ tx2, rdT zs 0 m n j ++ (List.replicate (mm - (t + 1)) 0 ++ dgN gb m v (t + 1)) ++ List.replicate q 0 = tx2 := ⟨_, rfl⟩
      rw [htx] at HR HTP HZC
      rw [htx2] at HTP
      have HTX2 := hide htx2
      have hgb0 : gb ≠ 0 := by omega
      have hgbi : ¬ (gb : Int) = 0 := by omega
      have hwtm : IntKind.i64.wrap ((u : Int).tmod (gb : Int)) = (x3 : Int) := by rw [htm]; exact IntWalk.i64_in _ ⟨by omega, by omega⟩
      have hwtd : IntKind.i64.wrap ((u : Int).tdiv (gb : Int)) = (u2 : Int) := by rw [htd0]; exact IntWalk.i64_in _ ⟨by omega, by omega⟩
      have hwtd1 : IntKind.i64.wrap ((u : Int) / (gb : Int)) = (u2 : Int) := by rw [htd1]; exact IntWalk.i64_in _ ⟨by omega, by omega⟩
      have hWAW := HR.out.size
      have hwu2 : IntKind.i64.wrap (u2 : Int) = (u2 : Int) := IntWalk.i64_in _ ⟨by omega, by omega⟩
      have HGB := hide hgbe
      rw [hkk]
      obtain ⟨mv, hmv⟩ : ∃ mv, mv = W'.drew.heap.size := ⟨_, rfl⟩
      have HRD := hide HR.out.drew
      have HKD := hide (KpB.refl (B := wA.heap.size) (bk := w9.heap.size) (W := W') (by omega)).drew
      have HND := hide (show W'.drew.heap[bn]? = some (.cells #[.int .i64 (u : Nat)] 2 (0, 0)) from HN.out)
      have hbnt : bn ≠ bt := by have := HMA.out.lo; omega
      clear hu hgbe hx3e hu2e hy hkk htx htx2 htd1 hmv
      gi_wp2_with fail
      refine round_begin (fun w' => w'.cell? ⟨bn, 0, none⟩ = some (.int .i64 (u : Nat)) ∧ w'.cell? ⟨w.heap.size, 0, none⟩ = some (.iface 170 (.agg #[.string a, .int .i64 z])) ∧ w'.cell? ⟨bg, 0, none⟩ = some (.slice (some ⟨bt, p, none⟩) mm mm)) 12 (by kernel_rfl) (by kernel_rfl) (by rintro ⟨_, _, hq⟩; exact hq) ⟨(cell1 HND.out).1, HRD.out.cells.1, HRD.out.cells.2.2⟩ (fun hS' => ?_)
      refine tail_take 0 rfl (by kernel_rfl) (by kernel_rfl) (by kernel_rfl) (by kernel_rfl) (fun _ _ _ h => h) (by rfl) (v := ?_) ?_ (by assumption) ?_
      rotate_left 1
      · intro w' hS'; obtain ⟨d0, d1, d2⟩ := hS'; go_simp; try with_reducible rfl
      try simp only [Act.put, List.setIfInBounds_toArray, List.set_cons_zero, List.set_cons_succ]
      refine tail_take 1 rfl (by kernel_rfl) (by kernel_rfl) (by kernel_rfl) (by kernel_rfl) (fun _ _ _ h => h) (by rfl) (v := ?_) ?_ (by assumption) ?_
      rotate_left 1
      · intro w' hS'; obtain ⟨d0, d1, d2⟩ := hS'; go_simp; try with_reducible rfl
      try simp only [Act.put, List.setIfInBounds_toArray, List.set_cons_zero, List.set_cons_succ]
      refine tail_take 2 rfl (by kernel_rfl) (by kernel_rfl) (by kernel_rfl) (by kernel_rfl) (fun _ _ _ h => h) (by rfl) (v := ?_) ?_ (by assumption) ?_
      rotate_left 1
      · intro w' hS'; obtain ⟨d0, d1, d2⟩ := hS'; go_simp; try with_reducible rfl
      try simp only [Act.put, List.setIfInBounds_toArray, List.set_cons_zero, List.set_cons_succ]
      refine tail_take 3 rfl (by kernel_rfl) (by kernel_rfl) (by kernel_rfl) (by kernel_rfl) (fun _ _ _ h => h) (by rfl) (v := ?_) ?_ (by assumption) ?_
      rotate_left 1
      · intro w' hS'; obtain ⟨d0, d1, d2⟩ := hS'; go_simp; try with_reducible rfl
      try simp only [Act.put, List.setIfInBounds_toArray, List.set_cons_zero, List.set_cons_succ]
      refine tail_take 4 rfl (by kernel_rfl) (by kernel_rfl) (by kernel_rfl) (by kernel_rfl) (fun _ _ _ h => h) (by rfl) (v := ?_) ?_ (by assumption) ?_
      rotate_left 1
      · intro w' hS'; obtain ⟨d0, d1, d2⟩ := hS'; go_simp; try with_reducible rfl
      try simp only [Act.put, List.setIfInBounds_toArray, List.set_cons_zero, List.set_cons_succ]
      refine tail_take 7 rfl (by kernel_rfl) (by kernel_rfl) (by kernel_rfl) (by kernel_rfl) (fun _ _ _ h => h) (by rfl) (v := ?_) ?_ (by assumption) ?_
      rotate_left 1
      · intro w' hS'; obtain ⟨d0, d1, d2⟩ := hS'; go_simp; try with_reducible rfl
      try simp only [Act.put, List.setIfInBounds_toArray, List.set_cons_zero, List.set_cons_succ]
      refine tail_take 8 rfl (by kernel_rfl) (by kernel_rfl) (by kernel_rfl) (by kernel_rfl) (fun _ _ _ h => h) (by rfl) (v := ?_) ?_ (by assumption) ?_
      rotate_left 1
      · intro w' hS'; obtain ⟨d0, d1, d2⟩ := hS'; go_simp; try with_reducible rfl
      try simp only [Act.put, List.setIfInBounds_toArray, List.set_cons_zero, List.set_cons_succ]
      refine tail_take 9 rfl (by kernel_rfl) (by kernel_rfl) (by kernel_rfl) (by kernel_rfl) (fun _ _ _ h => h) (by rfl) (v := ?_) ?_ (by assumption) ?_
      rotate_left 1
      · intro w' hS'; obtain ⟨d0, d1, d2⟩ := hS'; go_simp; try with_reducible rfl
      try simp only [Act.put, List.setIfInBounds_toArray, List.set_cons_zero, List.set_cons_succ]
      refine tail_call 5 rfl (by kernel_rfl) rfl (fun K hK => ?_)
      go_simp
      (go_at_call 150; refine (HC2.out _).mono ?_; rintro e wB ⟨rfl, hbB⟩; have HRB := hide (HRD.out.next hbB); have HNB := hide ((hbB.block _ (Array.getElem?_eq_some_iff.1 HND.out).1).trans HND.out); have HKB := hide (HKD.out.next hbB); clear hbB)
      refine hK.out _ _ (by (try dsimp only); exact ⟨(cell1 HNB.out).1, HRB.out.cells.1, HRB.out.cells.2.2⟩) (fun hS' => ?_)
      clear hK K
      try simp only [Act.put, List.setIfInBounds_toArray, List.set_cons_zero, List.set_cons_succ]
      refine tail_take 6 rfl (by kernel_rfl) (by kernel_rfl) (by kernel_rfl) (by kernel_rfl) (fun _ _ _ h => h) (by rfl) (v := ?_) ?_ (by assumption) ?_
      rotate_left 1
      · intro w' hS'; obtain ⟨d0, d1, d2⟩ := hS'; go_simp; try with_reducible rfl
      try simp only [Act.put, List.setIfInBounds_toArray, List.set_cons_zero, List.set_cons_succ]
      refine tail_call 10 rfl (by kernel_rfl) rfl (fun K hK => ?_)
      go_simp
      (go_at_call 149; refine (HCHx.out _).mono ?_; rintro e wC ⟨rfl, hbC⟩; have HRC := hide (HRB.out.next hbC); have HNC := hide ((hbC.block _ (Array.getElem?_eq_some_iff.1 HNB.out).1).trans HNB.out); have HKC := hide (HKB.out.next hbC); clear hbC)
      refine hK.out _ _ (by (try dsimp only); exact ⟨(cell1 HNC.out).1, HRC.out.cells.1, HRC.out.cells.2.2⟩) (fun hS' => ?_)
      clear hK K
      try simp only [Act.put, List.setIfInBounds_toArray, List.set_cons_zero, List.set_cons_succ]
      refine tail_take 11 rfl (by kernel_rfl) (by kernel_rfl) (by kernel_rfl) (by kernel_rfl) (fun _ _ _ h => h) (by rfl) (v := ?_) ?_ (by assumption) ?_
      rotate_left 1
      · intro w' hS'; obtain ⟨d0, d1, d2⟩ := hS'; go_simp; try with_reducible rfl
      try simp only [Act.put, List.setIfInBounds_toArray, List.set_cons_zero, List.set_cons_succ]
      obtain ⟨d0, d1, d2⟩ := hS'
      have fz := HRC.out.mem.own.frozenAt (p + kk)
      have cz := HRC.out.mem.own.cellAt HZC.out
      refine tail_last 12 rfl (by kernel_rfl) (by kernel_rfl) rfl rfl (fun K hK => ?_)
      go_simp
      refine hK.out _ _ ?_
      clear hK K
      try simp only [Act.put, List.setIfInBounds_toArray, List.set_cons_zero, List.set_cons_succ]
      have HRS := hide (HRC.out.put (p + kk) y)
      rw [HTP.out] at HRS
      have HKS := hide (HKC.out.put (b := bt) (by have := HMA.out.lo; omega) (p + kk) (.int .u8 y))
      have HNS := hide (row_put HNC.out (off := p + kk) (v := .int .u8 y) hbnt)
      obtain ⟨wS, hwS⟩ : ∃ wS, wC.setCell ⟨bt, p + kk, none⟩ (.int .u8 y) = wS := ⟨_, rfl⟩
      rw [hwS] at HRS HNS HKS ⊢
      clear hwS d0 d1 d2 fz cz hS' HRC HNC HRB HNB HRD HND HKB HKC HKD
      have HRE := hide HRS.out.drew
      have HKE := hide HKS.out.drew
      have HNE := hide (show wS.drew.heap[bn]? = some (.cells #[.int .i64 (u : Nat)] 2 (0, 0)) from HNS.out)
      gi_wp2_with fail
      refine round_begin (fun w' => w'.cell? ⟨bn, 0, none⟩ = some (.int .i64 (u : Nat)) ∧ w'.cell? ⟨w.heap.size, 0, none⟩ = some (.iface 170 (.agg #[.string a, .int .i64 z]))) 4 (by kernel_rfl) (by kernel_rfl) (by rintro ⟨_, _, hq⟩; exact hq) ⟨(cell1 HNE.out).1, HRE.out.cells.1⟩ (fun hS' => ?_)
      refine tail_take 0 rfl (by kernel_rfl) (by kernel_rfl) (by kernel_rfl) (by kernel_rfl) (fun _ _ _ h => h) (by rfl) (v := ?_) ?_ (by assumption) ?_
      rotate_left 1
      · intro w' hS'; obtain ⟨d0, d1⟩ := hS'; go_simp; try with_reducible rfl
      try simp only [Act.put, List.setIfInBounds_toArray, List.set_cons_zero, List.set_cons_succ]
      refine tail_take 1 rfl (by kernel_rfl) (by kernel_rfl) (by kernel_rfl) (by kernel_rfl) (fun _ _ _ h => h) (by rfl) (v := ?_) ?_ (by assumption) ?_
      rotate_left 1
      · intro w' hS'; obtain ⟨d0, d1⟩ := hS'; go_simp; try with_reducible rfl
      try simp only [Act.put, List.setIfInBounds_toArray, List.set_cons_zero, List.set_cons_succ]
      refine tail_call 2 rfl (by kernel_rfl) rfl (fun K hK => ?_)
      go_simp
      (go_at_call 150; refine (HC2.out _).mono ?_; rintro e wF ⟨rfl, hbF⟩; have HRF := hide (HRE.out.next hbF); have HNF := hide ((hbF.block _ (Array.getElem?_eq_some_iff.1 HNE.out).1).trans HNE.out); have HKF := hide (HKE.out.next hbF); clear hbF)
      refine hK.out _ _ (by (try dsimp only); exact ⟨(cell1 HNF.out).1, HRF.out.cells.1⟩) (fun hS' => ?_)
      clear hK K
      try simp only [Act.put, List.setIfInBounds_toArray, List.set_cons_zero, List.set_cons_succ]
      refine tail_take 3 rfl (by kernel_rfl) (by kernel_rfl) (by kernel_rfl) (by kernel_rfl) (fun _ _ _ h => h) (by rfl) (v := ?_) ?_ (by assumption) ?_
      rotate_left 1
      · intro w' hS'; obtain ⟨d0, d1⟩ := hS'; go_simp; try with_reducible rfl
      try simp only [Act.put, List.setIfInBounds_toArray, List.set_cons_zero, List.set_cons_succ]
      obtain ⟨d0, d1⟩ := hS'
      obtain ⟨_, fz⟩ := cell1 HNF.out
      refine tail_last 4 rfl (by kernel_rfl) (by kernel_rfl) rfl rfl (fun K hK => ?_)
      go_simp
      refine hK.out _ _ ?_
      clear hK K
      try simp only [Act.put, List.setIfInBounds_toArray, List.set_cons_zero, List.set_cons_succ]
      have HRG := hide (HRF.out.other hWbn (.int .i64 (u2 : Nat)))
      have HKG := hide (HKF.out.put (b := bn) (by omega) 0 (.int .i64 (u2 : Nat)))
      have HNG := hide (heap_setCell_same wF bn 0 _ _ (.int .i64 (u2 : Nat)) HNF.out)
      clear d0 d1 fz hS'
      gi_wp2_with fail
      refine ⟨HKG.out.keep, HKG.out.box, ?_⟩
      dsimp only
      rw [List.length_replicate, HGB.out, HTX2.out, HUN.out]
      exact ⟨by omega, Nat.le_trans hsA HKG.out.keep.size, HRG.out, HNG.out⟩
    case done2 =>
      rintro W' ⟨_, _, hR, hN⟩
      have HRF := hide hR
      clear hR hN
      gi_wp2_with fail
      have hTX : rdT zs 0 m n (j + 1) = rdT zs 0 m n j ++ dgN (gbase m) m v mm := by rw [rdT, HVN.out, HGL.out]
      have hF0 := HRF.out.mem
      rw [Nat.sub_self, List.replicate_zero, List.nil_append, ← hTX] at hF0
      refine ⟨by rw [hs4]; exact HRF.out.keep, HRF.out.ck, ?_⟩
      dsimp only
      rw [List.length_replicate]
      refine ⟨hjN, rdOk_next HOK.out HVL.out, A2, R - Wd, c' - Wd, fun h => ?_, ?_⟩
      · have hfull := glN_full (m := m) (n := n) (j := j) (by rw [HGG.out]; exact h)
        rw [HGL.out, HGG.out] at hfull
        have he : (j + 1) * wid m G = o + Wd := by rw [Nat.add_mul, Nat.one_mul, HOO.out, ← hfull, HWD.out]
        rw [he, ← List.drop_drop]
        exact ⟨HI2.out.len, HI2.out, by omega, by omega⟩
      · have hlen : (rdT zs 0 m n (j + 1)).length = p + mm := by rw [hTX, List.length_append, HPL.out, dgN_len]
        rw [hlen, show n - (p + mm) = q by have := HQ.out; omega]
        exact hF0
  case done =>
    rintro Dd W hDd ⟨_, hok, A', R, c', _, hM⟩ hKd
    have hN0 : ¬ gct G n * G < n := fun h => Nat.lt_irrefl _ ((gct_lt hg1).2 h)
    have hlen : (rdT zs 0 m n (gct G n)).length = n := by rw [rdT_len zs 0 m n _ (by rw [HGG.out]; exact Nat.le_refl _), HGG.out]; omega
    have HYES := hide (show rtB zs m n = true ∧ rtS zs m n = strOf (rdT zs 0 m n (gct G n)) by
      have h : rtB zs m n = true := by
        unfold rtB
        exact @decide_eq_true _ (Classical.propDecidable _) ⟨by rw [HT.out, hl.out]; omega, by rw [HGG.out]; exact hok⟩
      exact ⟨h, by unfold rtS; rw [h, HGG.out]; rfl⟩)
    rw [hlen, Nat.sub_self, List.replicate_zero, List.append_nil] at hM
    have HMF := hide hM
    have hconv := run_str W elem8 Try.underlying5 Try.underlying9 n (HMF.out.own.ints)
    rw [hlen] at hconv
    obtain ⟨S, hS⟩ : ∃ S, strOf (rdT zs 0 m n (gct G n)) = S := ⟨_, rfl⟩
    rw [hS] at hconv HYES
    obtain ⟨c2, f2⟩ := cell1 HMF.out.r2
    obtain ⟨c3, f3⟩ := cell1 HMF.out.r3
    have hDl := HMF.out.lt
    have HKD := hide hKd
    have hne : w.heap.size + 1 + 1 ≠ w.heap.size + 1 + 1 + 1 := by omega
    have HW2 := hide (row_put (heap_setCell_same W (w.heap.size + 1 + 1) 0 _ _ (.string S) HMF.out.r2) (off := 0) (v := .bool true) hne)
    have HW3 := hide (heap_setCell_same (W.setCell ⟨w.heap.size + 1 + 1, 0, none⟩ (.string S)) (w.heap.size + 1 + 1 + 1) 0 _ _ (.bool true) (row_put HMF.out.r3 hne.symm))
    have HWB := hide ((HMF.out.bel.setCell (p := ⟨w.heap.size + 1 + 1, 0, none⟩) (by show w.heap.size ≤ w.heap.size + 1 + 1; omega) (.string S)).setCell (p := ⟨w.heap.size + 1 + 1 + 1, 0, none⟩) (by show w.heap.size ≤ w.heap.size + 1 + 1 + 1; omega) (.bool true))
    have HWK := hide (row_put (row_put HKD.out (off := 0) (v := .string S) (show Dd ≠ w.heap.size + 1 + 1 by omega)) (off := 0) (v := .bool true) (show Dd ≠ w.heap.size + 1 + 1 + 1 by omega))
    clear hM hKd hN0 hlen hS hok
    gi_wp2_with fail
    obtain ⟨wF, hwF⟩ : ∃ wF, (W.setCell ⟨w.heap.size + 1 + 1, 0, none⟩ (.string S)).setCell ⟨w.heap.size + 1 + 1 + 1, 0, none⟩ (.bool true) = wF := ⟨_, rfl⟩
    rw [hwF] at HW2 HW3 HWB HWK ⊢
    refine ⟨by simp, .inl ⟨_, _, rfl, run_takeDeferred HWK.out, ?_⟩⟩
    have ht := turn_put (B := w4.heap.size) (.deferred none) HWK.out rfl hDd
    have z2 := (cell1 (ht.row HW2.out)).1
    have z3 := (cell1 (ht.row HW3.out)).1
    refine ⟨.tuple #[.string S, .bool true], by simp [results, Try.results114, go_sem, z2, z3], ?_⟩
    rw [HYES.out.1, HYES.out.2]
    exact ⟨rfl, ht.below HWB.out (Nat.le_refl _) (by omega)⟩
  case stop =>
    rintro Dd c1 W hDd ⟨rfl, hno, h2, h3, hb⟩ hKd
    have HNO := hide (show rtB zs m n = false ∧ rtS zs m n = ⟨#[]⟩ by
      have h : rtB zs m n = false := by
        unfold rtB
        exact @decide_eq_false _ (Classical.propDecidable _) hno
      exact ⟨h, by unfold rtS; rw [h]; rfl⟩)
    have HW2 := hide h2
    have HW3 := hide h3
    have HWB := hide hb
    have HWK := hide hKd
    clear h2 h3 hb hKd hno
    gi_wp2_with fail
    refine ⟨by simp, .inl ⟨_, _, rfl, run_takeDeferred HWK.out, ?_⟩⟩
    have ht := turn_put (B := w4.heap.size) (.deferred none) HWK.out rfl hDd
    have z2 := (cell1 (ht.row HW2.out)).1
    have z3 := (cell1 (ht.row HW3.out)).1
    refine ⟨.tuple #[.string ⟨#[]⟩, .bool false], by simp [results, Try.results114, go_sem, z2, z3], ?_⟩
    rw [HNO.out.1, HNO.out.2]
    exact ⟨rfl, ht.below HWB.out (Nat.le_refl _) (by omega)⟩
set_option maxRecDepth 100000 in
set_option maxHeartbeats 4000000 in
theorem implTextB (m : Int) (hm : 1 ≤ m ∧ m ≤ 4) (G : Nat) (hGG : gsz m = G) (HM : MV m = .iface 172 (.agg #[]))
    (hC : ∀ w, Calls Try.prog 154 #[.agg #[]] w (Gives (.int .i64 (gbase m : Nat)) w)) (hCH : ∀ (x : Nat) w, x < gbase m → Calls Try.prog 153 #[.agg #[], .int .i64 x] w (Gives (.int .u8 (chr m (x : Int))) w)) (hGS : ∀ w, Calls Try.prog 155 #[.agg #[]] w (Gives (.int .i64 (G : Nat)) w))
    (A : Option Addr) (k c B : Nat) (zs : List Int) (n : Nat) (w : World) (hn : 1 ≤ n ∧ n ≤ 255) (hI : Ints .i64 w B A k zs) (hB : B ≤ w.heap.size) (hk : k ≤ 8192) (hc : k ≤ c) (hcc : c ≤ 9223372036854775807) (hbt : ∀ x ∈ zs, x = 0 ∨ x = 1) :
    Calls Try.prog 114 #[.iface 172 (.agg #[]), .slice A k c, .int .i64 n] w fun e w' => e = .returned (.tuple #[.string (rtS zs m n), .bool (rtB zs m n)]) ∧ Below w.heap.size w w' := by
  have HI := hide hI
  have hl := hide hI.len
  have HBT := hide hbt
  have HC := hide hC
  have HCH := hide hCH
  have HGS := hide hGS
  have HX := hide HM
  have HGG := hide hGG
  have HTW := hide (fun w => implTextWidth m hm n hn.2 w)
  rw [HM] at HTW
  have hg1 : 1 ≤ G := by rw [← hGG]; exact gsz_pos m
  have hg3 : G ≤ 3 := by rw [← hGG]; exact gsz_le m
  have hmdC := mdC_b
  have hmdK := mdK_b
  have hnaK := naK_b
  have hmdG := mdG_b
  obtain ⟨T, hT⟩ : ∃ T, twid m n = T := ⟨_, rfl⟩
  have HT := hide hT
  rw [hT] at HTW
  clear hC hCH hGS HM hGG hI hbt hT
  refine (callsIn_wide (n := 6)).1 ?_
  refine callsIn_of_wp_marks Try.func114 rfl trivial ?_ rfl
  simp only [Try.ntmps114, List.size_toArray, List.length_cons, List.length_nil, Nat.reduceAdd, Nat.reduceSub, Array.replicate_succ, Array.replicate_zero, List.push_toArray, List.append_toArray, List.nil_append, List.cons_append]
  gi_wp2_with fail
  obtain ⟨Wa, hWa⟩ : ∃ Wa, Wa = ((((w.alloc (.cells #[.iface 172 (.agg #[])] 155)).alloc (.cells #[.slice A k c] 33)).alloc (.cells #[.string ⟨#[]⟩] 9)).alloc (.cells #[.bool false] 4)) := ⟨_, rfl⟩
  rw [← hWa]
  have hWs : Wa.heap.size = w.heap.size + 4 := by rw [hWa, alloc_size, alloc_size, alloc_size, alloc_size]
  have HBa := hide (show Below w.heap.size w Wa by
    rw [hWa]
    exact ((((Below.refl _ w).alloc (Nat.le_refl _) _).alloc (by rw [alloc_size]; omega) _).alloc (by rw [alloc_size, alloc_size]; omega) _).alloc (by rw [alloc_size, alloc_size, alloc_size]; omega) _)
  have HK := hide (show Wa.heap[w.heap.size]? = some (.cells #[.iface 172 (.agg #[])] 155 (0, 0)) ∧ Wa.heap[w.heap.size + 1]? = some (.cells #[.slice A k c] 33 (0, 0)) ∧ Wa.heap[w.heap.size + 1 + 1]? = some (.cells #[.string ⟨#[]⟩] 9 (0, 0)) ∧ Wa.heap[w.heap.size + 1 + 1 + 1]? = some (.cells #[.bool false] 4 (0, 0)) by
    have q0 := heap_alloc_new w (.cells #[.iface 172 (.agg #[])] 155)
    have q1 := heap_alloc_new (w.alloc (.cells #[.iface 172 (.agg #[])] 155)) (.cells #[.slice A k c] 33)
    have q2 := heap_alloc_new ((w.alloc (.cells #[.iface 172 (.agg #[])] 155)).alloc (.cells #[.slice A k c] 33)) (.cells #[.string ⟨#[]⟩] 9)
    have q3 := heap_alloc_new (((w.alloc (.cells #[.iface 172 (.agg #[])] 155)).alloc (.cells #[.slice A k c] 33)).alloc (.cells #[.string ⟨#[]⟩] 9)) (.cells #[.bool false] 4)
    simp only [alloc_size] at q1 q2 q3
    rw [hWa]
    exact ⟨row_keep (row_keep (row_keep q0 _) _) _, row_keep (row_keep q1 _) _, row_keep q2 _, q3⟩)
  clear hWa
  have hk9 : k ≤ 9223372036854775807 := by omega
  refine region_only ?_
  refine tail_begin (fun w' => w'.cell? ⟨w.heap.size, 0, none⟩ = some (.iface 172 (.agg #[])) ∧ w'.cell? ⟨w.heap.size + 1, 0, none⟩ = some (.slice A k c)) 6 (by kernel_rfl) ⟨(cell1 HK.out.1).1, (cell1 HK.out.2.1).1⟩ (fun hS' => ?_)
  refine tail_take2 0 rfl (by kernel_rfl) (by kernel_rfl) (by kernel_rfl) (by decide) (fun _ _ _ h => h) (by rfl) (v := ?_) ?_ (by assumption) ?_
  rotate_left 1
  · intro w' hS'; obtain ⟨d0, d1⟩ := hS'; go_simp; try with_reducible rfl
  try simp only [Act.put, List.setIfInBounds_toArray, List.set_cons_zero, List.set_cons_succ]
  refine tail_take2 1 rfl (by kernel_rfl) (by kernel_rfl) (by kernel_rfl) (by decide) (fun _ _ _ h => h) (by rfl) (v := ?_) ?_ (by assumption) ?_
  rotate_left 1
  · intro w' hS'; obtain ⟨d0, d1⟩ := hS'; go_simp; try with_reducible rfl
  try simp only [Act.put, List.setIfInBounds_toArray, List.set_cons_zero, List.set_cons_succ]
  refine tail_take2 2 rfl (by kernel_rfl) (by kernel_rfl) (by kernel_rfl) (by decide) (fun _ _ _ h => h) (by rfl) (v := ?_) ?_ (by assumption) ?_
  rotate_left 1
  · intro w' hS'; obtain ⟨d0, d1⟩ := hS'; go_simp; try with_reducible rfl
  try simp only [Act.put, List.setIfInBounds_toArray, List.set_cons_zero, List.set_cons_succ]
  refine tail_take2 3 rfl (by kernel_rfl) (by kernel_rfl) (by kernel_rfl) (by decide) (fun _ _ _ h => h) (by rfl) (v := ?_) ?_ (by assumption) ?_
  rotate_left 1
  · intro w' hS'; obtain ⟨d0, d1⟩ := hS'; go_simp; try with_reducible rfl
  try simp only [Act.put, List.setIfInBounds_toArray, List.set_cons_zero, List.set_cons_succ]
  refine tail_call 4 rfl (by kernel_rfl) rfl (fun K hK => ?_)
  go_simp
  (go_at_call 115; refine (HTW.out _).mono ?_; rintro e w1 ⟨rfl, hb1⟩; have HR1 := hide (show Below Wa.heap.size Wa w1 from ⟨hb1.os, hb1.tape, hb1.output, hb1.size, hb1.block⟩); have HB1 := hide (HBa.out.trans (HR1.out.mono (by omega))); clear hb1)
  refine hK.out _ _ (by (try dsimp only); exact ⟨(cell1 ((HR1.out.block _ (by omega)).trans HK.out.1)).1, (cell1 ((HR1.out.block _ (by omega)).trans HK.out.2.1)).1⟩) (fun hS' => ?_)
  clear hK K
  try simp only [Act.put, List.setIfInBounds_toArray, List.set_cons_zero, List.set_cons_succ]
  refine tail_take2 5 rfl (by kernel_rfl) (by kernel_rfl) (by kernel_rfl) (by decide) (fun _ _ _ h => h) (by rfl) (v := ?_) ?_ (by assumption) ?_
  rotate_left 1
  · intro w' hS'; (try dsimp only at hS'); go_simp; try with_reducible rfl
  try simp only [Act.put, List.setIfInBounds_toArray, List.set_cons_zero, List.set_cons_succ]
  refine tail_end (by kernel_rfl) ?_
  unfold OnlyN
  clear hS'
  have HK1 := hide (show w1.heap[w.heap.size]? = some (.cells #[.iface 172 (.agg #[])] 155 (0, 0)) ∧ w1.heap[w.heap.size + 1]? = some (.cells #[.slice A k c] 33 (0, 0)) ∧ w1.heap[w.heap.size + 1 + 1]? = some (.cells #[.string ⟨#[]⟩] 9 (0, 0)) ∧ w1.heap[w.heap.size + 1 + 1 + 1]? = some (.cells #[.bool false] 4 (0, 0)) from
    ⟨(HR1.out.block _ (by omega)).trans HK.out.1, (HR1.out.block _ (by omega)).trans HK.out.2.1, (HR1.out.block _ (by omega)).trans HK.out.2.2.1, (HR1.out.block _ (by omega)).trans HK.out.2.2.2⟩)
  have hw1s : w.heap.size + 4 ≤ w1.heap.size := by have := HR1.out.size; omega
  clear HK HR1 HBa
  by_cases hkT : k < T
  · have HNO := hide (show rtB zs m n = false ∧ rtS zs m n = ⟨#[]⟩ by
      have h : rtB zs m n = false := by
        unfold rtB
        exact @decide_eq_false _ (Classical.propDecidable _) (fun h => by have h1 := h.1; rw [HT.out, hl.out] at h1; omega)
      exact ⟨h, by unfold rtS; rw [h]; rfl⟩)
    obtain ⟨c2, f2⟩ := cell1 HK1.out.2.2.1
    obtain ⟨c3, f3⟩ := cell1 HK1.out.2.2.2
    have hne : w.heap.size + 1 + 1 ≠ w.heap.size + 1 + 1 + 1 := by omega
    have q2 := row_put (heap_setCell_same w1 (w.heap.size + 1 + 1) 0 _ _ (.string ⟨#[]⟩) HK1.out.2.2.1) (off := 0) (v := .bool false) hne
    have q3 := heap_setCell_same (w1.setCell ⟨w.heap.size + 1 + 1, 0, none⟩ (.string ⟨#[]⟩)) (w.heap.size + 1 + 1 + 1) 0 _ _ (.bool false) (row_put HK1.out.2.2.2 hne.symm)
    have z2 := (cell1 q2).1
    have z3 := (cell1 q3).1
    clear q2 q3
    gi_wp2_with fail
    refine ⟨.tuple #[.string ⟨#[]⟩, .bool false], by simp [results, Try.results114, go_sem, z2, z3], ?_⟩
    rw [HNO.out.1, HNO.out.2]
    exact ⟨rfl, (HB1.out.setCell (p := ⟨w.heap.size + 1 + 1, 0, none⟩) (by show w.heap.size ≤ w.heap.size + 1 + 1; omega) _).setCell (p := ⟨w.heap.size + 1 + 1 + 1, 0, none⟩) (by show w.heap.size ≤ w.heap.size + 1 + 1 + 1; omega) _⟩
  obtain ⟨w2, hmk, hown2, hbel2⟩ := make_u8 w1 n hn.2
  obtain ⟨bt, hbt⟩ : ∃ bt, w1.heap.size = bt := ⟨_, rfl⟩
  rw [hbt] at hmk hown2
  have HM2 := hide (show TxM w w2 (.iface 172 (.agg #[])) (.slice A k c) bt n (List.replicate n 0) from
    ⟨(hbel2.block _ (by omega)).trans HK1.out.1, (hbel2.block _ (by omega)).trans HK1.out.2.1, (hbel2.block _ (by omega)).trans HK1.out.2.2.1, (hbel2.block _ (by omega)).trans HK1.out.2.2.2, hown2.low (by omega), HB1.out.trans (hbel2.mono (by omega))⟩)
  have hbw2 : bt < w2.heap.size := (hown2.lt rfl).2
  obtain ⟨c0, _⟩ := HM2.out.cells
  clear hown2 hbel2 HK1 HB1 hbt
  gi_wp2_with fail
  refine ⟨trivial, (callsIn_wide.2 (HGS.out _)).mono ?_⟩
  rintro e w3 ⟨rfl, hb3⟩
  have HM3 := hide (HM2.out.next hb3)
  have hbw3 : bt < w3.heap.size := by have := hb3.size; omega
  clear hb3 c0 HM2 hmk
  gi_wp2_with fail
  refine ⟨trivial, (callsIn_wide.2 (implChunk bt 0 n n G hg1 w3)).mono ?_⟩
  rintro e w4 ⟨rfl, hw4⟩
  have HB4 := hide (show Below w3.heap.size w3 w4 by rw [hw4]; exact ((Below.refl _ _).alloc (Nat.le_refl _) _).alloc (by rw [alloc_size]; omega) _)
  have HM4 := hide (HM3.out.next HB4.out)
  have HC4 := hide (show CkRow w4 w3.heap.size bt 0 n n G by
    rw [hw4]
    have q := heap_alloc_new (w3.alloc (.cells #[.slice (some ⟨bt, 0, none⟩) n n] 57)) (.cells #[.int .i64 (G : Nat)] 3)
    rw [alloc_size] at q
    exact ⟨row_keep (heap_alloc_new w3 _) _, q⟩)
  have hs4 : w4.heap.size = w3.heap.size + 2 := by rw [hw4, alloc_size, alloc_size]
  have hlt4 := HM4.out.lt
  have hN1 : 1 ≤ gct G n := by have := (gct_lt hg1 (n := n) (j := 0)).2 (by omega); omega
  clear hw4
  gi_wp2_with fail
  refine range_next hg1 hg3 hn.2 (Nat.le_refl _) (by omega) HC4.out (by omega) rfl rfl
    (fun j W => j ≤ gct G n ∧ rdOk zs 0 m n j ∧ ∃ A' R c', (j < gct G n → (zs.drop (j * wid m G)).length = R ∧ Ints .i64 w B A' R (zs.drop (j * wid m G)) ∧ R ≤ c' ∧ c' ≤ c) ∧ TxM w W (.iface 172 (.agg #[])) (.slice A' R c') bt n (rdT zs 0 m n j ++ List.replicate (n - (rdT zs 0 m n j).length) 0))
    (fun c W => c = .ret ∧ ¬ RtIs zs m n ∧ W.heap[w.heap.size + 1 + 1]? = some (.cells #[.string ⟨#[]⟩] 9 (0, 0)) ∧ W.heap[w.heap.size + 1 + 1 + 1]? = some (.cells #[.bool false] 4 (0, 0)) ∧ Below w.heap.size w W)
    (fun j W W' h ht => ⟨h.1, h.2.1, h.2.2.imp fun A' h => h.imp fun R h => h.imp fun c' h => ⟨h.1, h.2.turn ht (by omega)⟩⟩)
    (fun c W W' h ht => ⟨h.1, h.2.1, ht.row h.2.2.1, ht.row h.2.2.2.1, ht.below h.2.2.2.2 (Nat.le_refl _) (by omega)⟩)
    ⟨Nat.zero_le _, fun i hi => absurd hi (by omega), A, k, c, (fun _ => by
      rw [Nat.zero_mul, List.drop_zero]; exact ⟨hl.out, HI.out, hc, Nat.le_refl _⟩), by simpa [rdT] using HM4.out⟩
    (fun x b W => ∃ bg, b = { tmps := #[.iface 172 (.agg #[]), .slice A k c, .int .i64 n, .pointer (some ⟨w.heap.size, 0, none⟩), .pointer (some ⟨w.heap.size + 1, 0, none⟩), undef, .pointer (some ⟨w.heap.size + 1 + 1, 0, none⟩), .pointer (some ⟨w.heap.size + 1 + 1 + 1, 0, none⟩), .slice (some ⟨bt, 0, none⟩) n n, .pointer (some ⟨bg, 0, none⟩), undef, undef, undef, .slice A k c, .int .i64 k, .iface 172 (.agg #[]), .int .i64 n, .int .i64 T, .bool false, .int .i64 n, .slice (some ⟨bt, 0, none⟩) n n, .slice (some ⟨bt, 0, none⟩) n n, .iface 172 (.agg #[]), .int .i64 G, .func (.func 129) #[] #[.pointer (some ⟨w3.heap.size, 0, none⟩), .pointer (some ⟨w3.heap.size + 1, 0, none⟩)], .slice (some ⟨bt, x.val * G, none⟩) (min G (n - x.val * G)) (min G (n - x.val * G)), undef, undef, undef, undef, undef, undef, undef, undef, undef, undef, undef, undef, undef, undef, undef, undef, undef, undef, undef, undef, undef, undef, undef, undef, undef, undef, undef, undef, undef, undef, undef, undef, undef, undef, undef, undef, undef, undef, undef], defers := [] } ∧ w4.heap.size ≤ bg ∧ W.heap[bg]? = some (.cells #[.slice (some ⟨bt, x.val * G, none⟩) (min G (n - x.val * G)) (min G (n - x.val * G))] 57 (0, 0)))
    (fun x b W W' h ht => h.imp fun bg h => ⟨h.1, h.2.1, ht.row h.2.2⟩) ?assign ?body ?done ?stop
  case assign =>
    rintro l x W K' hsz ⟨_, _, A', R, c', _, hM⟩ hK'
    have hlt := hM.lt
    simp only [encC, Nat.zero_add]
    gi_wp2_with fail
    exact hK' _ _ ((Below.refl _ _).alloc (Nat.le_refl _) _) ⟨W.heap.size, rfl, hsz, heap_alloc_new W _⟩
  case body =>
    rintro l x b W hl2 hrec ⟨hj, hok, A', R, c', hF, hM⟩ ⟨bg, rfl, hbg, hgr⟩
    obtain ⟨hR, hI', hc', hcc'⟩ := hF x.isLt
    clear hF
    have HIW := hide hI'
    have HOK := hide hok
    have hxG := (gct_lt hg1).1 x.isLt
    obtain ⟨j, hjx⟩ : ∃ j, x.val = j := ⟨_, rfl⟩
    have hjN : j < gct G n := by rw [← hjx]; exact x.isLt
    simp only [hjx] at hxG hM HIW HOK hgr hR ⊢
    obtain ⟨mm, hmm⟩ : ∃ mm, min G (n - j * G) = mm := ⟨_, rfl⟩
    have HGL := hide (show glN m n j = mm by rw [glN, HGG.out]; exact hmm)
    have hmm1 : 1 ≤ mm := by omega
    have hmmG : mm ≤ G := by omega
    have hmms : j * G + mm ≤ n := by omega
    simp only [hmm] at hgr ⊢
    obtain ⟨p, hp⟩ : ∃ p, j * G = p := ⟨_, rfl⟩
    have HP := hide hp
    have HPL := hide (show (rdT zs 0 m n j).length = p by rw [rdT_len zs 0 m n j (by rw [HGG.out]; omega), HGG.out]; omega)
    simp only [hp] at hgr hmms ⊢
    have HM := hide (show RdR w W W (.iface 172 (.agg #[])) _ bt n _ w3.heap.size bg _ from ⟨hM, hgr, KeepsFrom.refl _ _, ⟨rfl, rfl⟩, by omega, by omega, (Array.getElem?_eq_some_iff.1 hgr).1⟩)
    obtain ⟨q, hq⟩ : ∃ q, p + mm + q = n := ⟨n - p - mm, by omega⟩
    have HQ := hide hq
    -- the number
    have hge := gp_end (m := m) (n := n) (j := j) (by rw [HGG.out]; exact hjN)
    rw [HGL.out, HGG.out, HT.out] at hge
    have hGW := implGroupWidth m hm mm (by rw [HGG.out]; exact hmmG)
    have hGM := implLim m hm mm (by omega)
    rw [HX.out] at hGW hGM
    have hwl := wid_le m mm
    obtain ⟨hv1, hv2⟩ := num_nat HBT.out (j * wid m G) (wid m mm)
    have HVN := hide (show gvN zs 0 m n j = (numVal ((zs.drop (j * wid m G)).take (wid m mm))).toNat by unfold gvN gpN; rw [HGL.out, HGG.out, Nat.zero_add])
    obtain ⟨v, hve⟩ : ∃ v, (numVal ((zs.drop (j * wid m G)).take (wid m mm))).toNat = v := ⟨_, rfl⟩
    rw [hve] at hv1 hv2 HVN
    have HDL := hide (show R = zs.length - j * wid m G by rw [← hR, List.length_drop])
    have hkl := hl.out
    obtain ⟨o, ho⟩ : ∃ o, j * wid m G = o := ⟨_, rfl⟩
    have HOO := hide ho
    simp only [ho] at hge hv1 HVN HDL HIW
    obtain ⟨Wd, hWd⟩ : ∃ Wd, wid m mm = Wd := ⟨_, rfl⟩
    have HWD := hide hWd
    rw [hWd] at hGW hwl hv1 hv2 hge
    have hv : v ≤ 2048 := by have : (2 : Nat) ^ Wd ≤ 2 ^ 11 := Nat.pow_le_pow_right (by omega) hwl; omega
    have HGW := hide hGW
    have HGM := hide hGM
    have hRW : Wd ≤ R := by have := HDL.out; omega
    have HNU := hide (fun wx (hb : Below w.heap.size w wx) => show Calls Try.prog 75 #[.slice A' Wd c'] wx (fun e w' => e = .returned (.int .i64 (v : Nat)) ∧ wx = w') by
      rw [← hv1]
      refine implNumberOf _ Wd c' B ((zs.drop o).take Wd) wx ?_ (by omega) (fun x hx => HBT.out x (List.mem_of_mem_drop (List.mem_of_mem_take hx)))
      have h := HIW.out.below (hb.mono hB)
      refine ⟨by rw [List.length_take]; have := h.len; omega, fun hp => ?_⟩
      obtain ⟨b', off', e, hb, hcl⟩ := h.2 (by omega)
      exact ⟨b', off', e, hb, fun i y hy => hcl i y (by rw [List.getElem?_take] at hy; split at hy; exact hy; cases hy)⟩)
    obtain ⟨c0, c1, cg⟩ := HM.out.cells
    have hWdc : (Wd : Int) ≤ (c' : Int) := by omega
    have hWs : w.heap.size + 4 ≤ W.heap.size := by have := hM.lt; omega
    clear hM hI' hok hgr hjx hmm hp hq hge hGW hGM hve ho hWd hv1 hR
    gi_wp2_with fail
    refine ⟨trivial, (calls_round l _ (HGW.out _)).mono ?_⟩
    rintro e w6 ⟨rfl, hb6⟩
    have HM6 := hide (HM.out.next hb6)
    clear hb6 c0 c1 cg
    obtain ⟨c0, c1, cg⟩ := HM6.out.cells
    gi_wp2_with fail
    refine ⟨trivial, (calls_round l _ (HNU.out _ HM6.out.mem.bel)).mono ?_⟩
    rintro e wz ⟨rfl, hwz⟩
    rw [← hwz]
    clear hwz c0 c1 cg
    gi_wp2_with fail
    obtain ⟨bn, hbn⟩ : ∃ bn, w6.heap.size = bn := ⟨_, rfl⟩
    obtain ⟨w7, hw7⟩ : ∃ w7, w6.alloc (.cells #[.int .i64 (v : Nat)] 2) = w7 := ⟨_, rfl⟩
    have HM7 := hide (show RdR w W w7 (.iface 172 (.agg #[])) _ bt n _ w3.heap.size bg _ by rw [← hw7]; exact HM6.out.next ((Below.refl _ _).alloc (Nat.le_refl _) _))
    have HNB := hide (show w7.heap[bn]? = some (.cells #[.int .i64 (v : Nat)] 2 (0, 0)) by rw [← hw7, ← hbn]; exact heap_alloc_new w6 _)
    have hWbn : W.heap.size ≤ bn := by have := HM6.out.size; omega
    rw [hw7, hbn]
    clear hw7 hbn HM6 HM
    have HMD := hide (HM7.out.drew)
    have HGM7 := hide (HGM.out w7.drew)
    obtain ⟨L, hL⟩ : ∃ L, glim m mm = L := ⟨_, rfl⟩
    rw [hL] at HGM7
    have HL := hide hL
    have HNB7 := hide (show w7.drew.heap[bn]? = some (.cells #[.int .i64 (v : Nat)] 2 (0, 0)) from HNB.out)
    clear hL
    refine round_begin (fun w' => w'.cell? ⟨bn, 0, none⟩ = some (.int .i64 (v : Nat)) ∧ w'.cell? ⟨w.heap.size, 0, none⟩ = some (.iface 172 (.agg #[])) ∧ w'.cell? ⟨bg, 0, none⟩ = some (.slice (some ⟨bt, p, none⟩) mm mm)) 6 (by kernel_rfl) (by kernel_rfl) (by rintro ⟨_, _, hq⟩; exact hq) ⟨(cell1 HNB7.out).1, HMD.out.cells.1, HMD.out.cells.2.2⟩ (fun hS' => ?_)
    refine tail_take2 0 rfl (by kernel_rfl) (by kernel_rfl) (by kernel_rfl) (by decide) (fun _ _ _ h => h) (by rfl) (v := ?_) ?_ (by assumption) ?_
    rotate_left 1
    · intro w' hS'; obtain ⟨d0, d1, d2⟩ := hS'; go_simp; try with_reducible rfl
    try simp only [Act.put, List.setIfInBounds_toArray, List.set_cons_zero, List.set_cons_succ]
    refine tail_take2 1 rfl (by kernel_rfl) (by kernel_rfl) (by kernel_rfl) (by decide) (fun _ _ _ h => h) (by rfl) (v := ?_) ?_ (by assumption) ?_
    rotate_left 1
    · intro w' hS'; obtain ⟨d0, d1, d2⟩ := hS'; go_simp; try with_reducible rfl
    try simp only [Act.put, List.setIfInBounds_toArray, List.set_cons_zero, List.set_cons_succ]
    refine tail_take2 2 rfl (by kernel_rfl) (by kernel_rfl) (by kernel_rfl) (by decide) (fun _ _ _ h => h) (by rfl) (v := ?_) ?_ (by assumption) ?_
    rotate_left 1
    · intro w' hS'; obtain ⟨d0, d1, d2⟩ := hS'; go_simp; try with_reducible rfl
    try simp only [Act.put, List.setIfInBounds_toArray, List.set_cons_zero, List.set_cons_succ]
    refine tail_take2 3 rfl (by kernel_rfl) (by kernel_rfl) (by kernel_rfl) (by decide) (fun _ _ _ h => h) (by rfl) (v := ?_) ?_ (by assumption) ?_
    rotate_left 1
    · intro w' hS'; obtain ⟨d0, d1, d2⟩ := hS'; go_simp; try with_reducible rfl
    try simp only [Act.put, List.setIfInBounds_toArray, List.set_cons_zero, List.set_cons_succ]
    refine tail_call 4 rfl (by kernel_rfl) rfl (fun K hK => ?_)
    go_simp
    (go_at_call 125; refine (HGM7.out).mono ?_; rintro e w8 ⟨rfl, hb8⟩; have HM8 := hide (HMD.out.next hb8); have HNB8 := hide ((hb8.block _ (Array.getElem?_eq_some_iff.1 HNB7.out).1).trans HNB7.out); clear hb8)
    refine hK.out _ _ (by (try dsimp only); exact ⟨(cell1 HNB8.out).1, HM8.out.cells.1, HM8.out.cells.2.2⟩) (fun hS' => ?_)
    clear hK K
    try simp only [Act.put, List.setIfInBounds_toArray, List.set_cons_zero, List.set_cons_succ]
    refine tail_take2 5 rfl (by kernel_rfl) (by kernel_rfl) (by kernel_rfl) (by decide) (fun _ _ _ h => h) (by rfl) (v := ?_) ?_ (by assumption) ?_
    rotate_left 1
    · intro w' hS'; (try dsimp only at hS'); go_simp; try with_reducible rfl
    try simp only [Act.put, List.setIfInBounds_toArray, List.set_cons_zero, List.set_cons_succ]
    refine tail_end (by kernel_rfl) ?_
    clear hS'
    by_cases hLv : L ≤ v
    · have hLI : (L : Int) ≤ (v : Int) := by omega
      have HNO := hide (show ¬ RtIs zs m n from fun h => by
        have h1 := h.2 j (by rw [HGG.out]; exact hjN)
        rw [HVN.out, HGL.out, HL.out] at h1
        omega)
      obtain ⟨c2, f2⟩ := cell1 HM8.out.mem.r2
      obtain ⟨c3, f3⟩ := cell1 HM8.out.mem.r3
      have hne : w.heap.size + 1 + 1 ≠ w.heap.size + 1 + 1 + 1 := by omega
      gi_wp2_with fail
      exact ⟨by rw [hs4]; exact keeps_put (keeps_put HM8.out.keep _ _) _ _, rfl, HNO.out, row_put (heap_setCell_same w8 (w.heap.size + 1 + 1) 0 _ _ _ HM8.out.mem.r2) hne, heap_setCell_same _ (w.heap.size + 1 + 1 + 1) 0 _ _ _ (row_put HM8.out.mem.r3 hne.symm),
        (HM8.out.mem.bel.setCell (p := ⟨w.heap.size + 1 + 1, 0, none⟩) (by show w.heap.size ≤ w.heap.size + 1 + 1; omega) _).setCell (p := ⟨w.heap.size + 1 + 1 + 1, 0, none⟩) (by show w.heap.size ≤ w.heap.size + 1 + 1 + 1; omega) _⟩
    have hLI : ¬ (L : Int) ≤ (v : Int) := by omega
    have HVL := hide (show gvN zs 0 m n j < glim m (glN m n j) by rw [HVN.out, HGL.out, HL.out]; omega)
    have hcut := cut_rest A' R c' Wd hRW
    obtain ⟨A2, hA2⟩ : ∃ A2, subA A' c' Wd = A2 := ⟨_, rfl⟩
    have HI2 := hide (show Ints .i64 w B A2 (R - Wd) ((zs.drop o).drop Wd) by rw [← hA2]; exact HIW.out.tailI hc' hRW)
    rw [hA2] at hcut
    obtain ⟨c0, c1, cg⟩ := HM8.out.cells
    obtain ⟨f1, _, _⟩ := HM8.out.mem.open
    have HM9 := hide (HM8.out.list (.slice A2 (R - Wd) (c' - Wd)))
    have HNB9 := hide (row_put HNB8.out (off := 0) (v := .slice A2 (R - Wd) (c' - Wd)) (show bn ≠ w.heap.size + 1 by omega))
    obtain ⟨_, _, cg9⟩ := HM9.out.cells
    clear hA2
    gi_wp2_with fail
    refine ⟨trivial, (calls_round l _ (implBackward bt p mm mm _)).mono ?_⟩
    rintro e wA ⟨rfl, hwA⟩
    obtain ⟨w9, hw9⟩ : ∃ w9, w8.setCell ⟨w.heap.size + 1, 0, none⟩ (.slice A2 (R - Wd) (c' - Wd)) = w9 := ⟨_, rfl⟩
    rw [hw9] at HM9 HNB9 hwA ⊢
    have HMA := hide (show RdR w W wA (.iface 172 (.agg #[])) _ bt n _ w3.heap.size bg _ by rw [hwA]; exact HM9.out.next ((Below.refl _ _).alloc (Nat.le_refl _) _))
    have HNA := hide (show wA.heap[bn]? = some (.cells #[.int .i64 (v : Nat)] 2 (0, 0)) by rw [hwA]; exact row_keep HNB9.out _)
    have HBA := hide (show BkRow wA w9.heap.size bt p mm mm by rw [hwA]; exact heap_alloc_new w9 _)
    have hbn9 : bn < w9.heap.size := (Array.getElem?_eq_some_iff.1 HNB9.out).1
    have hA9 : w9.heap.size < wA.heap.size := by rw [hwA, alloc_size]; omega
    have h9W : W.heap.size ≤ w9.heap.size := HM9.out.size
    clear hw9 hwA c0 c1 cg f1 cg9 hcut HM9 HM8 HNB9 HNB8 HM7 HNB HMD HNB7 HGM7
    gi_wp2_with fail
    obtain ⟨r0, hr0⟩ := hrec
    have hlA : wA.heap[l]? = some (.loop r0) := HMA.out.keep.same l _ (by omega) hr0 rfl
    have hWA := HMA.out.size
    have htb := tx_begin (zs := zs) (m := m) (n := n) (j := j) (p := p) (cc := mm) (q := q) HPL.out HQ.out (gbase m) v
    rw [HPL.out, htb] at HMA
    have hbnA : bn < wA.heap.size := (Array.getElem?_eq_some_iff.1 HNA.out).1
    have hmm3 : mm ≤ 3 := by omega
    clear htb
    refine range_back (l0 := l) (r0 := r0) (bd := bt) (off := p) (n := mm) (c := mm) (Bn := w9.heap.size) (by omega) (Nat.le_refl _) (by omega) HBA.out hlA (by omega) rfl rfl
      (fun t W' => t ≤ mm ∧ wA.heap.size ≤ W'.heap.size ∧ RdR w W W' (.iface 172 (.agg #[])) (.slice A2 (R - Wd) (c' - Wd)) bt n (rdT zs 0 m n j ++ (List.replicate (mm - t) 0 ++ dgN (gbase m) m v t) ++ List.replicate q 0) w3.heap.size bg (.slice (some ⟨bt, p, none⟩) mm mm) ∧ W'.heap[bn]? = some (.cells #[.int .i64 (v / gbase m ^ t : Nat)] 2 (0, 0)))
      (fun t W' W'' h ht => ⟨h.1, Nat.le_trans h.2.1 ht.size, h.2.2.1.turn ht hWA, ht.row h.2.2.2⟩)
      (fun t W' h ht => h.2.2.1.mem.own.cellAt (tx_cell HPL.out (by omega)))
      ⟨Nat.zero_le _, Nat.le_refl _, HMA.out, by rw [Nat.pow_zero, Nat.div_one]; exact HNA.out⟩
      (fun t => { tmps := #[.iface 172 (.agg #[]), .slice A k c, .int .i64 n, .pointer (some ⟨w.heap.size, 0, none⟩), .pointer (some ⟨w.heap.size + 1, 0, none⟩), undef, .pointer (some ⟨w.heap.size + 1 + 1, 0, none⟩), .pointer (some ⟨w.heap.size + 1 + 1 + 1, 0, none⟩), .slice (some ⟨bt, 0, none⟩) n n, .pointer (some ⟨bg, 0, none⟩), .int .i64 Wd, .pointer (some ⟨bn, 0, none⟩), .int .i64 (mm - 1 - t : Nat), .slice A k c, .int .i64 k, .iface 172 (.agg #[]), .int .i64 n, .int .i64 T, .bool false, .int .i64 n, .slice (some ⟨bt, 0, none⟩) n n, .slice (some ⟨bt, 0, none⟩) n n, .iface 172 (.agg #[]), .int .i64 G, .func (.func 129) #[] #[.pointer (some ⟨w3.heap.size, 0, none⟩), .pointer (some ⟨w3.heap.size + 1, 0, none⟩)], .slice (some ⟨bt, p, none⟩) mm mm, .iface 172 (.agg #[]), .slice (some ⟨bt, p, none⟩) mm mm, .int .i64 mm, .int .i64 Wd, .slice A' R c', .int .i64 Wd, .slice A' Wd c', .int .i64 (v : Nat), .int .i64 (v : Nat), .iface 172 (.agg #[]), .slice (some ⟨bt, p, none⟩) mm mm, .int .i64 mm, .int .i64 L, .bool false, .slice A' R c', .int .i64 Wd, .slice A2 (R - Wd) (c' - Wd), .slice (some ⟨bt, p, none⟩) mm mm, .func (.func 130) #[] #[.pointer (some ⟨w9.heap.size, 0, none⟩)], .int .i64 (mm - 1 - t : Nat), .int .u8 0, undef, undef, undef, undef, undef, undef, undef, undef, undef, undef, undef, undef, undef, undef, undef, undef, undef, undef], defers := [] }) ?assign2 ?body2 ?done2
    case assign2 =>
      intro l' t W' K' ht hK'
      gi_wp2_with fail
      exact hK'
    case body2 =>
      rintro l' t W' ht hl' ⟨_, hsA, hR, hN⟩
      have HR := hide hR
      have HN := hide hN
      clear hR hN
      have hgb1 := gbase_pos m
      have hgb2 := gbase_le m
      have HC2 := hide HC.out
      have HCH2 := hide HCH.out
      have HDG := hide (show dgN (gbase m) m v (t + 1) = chr m ((v / gbase m ^ t % gbase m : Nat) : Int) :: dgN (gbase m) m v t from rfl)
      have HUN := hide (show v / gbase m ^ (t + 1) = v / gbase m ^ t / gbase m by rw [Nat.pow_succ, ← Nat.div_div_eq_div_mul])
      have hul := Nat.div_le_self v (gbase m ^ t)
      obtain ⟨u, hu⟩ : ∃ u, v / gbase m ^ t = u := ⟨_, rfl⟩
      rw [hu] at HN HDG HUN hul
      obtain ⟨gb, hgbe⟩ : ∃ gb, gbase m = gb := ⟨_, rfl⟩
      rw [hgbe] at HR HDG HUN hgb1 hgb2 HC2 HCH2
      have hx3 : u % gb < gb := Nat.mod_lt _ (by omega)
      have htm : (u : Int).tmod (gb : Int) = ((u % gb : Nat) : Int) := by rw [Int.tmod_eq_emod_of_nonneg (by omega)]; rfl
      have hdl := Nat.div_le_self u gb
      have htd0 : (u : Int).tdiv (gb : Int) = ((u / gb : Nat) : Int) := by rw [Int.tdiv_eq_ediv_of_nonneg (by omega)]; rfl
      have htd1 : ((u : Int) / (gb : Int)) = ((u / gb : Nat) : Int) := rfl
      obtain ⟨x3, hx3e⟩ : ∃ x3, u % gb = x3 := ⟨_, rfl⟩
      obtain ⟨u2, hu2e⟩ : ∃ u2, u / gb = u2 := ⟨_, rfl⟩
      rw [hx3e] at hx3 htm HDG
      rw [hu2e] at hdl htd0 htd1 HUN
      have HCHx := hide (fun w => HCH2.out x3 w hx3)
      obtain ⟨y, hy⟩ : ∃ y, chr m (x3 : Int) = y := ⟨_, rfl⟩
      rw [hy] at HDG HCHx
      obtain ⟨kk, hkk⟩ : ∃ kk, mm - 1 - t = kk := ⟨_, rfl⟩
      have hkm : kk < mm := by omega
      have hkI : (kk : Int) < (mm : Int) := by omega
      have hk0 : (0 : Int) ≤ (kk : Int) := by omega
      have HTP := hide (show (rdT zs 0 m n j ++ (List.replicate (mm - t) 0 ++ dgN gb m v t) ++ List.replicate q 0).set (p + kk) y = rdT zs 0 m n j ++ (List.replicate (mm - (t + 1)) 0 ++ dgN gb m v (t + 1)) ++ List.replicate q 0 by
        rw [HDG.out, show mm - t = kk + 1 by omega, show mm - (t + 1) = kk by omega]
        exact tx_put HPL.out)
      have HZC := hide (tx_cell (P := rdT zs 0 m n j) (D := dgN gb m v t) (q := q) (r := mm - t) (i := kk) HPL.out (by omega))
      obtain ⟨tx, htx⟩ : ∃ tx, rdT zs 0 m n j ++ (List.replicate (mm - t) 0 ++ dgN gb m v t) ++ List.replicate q 0 = tx := ⟨_, rfl⟩
      obtain ⟨tx2, htx2⟩ : ∃ tx2, rdT zs 0 m n j ++ (List.replicate (mm - (t + 1)) 0 ++ dgN gb m v (t + 1)) ++ List.replicate q 0 = tx2 := ⟨_, rfl⟩
      rw [htx] at HR HTP HZC
      rw [htx2] at HTP
      have HTX2 := hide htx2
      have hgb0 : gb ≠ 0 := by omega
      have hgbi : ¬ (gb : Int) = 0 := by omega
      have hwtm : IntKind.i64.wrap ((u : Int).tmod (gb : Int)) = (x3 : Int) := by rw [htm]; exact IntWalk.i64_in _ ⟨by omega, by omega⟩
      have hwtd : IntKind.i64.wrap ((u : Int).tdiv (gb : Int)) = (u2 : Int) := by rw [htd0]; exact IntWalk.i64_in _ ⟨by omega, by omega⟩
      have hwtd1 : IntKind.i64.wrap ((u : Int) / (gb : Int)) = (u2 : Int) := by rw [htd1]; exact IntWalk.i64_in _ ⟨by omega, by omega⟩
      have hWAW := HR.out.size
      have hwu2 : IntKind.i64.wrap (u2 : Int) = (u2 : Int) := IntWalk.i64_in _ ⟨by omega, by omega⟩
      have HGB := hide hgbe
      rw [hkk]
      obtain ⟨mv, hmv⟩ : ∃ mv, mv = W'.drew.heap.size := ⟨_, rfl⟩
      have HRD := hide HR.out.drew
      have HKD := hide (KpB.refl (B := wA.heap.size) (bk := w9.heap.size) (W := W') (by omega)).drew
      have HND := hide (show W'.drew.heap[bn]? = some (.cells #[.int .i64 (u : Nat)] 2 (0, 0)) from HN.out)
      have hbnt : bn ≠ bt := by have := HMA.out.lo; omega
      clear hu hgbe hx3e hu2e hy hkk htx htx2 htd1 hmv
      gi_wp2_with fail
      refine round_begin (fun w' => w'.cell? ⟨bn, 0, none⟩ = some (.int .i64 (u : Nat)) ∧ w'.cell? ⟨w.heap.size, 0, none⟩ = some (.iface 172 (.agg #[])) ∧ w'.cell? ⟨bg, 0, none⟩ = some (.slice (some ⟨bt, p, none⟩) mm mm)) 12 (by kernel_rfl) (by kernel_rfl) (by rintro ⟨_, _, hq⟩; exact hq) ⟨(cell1 HND.out).1, HRD.out.cells.1, HRD.out.cells.2.2⟩ (fun hS' => ?_)
      refine tail_take 0 rfl (by kernel_rfl) (by kernel_rfl) (by kernel_rfl) (by kernel_rfl) (fun _ _ _ h => h) (by rfl) (v := ?_) ?_ (by assumption) ?_
      rotate_left 1
      · intro w' hS'; obtain ⟨d0, d1, d2⟩ := hS'; go_simp; try with_reducible rfl
      try simp only [Act.put, List.setIfInBounds_toArray, List.set_cons_zero, List.set_cons_succ]
      refine tail_take 1 rfl (by kernel_rfl) (by kernel_rfl) (by kernel_rfl) (by kernel_rfl) (fun _ _ _ h => h) (by rfl) (v := ?_) ?_ (by assumption) ?_
      rotate_left 1
      · intro w' hS'; obtain ⟨d0, d1, d2⟩ := hS'; go_simp; try with_reducible rfl
      try simp only [Act.put, List.setIfInBounds_toArray, List.set_cons_zero, List.set_cons_succ]
      refine tail_take 2 rfl (by kernel_rfl) (by kernel_rfl) (by kernel_rfl) (by kernel_rfl) (fun _ _ _ h => h) (by rfl) (v := ?_) ?_ (by assumption) ?_
      rotate_left 1
      · intro w' hS'; obtain ⟨d0, d1, d2⟩ := hS'; go_simp; try with_reducible rfl
      try simp only [Act.put, List.setIfInBounds_toArray, List.set_cons_zero, List.set_cons_succ]
      refine tail_take 3 rfl (by kernel_rfl) (by kernel_rfl) (by kernel_rfl) (by kernel_rfl) (fun _ _ _ h => h) (by rfl) (v := ?_) ?_ (by assumption) ?_
      rotate_left 1
      · intro w' hS'; obtain ⟨d0, d1, d2⟩ := hS'; go_simp; try with_reducible rfl
      try simp only [Act.put, List.setIfInBounds_toArray, List.set_cons_zero, List.set_cons_succ]
      refine tail_take 4 rfl (by kernel_rfl) (by kernel_rfl) (by kernel_rfl) (by kernel_rfl) (fun _ _ _ h => h) (by rfl) (v := ?_) ?_ (by assumption) ?_
      rotate_left 1
      · intro w' hS'; obtain ⟨d0, d1, d2⟩ := hS'; go_simp; try with_reducible rfl
      try simp only [Act.put, List.setIfInBounds_toArray, List.set_cons_zero, List.set_cons_succ]
      refine tail_take 7 rfl (by kernel_rfl) (by kernel_rfl) (by kernel_rfl) (by kernel_rfl) (fun _ _ _ h => h) (by rfl) (v := ?_) ?_ (by assumption) ?_
      rotate_left 1
      · intro w' hS'; obtain ⟨d0, d1, d2⟩ := hS'; go_simp; try with_reducible rfl
      try simp only [Act.put, List.setIfInBounds_toArray, List.set_cons_zero, List.set_cons_succ]
      refine tail_take 8 rfl (by kernel_rfl) (by kernel_rfl) (by kernel_rfl) (by kernel_rfl) (fun _ _ _ h => h) (by rfl) (v := ?_) ?_ (by assumption) ?_
      rotate_left 1
      · intro w' hS'; obtain ⟨d0, d1, d2⟩ := hS'; go_simp; try with_reducible rfl
      try simp only [Act.put, List.setIfInBounds_toArray, List.set_cons_zero, List.set_cons_succ]
      refine tail_take 9 rfl (by kernel_rfl) (by kernel_rfl) (by kernel_rfl) (by kernel_rfl) (fun _ _ _ h => h) (by rfl) (v := ?_) ?_ (by assumption) ?_
      rotate_left 1
      · intro w' hS'; obtain ⟨d0, d1, d2⟩ := hS'; go_simp; try with_reducible rfl
      try simp only [Act.put, List.setIfInBounds_toArray, List.set_cons_zero, List.set_cons_succ]
      refine tail_call 5 rfl (by kernel_rfl) rfl (fun K hK => ?_)
      go_simp
      (go_at_call 154; refine (HC2.out _).mono ?_; rintro e wB ⟨rfl, hbB⟩; have HRB := hide (HRD.out.next hbB); have HNB := hide ((hbB.block _ (Array.getElem?_eq_some_iff.1 HND.out).1).trans HND.out); have HKB := hide (HKD.out.next hbB); clear hbB)
      refine hK.out _ _ (by (try dsimp only); exact ⟨(cell1 HNB.out).1, HRB.out.cells.1, HRB.out.cells.2.2⟩) (fun hS' => ?_)
      clear hK K
      try simp only [Act.put, List.setIfInBounds_toArray, List.set_cons_zero, List.set_cons_succ]
      refine tail_take 6 rfl (by kernel_rfl) (by kernel_rfl) (by kernel_rfl) (by kernel_rfl) (fun _ _ _ h => h) (by rfl) (v := ?_) ?_ (by assumption) ?_
      rotate_left 1
      · intro w' hS'; obtain ⟨d0, d1, d2⟩ := hS'; go_simp; try with_reducible rfl
      try simp only [Act.put, List.setIfInBounds_toArray, List.set_cons_zero, List.set_cons_succ]
      refine tail_call 10 rfl (by kernel_rfl) rfl (fun K hK => ?_)
      go_simp
      (go_at_call 153; refine (HCHx.out _).mono ?_; rintro e wC ⟨rfl, hbC⟩; have HRC := hide (HRB.out.next hbC); have HNC := hide ((hbC.block _ (Array.getElem?_eq_some_iff.1 HNB.out).1).trans HNB.out); have HKC := hide (HKB.out.next hbC); clear hbC)
      refine hK.out _ _ (by (try dsimp only); exact ⟨(cell1 HNC.out).1, HRC.out.cells.1, HRC.out.cells.2.2⟩) (fun hS' => ?_)
      clear hK K
      try simp only [Act.put, List.setIfInBounds_toArray, List.set_cons_zero, List.set_cons_succ]
      refine tail_take 11 rfl (by kernel_rfl) (by kernel_rfl) (by kernel_rfl) (by kernel_rfl) (fun _ _ _ h => h) (by rfl) (v := ?_) ?_ (by assumption) ?_
      rotate_left 1
      · intro w' hS'; obtain ⟨d0, d1, d2⟩ := hS'; go_simp; try with_reducible rfl
      try simp only [Act.put, List.setIfInBounds_toArray, List.set_cons_zero, List.set_cons_succ]
      obtain ⟨d0, d1, d2⟩ := hS'
      have fz := HRC.out.mem.own.frozenAt (p + kk)
      have cz := HRC.out.mem.own.cellAt HZC.out
      refine tail_last 12 rfl (by kernel_rfl) (by kernel_rfl) rfl rfl (fun K hK => ?_)
      go_simp
      refine hK.out _ _ ?_
      clear hK K
      try simp only [Act.put, List.setIfInBounds_toArray, List.set_cons_zero, List.set_cons_succ]
      have HRS := hide (HRC.out.put (p + kk) y)
      rw [HTP.out] at HRS
      have HKS := hide (HKC.out.put (b := bt) (by have := HMA.out.lo; omega) (p + kk) (.int .u8 y))
      have HNS := hide (row_put HNC.out (off := p + kk) (v := .int .u8 y) hbnt)
      obtain ⟨wS, hwS⟩ : ∃ wS, wC.setCell ⟨bt, p + kk, none⟩ (.int .u8 y) = wS := ⟨_, rfl⟩
      rw [hwS] at HRS HNS HKS ⊢
      clear hwS d0 d1 d2 fz cz hS' HRC HNC HRB HNB HRD HND HKB HKC HKD
      have HRE := hide HRS.out.drew
      have HKE := hide HKS.out.drew
      have HNE := hide (show wS.drew.heap[bn]? = some (.cells #[.int .i64 (u : Nat)] 2 (0, 0)) from HNS.out)
      gi_wp2_with fail
      refine round_begin (fun w' => w'.cell? ⟨bn, 0, none⟩ = some (.int .i64 (u : Nat)) ∧ w'.cell? ⟨w.heap.size, 0, none⟩ = some (.iface 172 (.agg #[]))) 4 (by kernel_rfl) (by kernel_rfl) (by rintro ⟨_, _, hq⟩; exact hq) ⟨(cell1 HNE.out).1, HRE.out.cells.1⟩ (fun hS' => ?_)
      refine tail_take 0 rfl (by kernel_rfl) (by kernel_rfl) (by kernel_rfl) (by kernel_rfl) (fun _ _ _ h => h) (by rfl) (v := ?_) ?_ (by assumption) ?_
      rotate_left 1
      · intro w' hS'; obtain ⟨d0, d1⟩ := hS'; go_simp; try with_reducible rfl
      try simp only [Act.put, List.setIfInBounds_toArray, List.set_cons_zero, List.set_cons_succ]
      refine tail_take 1 rfl (by kernel_rfl) (by kernel_rfl) (by kernel_rfl) (by kernel_rfl) (fun _ _ _ h => h) (by rfl) (v := ?_) ?_ (by assumption) ?_
      rotate_left 1
      · intro w' hS'; obtain ⟨d0, d1⟩ := hS'; go_simp; try with_reducible rfl
      try simp only [Act.put, List.setIfInBounds_toArray, List.set_cons_zero, List.set_cons_succ]
      refine tail_call 2 rfl (by kernel_rfl) rfl (fun K hK => ?_)
      go_simp
      (go_at_call 154; refine (HC2.out _).mono ?_; rintro e wF ⟨rfl, hbF⟩; have HRF := hide (HRE.out.next hbF); have HNF := hide ((hbF.block _ (Array.getElem?_eq_some_iff.1 HNE.out).1).trans HNE.out); have HKF := hide (HKE.out.next hbF); clear hbF)
      refine hK.out _ _ (by (try dsimp only); exact ⟨(cell1 HNF.out).1, HRF.out.cells.1⟩) (fun hS' => ?_)
      clear hK K
      try simp only [Act.put, List.setIfInBounds_toArray, List.set_cons_zero, List.set_cons_succ]
      refine tail_take 3 rfl (by kernel_rfl) (by kernel_rfl) (by kernel_rfl) (by kernel_rfl) (fun _ _ _ h => h) (by rfl) (v := ?_) ?_ (by assumption) ?_
      rotate_left 1
      · intro w' hS'; obtain ⟨d0, d1⟩ := hS'; go_simp; try with_reducible rfl
      try simp only [Act.put, List.setIfInBounds_toArray, List.set_cons_zero, List.set_cons_succ]
      obtain ⟨d0, d1⟩ := hS'
      obtain ⟨_, fz⟩ := cell1 HNF.out
      refine tail_last 4 rfl (by kernel_rfl) (by kernel_rfl) rfl rfl (fun K hK => ?_)
      go_simp
      refine hK.out _ _ ?_
      clear hK K
      try simp only [Act.put, List.setIfInBounds_toArray, List.set_cons_zero, List.set_cons_succ]
      have HRG := hide (HRF.out.other hWbn (.int .i64 (u2 : Nat)))
      have HKG := hide (HKF.out.put (b := bn) (by omega) 0 (.int .i64 (u2 : Nat)))
      have HNG := hide (heap_setCell_same wF bn 0 _ _ (.int .i64 (u2 : Nat)) HNF.out)
      clear d0 d1 fz hS'
      gi_wp2_with fail
      refine ⟨HKG.out.keep, HKG.out.box, ?_⟩
      dsimp only
      rw [List.length_replicate, HGB.out, HTX2.out, HUN.out]
      exact ⟨by omega, Nat.le_trans hsA HKG.out.keep.size, HRG.out, HNG.out⟩
    case done2 =>
      rintro W' ⟨_, _, hR, hN⟩
      have HRF := hide hR
      clear hR hN
      gi_wp2_with fail
      have hTX : rdT zs 0 m n (j + 1) = rdT zs 0 m n j ++ dgN (gbase m) m v mm := by rw [rdT, HVN.out, HGL.out]
      have hF0 := HRF.out.mem
      rw [Nat.sub_self, List.replicate_zero, List.nil_append, ← hTX] at hF0
      refine ⟨by rw [hs4]; exact HRF.out.keep, HRF.out.ck, ?_⟩
      dsimp only
      rw [List.length_replicate]
      refine ⟨hjN, rdOk_next HOK.out HVL.out, A2, R - Wd, c' - Wd, fun h => ?_, ?_⟩
      · have hfull := glN_full (m := m) (n := n) (j := j) (by rw [HGG.out]; exact h)
        rw [HGL.out, HGG.out] at hfull
        have he : (j + 1) * wid m G = o + Wd := by rw [Nat.add_mul, Nat.one_mul, HOO.out, ← hfull, HWD.out]
        rw [he, ← List.drop_drop]
        exact ⟨HI2.out.len, HI2.out, by omega, by omega⟩
      · have hlen : (rdT zs 0 m n (j + 1)).length = p + mm := by rw [hTX, List.length_append, HPL.out, dgN_len]
        rw [hlen, show n - (p + mm) = q by have := HQ.out; omega]
        exact hF0
  case done =>
    rintro Dd W hDd ⟨_, hok, A', R, c', _, hM⟩ hKd
    have hN0 : ¬ gct G n * G < n := fun h => Nat.lt_irrefl _ ((gct_lt hg1).2 h)
    have hlen : (rdT zs 0 m n (gct G n)).length = n := by rw [rdT_len zs 0 m n _ (by rw [HGG.out]; exact Nat.le_refl _), HGG.out]; omega
    have HYES := hide (show rtB zs m n = true ∧ rtS zs m n = strOf (rdT zs 0 m n (gct G n)) by
      have h : rtB zs m n = true := by
        unfold rtB
        exact @decide_eq_true _ (Classical.propDecidable _) ⟨by rw [HT.out, hl.out]; omega, by rw [HGG.out]; exact hok⟩
      exact ⟨h, by unfold rtS; rw [h, HGG.out]; rfl⟩)
    rw [hlen, Nat.sub_self, List.replicate_zero, List.append_nil] at hM
    have HMF := hide hM
    have hconv := run_str W elem8 Try.underlying5 Try.underlying9 n (HMF.out.own.ints)
    rw [hlen] at hconv
    obtain ⟨S, hS⟩ : ∃ S, strOf (rdT zs 0 m n (gct G n)) = S := ⟨_, rfl⟩
    rw [hS] at hconv HYES
    obtain ⟨c2, f2⟩ := cell1 HMF.out.r2
    obtain ⟨c3, f3⟩ := cell1 HMF.out.r3
    have hDl := HMF.out.lt
    have HKD := hide hKd
    have hne : w.heap.size + 1 + 1 ≠ w.heap.size + 1 + 1 + 1 := by omega
    have HW2 := hide (row_put (heap_setCell_same W (w.heap.size + 1 + 1) 0 _ _ (.string S) HMF.out.r2) (off := 0) (v := .bool true) hne)
    have HW3 := hide (heap_setCell_same (W.setCell ⟨w.heap.size + 1 + 1, 0, none⟩ (.string S)) (w.heap.size + 1 + 1 + 1) 0 _ _ (.bool true) (row_put HMF.out.r3 hne.symm))
    have HWB := hide ((HMF.out.bel.setCell (p := ⟨w.heap.size + 1 + 1, 0, none⟩) (by show w.heap.size ≤ w.heap.size + 1 + 1; omega) (.string S)).setCell (p := ⟨w.heap.size + 1 + 1 + 1, 0, none⟩) (by show w.heap.size ≤ w.heap.size + 1 + 1 + 1; omega) (.bool true))
    have HWK := hide (row_put (row_put HKD.out (off := 0) (v := .string S) (show Dd ≠ w.heap.size + 1 + 1 by omega)) (off := 0) (v := .bool true) (show Dd ≠ w.heap.size + 1 + 1 + 1 by omega))
    clear hM hKd hN0 hlen hS hok
    gi_wp2_with fail
    obtain ⟨wF, hwF⟩ : ∃ wF, (W.setCell ⟨w.heap.size + 1 + 1, 0, none⟩ (.string S)).setCell ⟨w.heap.size + 1 + 1 + 1, 0, none⟩ (.bool true) = wF := ⟨_, rfl⟩
    rw [hwF] at HW2 HW3 HWB HWK ⊢
    refine ⟨by simp, .inl ⟨_, _, rfl, run_takeDeferred HWK.out, ?_⟩⟩
    have ht := turn_put (B := w4.heap.size) (.deferred none) HWK.out rfl hDd
    have z2 := (cell1 (ht.row HW2.out)).1
    have z3 := (cell1 (ht.row HW3.out)).1
    refine ⟨.tuple #[.string S, .bool true], by simp [results, Try.results114, go_sem, z2, z3], ?_⟩
    rw [HYES.out.1, HYES.out.2]
    exact ⟨rfl, ht.below HWB.out (Nat.le_refl _) (by omega)⟩
  case stop =>
    rintro Dd c1 W hDd ⟨rfl, hno, h2, h3, hb⟩ hKd
    have HNO := hide (show rtB zs m n = false ∧ rtS zs m n = ⟨#[]⟩ by
      have h : rtB zs m n = false := by
        unfold rtB
        exact @decide_eq_false _ (Classical.propDecidable _) hno
      exact ⟨h, by unfold rtS; rw [h]; rfl⟩)
    have HW2 := hide h2
    have HW3 := hide h3
    have HWB := hide hb
    have HWK := hide hKd
    clear h2 h3 hb hKd hno
    gi_wp2_with fail
    refine ⟨by simp, .inl ⟨_, _, rfl, run_takeDeferred HWK.out, ?_⟩⟩
    have ht := turn_put (B := w4.heap.size) (.deferred none) HWK.out rfl hDd
    have z2 := (cell1 (ht.row HW2.out)).1
    have z3 := (cell1 (ht.row HW3.out)).1
    refine ⟨.tuple #[.string ⟨#[]⟩, .bool false], by simp [results, Try.results114, go_sem, z2, z3], ?_⟩
    rw [HNO.out.1, HNO.out.2]
    exact ⟨rfl, ht.below HWB.out (Nat.le_refl _) (by omega)⟩

theorem rdTextOf : TextOf := by
  intro A k c B zs m n w hm hn hI hB hk hc hcc hbt
  by_cases h4 : m = 4
  · subst h4
    rw [MV_b]
    exact implTextB 4 hm 1 rfl MV_b (fun w => implCountB w) (fun x w hx => implCharB x hx w) (fun w => implSizeB w) A k c B zs n w hn hI hB hk hc hcc hbt
  · have hm3 : m = 1 ∨ m = 2 ∨ m = 3 := by omega
    rw [MV_a hm3]
    refine implTextA m hm (stS m) (gsz m : Nat) (gsz m) rfl (MV_a hm3) (fun w => ?_) (fun x w hx => implCharA m hm3 _ _ (stS_chars hm3) x hx w) (fun w => implSizeA _ _ w) A k c B zs n w hn hI hB hk hc hcc hbt
    have h := implCountA (stS m) (gsz m : Nat) w
    rw [stS_size hm3] at h; exact h
end Go.Proofs.Ythbmfaogjaahoaa
