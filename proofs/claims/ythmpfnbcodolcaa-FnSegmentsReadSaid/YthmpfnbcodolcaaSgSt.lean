/-
  A slice in a box that grows while other boxes stay: what a loop keeps that appends to a variable of its caller's.
  No condition.
-/
import Derived.Test.YthmpfnbcodolcaaSgTurn
import Derived.Test.YthmpfnbcodolcaaSgApp
import Derived.Laws.IdiomStrings
namespace Go.Proofs.Ythmpfnbcodolcaa
open Go Go.RowKit
set_option linter.unusedSimpArgs false
set_option linter.unusedVariables false

/-- A stretch that is left at its end alone. -/
def OnlyN (Q : Exit → Act → World → Prop) : Exit → Act → World → Prop
  | .normal, a, w => Q .normal a w
  | _, _, _ => False
theorem region_only {P : Program} {n : Nat} {c : Code} {Q : Exit → Act → World → Prop} {a : Act} {w : World} (h : c.wp P (OnlyN Q) a w) : c.wpIn Fence.wide n P Q a w :=
  wpIn_wide.2 (wp_mono h fun e a w hq => by cases e <;> first | exact hq | exact hq.elim)

theorem row_put {W : World} {b b' off : Nat} {o : Obj} {v : Value} (h : W.heap[b]? = some o) (hne : b ≠ b') : (W.setCell ⟨b', off, none⟩ v).heap[b]? = some o := by
  rw [heap_setCell_other W ⟨b', off, none⟩ b v hne]; exact h
theorem cell1 {W : World} {b : Nat} {v : Value} {t : TypeId} (h : W.heap[b]? = some (.cells #[v] t (0, 0))) : W.cell? ⟨b, 0, none⟩ = some v ∧ W.frozen? ⟨b, 0, none⟩ = false :=
  ⟨cell_of_row W b 0 _ _ _ h, frozen_of_row W b 0 _ _ h⟩
theorem keepsO_owned {base : Nat} {W W' : World} {e : TypeId} {size n : Nat} {v : Value} {xs : List Value} (hg : W.grownBy W' v.ownBlock) (ho : W.ownsRow base e size v n xs) : KeepsOthers W W' :=
  KeepsOthers.of_grownBy hg fun j o e' hj => by
    rcases ho.2 with ⟨rfl, _⟩ | ⟨g, cap, cur, rfl, _, hgb, _⟩
    · cases e'
    · obtain rfl : g = j := by simpa [Value.ownBlock] using e'
      rw [hgb] at hj; cases hj; rfl

/-- The variable in block b3 holds the slice v, which reads as zs and is its own; the other blocks of L are as they were in W1. -/
structure AppV (v0 : Value) (w W1 W : World) (base b3 : Nat) (L : List Nat) (v : Value) (zs : List Int) : Prop where
  box : W.heap[b3]? = some (.cells #[v] 24 (0, 0))
  own : Own W base 2 .i64 v zs
  lies : ∀ g, v.ownBlock = some g → g ∉ L
  keep : ∀ i ∈ L, i ≠ b3 → W.heap[i]? = W1.heap[i]?
  bel : Below base w W
  size : W1.heap.size ≤ W.heap.size
  old : ∀ i, i < w.heap.size → v0.ownBlock ≠ some i → W.heap[i]? = w.heap[i]?
  src : ∀ g, v.ownBlock = some g → v0.ownBlock = some g ∨ w.heap.size ≤ g
/-- What a function leaves that appends to a slice of its caller's own: nothing else of what was there has changed. -/
def LongerB (e : TypeId) (k : IntKind) (base : Nat) (v0 : Value) (zs : List Int) (w : World) (x : Ending) (w' : World) : Prop :=
  ∃ v, x = .returned v ∧ Own w' base e k v zs ∧ Below base w w' ∧ w.grownBy w' v0.ownBlock ∧ ∀ g, v.ownBlock = some g → v0.ownBlock = some g ∨ w.heap.size ≤ g
section
variable {v0 : Value} {w W1 W W' : World} {base b3 : Nat} {L : List Nat} {v v' : Value} {zs zs' : List Int}
theorem AppV.next (h : AppV v0 w W1 W base b3 L v zs) (hL : ∀ i ∈ L, i < W1.heap.size) (hbase : base ≤ w.heap.size) (hb : Below W.heap.size W W') : AppV v0 w W1 W' base b3 L v zs :=
  ⟨by rw [hb.block _ (Array.getElem?_eq_some_iff.1 h.box).1]; exact h.box, h.own.below hb (Nat.le_refl _), h.lies,
   fun i hi hne => by rw [hb.block _ (Nat.lt_of_lt_of_le (hL i hi) h.size)]; exact h.keep i hi hne,
   h.bel.trans (hb.mono (Nat.le_trans hbase h.bel.size)), Nat.le_trans h.size hb.size,
   fun i hi hne => by rw [hb.block _ (Nat.lt_of_lt_of_le hi h.bel.size)]; exact h.old i hi hne, h.src⟩
theorem AppV.drew (h : AppV v0 w W1 W base b3 L v zs) : AppV v0 w W1 W.drew base b3 L v zs := ⟨h.box, h.own, h.lies, h.keep, h.bel.drew, h.size, h.old, h.src⟩
theorem AppV.turn (h : AppV v0 w W1 W base b3 L v zs) (hL : ∀ i ∈ L, i < W1.heap.size) (hbase : base ≤ w.heap.size) (hw1 : w.heap.size ≤ W1.heap.size) (ht : Turn W1.heap.size W W') : AppV v0 w W1 W' base b3 L v zs :=
  ⟨ht.row h.box, ht.own h.own, h.lies, fun i hi hne => by rw [ht.block (hL i hi) (Nat.lt_of_lt_of_le (hL i hi) h.size)]; exact h.keep i hi hne,
   ht.below h.bel hbase (Nat.le_trans hbase hw1), Nat.le_trans h.size ht.size,
   fun i hi hne => by rw [ht.block (Nat.lt_of_lt_of_le hi hw1) (Nat.lt_of_lt_of_le hi h.bel.size)]; exact h.old i hi hne, h.src⟩
theorem AppV.put (h : AppV v0 w W1 W base b3 L v zs) (hb3 : b3 ∈ L) (hL : ∀ i ∈ L, i < W1.heap.size) (hb3w : w.heap.size ≤ b3) (hbw : base ≤ w.heap.size) (ho : Own W' base 2 .i64 v' zs') (hg : W.grownBy W' v.ownBlock)
    (hl : ∀ g, v'.ownBlock = some g → v.ownBlock = some g ∨ W.heap.size ≤ g) : AppV v0 w W1 (W'.setCell ⟨b3, 0, none⟩ v') base b3 L v' zs' := by
  have hlies : ∀ g, v'.ownBlock = some g → g ∉ L := fun g hg' hm => by
    rcases hl g hg' with h1 | h1
    · exact h.lies g h1 hm
    · have := hL g hm; have := h.size; omega
  have hbk : ∀ i ∈ L, W'.heap[i]? = W.heap[i]? := fun i hi => hg.block i (Nat.lt_of_lt_of_le (hL i hi) h.size) fun e => h.lies i e.symm hi
  have hbase : base ≤ b3 := Nat.le_trans hbw hb3w
  refine ⟨?_, ?_, hlies, ?_, ?_, ?_, ?_, ?_⟩
  · exact heap_setCell_same W' b3 0 _ _ v' ((hbk b3 hb3).trans h.box)
  · refine ho.grown (row := some b3) (grownBy_setCell' W' b3 v') ?_
    rcases hv : v'.ownBlock with _ | g
    · exact .inl rfl
    · exact .inr fun e => hlies g hv (by cases e; exact hb3)
  · intro i hi hne
    rw [heap_setCell_other W' ⟨b3, 0, none⟩ i v' hne, hbk i hi]
    exact h.keep i hi hne
  · exact (h.bel.grown hg (Nat.le_trans hbw h.bel.size) (fun r hr => (h.own.lt hr).1)).setCell (p := ⟨b3, 0, none⟩) hbase v'
  · have h1 := (grownBy_setCell' W' b3 v').size
    exact Nat.le_trans h.size (Nat.le_trans hg.size h1)
  · intro i hi hne
    rw [heap_setCell_other W' ⟨b3, 0, none⟩ i v' (show i ≠ b3 by omega), hg.block i (Nat.lt_of_lt_of_le hi h.bel.size) (fun e => ?_)]
    · exact h.old i hi hne
    · rcases h.src i e.symm with h1 | h1
      · exact hne h1
      · omega
  · intro g hg'
    rcases hl g hg' with h1 | h1
    · exact h.src g h1
    · exact .inr (Nat.le_trans h.bel.size h1)
theorem AppV.gro (h : AppV v0 w W1 W base b3 L v zs) : w.grownBy W v0.ownBlock := ⟨h.bel.os, h.bel.tape, h.bel.output, h.bel.size, fun i hi hne => h.old i hi (fun e => hne e.symm)⟩
/-- The same, seen from a later world. -/
theorem AppV.from {L' : List Nat} {W2 : World} (h : AppV v0 w W1 W2 base b3 L v zs) (hl : ∀ g, v.ownBlock = some g → g ∉ L') : AppV v0 w W2 W2 base b3 L' v zs :=
  ⟨h.box, h.own, hl, fun _ _ _ => rfl, h.bel, Nat.le_refl _, h.old, h.src⟩
theorem AppV.keeps (h : AppV v0 w W1 W base b3 L v zs) (hg : W.grownBy W' v.ownBlock) (v' : Value) : KeepsOthers W (W'.setCell ⟨b3, 0, none⟩ v') :=
  (keepsO_owned hg h.own).trans (KeepsOthers.setCell _ _ _)
end

theorem AppV.rows {v0 : Value} {w W1 W W' : World} {base b3 : Nat} {L : List Nat} {v : Value} {zs : List Int} (h : AppV v0 w W1 W base b3 L v zs) (hL : ∀ i ∈ L, i < W1.heap.size) (hg : W.grownBy W' v.ownBlock) : ∀ i ∈ L, W'.heap[i]? = W.heap[i]? :=
  fun i hi => hg.block i (Nat.lt_of_lt_of_le (hL i hi) h.size) fun e => h.lies i e.symm hi
theorem row_keep {w : World} {b : Nat} {o : Obj} (h : w.heap[b]? = some o) (o' : Obj) : (w.alloc o').heap[b]? = some o := by
  rw [heap_alloc_old w o' (Array.getElem?_eq_some_iff.1 h).1]; exact h
theorem seg_cells {W : World} {b : Nat} {m : Int} {s : ByteArray} {t : TypeId} (h : W.heap[b]? = some (.cells #[.int .i64 m, .string s] t (0, 0))) : W.cell? ⟨b, 0, none⟩ = some (.int .i64 m) ∧ W.cell? ⟨b, 1, none⟩ = some (.string s) :=
  ⟨cell_of_row W b 0 _ _ _ h, cell_of_row W b 1 _ _ _ h⟩
theorem setCell_size (W : World) (a : Addr) (v : Value) : (W.setCell a v).heap.size = W.heap.size := by simp [World.setCell]

/-- The bytes of a string in a block of their own. -/
theorem bytes_row (w : World) (s : ByteArray) (cap : Nat) (e : TypeId) (f : Nat × Nat) : Ints .u8 (w.alloc (.cells (bytesRow s cap) e f)) (w.heap.size + 1) (some ⟨w.heap.size, 0, none⟩) s.size (bytesI s) := by
  refine ⟨bytesI_len s, fun hp => ⟨w.heap.size, 0, rfl, by omega, fun j x hx => ?_⟩⟩
  have hj : j < s.size := by have := (List.getElem?_eq_some_iff.1 hx).1; rw [bytesI_len] at this; exact this
  have hj' : j < s.data.size := hj
  have hx' : ((s.data[j]'hj').toNat : Int) = x := by
    unfold bytesI at hx
    rw [List.getElem?_map, Array.getElem?_toList, Array.getElem?_eq_getElem hj'] at hx
    simpa using hx
  rw [cell_of_row _ w.heap.size (0 + j) _ _ _ (heap_alloc_new w _), Nat.zero_add, bytesRow, Array.getElem?_append_left (by rw [Array.size_map]; exact hj'), Array.getElem?_map, Array.getElem?_eq_getElem hj']
  simp [hx']

/-- The bits of some groups. -/
def txL {N : Nat} (m : Int) (bs : List Int) (pre : List (Fin N)) : List Int := pre.flatMap fun x => bitsOf (gnum m (grp (gsz m) bs x.val)) (wid m (grp (gsz m) bs x.val).length)
theorem txL_snoc {N : Nat} (m : Int) (bs : List Int) (pre : List (Fin N)) (x : Fin N) : txL m bs (pre ++ [x]) = txL m bs pre ++ bitsOf (gnum m (grp (gsz m) bs x.val)) (wid m (grp (gsz m) bs x.val).length) := by simp [txL, List.flatMap_append]
theorem txL_le {N : Nat} (m : Int) (bs : List Int) (pre : List (Fin N)) : (txL m bs pre).length ≤ 11 * pre.length := by
  induction pre with
  | nil => simp [txL]
  | cons x pre ih =>
    have := wid_le m (grp (gsz m) bs x.val).length
    simp only [txL, List.flatMap_cons, List.length_append, bitsOf_len, List.length_cons] at ih ⊢
    omega
theorem txL_ups {m : Int} {bs : List Int} {N : Nat} : ∀ j, j ≤ N → txL m bs (upsN N j) = txP m bs j := by
  intro j
  induction j with
  | zero => intro _; rfl
  | succ j ih =>
    intro hj
    rw [upn_succ (by omega), txL_snoc, txP_succ, ih (by omega)]
theorem txL_all (m : Int) (bs : List Int) (N : Nat) : txL m bs (List.finRange N) = txP m bs N := by rw [← upn_all, txL_ups N (Nat.le_refl _)]
end Go.Proofs.Ythmpfnbcodolcaa
