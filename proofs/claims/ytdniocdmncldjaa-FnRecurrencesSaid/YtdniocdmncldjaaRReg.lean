/-
  The contract of the function that takes a sequence, one element at a time, of the program: its variables, and what one call does with them.
  Condition: the field is valid; the sequence has at most 64 elements.
-/
import Derived.Test.YtdniocdmncldjaaRSum
import Derived.Test.YtdniocdmncldjaaAppL
import Derived.Test.YtdniocdmncldjaaTail2
namespace Go.Proofs.Ytdniocdmncldjaa
open Go.RowKit
set_option linter.unusedSimpArgs false
set_option linter.unusedVariables false

/-- A variable in a block of its own. -/
def BoxV (w : World) (b : Nat) (v : Value) (t : TypeId) : Prop := w.heap[b]? = some (.cells #[v] t (0, 0))
section
variable {w w' : World} {b : Nat} {v : Value} {t : TypeId}
theorem BoxV.cell (h : BoxV w b v t) : w.cell? ⟨b, 0, none⟩ = some v := by rw [cell_of_row w b 0 _ _ _ h]; rfl
theorem BoxV.frozen (h : BoxV w b v t) : w.frozen? ⟨b, 0, none⟩ = false := by
  unfold BoxV at h
  simp [World.frozen?, h]
theorem BoxV.lt (h : BoxV w b v t) : b < w.heap.size := (Array.getElem?_eq_some_iff.1 h).1
theorem BoxV.below {B : Nat} (h : BoxV w b v t) (hb : Below B w w') (hB : b < B) : BoxV w' b v t := by unfold BoxV; rw [hb.block _ hB]; exact h
theorem BoxV.next (h : BoxV w b v t) (hb : Below w.heap.size w w') : BoxV w' b v t := h.below hb h.lt
theorem BoxV.alloc (h : BoxV w b v t) (o : Obj) : BoxV (w.alloc o) b v t := h.next ((Below.refl _ _).alloc (Nat.le_refl _) o)
theorem BoxV.new (w : World) (v : Value) (t : TypeId) : BoxV (w.alloc (.cells #[v] t)) w.heap.size v t := heap_alloc_new w _
theorem BoxV.set (h : BoxV w b v t) (u : Value) : BoxV (w.setCell ⟨b, 0, none⟩ u) b u t := heap_setCell_same w b 0 _ _ _ h
theorem BoxV.other {b' : Nat} {u : Value} (h : BoxV w b v t) (hne : b ≠ b') : BoxV (w.setCell ⟨b', 0, none⟩ u) b v t := by
  unfold BoxV; rw [heap_setCell_other w ⟨b', 0, none⟩ b u hne]; exact h
theorem BoxV.drewN (h : BoxV w b v t) (n : Nat) : BoxV (w.drewN n) b v t := h
theorem BoxV.grown {row : Option Nat} (h : BoxV w b v t) (hg : w.grownBy w' row) (hne : row ≠ some b) : BoxV w' b v t := by
  unfold BoxV; rw [hg.block b h.lt (Ne.symm hne)]; exact h
end
theorem Own.ne_box {w : World} {base b : Nat} {e t : TypeId} {k : IntKind} {v u : Value} {zs : List Int} (h : Own w base e k v zs) (hb : BoxV w b u t) (ht : e ≠ t) : v.ownBlock ≠ some b := by
  intro e1
  rcases h.2 with ⟨rfl, _⟩ | ⟨g, cap, cur, rfl, _, hg, _⟩
  · cases e1
  · simp only [Value.ownBlock, Option.some.injEq] at e1
    subst e1
    unfold BoxV at hb
    rw [hb] at hg
    simp only [Option.some.injEq, Obj.cells.injEq] at hg
    exact ht hg.2.1.symm
theorem Own.putBox {w : World} {base b : Nat} {e t : TypeId} {k : IntKind} {v u : Value} {zs : List Int} (h : Own w base e k v zs) (hb : BoxV w b u t) (ht : e ≠ t) (u' : Value) : Own (w.setCell ⟨b, 0, none⟩ u') base e k v zs :=
  ownsRow_setCell_other h (h.ne_box hb ht) u'
theorem ne_sym {v v' : Value} (hne : v.ownBlock = none ∨ v.ownBlock ≠ v'.ownBlock) : v'.ownBlock = none ∨ v'.ownBlock ≠ v.ownBlock := by
  rcases hne with h | h
  · rcases hv : v'.ownBlock with _ | b
    · exact .inl rfl
    · exact .inr (by rw [h]; simp)
  · exact .inr (Ne.symm h)

section
variable {R : Fld} {p k g : Int}
/-- The four variables beside the field: the elements that were taken, the length, the polynomial that fits, and an older one. -/
structure Reg (w0 wr : World) (p k g : Int) (bt bl bc bo : Nat) (T : List Int) (C O : List (El R)) (L : Nat) (vt vC vO : Value) : Prop where
  fx : Box w0 wr 25 p k g
  ht : BoxV wr bt vt 26
  hl : BoxV wr bl (.int .i64 (L : Int)) 3
  hc : BoxV wr bc vC 59
  ho : BoxV wr bo vO 59
  oT : Own wr (w0.heap.size + 1) 2 .i64 vt T
  oC : Own wr (w0.heap.size + 1) 2 .i64 vC (iv C)
  oO : Own wr (w0.heap.size + 1) 2 .i64 vO (iv O)
  nC : vt.ownBlock = none ∨ vt.ownBlock ≠ vC.ownBlock
  nO : vt.ownBlock = none ∨ vt.ownBlock ≠ vO.ownBlock
  d0 : w0.heap.size < bt ∧ w0.heap.size < bl ∧ w0.heap.size < bc ∧ w0.heap.size < bo
  d1 : bt ≠ bl ∧ bt ≠ bc ∧ bt ≠ bo ∧ bl ≠ bc ∧ bl ≠ bo ∧ bc ≠ bo
section
variable {w0 wr wr' : World} {bt bl bc bo : Nat} {T : List Int} {C O : List (El R)} {L : Nat} {vt vC vO : Value}
theorem Reg.next (h : Reg w0 wr p k g bt bl bc bo T C O L vt vC vO) (hb : Below wr.heap.size wr wr') : Reg w0 wr' p k g bt bl bc bo T C O L vt vC vO :=
  ⟨h.fx.next hb, h.ht.next hb, h.hl.next hb, h.hc.next hb, h.ho.next hb, h.oT.below hb (Nat.le_refl _), h.oC.below hb (Nat.le_refl _), h.oO.below hb (Nat.le_refl _), h.nC, h.nO, h.d0, h.d1⟩
theorem Reg.alloc (h : Reg w0 wr p k g bt bl bc bo T C O L vt vC vO) (o : Obj) : Reg w0 (wr.alloc o) p k g bt bl bc bo T C O L vt vC vO := h.next ((Below.refl _ _).alloc (Nat.le_refl _) o)
theorem Reg.drew (h : Reg w0 wr p k g bt bl bc bo T C O L vt vC vO) : Reg w0 wr.drew p k g bt bl bc bo T C O L vt vC vO :=
  ⟨h.fx.drew, h.ht, h.hl, h.hc, h.ho, h.oT.drew, h.oC.drew, h.oO.drew, h.nC, h.nO, h.d0, h.d1⟩
theorem Reg.drewN (h : Reg w0 wr p k g bt bl bc bo T C O L vt vC vO) (n : Nat) : Reg w0 (wr.drewN n) p k g bt bl bc bo T C O L vt vC vO :=
  ⟨h.fx.drewN n, h.ht.drewN n, h.hl.drewN n, h.hc.drewN n, h.ho.drewN n, h.oT.drewN n, h.oC.drewN n, h.oO.drewN n, h.nC, h.nO, h.d0, h.d1⟩
theorem Reg.cells (h : Reg w0 wr p k g bt bl bc bo T C O L vt vC vO) : wr.cell? ⟨w0.heap.size, 0, none⟩ = some (.int .i64 p) ∧ wr.cell? ⟨w0.heap.size, 1, none⟩ = some (.int .i64 k) ∧ wr.cell? ⟨w0.heap.size, 2, none⟩ = some (.int .i64 g) := h.fx.cells
/-- An element is taken. -/
theorem Reg.push (h : Reg w0 wr p k g bt bl bc bo T C O L vt vC vO) {w1 : World} {b n cap : Nat} {T' : List Int} (ho : Own w1 (w0.heap.size + 1) 2 .i64 (.slice (some ⟨b, 0, none⟩) n cap) T') (hg : wr.grownBy w1 vt.ownBlock) (hl : vt.ownBlock = some b ∨ b = wr.heap.size + 1) :
    BoxV w1 bt vt 26 ∧ Reg w0 (w1.setCell ⟨bt, 0, none⟩ (.slice (some ⟨b, 0, none⟩) n cap)) p k g bt bl bc bo T' C O L (.slice (some ⟨b, 0, none⟩) n cap) vC vO := by
  obtain ⟨a1, a2, a3, a4⟩ := h.d0
  obtain ⟨b1, b2, b3, b4, b5, b6⟩ := h.d1
  have ht := h.ht.grown hg (h.oT.ne_box h.ht (by decide))
  refine ⟨ht, (h.fx.grow' hg (fun r hr => by have := (h.oT.lt hr).1; omega)).set _ _ _ a1, ht.set _, ?_, ?_, ?_, ho.putBox ht (by decide) _, ?_, ?_, ?_, ?_, h.d0, h.d1⟩
  · exact (h.hl.grown hg (h.oT.ne_box h.hl (by decide))).other (Ne.symm b1)
  · exact (h.hc.grown hg (h.oT.ne_box h.hc (by decide))).other (Ne.symm b2)
  · exact (h.ho.grown hg (h.oT.ne_box h.ho (by decide))).other (Ne.symm b3)
  · exact (h.oC.grown hg (ne_sym h.nC)).putBox ht (by decide) _
  · exact (h.oO.grown hg (ne_sym h.nO)).putBox ht (by decide) _
  · exact .inr fun e => ne_lies2 h.oC h.nC hl e.symm
  · exact .inr fun e => ne_lies2 h.oO h.nO hl e.symm
theorem Reg.putO (h : Reg w0 wr p k g bt bl bc bo T C O L vt vC vO) {v : Value} {O' : List (El R)} (hO : Own wr (w0.heap.size + 1) 2 .i64 v (iv O')) (hn : vt.ownBlock = none ∨ vt.ownBlock ≠ v.ownBlock) :
    Reg w0 (wr.setCell ⟨bo, 0, none⟩ v) p k g bt bl bc bo T C O' L vt vC v := by
  obtain ⟨a1, a2, a3, a4⟩ := h.d0
  obtain ⟨b1, b2, b3, b4, b5, b6⟩ := h.d1
  exact ⟨h.fx.set _ _ _ a4, h.ht.other b3, h.hl.other b5, h.hc.other b6, h.ho.set _, h.oT.putBox h.ho (by decide) _, h.oC.putBox h.ho (by decide) _, hO.putBox h.ho (by decide) _, h.nC, hn, h.d0, h.d1⟩
theorem Reg.putC (h : Reg w0 wr p k g bt bl bc bo T C O L vt vC vO) {v : Value} {C' : List (El R)} (hC : Own wr (w0.heap.size + 1) 2 .i64 v (iv C')) (hn : vt.ownBlock = none ∨ vt.ownBlock ≠ v.ownBlock) :
    Reg w0 (wr.setCell ⟨bc, 0, none⟩ v) p k g bt bl bc bo T C' O L vt v vO := by
  obtain ⟨a1, a2, a3, a4⟩ := h.d0
  obtain ⟨b1, b2, b3, b4, b5, b6⟩ := h.d1
  exact ⟨h.fx.set _ _ _ a3, h.ht.other b2, h.hl.other b4, h.hc.set _, h.ho.other (Ne.symm b6), h.oT.putBox h.hc (by decide) _, hC.putBox h.hc (by decide) _, h.oO.putBox h.hc (by decide) _, hn, h.nO, h.d0, h.d1⟩
theorem Reg.putL (h : Reg w0 wr p k g bt bl bc bo T C O L vt vC vO) (L' : Nat) :
    Reg w0 (wr.setCell ⟨bl, 0, none⟩ (.int .i64 (L' : Int))) p k g bt bl bc bo T C O L' vt vC vO := by
  obtain ⟨a1, a2, a3, a4⟩ := h.d0
  obtain ⟨b1, b2, b3, b4, b5, b6⟩ := h.d1
  exact ⟨h.fx.set _ _ _ a2, h.ht.other b1, h.hl.set _, h.hc.other (Ne.symm b4), h.ho.other (Ne.symm b5), h.oT.putBox h.hl (by decide) _, h.oC.putBox h.hl (by decide) _, h.oO.putBox h.hl (by decide) _, h.nC, h.nO, h.d0, h.d1⟩
end
end
end Go.Proofs.Ytdniocdmncldjaa
