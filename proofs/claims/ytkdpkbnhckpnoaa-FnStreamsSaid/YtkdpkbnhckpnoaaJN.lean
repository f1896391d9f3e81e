/-
  The contract of the draw of a polynomial: a new list; of the old memory only the source's own block changes.
  The contracts of the draws of a field with one or two polynomials: some field, some short lists, no old memory changed.
  Condition: as each statement says.
-/
import Derived.Test.YtkdpkbnhckpnoaaJI
import Derived.Test.YtkdpkbnhckpnoaaJG
import Derived.Test.YtkdpkbnhckpnoaaJK
namespace Go.Proofs.Ytkdpkbnhckpnoaa
open Go.RowKit
set_option linter.unusedSimpArgs false
set_option linter.unusedVariables false

theorem Bx.src {w wr wr' : World} {t : TypeId} {p k γ : Int} {gs : Nat} (h : Bx w wr t p k γ (some gs)) (hg : wr.grownBy wr' (some gs)) (hne : gs ≠ w.heap.size) : Bx w wr' t p k γ (some gs) :=
  ⟨by rw [hg.block _ h.lt (by simpa using Ne.symm hne)]; exact h.1, grown_trans h.2 hg⟩
theorem Bx.own {w wr wr' : World} {t : TypeId} {p k γ : Int} {gs : Nat} {row : Option Nat} (h : Bx w wr t p k γ (some gs)) (hg : wr.grownBy wr' row) (hr : ∀ b, row = some b → w.heap.size < b) : Bx w wr' t p k γ (some gs) :=
  ⟨by rw [hg.block _ h.lt (fun e => by have := hr _ e.symm; omega)]; exact h.1,
   ⟨hg.os.trans h.2.os, hg.tape.trans h.2.tape, hg.output.trans h.2.output, Nat.le_trans h.2.size hg.size, fun i hi hne => (hg.block i (Nat.lt_of_lt_of_le hi h.2.size) (fun e => by have := hr _ e.symm; omega)).trans (h.2.block i hi hne)⟩⟩
theorem Own.lit1 (w : World) (e : TypeId) (k : IntKind) (y : Int) : Own (w.alloc (.cells #[.int k y] e)) w.heap.size e k (.slice (some ⟨w.heap.size, 0, none⟩) 1 1) [y] :=
  Own.intro (World.ownsRow_lit w #[.int k y] 1 (by simp) (by simp [maxLen]) (by simp)) rfl rfl

/-- What a draw of a list leaves. -/
def DrawnL (g Bc : Nat) (A : Option Addr) (n c : Nat) (code : List Int) (M : Nat) (w : World) (x : Ending) (w' : World) : Prop :=
  ∃ (zs : List Int) (A1 : Option Addr) (c1 : Nat), x = .returned (.slice A1 zs.length c1) ∧ zs.length ≤ M ∧ Own w' w.heap.size 2 .i64 (.slice A1 zs.length c1) zs ∧ Src w' g Bc A n c code ∧ w.grownBy w' (some g)
theorem drawnL_of {g Bc : Nat} {A : Option Addr} {n c : Nat} {code : List Int} {M base : Nat} {w w' : World} {v : Value} {zs : List Int} (h : Own w' base 2 .i64 v zs) (hl : zs.length ≤ M) (hB : w.heap.size ≤ base) (hs : Src w' g Bc A n c code) (hg : w.grownBy w' (some g)) : DrawnL g Bc A n c code M w (.returned v) w' := by
  obtain ⟨A1, c1, rfl, _⟩ := h.form
  exact ⟨zs, A1, c1, rfl, hl, h.low hB, hs, hg⟩

def PdRel {R : Fld} (w : World) (p k γ : Int) (g Bc : Nat) (A : Option Addr) (n c : Nat) (code : List Int) (v i : Value) (wr : World) : Prop :=
  ∃ (j : Nat) (ps : List (El R)), ps.length + j ≤ 21 ∧ i = .int .i64 j ∧ Own wr (w.heap.size + 1) 2 .i64 v (iv ps) ∧ Src wr g Bc A n c code ∧ Bx w wr 25 p k γ (some g)

end Go.Proofs.Ytkdpkbnhckpnoaa

namespace Go.Proofs.Ytkdpkbnhckpnoaa
open Go.RowKit
set_option linter.unusedSimpArgs false
set_option linter.unusedVariables false

/-- In a draw: the source, the block of the result that is still 0, the block of the field. -/
def Dst (w : World) (g Bc : Nat) (A : Option Addr) (n c : Nat) (code : List Int) (N : Nat) (p k γ : Int) (wr : World) : Prop :=
  Src wr g Bc A n c code ∧ Zero3 wr w.heap.size ∧ wr.heap[N]? = some (.cells #[.int .i64 p, .int .i64 k, .int .i64 γ] 25 (0, 0)) ∧ Below w.heap.size w wr ∧ w.heap.size < g ∧ g < N
section
variable {w wr wr' : World} {g Bc n c N : Nat} {A : Option Addr} {code : List Int} {p k γ : Int}
theorem Dst.lt (h : Dst w g Bc A n c code N p k γ wr) : N < wr.heap.size := (Array.getElem?_eq_some_iff.1 h.2.2.1).1
theorem Dst.next (h : Dst w g Bc A n c code N p k γ wr) (hb : Below wr.heap.size wr wr') : Dst w g Bc A n c code N p k γ wr' :=
  ⟨h.1.below hb h.1.lt, h.2.1.below hb, by rw [hb.block _ h.lt]; exact h.2.2.1, h.2.2.2.1.trans (hb.mono (Nat.le_of_lt (Nat.lt_trans (Nat.lt_trans h.2.2.2.2.1 h.2.2.2.2.2) h.lt))), h.2.2.2.2⟩
theorem Dst.src (h : Dst w g Bc A n c code N p k γ wr) (hs : Src wr' g Bc A n c code) (hg : wr.grownBy wr' (some g)) : Dst w g Bc A n c code N p k γ wr' :=
  ⟨hs, h.2.1.grown hg (by have := h.2.2.2.2; omega), row_grown h.2.2.1 hg (by have := h.2.2.2.2; omega), below_grown h.2.2.2.1 hg (by have := h.2.2.2.2; omega), h.2.2.2.2⟩
theorem Dst.own {row : Option Nat} (h : Dst w g Bc A n c code N p k γ wr) (hg : wr.grownBy wr' row) (hr : ∀ b, row = some b → N < b) : Dst w g Bc A n c code N p k γ wr' := by
  obtain ⟨h1, h2, h3, h4, h5, h6⟩ := h
  refine ⟨h1.still hg (fun r e => by have := hr r e; omega), ?_, ?_, h4.grown hg h4.size (fun r e => by have := hr r e; omega), h5, h6⟩
  · unfold Zero3; rw [hg.block _ h2.lt (fun e => by have := hr _ e.symm; omega)]; exact h2
  · rw [hg.block _ (Array.getElem?_eq_some_iff.1 h3).1 (fun e => by have := hr _ e.symm; omega)]; exact h3
theorem Dst.drew (h : Dst w g Bc A n c code N p k γ wr) : Dst w g Bc A n c code N p k γ wr.drew := ⟨h.1, h.2.1, h.2.2.1, h.2.2.2.1.drew, h.2.2.2.2⟩
theorem Own.src {base : Nat} {v : Value} {zs : List Int} (h : Own wr base 2 .i64 v zs) (hg : wr.grownBy wr' (some g)) (hB : g < base) : Own wr' base 2 .i64 v zs := by
  refine h.grown hg ?_
  rcases hv : v.ownBlock with _ | b
  · exact .inl rfl
  · refine .inr fun e => ?_
    injection e with e
    have := (h.lt hv).1
    omega
theorem Own.set3 {base M : Nat} {v : Value} {zs : List Int} (h : Own wr base 2 .i64 v zs) (hM : M < base) (a b d : Value) : Own (((wr.setCell ⟨M, 0, none⟩ a).setCell ⟨M, 1, none⟩ b).setCell ⟨M, 2, none⟩ d) base 2 .i64 v zs :=
  ((h.src (set_grown wr M 0 a) hM).src (set_grown _ M 1 b) hM).src (set_grown _ M 2 d) hM
theorem own_apart {base : Nat} {v : Value} {zs : List Int} (h : Own wr base 2 .i64 v zs) : v.ownBlock = none ∨ v.ownBlock ≠ some wr.heap.size := by
  rcases hv : v.ownBlock with _ | b
  · exact .inl rfl
  · refine .inr fun e => ?_
    injection e with e
    have := (h.lt hv).2
    omega
/-- What a draw of a field and two lists leaves. -/
def DrawnFLL (w : World) (x : Ending) (w' : World) : Prop :=
  ∃ (p k γ : Int) (zs : List Int) (A1 : Option Addr) (c1 : Nat) (zs' : List Int) (A2 : Option Addr) (c2 : Nat), x = .returned (.tuple #[.agg #[.int .i64 p, .int .i64 k, .int .i64 γ], .slice A1 zs.length c1, .slice A2 zs'.length c2]) ∧ zs.length ≤ 1048576 ∧ zs'.length ≤ 1048576 ∧
    Ints .i64 w' w'.heap.size A1 zs.length zs ∧ Ints .i64 w' w'.heap.size A2 zs'.length zs' ∧ Below w.heap.size w w'
def DrawnFL (w : World) (x : Ending) (w' : World) : Prop :=
  ∃ (p k γ : Int) (zs : List Int) (A1 : Option Addr) (c1 : Nat), x = .returned (.tuple #[.agg #[.int .i64 p, .int .i64 k, .int .i64 γ], .slice A1 zs.length c1]) ∧ zs.length ≤ 1048576 ∧ Ints .i64 w' w'.heap.size A1 zs.length zs ∧ Below w.heap.size w w'
theorem fll_mk {zs zs' : List Int} {A1 A2 : Option Addr} {c1 c2 b1 b2 : Nat} (h : Dst w g Bc A n c code N p k γ wr) (h1 : Own wr b1 2 .i64 (.slice A1 zs.length c1) zs) (h2 : Own wr b2 2 .i64 (.slice A2 zs'.length c2) zs') (hb1 : N ≤ b1) (hb2 : N ≤ b2) (hl1 : zs.length ≤ 1048576) (hl2 : zs'.length ≤ 1048576) (x y z : Value) :
    DrawnFLL w (.returned (.tuple #[.agg #[.int .i64 p, .int .i64 k, .int .i64 γ], .slice A1 zs.length c1, .slice A2 zs'.length c2])) (((wr.setCell ⟨w.heap.size, 0, none⟩ x).setCell ⟨w.heap.size, 1, none⟩ y).setCell ⟨w.heap.size, 2, none⟩ z) := by
  have hN := h.2.2.2.2
  exact ⟨p, k, γ, zs, A1, c1, zs', A2, c2, rfl, hl1, hl2, (h1.set3 (by omega) x y z).ints, (h2.set3 (by omega) x y z).ints, ((h.2.2.2.1.setCell (Nat.le_refl _) _).setCell (Nat.le_refl _) _).setCell (Nat.le_refl _) _⟩
theorem fl_mk {zs : List Int} {A1 : Option Addr} {c1 b1 : Nat} (h : Dst w g Bc A n c code N p k γ wr) (h1 : Own wr b1 2 .i64 (.slice A1 zs.length c1) zs) (hb1 : N ≤ b1) (hl1 : zs.length ≤ 1048576) (x y z : Value) :
    DrawnFL w (.returned (.tuple #[.agg #[.int .i64 p, .int .i64 k, .int .i64 γ], .slice A1 zs.length c1])) (((wr.setCell ⟨w.heap.size, 0, none⟩ x).setCell ⟨w.heap.size, 1, none⟩ y).setCell ⟨w.heap.size, 2, none⟩ z) := by
  have hN := h.2.2.2.2
  exact ⟨p, k, γ, zs, A1, c1, rfl, hl1, (h1.set3 (by omega) x y z).ints, ((h.2.2.2.1.setCell (Nat.le_refl _) _).setCell (Nat.le_refl _) _).setCell (Nat.le_refl _) _⟩
end

end Go.Proofs.Ytkdpkbnhckpnoaa
