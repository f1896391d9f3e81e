/-
  The contracts of the draws of a code with one or two words: some code, some short lists, no old memory changed.
  Condition: the code has at most 4096 bytes.
-/
import Derived.Test.YtdniocdmncldjaaGreatCDraw5
namespace Go.Proofs.YtdniocdmncldjaaGreat
open Go.RowKit
set_option linter.unusedSimpArgs false
set_option linter.unusedVariables false

/-- In a draw: the source, the block of the result that is still 0, the block of the code. -/
def Cst (w : World) (g Bc : Nat) (A : Option Addr) (n c : Nat) (code : List Int) (N : Nat) (p k γ L C : Int) (wr : World) : Prop :=
  Src wr g Bc A n c code ∧ Row5 wr w.heap.size 0 0 0 0 0 ∧ Row5 wr N p k γ L C ∧ Below w.heap.size w wr ∧ w.heap.size < g ∧ g < N
section
variable {w wr wr' : World} {g Bc n c N : Nat} {A : Option Addr} {code : List Int} {p k γ L C : Int}
theorem Cst.lt (h : Cst w g Bc A n c code N p k γ L C wr) : N < wr.heap.size := h.2.2.1.lt
theorem Cst.src (h : Cst w g Bc A n c code N p k γ L C wr) (hs : Src wr' g Bc A n c code) (hg : wr.grownBy wr' (some g)) : Cst w g Bc A n c code N p k γ L C wr' :=
  ⟨hs, h.2.1.src hg (by have := h.2.2.2.2; omega), h.2.2.1.src hg (by have := h.2.2.2.2; omega), below_grown h.2.2.2.1 hg (by have := h.2.2.2.2; omega), h.2.2.2.2⟩
theorem Cst.drew (h : Cst w g Bc A n c code N p k γ L C wr) : Cst w g Bc A n c code N p k γ L C wr.drew := ⟨h.1, h.2.1, h.2.2.1, h.2.2.2.1.drew, h.2.2.2.2⟩
theorem Own.set5 {base M : Nat} {v : Value} {zs : List Int} (h : Own wr base 2 .i64 v zs) (hM : M < base) (x0 x1 x2 x3 x4 : Value) :
    Own (((((wr.setCell ⟨M, 0, none⟩ x0).setCell ⟨M, 1, none⟩ x1).setCell ⟨M, 2, none⟩ x2).setCell ⟨M, 3, none⟩ x3).setCell ⟨M, 4, none⟩ x4) base 2 .i64 v zs :=
  h.grown (grown_set (grown_set (grown_set (grown_set (grown_set (World.grownBy.refl _ _) 0 _) 1 _) 2 _) 3 _) 4 _) (own_gap h hM)
theorem Own.srcN {base : Nat} {v : Value} {zs : List Int} (h : Own wr base 2 .i64 v zs) (hg : wr.grownBy wr' (some g)) (hB : g < base) : Own wr' base 2 .i64 v zs := h.grown hg (own_gap h hB)
theorem own_cap {base m : Nat} {A1 : Option Addr} {c1 : Nat} {zs : List Int} (h : Own wr base 2 .i64 (.slice A1 m c1) zs) : zs.length ≤ c1 := by
  obtain ⟨A', c', h1, h2⟩ := h.form
  simp only [Value.slice.injEq] at h1
  omega
/-- What a draw of a code and one or two lists leaves. -/
def DrawnCL (w : World) (x : Ending) (w' : World) : Prop :=
  ∃ (p k γ L C : Int) (zs : List Int) (A1 : Option Addr) (c1 : Nat), x = .returned (.tuple #[.agg #[.int .i64 p, .int .i64 k, .int .i64 γ, .int .i64 L, .int .i64 C], .slice A1 zs.length c1]) ∧ 0 ≤ L ∧ L ≤ 3000 ∧ 0 ≤ C ∧ C ≤ 3000 ∧ zs.length ≤ 400 ∧ zs.length ≤ c1 ∧
    Ints .i64 w' w'.heap.size A1 zs.length zs ∧ Below w.heap.size w w'
def DrawnCLL (w : World) (x : Ending) (w' : World) : Prop :=
  ∃ (p k γ L C : Int) (zs : List Int) (A1 : Option Addr) (c1 : Nat) (zs' : List Int) (A2 : Option Addr) (c2 : Nat), x = .returned (.tuple #[.agg #[.int .i64 p, .int .i64 k, .int .i64 γ, .int .i64 L, .int .i64 C], .slice A1 zs.length c1, .slice A2 zs'.length c2]) ∧
    0 ≤ L ∧ L ≤ 3000 ∧ 0 ≤ C ∧ C ≤ 3000 ∧ zs.length ≤ 400 ∧ zs'.length ≤ 400 ∧ zs.length ≤ c1 ∧ zs'.length ≤ c2 ∧ Ints .i64 w' w'.heap.size A1 zs.length zs ∧ Ints .i64 w' w'.heap.size A2 zs'.length zs' ∧ Below w.heap.size w w'
def InB (L C : Int) : Prop := 0 ≤ L ∧ L ≤ 3000 ∧ 0 ≤ C ∧ C ≤ 3000
theorem below_sets (h : Below w.heap.size w wr) (x0 x1 x2 x3 x4 : Value) :
    Below w.heap.size w (((((wr.setCell ⟨w.heap.size, 0, none⟩ x0).setCell ⟨w.heap.size, 1, none⟩ x1).setCell ⟨w.heap.size, 2, none⟩ x2).setCell ⟨w.heap.size, 3, none⟩ x3).setCell ⟨w.heap.size, 4, none⟩ x4) :=
  ((((h.setCell (Nat.le_refl _) _).setCell (Nat.le_refl _) _).setCell (Nat.le_refl _) _).setCell (Nat.le_refl _) _).setCell (Nat.le_refl _) _
theorem cl_mk {zs : List Int} {A1 : Option Addr} {c1 b1 : Nat} (h : Cst w g Bc A n c code N p k γ L C wr) (hB : InB L C) (h1 : Own wr b1 2 .i64 (.slice A1 zs.length c1) zs) (hb1 : N ≤ b1) (hl1 : zs.length ≤ 400) (x0 x1 x2 x3 x4 : Value) :
    DrawnCL w (.returned (.tuple #[.agg #[.int .i64 p, .int .i64 k, .int .i64 γ, .int .i64 L, .int .i64 C], .slice A1 zs.length c1])) (((((wr.setCell ⟨w.heap.size, 0, none⟩ x0).setCell ⟨w.heap.size, 1, none⟩ x1).setCell ⟨w.heap.size, 2, none⟩ x2).setCell ⟨w.heap.size, 3, none⟩ x3).setCell ⟨w.heap.size, 4, none⟩ x4) := by
  have hN := h.2.2.2.2
  exact ⟨p, k, γ, L, C, zs, A1, c1, rfl, hB.1, hB.2.1, hB.2.2.1, hB.2.2.2, hl1, own_cap h1, (h1.set5 (by omega) x0 x1 x2 x3 x4).ints, below_sets h.2.2.2.1 _ _ _ _ _⟩
theorem cll_mk {zs zs' : List Int} {A1 A2 : Option Addr} {c1 c2 b1 b2 : Nat} (h : Cst w g Bc A n c code N p k γ L C wr) (hB : InB L C) (h1 : Own wr b1 2 .i64 (.slice A1 zs.length c1) zs) (h2 : Own wr b2 2 .i64 (.slice A2 zs'.length c2) zs') (hb1 : N ≤ b1) (hb2 : N ≤ b2) (hl1 : zs.length ≤ 400) (hl2 : zs'.length ≤ 400) (x0 x1 x2 x3 x4 : Value) :
    DrawnCLL w (.returned (.tuple #[.agg #[.int .i64 p, .int .i64 k, .int .i64 γ, .int .i64 L, .int .i64 C], .slice A1 zs.length c1, .slice A2 zs'.length c2])) (((((wr.setCell ⟨w.heap.size, 0, none⟩ x0).setCell ⟨w.heap.size, 1, none⟩ x1).setCell ⟨w.heap.size, 2, none⟩ x2).setCell ⟨w.heap.size, 3, none⟩ x3).setCell ⟨w.heap.size, 4, none⟩ x4) := by
  have hN := h.2.2.2.2
  exact ⟨p, k, γ, L, C, zs, A1, c1, zs', A2, c2, rfl, hB.1, hB.2.1, hB.2.2.1, hB.2.2.2, hl1, hl2, own_cap h1, own_cap h2, (h1.set5 (by omega) x0 x1 x2 x3 x4).ints, (h2.set5 (by omega) x0 x1 x2 x3 x4).ints, below_sets h.2.2.2.1 _ _ _ _ _⟩
end

theorem quo2 {x : Int} (h0 : 0 ≤ x) (h1 : x ≤ 2) : ∃ y : Int, 0 ≤ y ∧ y ≤ 1 ∧ IntKind.i64.wrap (x.tdiv 2) = y :=
  ⟨x / 2, by omega, by omega, by rw [Int.tdiv_eq_ediv_of_nonneg h0, IntWalk.i64_in _ ⟨by omega, by omega⟩]⟩

end Go.Proofs.YtdniocdmncldjaaGreat
