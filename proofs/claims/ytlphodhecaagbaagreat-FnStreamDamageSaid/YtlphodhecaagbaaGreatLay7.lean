/-
  StreamIndex of the model; IsLayout and StreamIndex, the model's and the program's answer.
  Condition: none.
-/
import Derived.Test.YtlphodhecaagbaaGreatLay5
import Derived.Test.YtlphodhecaagbaaGreatLay6
namespace Go.Proofs.YtlphodhecaagbaaGreat
open Go.RowKit
set_option linter.unusedSimpArgs false
set_option linter.unusedVariables false

/-- A row of the model's order, read. -/
theorem Mat.pair_at {w : World} {base n g c i D C : Nat} {vs : List Value} (h : Mat w base (.slice (some ⟨g, 0, none⟩) n c) n vs (ordZ D C)) (hi : i < n) :
    ∃ (b m : Nat), w.cell? ⟨g, i, none⟩ = some (.slice (some ⟨b, 0, none⟩) 2 m) ∧ w.cell? ⟨b, 0, none⟩ = some (.int .i64 ((pairOf D C i).1 : Nat)) ∧ w.cell? ⟨b, 1, none⟩ = some (.int .i64 ((pairOf D C i).2 : Nat)) ∧ 2 ≤ m ∧ base ≤ b ∧ b < w.heap.size := by
  obtain ⟨A, m, h1, h2, h3, h4⟩ := h.at_ hi
  obtain ⟨b, m', h5, h6, h7, h8⟩ := h3.some_ (show 0 < 2 by decide)
  simp only [Value.slice.injEq] at h5
  obtain ⟨rfl, _, rfl⟩ := h5
  exact ⟨b, m, h2, h3.cellAt (j := 0) rfl, h3.cellAt (j := 1) rfl, h4, h6, h7⟩

/-- What StreamIndex answers. -/
def SiPost (D C K : Nat) (b e : Int) (w : World) (x : Ending) (w' : World) : Prop :=
  ((∃ i, i < D + C * K ∧ atI D C b e i = true ∧ x = .returned (.tuple #[.int .i64 (i : Nat), .int .i64 0])) ∨ ((∀ i, i < D + C * K → atI D C b e i = false) ∧ x = .returned (.tuple #[.int .i64 0, .int .i64 2]))) ∧ Below w.heap.size w w'
def SsiRel (N D C : Nat) (b e : Int) (i9 : Value) : Prop := ∃ i : Nat, i ≤ N ∧ i9 = .int .i64 i ∧ Hid (∀ j, j < i → atI D C b e j = false)

/-- A function of a layout: its contract. -/
def E0 (f : Nat) (p k g D K C : Int) (Post : World → Ending → World → Prop) : Prop :=
  ∀ w : World, Calls Tryz.prog f #[.agg #[.int .i64 p, .int .i64 k, .int .i64 g, .int .i64 D, .int .i64 K, .int .i64 C]] w (Post w)
def E0ii (f : Nat) (p k g D K C x y : Int) (Post : World → Ending → World → Prop) : Prop :=
  ∀ w : World, Calls Tryz.prog f #[.agg #[.int .i64 p, .int .i64 k, .int .i64 g, .int .i64 D, .int .i64 K, .int .i64 C], .int .i64 x, .int .i64 y] w (Post w)
end Go.Proofs.YtlphodhecaagbaaGreat
