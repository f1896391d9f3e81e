/-
  The contracts of PolyMul, PolyDiv, PolyEval and PolyDerivative, of the model and of the program, side by side.
  The contracts of PolyRoots and PolyGcd, of the model and of the program, side by side.
  Condition: as each statement says.
-/
import Derived.Test.YtdniocdmncldjaaGreatJK
import Derived.Test.YtdniocdmncldjaaGreatJG
namespace Go.Proofs.YtdniocdmncldjaaGreat
open Go.RowKit
set_option linter.unusedSimpArgs false
set_option linter.unusedVariables false

def C1i (f : Nat) (p k g : Int) (z : List Int) (x : Int) (Post : World → Ending → World → Prop) : Prop :=
  ∀ (A : Option Addr) (n c B : Nat) (w : World), Ints .i64 w B A n z → B ≤ w.heap.size → Calls Tryz.prog f #[.agg #[.int .i64 p, .int .i64 k, .int .i64 g], .slice A n c, .int .i64 x] w (Post w)
/-- What a function leaves that returns two new lists and a code. -/
def NewIKK (r r' : List Int) (c : Int) (w : World) (x : Ending) (w' : World) : Prop :=
  ∃ A m A' m', x = .returned (.tuple #[.slice A r.length m, .slice A' r'.length m', .int .i64 c]) ∧ r.length ≤ m ∧ r'.length ≤ m' ∧ Own w' w.heap.size 2 .i64 (.slice A r.length m) r ∧ Own w' w.heap.size 2 .i64 (.slice A' r'.length m') r' ∧
    (((Value.slice A r.length m).ownBlock = none ∨ (Value.slice A r.length m).ownBlock ≠ (Value.slice A' r'.length m').ownBlock) ∧ ((Value.slice A' r'.length m').ownBlock = none ∨ (Value.slice A' r'.length m').ownBlock ≠ (Value.slice A r.length m).ownBlock)) ∧ Below w.heap.size w w'
theorem newIKK_of {r r' : List Int} {c : Int} {w w' : World} {v v' : Value} {base : Nat} (h : Own w' base 2 .i64 v r) (h' : Own w' base 2 .i64 v' r') (hne : v.ownBlock = none ∨ v.ownBlock ≠ v'.ownBlock) (hb : Below w.heap.size w w') (hB : w.heap.size ≤ base) : NewIKK r r' c w (.returned (.tuple #[v, v', .int .i64 c])) w' := by
  obtain ⟨A, m, rfl, hc⟩ := h.form
  obtain ⟨A', m', rfl, hc'⟩ := h'.form
  refine ⟨A, m, A', m', rfl, hc, hc', h.low hB, h'.low hB, ⟨hne, ?_⟩, hb⟩
  rcases h1 : (Value.slice A' r'.length m').ownBlock with _ | x
  · exact .inl rfl
  · refine .inr fun e => ?_
    rcases hne with h2 | h2
    · rw [h2] at e; cases e
    · exact h2 (by rw [h1]; exact e.symm)
theorem newIKK_nil {c : Int} {w w' : World} (hb : Below w.heap.size w w') : NewIKK [] [] c w (.returned (.tuple #[.slice none 0 0, .slice none 0 0, .int .i64 c])) w' :=
  newIKK_of (base := w.heap.size) (World.ownsRow_nil _ _ _ _) (World.ownsRow_nil _ _ _ _) (.inl rfl) hb (Nat.le_refl _)
section
variable (p k g : Int) (z z' : List Int)
end
end Go.Proofs.YtdniocdmncldjaaGreat

namespace Go.Proofs.YtdniocdmncldjaaGreat
open Go.RowKit
set_option linter.unusedSimpArgs false
set_option linter.unusedVariables false

section
variable {R : Fld}
theorem roots_len (ps : List (El R)) (h : R.q ≤ 1021) : (iv (rootsE ps R.q)).length ≤ 1099511627776 := by
  rw [iv_len]; have := (roots_facts ps R.q).1; omega
end
section
variable (p k g : Int) (z z' : List Int)
end
end Go.Proofs.YtdniocdmncldjaaGreat
