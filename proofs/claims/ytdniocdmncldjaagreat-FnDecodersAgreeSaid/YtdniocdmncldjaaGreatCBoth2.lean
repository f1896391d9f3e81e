/-
  What IsCodeWord, AddWords, WordDistance and IsWithin return, case by case, of the model and of the program, side by side.
  Condition: lists shorter than 2^20; the number of check elements is an int64.
-/
import Derived.Test.YtdniocdmncldjaaGreatCBoth1
import Derived.Test.YtdniocdmncldjaaGreatJO
namespace Go.Proofs.YtdniocdmncldjaaGreat
open Go.RowKit
set_option linter.unusedSimpArgs false
set_option linter.unusedVariables false

def AwRel {R : Fld} (w : World) (p k g : Int) (l c N : Nat) (a b : List (El R)) (i : Value) (wr : World) : Prop :=
  ∃ j : Nat, j ≤ l ∧ i = .int .i64 j ∧ Own wr N 2 .i64 (.slice (some ⟨N, 0, none⟩) l l) (iv (tab l fun i => if i < j then cf a i + cf b i else 0)) ∧ N ≤ wr.heap.size ∧ CBox w wr p k g l c
def BwRel {R : Fld} (w : World) (p k g : Int) (l c : Nat) (a b : List (El R)) (v i : Value) (wr : World) : Prop :=
  ∃ j : Nat, j ≤ l ∧ i = .int .i64 j ∧ Own wr (w.heap.size + 1) 2 .i64 v (iv (tab j fun i => cf a i + cf b i)) ∧ CBox w wr p k g l c
theorem aw_step {R : Fld} {a b : List (El R)} {l j : Nat} {x y : El R} (hx : x = cf a j) (hy : y = cf b j) : (tab l fun i => if i < j then cf a i + cf b i else 0).set j (x + y) = tab l fun i => if i < j + 1 then cf a i + cf b i else 0 := by
  rw [tab_set]
  refine tab_congr fun i hi => ?_
  by_cases h : i = j
  · rw [if_pos h, if_pos (by omega), hx, hy, h]
  · rw [if_neg h]
    by_cases h2 : i < j
    · rw [if_pos h2, if_pos (by omega)]
    · rw [if_neg h2, if_neg (by omega)]

end Go.Proofs.YtdniocdmncldjaaGreat
