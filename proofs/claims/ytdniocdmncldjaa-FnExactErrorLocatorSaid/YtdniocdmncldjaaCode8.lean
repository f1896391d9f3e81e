/-
  The contract of encoded words, of the model.
  Condition: the code is valid, and the list is a message of it.
-/
import Derived.Test.YtdniocdmncldjaaCode7
namespace Go.Proofs.Ytdniocdmncldjaa
open Go.RowKit
set_option linter.unusedSimpArgs false
set_option linter.unusedVariables false

section
variable {R : Fld} {γ : El R} {p k g : Int} {l c : Nat}
/-- A turned message with zeros ahead, of which the first elements are laid. -/
def hiF (ms : List (El R)) (n j : Nat) (i : Nat) : El R := if n - j ≤ i then cf ms (n - 1 - i) else 0
theorem hiF_zero (ms : List (El R)) (n : Nat) : tab n (hiF ms n 0) = tab n fun _ => 0 := tab_congr fun i hi => if_neg (by omega)
theorem hiF_step {ms : List (El R)} {n j : Nat} (hj : j < n) : (tab n (hiF ms n j)).set (n - 1 - j) (cf ms j) = tab n (hiF ms n (j + 1)) := by
  rw [tab_set]
  refine tab_congr fun i hi => ?_
  unfold hiF
  by_cases h : i = n - 1 - j
  · rw [if_pos h, if_pos (by omega), show n - 1 - i = j by omega]
  · rw [if_neg h]
    by_cases h2 : n - j ≤ i
    · rw [if_pos h2, if_pos (by omega)]
    · rw [if_neg h2, if_neg (by omega)]
theorem hiF_end {ms : List (El R)} {c : Nat} : trim (tab (ms.length + c) (hiF ms (ms.length + c) ms.length)) = wpoly (padW c ms) := by
  unfold wpoly
  congr 1
  refine List.ext_getElem? fun i => ?_
  rcases Nat.lt_or_ge i (ms.length + c) with hi | hi
  · rw [tab_at _ hi, List.getElem?_reverse (by rw [pad_len]; exact hi), pad_len, hiF]
    split
    · rw [padW, List.getElem?_append_left (by omega), at_cf (by omega)]
    · rw [padW, List.getElem?_append_right (by omega), tab_at _ (by omega)]
  · rw [List.getElem?_eq_none (by rw [tab_len]; exact hi), List.getElem?_eq_none (by rw [List.length_reverse, pad_len]; exact hi)]

def H1Rel (w : World) (p k g : Int) (l c n : Nat) (ms : List (El R)) (i : Value) (wr : World) : Prop :=
  ∃ j : Nat, j ≤ n ∧ i = .int .i64 j ∧ Own wr (w.heap.size + 1) 2 .i64 (.slice (some ⟨w.heap.size + 1, 0, none⟩) l l) (iv (tab l (hiF ms l j))) ∧ CBox w wr p k g l c
def H2Rel (w : World) (p k g : Int) (l c m N : Nat) (Ar : Option Addr) (ms rest : List (El R)) (v i : Value) (wr : World) : Prop :=
  ∃ (j : Nat) (kk : Int), j ≤ c ∧ Hid (kk = (c : Int) - 1 - (j : Int)) ∧ i = .int .i64 kk ∧ Own wr N 2 .i64 v (iv (ms ++ tab j fun i => -(cf rest (c - 1 - i)))) ∧ Ints .i64 wr N Ar m (iv rest) ∧ N ≤ wr.heap.size ∧ CBox w wr p k g l c

end
end Go.Proofs.Ytdniocdmncldjaa
