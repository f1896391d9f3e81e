/-
  The contracts of the laws' own helpers on slices of int64: copy, compare, mark, ask for the marks.
  Condition: the slices are shorter than 2^40.
-/
import Derived.Test.YtncgeoliboidhaaGreatProg
import Derived.Test.YtncgeoliboidhaaGreatWords
import Derived.Deep.QuietTactic
import Derived.BigQuiet
namespace Go.Proofs.YtncgeoliboidhaaGreat
open Go.RowKit
theorem info64 : (Tryz.prog.info? 2).map (fun i => (i.zero, i.size, i.bytes)) = some (some (.int .i64 0), 1, 8) := by kernel_rfl

theorem elem64 : IsElem Tryz.prog 26 2 .i64 8 := ⟨Tryz.underlying26, info64, by omega⟩
theorem made_own {w1 : World} {base g n : Nat} {e : TypeId} (h : w1.ownsRow base e 1 (.slice (some ⟨g, 0, none⟩) n n) n (madeCells (Value.int .i64 0).cells (n * 1)).toList) :
    Own w1 base e .i64 (.slice (some ⟨g, 0, none⟩) n n) (List.replicate n 0) :=
  Own.intro h (by simp) (by rw [Nat.mul_one]; show (madeCells #[Value.int .i64 0] n).toList = _; rw [toList_madeCells_one, List.map_replicate])

def CopyRel (n : Nat) (zs : List Int) (w : World) (i : Value) (wr : World) : Prop :=
  ∃ k : Nat, k ≤ n ∧ i = .int .i64 k ∧ Own wr w.heap.size 2 .i64 (.slice (some ⟨w.heap.size, 0, none⟩) n n) (zs.take k ++ List.replicate (n - k) 0) ∧ Below w.heap.size w wr

/-- Whether two lists are the same. -/
def sameI (a b : List Int) : Bool := decide (a = b)
theorem sameI_refl (a : List Int) : sameI a a = true := by simp [sameI]
theorem sameI_len {a b : List Int} (h : a.length ≠ b.length) : sameI a b = false := by
  simp only [sameI, decide_eq_false_iff_not]; intro e; exact h (by rw [e])
theorem sameI_at {a b : List Int} {k : Nat} {x y : Int} (hx : a[k]? = some x) (hy : b[k]? = some y) (h : x ≠ y) : sameI a b = false := by
  simp only [sameI, decide_eq_false_iff_not]; intro e; subst e; rw [hx] at hy; exact h (by injection hy)
theorem sameI_yes {a b : List Int} {n : Nat} (ha : a.length = n) (hb : b.length = n) (h : a.take n = b.take n) : sameI a b = true := by
  rw [List.take_of_length_le (by omega), List.take_of_length_le (by omega)] at h
  simp only [sameI, decide_eq_true_eq]; exact h
theorem take_same {a b : List Int} {k : Nat} {x : Int} (h : a.take k = b.take k) (hx : a[k]? = some x) (hy : b[k]? = some x) : a.take (k + 1) = b.take (k + 1) := by
  rw [List.take_add_one, List.take_add_one, h, hx, hy]

/-- What a function leaves that returns a bool and at most draws. -/
def Tells (v : Value) (w : World) (x : Ending) (w' : World) : Prop := x = .returned v ∧ ∃ m, w' = w.drewN m
def EqRel (n : Nat) (za zb : List Int) (w : World) (i : Value) (wr : World) : Prop :=
  ∃ k : Nat, k ≤ n ∧ i = .int .i64 k ∧ za.take k = zb.take k ∧ ∃ m, wr = w.drewN m

/-- The marks that the laws write: n numbers from k on. -/
def marks (k n : Nat) : List Int := (List.range n).map (fun i : Nat => (k : Int) + (i : Int))
theorem marks_len (k n : Nat) : (marks k n).length = n := by simp [marks]
theorem marks_at {k n j : Nat} (h : j < n) : (marks k n)[j]? = some ((k : Int) + (j : Int)) := by simp [marks, h]

def MarkRel (base k0 n : Nat) (zs : List Int) (v : Value) (w : World) (kk i : Value) (wr : World) : Prop :=
  ∃ j : Nat, j ≤ n ∧ i = .int .i64 j ∧ kk = .int .i64 ((k0 : Int) + (j : Int)) ∧ Own wr base 2 .i64 v ((marks k0 n).take j ++ zs.drop j) ∧ w.grownBy wr v.ownBlock

def Marked (base k0 n : Nat) (v : Value) (w : World) (x : Ending) (w' : World) : Prop :=
  x = .returned (.int .i64 ((k0 : Int) + (n : Int))) ∧ Own w' base 2 .i64 v (marks k0 n) ∧ w.grownBy w' v.ownBlock

end Go.Proofs.YtncgeoliboidhaaGreat
