/-
  The mathematics of FnWithinBound: a word that is damaged within the bound has the sent word as its code word within the bound.
  Condition: none.
-/
import Derived.Test.YtpheembgjdgniaaJP
namespace Go.Proofs.Ytpheembgjdgniaa
open Go.RowKit
theorem filt_one (P Q : Nat → Bool) (i : Nat) (h : ∀ j, j ≠ i → P j = true → Q j = true) : ∀ n, ((List.range n).filter P).length ≤ ((List.range n).filter Q).length + (if i < n then 1 else 0)
  | 0 => by simp
  | n + 1 => by
    have ih := filt_one P Q i h n
    rw [List.range_succ, List.filter_append, List.filter_append, List.length_append, List.length_append]
    by_cases hn : n = i
    · subst hn
      rw [if_neg (Nat.lt_irrefl _)] at ih
      rw [if_pos (Nat.lt_succ_self _)]
      have h1 : ([n].filter P).length ≤ 1 := List.length_filter_le _ _
      omega
    · have h1 : ([n].filter P).length ≤ ([n].filter Q).length := by
        rcases hP : P n with _ | _
        · simp [List.filter, hP]
        · simp [List.filter, hP, h n hn hP]
      have h2 : (if i < n then 1 else 0) ≤ (if i < n + 1 then 1 else 0) := by split <;> split <;> omega
      omega
section
variable {R : Fld}
theorem cf_set (ps : List (El R)) (i : Nat) (x : El R) (j : Nat) (h : j ≠ i) : cf (ps.set i x) j = cf ps j := by
  unfold cf; rw [List.getD_eq_getElem?_getD, List.getD_eq_getElem?_getD, List.getElem?_set_ne (Ne.symm h)]
/-- One more damaged element is at most one more error; a damaged erasure is none. -/
theorem errs_set (l : Nat) (E : List Nat) (H ss : List (El R)) (i : Nat) (x : El R) : (errs l E (H.set i x) ss).length ≤ (errs l E H ss).length + 1 := by
  unfold errs
  refine Nat.le_trans (filt_one _ (fun j => !decide (j ∈ E) && !decide (cf H j = cf ss j)) i (fun j hj h => ?_) l) (by split <;> omega)
  rw [cf_set _ _ _ _ hj] at h; exact h
theorem errs_set0 (l : Nat) (E : List Nat) (H ss : List (El R)) (i : Nat) (x : El R) (hi : i ∈ E) : (errs l E (H.set i x) ss).length ≤ (errs l E H ss).length := by
  unfold errs
  refine Nat.le_trans (filt_one _ (fun j => !decide (j ∈ E) && !decide (cf H j = cf ss j)) l (fun j _ h => ?_) l) (by rw [if_neg (Nat.lt_irrefl _)]; omega)
  by_cases hj : j = i
  · subst hj; simp [hi] at h
  · rw [cf_set _ _ _ _ hj] at h; exact h
theorem errs_self (l : Nat) (E : List Nat) (ss : List (El R)) : (errs l E ss ss).length = 0 := by
  unfold errs; rw [List.length_eq_zero_iff, List.filter_eq_nil_iff]; intro j _; simp
/-- The next element, of the last one the first. -/
theorem el_next (X : El R) : ∃ Y : El R, ((X.val : Int) + 1).tmod (R.q : Int) = (Y.val : Int) := by
  have hq := R.three
  refine ⟨⟨(X.val + 1) % R.q, Nat.mod_lt _ (by omega)⟩, ?_⟩
  rw [Int.tmod_eq_emod_of_nonneg (by omega)]; rfl
end
theorem ints_over {w w' : World} {B g n : Nat} {A : Option Addr} {zs : List Int} (h : Ints .i64 w B A n zs) (hg : w.grownBy w' (some g)) (hB : B ≤ g) (hs : B ≤ w.heap.size) : Ints .i64 w' B A n zs :=
  h.keep fun b o hb => World.cell?_of_block (hg.block b (by omega) (fun e => by injection e with e; omega))
end Go.Proofs.Ytpheembgjdgniaa
