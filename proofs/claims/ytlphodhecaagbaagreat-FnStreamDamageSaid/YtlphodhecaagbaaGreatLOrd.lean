/-
  The order of a stream, row by row: the index that comes next while its rows are gone through.
  Condition: none (natural numbers alone).
-/
import Derived.Test.YtlphodhecaagbaaGreatLMath
namespace Go.Proofs.YtlphodhecaagbaaGreat

section
variable {D C K : Nat}
/-- The index in front of block b of row e of the data. -/
def ridx (D C e b : Nat) : Nat := if e < D / C then e * C + b else D / C * C + (b - (C - D % C))
/-- The index in front of row e. -/
def lidx (D C e : Nat) : Nat := if e ≤ D / C then e * C else D
theorem lidx_zero : lidx D C 0 = 0 := by unfold lidx; rw [if_pos (Nat.zero_le _), Nat.zero_mul]
theorem ridx_start {e : Nat} (he : e < lsz D C (C - 1)) : ridx D C e 0 = lidx D C e := by
  have h1 := lsz_le D C (C - 1)
  unfold ridx lidx
  split
  · rw [if_pos (by omega)]; rfl
  · rw [if_pos (by omega), show e = D / C by omega]; omega
theorem ridx_skip {e b : Nat} (he : lsz D C b ≤ e) (he2 : e < lsz D C (C - 1)) : ridx D C e (b + 1) = ridx D C e b := by
  have h0 := lsz_ge D C b
  have h2 : b < C - D % C := Nat.lt_of_not_le fun h => by
    have h1 := lsz_le D C (C - 1)
    rw [lsz_long h] at he
    omega
  unfold ridx
  rw [if_neg (by omega), if_neg (by omega)]
  omega
theorem ridx_is {e b : Nat} (he : e < lsz D C b) : sidx D C b e = ridx D C e b := by
  unfold sidx ridx
  rw [if_pos he]
theorem ridx_next {e b : Nat} (he : e < lsz D C b) : ridx D C e (b + 1) = ridx D C e b + 1 := by
  unfold ridx
  split
  · omega
  · rename_i h
    have h2 : C - D % C ≤ b := Nat.le_of_not_lt fun hh => by rw [lsz_short hh] at he; omega
    omega
theorem ridx_end (e : Nat) (hC : 0 < C) : ridx D C e C = lidx D C (e + 1) := by
  have h2 := dm D C
  have h3 := Nat.mod_lt D hC
  unfold ridx lidx
  split
  · rw [if_pos (by omega), Nat.add_mul, Nat.one_mul]
  · rw [if_neg (by omega)]; omega
theorem lidx_end (hC : 0 < C) : lidx D C (lsz D C (C - 1)) = D := by
  have h2 := dm D C
  have h3 := Nat.mod_lt D hC
  unfold lidx
  split
  · rename_i h
    have h4 : C - 1 < C - D % C := Nat.lt_of_not_le fun hh => by rw [lsz_long hh] at h; omega
    rw [lsz_short h4]; omega
  · rfl
theorem ridx_lt {e b : Nat} (hb : b < C) (he : e < lsz D C b) : ridx D C e b < D := by
  have := (sidx_lt (D := D) (K := 0) (e := e) hb).2 he
  rw [ridx_is he] at this
  omega
theorem cidx_is {c b : Nat} : sidx D C b (lsz D C b + c) = D + c * C + b := by
  have h0 := lsz_ge D C b
  unfold sidx
  rw [if_neg (by omega), if_neg (by omega), Nat.add_sub_cancel_left]
theorem cidx_lt {c b : Nat} (hc : c < K) (hb : b < C) : D + c * C + b < D + C * K := by
  have := (sidx_lt (D := D) (K := K) (e := lsz D C b + c) hb).2 (by omega)
  rw [cidx_is] at this
  exact this

/-- The indices below i, as indices of the stream. -/
def upsF (N i : Nat) : List (Fin N) := (List.finRange N).take i
theorem ups_zero (N : Nat) : upsF N 0 = [] := rfl
theorem ups_succ {N i : Nat} (h : i < N) : upsF N (i + 1) = upsF N i ++ [⟨i, h⟩] := by
  unfold upsF
  rw [List.take_add_one, List.getElem?_eq_getElem (by rw [List.length_finRange]; exact h), List.getElem_finRange]
  rfl
theorem ups_all (N : Nat) : upsF N N = List.finRange N := by
  unfold upsF
  rw [List.take_of_length_le (by rw [List.length_finRange]; exact Nat.le_refl _)]
theorem ups_len {N i : Nat} (h : i ≤ N) : (upsF N i).length = i := by unfold upsF; rw [List.length_take, List.length_finRange]; omega
end
end Go.Proofs.YtlphodhecaagbaaGreat
