/-
  Plain mathematics of the fixed cells of matrix symbols: which cells the model fixes, and how many it leaves.
  No condition.
-/
import Derived.Test.YtncgeoliboidhaaFmMath
namespace Go.Proofs.Ytncgeoliboidhaa

def absI (x : Int) : Int := if x < 0 then -x else x
def finZ (r c : Int) : Int :=
  let d := max (absI (r - 3)) (absI (c - 3))
  if 4 < d then -1 else if d = 2 ∨ d = 4 then 0 else 1
/-- What the finder patterns fix, from one of the corners on. -/
def corZ (n : Int) (i : Nat) : Int × Int := if i = 0 then (0, 0) else if i = 1 then (0, n - 7) else (n - 7, 0)
def finK (n r c : Int) (i : Nat) : Int := finZ (r - (corZ n i).1) (c - (corZ n i).2)
def linZ (n r c : Int) : Int :=
  if r = 6 ∧ 8 ≤ c ∧ c ≤ n - 9 then 1 - c % 2 else if c = 6 ∧ 8 ≤ r ∧ r ≤ n - 9 then 1 - r % 2 else if r = n - 8 ∧ c = 8 then 1 else -1
def fixZ (n r c : Int) : Int :=
  if 0 ≤ finK n r c 0 then finK n r c 0 else if 0 ≤ finK n r c 1 then finK n r c 1 else if 0 ≤ finK n r c 2 then finK n r c 2 else linZ n r c
/-- The cells, row by row. -/
def gridZ (n m : Nat) : List Int := (List.range m).map fun i => fixZ n (i / n : Nat) (i % n : Nat)
theorem grid_len (n m : Nat) : (gridZ n m).length = m := by simp [gridZ]
theorem grid_step {n r c : Nat} (hc : c < n) : gridZ n (r * n + (c + 1)) = gridZ n (r * n + c) ++ [fixZ n r c] := by
  have h1 : (r * n + c) / n = r := by
    rw [Nat.mul_comm, Nat.mul_add_div (by omega), Nat.div_eq_of_lt hc]; rfl
  have h2 : (r * n + c) % n = c := by
    rw [Nat.mul_comm, Nat.mul_add_mod, Nat.mod_eq_of_lt hc]
  unfold gridZ
  rw [← Nat.add_assoc, List.range_succ, List.map_append]
  simp only [List.map_cons, List.map_nil, h1, h2]
/-- How many numbers of a list are negative. -/
def negC : List Int → Nat
  | [] => 0
  | z :: zs => (if z < 0 then 1 else 0) + negC zs
theorem neg_snoc (zs : List Int) (z : Int) : negC (zs ++ [z]) = negC zs + (if z < 0 then 1 else 0) := by
  induction zs with
  | nil => simp [negC]
  | cons x zs ih => rw [List.cons_append, negC, negC, ih]; omega
theorem neg_take {zs : List Int} {j : Nat} {z : Int} (h : zs[j]? = some z) : negC (zs.take (j + 1)) = negC (zs.take j) + (if z < 0 then 1 else 0) := by
  rw [List.take_add_one, h, Option.toList_some, neg_snoc]
theorem neg_le (zs : List Int) : negC zs ≤ zs.length := by
  induction zs with
  | nil => exact Nat.le_refl _
  | cons x zs ih => rw [negC, List.length_cons]; split <;> omega
set_option maxRecDepth 100000 in
theorem neg_seven : ∀ j : Fin 7, negC (gridZ (17 + 4 * j.val) ((17 + 4 * j.val) * (17 + 4 * j.val))) = dcN (17 + 4 * j.val) + 30 := by decide +kernel
theorem neg_is {n : Nat} (h1 : 17 ≤ n) (h2 : n ≤ 41) (h3 : n % 4 = 1) : negC (gridZ n (n * n)) = dcN n + 30 := by
  obtain ⟨j, hj, rfl⟩ : ∃ j : Nat, j < 7 ∧ n = 17 + 4 * j := ⟨(n - 17) / 4, by omega, by omega⟩
  exact neg_seven ⟨j, hj⟩
theorem fix_range (n r c : Int) : -1 ≤ fixZ n r c ∧ fixZ n r c ≤ 1 := by
  have h : ∀ a b, -1 ≤ finZ a b ∧ finZ a b ≤ 1 := by
    intro a b
    unfold finZ
    dsimp only
    split
    · omega
    · split <;> omega
  have h0 := h (r - (corZ n 0).1) (c - (corZ n 0).2)
  have h1 := h (r - (corZ n 1).1) (c - (corZ n 1).2)
  have h2 := h (r - (corZ n 2).1) (c - (corZ n 2).2)
  unfold fixZ
  unfold finK linZ
  repeat' split
  all_goals omega
end Go.Proofs.Ytncgeoliboidhaa
