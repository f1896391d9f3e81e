/-
  Families of symbols, by their numbers: when one is valid, how many elements a symbol has, its layouts.
  Plain mathematics of the fixed cells of matrix symbols: which cells the model fixes, and how many it leaves.
  Condition: as each statement says.
-/
import Derived.Test.YtncgeoliboidhaaGreatVA
import Derived.Test.YtncgeoliboidhaaGreatPy1
namespace Go.Proofs.YtncgeoliboidhaaGreat
open Go.RowKit

def mszB (n : Int) : Bool := decide (17 ≤ n ∧ n ≤ 41 ∧ n % 4 = 1)
def rowB (n : Int) : Bool := decide (3 ≤ n ∧ n ≤ 24)
def pctB (n : Int) : Bool := decide (1 ≤ n ∧ n ≤ 80)
/-- Whether a number lies above the one before it, if there is one. -/
def aft (o : Option Int) (z : Int) : Bool := match o with | none => true | some y => decide (y < z)
/-- Whether all numbers of a list are accepted, and rise, from one on. -/
def riseF (ok : Int → Bool) : Option Int → List Int → Bool
  | _, [] => true
  | o, z :: zs => ok z && aft o z && riseF ok (some z) zs
def chB (ok : Int → Bool) (m : Nat) (zs : List Int) : Bool := decide (1 ≤ zs.length ∧ zs.length ≤ m) && riseF ok none zs
def nmB (bs : List Int) : Bool := decide (1 ≤ bs.length ∧ bs.length ≤ 8) && bs.all (fun b => decide (97 ≤ b ∧ b ≤ 122))
def matB (κ p k g c : Int) : Bool := decide (κ = 1 ∧ c = 0 ∧ p = 2) && fieldB p k g
def stkB (κ p k g c : Int) : Bool := decide (κ = 2 ∧ 1 ≤ c ∧ c ≤ 8 ∧ p = 2 ∧ k = 5 ∧ g = 37)
/-- Whether a family is valid. -/
def fmB (bs : List Int) (κ p k g : Int) (zs : List Int) (c : Int) (ls : List Int) : Bool :=
  nmB bs && ((matB κ p k g c && chB mszB 8 zs) || (stkB κ p k g c && chB rowB 8 zs)) && chB pctB 4 ls

theorem rise_ok {ok : Int → Bool} {zs : List Int} : ∀ {o : Option Int}, riseF ok o zs = true → ∀ z ∈ zs, ok z = true := by
  induction zs with
  | nil => intro o _ z hz; cases hz
  | cons x zs ih =>
    intro o h z hz
    simp only [riseF, Bool.and_eq_true] at h
    rcases List.mem_cons.1 hz with rfl | h1
    · exact h.1.1
    · exact ih h.2 z h1
theorem rise_lt {ok : Int → Bool} {zs : List Int} : ∀ {y : Int}, riseF ok (some y) zs = true → ∀ z ∈ zs, y < z := by
  induction zs with
  | nil => intro o _ z hz; cases hz
  | cons x zs ih =>
    intro y h z hz
    simp only [riseF, aft, Bool.and_eq_true, decide_eq_true_eq] at h
    rcases List.mem_cons.1 hz with rfl | h1
    · exact h.1.2
    · have := ih h.2 z h1
      omega
/-- In a rising list an earlier number is smaller. -/
theorem rise_idx {ok : Int → Bool} {zs : List Int} : ∀ {o : Option Int}, riseF ok o zs = true → ∀ (i j : Nat) (x y : Int), zs[i]? = some x → zs[j]? = some y → i < j → x < y := by
  induction zs with
  | nil => intro o _ i j x y h; simp at h
  | cons z zs ih =>
    intro o h i j x y hi hj hij
    simp only [riseF, Bool.and_eq_true] at h
    obtain ⟨j, rfl⟩ : ∃ j', j = j' + 1 := ⟨j - 1, by omega⟩
    rw [List.getElem?_cons_succ] at hj
    cases i with
    | zero =>
      simp only [List.getElem?_cons_zero, Option.some.injEq] at hi
      subst hi
      exact rise_lt h.2 y (List.mem_of_getElem? hj)
    | succ i =>
      rw [List.getElem?_cons_succ] at hi
      exact ih h.2 i j x y hi hj (by omega)
theorem chB_len {ok : Int → Bool} {m : Nat} {zs : List Int} (h : chB ok m zs = true) : 1 ≤ zs.length ∧ zs.length ≤ m := by
  simp only [chB, Bool.and_eq_true, decide_eq_true_eq] at h; exact h.1
theorem chB_rise {ok : Int → Bool} {m : Nat} {zs : List Int} (h : chB ok m zs = true) : riseF ok none zs = true := by
  simp only [chB, Bool.and_eq_true] at h; exact h.2
theorem chB_long {ok : Int → Bool} {m : Nat} {zs : List Int} (h : ¬ (1 ≤ zs.length ∧ zs.length ≤ m)) : chB ok m zs = false := by
  rw [chB, decide_eq_false h]; rfl
theorem chB_is {ok : Int → Bool} {m : Nat} {zs : List Int} (h : 1 ≤ zs.length ∧ zs.length ≤ m) : chB ok m zs = riseF ok none zs := by
  rw [chB, decide_eq_true h, Bool.true_and]

set_option maxRecDepth 100000 in
/-- The field of 32 elements. -/
theorem fo32 : foP 32 = 2 ∧ foK 32 = 5 ∧ foG 32 = 37 := by
  have h1 : fieldB 2 5 37 = true := by decide +kernel
  have h2 : powG 5 = 37 := powG_at (by decide) (by decide) (by exact_mod_cast h1) (by
    intro j hj hj2
    obtain rfl | rfl | rfl | rfl | rfl : j = 32 ∨ j = 33 ∨ j = 34 ∨ j = 35 ∨ j = 36 := by
      have : (2 : Nat) ^ 5 = 32 := by decide
      omega
    all_goals decide +kernel)
  obtain ⟨e1, e2, e3, _⟩ := fo_2 (s := 32) (K := 5) (by decide +kernel) (isPow_at (by decide) (by decide) (by decide))
  rw [e1, e2, e3, h2]
  simp only [lowP, lowK, h2]
  exact ⟨rfl, rfl, rfl⟩
set_option maxRecDepth 100000 in
theorem field32 : fieldB 2 5 37 = true := by decide +kernel
theorem stk_field {κ p k g c : Int} (h : stkB κ p k g c = true) : fieldB p k g = true := by
  simp only [stkB, decide_eq_true_eq] at h
  obtain ⟨_, _, _, rfl, rfl, rfl⟩ := h
  exact field32
theorem mat_field {κ p k g c : Int} (h : matB κ p k g c = true) : fieldB p k g = true := by
  simp only [matB, Bool.and_eq_true] at h; exact h.2

/-- What a valid family is. -/
structure FmIs (κ p k g : Int) (zs : List Int) (c : Int) (ls : List Int) : Prop where
  fld : fieldB p k g = true
  two : p = 2
  kind : (κ = 1 ∧ c = 0) ∨ (κ = 2 ∧ 1 ≤ c ∧ c ≤ 8)
  zlen : 1 ≤ zs.length ∧ zs.length ≤ 8
  llen : 1 ≤ ls.length ∧ ls.length ≤ 4
  mat : κ = 1 → ∀ z ∈ zs, 17 ≤ z ∧ z ≤ 41 ∧ z % 4 = 1
  row : κ = 2 → ∀ z ∈ zs, 3 ≤ z ∧ z ≤ 24
  pct : ∀ l ∈ ls, 1 ≤ l ∧ l ≤ 80
  up : ∀ (i j : Nat) (x y : Int), zs[i]? = some x → zs[j]? = some y → i < j → x < y
theorem fm_is {bs : List Int} {κ p k g : Int} {zs : List Int} {c : Int} {ls : List Int} (h : fmB bs κ p k g zs c ls = true) : FmIs κ p k g zs c ls := by
  simp only [fmB, Bool.and_eq_true, Bool.or_eq_true] at h
  obtain ⟨⟨_, h1⟩, h2⟩ := h
  have hl := fun l hl => rise_ok (chB_rise h2) l hl
  simp only [pctB, decide_eq_true_eq] at hl
  rcases h1 with ⟨h3, h4⟩ | ⟨h3, h4⟩
  · have hm := fun z hz => rise_ok (chB_rise h4) z hz
    simp only [mszB, decide_eq_true_eq] at hm
    have hf := mat_field h3
    simp only [matB, Bool.and_eq_true, decide_eq_true_eq] at h3
    exact ⟨hf, h3.1.2.2, .inl ⟨h3.1.1, h3.1.2.1⟩, chB_len h4, chB_len h2, fun _ => hm, fun e => by omega, hl, fun i j x y => rise_idx (chB_rise h4) i j x y⟩
  · have hm := fun z hz => rise_ok (chB_rise h4) z hz
    simp only [rowB, decide_eq_true_eq] at hm
    have hf := stk_field h3
    simp only [stkB, decide_eq_true_eq] at h3
    exact ⟨hf, h3.2.2.2.1, .inr ⟨h3.1, h3.2.1, h3.2.2.1⟩, chB_len h4, chB_len h2, fun e => by omega, fun _ => hm, hl, fun i j x y => rise_idx (chB_rise h4) i j x y⟩

/-! The elements of a symbol, and its layouts. -/
/-- How many data cells a matrix has. -/
def dcN (n : Nat) : Nat := n * n - 192 - 2 * (n - 16) - 31
theorem dc_at {n : Nat} (h1 : 17 ≤ n) (h2 : n ≤ 41) (h3 : n % 4 = 1) : (n = 17 ∧ dcN n = 64) ∨ (n = 21 ∧ dcN n = 208) ∨ (n = 25 ∧ dcN n = 384) ∨ (n = 29 ∧ dcN n = 592) ∨ (n = 33 ∧ dcN n = 832) ∨ (n = 37 ∧ dcN n = 1104) ∨ (n = 41 ∧ dcN n = 1408) := by
  obtain rfl | rfl | rfl | rfl | rfl | rfl | rfl : n = 17 ∨ n = 21 ∨ n = 25 ∨ n = 29 ∨ n = 33 ∨ n = 37 ∨ n = 41 := by omega
  all_goals decide
theorem dc_le {n : Nat} (h1 : 17 ≤ n) (h2 : n ≤ 41) (h3 : n % 4 = 1) : 64 ≤ dcN n ∧ dcN n ≤ 1408 := by
  rcases dc_at h1 h2 h3 with h | h | h | h | h | h | h <;> omega
/-- How many elements a symbol has. -/
def elN (κ : Int) (W : Nat) (z c : Int) : Nat := if κ = 2 then (z * c).toNat else dcN z.toNat / W
def loC (E M : Nat) : Nat := (E + M - 1) / M
def loK (E M P : Nat) : Nat := min (max (E * P / 100 / loC E M) 2) 64
def loD (E M P : Nat) : Int := (E : Int) - (loC E M * loK E M P : Nat)
theorem lo_k {E M P : Nat} : 2 ≤ loK E M P ∧ loK E M P ≤ 64 := by unfold loK; omega
theorem lo_c {E M : Nat} (hE : 1 ≤ E) (hM : 1 ≤ M) : 1 ≤ loC E M ∧ loC E M ≤ E := by
  unfold loC
  refine ⟨Nat.div_pos (by omega) (by omega), ?_⟩
  rw [Nat.div_le_iff_le_mul_add_pred (by omega)]
  have : E ≤ M * E := Nat.le_mul_of_pos_left E (by omega)
  omega
theorem el_mat {W : Nat} {z c : Int} (h1 : 17 ≤ z) (h2 : z ≤ 41) (h3 : z % 4 = 1) (hW : 1 ≤ W) (hW9 : W ≤ 9) : elN 1 W z c = dcN z.toNat / W ∧ 1 ≤ elN 1 W z c ∧ elN 1 W z c ≤ 1408 := by
  have e : elN 1 W z c = dcN z.toNat / W := by unfold elN; rw [if_neg (by decide)]
  rw [e]
  have := dc_le (n := z.toNat) (by omega) (by omega) (by omega)
  refine ⟨rfl, Nat.div_pos (by omega) (by omega), Nat.le_trans (Nat.div_le_self _ _) (by omega)⟩
theorem el_row {W : Nat} {z c : Int} (h1 : 3 ≤ z) (h2 : z ≤ 24) (h3 : 1 ≤ c) (h4 : c ≤ 8) : ((elN 2 W z c : Nat) : Int) = z * c ∧ 1 ≤ elN 2 W z c ∧ elN 2 W z c ≤ 1408 := by
  obtain ⟨a, rfl⟩ : ∃ a : Nat, z = a := ⟨z.toNat, by omega⟩
  obtain ⟨b, rfl⟩ : ∃ b : Nat, c = b := ⟨c.toNat, by omega⟩
  have e : elN 2 W (a : Int) (b : Int) = a * b := by unfold elN; rw [if_pos rfl, ← Int.natCast_mul, Int.toNat_natCast]
  rw [e]
  have h5 : 1 * 1 ≤ a * b := Nat.mul_le_mul (by omega) (by omega)
  have h6 : a * b ≤ 24 * 8 := Nat.mul_le_mul (by omega) (by omega)
  exact ⟨Int.natCast_mul a b, by omega, by omega⟩
/-- The elements of a symbol of a valid family. -/
theorem el_le {κ p k g : Int} {zs : List Int} {c : Int} {ls : List Int} (h : FmIs κ p k g zs c ls) {W : Nat} (hW : 1 ≤ W) (hW9 : W ≤ 9) {z : Int} (hz : z ∈ zs) : 1 ≤ elN κ W z c ∧ elN κ W z c ≤ 1408 := by
  rcases h.kind with ⟨rfl, hc⟩ | ⟨rfl, h1, h2⟩
  · obtain ⟨a1, a2, a3⟩ := h.mat rfl z hz
    exact (el_mat a1 a2 a3 hW hW9).2
  · obtain ⟨a1, a2⟩ := h.row rfl z hz
    exact (el_row a1 a2 h1 h2).2
theorem fm_q {p k g : Int} {q : Nat} {mul : Nat → Nat → Nat} (hp : p = 2) (hK : Kd p k g q mul) : 8 ≤ q ∧ q ≤ 256 := by
  cases hK with
  | one P g h3 h => omega
  | two K G h3 h8 hG hG2 => exact pow_small h3 h8
end Go.Proofs.YtncgeoliboidhaaGreat

namespace Go.Proofs.YtncgeoliboidhaaGreat

def absI (x : Int) : Int := if x < 0 then -x else x
def finZ (r c : Int) : Int :=
  let d := max (absI (r - 3)) (absI (c - 3))
  if 4 < d then -1 else if d = 2 ∨ d = 4 then 0 else 1
/-- What the finder patterns fix, from one of the corners on. -/
def corZ (n : Int) (i : Nat) : Int × Int := if i = 0 then (0, 0) else if i = 1 then (0, n - 7) else (n - 7, 0)
def finK (n r c : Int) (i : Nat) : Int := finZ (r - (corZ n i).1) (c - (corZ n i).2)
def linZ (n r c : Int) : Int :=
  if r = 6 ∧ 8 ≤ c ∧ c ≤ n - 9 then 1 - c % 2 else if c = 6 ∧ 8 ≤ r ∧ r ≤ n - 9 then 1 - r % 2 else if r = n - 8 ∧ c = 8 then 1 else -1
def fixZ (n r c : Int) : Int :=
  if 0 ≤ finK n r c 0 then finK n r c 0 else if 0 ≤ finK n r c 1 then finK n r c 1 else if 0 ≤ finK n r c 2 then finK n r c 2 else linZ n r c
/-- The cells, row by row. -/
def gridZ (n m : Nat) : List Int := (List.range m).map fun i => fixZ n (i / n : Nat) (i % n : Nat)
theorem grid_len (n m : Nat) : (gridZ n m).length = m := by simp [gridZ]
theorem grid_step {n r c : Nat} (hc : c < n) : gridZ n (r * n + (c + 1)) = gridZ n (r * n + c) ++ [fixZ n r c] := by
  have h1 : (r * n + c) / n = r := by
    rw [Nat.mul_comm, Nat.mul_add_div (by omega), Nat.div_eq_of_lt hc]; rfl
  have h2 : (r * n + c) % n = c := by
    rw [Nat.mul_comm, Nat.mul_add_mod, Nat.mod_eq_of_lt hc]
  unfold gridZ
  rw [← Nat.add_assoc, List.range_succ, List.map_append]
  simp only [List.map_cons, List.map_nil, h1, h2]
/-- How many numbers of a list are negative. -/
def negC : List Int → Nat
  | [] => 0
  | z :: zs => (if z < 0 then 1 else 0) + negC zs
theorem neg_snoc (zs : List Int) (z : Int) : negC (zs ++ [z]) = negC zs + (if z < 0 then 1 else 0) := by
  induction zs with
  | nil => simp [negC]
  | cons x zs ih => rw [List.cons_append, negC, negC, ih]; omega
theorem neg_take {zs : List Int} {j : Nat} {z : Int} (h : zs[j]? = some z) : negC (zs.take (j + 1)) = negC (zs.take j) + (if z < 0 then 1 else 0) := by
  rw [List.take_add_one, h, Option.toList_some, neg_snoc]
theorem neg_le (zs : List Int) : negC zs ≤ zs.length := by
  induction zs with
  | nil => exact Nat.le_refl _
  | cons x zs ih => rw [negC, List.length_cons]; split <;> omega
set_option maxRecDepth 100000 in
theorem neg_seven : ∀ j : Fin 7, negC (gridZ (17 + 4 * j.val) ((17 + 4 * j.val) * (17 + 4 * j.val))) = dcN (17 + 4 * j.val) + 30 := by decide +kernel
theorem neg_is {n : Nat} (h1 : 17 ≤ n) (h2 : n ≤ 41) (h3 : n % 4 = 1) : negC (gridZ n (n * n)) = dcN n + 30 := by
  obtain ⟨j, hj, rfl⟩ : ∃ j : Nat, j < 7 ∧ n = 17 + 4 * j := ⟨(n - 17) / 4, by omega, by omega⟩
  exact neg_seven ⟨j, hj⟩
theorem fix_range (n r c : Int) : -1 ≤ fixZ n r c ∧ fixZ n r c ≤ 1 := by
  have h : ∀ a b, -1 ≤ finZ a b ∧ finZ a b ≤ 1 := by
    intro a b
    unfold finZ
    dsimp only
    split
    · omega
    · split <;> omega
  have h0 := h (r - (corZ n 0).1) (c - (corZ n 0).2)
  have h1 := h (r - (corZ n 1).1) (c - (corZ n 1).2)
  have h2 := h (r - (corZ n 2).1) (c - (corZ n 2).2)
  unfold fixZ
  unfold finK linZ
  repeat' split
  all_goals omega
end Go.Proofs.YtncgeoliboidhaaGreat
