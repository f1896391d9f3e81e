/-
  A valid field keeps the laws of a field; the contracts of sums, products, negatives and inverses of its elements, of the program and of the model.
  Condition: the field is valid.
-/
import Derived.Test.YthafkohopkgckaaPolyMath
import Derived.Test.YthafkohopkgckaaFImpl7
import Derived.Test.YthafkohopkgckaaFSpec4
namespace Go.Proofs.Ythafkohopkgckaa
open Go.RowKit

/-- The field with these numbers. -/
structure FldIs (R : Fld) (p k g : Int) : Prop where
  kind : Kd p k g R.q R.mul
  gen : ∃ γ, γ < R.q ∧ gen R.q R.mul γ = true ∧ ((p ≠ 2 ∧ k = 1 ∧ g = γ) ∨ (p = 2 ∧ 3 ≤ k ∧ γ = 2))
  add : R.add = addF p R.q
  neg : R.neg = negF p R.q
  inv : R.inv = fun a => pw R.mul a (R.q - 2)

theorem addF_1 {q : Nat} (h3 : 3 ≤ q) (a b : Nat) : addF q q a b = (a + b) % q := by rw [addF, if_neg (by omega)]
theorem negF_1' {q : Nat} (h3 : 3 ≤ q) (a : Nat) : negF q q a = (q - a) % q := by rw [negF, if_neg (by omega)]

theorem fld_ex {p k g : Int} (h : fieldB p k g = true) : ∃ R : Fld, FldIs R p k g := by
  obtain ⟨q, mul, γ, hK, h1, h2, h3, h4⟩ := fieldB_open h
  have M := hK.mon
  have hg : ∃ γ, γ < q ∧ Go.Proofs.Ythafkohopkgckaa.gen q mul γ = true ∧ ((p ≠ 2 ∧ k = 1 ∧ g = γ) ∨ (p = 2 ∧ 3 ≤ k ∧ γ = 2)) := ⟨γ, h2, h3, h4⟩
  have hinv : ∀ a, a < q → a ≠ 0 → mul a (pw mul a (q - 2)) = 1 := fun a ha h0 => inv_mul M h2 h3 ha h0
  have hclo : ∀ a, a < q → pw mul a (q - 2) < q := fun a ha => pw_lt M ha _
  have hK' := hK
  cases hK with
  | one _ _ hq3 hq =>
    refine ⟨⟨q, addF q q, negF q q, mul1 q, fun a => pw (mul1 q) a (q - 2), hq3, ?_, ?_, M.clo, hclo, ?_, ?_, ?_, ?_, M.comm, M.assoc, fun a ha => mul_one M ha, ?_, hinv⟩, ⟨hK', hg, rfl, rfl, rfl⟩⟩
    · intro a b _ _; rw [addF_1 hq3]; exact Nat.mod_lt _ (by omega)
    · intro a _; rw [negF_1' hq3]; exact Nat.mod_lt _ (by omega)
    · intro a b _ _; rw [addF_1 hq3, addF_1 hq3, Nat.add_comm]
    · intro a b c _ _ _; rw [addF_1 hq3, addF_1 hq3, addF_1 hq3, addF_1 hq3, Nat.mod_add_mod, Nat.add_mod_mod, Nat.add_assoc]
    · intro a ha; rw [addF_1 hq3]; exact Nat.mod_eq_of_lt ha
    · intro a ha
      rw [addF_1 hq3, negF_1' hq3, Nat.add_mod_mod, show a + (q - a) = q by omega, Nat.mod_self]
    · intro a b c _ _ _
      rw [addF_1 hq3, addF_1 hq3]; unfold mul1
      rw [Nat.mul_mod_mod, ← Nat.add_mod, Nat.mul_add]
  | two K G hk3 hk8 hG hG2 =>
    have e2 : ∀ a b, addF 2 (2 ^ K) a b = a ^^^ b := fun a b => by rw [addF, if_pos rfl]
    have e3 : ∀ a, negF 2 (2 ^ K) a = a := fun a => by rw [negF, if_pos rfl]
    refine ⟨⟨2 ^ K, addF 2 (2 ^ K), negF 2 (2 ^ K), mul2 K G, fun a => pw (mul2 K G) a (2 ^ K - 2), M.three, ?_, ?_, M.clo, hclo, ?_, ?_, ?_, ?_, M.comm, M.assoc, fun a ha => mul_one M ha, ?_, hinv⟩, ⟨hK', hg, rfl, rfl, rfl⟩⟩
    · intro a b ha hb; rw [e2]; exact Nat.xor_lt_two_pow ha hb
    · intro a ha; rw [e3]; exact ha
    · intro a b _ _; rw [e2, e2, Nat.xor_comm]
    · intro a b c _ _ _; simp only [e2, Nat.xor_assoc]
    · intro a _; rw [e2, Nat.xor_zero]
    · intro a _; rw [e2, e3, Nat.xor_self]
    · intro a b c ha hb hc; rw [e2, e2]; exact mul2_xor a b c ha hb hc

section
variable {R : Fld} {p k g : Int} (h : FldIs R p k g)
include h
theorem FldIs.le : R.q ≤ 1021 := h.kind.big.2
theorem FldIs.bd (a : El R) : a.val < 1021 := by have := a.lt; have := h.le; omega
theorem implSumE (a b : El R) (w : World) :
    Calls Try.prog 59 #[.agg #[.int .i64 p, .int .i64 k, .int .i64 g], .int .i64 a.val, .int .i64 b.val] w (Gives (.int .i64 ((a + b).val : Nat)) w) := by
  rw [val_add, h.add]; exact implSum h.kind _ _ a.lt b.lt w
theorem implProdE (a b : El R) (w : World) :
    Calls Try.prog 64 #[.agg #[.int .i64 p, .int .i64 k, .int .i64 g], .int .i64 a.val, .int .i64 b.val] w (Gives (.int .i64 ((a * b).val : Nat)) w) :=
  implProd h.kind _ _ a.lt b.lt w
theorem implNegE (a : El R) (w : World) :
    Calls Try.prog 103 #[.agg #[.int .i64 p, .int .i64 k, .int .i64 g], .int .i64 a.val] w (Gives (.int .i64 ((-a).val : Nat)) w) := by
  rw [val_neg, h.neg]; exact implNegative h.kind _ a.lt w
theorem implInvE (a : El R) (w : World) :
    Calls Try.prog 101 #[.agg #[.int .i64 p, .int .i64 k, .int .i64 g], .int .i64 a.val] w (Gives (.int .i64 (a.inv.val : Nat)) w) := by
  obtain ⟨γ, h1, h2, h3⟩ := h.gen
  rw [val_inv, h.inv]; exact implInverse h.kind h1 h2 h3 _ a.lt w
theorem specAddE (a b : El R) (w : World) :
    Calls Try.prog 61 #[.agg #[.int .i64 p, .int .i64 k, .int .i64 g], .int .i64 a.val, .int .i64 b.val] w (Gives (.int .i64 ((a + b).val : Nat)) w) := by
  rw [val_add, h.add]; exact specAdd0 h.kind _ _ a.lt b.lt w
theorem specMulE (a b : El R) (w : World) :
    Calls Try.prog 85 #[.agg #[.int .i64 p, .int .i64 k, .int .i64 g], .int .i64 a.val, .int .i64 b.val] w (Gives (.int .i64 ((a * b).val : Nat)) w) :=
  specMul0 h.kind _ _ a.lt b.lt w
theorem specNegE (a : El R) (w : World) :
    Calls Try.prog 84 #[.agg #[.int .i64 p, .int .i64 k, .int .i64 g], .int .i64 a.val] w (Gives (.int .i64 ((-a).val : Nat)) w) := by
  rw [val_neg, h.neg]; exact specNeg0 h.kind _ a.lt w
theorem specInvE (a : El R) (w : World) :
    Calls Try.prog 86 #[.agg #[.int .i64 p, .int .i64 k, .int .i64 g], .int .i64 a.val] w (Gives (.int .i64 (a.inv.val : Nat)) w) := by
  rw [val_inv, h.inv]; exact specInverse h.kind _ a.lt w
end

/-- The numbers of elements. -/
def iv {R : Fld} (ps : List (El R)) : List Int := ps.map fun x => (x.val : Int)
section
variable {R : Fld}
theorem iv_len (ps : List (El R)) : (iv ps).length = ps.length := by simp [iv]
theorem iv_at {ps : List (El R)} {i : Nat} (hi : i < ps.length) : (iv ps)[i]? = some ((cf ps i).val : Int) := by
  rw [iv, List.getElem?_map, at_cf hi]; rfl
theorem iv_set (ps : List (El R)) (j : Nat) (x : El R) : (iv ps).set j (x.val : Int) = iv (ps.set j x) := by simp [iv, List.map_set]
theorem iv_app (ps qs : List (El R)) : iv (ps ++ qs) = iv ps ++ iv qs := by simp [iv]
theorem iv_one (x : El R) : iv [x] = [(x.val : Int)] := rfl
theorem iv_take (ps : List (El R)) (n : Nat) : (iv ps).take n = iv (ps.take n) := by simp [iv]
theorem iv_zeros (n : Nat) : List.replicate n (0 : Int) = iv (tab n fun _ => (0 : El R)) := by
  unfold iv tab
  rw [List.map_map]
  refine List.ext_getElem? fun i => ?_
  rcases Nat.lt_or_ge i n with h | h
  · rw [List.getElem?_replicate, if_pos h]; simp [h, val_zero]
  · rw [List.getElem?_eq_none (by simpa using h), List.getElem?_eq_none (by simpa using h)]
theorem iv_inj {ps qs : List (El R)} (h : iv ps = iv qs) : ps = qs := by
  have hl : ps.length = qs.length := by rw [← iv_len, h, iv_len]
  refine List.ext_getElem? fun i => ?_
  rcases Nat.lt_or_ge i ps.length with hi | hi
  · have h1 := iv_at hi
    rw [h, iv_at (by omega)] at h1
    rw [at_cf hi, at_cf (by omega)]
    simp only [Option.some.injEq] at h1
    exact congrArg some (El.eq (by omega)).symm
  · rw [List.getElem?_eq_none hi, List.getElem?_eq_none (by omega)]
/-- A list of elements is one of numbers below the size. -/
theorem iv_of {zs : List Int} (h : zs.all (elB R.q) = true) : ∃ ps : List (El R), zs = iv ps := by
  rw [List.all_eq_true] at h
  induction zs with
  | nil => exact ⟨[], rfl⟩
  | cons z zs ih =>
    obtain ⟨ps, hp⟩ := ih fun x hx => h x (List.mem_cons_of_mem _ hx)
    have hz := h z (List.mem_cons_self ..)
    simp only [elB, decide_eq_true_eq] at hz
    refine ⟨⟨z.toNat, by omega⟩ :: ps, ?_⟩
    show _ = ((z.toNat : Nat) : Int) :: iv ps
    rw [← hp]; congr 1; omega
theorem iv_all (ps : List (El R)) : (iv ps).all (elB R.q) = true := by
  rw [List.all_eq_true]
  intro x hx
  obtain ⟨a, _, rfl⟩ := List.mem_map.1 hx
  simp only [elB, decide_eq_true_eq]
  have := a.lt
  omega
end
end Go.Proofs.Ythafkohopkgckaa
