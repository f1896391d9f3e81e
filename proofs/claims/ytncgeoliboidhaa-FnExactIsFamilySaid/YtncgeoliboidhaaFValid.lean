/-
  When a field is valid, told by its numbers.
  No condition.
-/
import Derived.Test.YtncgeoliboidhaaFKind
namespace Go.Proofs.Ytncgeoliboidhaa
open Go.RowKit

/-- The field is of the first kind, Poly aside. -/
def k1B (p k : Int) : Bool := decide (k = 1 ∧ 3 ≤ p ∧ p ≤ 1021) && primeB p.toNat
/-- The field is of the second kind, its powers aside. -/
def k2B (p k g : Int) : Bool := decide (p = 2 ∧ 3 ≤ k ∧ k ≤ 8 ∧ 2 ^ k.toNat ≤ g ∧ g < 2 ^ (k.toNat + 1))
def fieldB (p k g : Int) : Bool :=
  (k1B p k && decide (g = (least p.toNat (mul1 p.toNat) : Nat))) || (k2B p k g && gen (2 ^ k.toNat) (mul2 k.toNat g.toNat) 2)

theorem k1_open {p k : Int} (h : k1B p k = true) : ∃ P : Nat, p = P ∧ k = 1 ∧ 3 ≤ P ∧ P ≤ 1021 ∧ primeB P = true := by
  simp only [k1B, Bool.and_eq_true, decide_eq_true_eq] at h
  exact ⟨p.toNat, by omega, h.1.1, by omega, by omega, h.2⟩
theorem k2_open {p k g : Int} (h : k2B p k g = true) : ∃ K G : Nat, p = 2 ∧ k = K ∧ g = G ∧ 3 ≤ K ∧ K ≤ 8 ∧ 2 ^ K ≤ G ∧ G < 2 ^ (K + 1) := by
  simp only [k2B, decide_eq_true_eq] at h
  obtain ⟨h1, h2, h3, h4, h5⟩ := h
  have hp : (0 : Int) < 2 ^ k.toNat := Int.pow_pos (by decide)
  refine ⟨k.toNat, g.toNat, h1, by omega, by omega, by omega, by omega, ?_, ?_⟩
  · have : ((2 ^ k.toNat : Nat) : Int) ≤ (g.toNat : Int) := by push_cast; omega
    exact Int.ofNat_le.1 this
  · have : (g.toNat : Int) < ((2 ^ (k.toNat + 1) : Nat) : Int) := by push_cast; omega
    exact Int.ofNat_lt.1 this
theorem k1_is {P : Nat} (h3 : 3 ≤ P) (h : P ≤ 1021) (hp : primeB P = true) : k1B P 1 = true := by
  simp only [k1B, Bool.and_eq_true, decide_eq_true_eq, Int.toNat_natCast]
  exact ⟨⟨trivial, by omega, by omega⟩, hp⟩
theorem k2_is {K G : Nat} (h3 : 3 ≤ K) (h8 : K ≤ 8) (hG : 2 ^ K ≤ G) (hG2 : G < 2 ^ (K + 1)) : k2B 2 K G = true := by
  simp only [k2B, decide_eq_true_eq, Int.toNat_natCast]
  have h1 := Int.ofNat_le.2 hG
  have h2 := Int.ofNat_lt.2 hG2
  push_cast at h1 h2
  exact ⟨trivial, by omega, by omega, h1, h2⟩
theorem k1_not2 {p k g : Int} (h : k1B p k = true) : k2B p k g = false := by
  obtain ⟨P, rfl, rfl, h3, h4, _⟩ := k1_open h
  simp only [k2B, decide_eq_false_iff_not]
  omega
theorem k2_not1 {p k g : Int} (h : k2B p k g = true) : k1B p k = false := by
  rcases hh : k1B p k with _ | _
  · rfl
  · rw [k1_not2 hh] at h; cases h
theorem fieldB_1 {P : Nat} {g : Int} (h3 : 3 ≤ P) (h : P ≤ 1021) (hp : primeB P = true) : fieldB P 1 g = decide (g = (least P (mul1 P) : Nat)) := by
  have h1 := k1_is h3 h hp
  rw [fieldB, h1, k1_not2 h1]
  simp
theorem fieldB_2 {K G : Nat} (h3 : 3 ≤ K) (h8 : K ≤ 8) (hG : 2 ^ K ≤ G) (hG2 : G < 2 ^ (K + 1)) : fieldB 2 K G = gen (2 ^ K) (mul2 K G) 2 := by
  have h2 := k2_is h3 h8 hG hG2
  rw [fieldB, h2, k2_not1 h2]
  simp
theorem fieldB_0 {p k g : Int} (h1 : k1B p k = false) (h2 : k2B p k g = false) : fieldB p k g = false := by
  rw [fieldB, h1, h2]; rfl

/-- A valid field: its kind, its product, and a generator. -/
theorem fieldB_open {p k g : Int} (h : fieldB p k g = true) : ∃ (q : Nat) (mul : Nat → Nat → Nat) (γ : Nat), Kd p k g q mul ∧ 1 ≤ γ ∧ γ < q ∧ gen q mul γ = true ∧ ((p ≠ 2 ∧ k = 1 ∧ g = γ) ∨ (p = 2 ∧ 3 ≤ k ∧ γ = 2)) := by
  rcases h1 : k1B p k with _ | _
  · rcases h2 : k2B p k g with _ | _
    · rw [fieldB_0 h1 h2] at h; cases h
    · obtain ⟨K, G, rfl, rfl, rfl, h3, h8, hG, hG2⟩ := k2_open h2
      rw [fieldB_2 h3 h8 hG hG2] at h
      have := pow_small h3 h8
      exact ⟨2 ^ K, mul2 K G, 2, Kd.two K G h3 h8 hG hG2, by omega, by omega, h, .inr ⟨rfl, by omega, rfl⟩⟩
  · obtain ⟨P, rfl, rfl, h3, h4, hp⟩ := k1_open h1
    rw [fieldB_1 h3 h4 hp, decide_eq_true_eq] at h
    obtain ⟨l1, l2, l3, _⟩ := least_spec (prime_gen h3 h4 hp)
    exact ⟨P, mul1 P, least P (mul1 P), Kd.one P g h3 h4, l1, l2, l3, .inl ⟨by omega, rfl, h⟩⟩

/-- The size of a field by its numbers. -/
def sizeI (p k : Int) : Int := if p = 2 then 2 ^ k.toNat else p
theorem Kd.size {p k g : Int} {q : Nat} {mul : Nat → Nat → Nat} (h : Kd p k g q mul) : sizeI p k = q := by
  cases h with
  | one _ _ h3 h => rw [sizeI, if_neg (by omega)]
  | two K G h3 h8 hG hG2 => rw [sizeI, if_pos rfl]; simp
end Go.Proofs.Ytncgeoliboidhaa
