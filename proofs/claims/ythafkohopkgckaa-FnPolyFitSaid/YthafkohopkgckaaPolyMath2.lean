/-
  Values, products, quotients and common divisors of polynomials, as the program and the model reckon them.
  No condition.
-/
import Derived.Test.YthafkohopkgckaaPolyMath
namespace Go.Proofs.Ythafkohopkgckaa
section
variable {R : Fld}
/-- The value of a polynomial. -/
def ev (x : El R) : List (El R) → El R
  | [] => 0
  | a :: p => ev x p * x + a
theorem ev_drop {x : El R} {p : List (El R)} {j : Nat} (hj : j < p.length) : ev x (p.drop j) = ev x (p.drop (j + 1)) * x + cf p j := by
  rw [List.drop_eq_getElem_cons hj]
  show _ * x + p[j] = _
  rw [cf_at (List.getElem?_eq_getElem hj)]

/-- How many coefficients a product has. -/
def plen (p q : List (El R)) : Nat := if p.length = 0 ∨ q.length = 0 then 0 else p.length + q.length - 1
theorem plen_0 {p q : List (El R)} (h : p.length = 0 ∨ q.length = 0) : plen p q = 0 := if_pos h
theorem plen_1 {p q : List (El R)} (h : 0 < p.length) (h' : 0 < q.length) : plen p q = p.length + q.length - 1 := if_neg (by omega)
/-- The product. -/
def mulP (p q : List (El R)) : List (El R) := tab (plen p q) (mulN (cf p) (cf q) p.length)
theorem cf_nil (i : Nat) : cf ([] : List (El R)) i = 0 := cf_out (Nat.zero_le _)
theorem cf_far (p : List (El R)) : ∀ i, p.length ≤ i → cf p i = 0 := fun _ h => cf_out h
theorem cf_mulP (p q : List (El R)) : cf (mulP p q) = mulN (cf p) (cf q) p.length := by
  refine cf_tab' fun i hi => ?_
  by_cases h : p.length = 0
  · rw [h]; rfl
  · by_cases h' : q.length = 0
    · exact mulN_out (cf p) (m := 0) (fun j _ => cf_out (by omega)) _ i (fun l _ => by omega)
    · rw [plen_1 (by omega) (by omega)] at hi
      exact mulN_out (cf p) (cf_far q) _ i (fun l _ => by omega)
/-- The sum. -/
def addP (p q : List (El R)) : List (El R) := trim (tab (max p.length q.length) fun i => cf p i + cf q i)
theorem cf_addP (p q : List (El R)) : cf (addP p q) = fun i => cf p i + cf q i := by
  rw [addP, cf_trim, cf_tab' fun i hi => by rw [cf_out (by omega), cf_out (by omega), ea0]]
/-- What is left of f by the division by G, whose degree is m and whose highest coefficient has the inverse v, from x^k down. -/
def dvs (G : Nat → El R) (m : Nat) (v : El R) : Nat → (Nat → El R) → Nat → El R
  | 0, f => f
  | k + 1, f => dvs G m v k (fun i => f i + up k (-(f (k + m) * v)) G i)
/-- The quotient. -/
def dvq (G : Nat → El R) (m : Nat) (v : El R) : Nat → (Nat → El R) → Nat → El R
  | 0, _ => fun _ => 0
  | k + 1, f => fun i => if i = k then f (k + m) * v else dvq G m v k (fun i => f i + up k (-(f (k + m) * v)) G i) i
def lastE (q : List (El R)) : El R := cf q (q.length - 1)
def quoP (p q : List (El R)) : List (El R) := if p.length < q.length then [] else tab (p.length - q.length + 1) (dvq (cf q) (q.length - 1) (lastE q).inv (p.length - q.length + 1) (cf p))
def remP (p q : List (El R)) : List (El R) := if p.length < q.length then p else trim (tab p.length (dvs (cf q) (q.length - 1) (lastE q).inv (p.length - q.length + 1) (cf p)))
end
end Go.Proofs.Ythafkohopkgckaa
