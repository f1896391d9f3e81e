/-
  The errors of functions with a field, sums and negatives, told by the numbers of the field.
  No condition.
-/
import Derived.Test.YtncgeoliboidhaaFValid
namespace Go.Proofs.Ytncgeoliboidhaa
open Go.RowKit

def fsize (p k g : Int) : Int := if fieldB p k g = true then sizeI p k else 0
theorem fsize_no {p k g : Int} (h : fieldB p k g = false) : fsize p k g = 0 := by rw [fsize, h]; rfl
/-- Whether a number is an element of a field with q elements. -/
def elB (q : Nat) (a : Int) : Bool := decide (0 ≤ a ∧ a < (q : Int))
/-- The code of a field and some numbers. -/
def errC (p k g : Int) (zs : List Int) : Int := if fieldB p k g = true then (if zs.all (elB (sizeI p k).toNat) = true then 0 else 2) else 1
theorem errC_no {p k g : Int} {zs : List Int} (h : fieldB p k g = false) : errC p k g zs = 1 := by rw [errC, h]; rfl
theorem errC_is {p k g : Int} {q : Nat} {mul : Nat → Nat → Nat} {zs : List Int} (h : fieldB p k g = true) (hK : Kd p k g q mul) : errC p k g zs = if zs.all (elB q) = true then 0 else 2 := by
  rw [errC, if_pos h, hK.size, Int.toNat_natCast]
theorem fAll_no {q : Nat} {zs : List Int} {j : Nat} {x : Int} (hx : zs[j]? = some x) (h : elB q x = false) : zs.all (elB q) = false := by
  rw [List.all_eq_false]
  exact ⟨x, List.mem_of_getElem? hx, by simp [h]⟩
theorem all_snoc {q : Nat} {zs : List Int} {j : Nat} {x : Int} (ha : (zs.take j).all (elB q) = true) (hx : zs[j]? = some x) (h : elB q x = true) : (zs.take (j + 1)).all (elB q) = true := by
  rw [take_snocI hx, List.all_append, ha]
  simp [h]
/-- The sum and the negative. -/
def addF (p : Int) (q a b : Nat) : Nat := if p = 2 then a ^^^ b else (a + b) % q
def negF (p : Int) (q a : Nat) : Nat := if p = 2 then a else (q - a) % q
theorem negF_1 {q a : Nat} (h3 : 3 ≤ q) (ha : a < q) : ((negF q q a : Nat) : Int) = ((q : Int) - (a : Int)) % (q : Int) := by
  rw [negF, if_neg (by omega), Int.natCast_emod, Int.ofNat_sub (by omega)]
theorem ints_two (w : World) (e : TypeId) (k : IntKind) (x y : Int) : Ints k (w.alloc (.cells #[.int k x, .int k y] e)) (w.heap.size + 1) (some ⟨w.heap.size, 0, none⟩) 2 [x, y] := by
  refine ⟨rfl, fun _ => ⟨w.heap.size, 0, rfl, by omega, fun j v hv => ?_⟩⟩
  have hj : j < 2 := (List.getElem?_eq_some_iff.1 hv).1
  rw [World.cell?_alloc_at _ _ _ _ rfl]
  rcases (show j = 0 ∨ j = 1 by omega) with rfl | rfl
  · simp at hv; subst hv; rfl
  · simp at hv; subst hv; rfl
theorem box_two (w : World) (o : Obj) (e : TypeId) (k : IntKind) (x y : Int) : Ints k ((w.alloc o).alloc (.cells #[.int k x, .int k y] e)) (w.heap.size + 2) (some ⟨w.heap.size + 1, 0, none⟩) 2 [x, y] := by
  have h := ints_two (w.alloc o) e k x y
  rw [alloc_size] at h
  exact h
theorem box_one (w : World) (o : Obj) (e : TypeId) (k : IntKind) (x : Int) : Ints k ((w.alloc o).alloc (.cells #[.int k x] e)) (w.heap.size + 2) (some ⟨w.heap.size + 1, 0, none⟩) 1 [x] := by
  have h := ints_one (w.alloc o) e k x
  rw [alloc_size] at h
  exact h
theorem box_size (w : World) (o o' : Obj) : w.heap.size + 2 ≤ ((w.alloc o).alloc o').heap.size := by rw [alloc_size, alloc_size]; omega
/-- The results of the functions. -/
structure Elems (p k g : Int) (q : Nat) (mul : Nat → Nat → Nat) (zs : List Int) : Prop where
  kind : Kd p k g q mul
  all : ∀ x ∈ zs, 0 ≤ x ∧ x < (q : Int)
theorem errC_cases (p k g : Int) (zs : List Int) : (errC p k g zs = 1 ∧ fieldB p k g = false) ∨ (errC p k g zs = 2 ∧ fieldB p k g = true ∧ ∃ (q : Nat) (mul : Nat → Nat → Nat), Kd p k g q mul ∧ ∃ x ∈ zs, ¬ (0 ≤ x ∧ x < (q : Int))) ∨
    (errC p k g zs = 0 ∧ fieldB p k g = true ∧ ∃ (q : Nat) (mul : Nat → Nat → Nat) (γ : Nat), Kd p k g q mul ∧ 1 ≤ γ ∧ γ < q ∧ gen q mul γ = true ∧ ((p ≠ 2 ∧ k = 1 ∧ g = γ) ∨ (p = 2 ∧ 3 ≤ k ∧ γ = 2)) ∧ ∀ x ∈ zs, 0 ≤ x ∧ x < (q : Int)) := by
  rcases h : fieldB p k g with _ | _
  · exact .inl ⟨errC_no h, rfl⟩
  · obtain ⟨q, mul, γ, hK, h1, h2, h3, h4⟩ := fieldB_open h
    rw [errC_is h hK]
    rcases ha : zs.all (elB q) with _ | _
    · rw [List.all_eq_false] at ha
      obtain ⟨x, hx, hh⟩ := ha
      exact .inr (.inl ⟨rfl, rfl, q, mul, hK, x, hx, by simpa only [elB, decide_eq_true_eq] using hh⟩)
    · rw [List.all_eq_true] at ha
      exact .inr (.inr ⟨rfl, rfl, q, mul, γ, hK, h1, h2, h3, h4, fun x hx => by simpa only [elB, decide_eq_true_eq] using ha x hx⟩)

def mulF (p k g : Int) : Nat → Nat → Nat := if p = 2 then mul2 k.toNat g.toNat else mul1 p.toNat
theorem Kd.mul {p k g : Int} {q : Nat} {mul : Nat → Nat → Nat} (h : Kd p k g q mul) : mulF p k g = mul := by
  cases h with
  | one _ _ h3 h => rw [mulF, if_neg (by omega), Int.toNat_natCast]
  | two K G h3 h8 hG hG2 => rw [mulF, if_pos rfl, Int.toNat_natCast, Int.toNat_natCast]
/-- The generator by the numbers of the field. -/
def genF (p g : Int) : Nat := if p = 2 then 2 else g.toNat
theorem genF_is {p k g : Int} {γ : Nat} (h : (p ≠ 2 ∧ k = 1 ∧ g = γ) ∨ (p = 2 ∧ 3 ≤ k ∧ γ = 2)) : genF p g = γ := by
  rcases h with ⟨h1, _, rfl⟩ | ⟨h1, _, rfl⟩
  · rw [genF, if_neg h1, Int.toNat_natCast]
  · rw [genF, if_pos h1]
/-- What the functions return beside their code. -/
def fAdd (p k g a b : Int) : Int := if errC p k g [a, b] = 0 then (addF p (sizeI p k).toNat a.toNat b.toNat : Nat) else 0
def fNeg (p k g a : Int) : Int := if errC p k g [a] = 0 then (negF p (sizeI p k).toNat a.toNat : Nat) else 0
def fMul (p k g a b : Int) : Int := if errC p k g [a, b] = 0 then (mulF p k g a.toNat b.toNat : Nat) else 0
theorem fAdd_bad {p k g a b : Int} {c : Int} (h : errC p k g [a, b] = c) (hc : c ≠ 0) : fAdd p k g a b = 0 := by rw [fAdd, if_neg (by rw [h]; exact hc)]
theorem fNeg_bad {p k g a : Int} {c : Int} (h : errC p k g [a] = c) (hc : c ≠ 0) : fNeg p k g a = 0 := by rw [fNeg, if_neg (by rw [h]; exact hc)]
theorem fMul_bad {p k g a b : Int} {c : Int} (h : errC p k g [a, b] = c) (hc : c ≠ 0) : fMul p k g a b = 0 := by rw [fMul, if_neg (by rw [h]; exact hc)]
theorem fAdd_ok {p k g : Int} {a b q : Nat} {mul : Nat → Nat → Nat} (h : errC p k g [(a : Int), (b : Int)] = 0) (hK : Kd p k g q mul) : fAdd p k g a b = (addF p q a b : Nat) := by
  rw [fAdd, if_pos h, hK.size]; rfl
theorem fNeg_ok {p k g : Int} {a q : Nat} {mul : Nat → Nat → Nat} (h : errC p k g [(a : Int)] = 0) (hK : Kd p k g q mul) : fNeg p k g a = (negF p q a : Nat) := by
  rw [fNeg, if_pos h, hK.size]; rfl
theorem fMul_ok {p k g : Int} {a b q : Nat} {mul : Nat → Nat → Nat} (h : errC p k g [(a : Int), (b : Int)] = 0) (hK : Kd p k g q mul) : fMul p k g a b = (mul a b : Nat) := by
  rw [fMul, if_pos h, hK.mul]; rfl
/-- A code of two numbers: an error, or both are elements. -/
theorem err2 (p k g a b : Int) : (∃ c : Int, errC p k g [a, b] = c ∧ (c != 0) = true ∧ c ≠ 0) ∨ ∃ (x y q : Nat) (mul : Nat → Nat → Nat), errC p k g [a, b] = 0 ∧ a = x ∧ b = y ∧ x < q ∧ y < q ∧ Kd p k g q mul := by
  rcases errC_cases p k g [a, b] with ⟨h, _⟩ | ⟨h, _⟩ | ⟨h, _, q, mul, γ, hK, _, _, _, _, ha⟩
  · exact .inl ⟨1, h, rfl, by decide⟩
  · exact .inl ⟨2, h, rfl, by decide⟩
  · have h1 := ha a (by simp)
    have h2 := ha b (by simp)
    exact .inr ⟨a.toNat, b.toNat, q, mul, h, by omega, by omega, by omega, by omega, hK⟩
theorem err1 (p k g a : Int) : (∃ c : Int, errC p k g [a] = c ∧ (c != 0) = true ∧ c ≠ 0) ∨ ∃ (x q : Nat) (mul : Nat → Nat → Nat) (γ : Nat), errC p k g [a] = 0 ∧ a = x ∧ x < q ∧ Kd p k g q mul ∧ 1 ≤ γ ∧ γ < q ∧ gen q mul γ = true ∧ genF p g = γ ∧ ((p ≠ 2 ∧ k = 1 ∧ g = γ) ∨ (p = 2 ∧ 3 ≤ k ∧ γ = 2)) := by
  rcases errC_cases p k g [a] with ⟨h, _⟩ | ⟨h, _⟩ | ⟨h, _, q, mul, γ, hK, h1, h2, h3, h4, ha⟩
  · exact .inl ⟨1, h, rfl, by decide⟩
  · exact .inl ⟨2, h, rfl, by decide⟩
  · have h5 := ha a (by simp)
    exact .inr ⟨a.toNat, q, mul, γ, h, by omega, by omega, hK, h1, h2, h3, genF_is h4, h4⟩

/-- The code of an element that must not be 0. -/
def invC (p k g a : Int) : Int := if errC p k g [a] = 0 then (if a = 0 then 5 else 0) else errC p k g [a]
def powC (p k g a n : Int) : Int := if errC p k g [a] = 0 then (if 0 ≤ n ∧ n ≤ 1000000 then 0 else 2) else errC p k g [a]
/-- The logarithm: the first number of a power that is a. -/
def logF (q : Nat) (mul : Nat → Nat → Nat) (γ a : Nat) : Nat := ((List.range q).find? (fun i => pw mul γ i == a)).getD 0
def fInv (p k g a : Int) : Int := if invC p k g a = 0 then (pw (mulF p k g) a.toNat ((sizeI p k).toNat - 2) : Nat) else 0
def fPow (p k g a n : Int) : Int := if powC p k g a n = 0 then (pw (mulF p k g) a.toNat n.toNat : Nat) else 0
def fLog (p k g a : Int) : Int := if invC p k g a = 0 then (logF (sizeI p k).toNat (mulF p k g) (genF p g) a.toNat : Nat) else 0
theorem fInv_bad {p k g a c : Int} (h : invC p k g a = c) (hc : c ≠ 0) : fInv p k g a = 0 := by rw [fInv, if_neg (by rw [h]; exact hc)]
theorem fLog_bad {p k g a c : Int} (h : invC p k g a = c) (hc : c ≠ 0) : fLog p k g a = 0 := by rw [fLog, if_neg (by rw [h]; exact hc)]
theorem fPow_bad {p k g a n c : Int} (h : powC p k g a n = c) (hc : c ≠ 0) : fPow p k g a n = 0 := by rw [fPow, if_neg (by rw [h]; exact hc)]
theorem fInv_ok {p k g : Int} {a q : Nat} {mul : Nat → Nat → Nat} (h : invC p k g a = 0) (hK : Kd p k g q mul) : fInv p k g a = (pw mul a (q - 2) : Nat) := by
  rw [fInv, if_pos h, hK.mul, hK.size]; rfl
theorem fPow_ok {p k g : Int} {a n q : Nat} {mul : Nat → Nat → Nat} (h : powC p k g a n = 0) (hK : Kd p k g q mul) : fPow p k g a n = (pw mul a n : Nat) := by
  rw [fPow, if_pos h, hK.mul]; rfl
theorem logF_is {q : Nat} {mul : Nat → Nat → Nat} (M : Mon q mul) {γ : Nat} (hγ : γ < q) (hg : gen q mul γ = true) {a l : Nat} (hl : l < q - 1) (ha : pw mul γ l = a) : logF q mul γ a = l := by
  rw [logF, find_at (i := l) (by omega) (by rw [ha]; simp)]
  · rfl
  · intro j hj
    have := gen_inj M hγ hg (show j < q - 1 by omega) hl hj
    rw [ha] at this
    simpa using this
theorem fLog_ok {p k g : Int} {a q γ : Nat} {mul : Nat → Nat → Nat} (h : invC p k g a = 0) (hK : Kd p k g q mul) (hG : genF p g = γ) : fLog p k g a = (logF q mul γ a : Nat) := by
  rw [fLog, if_pos h, hK.mul, hK.size, hG]; rfl
theorem invC_bad {p k g a c : Int} (h : errC p k g [a] = c) (hc : c ≠ 0) : invC p k g a = c := by rw [invC, if_neg (by rw [h]; exact hc), h]
theorem invC_zero {p k g : Int} (h : errC p k g [0] = 0) : invC p k g 0 = 5 := by rw [invC, if_pos h, if_pos rfl]
theorem invC_ok {p k g a : Int} (h : errC p k g [a] = 0) (ha : a ≠ 0) : invC p k g a = 0 := by rw [invC, if_pos h, if_neg ha]
theorem powC_bad {p k g a n c : Int} (h : errC p k g [a] = c) (hc : c ≠ 0) : powC p k g a n = c := by rw [powC, if_neg (by rw [h]; exact hc), h]
theorem powC_out {p k g a n : Int} (h : errC p k g [a] = 0) (hn : ¬ (0 ≤ n ∧ n ≤ 1000000)) : powC p k g a n = 2 := by rw [powC, if_pos h, if_neg hn]
theorem powC_ok {p k g a n : Int} (h : errC p k g [a] = 0) (hn : 0 ≤ n ∧ n ≤ 1000000) : powC p k g a n = 0 := by rw [powC, if_pos h, if_pos hn]
end Go.Proofs.Ytncgeoliboidhaa
