/-
  Finite fields by their laws, and coefficients of polynomials over them: sums, products, values.
  Values, products, quotients and common divisors of polynomials, as the program and the model reckon them.
  Values of products, quotients and remainders, roots, and polynomials by their values.
  Common divisors, and multiples of polynomials.
  Condition: as each statement says.
-/
import Derived.Test.YtncgeoliboidhaaGreatVA
namespace Go.Proofs.YtncgeoliboidhaaGreat

/-- A finite field, by what is reckoned in it. -/
structure Fld where
  q : Nat
  add : Nat → Nat → Nat
  neg : Nat → Nat
  mul : Nat → Nat → Nat
  inv : Nat → Nat
  three : 3 ≤ q
  addC : ∀ a b, a < q → b < q → add a b < q
  negC : ∀ a, a < q → neg a < q
  mulC : ∀ a b, a < q → b < q → mul a b < q
  invC : ∀ a, a < q → inv a < q
  addComm : ∀ a b, a < q → b < q → add a b = add b a
  addAssoc : ∀ a b c, a < q → b < q → c < q → add (add a b) c = add a (add b c)
  addZero : ∀ a, a < q → add a 0 = a
  addNeg : ∀ a, a < q → add a (neg a) = 0
  mulComm : ∀ a b, a < q → b < q → mul a b = mul b a
  mulAssoc : ∀ a b c, a < q → b < q → c < q → mul (mul a b) c = mul a (mul b c)
  mulOne : ∀ a, a < q → mul a 1 = a
  dist : ∀ a b c, a < q → b < q → c < q → mul a (add b c) = add (mul a b) (mul a c)
  invMul : ∀ a, a < q → a ≠ 0 → mul a (inv a) = 1

/-- An element of a field. -/
structure El (R : Fld) where
  val : Nat
  lt : val < R.q

section
variable {R : Fld}
theorem El.eq {a b : El R} (h : a.val = b.val) : a = b := by cases a; cases b; simp only at h; subst h; rfl
instance : DecidableEq (El R) := fun a b => if h : a.val = b.val then isTrue (El.eq h) else isFalse (fun e => h (by rw [e]))
instance : Add (El R) := ⟨fun a b => ⟨R.add a.val b.val, R.addC _ _ a.lt b.lt⟩⟩
instance : Mul (El R) := ⟨fun a b => ⟨R.mul a.val b.val, R.mulC _ _ a.lt b.lt⟩⟩
instance : Neg (El R) := ⟨fun a => ⟨R.neg a.val, R.negC _ a.lt⟩⟩
instance : Zero (El R) := ⟨⟨0, by have := R.three; omega⟩⟩
instance : One (El R) := ⟨⟨1, by have := R.three; omega⟩⟩
def El.inv (a : El R) : El R := ⟨R.inv a.val, R.invC _ a.lt⟩
theorem val_add (a b : El R) : (a + b).val = R.add a.val b.val := rfl
theorem val_mul (a b : El R) : (a * b).val = R.mul a.val b.val := rfl
theorem val_neg (a : El R) : (-a).val = R.neg a.val := rfl
theorem val_zero : (0 : El R).val = 0 := rfl
theorem val_one : (1 : El R).val = 1 := rfl
theorem val_inv (a : El R) : a.inv.val = R.inv a.val := rfl
theorem val_ne {a : El R} (h : a ≠ 0) : a.val ≠ 0 := fun e => h (El.eq e)

theorem eac (a b : El R) : a + b = b + a := El.eq (R.addComm _ _ a.lt b.lt)
theorem eaa (a b c : El R) : a + b + c = a + (b + c) := El.eq (R.addAssoc _ _ _ a.lt b.lt c.lt)
theorem eal (a b c : El R) : a + (b + c) = b + (a + c) := by rw [← eaa, eac a b, eaa]
theorem ea0 (a : El R) : a + 0 = a := El.eq (R.addZero _ a.lt)
theorem e0a (a : El R) : 0 + a = a := by rw [eac, ea0]
theorem ean (a : El R) : a + -a = 0 := El.eq (R.addNeg _ a.lt)
theorem ena (a : El R) : -a + a = 0 := by rw [eac, ean]
theorem emc (a b : El R) : a * b = b * a := El.eq (R.mulComm _ _ a.lt b.lt)
theorem ema (a b c : El R) : a * b * c = a * (b * c) := El.eq (R.mulAssoc _ _ _ a.lt b.lt c.lt)
theorem eml (a b c : El R) : a * (b * c) = b * (a * c) := by rw [← ema, emc a b, ema]
theorem em1 (a : El R) : a * 1 = a := El.eq (R.mulOne _ a.lt)
theorem e1m (a : El R) : 1 * a = a := by rw [emc, em1]
theorem edl (a b c : El R) : a * (b + c) = a * b + a * c := El.eq (R.dist _ _ _ a.lt b.lt c.lt)
theorem edr (a b c : El R) : (a + b) * c = a * c + b * c := by rw [emc, edl, emc c a, emc c b]
theorem eadd_left {a b c : El R} (h : a + b = a + c) : b = c := by
  have h1 : -a + (a + b) = -a + (a + c) := by rw [h]
  rwa [← eaa, ← eaa, ena, e0a, e0a] at h1
theorem em0 (a : El R) : a * 0 = 0 := by
  have h : a * 0 + a * 0 = a * 0 + 0 := by rw [← edl, ea0, ea0]
  exact eadd_left h
theorem e0m (a : El R) : 0 * a = 0 := by rw [emc, em0]
theorem eneg_of {a b : El R} (h : a + b = 0) : b = -a := eadd_left (a := a) (by rw [h, ean])
theorem enm (a b : El R) : -a * b = -(a * b) := eneg_of (by rw [← edr, ean, e0m])
theorem emn (a b : El R) : a * -b = -(a * b) := by rw [emc, enm, emc]
theorem enn (a : El R) : - -a = a := (eneg_of (ena a)).symm
theorem en0 : -(0 : El R) = 0 := (eneg_of (ea0 0)).symm
theorem enadd (a b : El R) : -(a + b) = -a + -b := (eneg_of (by rw [eaa, eal b, ean, ea0, ean])).symm
theorem einv {a : El R} (h : a ≠ 0) : a * a.inv = 1 := El.eq (R.invMul _ a.lt (val_ne h))
theorem e10 : (1 : El R) ≠ 0 := fun h => by
  have : (1 : El R).val = (0 : El R).val := by rw [h]
  rw [val_one, val_zero] at this
  omega
theorem emul_ne {a b : El R} (ha : a ≠ 0) (hb : b ≠ 0) : a * b ≠ 0 := fun h => hb (by
  have h1 : a.inv * (a * b) = a.inv * 0 := by rw [h]
  rwa [← ema, emc _ a, einv ha, e1m, em0] at h1)
theorem einv_ne {a : El R} (ha : a ≠ 0) : a.inv ≠ 0 := fun h => by
  have := einv ha
  rw [h, em0] at this
  exact e10 this.symm
theorem esub {a b : El R} (h : a + -b = 0) : a = b := by
  have h1 : a + -b + b = 0 + b := by rw [h]
  rwa [eaa, ena, ea0, e0a] at h1
theorem esub_ne {a b : El R} (h : a ≠ b) : a + -b ≠ 0 := fun e => h (esub e)
theorem eswap (a b c d : El R) : a + b + (c + d) = a + c + (b + d) := by rw [eaa, eaa, eal b]

/-! Coefficients. -/
/-- The coefficients of a list. -/
def cf (p : List (El R)) (i : Nat) : El R := p.getD i 0
/-- The first n coefficients. -/
def tab (n : Nat) (f : Nat → El R) : List (El R) := (List.range n).map f
theorem cf_out {p : List (El R)} {i : Nat} (h : p.length ≤ i) : cf p i = 0 := by unfold cf; rw [List.getD_eq_getElem?_getD, List.getElem?_eq_none h]; rfl
theorem cf_at {p : List (El R)} {i : Nat} {x : El R} (h : p[i]? = some x) : cf p i = x := by unfold cf; rw [List.getD_eq_getElem?_getD, h]; rfl
theorem at_cf {p : List (El R)} {i : Nat} (h : i < p.length) : p[i]? = some (cf p i) := by
  rw [List.getElem?_eq_getElem h]; exact congrArg some (cf_at (List.getElem?_eq_getElem h)).symm
theorem tab_len (n : Nat) (f : Nat → El R) : (tab n f).length = n := by simp [tab]
theorem tab_at {n i : Nat} (f : Nat → El R) (h : i < n) : (tab n f)[i]? = some (f i) := by simp [tab, h]
theorem cf_tab {n : Nat} {f : Nat → El R} (i : Nat) : cf (tab n f) i = if i < n then f i else 0 := by
  split
  · exact cf_at (tab_at f (by assumption))
  · exact cf_out (by rw [tab_len]; omega)
theorem cf_tab' {n : Nat} {f : Nat → El R} (h : ∀ i, n ≤ i → f i = 0) : cf (tab n f) = f := by
  funext i
  rw [cf_tab]
  split
  · rfl
  · exact (h i (by omega)).symm
theorem tab_congr {n : Nat} {f g : Nat → El R} (h : ∀ i, i < n → f i = g i) : tab n f = tab n g := by
  unfold tab
  exact List.map_congr_left fun i hi => h i (List.mem_range.1 hi)
theorem tab_cf (p : List (El R)) : tab p.length (cf p) = p := by
  refine List.ext_getElem? fun i => ?_
  rcases Nat.lt_or_ge i p.length with h | h
  · rw [tab_at _ h, at_cf h]
  · rw [List.getElem?_eq_none (by rw [tab_len]; exact h), List.getElem?_eq_none h]
theorem tab_set {n j : Nat} (f : Nat → El R) (x : El R) : (tab n f).set j x = tab n (fun i => if i = j then x else f i) := by
  refine List.ext_getElem? fun i => ?_
  rw [List.getElem?_set]
  rcases Nat.lt_or_ge i n with h | h
  · by_cases hj : j = i
    · subst hj; rw [if_pos rfl, if_pos (by rw [tab_len]; exact h), tab_at _ h, if_pos rfl]
    · rw [if_neg hj, tab_at _ h, tab_at _ h, if_neg (Ne.symm hj)]
  · rw [List.getElem?_eq_none (by rw [tab_len]; exact h), List.getElem?_eq_none (by rw [tab_len]; exact h)]
    split <;> simp_all [tab_len]
theorem tab_snoc (n : Nat) (f : Nat → El R) : tab (n + 1) f = tab n f ++ [f n] := by simp [tab, List.range_succ]

/-- Without zeros at the end. -/
def Tr (p : List (El R)) : Prop := ∀ i, i + 1 = p.length → cf p i ≠ 0
def trim (p : List (El R)) : List (El R) := (p.reverse.dropWhile (fun a => decide (a = 0))).reverse
theorem trim_nil : trim ([] : List (El R)) = [] := rfl
theorem trim_zero (p : List (El R)) : trim (p ++ [0]) = trim p := by simp [trim]
theorem trim_more (p : List (El R)) {a : El R} (h : a ≠ 0) : trim (p ++ [a]) = p ++ [a] := by simp [trim, h]
theorem snoc_or (p : List (El R)) : p = [] ∨ ∃ p' a, p = p' ++ [a] := by
  rcases List.eq_nil_or_concat p with h | ⟨p', a, h⟩
  · exact .inl h
  · exact .inr ⟨p', a, by simpa using h⟩
theorem cf_snoc (p : List (El R)) (a : El R) : cf (p ++ [a]) p.length = a := cf_at (by simp)
theorem cf_left {p : List (El R)} {a : El R} {i : Nat} (h : i < p.length) : cf (p ++ [a]) i = cf p i := by
  unfold cf; simp only [List.getD_eq_getElem?_getD]; rw [List.getElem?_append_left h]
theorem cf_zero (p : List (El R)) : cf (p ++ [0]) = cf p := by
  funext i
  rcases Nat.lt_trichotomy i p.length with h | h | h
  · exact cf_left h
  · subst h; rw [cf_snoc, cf_out (Nat.le_refl _)]
  · rw [cf_out (by simp; omega), cf_out (by omega)]
theorem trim_facts : ∀ (n : Nat) (p : List (El R)), p.length = n → cf (trim p) = cf p ∧ Tr (trim p) ∧ (trim p).length ≤ p.length
  | 0, p, h => by
    obtain rfl := List.eq_nil_of_length_eq_zero h
    exact ⟨rfl, fun i hi => by simp [trim_nil] at hi, Nat.le_refl _⟩
  | n + 1, p, h => by
    rcases snoc_or p with rfl | ⟨p', a, rfl⟩
    · simp at h
    · by_cases ha : a = 0
      · subst ha
        have ih := trim_facts n p' (by simpa using h)
        rw [trim_zero, cf_zero]
        exact ⟨ih.1, ih.2.1, by have := ih.2.2; simp; omega⟩
      · rw [trim_more _ ha]
        refine ⟨rfl, fun i hi => ?_, Nat.le_refl _⟩
        obtain rfl : i = p'.length := by simpa using hi
        rw [cf_snoc]; exact ha
theorem cf_trim (p : List (El R)) : cf (trim p) = cf p := (trim_facts _ p rfl).1
theorem tr_trim (p : List (El R)) : Tr (trim p) := (trim_facts _ p rfl).2.1
theorem trim_le (p : List (El R)) : (trim p).length ≤ p.length := (trim_facts _ p rfl).2.2
theorem tr_ext {p q : List (El R)} (hp : Tr p) (hq : Tr q) (h : cf p = cf q) : p = q := by
  have hl : p.length = q.length := by
    rcases Nat.lt_trichotomy p.length q.length with h1 | h1 | h1
    · exact absurd (by rw [← h]; exact cf_out (by omega)) (hq (q.length - 1) (by omega))
    · exact h1
    · exact absurd (by rw [h]; exact cf_out (by omega)) (hp (p.length - 1) (by omega))
  rw [← tab_cf p, ← tab_cf q, hl, h]
theorem trim_id {p : List (El R)} (h : Tr p) : trim p = p := tr_ext (tr_trim p) h (cf_trim p)
theorem tr_nil : Tr ([] : List (El R)) := fun i hi => by simp at hi
theorem trim_of {p q : List (El R)} (h : cf p = cf q) (hq : Tr q) : trim p = q := tr_ext (tr_trim p) hq (by rw [cf_trim, h])
theorem trim_eq {p q : List (El R)} (h : cf p = cf q) : trim p = trim q := tr_ext (tr_trim p) (tr_trim q) (by rw [cf_trim, cf_trim, h])
theorem tr_len {p : List (El R)} (hp : Tr p) {n : Nat} (h : ∀ i, n ≤ i → cf p i = 0) : p.length ≤ n := by
  rcases Nat.lt_or_ge n p.length with h1 | h1
  · exact absurd (h (p.length - 1) (by omega)) (hp _ (by omega))
  · exact h1
theorem nil_of {p : List (El R)} (hp : Tr p) (h : ∀ i, cf p i = 0) : p = [] :=
  List.eq_nil_of_length_eq_zero (Nat.le_zero.1 (tr_len hp (n := 0) fun i _ => h i))

/-- A multiple of f, moved up by s. -/
def up (s : Nat) (a : El R) (f : Nat → El R) (i : Nat) : El R := if s ≤ i then a * f (i - s) else 0
theorem up_lt {s i : Nat} {a : El R} {f : Nat → El R} (h : i < s) : up s a f i = 0 := if_neg (by omega)
theorem up_add (s i : Nat) (a : El R) (f : Nat → El R) : up s a f (s + i) = a * f i := by
  unfold up; rw [if_pos (by omega), Nat.add_sub_cancel_left]
theorem up_out {s m i : Nat} {a : El R} {f : Nat → El R} (hf : ∀ i, m ≤ i → f i = 0) (h : s + m ≤ i) : up s a f i = 0 := by
  unfold up; split
  · rw [hf _ (by omega), em0]
  · rfl
theorem up_zero (s : Nat) (f : Nat → El R) (i : Nat) : up s 0 f i = 0 := by unfold up; split <;> simp [e0m]
/-- A product, with the first n coefficients of a. -/
def mulN (a f : Nat → El R) : Nat → Nat → El R
  | 0 => fun _ => 0
  | n + 1 => fun i => mulN a f n i + up n (a n) f i
theorem mulN_out (a : Nat → El R) {f : Nat → El R} {m : Nat} (hf : ∀ i, m ≤ i → f i = 0) (n i : Nat) (h : ∀ l, l < n → l + m ≤ i ∨ i < l) : mulN a f n i = 0 := by
  induction n with
  | zero => rfl
  | succ n ih =>
    show mulN a f n i + up n (a n) f i = 0
    rw [ih (fun l hl => h l (by omega)), e0a]
    rcases h n (by omega) with h1 | h1
    · exact up_out hf h1
    · exact up_lt h1
theorem mulN_congr {a b f : Nat → El R} (n : Nat) (h : ∀ i, i < n → a i = b i) : mulN a f n = mulN b f n := by
  induction n with
  | zero => rfl
  | succ n ih =>
    funext i
    show mulN a f n i + _ = mulN b f n i + _
    rw [ih (fun i hi => h i (by omega)), h n (by omega)]
theorem mulN_stop {a f : Nat → El R} {n : Nat} (h : ∀ i, n ≤ i → a i = 0) (m : Nat) (hm : n ≤ m) : mulN a f m = mulN a f n := by
  obtain ⟨d, rfl⟩ := Nat.exists_eq_add_of_le hm
  induction d with
  | zero => rfl
  | succ d ih =>
    funext i
    show mulN a f (n + d) i + up (n + d) (a (n + d)) f i = _
    rw [h (n + d) (by omega), up_zero, ea0, ih (by omega)]
/-- The highest coefficient of a product. -/
theorem mulN_top (a : Nat → El R) {f : Nat → El R} {m : Nat} (hf : ∀ i, m + 1 ≤ i → f i = 0) (n : Nat) : mulN a f (n + 1) (n + m) = a n * f m := by
  show mulN a f n (n + m) + up n (a n) f (n + m) = _
  rw [mulN_out a hf n (n + m) (fun l hl => by omega), up_add, e0a]
theorem mulN_addL (a b f : Nat → El R) (n i : Nat) : mulN (fun j => a j + b j) f n i = mulN a f n i + mulN b f n i := by
  induction n with
  | zero => exact (ea0 0).symm
  | succ n ih =>
    show mulN (fun j => a j + b j) f n i + up n (a n + b n) f i = (mulN a f n i + up n (a n) f i) + (mulN b f n i + up n (b n) f i)
    rw [ih, eswap]
    congr 1
    unfold up; split
    · rw [edr]
    · rw [ea0]
theorem mulN_mulL (c : El R) (a f : Nat → El R) (n i : Nat) : mulN (fun j => c * a j) f n i = c * mulN a f n i := by
  induction n with
  | zero => exact (em0 c).symm
  | succ n ih =>
    show mulN (fun j => c * a j) f n i + up n (c * a n) f i = c * (mulN a f n i + up n (a n) f i)
    rw [ih, edl]
    congr 1
    unfold up; split
    · rw [ema]
    · rw [em0]
theorem mulN_negL (a f : Nat → El R) (n i : Nat) : mulN (fun j => -(a j)) f n i = -(mulN a f n i) := by
  induction n with
  | zero => exact en0.symm
  | succ n ih =>
    show mulN (fun j => -(a j)) f n i + up n (-(a n)) f i = -(mulN a f n i + up n (a n) f i)
    rw [ih, enadd]
    congr 1
    unfold up; split
    · rw [enm]
    · rw [en0]
/-- A product moved up. -/
theorem mulN_up (s : Nat) (a f : Nat → El R) (n : Nat) : mulN (up s 1 a) f (s + n) = up s 1 (mulN a f n) := by
  induction n with
  | zero =>
    have h0 : mulN (up s 1 a) f s = mulN (fun _ => (0 : El R)) f s := mulN_congr s fun i hi => up_lt hi
    have h1 : mulN (fun _ => (0 : El R)) f s = mulN (fun _ => (0 : El R)) f 0 := mulN_stop (fun _ _ => rfl) s (by omega)
    rw [Nat.add_zero, h0, h1]
    funext i
    show (0 : El R) = up s 1 (fun _ => 0) i
    unfold up; split
    · rw [em0]
    · rfl
  | succ n ih =>
    funext i
    show mulN (up s 1 a) f (s + n) i + up (s + n) (up s 1 a (s + n)) f i = _
    rw [ih, up_add, e1m]
    unfold up
    show _ = if s ≤ i then 1 * (mulN a f n (i - s) + up n (a n) f (i - s)) else 0
    by_cases h : s ≤ i
    · rw [if_pos h, if_pos h, edl, e1m, e1m]
      congr 1
      unfold up
      by_cases h2 : s + n ≤ i
      · rw [if_pos h2, if_pos (by omega), Nat.sub_add_eq]
      · rw [if_neg h2, if_neg (by omega)]
    · rw [if_neg h, if_neg h, if_neg (by omega), ea0]
end
end Go.Proofs.YtncgeoliboidhaaGreat

namespace Go.Proofs.YtncgeoliboidhaaGreat
section
variable {R : Fld}
/-- The value of a polynomial. -/
def ev (x : El R) : List (El R) → El R
  | [] => 0
  | a :: p => ev x p * x + a
theorem ev_drop {x : El R} {p : List (El R)} {j : Nat} (hj : j < p.length) : ev x (p.drop j) = ev x (p.drop (j + 1)) * x + cf p j := by
  rw [List.drop_eq_getElem_cons hj]
  show _ * x + p[j] = _
  rw [cf_at (List.getElem?_eq_getElem hj)]

/-- How many coefficients a product has. -/
def plen (p q : List (El R)) : Nat := if p.length = 0 ∨ q.length = 0 then 0 else p.length + q.length - 1
theorem plen_0 {p q : List (El R)} (h : p.length = 0 ∨ q.length = 0) : plen p q = 0 := if_pos h
theorem plen_1 {p q : List (El R)} (h : 0 < p.length) (h' : 0 < q.length) : plen p q = p.length + q.length - 1 := if_neg (by omega)
/-- The product. -/
def mulP (p q : List (El R)) : List (El R) := tab (plen p q) (mulN (cf p) (cf q) p.length)
theorem cf_nil (i : Nat) : cf ([] : List (El R)) i = 0 := cf_out (Nat.zero_le _)
theorem cf_far (p : List (El R)) : ∀ i, p.length ≤ i → cf p i = 0 := fun _ h => cf_out h
theorem cf_mulP (p q : List (El R)) : cf (mulP p q) = mulN (cf p) (cf q) p.length := by
  refine cf_tab' fun i hi => ?_
  by_cases h : p.length = 0
  · rw [h]; rfl
  · by_cases h' : q.length = 0
    · exact mulN_out (cf p) (m := 0) (fun j _ => cf_out (by omega)) _ i (fun l _ => by omega)
    · rw [plen_1 (by omega) (by omega)] at hi
      exact mulN_out (cf p) (cf_far q) _ i (fun l _ => by omega)
/-- The sum. -/
def addP (p q : List (El R)) : List (El R) := trim (tab (max p.length q.length) fun i => cf p i + cf q i)
theorem cf_addP (p q : List (El R)) : cf (addP p q) = fun i => cf p i + cf q i := by
  rw [addP, cf_trim, cf_tab' fun i hi => by rw [cf_out (by omega), cf_out (by omega), ea0]]
/-- What is left of f by the division by G, whose degree is m and whose highest coefficient has the inverse v, from x^k down. -/
def dvs (G : Nat → El R) (m : Nat) (v : El R) : Nat → (Nat → El R) → Nat → El R
  | 0, f => f
  | k + 1, f => dvs G m v k (fun i => f i + up k (-(f (k + m) * v)) G i)
/-- The quotient. -/
def dvq (G : Nat → El R) (m : Nat) (v : El R) : Nat → (Nat → El R) → Nat → El R
  | 0, _ => fun _ => 0
  | k + 1, f => fun i => if i = k then f (k + m) * v else dvq G m v k (fun i => f i + up k (-(f (k + m) * v)) G i) i
def lastE (q : List (El R)) : El R := cf q (q.length - 1)
def quoP (p q : List (El R)) : List (El R) := if p.length < q.length then [] else tab (p.length - q.length + 1) (dvq (cf q) (q.length - 1) (lastE q).inv (p.length - q.length + 1) (cf p))
def remP (p q : List (El R)) : List (El R) := if p.length < q.length then p else trim (tab p.length (dvs (cf q) (q.length - 1) (lastE q).inv (p.length - q.length + 1) (cf p)))
end
end Go.Proofs.YtncgeoliboidhaaGreat

namespace Go.Proofs.YtncgeoliboidhaaGreat
section
variable {R : Fld}
def epw (x : El R) : Nat → El R
  | 0 => 1
  | n + 1 => epw x n * x
theorem epw_add (x : El R) (s n : Nat) : epw x (s + n) = epw x s * epw x n := by
  induction n with
  | zero => exact (em1 _).symm
  | succ n ih => show epw x (s + n) * x = epw x s * (epw x n * x); rw [ih, ema]
/-- The value of the first n coefficients. -/
def evN (x : El R) (f : Nat → El R) : Nat → El R
  | 0 => 0
  | n + 1 => evN x f n + f n * epw x n
theorem evN_congr {x : El R} {f g : Nat → El R} (n : Nat) (h : ∀ i, i < n → f i = g i) : evN x f n = evN x g n := by
  induction n with
  | zero => rfl
  | succ n ih =>
    show evN x f n + f n * _ = evN x g n + g n * _
    rw [ih (fun i hi => h i (by omega)), h n (by omega)]
theorem evN_null (x : El R) (n : Nat) : evN x (fun _ => 0) n = 0 := by
  induction n with
  | zero => rfl
  | succ n ih => show evN x (fun _ => 0) n + 0 * _ = 0; rw [ih, e0m, ea0]
theorem evN_zero {x : El R} {f : Nat → El R} (n : Nat) (h : ∀ i, i < n → f i = 0) : evN x f n = 0 := by
  rw [evN_congr (g := fun _ => 0) n h, evN_null]
theorem evN_stop {x : El R} {f : Nat → El R} {n : Nat} (h : ∀ i, n ≤ i → f i = 0) (m : Nat) (hm : n ≤ m) : evN x f m = evN x f n := by
  obtain ⟨d, rfl⟩ := Nat.exists_eq_add_of_le hm
  induction d with
  | zero => rfl
  | succ d ih =>
    show evN x f (n + d) + f (n + d) * _ = _
    rw [h (n + d) (by omega), e0m, ea0, ih (by omega)]
theorem evN_add (x : El R) (f g : Nat → El R) (n : Nat) : evN x (fun i => f i + g i) n = evN x f n + evN x g n := by
  induction n with
  | zero => exact (ea0 0).symm
  | succ n ih =>
    show evN x (fun i => f i + g i) n + (f n + g n) * _ = (evN x f n + f n * _) + (evN x g n + g n * _)
    rw [ih, edr, eswap]
theorem evN_mul (x c : El R) (f : Nat → El R) (n : Nat) : evN x (fun i => c * f i) n = c * evN x f n := by
  induction n with
  | zero => exact (em0 c).symm
  | succ n ih =>
    show evN x (fun i => c * f i) n + (c * f n) * _ = c * (evN x f n + f n * _)
    rw [ih, edl, ema]
theorem evN_neg (x : El R) (f : Nat → El R) (n : Nat) : evN x (fun i => -(f i)) n = -(evN x f n) := by
  induction n with
  | zero => exact en0.symm
  | succ n ih =>
    show evN x (fun i => -(f i)) n + (-(f n)) * _ = -(evN x f n + f n * _)
    rw [ih, enadd, enm]
theorem evN_up (x a : El R) (s : Nat) (f : Nat → El R) (n : Nat) : evN x (up s a f) (s + n) = a * epw x s * evN x f n := by
  induction n with
  | zero => rw [Nat.add_zero, evN_zero s (fun i hi => up_lt hi)]; exact (em0 _).symm
  | succ n ih =>
    show evN x (up s a f) (s + n) + up s a f (s + n) * epw x (s + n) = a * epw x s * (evN x f n + f n * epw x n)
    rw [ih, up_add, epw_add, edl]
    congr 1
    rw [ema, ema, eml (f n)]
theorem mulN_far (a : Nat → El R) {f : Nat → El R} {m : Nat} (hf : ∀ i, m ≤ i → f i = 0) (n i : Nat) (h : n + m ≤ i) : mulN a f n i = 0 :=
  mulN_out a hf n i (fun l hl => by omega)
theorem evN_mulN (x : El R) (a : Nat → El R) {f : Nat → El R} {m : Nat} (hf : ∀ i, m ≤ i → f i = 0) (n : Nat) : evN x (mulN a f n) (n + m) = evN x a n * evN x f m := by
  induction n with
  | zero => exact (evN_null x (0 + m)).trans (e0m _).symm
  | succ n ih =>
    show evN x (fun i => mulN a f n i + up n (a n) f i) (n + 1 + m) = (evN x a n + a n * epw x n) * evN x f m
    rw [evN_add, evN_stop (n := n + m) (fun i hi => mulN_far a hf n i hi) (n + 1 + m) (by omega), ih,
      evN_stop (n := n + m) (fun i hi => up_out hf hi) (n + 1 + m) (by omega), evN_up, edr]

theorem evN_shift (x : El R) (f : Nat → El R) (n : Nat) : evN x f (n + 1) = evN x (fun i => f (i + 1)) n * x + f 0 := by
  induction n with
  | zero => show 0 + f 0 * 1 = 0 * x + f 0; rw [em1, e0m]
  | succ n ih =>
    have h1 : evN x f (n + 1 + 1) = evN x f (n + 1) + f (n + 1) * (epw x n * x) := rfl
    have h2 : evN x (fun i => f (i + 1)) (n + 1) = evN x (fun i => f (i + 1)) n + f (n + 1) * epw x n := rfl
    rw [h1, ih, h2, edr, ema, eaa, eaa, eac (f 0)]
theorem cf_cons (a : El R) (p : List (El R)) : (fun i => cf (a :: p) (i + 1)) = cf p := by
  funext i; unfold cf; simp
theorem ev_is (x : El R) : ∀ p : List (El R), ev x p = evN x (cf p) p.length
  | [] => rfl
  | a :: p => by
    show ev x p * x + a = evN x (cf (a :: p)) (p.length + 1)
    rw [evN_shift, cf_cons, ev_is x p]; rfl
theorem ev_far {x : El R} {p : List (El R)} {n : Nat} (h : p.length ≤ n) : ev x p = evN x (cf p) n := by
  rw [ev_is, evN_stop (cf_far p) n h]
theorem ev_of {x : El R} {p : List (El R)} {n : Nat} {f : Nat → El R} (h : cf p = f) (hf : ∀ i, n ≤ i → f i = 0) : ev x p = evN x f n := by
  subst h
  rcases Nat.le_total p.length n with h1 | h1
  · exact ev_far h1
  · rw [ev_is, evN_stop hf _ h1]
theorem ev_mul (x : El R) (p q : List (El R)) : ev x (mulP p q) = ev x p * ev x q := by
  rw [ev_of (cf_mulP p q) (fun i hi => mulN_far (cf p) (cf_far q) p.length i hi), evN_mulN x _ (cf_far q), ← ev_is, ← ev_is]
theorem ev_add (x : El R) (p q : List (El R)) : ev x (addP p q) = ev x p + ev x q := by
  rw [ev_of (n := max p.length q.length) (cf_addP p q) (fun i hi => by rw [cf_out (by omega), cf_out (by omega), ea0]), evN_add, ← ev_far (by omega), ← ev_far (by omega)]

/-! Division. -/
theorem up_neg (s : Nat) (a : El R) (f : Nat → El R) (i : Nat) : up s (-a) f i + up s a f i = 0 := by
  unfold up; split
  · rw [enm, ena]
  · exact ea0 0
theorem dv_sum (G : Nat → El R) (m : Nat) (v : El R) : ∀ (K : Nat) (f : Nat → El R) (i : Nat), f i = mulN (dvq G m v K f) G K i + dvs G m v K f i
  | 0, f, i => (e0a _).symm
  | K + 1, f, i => by
    have h1 : mulN (dvq G m v (K + 1) f) G (K + 1) i = mulN (dvq G m v (K + 1) f) G K i + up K (dvq G m v (K + 1) f K) G i := rfl
    have h2 : mulN (dvq G m v (K + 1) f) G K = mulN (dvq G m v K (fun i => f i + up K (-(f (K + m) * v)) G i)) G K := by
      refine mulN_congr K fun l hl => ?_
      show (if l = K then _ else _) = _
      rw [if_neg (by omega)]
    have h3 : dvq G m v (K + 1) f K = f (K + m) * v := if_pos rfl
    have h4 := dv_sum G m v K (fun i => f i + up K (-(f (K + m) * v)) G i) i
    have h5 : dvs G m v (K + 1) f i = dvs G m v K (fun i => f i + up K (-(f (K + m) * v)) G i) i := rfl
    rw [h1, h2, h3, h5, eaa, eac (up K _ G i), ← eaa, ← h4, eaa, up_neg, ea0]
theorem dvs_far {G : Nat → El R} {m : Nat} {v : El R} (hG : ∀ i, m + 1 ≤ i → G i = 0) (hv : G m * v = 1) : ∀ (K : Nat) (f : Nat → El R), (∀ i, K + m ≤ i → f i = 0) → ∀ i, m ≤ i → dvs G m v K f i = 0
  | 0, f, hf, i, hi => hf i (by omega)
  | K + 1, f, hf, i, hi => by
    refine dvs_far hG hv K _ (fun j hj => ?_) i hi
    rcases Nat.eq_or_lt_of_le hj with h | h
    · subst h
      rw [up_add, enm, ema, emc v, hv, em1, ean]
    · rw [hf j (by omega), e0a]
      unfold up; split
      · rw [hG _ (by omega), em0]
      · rfl
/-- A polynomial whose product with G is short is 0. -/
theorem mul_short {G : Nat → El R} {m : Nat} (hG : ∀ i, m + 1 ≤ i → G i = 0) (h0 : G m ≠ 0) : ∀ (N : Nat) (D : Nat → El R), (∀ i, N ≤ i → D i = 0) → (∀ i, m ≤ i → mulN D G N i = 0) → ∀ i, D i = 0
  | 0, D, hD, _, i => hD i (by omega)
  | N + 1, D, hD, hM, i => by
    have h1 := hM (N + m) (by omega)
    rw [mulN_top D hG N] at h1
    have h2 : D N = 0 := Classical.byContradiction fun h => emul_ne h h0 h1
    have h3 : ∀ i, N ≤ i → D i = 0 := fun i hi => by
      rcases Nat.eq_or_lt_of_le hi with h | h
      · rw [← h]; exact h2
      · exact hD i (by omega)
    refine mul_short hG h0 N D h3 (fun i hi => ?_) i
    rw [← mulN_stop h3 (N + 1) (by omega)]
    exact hM i hi

section
variable {p q : List (El R)}
theorem last_ne (hq : Tr q) (h : 0 < q.length) : lastE q ≠ 0 := hq (q.length - 1) (by omega)
theorem last_inv (hq : Tr q) (h : 0 < q.length) : cf q (q.length - 1) * (lastE q).inv = 1 := einv (last_ne hq h)
theorem cf_rem (hq : Tr q) (h : 0 < q.length) (hpq : q.length ≤ p.length) : cf (remP p q) = dvs (cf q) (q.length - 1) (lastE q).inv (p.length - q.length + 1) (cf p) := by
  rw [remP, if_neg (by omega), cf_trim]
  exact cf_tab' fun i hi => dvs_far (G := cf q) (m := q.length - 1) (fun i hi => cf_out (by omega)) (last_inv hq h) _ _ (fun i hi => cf_out (by omega)) i (by omega)
theorem cf_quo (hpq : q.length ≤ p.length) : cf (quoP p q) = dvq (cf q) (q.length - 1) (lastE q).inv (p.length - q.length + 1) (cf p) := by
  rw [quoP, if_neg (by omega)]
  refine cf_tab' fun i hi => ?_
  have : ∀ (K : Nat) (f : Nat → El R) (i : Nat), K ≤ i → dvq (cf q) (q.length - 1) (lastE q).inv K f i = 0 := by
    intro K
    induction K with
    | zero => intro _ _ _; rfl
    | succ K ih =>
      intro f i h
      show (if i = K then _ else _) = _
      rw [if_neg (by omega)]
      exact ih _ i (by omega)
  exact this _ _ i hi
theorem quo_len (hpq : q.length ≤ p.length) : (quoP p q).length = p.length - q.length + 1 := by rw [quoP, if_neg (by omega), tab_len]
theorem rem_len (hq : Tr q) (h : 0 < q.length) : (remP p q).length < q.length := by
  rcases Nat.lt_or_ge p.length q.length with h1 | h1
  · rw [remP, if_pos h1]; exact h1
  · have h2 : (remP p q).length ≤ q.length - 1 := by
      refine tr_len (by rw [remP, if_neg (by omega)]; exact tr_trim _) fun i hi => ?_
      rw [cf_rem hq h h1]
      exact dvs_far (G := cf q) (m := q.length - 1) (fun i hi => cf_out (by omega)) (last_inv hq h) _ _ (fun i hi => cf_out (by omega)) i hi
    omega
theorem rem_le : (remP p q).length ≤ p.length := by
  unfold remP; split
  · exact Nat.le_refl _
  · refine Nat.le_trans (trim_le _) ?_; rw [tab_len]; exact Nat.le_refl _
theorem tr_rem (hp : Tr p) : Tr (remP p q) := by
  unfold remP; split
  · exact hp
  · exact tr_trim _
theorem tr_quo (hp : Tr p) (hq : Tr q) (h : 0 < q.length) : Tr (quoP p q) := by
  intro i hi
  rcases Nat.lt_or_ge p.length q.length with h1 | h1
  · rw [quoP, if_pos h1] at hi; simp at hi
  · rw [quo_len h1] at hi
    obtain rfl : i = p.length - q.length := by omega
    rw [cf_quo h1]
    show (if p.length - q.length = p.length - q.length then _ else _) ≠ _
    rw [if_pos rfl]
    refine emul_ne (hp _ (by omega)) (einv_ne (last_ne hq h))
theorem tr_mul (hp : Tr p) (hq : Tr q) : Tr (mulP p q) := by
  intro i hi
  rw [mulP, tab_len] at hi
  by_cases h : p.length = 0 ∨ q.length = 0
  · rw [plen_0 h] at hi; omega
  · rw [plen_1 (by omega) (by omega)] at hi
    rw [cf_mulP]
    obtain ⟨n, hn⟩ : ∃ n, p.length = n + 1 := ⟨p.length - 1, by omega⟩
    obtain ⟨m, hm⟩ : ∃ m, q.length = m + 1 := ⟨q.length - 1, by omega⟩
    obtain rfl : i = n + m := by omega
    rw [hn, mulN_top _ (fun i hi => cf_out (by omega))]
    exact emul_ne (hp n hn.symm) (hq m hm.symm)
/-- A polynomial is the quotient times the divisor plus the remainder. -/
theorem div_sum (hq : Tr q) (h : 0 < q.length) (i : Nat) : cf p i = cf (mulP (quoP p q) q) i + cf (remP p q) i := by
  rcases Nat.lt_or_ge p.length q.length with h1 | h1
  · rw [cf_mulP, quoP, if_pos h1, remP, if_pos h1]; exact (e0a _).symm
  · rw [cf_mulP, cf_rem hq h h1, cf_quo h1, quo_len h1]
    exact dv_sum _ _ _ _ _ i
theorem div_sum' (hp : Tr p) (hq : Tr q) (h : 0 < q.length) : addP (mulP (quoP p q) q) (remP p q) = p := by
  refine trim_of ?_ hp
  rw [cf_tab' fun i hi => by rw [cf_out (by omega), cf_out (by omega), ea0]]
  funext i
  exact (div_sum hq h i).symm
/-- Quotient and remainder are the only ones. -/
theorem div_only (hq : Tr q) (h : 0 < q.length) {a : Nat → El R} {N : Nat} (ha : ∀ i, N ≤ i → a i = 0) {r : Nat → El R} (hr : ∀ i, q.length - 1 ≤ i → r i = 0) (hs : ∀ i, cf p i = mulN a (cf q) N i + r i) :
    (∀ i, a i = cf (quoP p q) i) ∧ ∀ i, r i = cf (remP p q) i := by
  obtain ⟨M, hM1, hM2⟩ : ∃ M, N ≤ M ∧ (quoP p q).length ≤ M := ⟨max N (quoP p q).length, by omega, by omega⟩
  have hR : ∀ i, q.length - 1 ≤ i → cf (remP p q) i = 0 := fun i hi => cf_out (by have := rem_len (p := p) hq h; omega)
  have key : ∀ i, mulN (fun j => a j + -(cf (quoP p q) j)) (cf q) M i = cf (remP p q) i + -(r i) := by
    intro i
    have e1 := hs i
    rw [div_sum hq h i, cf_mulP] at e1
    rw [mulN_addL, mulN_negL, mulN_stop ha M hM1, mulN_stop (cf_far (quoP p q)) M hM2]
    have e2 : cf (remP p q) i = mulN a (cf q) N i + r i + -(mulN (cf (quoP p q)) (cf q) (quoP p q).length i) := by
      rw [← e1, eac, ← eaa, ena, e0a]
    rw [e2, eaa (mulN a (cf q) N i), eaa, eaa, eac (-(mulN _ _ _ _)), ← eaa (r i), ean, e0a]
  have hz : ∀ i, a i + -(cf (quoP p q) i) = 0 := by
    refine mul_short (G := cf q) (m := q.length - 1) (fun i hi => cf_out (by omega)) (last_ne hq h) M _ (fun i hi => by rw [ha i (by omega), cf_out (by omega), en0, ea0]) fun i hi => ?_
    rw [key, hR i hi, hr i hi, en0, ea0]
  have hz' : ∀ i, a i = cf (quoP p q) i := fun i => esub (hz i)
  refine ⟨hz', fun i => ?_⟩
  have e3 := key i
  rw [mulN_congr (b := fun _ => (0 : El R)) M (fun i _ => hz i), mulN_stop (n := 0) (fun _ _ => rfl) M (by omega)] at e3
  exact (esub e3.symm).symm
theorem div_back (hp : Tr p) (hq : Tr q) (h : 0 < q.length) : quoP (mulP p q) q = p ∧ remP (mulP p q) q = [] := by
  have h1 := div_only (p := mulP p q) hq h (a := cf p) (N := p.length) (cf_far p) (r := fun _ => 0) (fun _ _ => rfl) (fun i => by rw [cf_mulP, ea0])
  exact ⟨tr_ext (tr_quo (tr_mul hp hq) hq h) hp (funext fun i => (h1.1 i).symm), nil_of (tr_rem (tr_mul hp hq)) (fun i => (h1.2 i).symm)⟩
end

/-! Roots. -/
/-- x - a. -/
def lin (a : El R) : List (El R) := [-a, 1]
theorem tr_lin (a : El R) : Tr (lin a) := fun i hi => by
  obtain rfl : i = 1 := by simp [lin] at hi; omega
  exact e10
theorem ev_lin (a x : El R) : ev x (lin a) = x + -a := by
  show (0 * x + 1) * x + -a = _
  rw [e0m, e0a, e1m]
theorem roots_zero : ∀ (n : Nat) (f : Nat → El R) (xs : List (El R)), xs.Nodup → n ≤ xs.length → (∀ i, n ≤ i → f i = 0) → (∀ x ∈ xs, evN x f n = 0) → ∀ i, f i = 0
  | 0, f, _, _, _, hf, _, i => hf i (by omega)
  | n + 1, f, [], _, hl, _, _, i => by simp at hl
  | n + 1, f, x :: xs, hd, hl, hf, h, i => by
    have hG : ∀ i, 1 + 1 ≤ i → cf (lin x) i = 0 := fun i hi => cf_out (by simp [lin]; omega)
    have hv : cf (lin x) 1 * (1 : El R) = 1 := em1 1
    have hfar := dvs_far hG hv n f (fun i hi => hf i (by omega))
    have hsum := dv_sum (cf (lin x)) 1 1 n f
    have hout : ∀ (K : Nat) (f : Nat → El R) (i : Nat), K ≤ i → dvq (cf (lin x)) 1 1 K f i = 0 := by
      intro K
      induction K with
      | zero => intro _ _ _; rfl
      | succ K ih =>
        intro f i h
        show (if i = K then _ else _) = _
        rw [if_neg (by omega)]
        exact ih _ i (by omega)
    have hev : ∀ y, evN y f (n + 1) = evN y (dvq (cf (lin x)) 1 1 n f) n * (y + -x) + dvs (cf (lin x)) 1 1 n f 0 := by
      intro y
      have e1 : evN y f (n + 1) = evN y f (n + 2) := (evN_stop hf (n + 2) (by omega)).symm
      rw [e1, evN_congr (n + 2) (fun i _ => hsum i), evN_add, evN_mulN y _ (m := 2) (fun i hi => hG i (by omega)), evN_stop (n := 1) hfar (n + 2) (by omega)]
      have e2 : evN y (cf (lin x)) 2 = y + -x := by rw [← ev_lin]; exact (ev_is y (lin x)).symm
      rw [e2]
      congr 1
      show 0 + _ * 1 = _
      rw [em1, e0a]
    have hc : dvs (cf (lin x)) 1 1 n f 0 = 0 := by
      have := h x (List.mem_cons_self ..)
      rw [hev x, ean, em0, e0a] at this
      exact this
    have hq0 := roots_zero n (dvq (cf (lin x)) 1 1 n f) xs (List.nodup_cons.1 hd).2 (by simp at hl; omega) (hout n f) (fun y hy => by
      have h1 := h y (List.mem_cons_of_mem _ hy)
      rw [hev y, hc, ea0] at h1
      have hne : y ≠ x := fun e => (List.nodup_cons.1 hd).1 (e ▸ hy)
      exact Classical.byContradiction fun hz => emul_ne hz (esub_ne hne) h1)
    rw [hsum i, mulN_congr (b := fun _ => (0 : El R)) n (fun i _ => hq0 i), mulN_stop (n := 0) (fun _ _ => rfl) n (by omega)]
    show 0 + _ = _
    rw [e0a]
    rcases Nat.eq_zero_or_pos i with h0 | h0
    · rw [h0]; exact hc
    · exact hfar i h0
/-- There are fewer roots than coefficients. -/
theorem roots_few {p : List (El R)} {xs : List (El R)} (hp : Tr p) (h0 : 0 < p.length) (hd : xs.Nodup) (h : ∀ x ∈ xs, ev x p = 0) : xs.length < p.length := by
  rcases Nat.lt_or_ge xs.length p.length with h1 | h1
  · exact h1
  · have := nil_of hp (roots_zero p.length (cf p) xs hd h1 (cf_far p) (fun x hx => by rw [← ev_is]; exact h x hx))
    rw [this] at h0; simp at h0
/-- Two short polynomials with the same values are the same. -/
theorem fit_only {p q : List (El R)} {xs : List (El R)} (hp : Tr p) (hq : Tr q) (h1 : p.length ≤ xs.length) (h2 : q.length ≤ xs.length) (hd : xs.Nodup) (h : ∀ x ∈ xs, ev x p = ev x q) : p = q := by
  refine tr_ext hp hq (funext fun i => ?_)
  refine esub (roots_zero xs.length (fun i => cf p i + -(cf q i)) xs hd (Nat.le_refl _) (fun i hi => by rw [cf_out (by omega), cf_out (by omega), en0, ea0]) (fun x hx => ?_) i)
  rw [evN_add, evN_neg, ← ev_far h1, ← ev_far h2, h x hx, ean]
end
end Go.Proofs.YtncgeoliboidhaaGreat

namespace Go.Proofs.YtncgeoliboidhaaGreat
section
variable {R : Fld}
theorem mulN_null (d : Nat → El R) (N i : Nat) : mulN (fun _ => 0) d N i = 0 := by
  rw [mulN_stop (n := 0) (fun _ _ => rfl) N (by omega)]; rfl
theorem up_mul (s : Nat) (c : El R) (f : Nat → El R) (i : Nat) : up s c f i = c * up s 1 f i := by
  unfold up; split
  · rw [e1m]
  · rw [em0]
theorem mulN_assoc (b : Nat → El R) {a : Nat → El R} (d : Nat → El R) {N : Nat} (ha : ∀ i, N ≤ i → a i = 0) : ∀ (M i : Nat), mulN b (mulN a d N) M i = mulN (mulN b a M) d (M + N) i
  | 0, i => (mulN_null d (0 + N) i).symm
  | M + 1, i => by
    show mulN b (mulN a d N) M i + up M (b M) (mulN a d N) i = mulN (fun j => mulN b a M j + up M (b M) a j) d (M + 1 + N) i
    rw [mulN_addL, mulN_assoc b d ha M i, mulN_stop (n := M + N) (fun i hi => mulN_far b ha M i hi) (M + 1 + N) (by omega), mulN_stop (n := M + N) (fun i hi => up_out ha hi) (M + 1 + N) (by omega)]
    congr 1
    rw [mulN_congr (b := fun j => b M * up M 1 a j) (M + N) (fun j _ => up_mul M (b M) a j), mulN_mulL, mulN_up, ← up_mul]
theorem mulN_mulR (c : El R) (a f : Nat → El R) (n i : Nat) : mulN a (fun j => c * f j) n i = c * mulN a f n i := by
  induction n with
  | zero => exact (em0 c).symm
  | succ n ih =>
    show mulN a (fun j => c * f j) n i + up n (a n) (fun j => c * f j) i = c * (mulN a f n i + up n (a n) f i)
    rw [ih, edl]
    congr 1
    unfold up; split
    · rw [eml]
    · rw [em0]
/-- d divides p. -/
def Dv (d p : Nat → El R) : Prop := ∃ (a : Nat → El R) (N : Nat), (∀ i, N ≤ i → a i = 0) ∧ ∀ i, p i = mulN a d N i
theorem Dv.refl (d : Nat → El R) : Dv d d :=
  ⟨fun i => if i = 0 then 1 else 0, 1, fun i hi => if_neg (by omega), fun i => by
    show _ = 0 + up 0 (if 0 = 0 then 1 else 0) d i
    rw [if_pos rfl, e0a]; unfold up; rw [if_pos (Nat.zero_le _), e1m]; rfl⟩
theorem Dv.zero (d : Nat → El R) {p : Nat → El R} (h : ∀ i, p i = 0) : Dv d p := ⟨fun _ => 0, 0, fun _ _ => rfl, fun i => h i⟩
theorem Dv.add {d p q r : Nat → El R} (hp : Dv d p) (hq : Dv d q) (h : ∀ i, r i = p i + q i) : Dv d r := by
  obtain ⟨a, N, ha, h1⟩ := hp
  obtain ⟨b, M, hb, h2⟩ := hq
  refine ⟨fun i => a i + b i, max N M, fun i hi => by simp only [ha i (by omega), hb i (by omega), ea0], fun i => ?_⟩
  rw [mulN_addL, mulN_stop ha (max N M) (by omega), mulN_stop hb (max N M) (by omega), h i, h1 i, h2 i]
theorem mulN_congrR {a f g : Nat → El R} (n : Nat) (h : ∀ i, f i = g i) : mulN a f n = mulN a g n := by rw [funext h]
theorem Dv.mul {d p r : Nat → El R} (hp : Dv d p) {b : Nat → El R} {M : Nat} (h : ∀ i, r i = mulN b p M i) : Dv d r := by
  obtain ⟨a, N, ha, h1⟩ := hp
  exact ⟨mulN b a M, M + N, fun i hi => mulN_far b ha M i hi, fun i => by rw [h i, mulN_congrR M h1, mulN_assoc b d ha]⟩
theorem Dv.scale {d p : Nat → El R} (hp : Dv d p) {c : El R} (hc : c ≠ 0) : Dv (fun i => c * d i) p := by
  obtain ⟨a, N, ha, h1⟩ := hp
  refine ⟨fun i => c.inv * a i, N, fun i hi => by simp only [ha i hi, em0], fun i => ?_⟩
  rw [mulN_mulL, mulN_mulR, ← ema, emc c.inv, einv hc, e1m]
  exact h1 i
theorem Dv.rem {p q : List (El R)} (h : Dv (cf q) (cf p)) (hp : Tr p) (hq : Tr q) (h0 : 0 < q.length) : remP p q = [] := by
  obtain ⟨a, N, ha, h1⟩ := h
  exact nil_of (tr_rem hp) fun i => ((div_only hq h0 ha (r := fun _ => 0) (fun _ _ => rfl) (fun i => by rw [ea0]; exact h1 i)).2 i).symm

/-- The common divisor as it is reckoned, not yet with 1 as its last coefficient. -/
def gcdP : Nat → List (El R) → List (El R) → List (El R)
  | 0, p, _ => p
  | n + 1, p, q => if q.length = 0 then p else gcdP n q (remP p q)
theorem gcd_end (n : Nat) (p : List (El R)) {q : List (El R)} (h : q.length = 0) : gcdP n p q = p := by
  cases n with
  | zero => rfl
  | succ n => exact if_pos h
theorem gcd_fuel : ∀ (n m : Nat) (p q : List (El R)), Tr p → Tr q → q.length ≤ n → n ≤ m → gcdP m p q = gcdP n p q
  | 0, m, p, q, _, _, hq, _ => by rw [gcd_end m p (by omega), gcd_end 0 p (by omega)]
  | n + 1, 0, p, q, _, _, hq, h => by omega
  | n + 1, m + 1, p, q, hp, ht, hq, h => by
    by_cases h0 : q.length = 0
    · rw [gcd_end _ _ h0, gcd_end _ _ h0]
    · show (if q.length = 0 then p else gcdP m q (remP p q)) = (if q.length = 0 then p else gcdP n q (remP p q))
      rw [if_neg h0, if_neg h0]
      have h1 := rem_len (p := p) ht (by omega)
      exact gcd_fuel n m q (remP p q) ht (tr_rem hp) (by omega) (by omega)
theorem gcd_facts : ∀ (n : Nat) (p q : List (El R)), Tr p → Tr q → q.length ≤ n →
    Tr (gcdP n p q) ∧ Dv (cf (gcdP n p q)) (cf p) ∧ Dv (cf (gcdP n p q)) (cf q) ∧ (0 < p.length ∨ 0 < q.length → 0 < (gcdP n p q).length) ∧ (gcdP n p q).length ≤ max p.length q.length
  | n, p, q, hp, hq, hn => by
    by_cases h0 : q.length = 0
    · rw [gcd_end _ _ h0]
      exact ⟨hp, Dv.refl _, Dv.zero _ (fun i => cf_out (by omega)), fun h => by omega, by omega⟩
    · cases n with
      | zero => omega
      | succ n =>
        have h1 := rem_len (p := p) hq (by omega)
        have e : gcdP (n + 1) p q = gcdP n q (remP p q) := if_neg h0
        have ih := gcd_facts n q (remP p q) hq (tr_rem hp) (by omega)
        rw [e]
        exact ⟨ih.1, Dv.add (Dv.mul ih.2.1 (fun i => by rw [cf_mulP])) ih.2.2.1 (fun i => div_sum hq (by omega) i), ih.2.1, fun _ => ih.2.2.2.1 (.inl (by omega)), by have := ih.2.2.2.2; omega⟩
  termination_by n => n
/-- The same with as many steps as are needed. -/
def gcdL (p q : List (El R)) : List (El R) := gcdP q.length p q
theorem gcdL_end {p q : List (El R)} (h : q.length = 0) : gcdL p q = p := gcd_end _ _ h
theorem gcdL_step {p q : List (El R)} (hp : Tr p) (hq : Tr q) (h : 0 < q.length) : gcdL p q = gcdL q (remP p q) := by
  obtain ⟨n, hn⟩ : ∃ n, q.length = n + 1 := ⟨q.length - 1, by omega⟩
  have h1 := rem_len (p := p) hq h
  unfold gcdL
  rw [hn]
  show (if q.length = 0 then p else gcdP n q (remP p q)) = _
  rw [if_neg (by omega)]
  exact gcd_fuel _ _ _ _ hq (tr_rem hp) (Nat.le_refl _) (by omega)

/-- A multiple. -/
def scaP (c : El R) (p : List (El R)) : List (El R) := trim (tab p.length fun i => c * cf p i)
theorem cf_sca (c : El R) (p : List (El R)) : cf (scaP c p) = fun i => c * cf p i := by
  rw [scaP, cf_trim, cf_tab' fun i hi => by rw [cf_out hi, em0]]
theorem tr_sca (c : El R) (p : List (El R)) : Tr (scaP c p) := tr_trim _
theorem sca_len {c : El R} {p : List (El R)} (hc : c ≠ 0) (hp : Tr p) : (scaP c p).length = p.length := by
  have : Tr (tab p.length fun i => c * cf p i) := fun i hi => by
    rw [tab_len] at hi
    rw [cf_tab, if_pos (by omega)]
    exact emul_ne hc (hp i hi)
  rw [scaP, trim_id this, tab_len]
theorem mul_one1 (a : Nat → El R) (c : El R) : ∀ (n i : Nat), mulN a (cf [c]) n i = if i < n then c * a i else 0
  | 0, i => rfl
  | n + 1, i => by
    show mulN a (cf [c]) n i + up n (a n) (cf [c]) i = _
    rw [mul_one1 a c n i]
    rcases Nat.lt_trichotomy i n with h | h | h
    · rw [if_pos h, if_pos (by omega), up_lt h, ea0]
    · subst h
      rw [if_neg (by omega), if_pos (by omega), e0a]
      have := up_add i 0 (a i) (cf [c])
      rw [Nat.add_zero] at this
      rw [this, emc]; rfl
    · rw [if_neg (by omega), if_neg (by omega), e0a]
      exact up_out (m := 1) (fun j hj => cf_out (by simp; omega)) (by omega)
/-- The product with a number is a multiple. -/
theorem mul_num (p : List (El R)) (c : El R) : trim (mulP p [c]) = scaP c p := by
  refine trim_eq ?_
  rw [cf_mulP, cf_tab' fun i hi => by rw [cf_out hi, em0]]
  funext i
  rw [mul_one1]
  split
  · rfl
  · rw [cf_out (by omega), em0]
/-- The common divisor with 1 as its last coefficient. -/
def gcdM (p q : List (El R)) : List (El R) := scaP (lastE (gcdL p q)).inv (gcdL p q)
theorem gcdM_facts {p q : List (El R)} (hp : Tr p) (hq : Tr q) (h : 0 < p.length ∨ 0 < q.length) :
    Tr (gcdM p q) ∧ remP p (gcdM p q) = [] ∧ remP q (gcdM p q) = [] ∧ 0 < (gcdM p q).length ∧ lastE (gcdM p q) = 1 ∧ (gcdM p q).length ≤ max p.length q.length := by
  obtain ⟨h1, h2, h3, h4, h5⟩ := gcd_facts q.length p q hp hq (Nat.le_refl _)
  have h4 := h4 h
  have hne : (lastE (gcdL p q)).inv ≠ 0 := einv_ne (last_ne h1 h4)
  have hl : (gcdM p q).length = (gcdL p q).length := sca_len hne h1
  have hc : cf (gcdM p q) = fun i => (lastE (gcdL p q)).inv * cf (gcdL p q) i := cf_sca _ _
  have ht : Tr (gcdM p q) := tr_sca _ _
  have h4' : 0 < (gcdL p q).length := h4
  have h5' : (gcdL p q).length ≤ max p.length q.length := h5
  refine ⟨ht, Dv.rem ?_ hp ht (by omega), Dv.rem ?_ hq ht (by omega), by omega, ?_, by omega⟩
  · rw [hc]; exact Dv.scale h2 hne
  · rw [hc]; exact Dv.scale h3 hne
  · rw [lastE, hc, hl]
    show _ * _ = _
    rw [emc]
    exact einv (last_ne h1 h4)
end
end Go.Proofs.YtncgeoliboidhaaGreat
