/-
  Finite fields by their laws, and coefficients of polynomials over them: sums, products, values.
  No condition.
-/
import Derived.Test.YthafkohopkgckaaFErr
namespace Go.Proofs.Ythafkohopkgckaa

/-- A finite field, by what is reckoned in it. -/
structure Fld where
  q : Nat
  add : Nat → Nat → Nat
  neg : Nat → Nat
  mul : Nat → Nat → Nat
  inv : Nat → Nat
  three : 3 ≤ q
  addC : ∀ a b, a < q → b < q → add a b < q
  negC : ∀ a, a < q → neg a < q
  mulC : ∀ a b, a < q → b < q → mul a b < q
  invC : ∀ a, a < q → inv a < q
  addComm : ∀ a b, a < q → b < q → add a b = add b a
  addAssoc : ∀ a b c, a < q → b < q → c < q → add (add a b) c = add a (add b c)
  addZero : ∀ a, a < q → add a 0 = a
  addNeg : ∀ a, a < q → add a (neg a) = 0
  mulComm : ∀ a b, a < q → b < q → mul a b = mul b a
  mulAssoc : ∀ a b c, a < q → b < q → c < q → mul (mul a b) c = mul a (mul b c)
  mulOne : ∀ a, a < q → mul a 1 = a
  dist : ∀ a b c, a < q → b < q → c < q → mul a (add b c) = add (mul a b) (mul a c)
  invMul : ∀ a, a < q → a ≠ 0 → mul a (inv a) = 1

/-- An element of a field. -/
structure El (R : Fld) where
  val : Nat
  lt : val < R.q

section
variable {R : Fld}
theorem El.eq {a b : El R} (h : a.val = b.val) : a = b := by cases a; cases b; simp only at h; subst h; rfl
instance : DecidableEq (El R) := fun a b => if h : a.val = b.val then isTrue (El.eq h) else isFalse (fun e => h (by rw [e]))
instance : Add (El R) := ⟨fun a b => ⟨R.add a.val b.val, R.addC _ _ a.lt b.lt⟩⟩
instance : Mul (El R) := ⟨fun a b => ⟨R.mul a.val b.val, R.mulC _ _ a.lt b.lt⟩⟩
instance : Neg (El R) := ⟨fun a => ⟨R.neg a.val, R.negC _ a.lt⟩⟩
instance : Zero (El R) := ⟨⟨0, by have := R.three; omega⟩⟩
instance : One (El R) := ⟨⟨1, by have := R.three; omega⟩⟩
def El.inv (a : El R) : El R := ⟨R.inv a.val, R.invC _ a.lt⟩
theorem val_add (a b : El R) : (a + b).val = R.add a.val b.val := rfl
theorem val_mul (a b : El R) : (a * b).val = R.mul a.val b.val := rfl
theorem val_neg (a : El R) : (-a).val = R.neg a.val := rfl
theorem val_zero : (0 : El R).val = 0 := rfl
theorem val_one : (1 : El R).val = 1 := rfl
theorem val_inv (a : El R) : a.inv.val = R.inv a.val := rfl
theorem val_ne {a : El R} (h : a ≠ 0) : a.val ≠ 0 := fun e => h (El.eq e)

theorem eac (a b : El R) : a + b = b + a := El.eq (R.addComm _ _ a.lt b.lt)
theorem eaa (a b c : El R) : a + b + c = a + (b + c) := El.eq (R.addAssoc _ _ _ a.lt b.lt c.lt)
theorem eal (a b c : El R) : a + (b + c) = b + (a + c) := by rw [← eaa, eac a b, eaa]
theorem ea0 (a : El R) : a + 0 = a := El.eq (R.addZero _ a.lt)
theorem e0a (a : El R) : 0 + a = a := by rw [eac, ea0]
theorem ean (a : El R) : a + -a = 0 := El.eq (R.addNeg _ a.lt)
theorem ena (a : El R) : -a + a = 0 := by rw [eac, ean]
theorem emc (a b : El R) : a * b = b * a := El.eq (R.mulComm _ _ a.lt b.lt)
theorem ema (a b c : El R) : a * b * c = a * (b * c) := El.eq (R.mulAssoc _ _ _ a.lt b.lt c.lt)
theorem eml (a b c : El R) : a * (b * c) = b * (a * c) := by rw [← ema, emc a b, ema]
theorem em1 (a : El R) : a * 1 = a := El.eq (R.mulOne _ a.lt)
theorem e1m (a : El R) : 1 * a = a := by rw [emc, em1]
theorem edl (a b c : El R) : a * (b + c) = a * b + a * c := El.eq (R.dist _ _ _ a.lt b.lt c.lt)
theorem edr (a b c : El R) : (a + b) * c = a * c + b * c := by rw [emc, edl, emc c a, emc c b]
theorem eadd_left {a b c : El R} (h : a + b = a + c) : b = c := by
  have h1 : -a + (a + b) = -a + (a + c) := by rw [h]
  rwa [← eaa, ← eaa, ena, e0a, e0a] at h1
theorem em0 (a : El R) : a * 0 = 0 := by
  have h : a * 0 + a * 0 = a * 0 + 0 := by rw [← edl, ea0, ea0]
  exact eadd_left h
theorem e0m (a : El R) : 0 * a = 0 := by rw [emc, em0]
theorem eneg_of {a b : El R} (h : a + b = 0) : b = -a := eadd_left (a := a) (by rw [h, ean])
theorem enm (a b : El R) : -a * b = -(a * b) := eneg_of (by rw [← edr, ean, e0m])
theorem emn (a b : El R) : a * -b = -(a * b) := by rw [emc, enm, emc]
theorem enn (a : El R) : - -a = a := (eneg_of (ena a)).symm
theorem en0 : -(0 : El R) = 0 := (eneg_of (ea0 0)).symm
theorem enadd (a b : El R) : -(a + b) = -a + -b := (eneg_of (by rw [eaa, eal b, ean, ea0, ean])).symm
theorem einv {a : El R} (h : a ≠ 0) : a * a.inv = 1 := El.eq (R.invMul _ a.lt (val_ne h))
theorem e10 : (1 : El R) ≠ 0 := fun h => by
  have : (1 : El R).val = (0 : El R).val := by rw [h]
  rw [val_one, val_zero] at this
  omega
theorem emul_ne {a b : El R} (ha : a ≠ 0) (hb : b ≠ 0) : a * b ≠ 0 := fun h => hb (by
  have h1 : a.inv * (a * b) = a.inv * 0 := by rw [h]
  rwa [← ema, emc _ a, einv ha, e1m, em0] at h1)
theorem einv_ne {a : El R} (ha : a ≠ 0) : a.inv ≠ 0 := fun h => by
  have := einv ha
  rw [h, em0] at this
  exact e10 this.symm
theorem esub {a b : El R} (h : a + -b = 0) : a = b := by
  have h1 : a + -b + b = 0 + b := by rw [h]
  rwa [eaa, ena, ea0, e0a] at h1
theorem esub_ne {a b : El R} (h : a ≠ b) : a + -b ≠ 0 := fun e => h (esub e)
theorem eswap (a b c d : El R) : a + b + (c + d) = a + c + (b + d) := by rw [eaa, eaa, eal b]

/-! Coefficients. -/
/-- The coefficients of a list. -/
def cf (p : List (El R)) (i : Nat) : El R := p.getD i 0
/-- The first n coefficients. -/
def tab (n : Nat) (f : Nat → El R) : List (El R) := (List.range n).map f
theorem cf_out {p : List (El R)} {i : Nat} (h : p.length ≤ i) : cf p i = 0 := by unfold cf; rw [List.getD_eq_getElem?_getD, List.getElem?_eq_none h]; rfl
theorem cf_at {p : List (El R)} {i : Nat} {x : El R} (h : p[i]? = some x) : cf p i = x := by unfold cf; rw [List.getD_eq_getElem?_getD, h]; rfl
theorem at_cf {p : List (El R)} {i : Nat} (h : i < p.length) : p[i]? = some (cf p i) := by
  rw [List.getElem?_eq_getElem h]; exact congrArg some (cf_at (List.getElem?_eq_getElem h)).symm
theorem tab_len (n : Nat) (f : Nat → El R) : (tab n f).length = n := by simp [tab]
theorem tab_at {n i : Nat} (f : Nat → El R) (h : i < n) : (tab n f)[i]? = some (f i) := by simp [tab, h]
theorem cf_tab {n : Nat} {f : Nat → El R} (i : Nat) : cf (tab n f) i = if i < n then f i else 0 := by
  split
  · exact cf_at (tab_at f (by assumption))
  · exact cf_out (by rw [tab_len]; omega)
theorem cf_tab' {n : Nat} {f : Nat → El R} (h : ∀ i, n ≤ i → f i = 0) : cf (tab n f) = f := by
  funext i
  rw [cf_tab]
  split
  · rfl
  · exact (h i (by omega)).symm
theorem tab_congr {n : Nat} {f g : Nat → El R} (h : ∀ i, i < n → f i = g i) : tab n f = tab n g := by
  unfold tab
  exact List.map_congr_left fun i hi => h i (List.mem_range.1 hi)
theorem tab_cf (p : List (El R)) : tab p.length (cf p) = p := by
  refine List.ext_getElem? fun i => ?_
  rcases Nat.lt_or_ge i p.length with h | h
  · rw [tab_at _ h, at_cf h]
  · rw [List.getElem?_eq_none (by rw [tab_len]; exact h), List.getElem?_eq_none h]
theorem tab_set {n j : Nat} (f : Nat → El R) (x : El R) : (tab n f).set j x = tab n (fun i => if i = j then x else f i) := by
  refine List.ext_getElem? fun i => ?_
  rw [List.getElem?_set]
  rcases Nat.lt_or_ge i n with h | h
  · by_cases hj : j = i
    · subst hj; rw [if_pos rfl, if_pos (by rw [tab_len]; exact h), tab_at _ h, if_pos rfl]
    · rw [if_neg hj, tab_at _ h, tab_at _ h, if_neg (Ne.symm hj)]
  · rw [List.getElem?_eq_none (by rw [tab_len]; exact h), List.getElem?_eq_none (by rw [tab_len]; exact h)]
    split <;> simp_all [tab_len]
theorem tab_snoc (n : Nat) (f : Nat → El R) : tab (n + 1) f = tab n f ++ [f n] := by simp [tab, List.range_succ]

/-- Without zeros at the end. -/
def Tr (p : List (El R)) : Prop := ∀ i, i + 1 = p.length → cf p i ≠ 0
def trim (p : List (El R)) : List (El R) := (p.reverse.dropWhile (fun a => decide (a = 0))).reverse
theorem trim_nil : trim ([] : List (El R)) = [] := rfl
theorem trim_zero (p : List (El R)) : trim (p ++ [0]) = trim p := by simp [trim]
theorem trim_more (p : List (El R)) {a : El R} (h : a ≠ 0) : trim (p ++ [a]) = p ++ [a] := by simp [trim, h]
theorem snoc_or (p : List (El R)) : p = [] ∨ ∃ p' a, p = p' ++ [a] := by
  rcases List.eq_nil_or_concat p with h | ⟨p', a, h⟩
  · exact .inl h
  · exact .inr ⟨p', a, by simpa using h⟩
theorem cf_snoc (p : List (El R)) (a : El R) : cf (p ++ [a]) p.length = a := cf_at (by simp)
theorem cf_left {p : List (El R)} {a : El R} {i : Nat} (h : i < p.length) : cf (p ++ [a]) i = cf p i := by
  unfold cf; simp only [List.getD_eq_getElem?_getD]; rw [List.getElem?_append_left h]
theorem cf_zero (p : List (El R)) : cf (p ++ [0]) = cf p := by
  funext i
  rcases Nat.lt_trichotomy i p.length with h | h | h
  · exact cf_left h
  · subst h; rw [cf_snoc, cf_out (Nat.le_refl _)]
  · rw [cf_out (by simp; omega), cf_out (by omega)]
theorem trim_facts : ∀ (n : Nat) (p : List (El R)), p.length = n → cf (trim p) = cf p ∧ Tr (trim p) ∧ (trim p).length ≤ p.length
  | 0, p, h => by
    obtain rfl := List.eq_nil_of_length_eq_zero h
    exact ⟨rfl, fun i hi => by simp [trim_nil] at hi, Nat.le_refl _⟩
  | n + 1, p, h => by
    rcases snoc_or p with rfl | ⟨p', a, rfl⟩
    · simp at h
    · by_cases ha : a = 0
      · subst ha
        have ih := trim_facts n p' (by simpa using h)
        rw [trim_zero, cf_zero]
        exact ⟨ih.1, ih.2.1, by have := ih.2.2; simp; omega⟩
      · rw [trim_more _ ha]
        refine ⟨rfl, fun i hi => ?_, Nat.le_refl _⟩
        obtain rfl : i = p'.length := by simpa using hi
        rw [cf_snoc]; exact ha
theorem cf_trim (p : List (El R)) : cf (trim p) = cf p := (trim_facts _ p rfl).1
theorem tr_trim (p : List (El R)) : Tr (trim p) := (trim_facts _ p rfl).2.1
theorem trim_le (p : List (El R)) : (trim p).length ≤ p.length := (trim_facts _ p rfl).2.2
theorem tr_ext {p q : List (El R)} (hp : Tr p) (hq : Tr q) (h : cf p = cf q) : p = q := by
  have hl : p.length = q.length := by
    rcases Nat.lt_trichotomy p.length q.length with h1 | h1 | h1
    · exact absurd (by rw [← h]; exact cf_out (by omega)) (hq (q.length - 1) (by omega))
    · exact h1
    · exact absurd (by rw [h]; exact cf_out (by omega)) (hp (p.length - 1) (by omega))
  rw [← tab_cf p, ← tab_cf q, hl, h]
theorem trim_id {p : List (El R)} (h : Tr p) : trim p = p := tr_ext (tr_trim p) h (cf_trim p)
theorem tr_nil : Tr ([] : List (El R)) := fun i hi => by simp at hi
theorem trim_of {p q : List (El R)} (h : cf p = cf q) (hq : Tr q) : trim p = q := tr_ext (tr_trim p) hq (by rw [cf_trim, h])
theorem trim_eq {p q : List (El R)} (h : cf p = cf q) : trim p = trim q := tr_ext (tr_trim p) (tr_trim q) (by rw [cf_trim, cf_trim, h])
theorem tr_len {p : List (El R)} (hp : Tr p) {n : Nat} (h : ∀ i, n ≤ i → cf p i = 0) : p.length ≤ n := by
  rcases Nat.lt_or_ge n p.length with h1 | h1
  · exact absurd (h (p.length - 1) (by omega)) (hp _ (by omega))
  · exact h1
theorem nil_of {p : List (El R)} (hp : Tr p) (h : ∀ i, cf p i = 0) : p = [] :=
  List.eq_nil_of_length_eq_zero (Nat.le_zero.1 (tr_len hp (n := 0) fun i _ => h i))

/-- A multiple of f, moved up by s. -/
def up (s : Nat) (a : El R) (f : Nat → El R) (i : Nat) : El R := if s ≤ i then a * f (i - s) else 0
theorem up_lt {s i : Nat} {a : El R} {f : Nat → El R} (h : i < s) : up s a f i = 0 := if_neg (by omega)
theorem up_add (s i : Nat) (a : El R) (f : Nat → El R) : up s a f (s + i) = a * f i := by
  unfold up; rw [if_pos (by omega), Nat.add_sub_cancel_left]
theorem up_out {s m i : Nat} {a : El R} {f : Nat → El R} (hf : ∀ i, m ≤ i → f i = 0) (h : s + m ≤ i) : up s a f i = 0 := by
  unfold up; split
  · rw [hf _ (by omega), em0]
  · rfl
theorem up_zero (s : Nat) (f : Nat → El R) (i : Nat) : up s 0 f i = 0 := by unfold up; split <;> simp [e0m]
/-- A product, with the first n coefficients of a. -/
def mulN (a f : Nat → El R) : Nat → Nat → El R
  | 0 => fun _ => 0
  | n + 1 => fun i => mulN a f n i + up n (a n) f i
theorem mulN_out (a : Nat → El R) {f : Nat → El R} {m : Nat} (hf : ∀ i, m ≤ i → f i = 0) (n i : Nat) (h : ∀ l, l < n → l + m ≤ i ∨ i < l) : mulN a f n i = 0 := by
  induction n with
  | zero => rfl
  | succ n ih =>
    show mulN a f n i + up n (a n) f i = 0
    rw [ih (fun l hl => h l (by omega)), e0a]
    rcases h n (by omega) with h1 | h1
    · exact up_out hf h1
    · exact up_lt h1
theorem mulN_congr {a b f : Nat → El R} (n : Nat) (h : ∀ i, i < n → a i = b i) : mulN a f n = mulN b f n := by
  induction n with
  | zero => rfl
  | succ n ih =>
    funext i
    show mulN a f n i + _ = mulN b f n i + _
    rw [ih (fun i hi => h i (by omega)), h n (by omega)]
theorem mulN_stop {a f : Nat → El R} {n : Nat} (h : ∀ i, n ≤ i → a i = 0) (m : Nat) (hm : n ≤ m) : mulN a f m = mulN a f n := by
  obtain ⟨d, rfl⟩ := Nat.exists_eq_add_of_le hm
  induction d with
  | zero => rfl
  | succ d ih =>
    funext i
    show mulN a f (n + d) i + up (n + d) (a (n + d)) f i = _
    rw [h (n + d) (by omega), up_zero, ea0, ih (by omega)]
/-- The highest coefficient of a product. -/
theorem mulN_top (a : Nat → El R) {f : Nat → El R} {m : Nat} (hf : ∀ i, m + 1 ≤ i → f i = 0) (n : Nat) : mulN a f (n + 1) (n + m) = a n * f m := by
  show mulN a f n (n + m) + up n (a n) f (n + m) = _
  rw [mulN_out a hf n (n + m) (fun l hl => by omega), up_add, e0a]
theorem mulN_addL (a b f : Nat → El R) (n i : Nat) : mulN (fun j => a j + b j) f n i = mulN a f n i + mulN b f n i := by
  induction n with
  | zero => exact (ea0 0).symm
  | succ n ih =>
    show mulN (fun j => a j + b j) f n i + up n (a n + b n) f i = (mulN a f n i + up n (a n) f i) + (mulN b f n i + up n (b n) f i)
    rw [ih, eswap]
    congr 1
    unfold up; split
    · rw [edr]
    · rw [ea0]
theorem mulN_mulL (c : El R) (a f : Nat → El R) (n i : Nat) : mulN (fun j => c * a j) f n i = c * mulN a f n i := by
  induction n with
  | zero => exact (em0 c).symm
  | succ n ih =>
    show mulN (fun j => c * a j) f n i + up n (c * a n) f i = c * (mulN a f n i + up n (a n) f i)
    rw [ih, edl]
    congr 1
    unfold up; split
    · rw [ema]
    · rw [em0]
theorem mulN_negL (a f : Nat → El R) (n i : Nat) : mulN (fun j => -(a j)) f n i = -(mulN a f n i) := by
  induction n with
  | zero => exact en0.symm
  | succ n ih =>
    show mulN (fun j => -(a j)) f n i + up n (-(a n)) f i = -(mulN a f n i + up n (a n) f i)
    rw [ih, enadd]
    congr 1
    unfold up; split
    · rw [enm]
    · rw [en0]
/-- A product moved up. -/
theorem mulN_up (s : Nat) (a f : Nat → El R) (n : Nat) : mulN (up s 1 a) f (s + n) = up s 1 (mulN a f n) := by
  induction n with
  | zero =>
    have h0 : mulN (up s 1 a) f s = mulN (fun _ => (0 : El R)) f s := mulN_congr s fun i hi => up_lt hi
    have h1 : mulN (fun _ => (0 : El R)) f s = mulN (fun _ => (0 : El R)) f 0 := mulN_stop (fun _ _ => rfl) s (by omega)
    rw [Nat.add_zero, h0, h1]
    funext i
    show (0 : El R) = up s 1 (fun _ => 0) i
    unfold up; split
    · rw [em0]
    · rfl
  | succ n ih =>
    funext i
    show mulN (up s 1 a) f (s + n) i + up (s + n) (up s 1 a (s + n)) f i = _
    rw [ih, up_add, e1m]
    unfold up
    show _ = if s ≤ i then 1 * (mulN a f n (i - s) + up n (a n) f (i - s)) else 0
    by_cases h : s ≤ i
    · rw [if_pos h, if_pos h, edl, e1m, e1m]
      congr 1
      unfold up
      by_cases h2 : s + n ≤ i
      · rw [if_pos h2, if_pos (by omega), Nat.sub_add_eq]
      · rw [if_neg h2, if_neg (by omega)]
    · rw [if_neg h, if_neg h, if_neg (by omega), ea0]
end
end Go.Proofs.Ythafkohopkgckaa
