/-
  More plain mathematics of finite fields: the model's way of multiplying, repeated squaring, least generators, prime numbers.
  No condition: these are plain definitions and lemmas on natural numbers.
-/
import Derived.Test.YtncgeoliboidhaaFieldMath
namespace Go.Proofs.Ytncgeoliboidhaa

/-! The model multiplies first and reduces then. -/
def rd (n P k x : Nat) : Nat := if x.testBit k then x ^^^ (P <<< (k - n)) else x
/-- The bits from n + m - 1 down to n are struck. -/
def rdAll (n P : Nat) : Nat → Nat → Nat
  | 0, x => x
  | m + 1, x => rdAll n P m (rd n P (n + m) x)
/-- The product of two polynomials, of the second one's first m bits. -/
def cl (a b : Nat) : Nat → Nat
  | 0 => 0
  | m + 1 => cl a b m ^^^ (if b.testBit m then a <<< m else 0)
def xts (n P : Nat) : Nat → Nat → Nat
  | 0, a => a
  | k + 1, a => xt n P (xts n P k a)

theorem rd_xor (n P k x y : Nat) : rd n P k (x ^^^ y) = rd n P k x ^^^ rd n P k y := by
  unfold rd
  rw [Nat.testBit_xor]
  cases h1 : x.testBit k <;> cases h2 : y.testBit k <;> simp only [Bool.xor_false, Bool.xor_true, Bool.not_true, Bool.not_false, Bool.false_eq_true, if_true, if_false]
  · rw [Nat.xor_assoc]
  · rw [Nat.xor_assoc, Nat.xor_assoc, Nat.xor_comm y]
  · rw [xor_swap, Nat.xor_self, Nat.xor_zero]
theorem rdAll_xor (n P m x y : Nat) : rdAll n P m (x ^^^ y) = rdAll n P m x ^^^ rdAll n P m y := by
  induction m generalizing x y with
  | zero => rfl
  | succ m ih => simp only [rdAll, rd_xor, ih]
theorem rd_two (n P k x : Nat) (h : n ≤ k) : rd n P (k + 1) (2 * x) = 2 * rd n P k x := by
  unfold rd
  have hb : (2 * x).testBit (k + 1) = x.testBit k := by simp [Nat.testBit_succ]
  rw [hb]
  split
  · rw [two_xor, show k + 1 - n = (k - n) + 1 by omega]
    congr 1
    simp only [Nat.shiftLeft_eq, Nat.pow_succ]
    rw [← Nat.mul_assoc, Nat.mul_comm]
  · rfl
theorem rdAll_two (n P m x : Nat) : rdAll n P (m + 1) (2 * x) = xt n P (rdAll n P m x) := by
  induction m generalizing x with
  | zero =>
    show rd n P (n + 0) (2 * x) = xt n P x
    unfold rd xt
    rw [Nat.add_zero, Nat.sub_self, Nat.shiftLeft_zero]
  | succ m ih =>
    rw [rdAll, show n + (m + 1) = (n + m) + 1 by omega, rd_two n P _ _ (by omega), ih]
    rfl
theorem rdAll_small (n P m x : Nat) (h : x < 2 ^ n) : rdAll n P m x = x := by
  induction m with
  | zero => rfl
  | succ m ih =>
    have hb : x.testBit (n + m) = false := Nat.testBit_lt_two_pow (Nat.lt_of_lt_of_le h (Nat.pow_le_pow_right (by decide) (by omega)))
    rw [rdAll, rd, hb]
    simpa using ih
theorem rdAll_zero (n P m : Nat) : rdAll n P m 0 = 0 := rdAll_small n P m 0 (Nat.pow_pos (by decide))
theorem rdAll_shift (n P a : Nat) (ha : a < 2 ^ n) (k m : Nat) (h : k ≤ m) : rdAll n P m (a <<< k) = xts n P k a := by
  induction k generalizing m with
  | zero => rw [Nat.shiftLeft_zero]; exact rdAll_small n P m a ha
  | succ k ih =>
    obtain ⟨m, rfl⟩ : ∃ j, m = j + 1 := ⟨m - 1, by omega⟩
    have he : a <<< (k + 1) = 2 * (a <<< k) := by simp only [Nat.shiftLeft_eq, Nat.pow_succ]; rw [← Nat.mul_assoc, Nat.mul_comm]
    rw [he, rdAll_two, ih m (by omega)]
    rfl
def vt (n P a b : Nat) : Nat → Nat
  | 0 => 0
  | m + 1 => vt n P a b m ^^^ (if b.testBit m then xts n P m a else 0)
theorem vt_low (n P a b m : Nat) : vt n P a b (m + 1) = xt n P (vt n P a (b / 2) m) ^^^ (if b % 2 = 1 then a else 0) := by
  induction m with
  | zero =>
    simp [vt, xt_zero, xts, Nat.testBit_zero]
  | succ m ih =>
    rw [vt, ih]
    conv => rhs; rw [vt, xt_xor]
    have hb : b.testBit (m + 1) = (b / 2).testBit m := by simp [Nat.testBit_succ]
    rw [hb]
    have e : xt n P (if (b / 2).testBit m = true then xts n P m a else 0) = (if (b / 2).testBit m = true then xts n P (m + 1) a else 0) := by
      split
      · rfl
      · exact xt_zero n P
    rw [e, Nat.xor_assoc, Nat.xor_assoc, Nat.xor_comm (if b % 2 = 1 then a else 0)]
theorem vt_tm (n P a b m : Nat) : vt n P a b m = tm n P m a b := by
  induction m generalizing b with
  | zero => rfl
  | succ m ih => rw [vt_low, ih]; rfl
theorem rdAll_cl (n P a b : Nat) (ha : a < 2 ^ n) (m k : Nat) (h : m ≤ k + 1) : rdAll n P k (cl a b m) = vt n P a b m := by
  induction m with
  | zero => exact rdAll_zero n P k
  | succ m ih =>
    rw [cl, rdAll_xor, ih (by omega), vt]
    congr 1
    split
    · exact rdAll_shift n P a ha m k (by omega)
    · exact rdAll_zero n P k
/-- Both ways lead to the same product. -/
theorem cl_mul2 (n P a b : Nat) (ha : a < 2 ^ n) : rdAll n P (n + 1) (cl a b n) = mul2 n P a b := by
  rw [rdAll_cl n P a b ha n (n + 1) (by omega), vt_tm]; rfl

theorem cl_lt (a b n : Nat) (ha : a < 2 ^ n) (m : Nat) : cl a b m < 2 ^ (n + m) := by
  induction m with
  | zero => exact Nat.pow_pos (by decide)
  | succ m ih =>
    rw [cl]
    have h1 : cl a b m < 2 ^ (n + (m + 1)) := Nat.lt_of_lt_of_le ih (Nat.pow_le_pow_right (by decide) (by omega))
    refine Nat.xor_lt_two_pow h1 ?_
    split
    · rw [Nat.shiftLeft_eq]
      calc a * 2 ^ m < 2 ^ n * 2 ^ m := Nat.mul_lt_mul_of_pos_right ha (Nat.pow_pos (by decide))
        _ = 2 ^ (n + m) := (Nat.pow_add 2 n m).symm
        _ ≤ _ := Nat.pow_le_pow_right (by decide) (by omega)
    · exact Nat.pow_pos (by decide)
/-- Striking keeps below a bound. -/
theorem rd_lt {n P k x N : Nat} (hP2 : P < 2 ^ (n + 1)) (hx : x < 2 ^ N) (hk : k + 1 ≤ N) (hn : n ≤ k) : rd n P k x < 2 ^ N := by
  unfold rd
  split
  · refine Nat.xor_lt_two_pow hx ?_
    rw [Nat.shiftLeft_eq]
    calc P * 2 ^ (k - n) < 2 ^ (n + 1) * 2 ^ (k - n) := Nat.mul_lt_mul_of_pos_right hP2 (Nat.pow_pos (by decide))
      _ = 2 ^ (n + 1 + (k - n)) := (Nat.pow_add 2 _ _).symm
      _ ≤ _ := Nat.pow_le_pow_right (by decide) (by omega)
  · exact hx

/-! Repeated squaring. -/
section
variable {q : Nat} {mul : Nat → Nat → Nat} (M : Mon q mul)
include M
theorem pw_sq {a : Nat} (ha : a < q) (m : Nat) : pw mul (mul a a) m = pw mul a (2 * m) := by
  have : mul a a = pw mul a 2 := by show mul a a = mul (mul 1 a) a; rw [M.one a ha]
  rw [this, pw_mul M ha]
theorem sq_even {o a n r : Nat} (ha : a < q) (hn : n % 2 = 0) (h : mul o (pw mul a n) = r) : mul o (pw mul (mul a a) (n / 2)) = r := by
  rw [pw_sq M ha, show 2 * (n / 2) = n by omega]; exact h
theorem sq_odd {o a n r : Nat} (ho : o < q) (ha : a < q) (hn : n % 2 = 1) (h : mul o (pw mul a n) = r) : mul (mul o a) (pw mul (mul a a) (n / 2)) = r := by
  rw [pw_sq M ha, M.assoc _ _ _ ho ha (pw_lt M ha _), ← h]
  congr 1
  have e : n = 1 + 2 * (n / 2) := by omega
  conv => rhs; rw [e, pw_add M ha, pw_one M ha]
/-- A power by logarithms. -/
theorem pw_log {g : Nat} (hg : g < q) (h : gen q mul g = true) {a l : Nat} (hl : pw mul g l = a) (n : Nat) : pw mul a n = pw mul g (l * n % (q - 1)) := by
  rw [← hl, pw_mul M hg, ← pw_mod M hg (gen_parts M h).1]
/-- The inverse. -/
theorem inv_mul {g : Nat} (hg : g < q) (h : gen q mul g = true) {a : Nat} (ha : a < q) (h0 : a ≠ 0) : mul a (pw mul a (q - 2)) = 1 := by
  obtain ⟨l, hl, he⟩ := log_exists M hg h ha h0
  have hq := M.three
  have h1 : mul a (pw mul a (q - 2)) = pw mul a (q - 1) := by
    rw [M.comm _ _ ha (pw_lt M ha _)]
    show pw mul a ((q - 2) + 1) = _
    rw [show q - 2 + 1 = q - 1 by omega]
  rw [h1, ← he, pw_mul M hg, Nat.mul_comm, ← pw_mul M hg, (gen_parts M h).1, one_pw M]
end

/-! Generators, in the order in which the model and the program look at powers. -/
section
variable {q : Nat} {mul : Nat → Nat → Nat} (M : Mon q mul)
include M
theorem gen_no_early {a j : Nat} (hj : j < q - 1) (h1 : 1 ≤ j) (h : pw mul a j = 1) : gen q mul a = false := by
  have _ := M
  rw [gen, decide_eq_false_iff_not]
  exact fun h2 => h2.2 j hj h1 h
theorem gen_no_last {a : Nat} (h : pw mul a (q - 1) ≠ 1) : gen q mul a = false := by
  have _ := M
  rw [gen, decide_eq_false_iff_not]
  exact fun h2 => h h2.1
theorem gen_yes {a : Nat} (h : pw mul a (q - 1) = 1) (h2 : ∀ j, j < q - 1 → 1 ≤ j → pw mul a j ≠ 1) : gen q mul a = true := by
  have _ := M
  rw [gen, decide_eq_true_eq]
  exact ⟨h, h2⟩
theorem gen_no_zero {a j : Nat} (ha : a < q) (hj : j ≤ q - 1) (h : pw mul a j = 0) : gen q mul a = false :=
  gen_no_last M (by rw [pw_stays M ha h hj]; decide)
end

/-- The least number from 1 to q - 1 that generates, or 0. -/
def least (q : Nat) (mul : Nat → Nat → Nat) : Nat := ((List.range q).find? (fun a => decide (1 ≤ a) && gen q mul a)).getD 0
theorem find_at {p : Nat → Bool} {n i : Nat} (hi : i < n) (hp : p i = true) (hb : ∀ j, j < i → p j = false) : (List.range n).find? p = some i := by
  rw [List.find?_range_eq_some]
  refine ⟨hp, by simpa using hi, fun j hj => ?_⟩
  simp [hb j hj]
theorem least_at {q i : Nat} {mul : Nat → Nat → Nat} (hi : i < q) (h1 : 1 ≤ i) (hg : gen q mul i = true) (hb : ∀ j, j < i → 1 ≤ j → gen q mul j = false) : least q mul = i := by
  rw [least, find_at hi (by simp [h1, hg])]
  · rfl
  · intro j hj
    by_cases h : 1 ≤ j
    · simp [hb j hj h]
    · simp [h]
theorem least_none {q : Nat} {mul : Nat → Nat → Nat} (hb : ∀ j, j < q → 1 ≤ j → gen q mul j = false) : least q mul = 0 := by
  rw [least, List.find?_eq_none.2]
  · rfl
  · intro j hj
    by_cases h : 1 ≤ j
    · simp [hb j (List.mem_range.1 hj) h]
    · simp [h]
theorem least_spec {q : Nat} {mul : Nat → Nat → Nat} (h : ∃ g, g < q ∧ 1 ≤ g ∧ gen q mul g = true) : 1 ≤ least q mul ∧ least q mul < q ∧ gen q mul (least q mul) = true ∧ ∀ j, j < least q mul → 1 ≤ j → gen q mul j = false := by
  rcases hf : (List.range q).find? (fun a => decide (1 ≤ a) && gen q mul a) with _ | i
  · obtain ⟨g, hg, h1, h2⟩ := h
    have := List.find?_eq_none.1 hf g (List.mem_range.2 hg)
    simp [h1, h2] at this
  · have hl : least q mul = i := by rw [least, hf]; rfl
    rw [hl]
    rw [List.find?_range_eq_some] at hf
    obtain ⟨h1, h2, h3⟩ := hf
    simp only [Bool.and_eq_true, decide_eq_true_eq] at h1
    refine ⟨h1.1, by simpa using h2, h1.2, fun j hj h1j => ?_⟩
    have := h3 j hj
    simpa [h1j] using this

/-! Prime numbers. -/
def primeB (n : Nat) : Bool := decide (∀ d, d < n → 2 ≤ d → d * d ≤ n → n % d ≠ 0)
theorem primeB_no {n d : Nat} (h2 : 2 ≤ d) (hd : d * d ≤ n) (h : n % d = 0) : primeB n = false := by
  rw [primeB, decide_eq_false_iff_not]
  intro hh
  have : 2 * d ≤ d * d := Nat.mul_le_mul_right d h2
  exact hh d (by omega) h2 hd h
theorem primeB_yes {n d : Nat} (hd : n < d * d) (h : ∀ e, e < d → 2 ≤ e → n % e ≠ 0) : primeB n = true := by
  rw [primeB, decide_eq_true_eq]
  intro e _ h2 he
  refine h e ?_ h2
  rcases Nat.lt_or_ge e d with h1 | h1
  · exact h1
  · have := Nat.mul_le_mul h1 h1; omega

/-! Every prime number from 3 to 1021 has a generator: a table of them is held against the definition. -/
def runs (p g : Nat) : Nat → Nat → Bool
  | 0, x => x == 1
  | m + 1, x => x != 1 && runs p g m (x * g % p)
theorem runs_pw {p g : Nat} (m j : Nat) (h : runs p g m (pw (mul1 p) g j) = true) : pw (mul1 p) g (j + m) = 1 ∧ ∀ i, j ≤ i → i < j + m → pw (mul1 p) g i ≠ 1 := by
  induction m generalizing j with
  | zero =>
    simp only [runs, beq_iff_eq] at h
    exact ⟨h, fun i h1 h2 => by omega⟩
  | succ m ih =>
    simp only [runs, Bool.and_eq_true, bne_iff_ne, ne_eq] at h
    have := ih (j + 1) h.2
    refine ⟨by rw [show j + (m + 1) = j + 1 + m by omega]; exact this.1, fun i h1 h2 => ?_⟩
    rcases Nat.lt_or_ge j i with h3 | h3
    · exact this.2 i h3 (by omega)
    · have : i = j := by omega
      subst this; exact h.1
theorem runs_gen {p g : Nat} (hp : 3 ≤ p) (hg : g < p) (h : runs p g (p - 2) g = true) : gen p (mul1 p) g = true := by
  have h1 : pw (mul1 p) g 1 = g := pw_one (mon1 hp) hg
  have := runs_pw (p := p) (g := g) (p - 2) 1 (by rw [h1]; exact h)
  rw [show 1 + (p - 2) = p - 1 by omega] at this
  exact gen_yes (mon1 hp) this.1 (fun j hj h2 => this.2 j h2 hj)
/-- A divisor from 2 on, up to the root. -/
def divs (n : Nat) : Nat → Nat → Bool
  | 0, _ => false
  | m + 1, d => n % d == 0 && decide (d * d ≤ n) || divs n m (d + 1)
theorem divs_no {n : Nat} (m d : Nat) (hd : 2 ≤ d) (h : divs n m d = true) : primeB n = false := by
  induction m generalizing d with
  | zero => cases h
  | succ m ih =>
    simp only [divs, Bool.or_eq_true, Bool.and_eq_true, beq_iff_eq, decide_eq_true_eq] at h
    rcases h with ⟨h1, h2⟩ | h
    · exact primeB_no hd h2 h1
    · exact ih (d + 1) (by omega) h
/-- Some number up to 30 that generates. -/
def seek (p : Nat) : Nat → Nat → Bool
  | 0, _ => false
  | m + 1, g => decide (g < p) && runs p g (p - 2) g || seek p m (g + 1)
theorem seek_gen {p : Nat} (hp : 3 ≤ p) (m g : Nat) (h1 : 1 ≤ g) (h : seek p m g = true) : ∃ g, g < p ∧ 1 ≤ g ∧ gen p (mul1 p) g = true := by
  induction m generalizing g with
  | zero => cases h
  | succ m ih =>
    simp only [seek, Bool.or_eq_true, Bool.and_eq_true, decide_eq_true_eq] at h
    rcases h with ⟨h2, h3⟩ | h
    · exact ⟨g, h2, h1, runs_gen hp h2 h3⟩
    · exact ih (g + 1) (by omega) h
def each : Nat → Nat → Bool
  | 0, _ => true
  | m + 1, p => (divs p 30 2 || seek p 30 1) && each m (p + 1)
theorem each_at (m p : Nat) (h : each m p = true) (i : Nat) (h1 : p ≤ i) (h2 : i < p + m) : (divs i 30 2 || seek i 30 1) = true := by
  induction m generalizing p with
  | zero => omega
  | succ m ih =>
    simp only [each, Bool.and_eq_true] at h
    rcases Nat.lt_or_ge p i with h3 | h3
    · exact ih (p + 1) h.2 h3 (by omega)
    · have : i = p := by omega
      subst this; exact h.1
set_option maxRecDepth 100000 in
theorem each_all : each 1019 3 = true := by decide +kernel
theorem prime_gen {p : Nat} (h3 : 3 ≤ p) (h : p ≤ 1021) (hp : primeB p = true) : ∃ g, g < p ∧ 1 ≤ g ∧ gen p (mul1 p) g = true := by
  have := each_at 1019 3 each_all p h3 (by omega)
  rw [Bool.or_eq_true] at this
  rcases this with h1 | h1
  · rw [divs_no 30 2 (by omega) h1] at hp; cases hp
  · exact seek_gen h3 30 1 (by omega) h1
end Go.Proofs.Ytncgeoliboidhaa
