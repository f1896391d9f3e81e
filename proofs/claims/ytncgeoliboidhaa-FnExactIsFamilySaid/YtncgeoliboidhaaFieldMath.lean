/-
  Plain mathematics of finite fields: the product of both kinds, powers of an element, generators, logarithms.
  No condition: these are plain definitions and lemmas on natural numbers.
-/
namespace Go.Proofs.Ytncgeoliboidhaa

/-! Multiplication by x among the remainders by a polynomial with the bits of P and the degree n. -/
def xt (n P r : Nat) : Nat := if (2 * r).testBit n then (2 * r) ^^^ P else 2 * r
def tm (n P : Nat) : Nat → Nat → Nat → Nat
  | 0, _, _ => 0
  | m + 1, c, b => xt n P (tm n P m c (b / 2)) ^^^ (if b % 2 = 1 then c else 0)
/-- The product of two elements of a field of the second kind. -/
def mul2 (n P a b : Nat) : Nat := tm n P n a b
/-- The product of two elements of a field of the first kind. -/
def mul1 (p a b : Nat) : Nat := a * b % p

theorem two_xor (a b : Nat) : 2 * (a ^^^ b) = (2 * a) ^^^ (2 * b) := by
  have h := Nat.shiftLeft_xor_distrib (a := a) (b := b) (i := 1)
  simpa [Nat.shiftLeft_eq, Nat.mul_comm] using h

theorem xor_swap (a b c d : Nat) : (a ^^^ b) ^^^ (c ^^^ d) = (a ^^^ c) ^^^ (b ^^^ d) := by
  rw [Nat.xor_assoc, Nat.xor_assoc, ← Nat.xor_assoc b c d, Nat.xor_comm b c, Nat.xor_assoc c b d]

theorem xt_xor (n P r s : Nat) : xt n P (r ^^^ s) = xt n P r ^^^ xt n P s := by
  unfold xt
  rw [two_xor, Nat.testBit_xor]
  cases h1 : (2 * r).testBit n <;> cases h2 : (2 * s).testBit n <;> simp only [Bool.xor_false, Bool.xor_true, Bool.not_true, Bool.not_false, Bool.false_eq_true, if_true, if_false]
  · rw [Nat.xor_assoc]
  · rw [Nat.xor_assoc, Nat.xor_assoc, Nat.xor_comm P]
  · rw [xor_swap, Nat.xor_self, Nat.xor_zero]

theorem xt_zero (n P : Nat) : xt n P 0 = 0 := by simp [xt]

theorem tm_zero (n P : Nat) (m b : Nat) : tm n P m 0 b = 0 := by
  induction m generalizing b with
  | zero => rfl
  | succ m ih => simp only [tm, ih, xt_zero, ite_self, Nat.xor_self]

theorem tm_xor (n P m c d b : Nat) : tm n P m (c ^^^ d) b = tm n P m c b ^^^ tm n P m d b := by
  induction m generalizing b with
  | zero => simp [tm]
  | succ m ih =>
    simp only [tm, ih, xt_xor]
    split
    · rw [xor_swap]
    · simp

theorem tm_xt (n P m c b : Nat) : tm n P m (xt n P c) b = xt n P (tm n P m c b) := by
  induction m generalizing b with
  | zero => simp [tm, xt_zero]
  | succ m ih =>
    simp only [tm, ih, xt_xor]
    split
    · rfl
    · simp [xt_zero]

theorem tm_swap (n P m k c a b : Nat) : tm n P m (tm n P k c b) a = tm n P k (tm n P m c a) b := by
  induction m generalizing a with
  | zero => simp [tm, tm_zero]
  | succ m ih =>
    simp only [tm, ih, tm_xor, tm_xt]
    split
    · rfl
    · rw [tm_zero]

theorem bit_lt {n a : Nat} (h : a < 2 ^ n) : a.testBit n = false := Nat.testBit_lt_two_pow h

theorem xt_small {n P r : Nat} (h : 2 * r < 2 ^ n) : xt n P r = 2 * r := by
  rw [xt, bit_lt h]; simp

theorem tm_one (n P : Nat) (m a : Nat) (hm : m ≤ n) (h : a < 2 ^ m) : tm n P m 1 a = a := by
  induction m generalizing a with
  | zero => simp at h; subst h; rfl
  | succ m ih =>
    have h2 : a / 2 < 2 ^ m := by rw [Nat.pow_succ] at h; omega
    have hp : (2 : Nat) ^ (m + 1) ≤ 2 ^ n := Nat.pow_le_pow_right (by decide) hm
    rw [tm, ih _ (by omega) h2, xt_small (by rw [Nat.pow_succ] at h hp; omega)]
    have hx : (2 * (a / 2)) ^^^ (a % 2) = a := by
      have := Nat.shiftLeft_add_eq_or_of_lt (b := a % 2) (i := 1) (by omega) (a / 2)
      have he : 2 * (a / 2) = (a / 2) <<< 1 := by rw [Nat.shiftLeft_eq]; omega
      apply Nat.eq_of_testBit_eq
      intro i
      rw [Nat.testBit_xor, he]
      rcases i with _ | i
      · simp [Nat.testBit_zero]
      · rw [Nat.testBit_shiftLeft]
        have hb : (a % 2).testBit (i + 1) = false := Nat.testBit_lt_two_pow (Nat.lt_of_lt_of_le (show a % 2 < 2 ^ 1 by omega) (Nat.pow_le_pow_right (by decide) (by omega)))
        rw [hb]
        simp [Nat.testBit_succ]
    rcases (show a % 2 = 0 ∨ a % 2 = 1 by omega) with h0 | h0
    · rw [h0] at hx; simpa [h0] using hx
    · rw [h0] at hx; simpa [h0] using hx

theorem top_bit {n x : Nat} (h : x < 2 ^ (n + 1)) (hg : 2 ^ n ≤ x) : x.testBit n = true := by
  rw [Nat.testBit_eq_decide_div_mod_eq, decide_eq_true_eq]
  rw [Nat.pow_succ] at h
  have : x / 2 ^ n = 1 := by
    apply Nat.div_eq_of_lt_le <;> omega
  rw [this]

theorem no_top {n x : Nat} (h : x < 2 ^ (n + 1)) (hg : x.testBit n = false) : x < 2 ^ n := by
  rcases Nat.lt_or_ge x (2 ^ n) with h1 | h1
  · exact h1
  · rw [top_bit h h1] at hg; cases hg

theorem xt_lt {n P r : Nat} (hP : 2 ^ n ≤ P) (hP2 : P < 2 ^ (n + 1)) (hr : r < 2 ^ n) : xt n P r < 2 ^ n := by
  have h2 : 2 * r < 2 ^ (n + 1) := by rw [Nat.pow_succ]; omega
  unfold xt
  split
  · rename_i h
    exact no_top (Nat.xor_lt_two_pow h2 hP2) (by rw [Nat.testBit_xor, h, top_bit hP2 hP]; rfl)
  · rename_i h
    exact no_top h2 (by simpa using h)

theorem tm_lt {n P : Nat} (hP : 2 ^ n ≤ P) (hP2 : P < 2 ^ (n + 1)) (m c b : Nat) (hc : c < 2 ^ n) : tm n P m c b < 2 ^ n := by
  induction m generalizing b with
  | zero => exact Nat.pow_pos (by decide)
  | succ m ih =>
    rw [tm]
    refine Nat.xor_lt_two_pow (xt_lt hP hP2 (ih _)) ?_
    split
    · exact hc
    · exact Nat.pow_pos (by decide)

/-- What a set of elements with a product needs to be reckoned with. -/
structure Mon (q : Nat) (mul : Nat → Nat → Nat) : Prop where
  three : 3 ≤ q
  clo : ∀ a b, a < q → b < q → mul a b < q
  comm : ∀ a b, a < q → b < q → mul a b = mul b a
  assoc : ∀ a b c, a < q → b < q → c < q → mul (mul a b) c = mul a (mul b c)
  one : ∀ a, a < q → mul 1 a = a
  zero : ∀ a, mul 0 a = 0

theorem mon1 {p : Nat} (h : 3 ≤ p) : Mon p (mul1 p) where
  three := h
  clo a b _ _ := Nat.mod_lt _ (by omega)
  comm a b _ _ := by unfold mul1; rw [Nat.mul_comm]
  assoc a b c _ _ _ := by unfold mul1; rw [Nat.mod_mul_mod, Nat.mul_mod_mod, Nat.mul_assoc]
  one a ha := by unfold mul1; rw [Nat.one_mul]; exact Nat.mod_eq_of_lt ha
  zero a := by simp [mul1]

theorem mul2_comm {n P a b : Nat} (ha : a < 2 ^ n) (hb : b < 2 ^ n) : mul2 n P a b = mul2 n P b a := by
  unfold mul2
  have h1 := tm_one n P n a (Nat.le_refl _) ha
  have h2 := tm_one n P n b (Nat.le_refl _) hb
  have h3 := tm_swap n P n n 1 b a
  rw [h1, h2] at h3
  exact h3

theorem mon2 {n P : Nat} (hn : 3 ≤ n) (hP : 2 ^ n ≤ P) (hP2 : P < 2 ^ (n + 1)) : Mon (2 ^ n) (mul2 n P) where
  three := Nat.le_trans (by decide) (Nat.pow_le_pow_right (n := 2) (by decide) hn)
  clo a b ha _ := tm_lt hP hP2 _ _ _ ha
  comm a b ha hb := mul2_comm ha hb
  assoc a b c ha hb hc := by
    have h1 : mul2 n P b c < 2 ^ n := tm_lt hP hP2 _ _ _ hb
    rw [mul2_comm ha h1, mul2_comm ha hb]
    unfold mul2
    exact tm_swap n P n n b c a
  one a ha := tm_one n P n a (Nat.le_refl _) ha
  zero a := tm_zero n P n a

theorem mul2_xor {n P : Nat} (c a b : Nat) (hc : c < 2 ^ n) (ha : a < 2 ^ n) (hb : b < 2 ^ n) : mul2 n P c (a ^^^ b) = mul2 n P c a ^^^ mul2 n P c b := by
  rw [mul2_comm hc (Nat.xor_lt_two_pow ha hb), mul2_comm hc ha, mul2_comm hc hb]
  exact tm_xor n P n a b c

/-! Powers. -/
def pw (mul : Nat → Nat → Nat) (a : Nat) : Nat → Nat
  | 0 => 1
  | j + 1 => mul (pw mul a j) a

/-- Whether the powers of a are all elements but 0: the first one to be 1 again has the number q - 1. -/
def gen (q : Nat) (mul : Nat → Nat → Nat) (a : Nat) : Bool := decide (pw mul a (q - 1) = 1 ∧ ∀ j, j < q - 1 → 1 ≤ j → pw mul a j ≠ 1)

section
variable {q : Nat} {mul : Nat → Nat → Nat} (M : Mon q mul)
include M

theorem pw_lt {a : Nat} (ha : a < q) (j : Nat) : pw mul a j < q := by
  induction j with
  | zero => show 1 < q; have := M.three; omega
  | succ j ih => exact M.clo _ _ ih ha
theorem pw_one {a : Nat} (ha : a < q) : pw mul a 1 = a := M.one a ha
theorem mul_one {a : Nat} (ha : a < q) : mul a 1 = a := by
  rw [M.comm a 1 ha (by have := M.three; omega)]; exact M.one a ha
theorem mul_zero {a : Nat} (ha : a < q) : mul a 0 = 0 := by
  rw [M.comm a 0 ha (by have := M.three; omega)]; exact M.zero a
theorem pw_add {a : Nat} (ha : a < q) (i j : Nat) : pw mul a (i + j) = mul (pw mul a i) (pw mul a j) := by
  induction j with
  | zero => exact (mul_one M (pw_lt M ha i)).symm
  | succ j ih =>
    rw [← Nat.add_assoc]
    show mul (pw mul a (i + j)) a = mul _ (mul _ a)
    rw [ih, M.assoc _ _ _ (pw_lt M ha i) (pw_lt M ha j) ha]
theorem pw_mul {a : Nat} (ha : a < q) (i j : Nat) : pw mul (pw mul a i) j = pw mul a (i * j) := by
  induction j with
  | zero => rfl
  | succ j ih =>
    show mul (pw mul (pw mul a i) j) _ = _
    rw [ih, Nat.mul_succ, pw_add M ha]
theorem one_pw (j : Nat) : pw mul 1 j = 1 := by
  have h1 : 1 < q := by have := M.three; omega
  induction j with
  | zero => rfl
  | succ j ih => show mul _ 1 = 1; rw [ih]; exact M.one 1 h1
theorem zero_pw {j : Nat} (hj : 1 ≤ j) : pw mul 0 j = 0 := by
  obtain ⟨i, rfl⟩ : ∃ i, j = i + 1 := ⟨j - 1, by omega⟩
  exact mul_zero M (pw_lt M (by have := M.three; omega) i)
/-- A power that is 0 stays 0. -/
theorem pw_stays {a : Nat} (ha : a < q) {i j : Nat} (h : pw mul a i = 0) (hij : i ≤ j) : pw mul a j = 0 := by
  obtain ⟨k, rfl⟩ : ∃ k, j = i + k := ⟨j - i, by omega⟩
  rw [pw_add M ha, h]; exact M.zero _
/-- Powers repeat after as many as lead to 1. -/
theorem pw_mod {a : Nat} (ha : a < q) {m : Nat} (h : pw mul a m = 1) (i : Nat) : pw mul a i = pw mul a (i % m) := by
  have h1 : 1 < q := by have := M.three; omega
  have e : i = m * (i / m) + i % m := (Nat.div_add_mod i m).symm
  calc pw mul a i = pw mul a (m * (i / m) + i % m) := by rw [← e]
    _ = _ := by rw [pw_add M ha, ← pw_mul M ha, h, one_pw M, M.one _ (pw_lt M ha _)]

theorem gen_parts {a : Nat} (h : gen q mul a = true) : pw mul a (q - 1) = 1 ∧ ∀ j, j < q - 1 → 1 ≤ j → pw mul a j ≠ 1 := by
  have _ := M
  simpa only [gen, decide_eq_true_eq] using h

theorem gen_inj {g : Nat} (hg : g < q) (h : gen q mul g = true) {i j : Nat} (hi : i < q - 1) (hj : j < q - 1) (hij : i < j) : pw mul g i ≠ pw mul g j := by
  obtain ⟨h1, h2⟩ := gen_parts M h
  intro he
  refine h2 (j - i) (by omega) (by omega) ?_
  have e1 : pw mul g (j + (q - 1 - i)) = pw mul g (i + (q - 1 - i)) := by rw [pw_add M hg, pw_add M hg, he]
  have e2 : j + (q - 1 - i) = (j - i) + (q - 1) := by omega
  have e3 : i + (q - 1 - i) = q - 1 := by omega
  rw [e2, e3, h1, pw_add M hg, h1, mul_one M (pw_lt M hg _)] at e1
  exact e1
theorem gen_pos {g : Nat} (hg : g < q) (h : gen q mul g = true) (i : Nat) : pw mul g i ≠ 0 := by
  obtain ⟨h1, h2⟩ := gen_parts M h
  have hq := M.three
  intro he
  have : pw mul g ((q - 1) * (i + 1)) = 0 := pw_stays M hg he (by
    have : i + 1 ≤ (q - 1) * (i + 1) := Nat.le_mul_of_pos_left _ (by omega)
    omega)
  rw [← pw_mul M hg, h1, one_pw M] at this
  cases this
end

theorem pigeon (n : Nat) : ∀ l : List Nat, l.Nodup → (∀ x ∈ l, x < n) → l.length ≤ n := by
  induction n with
  | zero =>
    intro l _ h
    rcases l with _ | ⟨x, l⟩
    · exact Nat.le_refl _
    · have := h x (by simp); omega
  | succ n ih =>
    intro l hl h
    have h1 := ih (l.erase n) (hl.erase n) (fun x hx => by
      have hm := List.mem_of_mem_erase hx
      have hne : x ≠ n := fun e => by
        subst e
        exact (List.Nodup.not_mem_erase hl) hx
      have := h x hm; omega)
    have h2 := List.length_erase_le (a := n) (l := l)
    have h3 : l.length ≤ (l.erase n).length + 1 := by
      rw [List.length_erase]; split <;> omega
    omega

section
variable {q : Nat} {mul : Nat → Nat → Nat} (M : Mon q mul)
include M
/-- Every element but 0 is a power of a generator. -/
theorem log_exists {g : Nat} (hg : g < q) (h : gen q mul g = true) {a : Nat} (ha : a < q) (h0 : a ≠ 0) : ∃ l, l < q - 1 ∧ pw mul g l = a := by
  by_cases hex : ∃ l, l < q - 1 ∧ pw mul g l = a
  · exact hex
  · exfalso
    have hq := M.three
    let L := (List.range (q - 1)).map (fun i => pw mul g i - 1)
    have hL : ((a - 1) :: L).Nodup := by
      rw [List.nodup_cons]
      constructor
      · intro hm
        obtain ⟨i, hi, he⟩ := List.mem_map.1 hm
        have hp := gen_pos M hg h i
        exact hex ⟨i, List.mem_range.1 hi, by omega⟩
      · refine List.pairwise_map.2 (List.Pairwise.imp_of_mem ?_ List.pairwise_lt_range)
        intro i j hi hj hl he
        have hpi := gen_pos M hg h i
        have hpj := gen_pos M hg h j
        exact absurd (show pw mul g i = pw mul g j by omega) (gen_inj M hg h (List.mem_range.1 hi) (List.mem_range.1 hj) hl)
    have := pigeon (q - 1) _ hL (by
      intro x hx
      rcases List.mem_cons.1 hx with rfl | hx
      · omega
      · obtain ⟨i, _, rfl⟩ := List.mem_map.1 hx
        have := pw_lt M hg i
        omega)
    simp [L] at this
    omega
end
end Go.Proofs.Ytncgeoliboidhaa
