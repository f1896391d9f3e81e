/-
  A struct of three numbers that a call was given, in the block that the call made of it; small words for walks.
  Plain mathematics of finite fields: the product of both kinds, powers of an element, generators, logarithms.
  More plain mathematics of finite fields: the model's way of multiplying, repeated squaring, least generators, prime numbers.
  The two kinds of fields, as what their functions reckon with; small words for walks over fields.
  When a field is valid, told by its numbers.
  The errors of functions with a field, sums and negatives, told by the numbers of the field.
  What FieldOf finds, told by numbers.
  Condition: as each statement says.
-/
import Derived.Test.YtncgeoliboidhaaGreatWords
namespace Go.Proofs.YtncgeoliboidhaaGreat
open Go.RowKit

/-- What a function leaves that returns two values and at most makes new memory. -/
def GivesII (a b : Int) (w : World) (x : Ending) (w' : World) : Prop := x = .returned (.tuple #[.int .i64 a, .int .i64 b]) ∧ Below w.heap.size w w'

/-- Three cells of a block. -/
theorem cells3 {w : World} {g : Nat} {a b c : Value} {t : TypeId} {fr : Nat × Nat} (h : w.heap[g]? = some (.cells #[a, b, c] t fr)) :
    w.cell? ⟨g, 0, none⟩ = some a ∧ w.cell? ⟨g, 1, none⟩ = some b ∧ w.cell? ⟨g, 2, none⟩ = some c :=
  ⟨cell_of_row w g 0 _ _ _ h, cell_of_row w g 1 _ _ _ h, cell_of_row w g 2 _ _ _ h⟩
theorem i64xor (a b : Nat) (ha : a < 4611686018427387904) (hb : b < 4611686018427387904) : bits .xor .i64 (a : Int) (b : Int) = ((a ^^^ b : Nat) : Int) := by
  show IntKind.i64.wrap ((BitVec.ofInt 64 (a : Int) ^^^ BitVec.ofInt 64 (b : Int)).toNat : Int) = _
  have h : a ^^^ b < 2 ^ 62 := Nat.xor_lt_two_pow (show a < 2 ^ 62 from ha) (show b < 2 ^ 62 from hb)
  rw [BitVec.toNat_xor, i64Nat a (by omega), i64Nat b (by omega), IntKind.wrap_i64]
  omega

/-- The struct that a call was given lies in the first block that it made, and nothing before it has changed. -/
def Box (w wr : World) (t : TypeId) (p k g : Int) : Prop :=
  wr.heap[w.heap.size]? = some (.cells #[.int .i64 p, .int .i64 k, .int .i64 g] t (0, 0)) ∧ Below w.heap.size w wr
section
variable {w wr wr' : World} {t : TypeId} {p k g : Int}
theorem Box.start (w : World) (t : TypeId) (p k g : Int) : Box w (w.alloc (.cells #[.int .i64 p, .int .i64 k, .int .i64 g] t)) t p k g :=
  ⟨heap_alloc_new w _, (Below.refl _ _).alloc (Nat.le_refl _) _⟩
theorem Box.lt (h : Box w wr t p k g) : w.heap.size < wr.heap.size := (Array.getElem?_eq_some_iff.1 h.1).1
theorem Box.next (h : Box w wr t p k g) (hb : Below wr.heap.size wr wr') : Box w wr' t p k g :=
  ⟨by rw [hb.block _ h.lt]; exact h.1, h.2.trans (hb.mono (Nat.le_of_lt h.lt))⟩
theorem Box.alloc (h : Box w wr t p k g) (o : Obj) : Box w (wr.alloc o) t p k g := h.next ((Below.refl _ _).alloc (Nat.le_refl _) o)
theorem Box.drew (h : Box w wr t p k g) : Box w wr.drew t p k g := ⟨h.1, h.2.drew⟩
theorem Box.drewN (h : Box w wr t p k g) (n : Nat) : Box w (wr.drewN n) t p k g := ⟨h.1, below_drewN h.2 n⟩
theorem Box.cells (h : Box w wr t p k g) : wr.cell? ⟨w.heap.size, 0, none⟩ = some (.int .i64 p) ∧ wr.cell? ⟨w.heap.size, 1, none⟩ = some (.int .i64 k) ∧ wr.cell? ⟨w.heap.size, 2, none⟩ = some (.int .i64 g) := cells3 h.1
end
theorem alloc_size (w : World) (o : Obj) : (w.alloc o).heap.size = w.heap.size + 1 := by show (w.heap.push o).size = _; simp
theorem Own.low {w : World} {base base' : Nat} {e : TypeId} {k : IntKind} {v : Value} {zs : List Int} (h : Own w base e k v zs) (hb : base' ≤ base) : Own w base' e k v zs := by
  refine ⟨h.1, ?_⟩
  rcases h.2 with h0 | ⟨g, cap, cur, h1, h2, h3⟩
  · exact .inl h0
  · exact .inr ⟨g, cap, cur, h1, by omega, h3⟩
theorem Box.grow' {w wr wr' : World} {t : TypeId} {p k g : Int} {row : Option Nat} (h : Box w wr t p k g) (hg : wr.grownBy wr' row) (hr : ∀ b, row = some b → w.heap.size < b) : Box w wr' t p k g :=
  ⟨by rw [hg.block _ h.lt (by intro e; have := hr _ e.symm; omega)]; exact h.1, h.2.grown hg (Nat.le_of_lt h.lt) (fun r hr' => by have := hr r hr'; omega)⟩
end Go.Proofs.YtncgeoliboidhaaGreat

namespace Go.Proofs.YtncgeoliboidhaaGreat

/-! Multiplication by x among the remainders by a polynomial with the bits of P and the degree n. -/
def xt (n P r : Nat) : Nat := if (2 * r).testBit n then (2 * r) ^^^ P else 2 * r
def tm (n P : Nat) : Nat → Nat → Nat → Nat
  | 0, _, _ => 0
  | m + 1, c, b => xt n P (tm n P m c (b / 2)) ^^^ (if b % 2 = 1 then c else 0)
/-- The product of two elements of a field of the second kind. -/
def mul2 (n P a b : Nat) : Nat := tm n P n a b
/-- The product of two elements of a field of the first kind. -/
def mul1 (p a b : Nat) : Nat := a * b % p

theorem two_xor (a b : Nat) : 2 * (a ^^^ b) = (2 * a) ^^^ (2 * b) := by
  have h := Nat.shiftLeft_xor_distrib (a := a) (b := b) (i := 1)
  simpa [Nat.shiftLeft_eq, Nat.mul_comm] using h

theorem xor_swap (a b c d : Nat) : (a ^^^ b) ^^^ (c ^^^ d) = (a ^^^ c) ^^^ (b ^^^ d) := by
  rw [Nat.xor_assoc, Nat.xor_assoc, ← Nat.xor_assoc b c d, Nat.xor_comm b c, Nat.xor_assoc c b d]

theorem xt_xor (n P r s : Nat) : xt n P (r ^^^ s) = xt n P r ^^^ xt n P s := by
  unfold xt
  rw [two_xor, Nat.testBit_xor]
  cases h1 : (2 * r).testBit n <;> cases h2 : (2 * s).testBit n <;> simp only [Bool.xor_false, Bool.xor_true, Bool.not_true, Bool.not_false, Bool.false_eq_true, if_true, if_false]
  · rw [Nat.xor_assoc]
  · rw [Nat.xor_assoc, Nat.xor_assoc, Nat.xor_comm P]
  · rw [xor_swap, Nat.xor_self, Nat.xor_zero]

theorem xt_zero (n P : Nat) : xt n P 0 = 0 := by simp [xt]

theorem tm_zero (n P : Nat) (m b : Nat) : tm n P m 0 b = 0 := by
  induction m generalizing b with
  | zero => rfl
  | succ m ih => simp only [tm, ih, xt_zero, ite_self, Nat.xor_self]

theorem tm_xor (n P m c d b : Nat) : tm n P m (c ^^^ d) b = tm n P m c b ^^^ tm n P m d b := by
  induction m generalizing b with
  | zero => simp [tm]
  | succ m ih =>
    simp only [tm, ih, xt_xor]
    split
    · rw [xor_swap]
    · simp

theorem tm_xt (n P m c b : Nat) : tm n P m (xt n P c) b = xt n P (tm n P m c b) := by
  induction m generalizing b with
  | zero => simp [tm, xt_zero]
  | succ m ih =>
    simp only [tm, ih, xt_xor]
    split
    · rfl
    · simp [xt_zero]

theorem tm_swap (n P m k c a b : Nat) : tm n P m (tm n P k c b) a = tm n P k (tm n P m c a) b := by
  induction m generalizing a with
  | zero => simp [tm, tm_zero]
  | succ m ih =>
    simp only [tm, ih, tm_xor, tm_xt]
    split
    · rfl
    · rw [tm_zero]

theorem bit_lt {n a : Nat} (h : a < 2 ^ n) : a.testBit n = false := Nat.testBit_lt_two_pow h

theorem xt_small {n P r : Nat} (h : 2 * r < 2 ^ n) : xt n P r = 2 * r := by
  rw [xt, bit_lt h]; simp

theorem tm_one (n P : Nat) (m a : Nat) (hm : m ≤ n) (h : a < 2 ^ m) : tm n P m 1 a = a := by
  induction m generalizing a with
  | zero => simp at h; subst h; rfl
  | succ m ih =>
    have h2 : a / 2 < 2 ^ m := by rw [Nat.pow_succ] at h; omega
    have hp : (2 : Nat) ^ (m + 1) ≤ 2 ^ n := Nat.pow_le_pow_right (by decide) hm
    rw [tm, ih _ (by omega) h2, xt_small (by rw [Nat.pow_succ] at h hp; omega)]
    have hx : (2 * (a / 2)) ^^^ (a % 2) = a := by
      have := Nat.shiftLeft_add_eq_or_of_lt (b := a % 2) (i := 1) (by omega) (a / 2)
      have he : 2 * (a / 2) = (a / 2) <<< 1 := by rw [Nat.shiftLeft_eq]; omega
      apply Nat.eq_of_testBit_eq
      intro i
      rw [Nat.testBit_xor, he]
      rcases i with _ | i
      · simp [Nat.testBit_zero]
      · rw [Nat.testBit_shiftLeft]
        have hb : (a % 2).testBit (i + 1) = false := Nat.testBit_lt_two_pow (Nat.lt_of_lt_of_le (show a % 2 < 2 ^ 1 by omega) (Nat.pow_le_pow_right (by decide) (by omega)))
        rw [hb]
        simp [Nat.testBit_succ]
    rcases (show a % 2 = 0 ∨ a % 2 = 1 by omega) with h0 | h0
    · rw [h0] at hx; simpa [h0] using hx
    · rw [h0] at hx; simpa [h0] using hx

theorem top_bit {n x : Nat} (h : x < 2 ^ (n + 1)) (hg : 2 ^ n ≤ x) : x.testBit n = true := by
  rw [Nat.testBit_eq_decide_div_mod_eq, decide_eq_true_eq]
  rw [Nat.pow_succ] at h
  have : x / 2 ^ n = 1 := by
    apply Nat.div_eq_of_lt_le <;> omega
  rw [this]

theorem no_top {n x : Nat} (h : x < 2 ^ (n + 1)) (hg : x.testBit n = false) : x < 2 ^ n := by
  rcases Nat.lt_or_ge x (2 ^ n) with h1 | h1
  · exact h1
  · rw [top_bit h h1] at hg; cases hg

theorem xt_lt {n P r : Nat} (hP : 2 ^ n ≤ P) (hP2 : P < 2 ^ (n + 1)) (hr : r < 2 ^ n) : xt n P r < 2 ^ n := by
  have h2 : 2 * r < 2 ^ (n + 1) := by rw [Nat.pow_succ]; omega
  unfold xt
  split
  · rename_i h
    exact no_top (Nat.xor_lt_two_pow h2 hP2) (by rw [Nat.testBit_xor, h, top_bit hP2 hP]; rfl)
  · rename_i h
    exact no_top h2 (by simpa using h)

theorem tm_lt {n P : Nat} (hP : 2 ^ n ≤ P) (hP2 : P < 2 ^ (n + 1)) (m c b : Nat) (hc : c < 2 ^ n) : tm n P m c b < 2 ^ n := by
  induction m generalizing b with
  | zero => exact Nat.pow_pos (by decide)
  | succ m ih =>
    rw [tm]
    refine Nat.xor_lt_two_pow (xt_lt hP hP2 (ih _)) ?_
    split
    · exact hc
    · exact Nat.pow_pos (by decide)

/-- What a set of elements with a product needs to be reckoned with. -/
structure Mon (q : Nat) (mul : Nat → Nat → Nat) : Prop where
  three : 3 ≤ q
  clo : ∀ a b, a < q → b < q → mul a b < q
  comm : ∀ a b, a < q → b < q → mul a b = mul b a
  assoc : ∀ a b c, a < q → b < q → c < q → mul (mul a b) c = mul a (mul b c)
  one : ∀ a, a < q → mul 1 a = a
  zero : ∀ a, mul 0 a = 0

theorem mon1 {p : Nat} (h : 3 ≤ p) : Mon p (mul1 p) where
  three := h
  clo a b _ _ := Nat.mod_lt _ (by omega)
  comm a b _ _ := by unfold mul1; rw [Nat.mul_comm]
  assoc a b c _ _ _ := by unfold mul1; rw [Nat.mod_mul_mod, Nat.mul_mod_mod, Nat.mul_assoc]
  one a ha := by unfold mul1; rw [Nat.one_mul]; exact Nat.mod_eq_of_lt ha
  zero a := by simp [mul1]

theorem mul2_comm {n P a b : Nat} (ha : a < 2 ^ n) (hb : b < 2 ^ n) : mul2 n P a b = mul2 n P b a := by
  unfold mul2
  have h1 := tm_one n P n a (Nat.le_refl _) ha
  have h2 := tm_one n P n b (Nat.le_refl _) hb
  have h3 := tm_swap n P n n 1 b a
  rw [h1, h2] at h3
  exact h3

theorem mon2 {n P : Nat} (hn : 3 ≤ n) (hP : 2 ^ n ≤ P) (hP2 : P < 2 ^ (n + 1)) : Mon (2 ^ n) (mul2 n P) where
  three := Nat.le_trans (by decide) (Nat.pow_le_pow_right (n := 2) (by decide) hn)
  clo a b ha _ := tm_lt hP hP2 _ _ _ ha
  comm a b ha hb := mul2_comm ha hb
  assoc a b c ha hb hc := by
    have h1 : mul2 n P b c < 2 ^ n := tm_lt hP hP2 _ _ _ hb
    rw [mul2_comm ha h1, mul2_comm ha hb]
    unfold mul2
    exact tm_swap n P n n b c a
  one a ha := tm_one n P n a (Nat.le_refl _) ha
  zero a := tm_zero n P n a

theorem mul2_xor {n P : Nat} (c a b : Nat) (hc : c < 2 ^ n) (ha : a < 2 ^ n) (hb : b < 2 ^ n) : mul2 n P c (a ^^^ b) = mul2 n P c a ^^^ mul2 n P c b := by
  rw [mul2_comm hc (Nat.xor_lt_two_pow ha hb), mul2_comm hc ha, mul2_comm hc hb]
  exact tm_xor n P n a b c

/-! Powers. -/
def pw (mul : Nat → Nat → Nat) (a : Nat) : Nat → Nat
  | 0 => 1
  | j + 1 => mul (pw mul a j) a

/-- Whether the powers of a are all elements but 0: the first one to be 1 again has the number q - 1. -/
def gen (q : Nat) (mul : Nat → Nat → Nat) (a : Nat) : Bool := decide (pw mul a (q - 1) = 1 ∧ ∀ j, j < q - 1 → 1 ≤ j → pw mul a j ≠ 1)

section
variable {q : Nat} {mul : Nat → Nat → Nat} (M : Mon q mul)
include M

theorem pw_lt {a : Nat} (ha : a < q) (j : Nat) : pw mul a j < q := by
  induction j with
  | zero => show 1 < q; have := M.three; omega
  | succ j ih => exact M.clo _ _ ih ha
theorem pw_one {a : Nat} (ha : a < q) : pw mul a 1 = a := M.one a ha
theorem mul_one {a : Nat} (ha : a < q) : mul a 1 = a := by
  rw [M.comm a 1 ha (by have := M.three; omega)]; exact M.one a ha
theorem mul_zero {a : Nat} (ha : a < q) : mul a 0 = 0 := by
  rw [M.comm a 0 ha (by have := M.three; omega)]; exact M.zero a
theorem pw_add {a : Nat} (ha : a < q) (i j : Nat) : pw mul a (i + j) = mul (pw mul a i) (pw mul a j) := by
  induction j with
  | zero => exact (mul_one M (pw_lt M ha i)).symm
  | succ j ih =>
    rw [← Nat.add_assoc]
    show mul (pw mul a (i + j)) a = mul _ (mul _ a)
    rw [ih, M.assoc _ _ _ (pw_lt M ha i) (pw_lt M ha j) ha]
theorem pw_mul {a : Nat} (ha : a < q) (i j : Nat) : pw mul (pw mul a i) j = pw mul a (i * j) := by
  induction j with
  | zero => rfl
  | succ j ih =>
    show mul (pw mul (pw mul a i) j) _ = _
    rw [ih, Nat.mul_succ, pw_add M ha]
theorem one_pw (j : Nat) : pw mul 1 j = 1 := by
  have h1 : 1 < q := by have := M.three; omega
  induction j with
  | zero => rfl
  | succ j ih => show mul _ 1 = 1; rw [ih]; exact M.one 1 h1
theorem zero_pw {j : Nat} (hj : 1 ≤ j) : pw mul 0 j = 0 := by
  obtain ⟨i, rfl⟩ : ∃ i, j = i + 1 := ⟨j - 1, by omega⟩
  exact mul_zero M (pw_lt M (by have := M.three; omega) i)
/-- A power that is 0 stays 0. -/
theorem pw_stays {a : Nat} (ha : a < q) {i j : Nat} (h : pw mul a i = 0) (hij : i ≤ j) : pw mul a j = 0 := by
  obtain ⟨k, rfl⟩ : ∃ k, j = i + k := ⟨j - i, by omega⟩
  rw [pw_add M ha, h]; exact M.zero _
/-- Powers repeat after as many as lead to 1. -/
theorem pw_mod {a : Nat} (ha : a < q) {m : Nat} (h : pw mul a m = 1) (i : Nat) : pw mul a i = pw mul a (i % m) := by
  have h1 : 1 < q := by have := M.three; omega
  have e : i = m * (i / m) + i % m := (Nat.div_add_mod i m).symm
  calc pw mul a i = pw mul a (m * (i / m) + i % m) := by rw [← e]
    _ = _ := by rw [pw_add M ha, ← pw_mul M ha, h, one_pw M, M.one _ (pw_lt M ha _)]

theorem gen_parts {a : Nat} (h : gen q mul a = true) : pw mul a (q - 1) = 1 ∧ ∀ j, j < q - 1 → 1 ≤ j → pw mul a j ≠ 1 := by
  have _ := M
  simpa only [gen, decide_eq_true_eq] using h

theorem gen_inj {g : Nat} (hg : g < q) (h : gen q mul g = true) {i j : Nat} (hi : i < q - 1) (hj : j < q - 1) (hij : i < j) : pw mul g i ≠ pw mul g j := by
  obtain ⟨h1, h2⟩ := gen_parts M h
  intro he
  refine h2 (j - i) (by omega) (by omega) ?_
  have e1 : pw mul g (j + (q - 1 - i)) = pw mul g (i + (q - 1 - i)) := by rw [pw_add M hg, pw_add M hg, he]
  have e2 : j + (q - 1 - i) = (j - i) + (q - 1) := by omega
  have e3 : i + (q - 1 - i) = q - 1 := by omega
  rw [e2, e3, h1, pw_add M hg, h1, mul_one M (pw_lt M hg _)] at e1
  exact e1
theorem gen_pos {g : Nat} (hg : g < q) (h : gen q mul g = true) (i : Nat) : pw mul g i ≠ 0 := by
  obtain ⟨h1, h2⟩ := gen_parts M h
  have hq := M.three
  intro he
  have : pw mul g ((q - 1) * (i + 1)) = 0 := pw_stays M hg he (by
    have : i + 1 ≤ (q - 1) * (i + 1) := Nat.le_mul_of_pos_left _ (by omega)
    omega)
  rw [← pw_mul M hg, h1, one_pw M] at this
  cases this
end

theorem pigeon (n : Nat) : ∀ l : List Nat, l.Nodup → (∀ x ∈ l, x < n) → l.length ≤ n := by
  induction n with
  | zero =>
    intro l _ h
    rcases l with _ | ⟨x, l⟩
    · exact Nat.le_refl _
    · have := h x (by simp); omega
  | succ n ih =>
    intro l hl h
    have h1 := ih (l.erase n) (hl.erase n) (fun x hx => by
      have hm := List.mem_of_mem_erase hx
      have hne : x ≠ n := fun e => by
        subst e
        exact (List.Nodup.not_mem_erase hl) hx
      have := h x hm; omega)
    have h2 := List.length_erase_le (a := n) (l := l)
    have h3 : l.length ≤ (l.erase n).length + 1 := by
      rw [List.length_erase]; split <;> omega
    omega

section
variable {q : Nat} {mul : Nat → Nat → Nat} (M : Mon q mul)
include M
/-- Every element but 0 is a power of a generator. -/
theorem log_exists {g : Nat} (hg : g < q) (h : gen q mul g = true) {a : Nat} (ha : a < q) (h0 : a ≠ 0) : ∃ l, l < q - 1 ∧ pw mul g l = a := by
  by_cases hex : ∃ l, l < q - 1 ∧ pw mul g l = a
  · exact hex
  · exfalso
    have hq := M.three
    let L := (List.range (q - 1)).map (fun i => pw mul g i - 1)
    have hL : ((a - 1) :: L).Nodup := by
      rw [List.nodup_cons]
      constructor
      · intro hm
        obtain ⟨i, hi, he⟩ := List.mem_map.1 hm
        have hp := gen_pos M hg h i
        exact hex ⟨i, List.mem_range.1 hi, by omega⟩
      · refine List.pairwise_map.2 (List.Pairwise.imp_of_mem ?_ List.pairwise_lt_range)
        intro i j hi hj hl he
        have hpi := gen_pos M hg h i
        have hpj := gen_pos M hg h j
        exact absurd (show pw mul g i = pw mul g j by omega) (gen_inj M hg h (List.mem_range.1 hi) (List.mem_range.1 hj) hl)
    have := pigeon (q - 1) _ hL (by
      intro x hx
      rcases List.mem_cons.1 hx with rfl | hx
      · omega
      · obtain ⟨i, _, rfl⟩ := List.mem_map.1 hx
        have := pw_lt M hg i
        omega)
    simp [L] at this
    omega
end
end Go.Proofs.YtncgeoliboidhaaGreat

namespace Go.Proofs.YtncgeoliboidhaaGreat

/-! The model multiplies first and reduces then. -/
def rd (n P k x : Nat) : Nat := if x.testBit k then x ^^^ (P <<< (k - n)) else x
/-- The bits from n + m - 1 down to n are struck. -/
def rdAll (n P : Nat) : Nat → Nat → Nat
  | 0, x => x
  | m + 1, x => rdAll n P m (rd n P (n + m) x)
/-- The product of two polynomials, of the second one's first m bits. -/
def cl (a b : Nat) : Nat → Nat
  | 0 => 0
  | m + 1 => cl a b m ^^^ (if b.testBit m then a <<< m else 0)
def xts (n P : Nat) : Nat → Nat → Nat
  | 0, a => a
  | k + 1, a => xt n P (xts n P k a)

theorem rd_xor (n P k x y : Nat) : rd n P k (x ^^^ y) = rd n P k x ^^^ rd n P k y := by
  unfold rd
  rw [Nat.testBit_xor]
  cases h1 : x.testBit k <;> cases h2 : y.testBit k <;> simp only [Bool.xor_false, Bool.xor_true, Bool.not_true, Bool.not_false, Bool.false_eq_true, if_true, if_false]
  · rw [Nat.xor_assoc]
  · rw [Nat.xor_assoc, Nat.xor_assoc, Nat.xor_comm y]
  · rw [xor_swap, Nat.xor_self, Nat.xor_zero]
theorem rdAll_xor (n P m x y : Nat) : rdAll n P m (x ^^^ y) = rdAll n P m x ^^^ rdAll n P m y := by
  induction m generalizing x y with
  | zero => rfl
  | succ m ih => simp only [rdAll, rd_xor, ih]
theorem rd_two (n P k x : Nat) (h : n ≤ k) : rd n P (k + 1) (2 * x) = 2 * rd n P k x := by
  unfold rd
  have hb : (2 * x).testBit (k + 1) = x.testBit k := by simp [Nat.testBit_succ]
  rw [hb]
  split
  · rw [two_xor, show k + 1 - n = (k - n) + 1 by omega]
    congr 1
    simp only [Nat.shiftLeft_eq, Nat.pow_succ]
    rw [← Nat.mul_assoc, Nat.mul_comm]
  · rfl
theorem rdAll_two (n P m x : Nat) : rdAll n P (m + 1) (2 * x) = xt n P (rdAll n P m x) := by
  induction m generalizing x with
  | zero =>
    show rd n P (n + 0) (2 * x) = xt n P x
    unfold rd xt
    rw [Nat.add_zero, Nat.sub_self, Nat.shiftLeft_zero]
  | succ m ih =>
    rw [rdAll, show n + (m + 1) = (n + m) + 1 by omega, rd_two n P _ _ (by omega), ih]
    rfl
theorem rdAll_small (n P m x : Nat) (h : x < 2 ^ n) : rdAll n P m x = x := by
  induction m with
  | zero => rfl
  | succ m ih =>
    have hb : x.testBit (n + m) = false := Nat.testBit_lt_two_pow (Nat.lt_of_lt_of_le h (Nat.pow_le_pow_right (by decide) (by omega)))
    rw [rdAll, rd, hb]
    simpa using ih
theorem rdAll_zero (n P m : Nat) : rdAll n P m 0 = 0 := rdAll_small n P m 0 (Nat.pow_pos (by decide))
theorem rdAll_shift (n P a : Nat) (ha : a < 2 ^ n) (k m : Nat) (h : k ≤ m) : rdAll n P m (a <<< k) = xts n P k a := by
  induction k generalizing m with
  | zero => rw [Nat.shiftLeft_zero]; exact rdAll_small n P m a ha
  | succ k ih =>
    obtain ⟨m, rfl⟩ : ∃ j, m = j + 1 := ⟨m - 1, by omega⟩
    have he : a <<< (k + 1) = 2 * (a <<< k) := by simp only [Nat.shiftLeft_eq, Nat.pow_succ]; rw [← Nat.mul_assoc, Nat.mul_comm]
    rw [he, rdAll_two, ih m (by omega)]
    rfl
def vt (n P a b : Nat) : Nat → Nat
  | 0 => 0
  | m + 1 => vt n P a b m ^^^ (if b.testBit m then xts n P m a else 0)
theorem vt_low (n P a b m : Nat) : vt n P a b (m + 1) = xt n P (vt n P a (b / 2) m) ^^^ (if b % 2 = 1 then a else 0) := by
  induction m with
  | zero =>
    simp [vt, xt_zero, xts, Nat.testBit_zero]
  | succ m ih =>
    rw [vt, ih]
    conv => rhs; rw [vt, xt_xor]
    have hb : b.testBit (m + 1) = (b / 2).testBit m := by simp [Nat.testBit_succ]
    rw [hb]
    have e : xt n P (if (b / 2).testBit m = true then xts n P m a else 0) = (if (b / 2).testBit m = true then xts n P (m + 1) a else 0) := by
      split
      · rfl
      · exact xt_zero n P
    rw [e, Nat.xor_assoc, Nat.xor_assoc, Nat.xor_comm (if b % 2 = 1 then a else 0)]
theorem vt_tm (n P a b m : Nat) : vt n P a b m = tm n P m a b := by
  induction m generalizing b with
  | zero => rfl
  | succ m ih => rw [vt_low, ih]; rfl
theorem rdAll_cl (n P a b : Nat) (ha : a < 2 ^ n) (m k : Nat) (h : m ≤ k + 1) : rdAll n P k (cl a b m) = vt n P a b m := by
  induction m with
  | zero => exact rdAll_zero n P k
  | succ m ih =>
    rw [cl, rdAll_xor, ih (by omega), vt]
    congr 1
    split
    · exact rdAll_shift n P a ha m k (by omega)
    · exact rdAll_zero n P k
/-- Both ways lead to the same product. -/
theorem cl_mul2 (n P a b : Nat) (ha : a < 2 ^ n) : rdAll n P (n + 1) (cl a b n) = mul2 n P a b := by
  rw [rdAll_cl n P a b ha n (n + 1) (by omega), vt_tm]; rfl

theorem cl_lt (a b n : Nat) (ha : a < 2 ^ n) (m : Nat) : cl a b m < 2 ^ (n + m) := by
  induction m with
  | zero => exact Nat.pow_pos (by decide)
  | succ m ih =>
    rw [cl]
    have h1 : cl a b m < 2 ^ (n + (m + 1)) := Nat.lt_of_lt_of_le ih (Nat.pow_le_pow_right (by decide) (by omega))
    refine Nat.xor_lt_two_pow h1 ?_
    split
    · rw [Nat.shiftLeft_eq]
      calc a * 2 ^ m < 2 ^ n * 2 ^ m := Nat.mul_lt_mul_of_pos_right ha (Nat.pow_pos (by decide))
        _ = 2 ^ (n + m) := (Nat.pow_add 2 n m).symm
        _ ≤ _ := Nat.pow_le_pow_right (by decide) (by omega)
    · exact Nat.pow_pos (by decide)
/-- Striking keeps below a bound. -/
theorem rd_lt {n P k x N : Nat} (hP2 : P < 2 ^ (n + 1)) (hx : x < 2 ^ N) (hk : k + 1 ≤ N) (hn : n ≤ k) : rd n P k x < 2 ^ N := by
  unfold rd
  split
  · refine Nat.xor_lt_two_pow hx ?_
    rw [Nat.shiftLeft_eq]
    calc P * 2 ^ (k - n) < 2 ^ (n + 1) * 2 ^ (k - n) := Nat.mul_lt_mul_of_pos_right hP2 (Nat.pow_pos (by decide))
      _ = 2 ^ (n + 1 + (k - n)) := (Nat.pow_add 2 _ _).symm
      _ ≤ _ := Nat.pow_le_pow_right (by decide) (by omega)
  · exact hx

/-! Repeated squaring. -/
section
variable {q : Nat} {mul : Nat → Nat → Nat} (M : Mon q mul)
include M
theorem pw_sq {a : Nat} (ha : a < q) (m : Nat) : pw mul (mul a a) m = pw mul a (2 * m) := by
  have : mul a a = pw mul a 2 := by show mul a a = mul (mul 1 a) a; rw [M.one a ha]
  rw [this, pw_mul M ha]
theorem sq_even {o a n r : Nat} (ha : a < q) (hn : n % 2 = 0) (h : mul o (pw mul a n) = r) : mul o (pw mul (mul a a) (n / 2)) = r := by
  rw [pw_sq M ha, show 2 * (n / 2) = n by omega]; exact h
theorem sq_odd {o a n r : Nat} (ho : o < q) (ha : a < q) (hn : n % 2 = 1) (h : mul o (pw mul a n) = r) : mul (mul o a) (pw mul (mul a a) (n / 2)) = r := by
  rw [pw_sq M ha, M.assoc _ _ _ ho ha (pw_lt M ha _), ← h]
  congr 1
  have e : n = 1 + 2 * (n / 2) := by omega
  conv => rhs; rw [e, pw_add M ha, pw_one M ha]
/-- A power by logarithms. -/
theorem pw_log {g : Nat} (hg : g < q) (h : gen q mul g = true) {a l : Nat} (hl : pw mul g l = a) (n : Nat) : pw mul a n = pw mul g (l * n % (q - 1)) := by
  rw [← hl, pw_mul M hg, ← pw_mod M hg (gen_parts M h).1]
/-- The inverse. -/
theorem inv_mul {g : Nat} (hg : g < q) (h : gen q mul g = true) {a : Nat} (ha : a < q) (h0 : a ≠ 0) : mul a (pw mul a (q - 2)) = 1 := by
  obtain ⟨l, hl, he⟩ := log_exists M hg h ha h0
  have hq := M.three
  have h1 : mul a (pw mul a (q - 2)) = pw mul a (q - 1) := by
    rw [M.comm _ _ ha (pw_lt M ha _)]
    show pw mul a ((q - 2) + 1) = _
    rw [show q - 2 + 1 = q - 1 by omega]
  rw [h1, ← he, pw_mul M hg, Nat.mul_comm, ← pw_mul M hg, (gen_parts M h).1, one_pw M]
end

/-! Generators, in the order in which the model and the program look at powers. -/
section
variable {q : Nat} {mul : Nat → Nat → Nat} (M : Mon q mul)
include M
theorem gen_no_early {a j : Nat} (hj : j < q - 1) (h1 : 1 ≤ j) (h : pw mul a j = 1) : gen q mul a = false := by
  have _ := M
  rw [gen, decide_eq_false_iff_not]
  exact fun h2 => h2.2 j hj h1 h
theorem gen_no_last {a : Nat} (h : pw mul a (q - 1) ≠ 1) : gen q mul a = false := by
  have _ := M
  rw [gen, decide_eq_false_iff_not]
  exact fun h2 => h h2.1
theorem gen_yes {a : Nat} (h : pw mul a (q - 1) = 1) (h2 : ∀ j, j < q - 1 → 1 ≤ j → pw mul a j ≠ 1) : gen q mul a = true := by
  have _ := M
  rw [gen, decide_eq_true_eq]
  exact ⟨h, h2⟩
theorem gen_no_zero {a j : Nat} (ha : a < q) (hj : j ≤ q - 1) (h : pw mul a j = 0) : gen q mul a = false :=
  gen_no_last M (by rw [pw_stays M ha h hj]; decide)
end

/-- The least number from 1 to q - 1 that generates, or 0. -/
def least (q : Nat) (mul : Nat → Nat → Nat) : Nat := ((List.range q).find? (fun a => decide (1 ≤ a) && gen q mul a)).getD 0
theorem find_at {p : Nat → Bool} {n i : Nat} (hi : i < n) (hp : p i = true) (hb : ∀ j, j < i → p j = false) : (List.range n).find? p = some i := by
  rw [List.find?_range_eq_some]
  refine ⟨hp, by simpa using hi, fun j hj => ?_⟩
  simp [hb j hj]
theorem least_at {q i : Nat} {mul : Nat → Nat → Nat} (hi : i < q) (h1 : 1 ≤ i) (hg : gen q mul i = true) (hb : ∀ j, j < i → 1 ≤ j → gen q mul j = false) : least q mul = i := by
  rw [least, find_at hi (by simp [h1, hg])]
  · rfl
  · intro j hj
    by_cases h : 1 ≤ j
    · simp [hb j hj h]
    · simp [h]
theorem least_none {q : Nat} {mul : Nat → Nat → Nat} (hb : ∀ j, j < q → 1 ≤ j → gen q mul j = false) : least q mul = 0 := by
  rw [least, List.find?_eq_none.2]
  · rfl
  · intro j hj
    by_cases h : 1 ≤ j
    · simp [hb j (List.mem_range.1 hj) h]
    · simp [h]
theorem least_spec {q : Nat} {mul : Nat → Nat → Nat} (h : ∃ g, g < q ∧ 1 ≤ g ∧ gen q mul g = true) : 1 ≤ least q mul ∧ least q mul < q ∧ gen q mul (least q mul) = true ∧ ∀ j, j < least q mul → 1 ≤ j → gen q mul j = false := by
  rcases hf : (List.range q).find? (fun a => decide (1 ≤ a) && gen q mul a) with _ | i
  · obtain ⟨g, hg, h1, h2⟩ := h
    have := List.find?_eq_none.1 hf g (List.mem_range.2 hg)
    simp [h1, h2] at this
  · have hl : least q mul = i := by rw [least, hf]; rfl
    rw [hl]
    rw [List.find?_range_eq_some] at hf
    obtain ⟨h1, h2, h3⟩ := hf
    simp only [Bool.and_eq_true, decide_eq_true_eq] at h1
    refine ⟨h1.1, by simpa using h2, h1.2, fun j hj h1j => ?_⟩
    have := h3 j hj
    simpa [h1j] using this

/-! Prime numbers. -/
def primeB (n : Nat) : Bool := decide (∀ d, d < n → 2 ≤ d → d * d ≤ n → n % d ≠ 0)
theorem primeB_no {n d : Nat} (h2 : 2 ≤ d) (hd : d * d ≤ n) (h : n % d = 0) : primeB n = false := by
  rw [primeB, decide_eq_false_iff_not]
  intro hh
  have : 2 * d ≤ d * d := Nat.mul_le_mul_right d h2
  exact hh d (by omega) h2 hd h
theorem primeB_yes {n d : Nat} (hd : n < d * d) (h : ∀ e, e < d → 2 ≤ e → n % e ≠ 0) : primeB n = true := by
  rw [primeB, decide_eq_true_eq]
  intro e _ h2 he
  refine h e ?_ h2
  rcases Nat.lt_or_ge e d with h1 | h1
  · exact h1
  · have := Nat.mul_le_mul h1 h1; omega

/-! Every prime number from 3 to 1021 has a generator: a table of them is held against the definition. -/
def runs (p g : Nat) : Nat → Nat → Bool
  | 0, x => x == 1
  | m + 1, x => x != 1 && runs p g m (x * g % p)
theorem runs_pw {p g : Nat} (m j : Nat) (h : runs p g m (pw (mul1 p) g j) = true) : pw (mul1 p) g (j + m) = 1 ∧ ∀ i, j ≤ i → i < j + m → pw (mul1 p) g i ≠ 1 := by
  induction m generalizing j with
  | zero =>
    simp only [runs, beq_iff_eq] at h
    exact ⟨h, fun i h1 h2 => by omega⟩
  | succ m ih =>
    simp only [runs, Bool.and_eq_true, bne_iff_ne, ne_eq] at h
    have := ih (j + 1) h.2
    refine ⟨by rw [show j + (m + 1) = j + 1 + m by omega]; exact this.1, fun i h1 h2 => ?_⟩
    rcases Nat.lt_or_ge j i with h3 | h3
    · exact this.2 i h3 (by omega)
    · have : i = j := by omega
      subst this; exact h.1
theorem runs_gen {p g : Nat} (hp : 3 ≤ p) (hg : g < p) (h : runs p g (p - 2) g = true) : gen p (mul1 p) g = true := by
  have h1 : pw (mul1 p) g 1 = g := pw_one (mon1 hp) hg
  have := runs_pw (p := p) (g := g) (p - 2) 1 (by rw [h1]; exact h)
  rw [show 1 + (p - 2) = p - 1 by omega] at this
  exact gen_yes (mon1 hp) this.1 (fun j hj h2 => this.2 j h2 hj)
/-- A divisor from 2 on, up to the root. -/
def divs (n : Nat) : Nat → Nat → Bool
  | 0, _ => false
  | m + 1, d => n % d == 0 && decide (d * d ≤ n) || divs n m (d + 1)
theorem divs_no {n : Nat} (m d : Nat) (hd : 2 ≤ d) (h : divs n m d = true) : primeB n = false := by
  induction m generalizing d with
  | zero => cases h
  | succ m ih =>
    simp only [divs, Bool.or_eq_true, Bool.and_eq_true, beq_iff_eq, decide_eq_true_eq] at h
    rcases h with ⟨h1, h2⟩ | h
    · exact primeB_no hd h2 h1
    · exact ih (d + 1) (by omega) h
/-- Some number up to 30 that generates. -/
def seek (p : Nat) : Nat → Nat → Bool
  | 0, _ => false
  | m + 1, g => decide (g < p) && runs p g (p - 2) g || seek p m (g + 1)
theorem seek_gen {p : Nat} (hp : 3 ≤ p) (m g : Nat) (h1 : 1 ≤ g) (h : seek p m g = true) : ∃ g, g < p ∧ 1 ≤ g ∧ gen p (mul1 p) g = true := by
  induction m generalizing g with
  | zero => cases h
  | succ m ih =>
    simp only [seek, Bool.or_eq_true, Bool.and_eq_true, decide_eq_true_eq] at h
    rcases h with ⟨h2, h3⟩ | h
    · exact ⟨g, h2, h1, runs_gen hp h2 h3⟩
    · exact ih (g + 1) (by omega) h
def each : Nat → Nat → Bool
  | 0, _ => true
  | m + 1, p => (divs p 30 2 || seek p 30 1) && each m (p + 1)
theorem each_at (m p : Nat) (h : each m p = true) (i : Nat) (h1 : p ≤ i) (h2 : i < p + m) : (divs i 30 2 || seek i 30 1) = true := by
  induction m generalizing p with
  | zero => omega
  | succ m ih =>
    simp only [each, Bool.and_eq_true] at h
    rcases Nat.lt_or_ge p i with h3 | h3
    · exact ih (p + 1) h.2 h3 (by omega)
    · have : i = p := by omega
      subst this; exact h.1
set_option maxRecDepth 100000 in
theorem each_all : each 1019 3 = true := by decide +kernel
theorem prime_gen {p : Nat} (h3 : 3 ≤ p) (h : p ≤ 1021) (hp : primeB p = true) : ∃ g, g < p ∧ 1 ≤ g ∧ gen p (mul1 p) g = true := by
  have := each_at 1019 3 each_all p h3 (by omega)
  rw [Bool.or_eq_true] at this
  rcases this with h1 | h1
  · rw [divs_no 30 2 (by omega) h1] at hp; cases hp
  · exact seek_gen h3 30 1 (by omega) h1
end Go.Proofs.YtncgeoliboidhaaGreat

namespace Go.Proofs.YtncgeoliboidhaaGreat
open Go.RowKit

/-- The numbers of a struct are of one of both kinds, with the size q and the product mul. -/
inductive Kd : Int → Int → Int → Nat → (Nat → Nat → Nat) → Prop
  | one (P : Nat) (g : Int) (h3 : 3 ≤ P) (h : P ≤ 1021) : Kd P 1 g P (mul1 P)
  | two (K G : Nat) (h3 : 3 ≤ K) (h8 : K ≤ 8) (hG : 2 ^ K ≤ G) (hG2 : G < 2 ^ (K + 1)) : Kd 2 K G (2 ^ K) (mul2 K G)

theorem Kd.mon {p k g : Int} {q : Nat} {mul : Nat → Nat → Nat} (h : Kd p k g q mul) : Mon q mul := by
  cases h with
  | one P g h3 h => exact mon1 h3
  | two K G h3 h8 hG hG2 => exact mon2 h3 hG hG2
theorem pow_small {K : Nat} (h3 : 3 ≤ K) (h8 : K ≤ 8) : 8 ≤ 2 ^ K ∧ 2 ^ K ≤ 256 :=
  ⟨(Nat.pow_le_pow_right (n := 2) (by decide) h3 : 2 ^ 3 ≤ 2 ^ K), (Nat.pow_le_pow_right (n := 2) (by decide) h8 : 2 ^ K ≤ 2 ^ 8)⟩
theorem Kd.big {p k g : Int} {q : Nat} {mul : Nat → Nat → Nat} (h : Kd p k g q mul) : 3 ≤ q ∧ q ≤ 1021 := by
  cases h with
  | one P g h3 h => exact ⟨h3, h⟩
  | two K G h3 h8 hG hG2 => have := pow_small h3 h8; omega

end Go.Proofs.YtncgeoliboidhaaGreat

namespace Go.Proofs.YtncgeoliboidhaaGreat
open Go.RowKit

/-- The field is of the first kind, Poly aside. -/
def k1B (p k : Int) : Bool := decide (k = 1 ∧ 3 ≤ p ∧ p ≤ 1021) && primeB p.toNat
/-- The field is of the second kind, its powers aside. -/
def k2B (p k g : Int) : Bool := decide (p = 2 ∧ 3 ≤ k ∧ k ≤ 8 ∧ 2 ^ k.toNat ≤ g ∧ g < 2 ^ (k.toNat + 1))
def fieldB (p k g : Int) : Bool :=
  (k1B p k && decide (g = (least p.toNat (mul1 p.toNat) : Nat))) || (k2B p k g && gen (2 ^ k.toNat) (mul2 k.toNat g.toNat) 2)

theorem k1_open {p k : Int} (h : k1B p k = true) : ∃ P : Nat, p = P ∧ k = 1 ∧ 3 ≤ P ∧ P ≤ 1021 ∧ primeB P = true := by
  simp only [k1B, Bool.and_eq_true, decide_eq_true_eq] at h
  exact ⟨p.toNat, by omega, h.1.1, by omega, by omega, h.2⟩
theorem k2_open {p k g : Int} (h : k2B p k g = true) : ∃ K G : Nat, p = 2 ∧ k = K ∧ g = G ∧ 3 ≤ K ∧ K ≤ 8 ∧ 2 ^ K ≤ G ∧ G < 2 ^ (K + 1) := by
  simp only [k2B, decide_eq_true_eq] at h
  obtain ⟨h1, h2, h3, h4, h5⟩ := h
  have hp : (0 : Int) < 2 ^ k.toNat := Int.pow_pos (by decide)
  refine ⟨k.toNat, g.toNat, h1, by omega, by omega, by omega, by omega, ?_, ?_⟩
  · have : ((2 ^ k.toNat : Nat) : Int) ≤ (g.toNat : Int) := by push_cast; omega
    exact Int.ofNat_le.1 this
  · have : (g.toNat : Int) < ((2 ^ (k.toNat + 1) : Nat) : Int) := by push_cast; omega
    exact Int.ofNat_lt.1 this
theorem k1_is {P : Nat} (h3 : 3 ≤ P) (h : P ≤ 1021) (hp : primeB P = true) : k1B P 1 = true := by
  simp only [k1B, Bool.and_eq_true, decide_eq_true_eq, Int.toNat_natCast]
  exact ⟨⟨trivial, by omega, by omega⟩, hp⟩
theorem k2_is {K G : Nat} (h3 : 3 ≤ K) (h8 : K ≤ 8) (hG : 2 ^ K ≤ G) (hG2 : G < 2 ^ (K + 1)) : k2B 2 K G = true := by
  simp only [k2B, decide_eq_true_eq, Int.toNat_natCast]
  have h1 := Int.ofNat_le.2 hG
  have h2 := Int.ofNat_lt.2 hG2
  push_cast at h1 h2
  exact ⟨trivial, by omega, by omega, h1, h2⟩
theorem k1_not2 {p k g : Int} (h : k1B p k = true) : k2B p k g = false := by
  obtain ⟨P, rfl, rfl, h3, h4, _⟩ := k1_open h
  simp only [k2B, decide_eq_false_iff_not]
  omega
theorem k2_not1 {p k g : Int} (h : k2B p k g = true) : k1B p k = false := by
  rcases hh : k1B p k with _ | _
  · rfl
  · rw [k1_not2 hh] at h; cases h
theorem fieldB_1 {P : Nat} {g : Int} (h3 : 3 ≤ P) (h : P ≤ 1021) (hp : primeB P = true) : fieldB P 1 g = decide (g = (least P (mul1 P) : Nat)) := by
  have h1 := k1_is h3 h hp
  rw [fieldB, h1, k1_not2 h1]
  simp
theorem fieldB_2 {K G : Nat} (h3 : 3 ≤ K) (h8 : K ≤ 8) (hG : 2 ^ K ≤ G) (hG2 : G < 2 ^ (K + 1)) : fieldB 2 K G = gen (2 ^ K) (mul2 K G) 2 := by
  have h2 := k2_is h3 h8 hG hG2
  rw [fieldB, h2, k2_not1 h2]
  simp
theorem fieldB_0 {p k g : Int} (h1 : k1B p k = false) (h2 : k2B p k g = false) : fieldB p k g = false := by
  rw [fieldB, h1, h2]; rfl

/-- A valid field: its kind, its product, and a generator. -/
theorem fieldB_open {p k g : Int} (h : fieldB p k g = true) : ∃ (q : Nat) (mul : Nat → Nat → Nat) (γ : Nat), Kd p k g q mul ∧ 1 ≤ γ ∧ γ < q ∧ gen q mul γ = true ∧ ((p ≠ 2 ∧ k = 1 ∧ g = γ) ∨ (p = 2 ∧ 3 ≤ k ∧ γ = 2)) := by
  rcases h1 : k1B p k with _ | _
  · rcases h2 : k2B p k g with _ | _
    · rw [fieldB_0 h1 h2] at h; cases h
    · obtain ⟨K, G, rfl, rfl, rfl, h3, h8, hG, hG2⟩ := k2_open h2
      rw [fieldB_2 h3 h8 hG hG2] at h
      have := pow_small h3 h8
      exact ⟨2 ^ K, mul2 K G, 2, Kd.two K G h3 h8 hG hG2, by omega, by omega, h, .inr ⟨rfl, by omega, rfl⟩⟩
  · obtain ⟨P, rfl, rfl, h3, h4, hp⟩ := k1_open h1
    rw [fieldB_1 h3 h4 hp, decide_eq_true_eq] at h
    obtain ⟨l1, l2, l3, _⟩ := least_spec (prime_gen h3 h4 hp)
    exact ⟨P, mul1 P, least P (mul1 P), Kd.one P g h3 h4, l1, l2, l3, .inl ⟨by omega, rfl, h⟩⟩

/-- The size of a field by its numbers. -/
def sizeI (p k : Int) : Int := if p = 2 then 2 ^ k.toNat else p
theorem Kd.size {p k g : Int} {q : Nat} {mul : Nat → Nat → Nat} (h : Kd p k g q mul) : sizeI p k = q := by
  cases h with
  | one _ _ h3 h => rw [sizeI, if_neg (by omega)]
  | two K G h3 h8 hG hG2 => rw [sizeI, if_pos rfl]; simp
end Go.Proofs.YtncgeoliboidhaaGreat

namespace Go.Proofs.YtncgeoliboidhaaGreat
open Go.RowKit

def fsize (p k g : Int) : Int := if fieldB p k g = true then sizeI p k else 0
theorem fsize_no {p k g : Int} (h : fieldB p k g = false) : fsize p k g = 0 := by rw [fsize, h]; rfl
/-- Whether a number is an element of a field with q elements. -/
def elB (q : Nat) (a : Int) : Bool := decide (0 ≤ a ∧ a < (q : Int))
/-- The code of a field and some numbers. -/
def errC (p k g : Int) (zs : List Int) : Int := if fieldB p k g = true then (if zs.all (elB (sizeI p k).toNat) = true then 0 else 2) else 1
theorem errC_no {p k g : Int} {zs : List Int} (h : fieldB p k g = false) : errC p k g zs = 1 := by rw [errC, h]; rfl
theorem errC_is {p k g : Int} {q : Nat} {mul : Nat → Nat → Nat} {zs : List Int} (h : fieldB p k g = true) (hK : Kd p k g q mul) : errC p k g zs = if zs.all (elB q) = true then 0 else 2 := by
  rw [errC, if_pos h, hK.size, Int.toNat_natCast]
theorem fAll_no {q : Nat} {zs : List Int} {j : Nat} {x : Int} (hx : zs[j]? = some x) (h : elB q x = false) : zs.all (elB q) = false := by
  rw [List.all_eq_false]
  exact ⟨x, List.mem_of_getElem? hx, by simp [h]⟩
theorem all_snoc {q : Nat} {zs : List Int} {j : Nat} {x : Int} (ha : (zs.take j).all (elB q) = true) (hx : zs[j]? = some x) (h : elB q x = true) : (zs.take (j + 1)).all (elB q) = true := by
  rw [take_snocI hx, List.all_append, ha]
  simp [h]
/-- The sum and the negative. -/
def addF (p : Int) (q a b : Nat) : Nat := if p = 2 then a ^^^ b else (a + b) % q
def negF (p : Int) (q a : Nat) : Nat := if p = 2 then a else (q - a) % q
theorem negF_1 {q a : Nat} (h3 : 3 ≤ q) (ha : a < q) : ((negF q q a : Nat) : Int) = ((q : Int) - (a : Int)) % (q : Int) := by
  rw [negF, if_neg (by omega), Int.natCast_emod, Int.ofNat_sub (by omega)]
theorem ints_two (w : World) (e : TypeId) (k : IntKind) (x y : Int) : Ints k (w.alloc (.cells #[.int k x, .int k y] e)) (w.heap.size + 1) (some ⟨w.heap.size, 0, none⟩) 2 [x, y] := by
  refine ⟨rfl, fun _ => ⟨w.heap.size, 0, rfl, by omega, fun j v hv => ?_⟩⟩
  have hj : j < 2 := (List.getElem?_eq_some_iff.1 hv).1
  rw [World.cell?_alloc_at _ _ _ _ rfl]
  rcases (show j = 0 ∨ j = 1 by omega) with rfl | rfl
  · simp at hv; subst hv; rfl
  · simp at hv; subst hv; rfl
theorem box_two (w : World) (o : Obj) (e : TypeId) (k : IntKind) (x y : Int) : Ints k ((w.alloc o).alloc (.cells #[.int k x, .int k y] e)) (w.heap.size + 2) (some ⟨w.heap.size + 1, 0, none⟩) 2 [x, y] := by
  have h := ints_two (w.alloc o) e k x y
  rw [alloc_size] at h
  exact h
theorem box_one (w : World) (o : Obj) (e : TypeId) (k : IntKind) (x : Int) : Ints k ((w.alloc o).alloc (.cells #[.int k x] e)) (w.heap.size + 2) (some ⟨w.heap.size + 1, 0, none⟩) 1 [x] := by
  have h := ints_one (w.alloc o) e k x
  rw [alloc_size] at h
  exact h
theorem box_size (w : World) (o o' : Obj) : w.heap.size + 2 ≤ ((w.alloc o).alloc o').heap.size := by rw [alloc_size, alloc_size]; omega
/-- The results of the functions. -/
structure Elems (p k g : Int) (q : Nat) (mul : Nat → Nat → Nat) (zs : List Int) : Prop where
  kind : Kd p k g q mul
  all : ∀ x ∈ zs, 0 ≤ x ∧ x < (q : Int)
theorem errC_cases (p k g : Int) (zs : List Int) : (errC p k g zs = 1 ∧ fieldB p k g = false) ∨ (errC p k g zs = 2 ∧ fieldB p k g = true ∧ ∃ (q : Nat) (mul : Nat → Nat → Nat), Kd p k g q mul ∧ ∃ x ∈ zs, ¬ (0 ≤ x ∧ x < (q : Int))) ∨
    (errC p k g zs = 0 ∧ fieldB p k g = true ∧ ∃ (q : Nat) (mul : Nat → Nat → Nat) (γ : Nat), Kd p k g q mul ∧ 1 ≤ γ ∧ γ < q ∧ gen q mul γ = true ∧ ((p ≠ 2 ∧ k = 1 ∧ g = γ) ∨ (p = 2 ∧ 3 ≤ k ∧ γ = 2)) ∧ ∀ x ∈ zs, 0 ≤ x ∧ x < (q : Int)) := by
  rcases h : fieldB p k g with _ | _
  · exact .inl ⟨errC_no h, rfl⟩
  · obtain ⟨q, mul, γ, hK, h1, h2, h3, h4⟩ := fieldB_open h
    rw [errC_is h hK]
    rcases ha : zs.all (elB q) with _ | _
    · rw [List.all_eq_false] at ha
      obtain ⟨x, hx, hh⟩ := ha
      exact .inr (.inl ⟨rfl, rfl, q, mul, hK, x, hx, by simpa only [elB, decide_eq_true_eq] using hh⟩)
    · rw [List.all_eq_true] at ha
      exact .inr (.inr ⟨rfl, rfl, q, mul, γ, hK, h1, h2, h3, h4, fun x hx => by simpa only [elB, decide_eq_true_eq] using ha x hx⟩)

def mulF (p k g : Int) : Nat → Nat → Nat := if p = 2 then mul2 k.toNat g.toNat else mul1 p.toNat
theorem Kd.mul {p k g : Int} {q : Nat} {mul : Nat → Nat → Nat} (h : Kd p k g q mul) : mulF p k g = mul := by
  cases h with
  | one _ _ h3 h => rw [mulF, if_neg (by omega), Int.toNat_natCast]
  | two K G h3 h8 hG hG2 => rw [mulF, if_pos rfl, Int.toNat_natCast, Int.toNat_natCast]
/-- The generator by the numbers of the field. -/
def genF (p g : Int) : Nat := if p = 2 then 2 else g.toNat
theorem genF_is {p k g : Int} {γ : Nat} (h : (p ≠ 2 ∧ k = 1 ∧ g = γ) ∨ (p = 2 ∧ 3 ≤ k ∧ γ = 2)) : genF p g = γ := by
  rcases h with ⟨h1, _, rfl⟩ | ⟨h1, _, rfl⟩
  · rw [genF, if_neg h1, Int.toNat_natCast]
  · rw [genF, if_pos h1]
/-- What the functions return beside their code. -/
def fAdd (p k g a b : Int) : Int := if errC p k g [a, b] = 0 then (addF p (sizeI p k).toNat a.toNat b.toNat : Nat) else 0
def fNeg (p k g a : Int) : Int := if errC p k g [a] = 0 then (negF p (sizeI p k).toNat a.toNat : Nat) else 0
def fMul (p k g a b : Int) : Int := if errC p k g [a, b] = 0 then (mulF p k g a.toNat b.toNat : Nat) else 0
theorem fAdd_bad {p k g a b : Int} {c : Int} (h : errC p k g [a, b] = c) (hc : c ≠ 0) : fAdd p k g a b = 0 := by rw [fAdd, if_neg (by rw [h]; exact hc)]
theorem fNeg_bad {p k g a : Int} {c : Int} (h : errC p k g [a] = c) (hc : c ≠ 0) : fNeg p k g a = 0 := by rw [fNeg, if_neg (by rw [h]; exact hc)]
theorem fMul_bad {p k g a b : Int} {c : Int} (h : errC p k g [a, b] = c) (hc : c ≠ 0) : fMul p k g a b = 0 := by rw [fMul, if_neg (by rw [h]; exact hc)]
theorem fAdd_ok {p k g : Int} {a b q : Nat} {mul : Nat → Nat → Nat} (h : errC p k g [(a : Int), (b : Int)] = 0) (hK : Kd p k g q mul) : fAdd p k g a b = (addF p q a b : Nat) := by
  rw [fAdd, if_pos h, hK.size]; rfl
theorem fNeg_ok {p k g : Int} {a q : Nat} {mul : Nat → Nat → Nat} (h : errC p k g [(a : Int)] = 0) (hK : Kd p k g q mul) : fNeg p k g a = (negF p q a : Nat) := by
  rw [fNeg, if_pos h, hK.size]; rfl
theorem fMul_ok {p k g : Int} {a b q : Nat} {mul : Nat → Nat → Nat} (h : errC p k g [(a : Int), (b : Int)] = 0) (hK : Kd p k g q mul) : fMul p k g a b = (mul a b : Nat) := by
  rw [fMul, if_pos h, hK.mul]; rfl
/-- A code of two numbers: an error, or both are elements. -/
theorem err2 (p k g a b : Int) : (∃ c : Int, errC p k g [a, b] = c ∧ (c != 0) = true ∧ c ≠ 0) ∨ ∃ (x y q : Nat) (mul : Nat → Nat → Nat), errC p k g [a, b] = 0 ∧ a = x ∧ b = y ∧ x < q ∧ y < q ∧ Kd p k g q mul := by
  rcases errC_cases p k g [a, b] with ⟨h, _⟩ | ⟨h, _⟩ | ⟨h, _, q, mul, γ, hK, _, _, _, _, ha⟩
  · exact .inl ⟨1, h, rfl, by decide⟩
  · exact .inl ⟨2, h, rfl, by decide⟩
  · have h1 := ha a (by simp)
    have h2 := ha b (by simp)
    exact .inr ⟨a.toNat, b.toNat, q, mul, h, by omega, by omega, by omega, by omega, hK⟩
theorem err1 (p k g a : Int) : (∃ c : Int, errC p k g [a] = c ∧ (c != 0) = true ∧ c ≠ 0) ∨ ∃ (x q : Nat) (mul : Nat → Nat → Nat) (γ : Nat), errC p k g [a] = 0 ∧ a = x ∧ x < q ∧ Kd p k g q mul ∧ 1 ≤ γ ∧ γ < q ∧ gen q mul γ = true ∧ genF p g = γ ∧ ((p ≠ 2 ∧ k = 1 ∧ g = γ) ∨ (p = 2 ∧ 3 ≤ k ∧ γ = 2)) := by
  rcases errC_cases p k g [a] with ⟨h, _⟩ | ⟨h, _⟩ | ⟨h, _, q, mul, γ, hK, h1, h2, h3, h4, ha⟩
  · exact .inl ⟨1, h, rfl, by decide⟩
  · exact .inl ⟨2, h, rfl, by decide⟩
  · have h5 := ha a (by simp)
    exact .inr ⟨a.toNat, q, mul, γ, h, by omega, by omega, hK, h1, h2, h3, genF_is h4, h4⟩

/-- The code of an element that must not be 0. -/
def invC (p k g a : Int) : Int := if errC p k g [a] = 0 then (if a = 0 then 5 else 0) else errC p k g [a]
def powC (p k g a n : Int) : Int := if errC p k g [a] = 0 then (if 0 ≤ n ∧ n ≤ 1000000 then 0 else 2) else errC p k g [a]
/-- The logarithm: the first number of a power that is a. -/
def logF (q : Nat) (mul : Nat → Nat → Nat) (γ a : Nat) : Nat := ((List.range q).find? (fun i => pw mul γ i == a)).getD 0
def fInv (p k g a : Int) : Int := if invC p k g a = 0 then (pw (mulF p k g) a.toNat ((sizeI p k).toNat - 2) : Nat) else 0
def fPow (p k g a n : Int) : Int := if powC p k g a n = 0 then (pw (mulF p k g) a.toNat n.toNat : Nat) else 0
def fLog (p k g a : Int) : Int := if invC p k g a = 0 then (logF (sizeI p k).toNat (mulF p k g) (genF p g) a.toNat : Nat) else 0
theorem fInv_bad {p k g a c : Int} (h : invC p k g a = c) (hc : c ≠ 0) : fInv p k g a = 0 := by rw [fInv, if_neg (by rw [h]; exact hc)]
theorem fLog_bad {p k g a c : Int} (h : invC p k g a = c) (hc : c ≠ 0) : fLog p k g a = 0 := by rw [fLog, if_neg (by rw [h]; exact hc)]
theorem fPow_bad {p k g a n c : Int} (h : powC p k g a n = c) (hc : c ≠ 0) : fPow p k g a n = 0 := by rw [fPow, if_neg (by rw [h]; exact hc)]
theorem fInv_ok {p k g : Int} {a q : Nat} {mul : Nat → Nat → Nat} (h : invC p k g a = 0) (hK : Kd p k g q mul) : fInv p k g a = (pw mul a (q - 2) : Nat) := by
  rw [fInv, if_pos h, hK.mul, hK.size]; rfl
theorem fPow_ok {p k g : Int} {a n q : Nat} {mul : Nat → Nat → Nat} (h : powC p k g a n = 0) (hK : Kd p k g q mul) : fPow p k g a n = (pw mul a n : Nat) := by
  rw [fPow, if_pos h, hK.mul]; rfl
theorem logF_is {q : Nat} {mul : Nat → Nat → Nat} (M : Mon q mul) {γ : Nat} (hγ : γ < q) (hg : gen q mul γ = true) {a l : Nat} (hl : l < q - 1) (ha : pw mul γ l = a) : logF q mul γ a = l := by
  rw [logF, find_at (i := l) (by omega) (by rw [ha]; simp)]
  · rfl
  · intro j hj
    have := gen_inj M hγ hg (show j < q - 1 by omega) hl hj
    rw [ha] at this
    simpa using this
theorem fLog_ok {p k g : Int} {a q γ : Nat} {mul : Nat → Nat → Nat} (h : invC p k g a = 0) (hK : Kd p k g q mul) (hG : genF p g = γ) : fLog p k g a = (logF q mul γ a : Nat) := by
  rw [fLog, if_pos h, hK.mul, hK.size, hG]; rfl
theorem invC_bad {p k g a c : Int} (h : errC p k g [a] = c) (hc : c ≠ 0) : invC p k g a = c := by rw [invC, if_neg (by rw [h]; exact hc), h]
theorem invC_zero {p k g : Int} (h : errC p k g [0] = 0) : invC p k g 0 = 5 := by rw [invC, if_pos h, if_pos rfl]
theorem invC_ok {p k g a : Int} (h : errC p k g [a] = 0) (ha : a ≠ 0) : invC p k g a = 0 := by rw [invC, if_pos h, if_neg ha]
theorem powC_bad {p k g a n c : Int} (h : errC p k g [a] = c) (hc : c ≠ 0) : powC p k g a n = c := by rw [powC, if_neg (by rw [h]; exact hc), h]
theorem powC_out {p k g a n : Int} (h : errC p k g [a] = 0) (hn : ¬ (0 ≤ n ∧ n ≤ 1000000)) : powC p k g a n = 2 := by rw [powC, if_pos h, if_neg hn]
theorem powC_ok {p k g a n : Int} (h : errC p k g [a] = 0) (hn : 0 ≤ n ∧ n ≤ 1000000) : powC p k g a n = 0 := by rw [powC, if_pos h, if_pos hn]
end Go.Proofs.YtncgeoliboidhaaGreat

namespace Go.Proofs.YtncgeoliboidhaaGreat
open Go.RowKit

/-- The least polynomial of a degree that makes a field, or 0. -/
def powG (K : Nat) : Nat := ((List.range (2 ^ (K + 1))).find? (fun G : Nat => decide (2 ^ K ≤ G) && fieldB 2 K G)).getD 0
theorem powG_at {K G : Nat} (h1 : 2 ^ K ≤ G) (h2 : G < 2 ^ (K + 1)) (hG : fieldB 2 K G = true) (hb : ∀ j : Nat, j < G → 2 ^ K ≤ j → fieldB 2 K j = false) : powG K = G := by
  rw [powG, find_at h2 (by simp [h1, hG])]
  · rfl
  · intro j hj
    by_cases h : 2 ^ K ≤ j
    · simp [hb j hj h]
    · simp [h]
theorem powG_none {K : Nat} (hb : ∀ j : Nat, j < 2 ^ (K + 1) → 2 ^ K ≤ j → fieldB 2 K j = false) : powG K = 0 := by
  rw [powG, List.find?_eq_none.2]
  · rfl
  · intro j hj
    by_cases h : 2 ^ K ≤ j
    · simp [hb j (List.mem_range.1 hj) h]
    · simp [h]
theorem powG_spec {K : Nat} (h : powG K ≠ 0) : 2 ^ K ≤ powG K ∧ powG K < 2 ^ (K + 1) ∧ fieldB 2 K (powG K) = true ∧ ∀ j : Nat, j < powG K → 2 ^ K ≤ j → fieldB 2 K j = false := by
  rcases hf : (List.range (2 ^ (K + 1))).find? (fun G : Nat => decide (2 ^ K ≤ G) && fieldB 2 K G) with _ | i
  · exact absurd (by rw [powG, hf]; rfl) h
  · have hl : powG K = i := by rw [powG, hf]; rfl
    rw [hl]
    rw [List.find?_range_eq_some] at hf
    obtain ⟨h1, h2, h3⟩ := hf
    simp only [Bool.and_eq_true, decide_eq_true_eq] at h1
    refine ⟨h1.1, by simpa using h2, h1.2, fun j hj h1j => ?_⟩
    have := h3 j hj
    simpa [h1j] using this

/-- What is found of a degree, and with what code. -/
def lowP (K : Nat) : Int := if powG K = 0 then 0 else 2
def lowK (K : Nat) : Int := if powG K = 0 then 0 else K
def lowC (K : Nat) : Int := if powG K = 0 then 4 else 0
def isPow (s : Int) : Option Nat := (List.range 9).find? (fun K => decide (3 ≤ K) && decide (s = 2 ^ K))
theorem isPow_at {s : Int} {K : Nat} (h3 : 3 ≤ K) (h8 : K ≤ 8) (h : s = 2 ^ K) : isPow s = some K := by
  rw [isPow, find_at (i := K) (by omega) (by simp [h3, h])]
  intro j hj
  simp only [Bool.and_eq_false_iff, decide_eq_false_iff_not]
  right
  rw [h]
  intro he
  have h1 : ((2 ^ K : Nat) : Int) = ((2 ^ j : Nat) : Int) := by push_cast; exact he
  have h2 : 2 ^ j < 2 ^ K := Nat.pow_lt_pow_right (by decide) hj
  omega
theorem isPow_no {s : Int} (h : ∀ K : Nat, 3 ≤ K → K ≤ 8 → s ≠ 2 ^ K) : isPow s = none := by
  rw [isPow, List.find?_eq_none]
  intro K hK
  have := List.mem_range.1 hK
  simp only [Bool.and_eq_true, decide_eq_true_eq, not_and]
  exact fun h3 => h K h3 (by omega)
/-- The four numbers that FieldOf returns. -/
def foP (s : Int) : Int := if k1B s 1 = true then s else match isPow s with | none => 0 | some K => lowP K
def foK (s : Int) : Int := if k1B s 1 = true then 1 else match isPow s with | none => 0 | some K => lowK K
def foG (s : Int) : Int := if k1B s 1 = true then (least s.toNat (mul1 s.toNat) : Nat) else match isPow s with | none => 0 | some K => (powG K : Nat)
def foC (s : Int) : Int := if k1B s 1 = true then 0 else match isPow s with | none => 4 | some K => lowC K
theorem fo_1 {P : Nat} (h : k1B P 1 = true) : foP P = P ∧ foK P = 1 ∧ foG P = (least P (mul1 P) : Nat) ∧ foC P = 0 := by
  simp only [foP, foK, foG, foC, h, if_true, Int.toNat_natCast]
  exact ⟨trivial, trivial, trivial, trivial⟩
theorem fo_2 {s : Int} {K : Nat} (h : k1B s 1 = false) (hK : isPow s = some K) : foP s = lowP K ∧ foK s = lowK K ∧ foG s = (powG K : Nat) ∧ foC s = lowC K := by
  simp only [foP, foK, foG, foC, h, hK]
  exact ⟨rfl, rfl, rfl, rfl⟩
theorem fo_0 {s : Int} (h : k1B s 1 = false) (hK : isPow s = none) : foP s = 0 ∧ foK s = 0 ∧ foG s = 0 ∧ foC s = 4 := by
  simp only [foP, foK, foG, foC, h, hK]
  exact ⟨rfl, rfl, rfl, rfl⟩

/-- What a function leaves that returns a field and a code. -/
def GivesF (p k g c : Int) (w : World) (x : Ending) (w' : World) : Prop := x = .returned (.tuple #[.agg #[.int .i64 p, .int .i64 k, .int .i64 g], .int .i64 c]) ∧ Below w.heap.size w w'
theorem ret_f {p k g c p' k' g' c' : Int} (h1 : p' = p) (h2 : k' = k) (h3 : g' = g) (h4 : c' = c) : Ending.returned (.tuple #[.agg #[.int .i64 p, .int .i64 k, .int .i64 g], .int .i64 c]) = .returned (.tuple #[.agg #[.int .i64 p', .int .i64 k', .int .i64 g'], .int .i64 c']) := by
  rw [h1, h2, h3, h4]
theorem Box.frozen {w wr : World} {t : TypeId} {p k g : Int} (h : Box w wr t p k g) : wr.frozen? ⟨w.heap.size, 0, none⟩ = false ∧ wr.frozen? ⟨w.heap.size, 1, none⟩ = false ∧ wr.frozen? ⟨w.heap.size, 2, none⟩ = false :=
  ⟨frozen_of_row wr _ 0 _ _ h.1, frozen_of_row wr _ 1 _ _ h.1, frozen_of_row wr _ 2 _ _ h.1⟩
end Go.Proofs.YtncgeoliboidhaaGreat
