/-
  Values of products, quotients and remainders, roots, and polynomials by their values.
  No condition.
-/
import Derived.Test.YthafkohopkgckaaPolyMath2
namespace Go.Proofs.Ythafkohopkgckaa
section
variable {R : Fld}
def epw (x : El R) : Nat → El R
  | 0 => 1
  | n + 1 => epw x n * x
theorem epw_add (x : El R) (s n : Nat) : epw x (s + n) = epw x s * epw x n := by
  induction n with
  | zero => exact (em1 _).symm
  | succ n ih => show epw x (s + n) * x = epw x s * (epw x n * x); rw [ih, ema]
/-- The value of the first n coefficients. -/
def evN (x : El R) (f : Nat → El R) : Nat → El R
  | 0 => 0
  | n + 1 => evN x f n + f n * epw x n
theorem evN_congr {x : El R} {f g : Nat → El R} (n : Nat) (h : ∀ i, i < n → f i = g i) : evN x f n = evN x g n := by
  induction n with
  | zero => rfl
  | succ n ih =>
    show evN x f n + f n * _ = evN x g n + g n * _
    rw [ih (fun i hi => h i (by omega)), h n (by omega)]
theorem evN_null (x : El R) (n : Nat) : evN x (fun _ => 0) n = 0 := by
  induction n with
  | zero => rfl
  | succ n ih => show evN x (fun _ => 0) n + 0 * _ = 0; rw [ih, e0m, ea0]
theorem evN_zero {x : El R} {f : Nat → El R} (n : Nat) (h : ∀ i, i < n → f i = 0) : evN x f n = 0 := by
  rw [evN_congr (g := fun _ => 0) n h, evN_null]
theorem evN_stop {x : El R} {f : Nat → El R} {n : Nat} (h : ∀ i, n ≤ i → f i = 0) (m : Nat) (hm : n ≤ m) : evN x f m = evN x f n := by
  obtain ⟨d, rfl⟩ := Nat.exists_eq_add_of_le hm
  induction d with
  | zero => rfl
  | succ d ih =>
    show evN x f (n + d) + f (n + d) * _ = _
    rw [h (n + d) (by omega), e0m, ea0, ih (by omega)]
theorem evN_add (x : El R) (f g : Nat → El R) (n : Nat) : evN x (fun i => f i + g i) n = evN x f n + evN x g n := by
  induction n with
  | zero => exact (ea0 0).symm
  | succ n ih =>
    show evN x (fun i => f i + g i) n + (f n + g n) * _ = (evN x f n + f n * _) + (evN x g n + g n * _)
    rw [ih, edr, eswap]
theorem evN_mul (x c : El R) (f : Nat → El R) (n : Nat) : evN x (fun i => c * f i) n = c * evN x f n := by
  induction n with
  | zero => exact (em0 c).symm
  | succ n ih =>
    show evN x (fun i => c * f i) n + (c * f n) * _ = c * (evN x f n + f n * _)
    rw [ih, edl, ema]
theorem evN_neg (x : El R) (f : Nat → El R) (n : Nat) : evN x (fun i => -(f i)) n = -(evN x f n) := by
  induction n with
  | zero => exact en0.symm
  | succ n ih =>
    show evN x (fun i => -(f i)) n + (-(f n)) * _ = -(evN x f n + f n * _)
    rw [ih, enadd, enm]
theorem evN_up (x a : El R) (s : Nat) (f : Nat → El R) (n : Nat) : evN x (up s a f) (s + n) = a * epw x s * evN x f n := by
  induction n with
  | zero => rw [Nat.add_zero, evN_zero s (fun i hi => up_lt hi)]; exact (em0 _).symm
  | succ n ih =>
    show evN x (up s a f) (s + n) + up s a f (s + n) * epw x (s + n) = a * epw x s * (evN x f n + f n * epw x n)
    rw [ih, up_add, epw_add, edl]
    congr 1
    rw [ema, ema, eml (f n)]
theorem mulN_far (a : Nat → El R) {f : Nat → El R} {m : Nat} (hf : ∀ i, m ≤ i → f i = 0) (n i : Nat) (h : n + m ≤ i) : mulN a f n i = 0 :=
  mulN_out a hf n i (fun l hl => by omega)
theorem evN_mulN (x : El R) (a : Nat → El R) {f : Nat → El R} {m : Nat} (hf : ∀ i, m ≤ i → f i = 0) (n : Nat) : evN x (mulN a f n) (n + m) = evN x a n * evN x f m := by
  induction n with
  | zero => exact (evN_null x (0 + m)).trans (e0m _).symm
  | succ n ih =>
    show evN x (fun i => mulN a f n i + up n (a n) f i) (n + 1 + m) = (evN x a n + a n * epw x n) * evN x f m
    rw [evN_add, evN_stop (n := n + m) (fun i hi => mulN_far a hf n i hi) (n + 1 + m) (by omega), ih,
      evN_stop (n := n + m) (fun i hi => up_out hf hi) (n + 1 + m) (by omega), evN_up, edr]

theorem evN_shift (x : El R) (f : Nat → El R) (n : Nat) : evN x f (n + 1) = evN x (fun i => f (i + 1)) n * x + f 0 := by
  induction n with
  | zero => show 0 + f 0 * 1 = 0 * x + f 0; rw [em1, e0m]
  | succ n ih =>
    have h1 : evN x f (n + 1 + 1) = evN x f (n + 1) + f (n + 1) * (epw x n * x) := rfl
    have h2 : evN x (fun i => f (i + 1)) (n + 1) = evN x (fun i => f (i + 1)) n + f (n + 1) * epw x n := rfl
    rw [h1, ih, h2, edr, ema, eaa, eaa, eac (f 0)]
theorem cf_cons (a : El R) (p : List (El R)) : (fun i => cf (a :: p) (i + 1)) = cf p := by
  funext i; unfold cf; simp
theorem ev_is (x : El R) : ∀ p : List (El R), ev x p = evN x (cf p) p.length
  | [] => rfl
  | a :: p => by
    show ev x p * x + a = evN x (cf (a :: p)) (p.length + 1)
    rw [evN_shift, cf_cons, ev_is x p]; rfl
theorem ev_far {x : El R} {p : List (El R)} {n : Nat} (h : p.length ≤ n) : ev x p = evN x (cf p) n := by
  rw [ev_is, evN_stop (cf_far p) n h]
theorem ev_of {x : El R} {p : List (El R)} {n : Nat} {f : Nat → El R} (h : cf p = f) (hf : ∀ i, n ≤ i → f i = 0) : ev x p = evN x f n := by
  subst h
  rcases Nat.le_total p.length n with h1 | h1
  · exact ev_far h1
  · rw [ev_is, evN_stop hf _ h1]
theorem ev_mul (x : El R) (p q : List (El R)) : ev x (mulP p q) = ev x p * ev x q := by
  rw [ev_of (cf_mulP p q) (fun i hi => mulN_far (cf p) (cf_far q) p.length i hi), evN_mulN x _ (cf_far q), ← ev_is, ← ev_is]
theorem ev_add (x : El R) (p q : List (El R)) : ev x (addP p q) = ev x p + ev x q := by
  rw [ev_of (n := max p.length q.length) (cf_addP p q) (fun i hi => by rw [cf_out (by omega), cf_out (by omega), ea0]), evN_add, ← ev_far (by omega), ← ev_far (by omega)]

/-! Division. -/
theorem up_neg (s : Nat) (a : El R) (f : Nat → El R) (i : Nat) : up s (-a) f i + up s a f i = 0 := by
  unfold up; split
  · rw [enm, ena]
  · exact ea0 0
theorem dv_sum (G : Nat → El R) (m : Nat) (v : El R) : ∀ (K : Nat) (f : Nat → El R) (i : Nat), f i = mulN (dvq G m v K f) G K i + dvs G m v K f i
  | 0, f, i => (e0a _).symm
  | K + 1, f, i => by
    have h1 : mulN (dvq G m v (K + 1) f) G (K + 1) i = mulN (dvq G m v (K + 1) f) G K i + up K (dvq G m v (K + 1) f K) G i := rfl
    have h2 : mulN (dvq G m v (K + 1) f) G K = mulN (dvq G m v K (fun i => f i + up K (-(f (K + m) * v)) G i)) G K := by
      refine mulN_congr K fun l hl => ?_
      show (if l = K then _ else _) = _
      rw [if_neg (by omega)]
    have h3 : dvq G m v (K + 1) f K = f (K + m) * v := if_pos rfl
    have h4 := dv_sum G m v K (fun i => f i + up K (-(f (K + m) * v)) G i) i
    have h5 : dvs G m v (K + 1) f i = dvs G m v K (fun i => f i + up K (-(f (K + m) * v)) G i) i := rfl
    rw [h1, h2, h3, h5, eaa, eac (up K _ G i), ← eaa, ← h4, eaa, up_neg, ea0]
theorem dvs_far {G : Nat → El R} {m : Nat} {v : El R} (hG : ∀ i, m + 1 ≤ i → G i = 0) (hv : G m * v = 1) : ∀ (K : Nat) (f : Nat → El R), (∀ i, K + m ≤ i → f i = 0) → ∀ i, m ≤ i → dvs G m v K f i = 0
  | 0, f, hf, i, hi => hf i (by omega)
  | K + 1, f, hf, i, hi => by
    refine dvs_far hG hv K _ (fun j hj => ?_) i hi
    rcases Nat.eq_or_lt_of_le hj with h | h
    · subst h
      rw [up_add, enm, ema, emc v, hv, em1, ean]
    · rw [hf j (by omega), e0a]
      unfold up; split
      · rw [hG _ (by omega), em0]
      · rfl
/-- A polynomial whose product with G is short is 0. -/
theorem mul_short {G : Nat → El R} {m : Nat} (hG : ∀ i, m + 1 ≤ i → G i = 0) (h0 : G m ≠ 0) : ∀ (N : Nat) (D : Nat → El R), (∀ i, N ≤ i → D i = 0) → (∀ i, m ≤ i → mulN D G N i = 0) → ∀ i, D i = 0
  | 0, D, hD, _, i => hD i (by omega)
  | N + 1, D, hD, hM, i => by
    have h1 := hM (N + m) (by omega)
    rw [mulN_top D hG N] at h1
    have h2 : D N = 0 := Classical.byContradiction fun h => emul_ne h h0 h1
    have h3 : ∀ i, N ≤ i → D i = 0 := fun i hi => by
      rcases Nat.eq_or_lt_of_le hi with h | h
      · rw [← h]; exact h2
      · exact hD i (by omega)
    refine mul_short hG h0 N D h3 (fun i hi => ?_) i
    rw [← mulN_stop h3 (N + 1) (by omega)]
    exact hM i hi

section
variable {p q : List (El R)}
theorem last_ne (hq : Tr q) (h : 0 < q.length) : lastE q ≠ 0 := hq (q.length - 1) (by omega)
theorem last_inv (hq : Tr q) (h : 0 < q.length) : cf q (q.length - 1) * (lastE q).inv = 1 := einv (last_ne hq h)
theorem cf_rem (hq : Tr q) (h : 0 < q.length) (hpq : q.length ≤ p.length) : cf (remP p q) = dvs (cf q) (q.length - 1) (lastE q).inv (p.length - q.length + 1) (cf p) := by
  rw [remP, if_neg (by omega), cf_trim]
  exact cf_tab' fun i hi => dvs_far (G := cf q) (m := q.length - 1) (fun i hi => cf_out (by omega)) (last_inv hq h) _ _ (fun i hi => cf_out (by omega)) i (by omega)
theorem cf_quo (hpq : q.length ≤ p.length) : cf (quoP p q) = dvq (cf q) (q.length - 1) (lastE q).inv (p.length - q.length + 1) (cf p) := by
  rw [quoP, if_neg (by omega)]
  refine cf_tab' fun i hi => ?_
  have : ∀ (K : Nat) (f : Nat → El R) (i : Nat), K ≤ i → dvq (cf q) (q.length - 1) (lastE q).inv K f i = 0 := by
    intro K
    induction K with
    | zero => intro _ _ _; rfl
    | succ K ih =>
      intro f i h
      show (if i = K then _ else _) = _
      rw [if_neg (by omega)]
      exact ih _ i (by omega)
  exact this _ _ i hi
theorem quo_len (hpq : q.length ≤ p.length) : (quoP p q).length = p.length - q.length + 1 := by rw [quoP, if_neg (by omega), tab_len]
theorem rem_len (hq : Tr q) (h : 0 < q.length) : (remP p q).length < q.length := by
  rcases Nat.lt_or_ge p.length q.length with h1 | h1
  · rw [remP, if_pos h1]; exact h1
  · have h2 : (remP p q).length ≤ q.length - 1 := by
      refine tr_len (by rw [remP, if_neg (by omega)]; exact tr_trim _) fun i hi => ?_
      rw [cf_rem hq h h1]
      exact dvs_far (G := cf q) (m := q.length - 1) (fun i hi => cf_out (by omega)) (last_inv hq h) _ _ (fun i hi => cf_out (by omega)) i hi
    omega
theorem rem_le : (remP p q).length ≤ p.length := by
  unfold remP; split
  · exact Nat.le_refl _
  · refine Nat.le_trans (trim_le _) ?_; rw [tab_len]; exact Nat.le_refl _
theorem tr_rem (hp : Tr p) : Tr (remP p q) := by
  unfold remP; split
  · exact hp
  · exact tr_trim _
theorem tr_quo (hp : Tr p) (hq : Tr q) (h : 0 < q.length) : Tr (quoP p q) := by
  intro i hi
  rcases Nat.lt_or_ge p.length q.length with h1 | h1
  · rw [quoP, if_pos h1] at hi; simp at hi
  · rw [quo_len h1] at hi
    obtain rfl : i = p.length - q.length := by omega
    rw [cf_quo h1]
    show (if p.length - q.length = p.length - q.length then _ else _) ≠ _
    rw [if_pos rfl]
    refine emul_ne (hp _ (by omega)) (einv_ne (last_ne hq h))
theorem tr_mul (hp : Tr p) (hq : Tr q) : Tr (mulP p q) := by
  intro i hi
  rw [mulP, tab_len] at hi
  by_cases h : p.length = 0 ∨ q.length = 0
  · rw [plen_0 h] at hi; omega
  · rw [plen_1 (by omega) (by omega)] at hi
    rw [cf_mulP]
    obtain ⟨n, hn⟩ : ∃ n, p.length = n + 1 := ⟨p.length - 1, by omega⟩
    obtain ⟨m, hm⟩ : ∃ m, q.length = m + 1 := ⟨q.length - 1, by omega⟩
    obtain rfl : i = n + m := by omega
    rw [hn, mulN_top _ (fun i hi => cf_out (by omega))]
    exact emul_ne (hp n hn.symm) (hq m hm.symm)
/-- A polynomial is the quotient times the divisor plus the remainder. -/
theorem div_sum (hq : Tr q) (h : 0 < q.length) (i : Nat) : cf p i = cf (mulP (quoP p q) q) i + cf (remP p q) i := by
  rcases Nat.lt_or_ge p.length q.length with h1 | h1
  · rw [cf_mulP, quoP, if_pos h1, remP, if_pos h1]; exact (e0a _).symm
  · rw [cf_mulP, cf_rem hq h h1, cf_quo h1, quo_len h1]
    exact dv_sum _ _ _ _ _ i
theorem div_sum' (hp : Tr p) (hq : Tr q) (h : 0 < q.length) : addP (mulP (quoP p q) q) (remP p q) = p := by
  refine trim_of ?_ hp
  rw [cf_tab' fun i hi => by rw [cf_out (by omega), cf_out (by omega), ea0]]
  funext i
  exact (div_sum hq h i).symm
/-- Quotient and remainder are the only ones. -/
theorem div_only (hq : Tr q) (h : 0 < q.length) {a : Nat → El R} {N : Nat} (ha : ∀ i, N ≤ i → a i = 0) {r : Nat → El R} (hr : ∀ i, q.length - 1 ≤ i → r i = 0) (hs : ∀ i, cf p i = mulN a (cf q) N i + r i) :
    (∀ i, a i = cf (quoP p q) i) ∧ ∀ i, r i = cf (remP p q) i := by
  obtain ⟨M, hM1, hM2⟩ : ∃ M, N ≤ M ∧ (quoP p q).length ≤ M := ⟨max N (quoP p q).length, by omega, by omega⟩
  have hR : ∀ i, q.length - 1 ≤ i → cf (remP p q) i = 0 := fun i hi => cf_out (by have := rem_len (p := p) hq h; omega)
  have key : ∀ i, mulN (fun j => a j + -(cf (quoP p q) j)) (cf q) M i = cf (remP p q) i + -(r i) := by
    intro i
    have e1 := hs i
    rw [div_sum hq h i, cf_mulP] at e1
    rw [mulN_addL, mulN_negL, mulN_stop ha M hM1, mulN_stop (cf_far (quoP p q)) M hM2]
    have e2 : cf (remP p q) i = mulN a (cf q) N i + r i + -(mulN (cf (quoP p q)) (cf q) (quoP p q).length i) := by
      rw [← e1, eac, ← eaa, ena, e0a]
    rw [e2, eaa (mulN a (cf q) N i), eaa, eaa, eac (-(mulN _ _ _ _)), ← eaa (r i), ean, e0a]
  have hz : ∀ i, a i + -(cf (quoP p q) i) = 0 := by
    refine mul_short (G := cf q) (m := q.length - 1) (fun i hi => cf_out (by omega)) (last_ne hq h) M _ (fun i hi => by rw [ha i (by omega), cf_out (by omega), en0, ea0]) fun i hi => ?_
    rw [key, hR i hi, hr i hi, en0, ea0]
  have hz' : ∀ i, a i = cf (quoP p q) i := fun i => esub (hz i)
  refine ⟨hz', fun i => ?_⟩
  have e3 := key i
  rw [mulN_congr (b := fun _ => (0 : El R)) M (fun i _ => hz i), mulN_stop (n := 0) (fun _ _ => rfl) M (by omega)] at e3
  exact (esub e3.symm).symm
theorem div_back (hp : Tr p) (hq : Tr q) (h : 0 < q.length) : quoP (mulP p q) q = p ∧ remP (mulP p q) q = [] := by
  have h1 := div_only (p := mulP p q) hq h (a := cf p) (N := p.length) (cf_far p) (r := fun _ => 0) (fun _ _ => rfl) (fun i => by rw [cf_mulP, ea0])
  exact ⟨tr_ext (tr_quo (tr_mul hp hq) hq h) hp (funext fun i => (h1.1 i).symm), nil_of (tr_rem (tr_mul hp hq)) (fun i => (h1.2 i).symm)⟩
end

/-! Roots. -/
/-- x - a. -/
def lin (a : El R) : List (El R) := [-a, 1]
theorem tr_lin (a : El R) : Tr (lin a) := fun i hi => by
  obtain rfl : i = 1 := by simp [lin] at hi; omega
  exact e10
theorem ev_lin (a x : El R) : ev x (lin a) = x + -a := by
  show (0 * x + 1) * x + -a = _
  rw [e0m, e0a, e1m]
theorem roots_zero : ∀ (n : Nat) (f : Nat → El R) (xs : List (El R)), xs.Nodup → n ≤ xs.length → (∀ i, n ≤ i → f i = 0) → (∀ x ∈ xs, evN x f n = 0) → ∀ i, f i = 0
  | 0, f, _, _, _, hf, _, i => hf i (by omega)
  | n + 1, f, [], _, hl, _, _, i => by simp at hl
  | n + 1, f, x :: xs, hd, hl, hf, h, i => by
    have hG : ∀ i, 1 + 1 ≤ i → cf (lin x) i = 0 := fun i hi => cf_out (by simp [lin]; omega)
    have hv : cf (lin x) 1 * (1 : El R) = 1 := em1 1
    have hfar := dvs_far hG hv n f (fun i hi => hf i (by omega))
    have hsum := dv_sum (cf (lin x)) 1 1 n f
    have hout : ∀ (K : Nat) (f : Nat → El R) (i : Nat), K ≤ i → dvq (cf (lin x)) 1 1 K f i = 0 := by
      intro K
      induction K with
      | zero => intro _ _ _; rfl
      | succ K ih =>
        intro f i h
        show (if i = K then _ else _) = _
        rw [if_neg (by omega)]
        exact ih _ i (by omega)
    have hev : ∀ y, evN y f (n + 1) = evN y (dvq (cf (lin x)) 1 1 n f) n * (y + -x) + dvs (cf (lin x)) 1 1 n f 0 := by
      intro y
      have e1 : evN y f (n + 1) = evN y f (n + 2) := (evN_stop hf (n + 2) (by omega)).symm
      rw [e1, evN_congr (n + 2) (fun i _ => hsum i), evN_add, evN_mulN y _ (m := 2) (fun i hi => hG i (by omega)), evN_stop (n := 1) hfar (n + 2) (by omega)]
      have e2 : evN y (cf (lin x)) 2 = y + -x := by rw [← ev_lin]; exact (ev_is y (lin x)).symm
      rw [e2]
      congr 1
      show 0 + _ * 1 = _
      rw [em1, e0a]
    have hc : dvs (cf (lin x)) 1 1 n f 0 = 0 := by
      have := h x (List.mem_cons_self ..)
      rw [hev x, ean, em0, e0a] at this
      exact this
    have hq0 := roots_zero n (dvq (cf (lin x)) 1 1 n f) xs (List.nodup_cons.1 hd).2 (by simp at hl; omega) (hout n f) (fun y hy => by
      have h1 := h y (List.mem_cons_of_mem _ hy)
      rw [hev y, hc, ea0] at h1
      have hne : y ≠ x := fun e => (List.nodup_cons.1 hd).1 (e ▸ hy)
      exact Classical.byContradiction fun hz => emul_ne hz (esub_ne hne) h1)
    rw [hsum i, mulN_congr (b := fun _ => (0 : El R)) n (fun i _ => hq0 i), mulN_stop (n := 0) (fun _ _ => rfl) n (by omega)]
    show 0 + _ = _
    rw [e0a]
    rcases Nat.eq_zero_or_pos i with h0 | h0
    · rw [h0]; exact hc
    · exact hfar i h0
/-- There are fewer roots than coefficients. -/
theorem roots_few {p : List (El R)} {xs : List (El R)} (hp : Tr p) (h0 : 0 < p.length) (hd : xs.Nodup) (h : ∀ x ∈ xs, ev x p = 0) : xs.length < p.length := by
  rcases Nat.lt_or_ge xs.length p.length with h1 | h1
  · exact h1
  · have := nil_of hp (roots_zero p.length (cf p) xs hd h1 (cf_far p) (fun x hx => by rw [← ev_is]; exact h x hx))
    rw [this] at h0; simp at h0
/-- Two short polynomials with the same values are the same. -/
theorem fit_only {p q : List (El R)} {xs : List (El R)} (hp : Tr p) (hq : Tr q) (h1 : p.length ≤ xs.length) (h2 : q.length ≤ xs.length) (hd : xs.Nodup) (h : ∀ x ∈ xs, ev x p = ev x q) : p = q := by
  refine tr_ext hp hq (funext fun i => ?_)
  refine esub (roots_zero xs.length (fun i => cf p i + -(cf q i)) xs hd (Nat.le_refl _) (fun i hi => by rw [cf_out (by omega), cf_out (by omega), en0, ea0]) (fun x hx => ?_) i)
  rw [evN_add, evN_neg, ← ev_far h1, ← ev_far h2, h x hx, ean]
end
end Go.Proofs.Ythafkohopkgckaa
