/-
  Reed-Solomon codes, as the program and the model reckon with them: generator polynomials, encoded words, syndromes, sums of words, and how far two code words lie apart.
  No condition.
-/
import Derived.Test.YtncgeoliboidhaaGreatVD
namespace Go.Proofs.YtncgeoliboidhaaGreat
section
variable {R : Fld}

theorem epw_one (x : El R) : epw x 1 = x := e1m x
theorem epw_succ' (x : El R) (n : Nat) : epw x (n + 1) = x * epw x n := emc _ _
theorem epw_mul (x : El R) (a b : Nat) : epw x (a * b) = epw (epw x a) b := by
  induction b with
  | zero => rfl
  | succ b ih => rw [Nat.mul_succ, epw_add, ih]; rfl
theorem epw_swap (x : El R) (a b : Nat) : epw (epw x a) b = epw (epw x b) a := by rw [← epw_mul, ← epw_mul, Nat.mul_comm]
theorem epw_ne {x : El R} (h : x ≠ 0) : ∀ n, epw x n ≠ 0
  | 0 => e10
  | n + 1 => emul_ne (epw_ne h n) h

theorem ev_trim (x : El R) (p : List (El R)) : ev x (trim p) = ev x p := by
  rw [ev_far (trim_le p), cf_trim, ← ev_is]
theorem ev_app (x : El R) (p q : List (El R)) : ev x (p ++ q) = ev x p + epw x p.length * ev x q := by
  induction p with
  | nil => show ev x q = 0 + 1 * ev x q; rw [e1m, e0a]
  | cons a p ih =>
    show ev x (p ++ q) * x + a = (ev x p * x + a) + epw x (p.length + 1) * ev x q
    rw [ih, edr, show epw x (p.length + 1) = epw x p.length * x from rfl]
    rw [show epw x p.length * ev x q * x = epw x p.length * x * ev x q by rw [ema, ema, emc x], eaa, eaa, eac a]
/-- A value, one coefficient more of a word at a time. -/
theorem ev_next {x : El R} {ws : List (El R)} {j : Nat} (h : j < ws.length) : ev x (ws.take (j + 1)).reverse = ev x (ws.take j).reverse * x + cf ws j := by
  rw [List.take_add_one, at_cf h]
  simp only [Option.toList_some, List.reverse_append, List.reverse_cons, List.reverse_nil, List.nil_append, List.cons_append]
  rfl
theorem cf_rev {ws : List (El R)} {i : Nat} (h : i < ws.length) : cf ws.reverse i = cf ws (ws.length - 1 - i) := by
  refine cf_at ?_
  rw [List.getElem?_reverse h, at_cf (by omega)]
theorem tab_rev (n : Nat) (f : Nat → El R) : (tab n f).reverse = tab n fun i => f (n - 1 - i) := by
  refine List.ext_getElem? fun i => ?_
  rcases Nat.lt_or_ge i n with h | h
  · rw [tab_at _ h, List.getElem?_reverse (by rw [tab_len]; exact h), tab_len, tab_at _ (by omega)]
  · rw [List.getElem?_eq_none (by rw [List.length_reverse, tab_len]; exact h), List.getElem?_eq_none (by rw [tab_len]; exact h)]

/-- A polynomial by its roots. -/
def rootP : List (El R) → List (El R)
  | [] => [1]
  | a :: l => mulP (rootP l) (lin a)
theorem root_facts : ∀ l : List (El R), Tr (rootP l) ∧ (rootP l).length = l.length + 1
  | [] => ⟨fun i hi => by
      obtain rfl : i = 0 := by simpa [rootP] using hi
      exact e10, rfl⟩
  | a :: l => by
    obtain ⟨h1, h2⟩ := root_facts l
    refine ⟨tr_mul h1 (tr_lin a), ?_⟩
    show (mulP (rootP l) (lin a)).length = l.length + 1 + 1
    rw [mulP, tab_len, plen_1 (by omega) (by simp [lin]), h2]; simp [lin]
theorem tr_root (l : List (El R)) : Tr (rootP l) := (root_facts l).1
theorem root_len (l : List (El R)) : (rootP l).length = l.length + 1 := (root_facts l).2
theorem ev_one (x : El R) : ev x [1] = 1 := by show 0 * x + 1 = 1; rw [e0m, e0a]
theorem ev_root_in {x : El R} : ∀ {l : List (El R)}, x ∈ l → ev x (rootP l) = 0
  | a :: l, h => by
    show ev x (mulP (rootP l) (lin a)) = 0
    rw [ev_mul, ev_lin]
    rcases List.mem_cons.1 h with rfl | h
    · rw [ean, em0]
    · rw [ev_root_in h, e0m]
theorem ev_root_out {x : El R} : ∀ {l : List (El R)}, x ∉ l → ev x (rootP l) ≠ 0
  | [], _ => by rw [rootP, ev_one]; exact e10
  | a :: l, h => by
    show ev x (mulP (rootP l) (lin a)) ≠ 0
    rw [ev_mul, ev_lin]
    refine emul_ne (ev_root_out (fun hx => h (List.mem_cons_of_mem _ hx))) (esub_ne fun e => h ?_)
    rw [e]; exact List.mem_cons_self ..

/-- The powers of an element from the first to one with a number, the last first. -/
def rts (γ : El R) : Nat → List (El R)
  | 0 => []
  | n + 1 => epw γ (n + 1) :: rts γ n
theorem rts_len (γ : El R) : ∀ n, (rts γ n).length = n
  | 0 => rfl
  | n + 1 => by show (rts γ n).length + 1 = _; rw [rts_len γ n]
theorem rts_mem {γ x : El R} : ∀ {n : Nat}, x ∈ rts γ n ↔ ∃ j, j < n ∧ x = epw γ (j + 1)
  | 0 => ⟨fun h => (List.not_mem_nil h).elim, fun ⟨j, h, _⟩ => absurd h (by omega)⟩
  | n + 1 => by
    show x ∈ epw γ (n + 1) :: rts γ n ↔ _
    rw [List.mem_cons, rts_mem]
    constructor
    · rintro (h | ⟨j, hj, h⟩)
      · exact ⟨n, by omega, h⟩
      · exact ⟨j, by omega, h⟩
    · rintro ⟨j, hj, h⟩
      rcases Nat.lt_or_ge j n with h1 | h1
      · exact .inr ⟨j, h1, h⟩
      · obtain rfl : j = n := by omega
        exact .inl h
/-- The first powers of an element are different. -/
def Far (γ : El R) (N : Nat) : Prop := γ ≠ 0 ∧ ∀ i j, i < N → j < N → i ≠ j → epw γ i ≠ epw γ j
theorem rts_nodup {γ : El R} {N : Nat} (h : Far γ N) : ∀ {n : Nat}, n < N → (rts γ n).Nodup
  | 0, _ => List.nodup_nil
  | n + 1, hn => by
    show (epw γ (n + 1) :: rts γ n).Nodup
    refine List.nodup_cons.2 ⟨fun hm => ?_, rts_nodup h (by omega)⟩
    obtain ⟨j, hj, e⟩ := rts_mem.1 hm
    exact h.2 (n + 1) (j + 1) (by omega) (by omega) (by omega) e
/-- The generator polynomial. -/
def genP (γ : El R) (n : Nat) : List (El R) := rootP (rts γ n)
theorem gen_zero (γ : El R) : genP γ 0 = [1] := rfl
theorem gen_succ (γ : El R) (n : Nat) : genP γ (n + 1) = mulP (genP γ n) (lin (epw γ (n + 1))) := rfl
theorem tr_gen (γ : El R) (n : Nat) : Tr (genP γ n) := tr_root _
theorem gen_len (γ : El R) (n : Nat) : (genP γ n).length = n + 1 := by rw [genP, root_len, rts_len]
theorem ev_gen {γ : El R} {n j : Nat} (h : j < n) : ev (epw γ (j + 1)) (genP γ n) = 0 := ev_root_in (rts_mem.2 ⟨j, h, rfl⟩)

/-- The polynomial of a word. -/
def wpoly (ws : List (El R)) : List (El R) := trim ws.reverse
theorem ev_wpoly (x : El R) (ws : List (El R)) : ev x (wpoly ws) = ev x ws.reverse := ev_trim x _
theorem wpoly_le (ws : List (El R)) : (wpoly ws).length ≤ ws.length := by
  have := trim_le ws.reverse; rw [List.length_reverse] at this; exact this
theorem tr_wpoly (ws : List (El R)) : Tr (wpoly ws) := tr_trim _
/-- The syndromes of a word. -/
def synW (γ : El R) (n : Nat) (ws : List (El R)) : List (El R) := tab n fun j => ev (epw γ (j + 1)) ws.reverse
theorem syn_len (γ : El R) (n : Nat) (ws : List (El R)) : (synW γ n ws).length = n := tab_len _ _
theorem syn_at (γ : El R) {n j : Nat} (ws : List (El R)) (h : j < n) : cf (synW γ n ws) j = ev (epw γ (j + 1)) ws.reverse := by rw [synW, cf_tab, if_pos h]
/-- All elements are 0. -/
def zeroL (ps : List (El R)) : Bool := ps.all fun a => decide (a = 0)
theorem zeroL_cf {ps : List (El R)} (h : zeroL ps = true) (i : Nat) : cf ps i = 0 := by
  rcases Nat.lt_or_ge i ps.length with hi | hi
  · have := List.all_eq_true.1 h (cf ps i) (List.mem_of_getElem? (at_cf hi))
    simpa using this
  · exact cf_out hi
theorem zeroL_of {ps : List (El R)} (h : ∀ i, i < ps.length → cf ps i = 0) : zeroL ps = true := by
  refine List.all_eq_true.2 fun a ha => ?_
  obtain ⟨i, hi⟩ := List.getElem?_of_mem ha
  have hl := (List.getElem?_eq_some_iff.1 hi).1
  rw [at_cf hl, h i hl] at hi
  injection hi with hi
  simp [← hi]
theorem zeroL_no {ps : List (El R)} {i : Nat} (h : cf ps i ≠ 0) : zeroL ps = false := by
  rcases hz : zeroL ps with _ | _
  · rfl
  · exact absurd (zeroL_cf hz i) h
/-- It is a code word. -/
def isCW (γ : El R) (n : Nat) (ws : List (El R)) : Bool := zeroL (synW γ n ws)
theorem isCW_iff {γ : El R} {n : Nat} {ws : List (El R)} : isCW γ n ws = true ↔ ∀ j, j < n → ev (epw γ (j + 1)) ws.reverse = 0 := by
  constructor
  · intro h j hj; rw [← syn_at γ ws hj]; exact zeroL_cf h j
  · intro h; exact zeroL_of fun i hi => by rw [syn_len] at hi; rw [syn_at γ ws hi]; exact h i hi

/-- A message with zeros behind it. -/
def padW (n : Nat) (ms : List (El R)) : List (El R) := ms ++ tab n fun _ => 0
/-- What is left of it by the generator polynomial. -/
def restW (γ : El R) (n : Nat) (ms : List (El R)) : List (El R) := remP (wpoly (padW n ms)) (genP γ n)
/-- An encoded word. -/
def encW (γ : El R) (n : Nat) (ms : List (El R)) : List (El R) := ms ++ tab n fun i => -(cf (restW γ n ms) (n - 1 - i))
theorem enc_len (γ : El R) (n : Nat) (ms : List (El R)) : (encW γ n ms).length = ms.length + n := by rw [encW, List.length_append, tab_len]
theorem pad_len (n : Nat) (ms : List (El R)) : (padW n ms).length = ms.length + n := by rw [padW, List.length_append, tab_len]
theorem rest_le (γ : El R) (n : Nat) (ms : List (El R)) : (restW γ n ms).length ≤ n := by
  have := rem_len (p := wpoly (padW n ms)) (tr_gen γ n) (by rw [gen_len]; omega)
  rw [gen_len] at this
  unfold restW; omega
theorem enc_take (γ : El R) (n : Nat) (ms : List (El R)) : (encW γ n ms).take ms.length = ms := by rw [encW, List.take_left]
theorem ev_enc (γ x : El R) (n : Nat) (ms : List (El R)) : ev x (encW γ n ms).reverse = ev x (quoP (wpoly (padW n ms)) (genP γ n)) * ev x (genP γ n) := by
  have h1 : ev x (padW n ms).reverse = epw x n * ev x ms.reverse := by
    rw [padW, List.reverse_append, ev_app, List.length_reverse, tab_len, tab_rev]
    rw [show ev x (tab n fun i => (fun _ => (0 : El R)) (n - 1 - i)) = 0 by rw [ev_is, tab_len, evN_zero _ (fun i _ => by rw [cf_tab]; split <;> rfl)], e0a]
  have h2 : ev x (encW γ n ms).reverse = -(ev x (restW γ n ms)) + epw x n * ev x ms.reverse := by
    rw [encW, List.reverse_append, ev_app, List.length_reverse, tab_len, tab_rev]
    congr 1
    rw [ev_is, tab_len, ev_far (rest_le γ n ms), ← evN_neg]
    refine evN_congr n fun i hi => ?_
    rw [cf_tab, if_pos hi]
    show -(cf _ (n - 1 - (n - 1 - i))) = _
    rw [show n - 1 - (n - 1 - i) = i by omega]
  have h3 : ev x (padW n ms).reverse = ev x (quoP (wpoly (padW n ms)) (genP γ n)) * ev x (genP γ n) + ev x (restW γ n ms) := by
    have h := div_sum' (tr_wpoly (padW n ms)) (tr_gen γ n) (by rw [gen_len]; omega)
    rw [← ev_wpoly, ← h, ev_add, ev_mul, h]; rfl
  rw [h2, ← h1, h3, eac (-_), eaa, ean, ea0]
theorem enc_isCW (γ : El R) (n : Nat) (ms : List (El R)) : isCW γ n (encW γ n ms) = true :=
  isCW_iff.2 fun j hj => by rw [ev_enc, ev_gen hj, em0]

/-- The sum of two words. -/
def addW (a b : List (El R)) : List (El R) := tab a.length fun i => cf a i + cf b i
theorem addW_len (a b : List (El R)) : (addW a b).length = a.length := tab_len _ _
theorem ev_addW (x : El R) {a b : List (El R)} (h : a.length = b.length) : ev x (addW a b).reverse = ev x a.reverse + ev x b.reverse := by
  rw [ev_is x (addW a b).reverse, ev_is x a.reverse, ev_is x b.reverse, List.length_reverse, List.length_reverse, List.length_reverse, addW_len, ← h, ← evN_add]
  refine evN_congr _ fun i hi => ?_
  rw [cf_rev (by rw [addW_len]; exact hi), cf_rev hi, cf_rev (by rw [← h]; exact hi), addW_len, ← h, addW, cf_tab, if_pos (by omega)]
theorem add_isCW {γ : El R} {n : Nat} {a b : List (El R)} (hl : a.length = b.length) (ha : isCW γ n a = true) (hb : isCW γ n b = true) : isCW γ n (addW a b) = true :=
  isCW_iff.2 fun j hj => by rw [ev_addW _ hl, isCW_iff.1 ha j hj, isCW_iff.1 hb j hj, ea0]

/-! How far code words lie apart. -/
/-- A sum of values at powers, each with a factor. -/
def sumV (γ : El R) (D : Nat → El R) (s : Nat) (f : List (El R)) : Nat → El R
  | 0 => 0
  | n + 1 => sumV γ D s f n + D n * epw (epw γ n) (s + 1) * ev (epw γ n) f
theorem sumV_nil (γ : El R) (D : Nat → El R) (s : Nat) : ∀ n, sumV γ D s [] n = 0
  | 0 => rfl
  | n + 1 => by show sumV γ D s [] n + _ * 0 = 0; rw [sumV_nil γ D s n, em0, ea0]
theorem sumV_cons (γ : El R) (D : Nat → El R) (s : Nat) (a : El R) (f : List (El R)) : ∀ n, sumV γ D s (a :: f) n = sumV γ D (s + 1) f n + a * evN (epw γ (s + 1)) D n
  | 0 => by show (0 : El R) = 0 + a * 0; rw [em0, ea0]
  | n + 1 => by
    show sumV γ D s (a :: f) n + D n * epw (epw γ n) (s + 1) * (ev (epw γ n) f * epw γ n + a) = (sumV γ D (s + 1) f n + D n * (epw (epw γ n) (s + 1) * epw γ n) * ev (epw γ n) f) + a * (evN (epw γ (s + 1)) D n + D n * epw (epw γ (s + 1)) n)
    rw [sumV_cons γ D s a f n, edl, edl, eswap]
    congr 1
    congr 1
    · rw [ema, ema, ema]
      congr 2
      rw [emc (ev _ f)]
    · rw [epw_swap γ (s + 1) n, emc a (D n * _)]
/-- Of a polynomial with few coefficients the sum is 0, if the values at the first powers are 0. -/
theorem sumV_zero {γ : El R} {D : Nat → El R} {n m : Nat} (h : ∀ j, j < m → evN (epw γ (j + 1)) D n = 0) : ∀ (f : List (El R)) (s : Nat), s + f.length ≤ m → sumV γ D s f n = 0
  | [], s, _ => sumV_nil γ D s n
  | a :: f, s, hs => by
    have hs' : s + (f.length + 1) ≤ m := hs
    rw [sumV_cons, sumV_zero h f (s + 1) (by omega), h s (by omega), em0, ea0]
theorem sumV_none {γ : El R} {D : Nat → El R} {s : Nat} {f : List (El R)} : ∀ n, (∀ i, i < n → D i = 0 ∨ ev (epw γ i) f = 0) → sumV γ D s f n = 0
  | 0, _ => rfl
  | n + 1, h => by
    show sumV γ D s f n + _ = 0
    rw [sumV_none n fun i hi => h i (by omega), e0a]
    rcases h n (by omega) with h1 | h1 <;> rw [h1]
    · rw [e0m, e0m]
    · rw [em0]
theorem sumV_one {γ : El R} {D : Nat → El R} {s : Nat} {f : List (El R)} {k : Nat} : ∀ n, k < n → (∀ i, i < n → i ≠ k → D i = 0 ∨ ev (epw γ i) f = 0) → sumV γ D s f n = D k * epw (epw γ k) (s + 1) * ev (epw γ k) f
  | 0, hk, _ => by omega
  | n + 1, hk, h => by
    show sumV γ D s f n + D n * _ * _ = _
    rcases Nat.lt_or_ge k n with h1 | h1
    · rw [sumV_one n h1 fun i hi => h i (by omega)]
      rcases h n (by omega) (by omega) with h2 | h2 <;> rw [h2]
      · rw [e0m, e0m, ea0]
      · rw [em0, ea0]
    · obtain rfl : k = n := by omega
      rw [sumV_none k fun i hi => h i (by omega) (by omega), e0a]
/-- The indices below n at which something is not 0. -/
def supp (D : Nat → El R) (n : Nat) : List Nat := (List.range n).filter fun i => !decide (D i = 0)
theorem supp_mem {D : Nat → El R} {n i : Nat} : i ∈ supp D n ↔ i < n ∧ D i ≠ 0 := by
  unfold supp; rw [List.mem_filter, List.mem_range]; simp
/-- A word with few elements other than 0 whose values at the first powers are 0 is 0. -/
theorem few_zero {γ : El R} {N n m : Nat} {D : Nat → El R} (hF : Far γ N) (hn : n ≤ N) (h : ∀ j, j < m → evN (epw γ (j + 1)) D n = 0) (hw : (supp D n).length ≤ m) : ∀ i, i < n → D i = 0 := by
  intro k hk
  refine Decidable.byContradiction fun h0 => ?_
  have hmem : k ∈ supp D n := supp_mem.2 ⟨hk, h0⟩
  let l := ((supp D n).erase k).map fun i => epw γ i
  have hll : (rootP l).length ≤ m := by
    have h1 := List.length_erase_of_mem hmem
    have h2 : l.length = ((supp D n).erase k).length := List.length_map ..
    have h3 : 0 < (supp D n).length := List.length_pos_of_mem hmem
    rw [root_len]; omega
  have hnd : (supp D n).Nodup := List.Pairwise.filter _ List.nodup_range
  have h1 := sumV_zero h (rootP l) 0 (by omega)
  rw [sumV_one n hk fun i hi hne => ?_] at h1
  · refine absurd h1 (emul_ne (emul_ne h0 (epw_ne (epw_ne hF.1 k) _)) (ev_root_out fun hx => ?_))
    obtain ⟨i, hi, he⟩ := List.mem_map.1 hx
    have hik : i ≠ k := fun e => by
      rw [e] at hi
      exact (List.Nodup.not_mem_erase hnd) hi
    have hil := (supp_mem.1 (List.mem_of_mem_erase hi)).1
    exact hF.2 i k (by omega) (by omega) hik he
  · by_cases hD : D i = 0
    · exact .inl hD
    · exact .inr (ev_root_in (List.mem_map.2 ⟨i, (List.mem_erase_of_ne hne).2 (supp_mem.2 ⟨hi, hD⟩), rfl⟩))
/-- The indices at which two words differ. -/
def difs (a b : List (El R)) : List Nat := (List.range a.length).filter fun i => !decide (cf a i = cf b i)
theorem difs_mem {a b : List (El R)} {i : Nat} : i ∈ difs a b ↔ i < a.length ∧ cf a i ≠ cf b i := by
  unfold difs; rw [List.mem_filter, List.mem_range]; simp
theorem filter_len_map {n : Nat} {P Q : Nat → Bool} (h : ∀ i, i < n → Q (n - 1 - i) = P i) : ((List.range n).filter P).length = ((List.range n).filter Q).length := by
  have hr : (List.range n).map (fun i => n - 1 - i) = (List.range n).reverse := by
    refine List.ext_getElem? fun i => ?_
    rcases Nat.lt_or_ge i n with hi | hi
    · rw [List.getElem?_reverse (by simpa using hi)]
      rw [List.getElem?_map, List.getElem?_range hi, List.length_range, List.getElem?_range (by omega)]
      rfl
    · rw [List.getElem?_eq_none (by simpa using hi), List.getElem?_eq_none (by simpa using hi)]
  have h1 : ((List.range n).filter Q).length = ((List.range n).reverse.filter Q).length := by rw [List.filter_reverse, List.length_reverse]
  rw [h1, ← hr, List.filter_map, List.length_map]
  congr 1
  refine List.filter_congr fun i hi => ?_
  exact (h i (List.mem_range.1 hi)).symm
/-- Two code words that differ at few indices are equal. -/
theorem near_same {γ : El R} {N m : Nat} {a b : List (El R)} (hF : Far γ N) (hn : a.length ≤ N) (hl : a.length = b.length) (ha : isCW γ m a = true) (hb : isCW γ m b = true) (hw : (difs a b).length ≤ m) : a = b := by
  have hD : ∀ i, i < a.length → cf a.reverse i + -(cf b.reverse i) = 0 := by
    refine few_zero (D := fun i => cf a.reverse i + -(cf b.reverse i)) hF hn (m := m) ?_ ?_
    · intro j hj
      rw [evN_add, evN_neg]
      have h1 := isCW_iff.1 ha j hj
      have h2 := isCW_iff.1 hb j hj
      rw [ev_is, List.length_reverse] at h1 h2
      rw [← hl] at h2
      rw [h1, h2, en0, ea0]
    · refine Nat.le_trans (Nat.le_of_eq ?_) hw
      refine (filter_len_map fun i hi => ?_)
      have e : (cf a.reverse i + -(cf b.reverse i) = 0) ↔ (cf a (a.length - 1 - i) = cf b (a.length - 1 - i)) := by
        rw [cf_rev hi, cf_rev (by omega), ← hl]
        exact ⟨esub, fun h => by rw [h, ean]⟩
      show (!decide (cf a (a.length - 1 - i) = cf b (a.length - 1 - i))) = !decide (cf a.reverse i + -(cf b.reverse i) = 0)
      rw [decide_eq_decide.2 e]
  refine List.ext_getElem? fun i => ?_
  rcases Nat.lt_or_ge i a.length with hi | hi
  · have h1 := esub (hD (a.length - 1 - i) (by omega))
    rw [cf_rev (by omega), cf_rev (by omega), ← hl, show a.length - 1 - (a.length - 1 - i) = i by omega] at h1
    rw [at_cf hi, at_cf (by omega), h1]
  · rw [List.getElem?_eq_none hi, List.getElem?_eq_none (by omega)]
/-- The generator polynomial divides the polynomial of a code word. -/
theorem gen_divides {γ : El R} {N n : Nat} {ws : List (El R)} (hF : Far γ N) (hn : n < N) (h : isCW γ n ws = true) : remP (wpoly ws) (genP γ n) = [] := by
  refine Decidable.byContradiction fun h0 => ?_
  have hpos : 0 < (remP (wpoly ws) (genP γ n)).length := by
    rcases hc : remP (wpoly ws) (genP γ n) with _ | ⟨a, l⟩
    · exact absurd hc h0
    · simp
  have hlt := rem_len (p := wpoly ws) (tr_gen γ n) (by rw [gen_len]; omega)
  rw [gen_len] at hlt
  have := roots_few (tr_rem (q := genP γ n) (tr_wpoly ws)) hpos (rts_nodup hF hn) (fun x hx => by
    obtain ⟨j, hj, rfl⟩ := rts_mem.1 hx
    have h1 := div_sum' (tr_wpoly ws) (tr_gen γ n) (by rw [gen_len]; omega)
    have h2 : ev (epw γ (j + 1)) (wpoly ws) = 0 := by rw [ev_wpoly]; exact isCW_iff.1 h j hj
    rw [← h1, ev_add, ev_mul, ev_gen hj, em0, e0a] at h2
    exact h2)
  rw [rts_len] at this
  omega
end
end Go.Proofs.YtncgeoliboidhaaGreat
