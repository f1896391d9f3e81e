/-
  Products of series over a field; locator polynomials; the values of errors from their syndromes, by the formula of Forney.
  The algorithm of Euclid for the locator polynomial of errors: what it keeps, and what it ends with.
  Indices and their locators, and words with erasures that are corrected: what the program and the model reckon, and when there is such a word.
  When a word with erasures is corrected, and to what: by what the algorithm of Euclid ends with.
  Condition: as each statement says.
-/
import Derived.Test.YtlphodhecaagbaaGreatRsMath
namespace Go.Proofs.YtlphodhecaagbaaGreat
section
variable {R : Fld}

/-- The sum of the first n. -/
def sumN (h : Nat → El R) : Nat → El R
  | 0 => 0
  | n + 1 => sumN h n + h n
theorem sumN_congr {h h' : Nat → El R} (n : Nat) (e : ∀ j, j < n → h j = h' j) : sumN h n = sumN h' n := by
  induction n with
  | zero => rfl
  | succ n ih => show sumN h n + h n = sumN h' n + h' n; rw [ih (fun j hj => e j (by omega)), e n (by omega)]
theorem sumN_front (h : Nat → El R) (n : Nat) : sumN h (n + 1) = h 0 + sumN (fun j => h (j + 1)) n := by
  induction n with
  | zero => show 0 + h 0 = h 0 + 0; rw [e0a, ea0]
  | succ n ih =>
    show sumN h (n + 1) + h (n + 1) = h 0 + (sumN (fun j => h (j + 1)) n + h (n + 1))
    rw [ih, eaa]
theorem sumN_rev (h : Nat → El R) (n : Nat) : sumN (fun j => h (n - 1 - j)) n = sumN h n := by
  induction n with
  | zero => rfl
  | succ n ih =>
    rw [sumN_front]
    show h (n + 1 - 1 - 0) + sumN (fun j => h (n + 1 - 1 - (j + 1))) n = sumN h n + h n
    rw [sumN_congr (h' := fun j => h (n - 1 - j)) n (fun j hj => by rw [show n + 1 - 1 - (j + 1) = n - 1 - j by omega]), ih, eac]; rfl
theorem sumN_add (f g : Nat → El R) (n : Nat) : sumN (fun j => f j + g j) n = sumN f n + sumN g n := by
  induction n with
  | zero => exact (ea0 0).symm
  | succ n ih => show sumN (fun j => f j + g j) n + (f n + g n) = (sumN f n + f n) + (sumN g n + g n); rw [ih, eswap]
theorem sumN_mul (c : El R) (f : Nat → El R) (n : Nat) : sumN (fun j => c * f j) n = c * sumN f n := by
  induction n with
  | zero => exact (em0 c).symm
  | succ n ih => show sumN (fun j => c * f j) n + c * f n = c * (sumN f n + f n); rw [ih, edl]

/-- The product of two series. -/
def ps (f g : Nat → El R) (i : Nat) : El R := mulN f g (i + 1) i
theorem mulN_sum (f g : Nat → El R) (i : Nat) : ∀ n, mulN f g n i = sumN (fun j => up j (f j) g i) n
  | 0 => rfl
  | n + 1 => by show mulN f g n i + _ = sumN _ n + _; rw [mulN_sum f g i n]
theorem ps_sum (f g : Nat → El R) (i : Nat) : ps f g i = sumN (fun j => f j * g (i - j)) (i + 1) := by
  rw [ps, mulN_sum]
  refine sumN_congr _ fun j hj => ?_
  unfold up; rw [if_pos (by omega)]
theorem mulN_low {f g : Nat → El R} {i : Nat} : ∀ {n : Nat}, i < n → mulN f g n i = ps f g i
  | 0, h => by omega
  | n + 1, h => by
    rcases Nat.lt_or_ge i n with h1 | h1
    · show mulN f g n i + up n (f n) g i = _
      rw [up_lt h1, ea0, mulN_low h1]
    · obtain rfl : i = n := by omega
      rfl
theorem mulN_ps {f : Nat → El R} {n : Nat} (g : Nat → El R) (h : ∀ j, n ≤ j → f j = 0) : mulN f g n = ps f g := by
  funext i
  rcases Nat.lt_or_ge i n with h1 | h1
  · exact mulN_low h1
  · unfold ps; rw [mulN_stop h (i + 1) (by omega)]
theorem ps_local {f f' g g' : Nat → El R} {i : Nat} (hf : ∀ j, j ≤ i → f j = f' j) (hg : ∀ j, j ≤ i → g j = g' j) : ps f g i = ps f' g' i := by
  rw [ps_sum, ps_sum]
  exact sumN_congr _ fun j hj => by rw [hf j (by omega), hg (i - j) (by omega)]
theorem ps_comm (f g : Nat → El R) : ps f g = ps g f := by
  funext i
  rw [ps_sum, ps_sum, ← sumN_rev]
  refine sumN_congr _ fun j hj => ?_
  rw [emc, show i + 1 - 1 - j = i - j by omega, show i - (i - j) = j by omega]
theorem ps_assoc (f g h : Nat → El R) : ps f (ps g h) = ps (ps f g) h := by
  funext i
  let g' : Nat → El R := fun j => if j < i + 1 then g j else 0
  have hg : ∀ j, j ≤ i → g' j = g j := fun j hj => if_pos (by omega)
  have hz : ∀ j, i + 1 ≤ j → g' j = 0 := fun j hj => if_neg (by omega)
  have e1 : ps f (ps g h) i = mulN f (mulN g' h (i + 1)) (i + 1) i := by
    refine ps_local (fun _ _ => rfl) (fun j hj => ?_)
    rw [mulN_low (by omega)]
    exact ps_local (fun t ht => (hg t (by omega)).symm) (fun _ _ => rfl)
  rw [e1, mulN_assoc f h hz, mulN_low (by omega)]
  refine ps_local (fun j hj => ?_) (fun _ _ => rfl)
  rw [mulN_low (by omega)]
  exact ps_local (fun _ _ => rfl) (fun t ht => hg t (by omega))
theorem ps_left (f g h : Nat → El R) : ps f (ps g h) = ps g (ps f h) := by rw [ps_assoc, ps_assoc, ps_comm f g]
theorem ps_addL (f f' g : Nat → El R) (i : Nat) : ps (fun j => f j + f' j) g i = ps f g i + ps f' g i := mulN_addL f f' g (i + 1) i
theorem ps_addR (f g g' : Nat → El R) (i : Nat) : ps f (fun j => g j + g' j) i = ps f g i + ps f g' i := by
  rw [ps_comm, ps_addL, ps_comm g, ps_comm g']
theorem ps_mulL (c : El R) (f g : Nat → El R) (i : Nat) : ps (fun j => c * f j) g i = c * ps f g i := mulN_mulL c f g (i + 1) i
theorem ps_mulR (c : El R) (f g : Nat → El R) (i : Nat) : ps f (fun j => c * g j) i = c * ps f g i := mulN_mulR c f g (i + 1) i
theorem ps_negL (f g : Nat → El R) (i : Nat) : ps (fun j => -(f j)) g i = -(ps f g i) := mulN_negL f g (i + 1) i
theorem ps_zeroL (g : Nat → El R) (i : Nat) : ps (fun _ => 0) g i = 0 := mulN_null g (i + 1) i
theorem ps_zeroR (f : Nat → El R) (i : Nat) : ps f (fun _ => 0) i = 0 := by rw [ps_comm, ps_zeroL]
theorem ps_0 (f g : Nat → El R) : ps f g 0 = f 0 * g 0 := by
  rw [ps_sum]; show 0 + f 0 * g (0 - 0) = _; rw [e0a]
theorem cf_one_is : (cf [1] : Nat → El R) = fun i => if i = 0 then 1 else 0 := by
  funext i
  cases i with
  | zero => rfl
  | succ i => rw [cf_out (by simp)]; rfl
theorem ps_one (g : Nat → El R) : ps (cf [1]) g = g := by
  rw [← mulN_ps (n := 1) g (fun j hj => cf_out (by simpa using hj))]
  funext i
  show 0 + up 0 1 g i = g i
  rw [e0a]; unfold up; rw [if_pos (Nat.zero_le _), e1m]; rfl
theorem ps_far {f g : Nat → El R} {n m : Nat} (hf : ∀ i, n ≤ i → f i = 0) (hg : ∀ i, m ≤ i → g i = 0) (i : Nat) (hi : n + m ≤ i + 1) : ps f g i = 0 := by
  rw [← mulN_ps g hf]
  exact mulN_out f hg n i (fun l hl => by omega)
theorem ps_top {f g : Nat → El R} {n m : Nat} (hf : ∀ i, n + 1 ≤ i → f i = 0) (hg : ∀ i, m + 1 ≤ i → g i = 0) : ps f g (n + m) = f n * g m := by
  rw [← mulN_ps g hf]
  exact mulN_top f hg n
theorem cf_mul (p q : List (El R)) : cf (mulP p q) = ps (cf p) (cf q) := by rw [cf_mulP, mulN_ps _ (cf_far p)]
/-- A factor that begins with 1 may be left out. -/
theorem ps_cancel {f g h : Nat → El R} {c : Nat} (h1 : h 0 = 1) (he : ∀ i, i < c → ps h f i = ps h g i) : ∀ i, i < c → f i = g i := by
  have key : ∀ (f : Nat → El R) (i : Nat), ps h f i = f i + sumN (fun j => h (j + 1) * f (i - (j + 1))) i := by
    intro f i
    rw [ps_sum, sumN_front, h1, e1m]; rfl
  intro i
  induction i using Nat.strongRecOn with
  | ind i ih =>
    intro hi
    have := he i hi
    rw [key, key, sumN_congr (h' := fun j => h (j + 1) * g (i - (j + 1))) i (fun j hj => by rw [ih (i - (j + 1)) (by omega) (by omega)])] at this
    have e := this
    rw [eac, eac (g i)] at e
    exact eadd_left e

/-! Locator polynomials. -/
/-- 1 - x X. -/
def lf (x : El R) : List (El R) := [1, -x]
theorem eneg_ne {x : El R} (h : x ≠ 0) : -x ≠ 0 := fun e => h (by rw [← enn x, e, en0])
theorem tr_lf {x : El R} (h : x ≠ 0) : Tr (lf x) := fun i hi => by
  obtain rfl : i = 1 := by simp [lf] at hi; omega
  exact eneg_ne h
theorem ev_lf (x y : El R) : ev y (lf x) = 1 + -(x * y) := by
  show (0 * y + -x) * y + 1 = _
  rw [e0m, e0a, enm, eac]
theorem lf_far (x : El R) : ∀ i, 2 ≤ i → cf (lf x) i = 0 := fun i hi => cf_out (by simpa [lf] using hi)
theorem ps_lf (x : El R) (g : Nat → El R) (i : Nat) : ps (cf (lf x)) g i = g i + (if 1 ≤ i then -x * g (i - 1) else 0) := by
  rw [← mulN_ps g (lf_far x)]
  show 0 + up 0 1 g i + up 1 (-x) g i = _
  rw [e0a]
  unfold up; rw [if_pos (Nat.zero_le _), e1m]; rfl
/-- The product of 1 - x X over a list, in its order. -/
def locP (xs : List (El R)) : List (El R) := xs.foldl (fun p x => mulP p (lf x)) [1]
theorem locP_nil : locP ([] : List (El R)) = [1] := rfl
theorem locP_snoc (xs : List (El R)) (x : El R) : locP (xs ++ [x]) = mulP (locP xs) (lf x) := by
  unfold locP; rw [List.foldl_append]; rfl
theorem snoc_ind {P : List (El R) → Prop} (h0 : P []) (h1 : ∀ xs x, P xs → P (xs ++ [x])) : ∀ xs, P xs := by
  have : ∀ (n : Nat) (xs : List (El R)), xs.length = n → P xs := by
    intro n
    induction n with
    | zero => intro xs h; rw [List.eq_nil_of_length_eq_zero h]; exact h0
    | succ n ih =>
      intro xs h
      rcases snoc_or xs with rfl | ⟨xs', x, rfl⟩
      · exact h0
      · exact h1 xs' x (ih xs' (by simpa using h))
  exact fun xs => this _ xs rfl
theorem tr_one : Tr ([1] : List (El R)) := fun i hi => by
  obtain rfl : i = 0 := by simpa using hi
  exact e10
theorem loc_facts (xs : List (El R)) : (∀ x ∈ xs, x ≠ 0) → Tr (locP xs) ∧ (locP xs).length = xs.length + 1 ∧ cf (locP xs) 0 = 1 := by
  refine snoc_ind (P := fun xs => (∀ x ∈ xs, x ≠ 0) → Tr (locP xs) ∧ (locP xs).length = xs.length + 1 ∧ cf (locP xs) 0 = 1) (fun _ => ⟨tr_one, rfl, rfl⟩) (fun xs x ih h => ?_) xs
  obtain ⟨h1, h2, h3⟩ := ih fun y hy => h y (List.mem_append_left _ hy)
  have hx : x ≠ 0 := h x (by simp)
  rw [locP_snoc]
  refine ⟨tr_mul h1 (tr_lf hx), ?_, ?_⟩
  · rw [mulP, tab_len, plen_1 (by omega) (by simp [lf]), h2]; simp [lf]
  · rw [cf_mul, ps_0, h3]; exact em1 1
theorem tr_loc {xs : List (El R)} (h : ∀ x ∈ xs, x ≠ 0) : Tr (locP xs) := (loc_facts xs h).1
theorem loc_len {xs : List (El R)} (h : ∀ x ∈ xs, x ≠ 0) : (locP xs).length = xs.length + 1 := (loc_facts xs h).2.1
theorem loc_zero {xs : List (El R)} (h : ∀ x ∈ xs, x ≠ 0) : cf (locP xs) 0 = 1 := (loc_facts xs h).2.2
theorem loc_app (xs ys : List (El R)) : cf (locP (xs ++ ys)) = ps (cf (locP xs)) (cf (locP ys)) := by
  refine snoc_ind (P := fun ys => cf (locP (xs ++ ys)) = ps (cf (locP xs)) (cf (locP ys))) ?_ (fun ys y ih => ?_) ys
  · show cf (locP (xs ++ [])) = ps _ (cf [1])
    rw [List.append_nil, ps_comm, ps_one]
  · show cf (locP (xs ++ (ys ++ [y]))) = ps (cf (locP xs)) (cf (locP (ys ++ [y])))
    rw [← List.append_assoc, locP_snoc, locP_snoc, cf_mul, cf_mul, ih, ps_assoc]
theorem loc_one (x : El R) : cf (locP [x]) = cf (lf x) := by
  show cf (mulP [1] (lf x)) = _
  rw [cf_mul, ps_one]
theorem loc_split (A B : List (El R)) (x : El R) : cf (locP (A ++ x :: B)) = ps (cf (lf x)) (cf (locP (A ++ B))) := by
  rw [show A ++ x :: B = A ++ ([x] ++ B) from rfl, loc_app, loc_app, loc_one, loc_app A B, ps_left]
theorem ev_cf {x : El R} {p q : List (El R)} (h : cf p = cf q) : ev x p = ev x q := by
  rw [ev_of (n := max p.length q.length) h (fun i hi => cf_out (by omega)), ← ev_far (by omega)]
theorem ev_loc (y : El R) (xs : List (El R)) : ev y (locP xs) = 0 ↔ ∃ x ∈ xs, x * y = 1 := by
  refine snoc_ind (P := fun xs => ev y (locP xs) = 0 ↔ ∃ x ∈ xs, x * y = 1) ?_ (fun xs x ih => ?_) xs
  · show ev y [1] = 0 ↔ _
    rw [ev_one]
    exact ⟨fun h => absurd h e10, fun ⟨_, h, _⟩ => absurd h List.not_mem_nil⟩
  · show ev y (locP (xs ++ [x])) = 0 ↔ _
    rw [locP_snoc, ev_mul, ev_lf]
    constructor
    · intro h
      by_cases h1 : ev y (locP xs) = 0
      · obtain ⟨z, hz, e⟩ := ih.1 h1
        exact ⟨z, List.mem_append_left _ hz, e⟩
      · by_cases h2 : 1 + -(x * y) = 0
        · exact ⟨x, by simp, (esub h2).symm⟩
        · exact absurd h (emul_ne h1 h2)
    · rintro ⟨z, hz, e⟩
      rcases List.mem_append.1 hz with hz | hz
      · rw [ih.2 ⟨z, hz, e⟩, e0m]
      · obtain rfl := List.mem_singleton.1 hz
        rw [e, ean, em0]
/-- Of an inverse only one element is the inverse. -/
theorem inv_only {x y r : El R} (h : x * r = 1) (h' : y * r = 1) : x = y := by
  have h1 : x * (y * r) = x := by rw [h', em1]
  have h2 : x * (y * r) = y := by rw [eml, h, em1]
  rw [← h1, h2]
theorem ne_of_inv {x r : El R} (h : x * r = 1) : x ≠ 0 ∧ r ≠ 0 := by
  constructor
  · intro e; rw [e, e0m] at h; exact e10 h.symm
  · intro e; rw [e, em0] at h; exact e10 h.symm

/-! Series of powers. -/
theorem lf_geo (x : El R) : ps (cf (lf x)) (epw x) = cf [1] := by
  funext i
  rw [ps_lf]
  cases i with
  | zero => rw [if_neg (by omega), ea0]; rfl
  | succ i =>
    rw [if_pos (by omega), cf_out (by simp)]
    show epw x (i + 1) + -x * epw x i = 0
    rw [epw_succ', enm, ean]
theorem loc_geo (A B : List (El R)) (x : El R) : ps (cf (locP (A ++ x :: B))) (epw x) = cf (locP (A ++ B)) := by
  rw [loc_split, ps_comm (cf (lf x)), ← ps_assoc, lf_geo, ps_comm, ps_one]
/-- The syndromes, without an end, of elements at powers. -/
def ser (γ : El R) (D : Nat → El R) : Nat → Nat → El R
  | 0 => fun _ => 0
  | n + 1 => fun j => ser γ D n j + D n * epw γ n * epw (epw γ n) j
theorem ser_at (γ : El R) (D : Nat → El R) (j : Nat) : ∀ n, ser γ D n j = evN (epw γ (j + 1)) D n
  | 0 => rfl
  | n + 1 => by
    show ser γ D n j + D n * epw γ n * epw (epw γ n) j = evN (epw γ (j + 1)) D n + D n * epw (epw γ (j + 1)) n
    rw [ser_at γ D j n, ema, ← epw_succ', epw_swap]
theorem mem_split {x : El R} {xs : List (El R)} (h : x ∈ xs) : ∃ A B, xs = A ++ x :: B := List.append_of_mem h
theorem ps_ser_succ (f : Nat → El R) (γ : El R) (D : Nat → El R) (n i : Nat) : ps f (ser γ D (n + 1)) i = ps f (ser γ D n) i + D n * epw γ n * ps f (epw (epw γ n)) i := by
  show ps f (fun j => ser γ D n j + D n * epw γ n * epw (epw γ n) j) i = _
  rw [ps_addR, ps_mulR]
section
variable {xs : List (El R)} (hx : ∀ x ∈ xs, x ≠ 0)
include hx
theorem split_len {A B : List (El R)} {x : El R} (h : xs = A ++ x :: B) : (locP (A ++ B)).length = xs.length := by
  subst h
  rw [loc_len (xs := A ++ B) (fun y hy => hx y (by
    rcases List.mem_append.1 hy with h | h
    · exact List.mem_append_left _ h
    · exact List.mem_append_right _ (List.mem_cons_of_mem _ h)))]
  simp; omega
theorem loc_ser_far {γ : El R} {D : Nat → El R} : ∀ {n : Nat}, (∀ i, i < n → D i = 0 ∨ epw γ i ∈ xs) → ∀ i, xs.length ≤ i → ps (cf (locP xs)) (ser γ D n) i = 0
  | 0, _, i, _ => ps_zeroR _ i
  | n + 1, h, i, hi => by
    rw [ps_ser_succ, loc_ser_far (fun i hi => h i (by omega)) i hi, e0a]
    rcases h n (by omega) with h1 | h1
    · rw [h1, e0m, e0m]
    · obtain ⟨A, B, e⟩ := mem_split h1
      have hl := split_len hx e
      have hg := loc_geo A B (epw γ n)
      rw [← e] at hg
      rw [hg, cf_out (by omega), em0]
end

/-! Derivatives. -/
/-- The derivative, by the multiples of 1. -/
def derG (num : Nat → El R) (p : List (El R)) : List (El R) := trim (tab (p.length - 1) fun i => num (i + 1) * cf p (i + 1))
theorem cf_der (num : Nat → El R) (p : List (El R)) : cf (derG num p) = fun i => num (i + 1) * cf p (i + 1) := by
  rw [derG, cf_trim, cf_tab' fun i hi => by rw [cf_out (by omega), em0]]
section
variable {num : Nat → El R} (n0 : num 0 = 0) (n1 : ∀ j, num (j + 1) = num j + 1)
include n0 n1
/-- At the root of a factor. -/
theorem der_root {p s : List (El R)} {x r : El R} (h : cf p = ps (cf (lf x)) (cf s)) (hr : x * r = 1) : ev r (derG num p) = -(x * ev r s) := by
  have e1 : cf (derG num p) = fun i => ps (cf (lf x)) (fun i => num (i + 1) * cf s (i + 1)) i + -x * cf s i := by
    rw [cf_der]
    funext i
    simp only [h]
    rw [ps_lf, ps_lf, if_pos (by omega), edl, show i + 1 - 1 = i from rfl]
    rw [eaa]
    congr 1
    rw [eml, n1 i, edr, e1m, edl]
    congr 1
    cases i with
    | zero => rw [if_neg (by omega), n0, e0m, em0]
    | succ i => rw [if_pos (by omega)]; rfl
  let m := s.length
  have hs : ∀ i, m ≤ i → num (i + 1) * cf s (i + 1) = 0 := fun i hi => by rw [cf_out (by omega), em0]
  rw [ev_of (n := 2 + m) e1 (fun i hi => by
    rw [ps_far (n := 2) (m := m) (lf_far x) hs i (by omega), cf_out (by omega), em0, ea0])]
  rw [evN_add, evN_mul, ← mulN_ps _ (lf_far x), evN_mulN r _ hs 2]
  have e2 : evN r (cf (lf x)) 2 = 0 := by rw [← ev_far (p := lf x) (by simp [lf]), ev_lf, hr, ean]
  rw [e2, e0m, e0a, ← ev_far (by omega), enm]
theorem der_loc {A B xs : List (El R)} {x r : El R} (e : xs = A ++ x :: B) (hr : x * r = 1) : ev r (derG num (locP xs)) = -(x * ev r (locP (A ++ B))) :=
  der_root n0 n1 (by rw [e]; exact loc_split A B x) hr
theorem der_ne {xs : List (El R)} {x r : El R} (hd : xs.Nodup) (hx : x ∈ xs) (hr : x * r = 1) : ev r (derG num (locP xs)) ≠ 0 := by
  obtain ⟨A, B, e⟩ := mem_split hx
  rw [der_loc n0 n1 e hr]
  refine eneg_ne (emul_ne (ne_of_inv hr).1 fun h => ?_)
  obtain ⟨y, hy, e'⟩ := (ev_loc r (A ++ B)).1 h
  obtain rfl := inv_only e' hr
  rw [e, List.nodup_append] at hd
  rcases List.mem_append.1 hy with h | h
  · exact hd.2.2 y h y (List.mem_cons_self ..) rfl
  · exact (List.nodup_cons.1 hd.2.1).1 h
/-- The value of the evaluator at the inverse of a locator. -/
theorem loc_ser_ev {xs : List (El R)} (hx : ∀ x ∈ xs, x ≠ 0) {γ r : El R} {D : Nat → El R} {k : Nat} (hk : epw γ k ∈ xs) (hr : epw γ k * r = 1) :
    ∀ {n : Nat}, (∀ i, i < n → D i = 0 ∨ epw γ i ∈ xs) → (∀ i, i < n → i ≠ k → epw γ i ≠ epw γ k) →
      evN r (ps (cf (locP xs)) (ser γ D n)) xs.length = if k < n then -(D k * ev r (derG num (locP xs))) else 0
  | 0, _, _ => by
    rw [if_neg (by omega)]
    exact evN_zero _ fun i _ => ps_zeroR _ i
  | n + 1, h, hi => by
    have ih := loc_ser_ev hx hk hr (fun i hi => h i (by omega)) (fun i hi' => hi i (by omega)) (n := n) (D := D)
    rw [evN_congr (g := fun i => ps (cf (locP xs)) (ser γ D n) i + D n * epw γ n * ps (cf (locP xs)) (epw (epw γ n)) i) xs.length (fun i _ => ps_ser_succ _ _ _ _ _), evN_add, ih, evN_mul]
    by_cases h0 : D n = 0
    · rw [h0, e0m, e0m, ea0]
      by_cases hkn : k = n
      · subst hkn
        rw [if_neg (by omega), if_pos (by omega), h0, e0m, en0]
      · by_cases hlt : k < n
        · rw [if_pos hlt, if_pos (by omega)]
        · rw [if_neg hlt, if_neg (by omega)]
    · have hm := (h n (by omega)).resolve_left h0
      obtain ⟨A, B, e⟩ := mem_split hm
      have hl := split_len hx e
      have hg := loc_geo A B (epw γ n)
      rw [← e] at hg
      rw [hg, ← ev_far (by omega)]
      by_cases hkn : k = n
      · subst hkn
        rw [if_neg (by omega), if_pos (by omega), e0a, der_loc n0 n1 e hr, emn, enn, ema]
      · have hz : ev r (locP (A ++ B)) = 0 := by
          refine (ev_loc r (A ++ B)).2 ⟨epw γ k, ?_, hr⟩
          rw [e] at hk
          rcases List.mem_append.1 hk with h1 | h1
          · exact List.mem_append_left _ h1
          · rcases List.mem_cons.1 h1 with h2 | h2
            · exact absurd h2.symm (hi n (by omega) (fun h => hkn h.symm))
            · exact List.mem_append_right _ h2
        rw [hz, em0, ea0]
        by_cases hlt : k < n
        · rw [if_pos hlt, if_pos (by omega)]
        · rw [if_neg hlt, if_neg (by omega)]
end

/-! The formula of Forney. -/
/-- The product of the polynomial of syndromes with a polynomial, without the coefficients from a number on. -/
def omeg (c : Nat) (S L : List (El R)) : List (El R) := trim ((mulP (trim S) L).take c)
theorem cf_take (p : List (El R)) (c i : Nat) : cf (p.take c) i = if i < c then cf p i else 0 := by
  unfold cf
  rw [List.getD_eq_getElem?_getD, List.getD_eq_getElem?_getD, List.getElem?_take]
  split <;> rfl
theorem cf_omeg (c : Nat) (S L : List (El R)) : cf (omeg c S L) = fun i => if i < c then ps (cf S) (cf L) i else 0 := by
  funext i
  rw [omeg, cf_trim, cf_take, cf_mul, cf_trim]
theorem tr_omeg (c : Nat) (S L : List (El R)) : Tr (omeg c S L) := tr_trim _
theorem omeg_le (c : Nat) (S L : List (El R)) : (omeg c S L).length ≤ c := by
  unfold omeg
  have h1 := trim_le ((mulP (trim S) L).take c)
  rw [List.length_take] at h1
  omega
/-- The value of an error with a locator. -/
def fvE (num : Nat → El R) (c : Nat) (S xs : List (El R)) (x : El R) : El R := -(ev x.inv (omeg c S (locP xs)) * (ev x.inv (derG num (locP xs))).inv)
section
variable {xs : List (El R)} (hx : ∀ x ∈ xs, x ≠ 0) {γ : El R} {D : Nat → El R} {n c : Nat} {S : List (El R)}
include hx
theorem omeg_ser (hD : ∀ i, i < n → D i = 0 ∨ epw γ i ∈ xs) (hc : xs.length ≤ c) (hS : ∀ j, j < c → cf S j = ser γ D n j) :
    cf (omeg c S (locP xs)) = ps (cf (locP xs)) (ser γ D n) := by
  rw [cf_omeg]
  funext i
  show (if i < c then _ else _) = _
  split
  · rw [ps_comm]
    exact ps_local (fun _ _ => rfl) (fun j hj => hS j (by omega))
  · exact (loc_ser_far hx hD i (by omega)).symm
theorem omeg_len (hD : ∀ i, i < n → D i = 0 ∨ epw γ i ∈ xs) (hc : xs.length ≤ c) (hS : ∀ j, j < c → cf S j = ser γ D n j) : (omeg c S (locP xs)).length ≤ xs.length :=
  tr_len (tr_omeg _ _ _) fun i hi => by rw [omeg_ser hx hD hc hS]; exact loc_ser_far hx hD i hi
section
variable {num : Nat → El R} (n0 : num 0 = 0) (n1 : ∀ j, num (j + 1) = num j + 1)
include n0 n1
theorem omeg_ev {N : Nat} (hF : Far γ N) (hn : n ≤ N) (hD : ∀ i, i < n → D i = 0 ∨ epw γ i ∈ xs) (hc : xs.length ≤ c) (hS : ∀ j, j < c → cf S j = ser γ D n j) {k : Nat} (hk : k < n) (hm : epw γ k ∈ xs) {r : El R} (hr : epw γ k * r = 1) :
    ev r (omeg c S (locP xs)) = -(D k * ev r (derG num (locP xs))) := by
  rw [ev_of (omeg_ser hx hD hc hS) (n := xs.length) (fun i hi => loc_ser_far hx hD i hi), loc_ser_ev n0 n1 hx hm hr hD (fun i hi hne => hF.2 i k (by omega) (by omega) hne), if_pos hk]
/-- The values of errors are recovered from their syndromes. -/
theorem forney {N : Nat} (hF : Far γ N) (hn : n ≤ N) (hd : xs.Nodup) (hD : ∀ i, i < n → D i = 0 ∨ epw γ i ∈ xs) (hc : xs.length ≤ c) (hS : ∀ j, j < c → cf S j = ser γ D n j) {k : Nat} (hk : k < n) (hm : epw γ k ∈ xs) :
    fvE num c S xs (epw γ k) = D k := by
  have hr := einv (epw_ne hF.1 k)
  have hne := der_ne n0 n1 hd hm hr
  rw [fvE, omeg_ev hx n0 n1 hF hn hD hc hS hk hm hr, enm, enn, ema, einv hne, em1]
/-- And if there are such values at all, they have these syndromes. -/
theorem forney_back {N : Nat} (hF : Far γ N) (hn : n ≤ N) (hd : xs.Nodup) (hin : ∀ x ∈ xs, ∃ k, k < n ∧ x = epw γ k) (hc : xs.length ≤ c) (hl : (omeg c S (locP xs)).length ≤ xs.length)
    (hDv : ∀ k, k < n → D k = if epw γ k ∈ xs then fvE num c S xs (epw γ k) else 0) : ∀ j, j < c → cf S j = ser γ D n j := by
  have hD : ∀ i, i < n → D i = 0 ∨ epw γ i ∈ xs := fun i hi => by
    by_cases h : epw γ i ∈ xs
    · exact .inr h
    · left; rw [hDv i hi, if_neg h]
  have hS' : ∀ j, j < c → cf (tab c (ser γ D n)) j = ser γ D n j := fun j hj => by rw [cf_tab, if_pos hj]
  have e : omeg c S (locP xs) = omeg c (tab c (ser γ D n)) (locP xs) := by
    refine fit_only (tr_omeg _ _ _) (tr_omeg _ _ _) (xs := xs.map El.inv) (by rw [List.length_map]; exact hl) (by rw [List.length_map]; exact omeg_len hx hD hc hS') ?_ ?_
    · refine List.pairwise_map.2 (List.Pairwise.imp_of_mem (fun {a b} ha hb hne e => hne ?_) hd)
      have h1 := einv (hx a ha)
      have h2 := einv (hx b hb)
      rw [← e] at h2
      exact inv_only h1 h2
    · intro y hy
      obtain ⟨x, hxm, rfl⟩ := List.mem_map.1 hy
      obtain ⟨k, hk, rfl⟩ := hin x hxm
      have hr := einv (epw_ne hF.1 k)
      have hne := der_ne n0 n1 hd hxm hr
      rw [omeg_ev hx n0 n1 hF hn hD hc hS' hk hxm hr, hDv k hk, if_pos hxm, fvE, enm, enn, ema, emc (El.inv _), einv hne, em1]
  have h0 := loc_zero hx
  have h1 : ∀ i, i < c → ps (cf (locP xs)) (cf S) i = ps (cf (locP xs)) (cf (tab c (ser γ D n))) i := fun i hi => by
    have h2 := congrFun (cf_omeg c S (locP xs)) i
    have h3 := congrFun (cf_omeg c (tab c (ser γ D n)) (locP xs)) i
    rw [e] at h2
    rw [h2] at h3
    simp only [if_pos hi] at h3
    rw [ps_comm, h3, ps_comm]
  intro j hj
  rw [ps_cancel h0 h1 j hj, hS' j hj]
end
end
end
end Go.Proofs.YtlphodhecaagbaaGreat

namespace Go.Proofs.YtlphodhecaagbaaGreat
section
variable {R : Fld}

/-- What a step of the algorithm keeps, for c syndromes, r erasures and the evaluator T of the erasures: two remainders a and b, and the factors u and v beside them. -/
structure Eu (c r : Nat) (T a b u v : List (El R)) : Prop where
  ta : Tr a
  tb : Tr b
  tu : Tr u
  tv : Tr v
  va : ∀ i, i < c → ps (cf u) (cf T) i = cf a i
  vb : ∀ i, i < c → ps (cf v) (cf T) i = cf b i
  len : a.length + v.length = c + 2
  ba : b.length < a.length
  uv : u.length < v.length
  big : c + r + 2 ≤ 2 * a.length
/-- x^c. -/
def xpow (c : Nat) : List (El R) := tab (c + 1) fun i => if i = c then 1 else 0
theorem xpow_len (c : Nat) : (xpow c : List (El R)).length = c + 1 := tab_len _ _
theorem tr_xpow (c : Nat) : Tr (xpow c : List (El R)) := fun i hi => by
  rw [xpow_len] at hi
  obtain rfl : i = c := by omega
  rw [xpow, cf_tab, if_pos (by omega), if_pos rfl]; exact e10
theorem Eu.start {c r : Nat} {T : List (El R)} (hT : Tr T) (hl : T.length ≤ c) (hr : r ≤ c) : Eu c r T (xpow c) T [] [1] where
  ta := tr_xpow c
  tb := hT
  tu := tr_nil
  tv := tr_one
  va := fun i hi => by
    rw [show (cf [] : Nat → El R) = fun _ => 0 from funext cf_nil, ps_zeroL, xpow, cf_tab, if_pos (by omega), if_neg (by omega)]
  vb := fun i hi => by rw [ps_one]
  len := by rw [xpow_len]; simp
  ba := by rw [xpow_len]; omega
  uv := by simp
  big := by rw [xpow_len]; omega
theorem mul_len {p q : List (El R)} (hp : 0 < p.length) (hq : 0 < q.length) : (mulP p q).length = p.length + q.length - 1 := by rw [mulP, tab_len, plen_1 hp hq]
theorem Eu.step {c r : Nat} {T a b u v v' : List (El R)} (h : Eu c r T a b u v) (hb : c + r + 2 ≤ 2 * b.length) (ht : Tr v') (hv : cf v' = fun i => cf u i + -(ps (cf (quoP a b)) (cf v) i)) :
    Eu c r T b (remP a b) v v' ∧ v'.length = a.length - b.length + v.length := by
  have hba := h.ba
  have huv := h.uv
  have hlen := h.len
  have hb0 : 0 < b.length := by omega
  have hq : (quoP a b).length = a.length - b.length + 1 := quo_len (by omega)
  have hql := quo_len (p := a) (q := b) (by omega)
  have htq := tr_quo h.ta h.tb hb0
  have hl : v'.length = a.length - b.length + v.length := by
    refine Nat.le_antisymm (tr_len ht fun i hi => ?_) ?_
    · rw [hv]
      show cf u i + -(ps _ _ i) = 0
      rw [cf_out (by omega), e0a, ps_far (n := a.length - b.length + 1) (m := v.length) (fun j hj => cf_out (by omega)) (cf_far v) i (by omega), en0]
    · refine Nat.le_of_not_lt fun hlt => ?_
      have h1 : cf v' (a.length - b.length + v.length - 1) = 0 := cf_out (by omega)
      rw [hv] at h1
      have h2 : ps (cf (quoP a b)) (cf v) (a.length - b.length + (v.length - 1)) = cf (quoP a b) (a.length - b.length) * cf v (v.length - 1) :=
        ps_top (fun j hj => cf_out (by omega)) (fun j hj => cf_out (by omega))
      simp only at h1
      rw [cf_out (p := u) (by omega), e0a, show a.length - b.length + v.length - 1 = a.length - b.length + (v.length - 1) by omega, h2] at h1
      exact eneg_ne (emul_ne (htq _ (by omega)) (h.tv _ (by omega))) h1
  refine ⟨⟨h.tb, tr_rem h.ta, h.tv, ht, h.vb, fun i hi => ?_, by omega, rem_len h.tb hb0, by omega, hb⟩, hl⟩
  rw [hv, ps_addL, ps_negL, h.va i hi, ← ps_assoc]
  have e1 := div_sum (p := a) h.tb hb0 i
  rw [cf_mul] at e1
  rw [ps_local (f := cf (quoP a b)) (f' := cf (quoP a b)) (g := ps (cf v) (cf T)) (g' := cf b) (fun _ _ => rfl) (fun j hj => h.vb j (by omega)), e1]
  rw [eac (ps _ _ i), eaa, ean, ea0]

theorem evN_ps {x : El R} {f g : Nat → El R} {n m K : Nat} (hf : ∀ i, n ≤ i → f i = 0) (hg : ∀ i, m ≤ i → g i = 0) (hK : n + m ≤ K) : evN x (ps f g) K = evN x f n * evN x g m := by
  rw [← mulN_ps g hf, evN_stop (n := n + m) (fun i hi => mulN_far f hg n i hi) K hK, evN_mulN x f hg n]
/-- What the algorithm ends with. -/
theorem Eu.final {c l : Nat} {T a b u v : List (El R)} {xe xf : List (El R)} {γ : El R} {D : Nat → El R} {num : Nat → El R}
    (h : Eu c xe.length T a b u v) (hstop : 2 * b.length < c + xe.length + 2) (n0 : num 0 = 0) (n1 : ∀ j, num (j + 1) = num j + 1)
    (hF : Far γ l) (hx : ∀ x ∈ xe ++ xf, x ≠ 0) (hd : (xe ++ xf).Nodup) (hD : ∀ i, i < l → D i = 0 ∨ epw γ i ∈ xe ++ xf)
    (hf : ∀ x ∈ xf, ∃ k, k < l ∧ x = epw γ k ∧ D k ≠ 0) (hw : 2 * xf.length + xe.length ≤ c)
    (hT : ∀ i, i < c → cf T i = ps (cf (locP xe)) (ser γ D l) i) :
    v.length = xf.length + 1 ∧ cf v 0 ≠ 0 ∧ cf v = fun i => cf v 0 * cf (locP xf) i := by
  have hxf : ∀ x ∈ xf, x ≠ 0 := fun x hm => hx x (List.mem_append_right _ hm)
  have hlen := h.len
  have hba := h.ba
  have huv := h.uv
  have hbig := h.big
  let O : Nat → El R := ps (cf (locP (xe ++ xf))) (ser γ D l)
  have hO : ∀ i, (xe ++ xf).length ≤ i → O i = 0 := loc_ser_far hx hD
  rw [List.length_append] at hO
  have hLf : ∀ i, xf.length + 1 ≤ i → cf (locP xf) i = 0 := fun i hi => cf_out (by rw [loc_len hxf]; exact hi)
  have hLT : ∀ i, i < c → ps (cf (locP xf)) (cf T) i = O i := fun i hi => by
    show _ = ps (cf (locP (xe ++ xf))) (ser γ D l) i
    rw [loc_app, ps_comm (cf (locP xe)), ← ps_assoc]
    exact ps_local (fun _ _ => rfl) (fun j hj => hT j (by omega))
  -- both of the identities, first below x^c, then everywhere
  have hvO : ps (cf v) O = ps (cf (locP xf)) (cf b) := by
    funext i
    rcases Nat.lt_or_ge i c with hi | hi
    · have e1 : ps (cf v) O i = ps (cf v) (ps (cf (locP xf)) (cf T)) i := ps_local (fun _ _ => rfl) (fun j hj => (hLT j (by omega)).symm)
      rw [e1, ps_left]
      exact ps_local (fun _ _ => rfl) (fun j hj => h.vb j (by omega))
    · rw [ps_far (n := v.length) (m := xe.length + xf.length) (cf_far v) hO i (by omega), ps_far (n := xf.length + 1) (m := b.length) hLf (cf_far b) i (by omega)]
  have hroot : ∀ x ∈ xf, ev x.inv v = 0 := by
    intro x hm
    obtain ⟨k, hk, rfl, hne⟩ := hf x hm
    have hr := einv (epw_ne hF.1 k)
    have hmm : epw γ k ∈ xe ++ xf := List.mem_append_right _ hm
    have e1 : ev (epw γ k).inv v * evN (epw γ k).inv O (xe.length + xf.length) = 0 := by
      rw [ev_is, ← evN_ps (cf_far v) hO (K := v.length + (xe.length + xf.length) + (xf.length + 1 + b.length)) (by omega), hvO, evN_ps hLf (cf_far b) (by omega), ← ev_far (by rw [loc_len hxf]; exact Nat.le_refl _), (ev_loc _ xf).2 ⟨_, hm, hr⟩, e0m]
    have e2 := loc_ser_ev n0 n1 hx hmm hr hD (fun i hi hne => hF.2 i k hi (by omega) hne)
    rw [if_pos hk, List.length_append] at e2
    refine Classical.byContradiction fun hv => emul_ne hv ?_ e1
    show evN _ (ps (cf (locP (xe ++ xf))) (ser γ D l)) _ ≠ 0
    rw [e2]
    exact eneg_ne (emul_ne hne (der_ne n0 n1 hd hmm hr))
  have hdf : xf.Nodup := (List.nodup_append.1 hd).2.1
  have hnd : (xf.map El.inv).Nodup := by
    refine List.pairwise_map.2 (List.Pairwise.imp_of_mem (fun {a b} ha hb hne e => hne ?_) hdf)
    have h1 := einv (hxf a ha)
    have h2 := einv (hxf b hb)
    rw [← e] at h2
    exact inv_only h1 h2
  have hge : xf.length < v.length := by
    have := roots_few h.tv (by omega) hnd (fun x hm => by
      obtain ⟨y, hy, rfl⟩ := List.mem_map.1 hm
      exact hroot y hy)
    rwa [List.length_map] at this
  have hle : v.length ≤ xf.length + 1 := by
    refine Nat.le_of_not_lt fun hlt => ?_
    have huO : ps (cf u) O = ps (cf (locP xf)) (cf a) := by
      funext i
      rcases Nat.lt_or_ge i c with hi | hi
      · have e1 : ps (cf u) O i = ps (cf u) (ps (cf (locP xf)) (cf T)) i := ps_local (fun _ _ => rfl) (fun j hj => (hLT j (by omega)).symm)
        rw [e1, ps_left]
        exact ps_local (fun _ _ => rfl) (fun j hj => h.va j (by omega))
      · rw [ps_far (n := u.length) (m := xe.length + xf.length) (cf_far u) hO i (by omega), ps_far (n := xf.length + 1) (m := a.length) hLf (cf_far a) i (by omega)]
    have e : ps (cf (locP xf)) (ps (cf v) (cf a)) = ps (cf (locP xf)) (ps (cf u) (cf b)) := by
      rw [ps_left, ← huO, ps_left, hvO, ps_left]
    have e1 := congrFun e (xf.length + (v.length - 1 + (a.length - 1)))
    have hva : ∀ i, v.length - 1 + (a.length - 1) + 1 ≤ i → ps (cf v) (cf a) i = 0 := fun i hi => ps_far (cf_far v) (cf_far a) i (by omega)
    rw [ps_top hLf hva, ps_top (n := v.length - 1) (m := a.length - 1) (fun i hi => cf_out (by omega)) (fun i hi => cf_out (by omega))] at e1
    have hub : ∀ i, v.length - 1 + (a.length - 1) ≤ i → ps (cf u) (cf b) i = 0 := fun i hi => ps_far (n := u.length) (m := b.length) (cf_far u) (cf_far b) i (by omega)
    rw [ps_far (n := xf.length + 1) hLf hub _ (by omega)] at e1
    refine emul_ne (tr_loc hxf xf.length (by rw [loc_len hxf])) (emul_ne (h.tv _ (by omega)) (h.ta _ (by omega))) e1
  have hv : v.length = xf.length + 1 := by omega
  have hz := loc_zero hxf
  have hG : ∀ i, cf v i + -(cf v 0 * cf (locP xf) i) = 0 := by
    refine roots_zero (xf.length + 1) (fun i => cf v i + -(cf v 0 * cf (locP xf) i)) (0 :: xf.map El.inv) (List.nodup_cons.2 ⟨fun hm => ?_, hnd⟩) (by simp) (fun i hi => ?_) (fun x hm => ?_)
    · obtain ⟨y, hy, e⟩ := List.mem_map.1 hm
      exact einv_ne (hxf y hy) e
    · rw [hLf i hi, cf_out (by omega), em0, en0, ea0]
    · rw [evN_add, evN_neg, evN_mul, ← ev_far (by omega), ← ev_far (by rw [loc_len hxf]; exact Nat.le_refl _)]
      rcases List.mem_cons.1 hm with rfl | hm
      · have z : ∀ p : List (El R), ev 0 p = cf p 0 := fun p => by
          cases p with
          | nil => rfl
          | cons a p => show ev 0 p * 0 + a = a; rw [em0, e0a]
        rw [z, z, hz, em1, ean]
      · obtain ⟨y, hy, rfl⟩ := List.mem_map.1 hm
        rw [hroot y hy, (ev_loc _ xf).2 ⟨y, hy, einv (hxf y hy)⟩, em0, en0, ea0]
  have hE : cf v = fun i => cf v 0 * cf (locP xf) i := funext fun i => esub (hG i)
  refine ⟨hv, fun h0 => ?_, hE⟩
  refine h.tv (v.length - 1) (by omega) ?_
  rw [hE]
  show cf v 0 * _ = 0
  rw [h0, e0m]
end
end Go.Proofs.YtlphodhecaagbaaGreat

namespace Go.Proofs.YtlphodhecaagbaaGreat

/-- A valid list of indices. -/
def Idx (l : Nat) (J : List Nat) : Prop := J.Pairwise (· < ·) ∧ ∀ i ∈ J, i < l
theorem sorted_ext : ∀ {a b : List Nat}, a.Pairwise (· < ·) → b.Pairwise (· < ·) → (∀ i, i ∈ a ↔ i ∈ b) → a = b
  | [], [], _, _, _ => rfl
  | [], y :: b, _, _, h => absurd ((h y).2 (List.mem_cons_self ..)) List.not_mem_nil
  | x :: a, [], _, _, h => absurd ((h x).1 (List.mem_cons_self ..)) List.not_mem_nil
  | x :: a, y :: b, ha, hb, h => by
    obtain ⟨ha1, ha2⟩ := List.pairwise_cons.1 ha
    obtain ⟨hb1, hb2⟩ := List.pairwise_cons.1 hb
    have e : x = y := by
      rcases List.mem_cons.1 ((h x).1 (List.mem_cons_self ..)) with e | e
      · exact e
      · rcases List.mem_cons.1 ((h y).2 (List.mem_cons_self ..)) with e' | e'
        · exact e'.symm
        · have := ha1 y e'; have := hb1 x e; omega
    subst e
    refine congrArg _ (sorted_ext ha2 hb2 fun i => ?_)
    constructor
    · intro hi
      rcases List.mem_cons.1 ((h i).1 (List.mem_cons_of_mem _ hi)) with e | e
      · have := ha1 i hi; omega
      · exact e
    · intro hi
      rcases List.mem_cons.1 ((h i).2 (List.mem_cons_of_mem _ hi)) with e | e
      · have := hb1 i hi; omega
      · exact e
theorem sorted_filter (n : Nat) (P : Nat → Bool) : ((List.range n).filter P).Pairwise (· < ·) := List.Pairwise.filter _ List.pairwise_lt_range
theorem idx_filter (n : Nat) (P : Nat → Bool) : Idx n ((List.range n).filter P) :=
  ⟨sorted_filter n P, fun _ hi => List.mem_range.1 (List.mem_filter.1 hi).1⟩
theorem Idx.nodup {l : Nat} {J : List Nat} (h : Idx l J) : J.Nodup := h.1.imp fun hlt => Nat.ne_of_lt hlt
theorem Idx.is {l : Nat} {J : List Nat} (h : Idx l J) : (List.range l).filter (fun i => decide (i ∈ J)) = J :=
  sorted_ext (sorted_filter _ _) h.1 fun i => by
    rw [List.mem_filter, List.mem_range, decide_eq_true_eq]
    exact ⟨fun h => h.2, fun hi => ⟨h.2 i hi, hi⟩⟩
theorem len_le_of_sub : ∀ {a b : List Nat}, a.Nodup → (∀ i ∈ a, i ∈ b) → a.length ≤ b.length
  | [], _, _, _ => Nat.zero_le _
  | x :: a, b, hd, h => by
    obtain ⟨h1, h2⟩ := List.nodup_cons.1 hd
    have hx := h x (List.mem_cons_self ..)
    have := len_le_of_sub (a := a) (b := b.erase x) h2 fun i hi => (List.mem_erase_of_ne (show i ≠ x from fun e => h1 (by rw [← e]; exact hi))).2 (h i (List.mem_cons_of_mem _ hi))
    rw [List.length_erase_of_mem hx] at this
    have := List.length_pos_of_mem hx
    show a.length + 1 ≤ b.length
    omega
theorem Idx.len {l : Nat} {J : List Nat} (h : Idx l J) : J.length ≤ l := by
  have := len_le_of_sub (b := List.range l) h.nodup fun i hi => List.mem_range.2 (h.2 i hi)
  rwa [List.length_range] at this
theorem len_both {a b J : List Nat} (ha : a.Nodup) (hb : b.Nodup) (hJ : J.Nodup) (hd : ∀ i ∈ a, i ∉ b) (h : ∀ i, i ∈ J ↔ i ∈ a ∨ i ∈ b) : J.length = a.length + b.length := by
  have hab : (a ++ b).Nodup := List.nodup_append.2 ⟨ha, hb, fun x hx y hy e => hd x hx (e ▸ hy)⟩
  have h1 := len_le_of_sub (b := a ++ b) hJ fun i hi => List.mem_append.2 ((h i).1 hi)
  have h2 := len_le_of_sub (b := J) hab fun i hi => (h i).2 (List.mem_append.1 hi)
  rw [List.length_append] at h1 h2
  omega

section
variable {R : Fld}
/-- The locator of an index. -/
def lcE (γ : El R) (l i : Nat) : El R := epw γ (l - 1 - i)
def locs (γ : El R) (l : Nat) (J : List Nat) : List (El R) := J.map (lcE γ l)
theorem locs_len (γ : El R) (l : Nat) (J : List Nat) : (locs γ l J).length = J.length := List.length_map ..
theorem locs_app (γ : El R) (l : Nat) (J K : List Nat) : locs γ l (J ++ K) = locs γ l J ++ locs γ l K := List.map_append
/-- The indices at whose inverse locators a polynomial is 0. -/
def hits (γ : El R) (l : Nat) (p : List (El R)) : List Nat := (List.range l).filter fun i => decide (ev (lcE γ l i).inv p = 0)
theorem hits_mem {γ : El R} {l : Nat} {p : List (El R)} {i : Nat} : i ∈ hits γ l p ↔ i < l ∧ ev (lcE γ l i).inv p = 0 := by
  unfold hits; rw [List.mem_filter, List.mem_range, decide_eq_true_eq]
theorem hits_idx (γ : El R) (l : Nat) (p : List (El R)) : Idx l (hits γ l p) := idx_filter _ _
/-- Whether a polynomial is the locator polynomial of indices, as the program finds out. -/
def locB (γ : El R) (l : Nat) (p : List (El R)) : Bool := decide (0 < p.length ∧ cf p 0 = 1 ∧ (hits γ l p).length + 1 = p.length)

section
variable {γ : El R} {l : Nat} (hF : Far γ l)
include hF
theorem lc_ne (i : Nat) : lcE γ l i ≠ 0 := epw_ne hF.1 _
theorem lc_inv (i : Nat) : lcE γ l i * (lcE γ l i).inv = 1 := einv (lc_ne hF i)
theorem lc_inj {i j : Nat} (hi : i < l) (hj : j < l) (e : lcE γ l i = lcE γ l j) : i = j := by
  refine Decidable.byContradiction fun hne => hF.2 (l - 1 - i) (l - 1 - j) (by omega) (by omega) (by omega) e
theorem locs_ne (J : List Nat) : ∀ x ∈ locs γ l J, x ≠ 0 := fun x hx => by
  obtain ⟨i, _, rfl⟩ := List.mem_map.1 hx
  exact lc_ne hF i
theorem locs_mem {J : List Nat} (hJ : ∀ i ∈ J, i < l) {i : Nat} (hi : i < l) : lcE γ l i ∈ locs γ l J ↔ i ∈ J := by
  constructor
  · intro h
    obtain ⟨j, hj, e⟩ := List.mem_map.1 h
    rwa [← lc_inj hF (hJ j hj) hi e]
  · exact fun h => List.mem_map.2 ⟨i, h, rfl⟩
theorem locs_nodup {J : List Nat} (hJ : ∀ i ∈ J, i < l) (hd : J.Nodup) : (locs γ l J).Nodup :=
  List.pairwise_map.2 (List.Pairwise.imp_of_mem (fun {a b} ha hb hne e => hne (lc_inj hF (hJ a ha) (hJ b hb) e)) hd)
omit hF in
theorem locs_in {J : List Nat} (hJ : ∀ i ∈ J, i < l) : ∀ x ∈ locs γ l J, ∃ k, k < l ∧ x = epw γ k := fun x hx => by
  obtain ⟨i, hi, rfl⟩ := List.mem_map.1 hx
  have := hJ i hi
  exact ⟨l - 1 - i, by omega, rfl⟩
/-- Where a locator polynomial is 0. -/
theorem ev_locs {J : List Nat} (hJ : ∀ i ∈ J, i < l) {i : Nat} (hi : i < l) : ev (lcE γ l i).inv (locP (locs γ l J)) = 0 ↔ i ∈ J := by
  rw [ev_loc, ← locs_mem hF hJ hi]
  constructor
  · rintro ⟨x, hx, e⟩
    rwa [← inv_only e (lc_inv hF i)]
  · exact fun h => ⟨_, h, lc_inv hF i⟩
theorem hits_locs {J : List Nat} (hJ : Idx l J) : hits γ l (locP (locs γ l J)) = J :=
  sorted_ext (hits_idx _ _ _).1 hJ.1 fun i => by
    rw [hits_mem]
    exact ⟨fun h => (ev_locs hF hJ.2 h.1).1 h.2, fun h => ⟨hJ.2 i h, (ev_locs hF hJ.2 (hJ.2 i h)).2 h⟩⟩
omit hF in
theorem inv_nodup {xs : List (El R)} (hx : ∀ x ∈ xs, x ≠ 0) (hd : xs.Nodup) : (xs.map El.inv).Nodup := by
  refine List.pairwise_map.2 (List.Pairwise.imp_of_mem (fun {a b} ha hb hne e => hne ?_) hd)
  have h1 := einv (hx a ha)
  have h2 := einv (hx b hb)
  rw [← e] at h2
  exact inv_only h1 h2
/-- A polynomial that the program takes for a locator polynomial is one. -/
theorem locB_is {p : List (El R)} (hp : Tr p) (h : locB γ l p = true) : locP (locs γ l (hits γ l p)) = p := by
  simp only [locB, decide_eq_true_eq] at h
  obtain ⟨h1, h2, h3⟩ := h
  have hI := hits_idx γ l p
  have hne := locs_ne hF (hits γ l p)
  refine fit_only (tr_loc hne) hp (xs := 0 :: (locs γ l (hits γ l p)).map El.inv) ?_ ?_ (List.nodup_cons.2 ⟨fun hm => ?_, inv_nodup hne (locs_nodup hF hI.2 hI.nodup)⟩) fun x hm => ?_
  · rw [loc_len hne]; simp
  · simp [locs_len]; omega
  · obtain ⟨y, hy, e⟩ := List.mem_map.1 hm
    exact einv_ne (hne y hy) e
  · rcases List.mem_cons.1 hm with rfl | hm
    · have z : ∀ p : List (El R), ev 0 p = cf p 0 := fun p => by
        cases p with
        | nil => rfl
        | cons a p => show ev 0 p * 0 + a = a; rw [em0, e0a]
      rw [z, z, loc_zero hne, h2]
    · obtain ⟨y, hy, rfl⟩ := List.mem_map.1 hm
      obtain ⟨i, hi, rfl⟩ := List.mem_map.1 hy
      rw [(ev_locs hF hI.2 (hI.2 i hi)).2 hi, (hits_mem.1 hi).2]
theorem locB_locs {J : List Nat} (hJ : Idx l J) : locB γ l (locP (locs γ l J)) = true := by
  have hne := locs_ne hF J
  simp only [locB, decide_eq_true_eq]
  rw [hits_locs hF hJ, loc_len hne, locs_len]
  exact ⟨by omega, loc_zero hne, rfl⟩
theorem locB_iff {p : List (El R)} (hp : Tr p) : locB γ l p = decide (p ≠ [] ∧ locP (locs γ l (hits γ l p)) = p) := by
  rw [Bool.eq_iff_iff, decide_eq_true_eq]
  constructor
  · intro h
    have h' := h
    simp only [locB, decide_eq_true_eq] at h
    exact ⟨fun e => by rw [e] at h; simp at h, locB_is hF hp h'⟩
  · rintro ⟨_, h⟩
    have := locB_locs hF (hits_idx γ l p)
    rwa [h] at this
end

/-! Words. -/
/-- The difference of two words. -/
def subW (a b : List (El R)) : List (El R) := tab a.length fun i => cf a i + -(cf b i)
theorem subW_len (a b : List (El R)) : (subW a b).length = a.length := tab_len _ _
theorem cf_sub {a b : List (El R)} {i : Nat} (h : i < a.length) : cf (subW a b) i = cf a i + -(cf b i) := by rw [subW, cf_tab, if_pos h]
theorem ev_subW (x : El R) {a b : List (El R)} (h : a.length = b.length) : ev x (subW a b).reverse = ev x a.reverse + -(ev x b.reverse) := by
  rw [ev_is x (subW a b).reverse, ev_is x a.reverse, ev_is x b.reverse, List.length_reverse, List.length_reverse, List.length_reverse, subW_len, ← h, ← evN_neg, ← evN_add]
  refine evN_congr _ fun i hi => ?_
  rw [cf_rev (by rw [subW_len]; exact hi), cf_rev hi, cf_rev (by rw [← h]; exact hi), subW_len, ← h, cf_sub (by omega)]
theorem syn_ser (γ : El R) (c : Nat) {l : Nat} {e : List (El R)} (h : e.length = l) : ∀ j, j < c → cf (synW γ c e) j = ser γ (cf e.reverse) l j := fun j hj => by
  rw [syn_at γ e hj, ser_at, ev_is, List.length_reverse, h]
theorem syn_sub (γ : El R) (c : Nat) {a b : List (El R)} (h : a.length = b.length) : synW γ c (subW a b) = tab c fun j => cf (synW γ c a) j + -(cf (synW γ c b) j) := by
  unfold synW
  refine tab_congr fun j hj => ?_
  rw [ev_subW _ h, cf_tab, cf_tab, if_pos hj, if_pos hj]
/-- The indices that are no erasures at which two words differ. -/
def errs (l : Nat) (E : List Nat) (ws cw : List (El R)) : List Nat := (List.range l).filter fun i => !decide (i ∈ E) && !decide (cf ws i = cf cw i)
theorem errs_mem {l : Nat} {E : List Nat} {ws cw : List (El R)} {i : Nat} : i ∈ errs l E ws cw ↔ i < l ∧ i ∉ E ∧ cf ws i ≠ cf cw i := by
  unfold errs; rw [List.mem_filter, List.mem_range]; simp
/-- A code word within the bound. -/
def Okw (γ : El R) (l c : Nat) (E : List Nat) (ws cw : List (El R)) : Prop := cw.length = l ∧ isCW γ c cw = true ∧ 2 * (errs l E ws cw).length + E.length ≤ c
/-- The values at indices, and 0 elsewhere. -/
def spread (l : Nat) (J : List Nat) (f : Nat → El R) : List (El R) := tab l fun i => if i ∈ J then f i else 0
theorem spread_len (l : Nat) (J : List Nat) (f : Nat → El R) : (spread l J f).length = l := tab_len _ _
theorem cf_spread {l : Nat} {J : List Nat} {f : Nat → El R} {i : Nat} (h : i < l) : cf (spread l J f) i = if i ∈ J then f i else 0 := by rw [spread, cf_tab, if_pos h]
/-- The values of errors at indices. -/
def fvI (num : Nat → El R) (γ : El R) (l c : Nat) (S : List (El R)) (J : List Nat) (i : Nat) : El R := fvE num c S (locs γ l J) (lcE γ l i)
/-- Whether there are such values, as the program finds out. -/
def valB (γ : El R) (l c : Nat) (S : List (El R)) (J : List Nat) : Bool := decide ((omeg c S (locP (locs γ l J))).length ≤ J.length)

section
variable {γ : El R} {l c : Nat} (hF : Far γ l) {num : Nat → El R} (n0 : num 0 = 0) (n1 : ∀ j, num (j + 1) = num j + 1)
include hF n0 n1
omit n0 n1 in
theorem supp_locs {J : List Nat} (hJ : ∀ i ∈ J, i < l) {e : List (El R)} (he : e.length = l) (hs : ∀ i, i < l → cf e i ≠ 0 → i ∈ J) :
    ∀ i, i < l → cf e.reverse i = 0 ∨ epw γ i ∈ locs γ l J := fun i hi => by
  by_cases h : cf e.reverse i = 0
  · exact .inl h
  · right
    rw [cf_rev (by omega), he] at h
    have := (locs_mem hF hJ (i := l - 1 - i) (by omega)).2 (hs _ (by omega) h)
    rwa [lcE, show l - 1 - (l - 1 - i) = i by omega] at this
/-- The values of a word that is 0 elsewhere are recovered from its syndromes. -/
theorem val_word {J : List Nat} (hJ : Idx l J) (hc : J.length ≤ c) {e S : List (El R)} (he : e.length = l) (hs : ∀ i, i < l → cf e i ≠ 0 → i ∈ J) (hS : ∀ j, j < c → cf S j = cf (synW γ c e) j) :
    valB γ l c S J = true ∧ ∀ i ∈ J, fvI num γ l c S J i = cf e i := by
  have hx := locs_ne hF J
  have hD := supp_locs hF hJ.2 he hs
  have hS' : ∀ j, j < c → cf S j = ser γ (cf e.reverse) l j := fun j hj => by rw [hS j hj, syn_ser γ c he j hj]
  have hcl : (locs γ l J).length ≤ c := by rw [locs_len]; exact hc
  constructor
  · have := omeg_len hx hD hcl hS'
    rw [locs_len] at this
    simpa [valB] using this
  · intro i hi
    have hil := hJ.2 i hi
    have := forney hx n0 n1 hF (Nat.le_refl l) (locs_nodup hF hJ.2 hJ.nodup) hD hcl hS' (k := l - 1 - i) (by omega) ((locs_mem hF hJ.2 hil).2 hi)
    rw [cf_rev (by omega), he, show l - 1 - (l - 1 - i) = i by omega] at this
    exact this
/-- The values that the program finds have these syndromes. -/
theorem val_back {J : List Nat} (hJ : Idx l J) (hc : J.length ≤ c) {S : List (El R)} (hSl : S.length = c) (h : valB γ l c S J = true) : synW γ c (spread l J (fvI num γ l c S J)) = S := by
  simp only [valB, decide_eq_true_eq] at h
  have hx := locs_ne hF J
  have := forney_back (S := S) (D := cf (spread l J (fvI num γ l c S J)).reverse) hx n0 n1 hF (Nat.le_refl l) (locs_nodup hF hJ.2 hJ.nodup) (locs_in hJ.2) (by rw [locs_len]; exact hc) (by rw [locs_len]; exact h) (fun k hk => by
    rw [cf_rev (by rw [spread_len]; exact hk), spread_len, cf_spread (by omega)]
    have hm := locs_mem hF hJ.2 (i := l - 1 - k) (by omega)
    have e : lcE γ l (l - 1 - k) = epw γ k := by rw [lcE, show l - 1 - (l - 1 - k) = k by omega]
    rw [e] at hm
    by_cases h1 : l - 1 - k ∈ J
    · rw [if_pos h1, if_pos (hm.2 h1), fvI, e]
    · rw [if_neg h1, if_neg (fun h2 => h1 (hm.1 h2))])
  refine Eq.trans ?_ (show tab c (cf S) = S by rw [← hSl, tab_cf])
  unfold synW
  refine tab_congr fun j hj => ?_
  rw [this j hj, ← syn_ser γ c (spread_len _ _ _) j hj, synW, cf_tab, if_pos hj]
theorem val_iff {J : List Nat} (hJ : Idx l J) (hc : J.length ≤ c) {S : List (El R)} (hSl : S.length = c) : valB γ l c S J = decide (synW γ c (spread l J (fvI num γ l c S J)) = S) := by
  rw [Bool.eq_iff_iff, decide_eq_true_eq]
  refine ⟨fun h => val_back hF n0 n1 hJ hc hSl h, fun h => ?_⟩
  refine (val_word (num := num) hF n0 n1 hJ hc (e := spread l J (fvI num γ l c S J)) (spread_len _ _ _) (fun i hi hne => ?_) (fun j _ => by rw [h])).1
  rw [cf_spread hi] at hne
  exact Decidable.byContradiction fun h1 => hne (if_neg h1)

/-- The word that is corrected at indices. -/
def corW (num : Nat → El R) (γ : El R) (l c : Nat) (ws : List (El R)) (J : List Nat) : List (El R) := subW ws (spread l J (fvI num γ l c (synW γ c ws) J))
omit hF n0 n1 in
theorem corW_len (num : Nat → El R) (γ : El R) (l c : Nat) (ws : List (El R)) (J : List Nat) : (corW num γ l c ws J).length = ws.length := subW_len _ _
/-- A code word that differs from a word only at few indices is the word that is corrected there. -/
theorem cor_is {J : List Nat} (hJ : Idx l J) (hc : J.length ≤ c) {ws cw : List (El R)} (hw : ws.length = l) (hl : cw.length = l) (hcw : isCW γ c cw = true) (hs : ∀ i, i < l → cf ws i ≠ cf cw i → i ∈ J) :
    valB γ l c (synW γ c ws) J = true ∧ corW num γ l c ws J = cw := by
  have he : (subW ws cw).length = l := by rw [subW_len, hw]
  have hS : ∀ j, j < c → cf (synW γ c ws) j = cf (synW γ c (subW ws cw)) j := fun j hj => by
    rw [syn_sub γ c (by omega), cf_tab, if_pos hj, zeroL_cf hcw j, en0, ea0]
  have hv := val_word (num := num) hF n0 n1 hJ hc he (fun i hi hne => by
    rw [cf_sub (by omega)] at hne
    exact hs i hi fun e => hne (by rw [e, ean])) hS
  refine ⟨hv.1, ?_⟩
  rw [← tab_cf cw, hl, corW, subW, hw]
  refine tab_congr fun i hi => ?_
  rw [cf_spread hi]
  by_cases h : i ∈ J
  · rw [if_pos h, hv.2 i h, cf_sub (by omega), enadd, enn, ← eaa, ean, e0a]
  · rw [if_neg h, en0, ea0]
    exact Decidable.byContradiction fun hne => h (hs i hi hne)
/-- The corrected word is a code word. -/
theorem cor_cw {J : List Nat} (hJ : Idx l J) (hc : J.length ≤ c) {ws : List (El R)} (hw : ws.length = l) (hv : valB γ l c (synW γ c ws) J = true) : isCW γ c (corW num γ l c ws J) = true := by
  have h := val_back (num := num) hF n0 n1 hJ hc (syn_len γ c ws) hv
  unfold isCW
  refine zeroL_of fun i hi => ?_
  rw [syn_len] at hi
  rw [corW, syn_sub γ c (by rw [spread_len, hw]), h, cf_tab, if_pos hi, ean]
omit hF n0 n1 in
theorem cor_errs {J E : List Nat} {ws : List (El R)} (hw : ws.length = l) : ∀ i ∈ errs l E ws (corW num γ l c ws J), i ∈ J ∧ i ∉ E := fun i hi => by
  obtain ⟨h1, h2, h3⟩ := errs_mem.1 hi
  refine ⟨Decidable.byContradiction fun h => h3 ?_, h2⟩
  rw [corW, cf_sub (by omega), cf_spread h1, if_neg h, en0, ea0]

/-- The evaluator of the erasures of a word. -/
def keyP (γ : El R) (l c : Nat) (ws : List (El R)) (E : List Nat) : List (El R) := omeg c (synW γ c ws) (locP (locs γ l E))
/-- All indices that are corrected. -/
def union (l : Nat) (P Q : List Nat) : List Nat := (List.range l).filter fun i => decide (i ∈ P) || decide (i ∈ Q)
omit hF n0 n1 in
theorem union_mem {P Q : List Nat} {i : Nat} : i ∈ union l P Q ↔ i < l ∧ (i ∈ P ∨ i ∈ Q) := by
  unfold union; rw [List.mem_filter, List.mem_range]; simp
omit hF n0 n1 in
theorem union_idx (l : Nat) (P Q : List Nat) : Idx l (union l P Q) := idx_filter _ _
/-- What the algorithm of Euclid ends with, for a word with a code word within the bound. -/
theorem word_final {E : List Nat} (hE : Idx l E) {ws cw : List (El R)} (hw : ws.length = l) (ho : Okw γ l c E ws cw) {a b u v : List (El R)}
    (h : Eu c E.length (keyP γ l c ws E) a b u v) (hstop : 2 * b.length < c + E.length + 2) :
    v.length = (errs l E ws cw).length + 1 ∧ cf v 0 ≠ 0 ∧ cf v = fun i => cf v 0 * cf (locP (locs γ l (errs l E ws cw))) i := by
  obtain ⟨hl, hcw, hb⟩ := ho
  have hI : Idx l (errs l E ws cw) := idx_filter _ _
  have he : (subW ws cw).length = l := by rw [subW_len, hw]
  have hEF : ∀ i ∈ E ++ errs l E ws cw, i < l := fun i hi => (List.mem_append.1 hi).elim (hE.2 i) (hI.2 i)
  have hnd : (E ++ errs l E ws cw).Nodup := List.nodup_append.2 ⟨hE.nodup, hI.nodup, fun x hx y hy e => (errs_mem.1 hy).2.1 (e ▸ hx)⟩
  have hD := supp_locs hF hEF he (fun i hi hne => by
    rw [cf_sub (by omega)] at hne
    by_cases hm : i ∈ E
    · exact List.mem_append_left _ hm
    · exact List.mem_append_right _ (errs_mem.2 ⟨hi, hm, fun e => hne (by rw [e, ean])⟩))
  rw [locs_app] at hD
  have := Eu.final (xe := locs γ l E) (xf := locs γ l (errs l E ws cw)) (γ := γ) (l := l) (D := cf (subW ws cw).reverse) (by rw [locs_len]; exact h) (by rw [locs_len]; exact hstop) n0 n1 hF
    (by rw [← locs_app]; exact locs_ne hF _) (by rw [← locs_app]; exact locs_nodup hF hEF hnd) hD (fun x hx => by
      obtain ⟨i, hi, rfl⟩ := List.mem_map.1 hx
      obtain ⟨h1, h2, h3⟩ := errs_mem.1 hi
      refine ⟨l - 1 - i, by omega, rfl, ?_⟩
      rw [cf_rev (by omega), he, show l - 1 - (l - 1 - i) = i by omega, cf_sub (by omega)]
      exact esub_ne h3) (by rw [locs_len, locs_len]; exact hb) (fun i hi => by
      rw [keyP, cf_omeg]
      show (if i < c then _ else _) = _
      rw [if_pos hi, ps_comm]
      refine ps_local (fun _ _ => rfl) fun j hj => ?_
      rw [← syn_ser γ c he j (by omega), syn_sub γ c (by omega), cf_tab, if_pos (by omega), zeroL_cf hcw j, en0, ea0])
  rw [locs_len] at this
  exact this
omit hF n0 n1 in
/-- The degree of the polynomial that the algorithm ends with is at most the number of errors for which there is room. -/
theorem eu_room {E : List Nat} {T a b u v : List (El R)} (h : Eu c E.length T a b u v) : 2 * v.length + E.length ≤ c + 2 := by
  have := h.len; have := h.big; omega
end
end
end Go.Proofs.YtlphodhecaagbaaGreat

namespace Go.Proofs.YtlphodhecaagbaaGreat
section
variable {R : Fld} {γ : El R} {l c : Nat}
/-- The product of the locator polynomial of the erasures and what the algorithm ends with, with 1 as its first coefficient. -/
def fullP (γ : El R) (l : Nat) (E : List Nat) (v : List (El R)) : List (El R) := mulP (locP (locs γ l E)) (scaP (cf v 0).inv v)
section
variable (hF : Far γ l)
include hF
theorem mul_locs {P Q : List Nat} (hP : Idx l P) (hQ : Idx l Q) (hd : ∀ i ∈ P, i ∉ Q) : mulP (locP (locs γ l P)) (locP (locs γ l Q)) = locP (locs γ l (union l P Q)) := by
  have hp := locs_ne hF P
  have hq := locs_ne hF Q
  have ht : Tr (mulP (locP (locs γ l P)) (locP (locs γ l Q))) := tr_mul (tr_loc hp) (tr_loc hq)
  have hh : hits γ l (mulP (locP (locs γ l P)) (locP (locs γ l Q))) = union l P Q := by
    refine sorted_ext (hits_idx _ _ _).1 (union_idx l P Q).1 fun i => ?_
    rw [hits_mem, union_mem, ev_mul]
    constructor
    · rintro ⟨hi, h0⟩
      refine ⟨hi, ?_⟩
      by_cases h1 : ev (lcE γ l i).inv (locP (locs γ l P)) = 0
      · exact .inl ((ev_locs hF hP.2 hi).1 h1)
      · by_cases h2 : ev (lcE γ l i).inv (locP (locs γ l Q)) = 0
        · exact .inr ((ev_locs hF hQ.2 hi).1 h2)
        · exact absurd h0 (emul_ne h1 h2)
    · rintro ⟨hi, h0⟩
      refine ⟨hi, ?_⟩
      rcases h0 with h0 | h0
      · rw [(ev_locs hF hP.2 hi).2 h0, e0m]
      · rw [(ev_locs hF hQ.2 hi).2 h0, em0]
  have hl : (union l P Q).length = P.length + Q.length := len_both hP.nodup hQ.nodup (union_idx l P Q).nodup hd fun i => by
    rw [union_mem]
    exact ⟨fun h => h.2, fun h => ⟨h.elim (hP.2 i) (hQ.2 i), h⟩⟩
  have hb : locB γ l (mulP (locP (locs γ l P)) (locP (locs γ l Q))) = true := by
    simp only [locB, decide_eq_true_eq]
    rw [hh, hl, mul_len (by rw [loc_len hp]; omega) (by rw [loc_len hq]; omega), loc_len hp, loc_len hq, locs_len, locs_len]
    refine ⟨by omega, ?_, by omega⟩
    rw [cf_mul, ps_0, loc_zero hp, loc_zero hq]; exact em1 1
  have := locB_is hF ht hb
  rw [hh] at this
  exact this.symm
section
variable {num : Nat → El R} (n0 : num 0 = 0) (n1 : ∀ j, num (j + 1) = num j + 1)
include n0 n1
/-- For a word with a code word within the bound the program finds the indices. -/
theorem found {E : List Nat} (hE : Idx l E) {ws cw : List (El R)} (hw : ws.length = l) (ho : Okw γ l c E ws cw) {a b u v : List (El R)}
    (h : Eu c E.length (keyP γ l c ws E) a b u v) (hstop : 2 * b.length < c + E.length + 2) :
    cf v 0 ≠ 0 ∧ (∀ i, i < l → (i ∈ hits γ l v ↔ i ∈ errs l E ws cw)) ∧ locB γ l (fullP γ l E v) = true ∧ hits γ l (fullP γ l E v) = union l E (errs l E ws cw) ∧ (union l E (errs l E ws cw)).length ≤ c := by
  obtain ⟨h1, h2, h3⟩ := word_final (num := num) hF n0 n1 hE hw ho h hstop
  have hI : Idx l (errs l E ws cw) := idx_filter _ _
  have hd : ∀ i ∈ E, i ∉ errs l E ws cw := fun i hi hn => (errs_mem.1 hn).2.1 hi
  have hne := locs_ne hF (errs l E ws cw)
  have hsc : scaP (cf v 0).inv v = locP (locs γ l (errs l E ws cw)) := by
    refine tr_ext (tr_sca _ _) (tr_loc hne) ?_
    rw [cf_sca, h3]
    funext i
    simp only
    rw [← ema, loc_zero hne, em1, emc (cf v 0).inv, einv h2, e1m]
  have hfp : fullP γ l E v = locP (locs γ l (union l E (errs l E ws cw))) := by rw [fullP, hsc]; exact mul_locs hF hE hI hd
  refine ⟨h2, fun i hi => ?_, by rw [hfp]; exact locB_locs hF (union_idx _ _ _), by rw [hfp]; exact hits_locs hF (union_idx _ _ _), ?_⟩
  · rw [hits_mem]
    have he : ev (lcE γ l i).inv v = cf v 0 * ev (lcE γ l i).inv (locP (locs γ l (errs l E ws cw))) := by
      rw [ev_of (n := v.length) (f := cf v) rfl (cf_far v), evN_congr (g := fun i => cf v 0 * cf (locP (locs γ l (errs l E ws cw))) i) v.length (fun i _ => congrFun h3 i), evN_mul, ← ev_far (by rw [loc_len hne, locs_len]; omega)]
    rw [he]
    constructor
    · rintro ⟨_, h0⟩
      exact (ev_locs hF hI.2 hi).1 (Classical.byContradiction fun hn => emul_ne h2 hn h0)
    · intro hm
      exact ⟨hi, by rw [(ev_locs hF hI.2 hi).2 hm, em0]⟩
  · rw [len_both hE.nodup hI.nodup (union_idx l E (errs l E ws cw)).nodup hd fun i => by
      rw [union_mem]
      exact ⟨fun h => h.2, fun h => ⟨h.elim (hE.2 i) (hI.2 i), h⟩⟩]
    have := ho.2.2
    omega
theorem found_cor {E : List Nat} {ws cw : List (El R)} (hw : ws.length = l) (ho : Okw γ l c E ws cw) {J : List Nat} (hJ : Idx l J) (hJe : ∀ i, i < l → (i ∈ J ↔ i ∈ E ∨ i ∈ errs l E ws cw)) (hJc : J.length ≤ c) :
    valB γ l c (synW γ c ws) J = true ∧ corW num γ l c ws J = cw :=
  cor_is hF n0 n1 hJ hJc hw ho.1 ho.2.1 fun i hi hne => (hJe i hi).2 (by
    by_cases h : i ∈ E
    · exact .inl h
    · exact .inr (errs_mem.2 ⟨hi, h, hne⟩))
omit hF n0 n1 in
theorem errs_few {E J : List Nat} (hE : Idx l E) {ws : List (El R)} (hw : ws.length = l) (hs : ∀ i ∈ E, i ∈ J) : (errs l E ws (corW num γ l c ws J)).length + E.length ≤ J.length := by
  have hI : Idx l (errs l E ws (corW num γ l c ws J)) := idx_filter _ _
  have := len_le_of_sub (a := errs l E ws (corW num γ l c ws J) ++ E) (b := J) (List.nodup_append.2 ⟨hI.nodup, hE.nodup, fun x hx y hy e => (errs_mem.1 hx).2.1 (e ▸ hy)⟩) (fun i hi => by
    rcases List.mem_append.1 hi with hi | hi
    · exact (cor_errs hw i hi).1
    · exact hs i hi)
  rwa [List.length_append] at this
/-- What the program accepts is a code word within the bound. -/
theorem sound {E : List Nat} (hE : Idx l E) {ws : List (El R)} (hw : ws.length = l) {a b u v : List (El R)}
    (h : Eu c E.length (keyP γ l c ws E) a b u v) (hv0 : cf v 0 ≠ 0) (hB : locB γ l (fullP γ l E v) = true) :
    (hits γ l (fullP γ l E v)).length ≤ c ∧ (valB γ l c (synW γ c ws) (hits γ l (fullP γ l E v)) = true → Okw γ l c E ws (corW num γ l c ws (hits γ l (fullP γ l E v)))) := by
  have hne := locs_ne hF E
  have hroom := eu_room h
  have hvl : 0 < v.length := by have := h.uv; omega
  have hsl : (scaP (cf v 0).inv v).length = v.length := sca_len (einv_ne hv0) h.tv
  have hlen : (fullP γ l E v).length = E.length + v.length := by
    rw [fullP, mul_len (by rw [loc_len hne]; omega) (by omega), loc_len hne, locs_len, hsl]; omega
  have hB' := hB
  simp only [locB, decide_eq_true_eq] at hB'
  have hJ := hits_idx γ l (fullP γ l E v)
  have hs : ∀ i ∈ E, i ∈ hits γ l (fullP γ l E v) := fun i hi => hits_mem.2 ⟨hE.2 i hi, by
    rw [fullP, ev_mul, (ev_locs hF hE.2 (hE.2 i hi)).2 hi, e0m]⟩
  have hJc : (hits γ l (fullP γ l E v)).length ≤ c := by omega
  refine ⟨hJc, fun hv => ⟨by rw [corW_len, hw], cor_cw hF n0 n1 hJ hJc hw hv, ?_⟩⟩
  have := errs_few (num := num) (γ := γ) (c := c) hE hw hs
  omega
end
end
end
end Go.Proofs.YtlphodhecaagbaaGreat
