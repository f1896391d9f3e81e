/-
  Indices and their locators, and words with erasures that are corrected: what the program and the model reckon, and when there is such a word.
  No condition but those of each statement.
-/
import Derived.Test.YtpheembgjdgniaaDEuclid
namespace Go.Proofs.Ytpheembgjdgniaa

/-- A valid list of indices. -/
def Idx (l : Nat) (J : List Nat) : Prop := J.Pairwise (· < ·) ∧ ∀ i ∈ J, i < l
theorem sorted_ext : ∀ {a b : List Nat}, a.Pairwise (· < ·) → b.Pairwise (· < ·) → (∀ i, i ∈ a ↔ i ∈ b) → a = b
  | [], [], _, _, _ => rfl
  | [], y :: b, _, _, h => absurd ((h y).2 (List.mem_cons_self ..)) List.not_mem_nil
  | x :: a, [], _, _, h => absurd ((h x).1 (List.mem_cons_self ..)) List.not_mem_nil
  | x :: a, y :: b, ha, hb, h => by
    obtain ⟨ha1, ha2⟩ := List.pairwise_cons.1 ha
    obtain ⟨hb1, hb2⟩ := List.pairwise_cons.1 hb
    have e : x = y := by
      rcases List.mem_cons.1 ((h x).1 (List.mem_cons_self ..)) with e | e
      · exact e
      · rcases List.mem_cons.1 ((h y).2 (List.mem_cons_self ..)) with e' | e'
        · exact e'.symm
        · have := ha1 y e'; have := hb1 x e; omega
    subst e
    refine congrArg _ (sorted_ext ha2 hb2 fun i => ?_)
    constructor
    · intro hi
      rcases List.mem_cons.1 ((h i).1 (List.mem_cons_of_mem _ hi)) with e | e
      · have := ha1 i hi; omega
      · exact e
    · intro hi
      rcases List.mem_cons.1 ((h i).2 (List.mem_cons_of_mem _ hi)) with e | e
      · have := hb1 i hi; omega
      · exact e
theorem sorted_filter (n : Nat) (P : Nat → Bool) : ((List.range n).filter P).Pairwise (· < ·) := List.Pairwise.filter _ List.pairwise_lt_range
theorem idx_filter (n : Nat) (P : Nat → Bool) : Idx n ((List.range n).filter P) :=
  ⟨sorted_filter n P, fun _ hi => List.mem_range.1 (List.mem_filter.1 hi).1⟩
theorem Idx.nodup {l : Nat} {J : List Nat} (h : Idx l J) : J.Nodup := h.1.imp fun hlt => Nat.ne_of_lt hlt
theorem Idx.is {l : Nat} {J : List Nat} (h : Idx l J) : (List.range l).filter (fun i => decide (i ∈ J)) = J :=
  sorted_ext (sorted_filter _ _) h.1 fun i => by
    rw [List.mem_filter, List.mem_range, decide_eq_true_eq]
    exact ⟨fun h => h.2, fun hi => ⟨h.2 i hi, hi⟩⟩
theorem len_le_of_sub : ∀ {a b : List Nat}, a.Nodup → (∀ i ∈ a, i ∈ b) → a.length ≤ b.length
  | [], _, _, _ => Nat.zero_le _
  | x :: a, b, hd, h => by
    obtain ⟨h1, h2⟩ := List.nodup_cons.1 hd
    have hx := h x (List.mem_cons_self ..)
    have := len_le_of_sub (a := a) (b := b.erase x) h2 fun i hi => (List.mem_erase_of_ne (show i ≠ x from fun e => h1 (by rw [← e]; exact hi))).2 (h i (List.mem_cons_of_mem _ hi))
    rw [List.length_erase_of_mem hx] at this
    have := List.length_pos_of_mem hx
    show a.length + 1 ≤ b.length
    omega
theorem Idx.len {l : Nat} {J : List Nat} (h : Idx l J) : J.length ≤ l := by
  have := len_le_of_sub (b := List.range l) h.nodup fun i hi => List.mem_range.2 (h.2 i hi)
  rwa [List.length_range] at this
theorem len_both {a b J : List Nat} (ha : a.Nodup) (hb : b.Nodup) (hJ : J.Nodup) (hd : ∀ i ∈ a, i ∉ b) (h : ∀ i, i ∈ J ↔ i ∈ a ∨ i ∈ b) : J.length = a.length + b.length := by
  have hab : (a ++ b).Nodup := List.nodup_append.2 ⟨ha, hb, fun x hx y hy e => hd x hx (e ▸ hy)⟩
  have h1 := len_le_of_sub (b := a ++ b) hJ fun i hi => List.mem_append.2 ((h i).1 hi)
  have h2 := len_le_of_sub (b := J) hab fun i hi => (h i).2 (List.mem_append.1 hi)
  rw [List.length_append] at h1 h2
  omega

section
variable {R : Fld}
/-- The locator of an index. -/
def lcE (γ : El R) (l i : Nat) : El R := epw γ (l - 1 - i)
def locs (γ : El R) (l : Nat) (J : List Nat) : List (El R) := J.map (lcE γ l)
theorem locs_len (γ : El R) (l : Nat) (J : List Nat) : (locs γ l J).length = J.length := List.length_map ..
theorem locs_app (γ : El R) (l : Nat) (J K : List Nat) : locs γ l (J ++ K) = locs γ l J ++ locs γ l K := List.map_append
/-- The indices at whose inverse locators a polynomial is 0. -/
def hits (γ : El R) (l : Nat) (p : List (El R)) : List Nat := (List.range l).filter fun i => decide (ev (lcE γ l i).inv p = 0)
theorem hits_mem {γ : El R} {l : Nat} {p : List (El R)} {i : Nat} : i ∈ hits γ l p ↔ i < l ∧ ev (lcE γ l i).inv p = 0 := by
  unfold hits; rw [List.mem_filter, List.mem_range, decide_eq_true_eq]
theorem hits_idx (γ : El R) (l : Nat) (p : List (El R)) : Idx l (hits γ l p) := idx_filter _ _
/-- Whether a polynomial is the locator polynomial of indices, as the program finds out. -/
def locB (γ : El R) (l : Nat) (p : List (El R)) : Bool := decide (0 < p.length ∧ cf p 0 = 1 ∧ (hits γ l p).length + 1 = p.length)

section
variable {γ : El R} {l : Nat} (hF : Far γ l)
include hF
theorem lc_ne (i : Nat) : lcE γ l i ≠ 0 := epw_ne hF.1 _
theorem lc_inv (i : Nat) : lcE γ l i * (lcE γ l i).inv = 1 := einv (lc_ne hF i)
theorem lc_inj {i j : Nat} (hi : i < l) (hj : j < l) (e : lcE γ l i = lcE γ l j) : i = j := by
  refine Decidable.byContradiction fun hne => hF.2 (l - 1 - i) (l - 1 - j) (by omega) (by omega) (by omega) e
theorem locs_ne (J : List Nat) : ∀ x ∈ locs γ l J, x ≠ 0 := fun x hx => by
  obtain ⟨i, _, rfl⟩ := List.mem_map.1 hx
  exact lc_ne hF i
theorem locs_mem {J : List Nat} (hJ : ∀ i ∈ J, i < l) {i : Nat} (hi : i < l) : lcE γ l i ∈ locs γ l J ↔ i ∈ J := by
  constructor
  · intro h
    obtain ⟨j, hj, e⟩ := List.mem_map.1 h
    rwa [← lc_inj hF (hJ j hj) hi e]
  · exact fun h => List.mem_map.2 ⟨i, h, rfl⟩
theorem locs_nodup {J : List Nat} (hJ : ∀ i ∈ J, i < l) (hd : J.Nodup) : (locs γ l J).Nodup :=
  List.pairwise_map.2 (List.Pairwise.imp_of_mem (fun {a b} ha hb hne e => hne (lc_inj hF (hJ a ha) (hJ b hb) e)) hd)
omit hF in
theorem locs_in {J : List Nat} (hJ : ∀ i ∈ J, i < l) : ∀ x ∈ locs γ l J, ∃ k, k < l ∧ x = epw γ k := fun x hx => by
  obtain ⟨i, hi, rfl⟩ := List.mem_map.1 hx
  have := hJ i hi
  exact ⟨l - 1 - i, by omega, rfl⟩
/-- Where a locator polynomial is 0. -/
theorem ev_locs {J : List Nat} (hJ : ∀ i ∈ J, i < l) {i : Nat} (hi : i < l) : ev (lcE γ l i).inv (locP (locs γ l J)) = 0 ↔ i ∈ J := by
  rw [ev_loc, ← locs_mem hF hJ hi]
  constructor
  · rintro ⟨x, hx, e⟩
    rwa [← inv_only e (lc_inv hF i)]
  · exact fun h => ⟨_, h, lc_inv hF i⟩
theorem hits_locs {J : List Nat} (hJ : Idx l J) : hits γ l (locP (locs γ l J)) = J :=
  sorted_ext (hits_idx _ _ _).1 hJ.1 fun i => by
    rw [hits_mem]
    exact ⟨fun h => (ev_locs hF hJ.2 h.1).1 h.2, fun h => ⟨hJ.2 i h, (ev_locs hF hJ.2 (hJ.2 i h)).2 h⟩⟩
omit hF in
theorem inv_nodup {xs : List (El R)} (hx : ∀ x ∈ xs, x ≠ 0) (hd : xs.Nodup) : (xs.map El.inv).Nodup := by
  refine List.pairwise_map.2 (List.Pairwise.imp_of_mem (fun {a b} ha hb hne e => hne ?_) hd)
  have h1 := einv (hx a ha)
  have h2 := einv (hx b hb)
  rw [← e] at h2
  exact inv_only h1 h2
/-- A polynomial that the program takes for a locator polynomial is one. -/
theorem locB_is {p : List (El R)} (hp : Tr p) (h : locB γ l p = true) : locP (locs γ l (hits γ l p)) = p := by
  simp only [locB, decide_eq_true_eq] at h
  obtain ⟨h1, h2, h3⟩ := h
  have hI := hits_idx γ l p
  have hne := locs_ne hF (hits γ l p)
  refine fit_only (tr_loc hne) hp (xs := 0 :: (locs γ l (hits γ l p)).map El.inv) ?_ ?_ (List.nodup_cons.2 ⟨fun hm => ?_, inv_nodup hne (locs_nodup hF hI.2 hI.nodup)⟩) fun x hm => ?_
  · rw [loc_len hne]; simp
  · simp [locs_len]; omega
  · obtain ⟨y, hy, e⟩ := List.mem_map.1 hm
    exact einv_ne (hne y hy) e
  · rcases List.mem_cons.1 hm with rfl | hm
    · have z : ∀ p : List (El R), ev 0 p = cf p 0 := fun p => by
        cases p with
        | nil => rfl
        | cons a p => show ev 0 p * 0 + a = a; rw [em0, e0a]
      rw [z, z, loc_zero hne, h2]
    · obtain ⟨y, hy, rfl⟩ := List.mem_map.1 hm
      obtain ⟨i, hi, rfl⟩ := List.mem_map.1 hy
      rw [(ev_locs hF hI.2 (hI.2 i hi)).2 hi, (hits_mem.1 hi).2]
theorem locB_locs {J : List Nat} (hJ : Idx l J) : locB γ l (locP (locs γ l J)) = true := by
  have hne := locs_ne hF J
  simp only [locB, decide_eq_true_eq]
  rw [hits_locs hF hJ, loc_len hne, locs_len]
  exact ⟨by omega, loc_zero hne, rfl⟩
theorem locB_iff {p : List (El R)} (hp : Tr p) : locB γ l p = decide (p ≠ [] ∧ locP (locs γ l (hits γ l p)) = p) := by
  rw [Bool.eq_iff_iff, decide_eq_true_eq]
  constructor
  · intro h
    have h' := h
    simp only [locB, decide_eq_true_eq] at h
    exact ⟨fun e => by rw [e] at h; simp at h, locB_is hF hp h'⟩
  · rintro ⟨_, h⟩
    have := locB_locs hF (hits_idx γ l p)
    rwa [h] at this
end

/-! Words. -/
/-- The difference of two words. -/
def subW (a b : List (El R)) : List (El R) := tab a.length fun i => cf a i + -(cf b i)
theorem subW_len (a b : List (El R)) : (subW a b).length = a.length := tab_len _ _
theorem cf_sub {a b : List (El R)} {i : Nat} (h : i < a.length) : cf (subW a b) i = cf a i + -(cf b i) := by rw [subW, cf_tab, if_pos h]
theorem ev_subW (x : El R) {a b : List (El R)} (h : a.length = b.length) : ev x (subW a b).reverse = ev x a.reverse + -(ev x b.reverse) := by
  rw [ev_is x (subW a b).reverse, ev_is x a.reverse, ev_is x b.reverse, List.length_reverse, List.length_reverse, List.length_reverse, subW_len, ← h, ← evN_neg, ← evN_add]
  refine evN_congr _ fun i hi => ?_
  rw [cf_rev (by rw [subW_len]; exact hi), cf_rev hi, cf_rev (by rw [← h]; exact hi), subW_len, ← h, cf_sub (by omega)]
theorem syn_ser (γ : El R) (c : Nat) {l : Nat} {e : List (El R)} (h : e.length = l) : ∀ j, j < c → cf (synW γ c e) j = ser γ (cf e.reverse) l j := fun j hj => by
  rw [syn_at γ e hj, ser_at, ev_is, List.length_reverse, h]
theorem syn_sub (γ : El R) (c : Nat) {a b : List (El R)} (h : a.length = b.length) : synW γ c (subW a b) = tab c fun j => cf (synW γ c a) j + -(cf (synW γ c b) j) := by
  unfold synW
  refine tab_congr fun j hj => ?_
  rw [ev_subW _ h, cf_tab, cf_tab, if_pos hj, if_pos hj]
/-- The indices that are no erasures at which two words differ. -/
def errs (l : Nat) (E : List Nat) (ws cw : List (El R)) : List Nat := (List.range l).filter fun i => !decide (i ∈ E) && !decide (cf ws i = cf cw i)
theorem errs_mem {l : Nat} {E : List Nat} {ws cw : List (El R)} {i : Nat} : i ∈ errs l E ws cw ↔ i < l ∧ i ∉ E ∧ cf ws i ≠ cf cw i := by
  unfold errs; rw [List.mem_filter, List.mem_range]; simp
/-- A code word within the bound. -/
def Okw (γ : El R) (l c : Nat) (E : List Nat) (ws cw : List (El R)) : Prop := cw.length = l ∧ isCW γ c cw = true ∧ 2 * (errs l E ws cw).length + E.length ≤ c
/-- The values at indices, and 0 elsewhere. -/
def spread (l : Nat) (J : List Nat) (f : Nat → El R) : List (El R) := tab l fun i => if i ∈ J then f i else 0
theorem spread_len (l : Nat) (J : List Nat) (f : Nat → El R) : (spread l J f).length = l := tab_len _ _
theorem cf_spread {l : Nat} {J : List Nat} {f : Nat → El R} {i : Nat} (h : i < l) : cf (spread l J f) i = if i ∈ J then f i else 0 := by rw [spread, cf_tab, if_pos h]
/-- The values of errors at indices. -/
def fvI (num : Nat → El R) (γ : El R) (l c : Nat) (S : List (El R)) (J : List Nat) (i : Nat) : El R := fvE num c S (locs γ l J) (lcE γ l i)
/-- Whether there are such values, as the program finds out. -/
def valB (γ : El R) (l c : Nat) (S : List (El R)) (J : List Nat) : Bool := decide ((omeg c S (locP (locs γ l J))).length ≤ J.length)

section
variable {γ : El R} {l c : Nat} (hF : Far γ l) {num : Nat → El R} (n0 : num 0 = 0) (n1 : ∀ j, num (j + 1) = num j + 1)
include hF n0 n1
omit n0 n1 in
theorem supp_locs {J : List Nat} (hJ : ∀ i ∈ J, i < l) {e : List (El R)} (he : e.length = l) (hs : ∀ i, i < l → cf e i ≠ 0 → i ∈ J) :
    ∀ i, i < l → cf e.reverse i = 0 ∨ epw γ i ∈ locs γ l J := fun i hi => by
  by_cases h : cf e.reverse i = 0
  · exact .inl h
  · right
    rw [cf_rev (by omega), he] at h
    have := (locs_mem hF hJ (i := l - 1 - i) (by omega)).2 (hs _ (by omega) h)
    rwa [lcE, show l - 1 - (l - 1 - i) = i by omega] at this
/-- The values of a word that is 0 elsewhere are recovered from its syndromes. -/
theorem val_word {J : List Nat} (hJ : Idx l J) (hc : J.length ≤ c) {e S : List (El R)} (he : e.length = l) (hs : ∀ i, i < l → cf e i ≠ 0 → i ∈ J) (hS : ∀ j, j < c → cf S j = cf (synW γ c e) j) :
    valB γ l c S J = true ∧ ∀ i ∈ J, fvI num γ l c S J i = cf e i := by
  have hx := locs_ne hF J
  have hD := supp_locs hF hJ.2 he hs
  have hS' : ∀ j, j < c → cf S j = ser γ (cf e.reverse) l j := fun j hj => by rw [hS j hj, syn_ser γ c he j hj]
  have hcl : (locs γ l J).length ≤ c := by rw [locs_len]; exact hc
  constructor
  · have := omeg_len hx hD hcl hS'
    rw [locs_len] at this
    simpa [valB] using this
  · intro i hi
    have hil := hJ.2 i hi
    have := forney hx n0 n1 hF (Nat.le_refl l) (locs_nodup hF hJ.2 hJ.nodup) hD hcl hS' (k := l - 1 - i) (by omega) ((locs_mem hF hJ.2 hil).2 hi)
    rw [cf_rev (by omega), he, show l - 1 - (l - 1 - i) = i by omega] at this
    exact this
/-- The values that the program finds have these syndromes. -/
theorem val_back {J : List Nat} (hJ : Idx l J) (hc : J.length ≤ c) {S : List (El R)} (hSl : S.length = c) (h : valB γ l c S J = true) : synW γ c (spread l J (fvI num γ l c S J)) = S := by
  simp only [valB, decide_eq_true_eq] at h
  have hx := locs_ne hF J
  have := forney_back (S := S) (D := cf (spread l J (fvI num γ l c S J)).reverse) hx n0 n1 hF (Nat.le_refl l) (locs_nodup hF hJ.2 hJ.nodup) (locs_in hJ.2) (by rw [locs_len]; exact hc) (by rw [locs_len]; exact h) (fun k hk => by
    rw [cf_rev (by rw [spread_len]; exact hk), spread_len, cf_spread (by omega)]
    have hm := locs_mem hF hJ.2 (i := l - 1 - k) (by omega)
    have e : lcE γ l (l - 1 - k) = epw γ k := by rw [lcE, show l - 1 - (l - 1 - k) = k by omega]
    rw [e] at hm
    by_cases h1 : l - 1 - k ∈ J
    · rw [if_pos h1, if_pos (hm.2 h1), fvI, e]
    · rw [if_neg h1, if_neg (fun h2 => h1 (hm.1 h2))])
  refine Eq.trans ?_ (show tab c (cf S) = S by rw [← hSl, tab_cf])
  unfold synW
  refine tab_congr fun j hj => ?_
  rw [this j hj, ← syn_ser γ c (spread_len _ _ _) j hj, synW, cf_tab, if_pos hj]
theorem val_iff {J : List Nat} (hJ : Idx l J) (hc : J.length ≤ c) {S : List (El R)} (hSl : S.length = c) : valB γ l c S J = decide (synW γ c (spread l J (fvI num γ l c S J)) = S) := by
  rw [Bool.eq_iff_iff, decide_eq_true_eq]
  refine ⟨fun h => val_back hF n0 n1 hJ hc hSl h, fun h => ?_⟩
  refine (val_word (num := num) hF n0 n1 hJ hc (e := spread l J (fvI num γ l c S J)) (spread_len _ _ _) (fun i hi hne => ?_) (fun j _ => by rw [h])).1
  rw [cf_spread hi] at hne
  exact Decidable.byContradiction fun h1 => hne (if_neg h1)

/-- The word that is corrected at indices. -/
def corW (num : Nat → El R) (γ : El R) (l c : Nat) (ws : List (El R)) (J : List Nat) : List (El R) := subW ws (spread l J (fvI num γ l c (synW γ c ws) J))
omit hF n0 n1 in
theorem corW_len (num : Nat → El R) (γ : El R) (l c : Nat) (ws : List (El R)) (J : List Nat) : (corW num γ l c ws J).length = ws.length := subW_len _ _
/-- A code word that differs from a word only at few indices is the word that is corrected there. -/
theorem cor_is {J : List Nat} (hJ : Idx l J) (hc : J.length ≤ c) {ws cw : List (El R)} (hw : ws.length = l) (hl : cw.length = l) (hcw : isCW γ c cw = true) (hs : ∀ i, i < l → cf ws i ≠ cf cw i → i ∈ J) :
    valB γ l c (synW γ c ws) J = true ∧ corW num γ l c ws J = cw := by
  have he : (subW ws cw).length = l := by rw [subW_len, hw]
  have hS : ∀ j, j < c → cf (synW γ c ws) j = cf (synW γ c (subW ws cw)) j := fun j hj => by
    rw [syn_sub γ c (by omega), cf_tab, if_pos hj, zeroL_cf hcw j, en0, ea0]
  have hv := val_word (num := num) hF n0 n1 hJ hc he (fun i hi hne => by
    rw [cf_sub (by omega)] at hne
    exact hs i hi fun e => hne (by rw [e, ean])) hS
  refine ⟨hv.1, ?_⟩
  rw [← tab_cf cw, hl, corW, subW, hw]
  refine tab_congr fun i hi => ?_
  rw [cf_spread hi]
  by_cases h : i ∈ J
  · rw [if_pos h, hv.2 i h, cf_sub (by omega), enadd, enn, ← eaa, ean, e0a]
  · rw [if_neg h, en0, ea0]
    exact Decidable.byContradiction fun hne => h (hs i hi hne)
/-- The corrected word is a code word. -/
theorem cor_cw {J : List Nat} (hJ : Idx l J) (hc : J.length ≤ c) {ws : List (El R)} (hw : ws.length = l) (hv : valB γ l c (synW γ c ws) J = true) : isCW γ c (corW num γ l c ws J) = true := by
  have h := val_back (num := num) hF n0 n1 hJ hc (syn_len γ c ws) hv
  unfold isCW
  refine zeroL_of fun i hi => ?_
  rw [syn_len] at hi
  rw [corW, syn_sub γ c (by rw [spread_len, hw]), h, cf_tab, if_pos hi, ean]
omit hF n0 n1 in
theorem cor_errs {J E : List Nat} {ws : List (El R)} (hw : ws.length = l) : ∀ i ∈ errs l E ws (corW num γ l c ws J), i ∈ J ∧ i ∉ E := fun i hi => by
  obtain ⟨h1, h2, h3⟩ := errs_mem.1 hi
  refine ⟨Decidable.byContradiction fun h => h3 ?_, h2⟩
  rw [corW, cf_sub (by omega), cf_spread h1, if_neg h, en0, ea0]

/-- The evaluator of the erasures of a word. -/
def keyP (γ : El R) (l c : Nat) (ws : List (El R)) (E : List Nat) : List (El R) := omeg c (synW γ c ws) (locP (locs γ l E))
/-- All indices that are corrected. -/
def union (l : Nat) (P Q : List Nat) : List Nat := (List.range l).filter fun i => decide (i ∈ P) || decide (i ∈ Q)
omit hF n0 n1 in
theorem union_mem {P Q : List Nat} {i : Nat} : i ∈ union l P Q ↔ i < l ∧ (i ∈ P ∨ i ∈ Q) := by
  unfold union; rw [List.mem_filter, List.mem_range]; simp
omit hF n0 n1 in
theorem union_idx (l : Nat) (P Q : List Nat) : Idx l (union l P Q) := idx_filter _ _
/-- What the algorithm of Euclid ends with, for a word with a code word within the bound. -/
theorem word_final {E : List Nat} (hE : Idx l E) {ws cw : List (El R)} (hw : ws.length = l) (ho : Okw γ l c E ws cw) {a b u v : List (El R)}
    (h : Eu c E.length (keyP γ l c ws E) a b u v) (hstop : 2 * b.length < c + E.length + 2) :
    v.length = (errs l E ws cw).length + 1 ∧ cf v 0 ≠ 0 ∧ cf v = fun i => cf v 0 * cf (locP (locs γ l (errs l E ws cw))) i := by
  obtain ⟨hl, hcw, hb⟩ := ho
  have hI : Idx l (errs l E ws cw) := idx_filter _ _
  have he : (subW ws cw).length = l := by rw [subW_len, hw]
  have hEF : ∀ i ∈ E ++ errs l E ws cw, i < l := fun i hi => (List.mem_append.1 hi).elim (hE.2 i) (hI.2 i)
  have hnd : (E ++ errs l E ws cw).Nodup := List.nodup_append.2 ⟨hE.nodup, hI.nodup, fun x hx y hy e => (errs_mem.1 hy).2.1 (e ▸ hx)⟩
  have hD := supp_locs hF hEF he (fun i hi hne => by
    rw [cf_sub (by omega)] at hne
    by_cases hm : i ∈ E
    · exact List.mem_append_left _ hm
    · exact List.mem_append_right _ (errs_mem.2 ⟨hi, hm, fun e => hne (by rw [e, ean])⟩))
  rw [locs_app] at hD
  have := Eu.final (xe := locs γ l E) (xf := locs γ l (errs l E ws cw)) (γ := γ) (l := l) (D := cf (subW ws cw).reverse) (by rw [locs_len]; exact h) (by rw [locs_len]; exact hstop) n0 n1 hF
    (by rw [← locs_app]; exact locs_ne hF _) (by rw [← locs_app]; exact locs_nodup hF hEF hnd) hD (fun x hx => by
      obtain ⟨i, hi, rfl⟩ := List.mem_map.1 hx
      obtain ⟨h1, h2, h3⟩ := errs_mem.1 hi
      refine ⟨l - 1 - i, by omega, rfl, ?_⟩
      rw [cf_rev (by omega), he, show l - 1 - (l - 1 - i) = i by omega, cf_sub (by omega)]
      exact esub_ne h3) (by rw [locs_len, locs_len]; exact hb) (fun i hi => by
      rw [keyP, cf_omeg]
      show (if i < c then _ else _) = _
      rw [if_pos hi, ps_comm]
      refine ps_local (fun _ _ => rfl) fun j hj => ?_
      rw [← syn_ser γ c he j (by omega), syn_sub γ c (by omega), cf_tab, if_pos (by omega), zeroL_cf hcw j, en0, ea0])
  rw [locs_len] at this
  exact this
omit hF n0 n1 in
/-- The degree of the polynomial that the algorithm ends with is at most the number of errors for which there is room. -/
theorem eu_room {E : List Nat} {T a b u v : List (El R)} (h : Eu c E.length T a b u v) : 2 * v.length + E.length ≤ c + 2 := by
  have := h.len; have := h.big; omega
end
end
end Go.Proofs.Ytpheembgjdgniaa
