/-
  Streams of blocks as lists of elements: the words of a stream, the data of its blocks, and what a burst and a bounded damage leave of each word.
  No condition but those of each statement.
-/
import Derived.Test.YtlphodhecaagbaaGreatLMath
import Derived.Test.YtlphodhecaagbaaGreatJP
namespace Go.Proofs.YtlphodhecaagbaaGreat
section
variable {R : Fld} {D C K : Nat}
/-- The word of a block of a stream. -/
def wrdL (D C K : Nat) (s : List (El R)) (k : Nat) : List (El R) := tab (lsz D C k + K) fun e => cf s (sidx D C k e)
theorem wrd_len (s : List (El R)) (k : Nat) : (wrdL D C K s k).length = lsz D C k + K := tab_len _ _
theorem cf_wrd {s : List (El R)} {k e : Nat} (h : e < lsz D C k + K) : cf (wrdL D C K s k) e = cf s (sidx D C k e) := by rw [wrdL, cf_tab, if_pos h]
/-- The stream of the words of all blocks. -/
def strL (D C K : Nat) (W : Nat → List (El R)) : List (El R) := tab (D + C * K) fun i => cf (W (pairOf D C i).1) (pairOf D C i).2
theorem str_len (W : Nat → List (El R)) : (strL D C K W).length = D + C * K := tab_len _ _
theorem cf_str {W : Nat → List (El R)} {k e : Nat} (hk : k < C) (he : e < lsz D C k + K) : cf (strL D C K W) (sidx D C k e) = cf (W k) e := by
  rw [strL, cf_tab, if_pos ((sidx_lt hk).2 he), pair_sidx hk]
theorem wrd_str {W : Nat → List (El R)} {k : Nat} (hk : k < C) (hW : (W k).length = lsz D C k + K) : wrdL D C K (strL D C K W) k = W k := by
  rw [wrdL, tab_congr (g := cf (W k)) (fun e he => cf_str hk he), ← hW, tab_cf]
theorem str_wrd {s : List (El R)} (hC : 0 < C) (hs : s.length = D + C * K) : strL D C K (wrdL D C K s) = s := by
  rw [strL, tab_congr (g := cf s) (fun i hi => by rw [cf_wrd (pair_elem hC hi), sidx_pair hC]), ← hs, tab_cf]
/-- Only the words of the blocks matter. -/
theorem str_congr {W V : Nat → List (El R)} (hC : 0 < C) (h : ∀ k, k < C → W k = V k) : strL D C K W = strL D C K V := by
  unfold strL
  exact tab_congr fun i _ => by rw [h _ (pair_lt hC i)]

/-- The data of a block. -/
def datL (D C : Nat) (ds : List (El R)) (k : Nat) : List (El R) := (ds.drop (offB D C k)).take (lsz D C k)
theorem dat_len {ds : List (El R)} {k : Nat} (hk : k < C) (hd : ds.length = D) : (datL D C ds k).length = lsz D C k := by
  have h := offB_le (D := D) (k := k + 1) (show 0 < C by omega) hk
  rw [offB_succ] at h
  rw [datL, List.length_take, List.length_drop]
  omega
/-- The data of the words of the first blocks. -/
def catL (D C : Nat) (W : Nat → List (El R)) : Nat → List (El R)
  | 0 => []
  | k + 1 => catL D C W k ++ (W k).take (lsz D C k)
theorem cat_congr {W V : Nat → List (El R)} : ∀ {n : Nat}, (∀ k, k < n → W k = V k) → catL D C W n = catL D C V n
  | 0, _ => rfl
  | n + 1, h => by
    show catL D C W n ++ _ = catL D C V n ++ _
    rw [cat_congr fun k hk => h k (by omega), h n (by omega)]
theorem cat_part {W : Nat → List (El R)} {ds : List (El R)} (hW : ∀ k, k < C → (W k).take (lsz D C k) = datL D C ds k) : ∀ n, n ≤ C → catL D C W n = ds.take (offB D C n)
  | 0, _ => by rw [offB_zero]; rfl
  | n + 1, h => by
    show catL D C W n ++ _ = _
    rw [cat_part hW n (by omega), hW n h, offB_succ, datL, List.take_add]
theorem cat_all {W : Nat → List (El R)} {ds : List (El R)} (hC : 0 < C) (hd : ds.length = D) (hW : ∀ k, k < C → (W k).take (lsz D C k) = datL D C ds k) : catL D C W C = ds := by
  rw [cat_part hW C (Nat.le_refl _), offB_all hC, ← hd, List.take_length]
theorem cat_len {W : Nat → List (El R)} (hW : ∀ k, k < C → lsz D C k ≤ (W k).length) : ∀ n, n ≤ C → (catL D C W n).length = offB D C n
  | 0, _ => by rw [offB_zero]; rfl
  | n + 1, h => by
    show (catL D C W n ++ _).length = _
    rw [List.length_append, cat_len hW n (by omega), offB_succ, List.length_take]
    have := hW n h
    omega
/-- The code words of the data. -/
def encB (γ : El R) (D C K : Nat) (ds : List (El R)) (k : Nat) : List (El R) := encW γ K (datL D C ds k)
theorem encB_len {γ : El R} {ds : List (El R)} {k : Nat} (hk : k < C) (hd : ds.length = D) : (encB γ D C K ds k).length = lsz D C k + K := by rw [encB, enc_len, dat_len hk hd]
theorem encB_cw (γ : El R) (ds : List (El R)) (k : Nat) : isCW γ K (encB γ D C K ds k) = true := enc_isCW γ K (datL D C ds k)
theorem encB_take {γ : El R} {ds : List (El R)} {k : Nat} (hk : k < C) (hd : ds.length = D) : (encB γ D C K ds k).take (lsz D C k) = datL D C ds k := by
  have := enc_take γ K (datL D C ds k)
  rwa [dat_len hk hd] at this
theorem encB_back {γ : El R} {ds : List (El R)} (hC : 0 < C) (hd : ds.length = D) : catL D C (encB γ D C K ds) C = ds := cat_all hC hd fun _ hk => encB_take hk hd

/-- The erasures of a block's word. -/
def eraL (D C K : Nat) (E : List Nat) (k : Nat) : List Nat := (List.range (lsz D C k + K)).filter fun e => decide (sidx D C k e ∈ E)
theorem era_idx (E : List Nat) (k : Nat) : Idx (lsz D C k + K) (eraL D C K E k) := idx_filter _ _
theorem era_mem {E : List Nat} {k e : Nat} : e ∈ eraL D C K E k ↔ e < lsz D C k + K ∧ sidx D C k e ∈ E := by unfold eraL; rw [List.mem_filter, List.mem_range]; simp
theorem era_nil (k : Nat) : eraL D C K [] k = [] := by unfold eraL; rw [List.filter_eq_nil_iff]; simp
/-- How many elements of the first blocks' words are changed. -/
def chgL (D C K : Nat) (s : List (El R)) (W : Nat → List (El R)) : Nat → Nat
  | 0 => 0
  | k + 1 => chgL D C K s W k + (difs (wrdL D C K s k) (W k)).length
theorem chg_le {s : List (El R)} {W : Nat → List (El R)} : ∀ n, n ≤ C → chgL D C K s W n ≤ n * (D / C + 1 + K)
  | 0, _ => by show 0 ≤ _; omega
  | n + 1, h => by
    have h1 := chg_le (s := s) (W := W) n (by omega)
    have h2 : (difs (wrdL D C K s n) (W n)).length ≤ lsz D C n + K := by
      have := List.length_filter_le (fun i => !decide (cf (wrdL D C K s n) i = cf (W n) i)) (List.range (wrdL D C K s n).length)
      rw [List.length_range, wrd_len] at this
      rw [difs, wrd_len]
      exact this
    have h3 := lsz_le D C n
    show chgL D C K s W n + _ ≤ _
    rw [Nat.add_mul, Nat.one_mul]
    omega

theorem filter_len_le {p q : Nat → Bool} {l : List Nat} (h : ∀ x, x ∈ l → p x = true → q x = true) : (l.filter p).length ≤ (l.filter q).length := by
  rw [← List.countP_eq_length_filter, ← List.countP_eq_length_filter]
  exact List.countP_mono_left h
/-- The words of a stream that is changed within a burst alone. -/
theorem burst_ok {γ : El R} {W : Nat → List (El R)} {s : List (El R)} {at' b k : Nat} (hk : k < C) (hb : b ≤ burst D C K) (hW : (W k).length = lsz D C k + K) (hc : isCW γ K (W k) = true)
    (hs : ∀ i, cf s i ≠ cf (strL D C K W) i → at' ≤ i ∧ i < at' + b) : Okw γ (lsz D C k + K) K [] (wrdL D C K s k) (W k) := by
  refine ⟨hW, hc, ?_⟩
  have h1 := burst_word (D := D) (K := K) (s := at') hk hb (lsz D C k + K)
  have h2 : (errs (lsz D C k + K) [] (wrdL D C K s k) (W k)).length ≤ K / 2 := by
    refine Nat.le_trans (filter_len_le fun e he h => ?_) h1
    rw [List.mem_range] at he
    simp only [List.not_mem_nil, decide_false, Bool.not_false, Bool.true_and, Bool.not_eq_true', decide_eq_false_iff_not] at h
    rw [cf_wrd he, ← cf_str (W := W) (D := D) hk he] at h
    have := hs _ h
    simp [this]
  show 2 * _ + 0 ≤ K
  omega

theorem sumF_add (f g : Nat → Nat) : ∀ n, sumF (fun k => f k + g k) n = sumF f n + sumF g n
  | 0 => rfl
  | n + 1 => by show sumF (fun k => f k + g k) n + (f n + g n) = sumF f n + f n + (sumF g n + g n); rw [sumF_add f g n]; omega
theorem sumF_one (b : Nat) : ∀ n, sumF (fun k => if b = k then 1 else 0) n = if b < n then 1 else 0
  | 0 => rfl
  | n + 1 => by
    show sumF _ n + (if b = n then 1 else 0) = _
    rw [sumF_one b n]
    split <;> split <;> split <;> omega
theorem ecnt_sum (hC : 0 < C) : ∀ i, sumF (fun k => ecnt D C k i) C = i
  | 0 => by
    have : ∀ n, sumF (fun _ => 0) n = 0 := fun n => by
      induction n with
      | zero => rfl
      | succ n ih => show sumF _ n + 0 = 0; rw [ih]
    exact this C
  | i + 1 => by
    show sumF (fun k => ecnt D C k i + (if (pairOf D C i).1 = k then 1 else 0)) C = _
    rw [sumF_add, ecnt_sum hC i, sumF_one, if_pos (pair_lt hC i)]
/-- A burst changes at most its own length. -/
theorem burst_chg {W : Nat → List (El R)} {s : List (El R)} {at' b : Nat} (hC : 0 < C) (hs : ∀ i, cf s i ≠ cf (strL D C K W) i → at' ≤ i ∧ i < at' + b) : chgL D C K s W C ≤ b := by
  have h1 := ecnt_sum (D := D) hC (at' + b)
  have h2 := ecnt_sum (D := D) hC at'
  have h : ∀ n, n ≤ C → chgL D C K s W n + sumF (fun k => ecnt D C k at') n ≤ sumF (fun k => ecnt D C k (at' + b)) n := by
    intro n hn
    induction n with
    | zero => exact Nat.le_refl _
    | succ n ih =>
      have ih := ih (by omega)
      have hk : n < C := hn
      have h3 := filter_between (ecnt D C n at') (ecnt D C n (at' + b)) (lsz D C n + K)
      have h4 : (difs (wrdL D C K s n) (W n)).length ≤ ((List.range (lsz D C n + K)).filter fun e => decide (ecnt D C n at' ≤ e) && decide (e < ecnt D C n (at' + b))).length := by
        rw [difs, wrd_len]
        refine filter_len_le fun e he h => ?_
        rw [List.mem_range] at he
        simp only [Bool.not_eq_true', decide_eq_false_iff_not] at h
        rw [cf_wrd he, ← cf_str (W := W) (D := D) hk he] at h
        obtain ⟨a1, a2⟩ := hs _ h
        have a := ecnt_iff (D := D) hk at' e
        have b := ecnt_iff (D := D) hk (at' + b) e
        simp only [Bool.and_eq_true, decide_eq_true_eq]
        omega
      have h5 := ecnt_mono (D := D) (C := C) (k := n) (show at' ≤ at' + b by omega)
      show chgL D C K s W n + _ + (sumF _ n + ecnt D C n at') ≤ sumF _ n + ecnt D C n (at' + b)
      omega
  have := h C (Nat.le_refl _)
  omega

/-- The weight of a damaged element. -/
def wgt (E F : List Nat) (i : Nat) : Nat := if i ∈ E then 1 else if i ∈ F then 2 else 0
theorem weigh {p q : Nat → Bool} {f : Nat → Nat} (hp : ∀ e, p e = true → 2 ≤ f e) (hq : ∀ e, q e = true → 1 ≤ f e) (hn : ∀ e, p e = true → q e = false) : ∀ n, 2 * ((List.range n).filter p).length + ((List.range n).filter q).length ≤ sumF f n
  | 0 => Nat.le_refl _
  | n + 1 => by
    have ih := weigh hp hq hn n
    have a := hp n
    have b := hq n
    have c := hn n
    rw [List.range_succ, List.filter_append, List.filter_append, List.length_append, List.length_append]
    show _ ≤ sumF f n + f n
    rcases hpn : p n with _ | _ <;> rcases hqn : q n with _ | _
    · rw [List.filter_cons_of_neg (by simp [hpn]), List.filter_cons_of_neg (by simp [hqn])]
      simp only [List.filter_nil, List.length_nil]; omega
    · rw [List.filter_cons_of_neg (by simp [hpn]), List.filter_cons_of_pos hqn]
      have := b hqn
      simp only [List.filter_nil, List.length_nil, List.length_cons]; omega
    · rw [List.filter_cons_of_pos hpn, List.filter_cons_of_neg (by simp [hqn])]
      have := a hpn
      simp only [List.filter_nil, List.length_nil, List.length_cons]; omega
    · rw [hqn] at c; exact absurd (c hpn) (by decide)
/-- The words of a stream that is changed within a bounded damage alone. -/
theorem damage_ok {γ : El R} {W : Nat → List (El R)} {s : List (El R)} {E F : List Nat} {k : Nat} (hk : k < C) (hW : (W k).length = lsz D C k + K) (hc : isCW γ K (W k) = true)
    (hs : ∀ i, cf s i ≠ cf (strL D C K W) i → i ∈ E ∨ i ∈ F) (hb : sumB D C k (wgt E F) (D + C * K) ≤ K) : Okw γ (lsz D C k + K) K (eraL D C K E k) (wrdL D C K s k) (W k) := by
  refine ⟨hW, hc, ?_⟩
  rw [sumB_is (by omega) hk, ecnt_all hk] at hb
  refine Nat.le_trans ?_ hb
  have := weigh (p := fun e => !decide (sidx D C k e ∈ E) && decide (sidx D C k e ∈ F)) (q := fun e => decide (sidx D C k e ∈ E)) (f := fun e => wgt E F (sidx D C k e))
    (fun e h => by
      simp only [Bool.and_eq_true, Bool.not_eq_true', decide_eq_false_iff_not, decide_eq_true_eq] at h
      show 2 ≤ wgt E F _
      rw [wgt, if_neg h.1, if_pos h.2]; exact Nat.le_refl _)
    (fun e h => by
      simp only [decide_eq_true_eq] at h
      show 1 ≤ wgt E F _
      rw [wgt, if_pos h]; exact Nat.le_refl _)
    (fun e h => by
      simp only [Bool.and_eq_true, Bool.not_eq_true', decide_eq_false_iff_not, decide_eq_true_eq] at h
      simpa using h.1) (lsz D C k + K)
  have h1 : (errs (lsz D C k + K) (eraL D C K E k) (wrdL D C K s k) (W k)).length ≤ ((List.range (lsz D C k + K)).filter fun e => !decide (sidx D C k e ∈ E) && decide (sidx D C k e ∈ F)).length := by
    refine filter_len_le fun e he h => ?_
    rw [List.mem_range] at he
    simp only [Bool.and_eq_true, Bool.not_eq_true', decide_eq_false_iff_not] at h
    obtain ⟨h1, h2⟩ := h
    rw [era_mem] at h1
    rw [cf_wrd he, ← cf_str (W := W) (D := D) hk he] at h2
    have h3 : sidx D C k e ∉ E := fun hm => h1 ⟨he, hm⟩
    rcases hs _ h2 with h4 | h4
    · exact absurd h4 h3
    · simp [h3, h4]
  have h2 : (eraL D C K E k).length = ((List.range (lsz D C k + K)).filter fun e => decide (sidx D C k e ∈ E)).length := rfl
  omega
end
end Go.Proofs.YtlphodhecaagbaaGreat
