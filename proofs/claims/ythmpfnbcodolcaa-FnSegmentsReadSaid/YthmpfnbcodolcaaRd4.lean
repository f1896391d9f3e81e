/-
  Plain mathematics: a written segment reads back; what was read, written again, gives the bits that were read.
  No condition.
-/
import Derived.Test.YthmpfnbcodolcaaRd2
import Derived.Test.YthmpfnbcodolcaaSgBits
import Derived.Test.YthmpfnbcodolcaaBitsMath2
namespace Go.Proofs.Ythmpfnbcodolcaa
open Go Go.RowKit
set_option linter.unusedSimpArgs false
set_option linter.unusedVariables false

theorem rtxP_full (m : Int) (bs : List Int) : ∀ j, j ≤ bs.length / gsz m → (txP m bs j).length = j * wid m (gsz m) := by
  intro j
  induction j with
  | zero => intro _; simp [txP_zero]
  | succ j ih =>
    intro h
    have hg := gsz_pos m
    have h1 : (j + 1) * gsz m ≤ bs.length := Nat.le_trans (Nat.mul_le_mul_right _ h) (Nat.div_mul_le_self _ _)
    rw [Nat.add_mul, Nat.one_mul] at h1
    rw [txP_succ, List.length_append, bitsOf_len, ih (by omega), grp_len, Nat.min_eq_left (by omega), Nat.add_mul, Nat.one_mul]
theorem rtxP_all (m : Int) (bs : List Int) : (txP m bs (gct (gsz m) bs.length)).length = twid m bs.length := by
  have hg := gsz_pos m
  obtain ⟨G, hG⟩ : ∃ G, gsz m = G := ⟨_, rfl⟩
  have hf := rtxP_full m bs (bs.length / gsz m) (Nat.le_refl _)
  unfold twid
  rw [hG] at hf hg ⊢
  have hdm := Nat.div_add_mod bs.length G
  have hml := Nat.mod_lt bs.length (show 0 < G by omega)
  obtain ⟨q, hq⟩ : ∃ q, bs.length / G = q := ⟨_, rfl⟩
  obtain ⟨r, hr⟩ : ∃ r, bs.length % G = r := ⟨_, rfl⟩
  rw [hq] at hf hdm ⊢
  rw [hr] at hdm hml ⊢
  rw [Nat.mul_comm] at hdm
  by_cases h0 : r = 0
  · subst h0
    have : gct G bs.length = q := by
      refine (gct_end hg ?_ (by omega)).symm
      rcases Nat.lt_or_ge (gct G bs.length) q with h | h
      · have h2 := (gct_lt hg (n := bs.length) (j := gct G bs.length)).2 (by
          have := Nat.mul_le_mul_right G (show gct G bs.length + 1 ≤ q by omega)
          rw [Nat.add_mul] at this; omega)
        omega
      · exact h
    rw [this, hf]; simp [wid]
  · have : gct G bs.length = q + 1 := by
      refine (gct_end hg ?_ (by rw [Nat.add_mul]; omega)).symm
      exact (gct_lt hg).2 (by omega)
    rw [this, txP_succ, List.length_append, hf, bitsOf_len, hG, grp_len, Nat.min_eq_right (by omega), show bs.length - q * G = r by omega]
theorem sgb_len (m : Int) (bs : List Int) : (segBits m bs).length = slen m bs.length := by rw [segBits, List.length_append, headB_len, rtxP_all, slen]
theorem sgb_bit (m : Int) (bs : List Int) : ∀ x ∈ segBits m bs, x = 0 ∨ x = 1 := by
  intro x hx
  unfold segBits headB txP at hx
  simp only [List.mem_append, List.mem_flatMap] at hx
  rcases hx with (h | h) | ⟨i, _, h⟩ <;> exact bitsOf_bit x h
theorem dgN_snoc (B : Nat) (m : Int) : ∀ t v, dgN B m v (t + 1) = dgN B m (v / B) t ++ [chr m ((v % B : Nat) : Int)] := by
  intro t
  induction t with
  | zero => intro v; simp [dgN]
  | succ t ih =>
    intro v
    rw [dgN, ih v, dgN, Nat.div_div_eq_div_mul, Nat.pow_succ, Nat.mul_comm (B ^ t) B]; rfl
theorem gnum_nat {m : Int} {g : List Int} (h : ∀ x ∈ g, 0 ≤ cval m x ∧ cval m x < ((gbase m : Nat) : Int)) : gnum m g = ((gnum m g).toNat : Int) ∧ (gnum m g).toNat < glim m g.length := by
  have := gnumB_bd (B := gbase m) (m := m) g.length g rfl h
  unfold gnum glim
  omega
/-- The characters of a group's number are the group. -/
theorem dgN_gnum {m : Int} : ∀ (n : Nat) (g : List Int), g.length = n → (∀ x ∈ g, 0 ≤ cval m x ∧ cval m x < ((gbase m : Nat) : Int)) → dgN (gbase m) m (gnum m g).toNat n = g := by
  intro n
  induction n with
  | zero => intro g hl _; rw [List.eq_nil_of_length_eq_zero hl]; rfl
  | succ n ih =>
    intro g hl hv
    have hne : g ≠ [] := by intro e; rw [e] at hl; cases hl
    obtain ⟨g', x, rfl⟩ : ∃ g' x, g = g' ++ [x] := ⟨g.dropLast, g.getLast hne, (List.dropLast_concat_getLast hne).symm⟩
    have hl' : g'.length = n := by rw [List.length_append] at hl; simpa using hl
    have hv' : ∀ y ∈ g', 0 ≤ cval m y ∧ cval m y < ((gbase m : Nat) : Int) := fun y hy => hv y (List.mem_append_left _ hy)
    obtain ⟨h1, h2⟩ := hv x (List.mem_append_right _ (by simp))
    obtain ⟨h3, _⟩ := gnum_nat hv'
    have hb := gbase_pos m
    obtain ⟨k, hk⟩ : ∃ k, (gnum m g').toNat = k := ⟨_, rfl⟩
    obtain ⟨c, hc⟩ : ∃ c : Nat, cval m x = c := ⟨(cval m x).toNat, by omega⟩
    rw [hk] at h3
    have hs : (gnum m (g' ++ [x])).toNat = k * gbase m + c := by
      have : gnum m (g' ++ [x]) = ((k * gbase m + c : Nat) : Int) := by
        unfold gnum at h3 ⊢
        rw [gnumB_snoc, h3, hc]; simp
      omega
    have hcb : c < gbase m := by omega
    rw [hs, dgN_snoc, show (k * gbase m + c) / gbase m = k by rw [Nat.mul_comm, Nat.mul_add_div (by omega), Nat.div_eq_of_lt hcb, Nat.add_zero], show (k * gbase m + c) % gbase m = c by rw [Nat.mul_comm, Nat.mul_add_mod, Nat.mod_eq_of_lt hcb], ← hk, ih g' hl' hv', ← hc, chr_cval h1]
theorem glim_wid {m : Int} (hm : 1 ≤ m ∧ m ≤ 4) {c : Nat} (hc : c ≤ gsz m) : glim m c ≤ 2 ^ wid m c := by
  have h4 : m = 1 ∨ m = 2 ∨ m = 3 ∨ m = 4 := by omega
  rcases h4 with rfl | rfl | rfl | rfl
  · have h3 : c ≤ 3 := hc
    have : c = 0 ∨ c = 1 ∨ c = 2 ∨ c = 3 := by omega
    rcases this with rfl | rfl | rfl | rfl <;> decide
  · have h3 : c ≤ 2 := hc
    have : c = 0 ∨ c = 1 ∨ c = 2 := by omega
    rcases this with rfl | rfl | rfl <;> decide
  · have h3 : c ≤ 1 := hc
    have : c = 0 ∨ c = 1 := by omega
    rcases this with rfl | rfl <;> decide
  · have h3 : c ≤ 1 := hc
    have : c = 0 ∨ c = 1 := by omega
    rcases this with rfl | rfl <;> decide
/-- The bits of all groups: those of the first, of the next, the rest. -/
theorem txP_split (m : Int) (bs : List Int) {j n : Nat} (h : j < n) : ∃ r, txP m bs n = txP m bs j ++ (bitsOf (gnum m (grp (gsz m) bs j)) (wid m (grp (gsz m) bs j).length) ++ r) := by
  induction n with
  | zero => omega
  | succ n ih =>
    by_cases e : j = n
    · subst e; exact ⟨[], by rw [txP_succ, List.append_nil]⟩
    · obtain ⟨r, hr⟩ := ih (by omega)
      exact ⟨r ++ bitsOf (gnum m (grp (gsz m) bs n)) (wid m (grp (gsz m) bs n).length), by rw [txP_succ, hr]; simp only [List.append_assoc]⟩
theorem drop_len {α : Type} (xs ys : List α) {n : Nat} (h : xs.length = n) : (xs ++ ys).drop n = ys := by subst h; simp
theorem take_len {α : Type} (xs ys : List α) {n : Nat} (h : xs.length = n) : (xs ++ ys).take n = xs := by subst h; simp

section
variable {zs bs : List Int} {m : Int}
theorem back_m (hv : segB m bs = true) (r : List Int) : rdM0 (zs ++ (segBits m bs ++ r)) zs.length = m := by
  obtain ⟨hm, _, _⟩ := seg_ok hv
  unfold rdM0
  rw [drop_len _ _ rfl, segBits, headB, List.append_assoc, List.append_assoc, take_len _ _ (bitsOf_len m 3)]
  exact numVal_bitsOf 3 m (by omega) (by show m < 8; omega)
theorem back_n (hv : segB m bs = true) (r : List Int) : rdN0 (zs ++ (segBits m bs ++ r)) zs.length = bs.length := by
  obtain ⟨_, hl, _⟩ := seg_ok hv
  unfold rdN0
  rw [segBits, headB, List.append_assoc, List.append_assoc, ← List.append_assoc zs, drop_len _ _ (by rw [List.length_append, bitsOf_len]), take_len _ _ (bitsOf_len _ 8), numVal_bitsOf 8 _ (by omega) (by show (bs.length : Int) < 256; omega)]
  exact Int.toNat_natCast _
theorem back_g (hv : segB m bs = true) (r : List Int) {j : Nat} (hj : j < gct (gsz m) bs.length) : gvN (zs ++ (segBits m bs ++ r)) (zs.length + 11) m bs.length j = (gnum m (grp (gsz m) bs j)).toNat := by
  obtain ⟨hm, hl, hall⟩ := seg_ok hv
  have hg := gsz_pos m
  have hjn := (gct_lt hg).1 hj
  have hjd : j ≤ bs.length / gsz m := (Nat.le_div_iff_mul_le (by omega)).2 (by omega)
  obtain ⟨r', hr⟩ := txP_split m bs hj
  have hlen : glN m bs.length j = (grp (gsz m) bs j).length := by rw [grp_len]; rfl
  have hgl : (grp (gsz m) bs j).length ≤ gsz m := by rw [grp_len]; omega
  obtain ⟨h1, h2⟩ := gnum_nat (g := grp (gsz m) bs j) fun x hx => all_mem hall (grp_mem hx)
  have h3 := glim_wid hm hgl
  unfold gvN gpN
  rw [hlen, segBits, hr, List.append_assoc (headB m bs.length), ← List.append_assoc zs, List.append_assoc (txP m bs j), ← List.append_assoc (zs ++ headB m bs.length), List.append_assoc (bitsOf _ _),
    drop_len _ _ (by rw [List.length_append, List.length_append, headB_len, rtxP_full m bs j hjd]), take_len _ _ (bitsOf_len _ _)]
  rw [h1, numVal_bitsOf _ _ (by omega) (by
    have : (2 : Int) ^ wid m (grp (gsz m) bs j).length = ((2 ^ wid m (grp (gsz m) bs j).length : Nat) : Int) := by simp
    rw [this]; omega)]
theorem back_t (hv : segB m bs = true) (r : List Int) : ∀ j, j ≤ gct (gsz m) bs.length → rdT (zs ++ (segBits m bs ++ r)) (zs.length + 11) m bs.length j = bs.take (j * gsz m) := by
  obtain ⟨hm, hl, hall⟩ := seg_ok hv
  intro j
  induction j with
  | zero => intro _; simp [rdT]
  | succ j ih =>
    intro hj
    have hlen : glN m bs.length j = (grp (gsz m) bs j).length := by rw [grp_len]; rfl
    rw [rdT, ih (by omega), back_g hv r (by omega), hlen, dgN_gnum _ _ rfl (fun x hx => all_mem hall (grp_mem hx)), grp, Nat.add_mul, Nat.one_mul, List.take_add]
theorem back_ok (hv : segB m bs = true) (r : List Int) : rdOk (zs ++ (segBits m bs ++ r)) (zs.length + 11) m bs.length (gct (gsz m) bs.length) := by
  obtain ⟨hm, hl, hall⟩ := seg_ok hv
  intro i hi
  have hlen : glN m bs.length i = (grp (gsz m) bs i).length := by rw [grp_len]; rfl
  rw [back_g hv r hi, hlen]
  exact (gnum_nat fun x hx => all_mem hall (grp_mem hx)).2
/-- A written segment reads back. -/
theorem read_back (hv : segB m bs = true) (r : List Int) : RdIs (zs ++ (segBits m bs ++ r)) zs.length ∧ rdM0 (zs ++ (segBits m bs ++ r)) zs.length = m ∧ rdN0 (zs ++ (segBits m bs ++ r)) zs.length = bs.length ∧ rdT (zs ++ (segBits m bs ++ r)) (zs.length + 11) m bs.length (gct (gsz m) bs.length) = bs := by
  obtain ⟨hm, hl, hall⟩ := seg_ok hv
  have h1 := back_m (zs := zs) hv r
  have h2 := back_n (zs := zs) hv r
  have hL : (zs ++ (segBits m bs ++ r)).length = zs.length + (slen m bs.length + r.length) := by rw [List.length_append, List.length_append, sgb_len]
  have hg := gsz_pos m
  have hgn : bs.length ≤ gct (gsz m) bs.length * gsz m := by
    rcases Nat.lt_or_ge (gct (gsz m) bs.length * gsz m) bs.length with h | h
    · have := (gct_lt hg).2 h; omega
    · exact h
  refine ⟨⟨?_, ?_, ?_, ?_, ?_, ?_⟩, h1, h2, ?_⟩
  · rw [hL]; unfold slen; omega
  · rw [h1]; exact hm.1
  · rw [h1]; exact hm.2
  · rw [h2]; exact hl.1
  · rw [h1, h2, hL]; omega
  · rw [h1, h2]; exact back_ok hv r
  · rw [back_t hv r _ (Nat.le_refl _)]; exact List.take_of_length_le hgn
end

theorem gnum_dgN {m : Int} (hm : 1 ≤ m ∧ m ≤ 4) : ∀ t v, v < gbase m ^ t → gnum m (dgN (gbase m) m v t) = (v : Int) := by
  intro t
  induction t with
  | zero => intro v hv; have : v = 0 := by simpa using hv
            subst this; rfl
  | succ t ih =>
    intro v hv
    have hb := gbase_pos m
    have h1 : v / gbase m < gbase m ^ t := (Nat.div_lt_iff_lt_mul (by omega)).2 (by rw [← Nat.pow_succ]; exact hv)
    have h2 := ih (v / gbase m) h1
    have h3 := cval_chr hm (v := v % gbase m) (Nat.mod_lt _ (by omega))
    unfold gnum at h2 ⊢
    rw [dgN_snoc, gnumB_snoc, h2, h3]
    have h4 := Nat.div_add_mod v (gbase m)
    rw [Nat.mul_comm] at h4
    have h5 : ((v / gbase m * gbase m + v % gbase m : Nat) : Int) = (v : Int) := by rw [h4]
    rw [← h5]; simp
theorem dgN_valid {m : Int} (hm : 1 ≤ m ∧ m ≤ 4) (v : Nat) : ∀ t, ∀ x ∈ dgN (gbase m) m v t, 0 ≤ cval m x := by
  intro t
  induction t with
  | zero => intro x hx; cases hx
  | succ t ih =>
    intro x hx
    rw [dgN] at hx
    rcases List.mem_cons.1 hx with rfl | h
    · rw [cval_chr hm (Nat.mod_lt _ (gbase_pos m))]; omega
    · exact ih x h
theorem rdT_valid {zs : List Int} {a n : Nat} {m : Int} (hm : 1 ≤ m ∧ m ≤ 4) : ∀ j, ∀ x ∈ rdT zs a m n j, 0 ≤ cval m x := by
  intro j
  induction j with
  | zero => intro x hx; cases hx
  | succ j ih =>
    intro x hx
    rw [rdT] at hx
    rcases List.mem_append.1 hx with h | h
    · exact ih x h
    · exact dgN_valid hm _ _ x h
theorem rdT_rest (zs : List Int) (a n : Nat) (m : Int) {j k : Nat} (h : j ≤ k) : ∃ r, rdT zs a m n k = rdT zs a m n j ++ r := by
  induction k with
  | zero => obtain rfl : j = 0 := by omega
            exact ⟨[], by simp⟩
  | succ k ih =>
    by_cases e : j = k + 1
    · subst e; exact ⟨[], by simp⟩
    · obtain ⟨r, hr⟩ := ih (by omega)
      exact ⟨r ++ dgN (gbase m) m (gvN zs a m n k) (glN m n k), by rw [rdT, hr, List.append_assoc]⟩
/-- The groups of the text that was read. -/
theorem rdT_grp (zs : List Int) (a n : Nat) (m : Int) {j : Nat} (hj : j < gct (gsz m) n) : grp (gsz m) (rdT zs a m n (gct (gsz m) n)) j = dgN (gbase m) m (gvN zs a m n j) (glN m n j) := by
  have hg := gsz_pos m
  have hjn := (gct_lt hg).1 hj
  have hl := rdT_len zs a m n j (by omega)
  rw [Nat.min_eq_left (by omega)] at hl
  unfold grp
  by_cases hf : j + 1 < gct (gsz m) n
  · obtain ⟨r, hr⟩ := rdT_rest zs a n m (show j + 1 ≤ gct (gsz m) n by omega)
    rw [hr, rdT, List.append_assoc, drop_len _ _ hl, take_len _ _ (by rw [dgN_len, glN_full hf])]
  · have he : gct (gsz m) n = j + 1 := by omega
    rw [he, rdT, drop_len _ _ hl]
    exact List.take_of_length_le (by rw [dgN_len]; unfold glN; omega)

/-- What was read, written again, gives the bits that were read. -/
theorem read_write {zs : List Int} {a : Nat} (hb : ∀ x ∈ zs, x = 0 ∨ x = 1) (h : RdIs zs a) {m : Int} {n : Nat} {bs : List Int} (hm0 : rdM0 zs a = m) (hn0 : rdN0 zs a = n) (hbs : rdT zs (a + 11) m n (gct (gsz m) n) = bs) :
    bs.length = n ∧ segB m bs = true ∧ segBits m bs = (zs.drop a).take (slen m n) := by
  obtain ⟨h1, h2, h3, h4, h5, h6⟩ := h
  rw [hm0] at h2 h3 h5 h6
  rw [hn0] at h4 h5 h6
  have hm : 1 ≤ m ∧ m ≤ 4 := ⟨h2, h3⟩
  have hg := gsz_pos m
  obtain ⟨q1, q2⟩ := num_nat hb (a + 3) 8
  have hn255 : n ≤ 255 := by
    unfold rdN0 at hn0
    rw [hn0] at q2; omega
  have hgn : n ≤ gct (gsz m) n * gsz m := by
    rcases Nat.lt_or_ge (gct (gsz m) n * gsz m) n with h | h
    · have := (gct_lt hg).2 h; omega
    · exact h
  have hl : bs.length = n := by rw [← hbs, rdT_len _ _ _ _ _ (Nat.le_refl _)]; omega
  have hv : segB m bs = true := by
    rw [seg_is hm (by omega)]
    unfold allV
    rw [List.all_eq_true]
    intro x hx
    rw [← hbs] at hx
    exact decide_eq_true (rdT_valid hm _ x hx)
  refine ⟨hl, hv, ?_⟩
  have htx : ∀ j, j ≤ gct (gsz m) n → txP m bs j = (zs.drop (a + 11)).take (if j < gct (gsz m) n then j * wid m (gsz m) else twid m n) := by
    intro j
    induction j with
    | zero =>
      intro _
      have : 0 < gct (gsz m) n := (gct_lt hg).2 (by omega)
      rw [if_pos this, txP_zero]; simp
    | succ j ih =>
      intro hj
      have hjl : j < gct (gsz m) n := by omega
      have hgr : grp (gsz m) bs j = dgN (gbase m) m (gvN zs (a + 11) m n j) (glN m n j) := by rw [← hbs]; exact rdT_grp zs (a + 11) n m hjl
      have hend := gp_end (m := m) hjl
      have hslen : slen m n = 11 + twid m n := rfl
      obtain ⟨e1, e2⟩ := num_nat hb (gpN m (a + 11) j) (wid m (glN m n j))
      have hlw : ((zs.drop (gpN m (a + 11) j)).take (wid m (glN m n j))).length = wid m (glN m n j) := by
        rw [List.length_take, List.length_drop]; unfold gpN; omega
      have hbv : bitsOf (gnum m (grp (gsz m) bs j)) (wid m (grp (gsz m) bs j).length) = (zs.drop (gpN m (a + 11) j)).take (wid m (glN m n j)) := by
        rw [hgr, dgN_len, gnum_dgN hm _ _ (h6 j hjl)]
        unfold gvN
        rw [← e1]
        exact bitsOf_numVal _ _ hlw (fun x hx => hb x (List.mem_of_mem_drop (List.mem_of_mem_take hx)))
      rw [txP_succ, ih (by omega), if_pos hjl, hbv]
      have hq : (if j + 1 < gct (gsz m) n then (j + 1) * wid m (gsz m) else twid m n) = j * wid m (gsz m) + wid m (glN m n j) := by
        by_cases hf : j + 1 < gct (gsz m) n
        · rw [if_pos hf, glN_full hf, Nat.add_mul, Nat.one_mul]
        · rw [if_neg hf, gp_last h4 (by omega)]
      rw [hq, List.take_add, List.drop_drop]
      unfold gpN; rfl
  have ht := htx _ (Nat.le_refl _)
  rw [if_neg (by omega)] at ht
  have hslen : slen m n = 3 + (8 + twid m n) := by unfold slen; omega
  unfold segBits headB
  rw [hl, ht, hslen, List.take_add, List.take_add, List.drop_drop, List.drop_drop]
  have hm3 : bitsOf m 3 = (zs.drop a).take 3 := by
    rw [← hm0]; unfold rdM0
    exact bitsOf_numVal 3 _ (by rw [List.length_take, List.length_drop]; omega) (fun x hx => hb x (List.mem_of_mem_drop (List.mem_of_mem_take hx)))
  have hn8 : bitsOf (n : Int) 8 = (zs.drop (a + 3)).take 8 := by
    rw [← hn0]; unfold rdN0
    rw [← q1]
    exact bitsOf_numVal 8 _ (by rw [List.length_take, List.length_drop]; omega) (fun x hx => hb x (List.mem_of_mem_drop (List.mem_of_mem_take hx)))
  rw [hm3, hn8, List.append_assoc]
end Go.Proofs.Ythmpfnbcodolcaa
