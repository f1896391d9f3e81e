/-
  Plain mathematics of segmentations: none is shorter than the best one; the best of a part, of two parts.
  Plain mathematics of the best segmentation: of two parts, of a part; it is no longer than the bound; it joins to its message.
  Condition: as each statement says.
-/
import Derived.Test.YthbmfaogjaahoaaQC
import Derived.Test.YthbmfaogjaahoaaPG
namespace Go.Proofs.Ythbmfaogjaahoaa
open Go Go.RowKit
set_option linter.unusedSimpArgs false
set_option linter.unusedVariables false

theorem bytesI_app (a b : ByteArray) : bytesI (a ++ b) = bytesI a ++ bytesI b := by unfold bytesI; simp
theorem rch_of {m : Int} {l : List Int} {k : Nat} (h1 : k ≤ 255) (h2 : k ≤ l.length) (h : ∀ j x, j < k → l[j]? = some x → 0 ≤ cval m x) : k ≤ rch m l := (rch_iff m l k h1 h2).2 h
theorem rch_at {m : Int} {l : List Int} {k : Nat} (h : k ≤ rch m l) {j : Nat} {x : Int} (hj : j < k) (hx : l[j]? = some x) : 0 ≤ cval m x := by
  have := rch_le m l
  exact (rch_iff m l k (by omega) (by omega)).1 h j x hj hx

/-- The joined text goes on behind its first texts. -/
theorem jn_rest (T : Nat → ByteArray) {k n : Nat} (h : k ≤ n) : ∃ r, bytesI (jn T n) = bytesI (jn T k) ++ r := by
  induction n with
  | zero => obtain rfl : k = 0 := by omega
            exact ⟨[], by simp⟩
  | succ n ih =>
    by_cases e : k = n + 1
    · subst e; exact ⟨[], by simp⟩
    · obtain ⟨r, hr⟩ := ih (by omega)
      exact ⟨r ++ bytesI (T n), by rw [jn, bytesI_app, hr, List.append_assoc]⟩
/-- No segmentation of a text is shorter than the best one. -/
theorem seg_opt {M : Nat → Int} {T : Nat → ByteArray} {n : Nat} (ha : slAll M T n) : ∀ d k, k + d = n → (tabT (bytesI (jn T n)) (jn T k).size).l + slP M T k ≤ slP M T n := by
  intro d
  induction d with
  | zero =>
    intro k hk
    obtain rfl : k = n := by omega
    rw [tabT_end (by rw [bytesI_len]; omega)]
    show 0 + _ ≤ _; omega
  | succ d ih =>
    intro k hk
    have h1 := ih (k + 1) (by omega)
    obtain ⟨⟨hm1, hm4⟩, ⟨hl1, hl2⟩, hv⟩ := seg_ok (ha k (by omega))
    rw [bytesI_len] at hl1 hl2
    obtain ⟨r, hr⟩ := jn_rest T (show k + 1 ≤ n by omega)
    rw [jn, bytesI_app] at hr
    have hdrop : (bytesI (jn T n)).drop (jn T k).size = bytesI (T k) ++ r := by
      rw [hr, List.append_assoc, List.drop_append_of_le_length (by rw [bytesI_len]; omega), List.drop_of_length_le (by rw [bytesI_len]; omega), List.nil_append]
    have hreach : (T k).size ≤ rch (M k) ((bytesI (jn T n)).drop (jn T k).size) := by
      rw [hdrop]
      refine rch_of hl2 (by rw [List.length_append, bytesI_len]; omega) fun j x hj hx => ?_
      rw [List.getElem?_append_left (by rw [bytesI_len]; exact hj)] at hx
      exact all_at hv hx
    have hM : (((M k).toNat : Nat) : Int) = M k := by omega
    have h2 := tab_min (bs := bytesI (jn T n)) (i := (jn T k).size) (m := (M k).toNat) (k := (T k).size) (by omega) (by omega) hl1 (by rw [hM]; exact hreach)
    rw [hM, ← jn_size] at h2
    rw [slP] at h1
    omega
theorem isg_is {M : Nat → Int} {T : Nat → ByteArray} {n : Nat} {s : ByteArray} (h : isgB M T n s = true) : slCode M T n = 0 ∧ slAll M T n ∧ slOf M T n = ((slP M T n : Nat) : Int) ∧ jn T n = s ∧ s.size ≤ 400 := by
  unfold isgB at h
  simp only [Bool.and_eq_true, decide_eq_true_eq, beq_iff_eq] at h
  obtain ⟨h1, h2⟩ := h
  rw [Go.ByteArray.toList_eq, Go.ByteArray.toList_eq] at h2
  have h3 : jsOf M T n = s := ByteArray.ext (Array.toList_inj.1 h2)
  rcases sl_cases M T n with h | h | ⟨h, h4, hall⟩
  · exfalso
    have := (js_bad (M := M) (T := T) (n := n) (by rw [h]; decide)).1
    rw [h1, h] at this; cases this
  · exfalso
    have := (js_bad (M := M) (T := T) (n := n) (by rw [h]; decide)).1
    rw [h1, h] at this; cases this
  · by_cases hl : 400 < (jn T n).size
    · exfalso
      have := (js_long h hl).1
      rw [h1] at this; cases this
    · have h5 := (js_ok h hl).2
      rw [h3] at h5
      exact ⟨h, hall, (sl_ok h4 hall).2, h5.symm, by rw [h5]; omega⟩
theorem isg_best {M : Nat → Int} {T : Nat → ByteArray} {n : Nat} {s : ByteArray} (h : isgB M T n s = true) : slCode M T n = 0 ∧ lbCode s = 0 ∧ blOf s ≤ slOf M T n := by
  obtain ⟨h1, h2, h3, h4, h5⟩ := isg_is h
  refine ⟨h1, by rw [lbCode, if_pos h5], ?_⟩
  have h6 := seg_opt h2 n 0 (by omega)
  rw [h4] at h6
  have h7 : (tabT (bytesI s) 0).l + 0 ≤ slP M T n := h6
  rw [blOf, if_pos h5, h3]
  have h8 : tabN (bytesI s) s.size = tabT (bytesI s) := by unfold tabT; rw [bytesI_len]
  rw [h8]; omega
end Go.Proofs.Ythbmfaogjaahoaa

namespace Go.Proofs.Ythbmfaogjaahoaa
open Go Go.RowKit
set_option linter.unusedSimpArgs false
set_option linter.unusedVariables false

theorem slen_mono {m : Int} (hm : 1 ≤ m ∧ m ≤ 4) {a b : Nat} (h : a ≤ b) : slen m a ≤ slen m b := by
  have h4 : m = 1 ∨ m = 2 ∨ m = 3 ∨ m = 4 := by omega
  unfold slen twid
  rcases h4 with rfl | rfl | rfl | rfl
  · have hg : gsz 1 = 3 := rfl
    rw [hg]
    have hw : ∀ r, r < 3 → wid 1 r ≤ 7 ∧ (r = 0 → wid 1 r = 0) ∧ (r = 1 → wid 1 r = 4) ∧ (r = 2 → wid 1 r = 7) := by
      intro r hr
      have : r = 0 ∨ r = 1 ∨ r = 2 := by omega
      rcases this with rfl | rfl | rfl <;> decide
    have h3 : wid 1 3 = 10 := rfl
    have ha := hw (a % 3) (Nat.mod_lt _ (by omega))
    have hb := hw (b % 3) (Nat.mod_lt _ (by omega))
    rw [h3]
    omega
  · have hg : gsz 2 = 2 := rfl
    rw [hg]
    have hw : ∀ r, r < 2 → (r = 0 → wid 2 r = 0) ∧ (r = 1 → wid 2 r = 6) := by
      intro r hr
      have : r = 0 ∨ r = 1 := by omega
      rcases this with rfl | rfl <;> decide
    have h3 : wid 2 2 = 11 := rfl
    have ha := hw (a % 2) (Nat.mod_lt _ (by omega))
    have hb := hw (b % 2) (Nat.mod_lt _ (by omega))
    rw [h3]
    omega
  · have hg : gsz 3 = 1 := rfl
    rw [hg, Nat.div_one, Nat.div_one, Nat.mod_one, Nat.mod_one]
    have := Nat.mul_le_mul_right (wid 3 1) h
    omega
  · have hg : gsz 4 = 1 := rfl
    rw [hg, Nat.div_one, Nat.div_one, Nat.mod_one, Nat.mod_one]
    have := Nat.mul_le_mul_right (wid 4 1) h
    omega

section
variable {xs ys : List Int}
/-- A cell of the table of ys lies, moved, in that of xs ++ ys. -/
theorem tab_shift (hx : ∀ x ∈ xs ++ ys, 0 ≤ x ∧ x ≤ 255) : ∀ d i, i + d = ys.length → (tabT (xs ++ ys) (xs.length + i)).l = (tabT ys i).l := by
  have hy : ∀ x ∈ ys, 0 ≤ x ∧ x ≤ 255 := fun x h => hx x (List.mem_append_right _ h)
  intro d
  induction d using Nat.strongRecOn with
  | ind d ih =>
    intro i hi
    by_cases h0 : d = 0
    · rw [tabT_end (by rw [List.length_append]; omega), tabT_end (by omega)]
    · have hd : (xs ++ ys).drop (xs.length + i) = ys.drop i := by rw [List.drop_append]; simp
      apply Nat.le_antisymm
      · obtain ⟨h1, h2, h3, h4, h5, h6, _, h8⟩ := tab_says (bs := ys) (i := i) (by omega) hy
        have h9 := tab_min (bs := xs ++ ys) (i := xs.length + i) h5 h6 h1 (by rw [hd]; exact h4)
        have h10 := ih (d - (tabT ys i).s) (by omega) (i + (tabT ys i).s) (by omega)
        rw [← Nat.add_assoc] at h10
        omega
      · obtain ⟨h1, h2, h3, h4, h5, h6, _, h8⟩ := tab_says (bs := xs ++ ys) (i := xs.length + i) (by rw [List.length_append]; omega) hx
        rw [hd] at h4
        rw [List.length_append] at h3
        have h9 := tab_min (bs := ys) (i := i) h5 h6 h1 h4
        have h10 := ih (d - (tabT (xs ++ ys) (xs.length + i)).s) (by omega) (i + (tabT (xs ++ ys) (xs.length + i)).s) (by omega)
        rw [← Nat.add_assoc] at h10
        omega
/-- Two parts together are not shorter than the whole. -/
theorem tab_join (hx : ∀ x ∈ xs ++ ys, 0 ≤ x ∧ x ≤ 255) : ∀ d i, i + d = xs.length → (tabT (xs ++ ys) i).l ≤ (tabT xs i).l + (tabT ys 0).l := by
  have hxs : ∀ x ∈ xs, 0 ≤ x ∧ x ≤ 255 := fun x h => hx x (List.mem_append_left _ h)
  intro d
  induction d using Nat.strongRecOn with
  | ind d ih =>
    intro i hi
    by_cases h0 : d = 0
    · obtain rfl : i = xs.length := by omega
      have := tab_shift hx ys.length 0 (by omega)
      rw [Nat.add_zero] at this
      omega
    · obtain ⟨h1, h2, h3, h4, h5, h6, _, h8⟩ := tab_says (bs := xs) (i := i) (by omega) hxs
      have h7 : (tabT xs i).s ≤ rch ((tabT xs i).m : Int) ((xs ++ ys).drop i) := by
        refine rch_of h2 (by rw [List.length_drop, List.length_append]; omega) fun j x hj hx' => ?_
        rw [List.drop_append_of_le_length (by omega), List.getElem?_append_left (by rw [List.length_drop]; omega)] at hx'
        exact rch_at h4 hj hx'
      have h9 := tab_min (bs := xs ++ ys) (i := i) h5 h6 h1 h7
      have h10 := ih (d - (tabT xs i).s) (by omega) (i + (tabT xs i).s) (by omega)
      omega
/-- A first part is not longer than the whole. -/
theorem tab_first (hx : ∀ x ∈ xs ++ ys, 0 ≤ x ∧ x ≤ 255) : ∀ d i, i + d = xs.length → (tabT xs i).l ≤ (tabT (xs ++ ys) i).l := by
  intro d
  induction d using Nat.strongRecOn with
  | ind d ih =>
    intro i hi
    by_cases h0 : d = 0
    · rw [tabT_end (bs := xs) (by omega)]; exact Nat.zero_le _
    · obtain ⟨h1, h2, h3, h4, h5, h6, _, h8⟩ := tab_says (bs := xs ++ ys) (i := i) (by rw [List.length_append]; omega) hx
      have hc : ∀ k, k ≤ (tabT (xs ++ ys) i).s → i + k ≤ xs.length → k ≤ rch ((tabT (xs ++ ys) i).m : Int) (xs.drop i) := by
        intro k hk hik
        refine rch_of (by omega) (by rw [List.length_drop]; omega) fun j x hj hx' => ?_
        refine rch_at h4 (show j < (tabT (xs ++ ys) i).s by omega) ?_
        rw [List.drop_append_of_le_length (by omega), List.getElem?_append_left (by rw [List.length_drop]; omega)]
        exact hx'
      by_cases hin : i + (tabT (xs ++ ys) i).s ≤ xs.length
      · have h9 := tab_min (bs := xs) (i := i) h5 h6 h1 (hc _ (Nat.le_refl _) hin)
        have h10 := ih (d - (tabT (xs ++ ys) i).s) (by omega) (i + (tabT (xs ++ ys) i).s) (by omega)
        omega
      · have h9 := tab_min (bs := xs) (i := i) (k := d) h5 h6 (by omega) (hc d (by omega) (by omega))
        rw [tabT_end (bs := xs) (i := i + d) (by omega)] at h9
        have h10 := slen_mono (m := ((tabT (xs ++ ys) i).m : Int)) (by omega) (show d ≤ (tabT (xs ++ ys) i).s by omega)
        have hz : zc.l = 0 := rfl
        omega
/-- A last part is not longer than the whole. -/
theorem tab_last (hx : ∀ x ∈ xs ++ ys, 0 ≤ x ∧ x ≤ 255) : ∀ d i, i + d = xs.length → (tabT ys 0).l ≤ (tabT (xs ++ ys) i).l := by
  intro d
  induction d using Nat.strongRecOn with
  | ind d ih =>
    intro i hi
    by_cases h0 : d = 0
    · obtain rfl : i = xs.length := by omega
      have := tab_shift hx ys.length 0 (by omega)
      rw [Nat.add_zero] at this
      omega
    · obtain ⟨h1, h2, h3, h4, h5, h6, _, h8⟩ := tab_says (bs := xs ++ ys) (i := i) (by rw [List.length_append]; omega) hx
      rw [List.length_append] at h3
      by_cases hin : i + (tabT (xs ++ ys) i).s ≤ xs.length
      · have h10 := ih (d - (tabT (xs ++ ys) i).s) (by omega) (i + (tabT (xs ++ ys) i).s) (by omega)
        omega
      · obtain ⟨k, hk⟩ : ∃ k, (tabT (xs ++ ys) i).s = d + k := ⟨(tabT (xs ++ ys) i).s - d, by omega⟩
        have hr : k ≤ rch ((tabT (xs ++ ys) i).m : Int) (ys.drop 0) := by
          refine rch_of (by omega) (by rw [List.length_drop]; omega) fun j x hj hx' => ?_
          refine rch_at h4 (show d + j < (tabT (xs ++ ys) i).s by omega) ?_
          rw [List.drop_append_of_le_length (by omega), List.getElem?_append_right (by rw [List.length_drop]; omega), List.length_drop, show d + j - (xs.length - i) = j by omega]
          simpa using hx'
        have h9 := tab_min (bs := ys) (i := 0) (k := k) h5 h6 (by omega) hr
        have h10 := tab_shift hx (ys.length - k) k (by omega)
        have h11 := slen_mono (m := ((tabT (xs ++ ys) i).m : Int)) (by omega) (show k ≤ (tabT (xs ++ ys) i).s by omega)
        rw [show i + (tabT (xs ++ ys) i).s = xs.length + k by omega] at h8
        rw [Nat.zero_add] at h9
        omega
end

/-- The best segments join to the message. -/
theorem jn_best (s : ByteArray) : ∀ k, k ≤ sgN s → jn (sgT s) k = s.extract 0 (pos (bsT s) k) := by
  intro k
  induction k with
  | zero => intro _; rw [jn, pos]; simp; rfl
  | succ k ih =>
    intro hk
    rw [jn, ih (by omega), sgT, ByteArray.extract_append_extract, Nat.min_eq_left (Nat.zero_le _), Nat.max_eq_right (by rw [pos]; omega)]
theorem pos_all (s : ByteArray) : pos (bsT s) (sgN s) = s.size := by
  have h1 := (pos_le (bs := bytesI s) (bytes_in s) (sgN s)).1
  rw [bytesI_len] at h1
  have h2 : s.size ≤ pos (bsT s) (sgN s) := by
    rcases Nat.lt_or_ge (pos (bsT s) (sgN s)) s.size with h | h
    · exact absurd ((pos_ltS s (Nat.le_refl _)).1 h) (by omega)
    · exact h
  exact Nat.le_antisymm h1 h2
theorem jn_all (s : ByteArray) : jn (sgT s) (sgN s) = s := by
  rw [jn_best s _ (Nat.le_refl _), pos_all]; simp
theorem sl_best (s : ByteArray) : ∀ k, k ≤ sgN s → slP (sgM s) (sgT s) k = (wmP s k).length := by
  intro k
  induction k with
  | zero => intro _; rfl
  | succ k ih =>
    intro hk
    rw [slP, wmP, List.length_append, segBits_len, ih (by omega), bytesI_len]

theorem bl_tab {s : ByteArray} (hs : s.size ≤ 400) : blOf s = (((tabT (bytesI s) 0).l : Nat) : Int) := by
  rw [blOf, if_pos hs]; unfold tabT; rw [bytesI_len]
/-- What SegmentsLength gives of the best segments. -/
theorem sl_of_best (s : ByteArray) (hs : s.size ≤ 400) : slCode (sgM s) (sgT s) (sgN s) = 0 ∧ slOf (sgM s) (sgT s) (sgN s) = blOf s := by
  have h1 := sgN_le s
  obtain ⟨h2, h3⟩ := sl_ok (M := sgM s) (T := sgT s) (n := sgN s) (by omega) (fun j hj => sg_valid s hj)
  refine ⟨h2, ?_⟩
  rw [h3, sl_best s _ (Nat.le_refl _), wmP_all, bl_tab hs]; rfl
theorem js_of_best (s : ByteArray) (hs : s.size ≤ 400) : jsCode (sgM s) (sgT s) (sgN s) = 0 ∧ jsOf (sgM s) (sgT s) (sgN s) = s ∧ isgB (sgM s) (sgT s) (sgN s) s = true := by
  obtain ⟨h1, h2⟩ := js_ok (sl_of_best s hs).1 (by rw [jn_all]; omega)
  rw [jn_all] at h2
  refine ⟨h1, h2, ?_⟩
  unfold isgB
  rw [h1, h2]; simp
theorem narrow_ok (s : ByteArray) : allV (narrow (bytesI s)) (bytesI s) = true ∧ 1 ≤ narrow (bytesI s) ∧ narrow (bytesI s) ≤ 4 := by
  unfold narrow
  rcases h1 : allV 1 (bytesI s) with _ | _
  · rcases h3 : allV 3 (bytesI s) with _ | _
    · rcases h2 : allV 2 (bytesI s) with _ | _
      · simp only [Bool.false_eq_true, if_false]
        refine ⟨?_, by omega, by omega⟩
        unfold allV
        rw [List.all_eq_true]
        intro b hb
        have := bytes_in s b hb
        rw [cval_byte this.1 this.2]
        simpa using this.1
      · exact ⟨by simpa using h2, by simp, by simp⟩
    · exact ⟨by simpa using h3, by simp, by simp⟩
  · exact ⟨by simpa using h1, by simp, by simp⟩
/-- The best segmentation is no longer than the bound. -/
theorem bl_lb (s : ByteArray) (hs : s.size ≤ 255) : blOf s ≤ lbOf s := by
  rw [bl_tab (by omega), lbOf, if_pos (by omega)]
  by_cases h0 : s.size = 0
  · rw [tabT_end (by rw [bytesI_len]; omega)]
    have : zc.l = 0 := rfl
    omega
  · obtain ⟨h1, h2, h3⟩ := narrow_ok s
    obtain ⟨m, hm⟩ : ∃ m, narrow (bytesI s) = m := ⟨_, rfl⟩
    rw [hm] at h1 h2 h3 ⊢
    have hM : ((m.toNat : Nat) : Int) = m := by omega
    have hr : s.size ≤ rch m ((bytesI s).drop 0) := rch_of hs (by rw [List.length_drop, bytesI_len]; omega) fun j x hj hx => all_at h1 (by simpa using hx)
    have h4 := tab_min (bs := bytesI s) (i := 0) (m := m.toNat) (k := s.size) (by omega) (by omega) (by omega) (by rw [hM]; exact hr)
    rw [hM, tabT_end (i := 0 + s.size) (by rw [bytesI_len]; omega)] at h4
    have hz : zc.l = 0 := rfl
    rw [lbd, if_neg h0, if_pos hs]
    omega
/-- The best of two parts of a message. -/
theorem bl_parts (s : ByteArray) (hs : s.size ≤ 400) {k : Nat} (hk : k ≤ s.size) :
    lbCode (s.extract 0 k) = 0 ∧ lbCode (s.extract k s.size) = 0 ∧ blOf s ≤ blOf (s.extract 0 k) + blOf (s.extract k s.size) ∧ blOf (s.extract 0 k) ≤ blOf s ∧ blOf (s.extract k s.size) ≤ blOf s := by
  have ha : (s.extract 0 k).size = k := by rw [ByteArray.size_extract]; omega
  have hb : (s.extract k s.size).size = s.size - k := by rw [ByteArray.size_extract]; omega
  have hj : bytesI s = bytesI (s.extract 0 k) ++ bytesI (s.extract k s.size) := by
    rw [bytesI_ext s hk, bytesI_ext s (Nat.le_refl _), Nat.sub_zero, List.drop_zero]
    conv => lhs; rw [← List.take_append_drop k (bytesI s)]
    congr 1
    rw [List.take_of_length_le (by rw [List.length_drop, bytesI_len]; omega)]
  have hx : ∀ x ∈ bytesI (s.extract 0 k) ++ bytesI (s.extract k s.size), 0 ≤ x ∧ x ≤ 255 := by rw [← hj]; exact bytes_in s
  have h1 := tab_join hx (bytesI (s.extract 0 k)).length 0 (by omega)
  have h2 := tab_first hx (bytesI (s.extract 0 k)).length 0 (by omega)
  have h3 := tab_last hx (bytesI (s.extract 0 k)).length 0 (by omega)
  rw [← hj] at h1 h2 h3
  rw [bl_tab hs, bl_tab (by omega), bl_tab (by omega)]
  refine ⟨by rw [lbCode, if_pos (by omega)], by rw [lbCode, if_pos (by omega)], by omega, by omega, by omega⟩
end Go.Proofs.Ythbmfaogjaahoaa
