/-
  Plain mathematics of a written message: the bits of the best segments, and how many they are.
  No condition.
-/
import Derived.Test.YtdccofbfdlebgaaDpB
import Derived.Test.YtdccofbfdlebgaaSgBits
import Derived.Test.YtdccofbfdlebgaaSg5
namespace Go.Proofs.Ytdccofbfdlebgaa
open Go Go.RowKit
set_option linter.unusedSimpArgs false
set_option linter.unusedVariables false

theorem bytesI_ext (s : ByteArray) {a b : Nat} (hb : b ≤ s.size) : bytesI (s.extract a b) = ((bytesI s).drop a).take (b - a) := by
  obtain ⟨d⟩ := s
  have hd : (ByteArray.mk d).size = d.size := rfl
  rw [hd] at hb
  have h : (ByteArray.extract ⟨d⟩ a b).data = d.extract a b := by
    rw [ByteArray.data_extract]
  unfold bytesI
  rw [h, Array.toList_extract, List.extract_eq_take_drop, List.map_take, List.map_drop]

/-- How many bits the groups of a text take. -/
theorem txP_full (m : Int) (bs : List Int) : ∀ j, j ≤ bs.length / gsz m → (txP m bs j).length = j * wid m (gsz m) := by
  intro j
  induction j with
  | zero => intro _; simp [txP_zero]
  | succ j ih =>
    intro h
    have hg := gsz_pos m
    have h1 : (j + 1) * gsz m ≤ bs.length := Nat.le_trans (Nat.mul_le_mul_right _ h) (Nat.div_mul_le_self _ _)
    rw [Nat.add_mul, Nat.one_mul] at h1
    rw [txP_succ, List.length_append, bitsOf_len, ih (by omega), grp_len, Nat.min_eq_left (by omega), Nat.add_mul, Nat.one_mul]
theorem txP_all (m : Int) (bs : List Int) : (txP m bs (gct (gsz m) bs.length)).length = twid m bs.length := by
  have hg := gsz_pos m
  obtain ⟨G, hG⟩ : ∃ G, gsz m = G := ⟨_, rfl⟩
  have hf := txP_full m bs (bs.length / gsz m) (Nat.le_refl _)
  unfold twid
  rw [hG] at hf hg ⊢
  have hdm := Nat.div_add_mod bs.length G
  have hml := Nat.mod_lt bs.length (show 0 < G by omega)
  obtain ⟨q, hq⟩ : ∃ q, bs.length / G = q := ⟨_, rfl⟩
  obtain ⟨r, hr⟩ : ∃ r, bs.length % G = r := ⟨_, rfl⟩
  rw [hq] at hf hdm ⊢
  rw [hr] at hdm hml ⊢
  rw [Nat.mul_comm] at hdm
  by_cases h0 : r = 0
  · subst h0
    have : gct G bs.length = q := by
      refine (gct_end hg ?_ (by omega)).symm
      rcases Nat.lt_or_ge (gct G bs.length) q with h | h
      · have h2 := (gct_lt hg (n := bs.length) (j := gct G bs.length)).2 (by
          have := Nat.mul_le_mul_right G (show gct G bs.length + 1 ≤ q by omega)
          rw [Nat.add_mul] at this; omega)
        omega
      · exact h
    rw [this, hf]; simp [wid]
  · have : gct G bs.length = q + 1 := by
      refine (gct_end hg ?_ (by rw [Nat.add_mul]; omega)).symm
      exact (gct_lt hg).2 (by omega)
    rw [this, txP_succ, List.length_append, hf, bitsOf_len, hG, grp_len, Nat.min_eq_right (by omega), show bs.length - q * G = r by omega]
theorem segBits_len (m : Int) (bs : List Int) : (segBits m bs).length = slen m bs.length := by rw [segBits, List.length_append, headB_len, txP_all, slen]

/-- The bits of the first segments of the best segmentation. -/
def wmP (s : ByteArray) : Nat → List Int
  | 0 => []
  | k + 1 => wmP s k ++ segBits (sgM s k) (bytesI (sgT s k))
theorem sgT_bytes (s : ByteArray) {k : Nat} (hk : k < sgN s) : bytesI (sgT s k) = ((bytesI s).drop (pos (bsT s) k)).take (bsT s (pos (bsT s) k)).s := by
  have h := saysS s ((pos_ltS s (Nat.le_of_lt hk)).2 hk)
  unfold sgT
  rw [bytesI_ext s (by rw [pos]; exact h.2.2.1), pos, Nat.add_sub_cancel_left]
theorem sgT_len (s : ByteArray) {k : Nat} (hk : k < sgN s) : (bytesI (sgT s k)).length = (bsT s (pos (bsT s) k)).s := by
  have h := saysS s ((pos_ltS s (Nat.le_of_lt hk)).2 hk)
  rw [sgT_bytes s hk, List.length_take, List.length_drop, bytesI_len]; omega
/-- Each of them is valid. -/
theorem sg_valid (s : ByteArray) {k : Nat} (hk : k < sgN s) : segB (sgM s k) (bytesI (sgT s k)) = true := by
  have hp := (pos_ltS s (Nat.le_of_lt hk)).2 hk
  obtain ⟨h1, h2, h3, h4, h5, h6, _⟩ := tab_says (bs := bytesI s) (i := pos (bsT s) k) (by rw [bytesI_len]; exact hp) (bytes_in s)
  have hl := sgT_len s hk
  have hl2 : (bytesI (sgT s k)).length = (tabT (bytesI s) (pos (bsT s) k)).s := hl
  have hbt : bsT s = tabT (bytesI s) := rfl
  rw [seg_is (m := sgM s k) (show 1 ≤ (((tabT (bytesI s) (pos (bsT s) k)).m : Nat) : Int) ∧ (((tabT (bytesI s) (pos (bsT s) k)).m : Nat) : Int) ≤ 4 by omega) (by rw [hl2]; omega)]
  unfold allV
  rw [List.all_eq_true]
  intro x hx
  have hx2 := hx
  rw [sgT_bytes s hk] at hx2
  obtain ⟨j, hj⟩ := List.getElem?_of_mem hx2
  have hjl : j < (bsT s (pos (bsT s) k)).s := by
    have := (List.getElem?_eq_some_iff.1 hj).1
    rw [List.length_take] at this; omega
  rw [List.getElem?_take, if_pos hjl] at hj
  have hr := (rch_iff ((tabT (bytesI s) (pos (bsT s) k)).m : Int) ((bytesI s).drop (pos (bsT s) k)) (tabT (bytesI s) (pos (bsT s) k)).s h2 (by rw [List.length_drop]; omega)).1 h4 j x hjl hj
  exact decide_eq_true hr
theorem sgT_size (s : ByteArray) {k : Nat} (hk : k < sgN s) : 1 ≤ (sgT s k).size ∧ (sgT s k).size ≤ 255 := by
  have h := (seg_ok (sg_valid s hk)).2.1
  rw [bytesI_len] at h; exact h
/-- How many bits are still to come. -/
theorem wmP_len (s : ByteArray) : ∀ k, k ≤ sgN s → (wmP s k).length + (bsT s (pos (bsT s) k)).l = (bsT s 0).l := by
  intro k
  induction k with
  | zero => intro _; simp [wmP, pos]
  | succ k ih =>
    intro hk
    have h1 := ih (by omega)
    have hp := (pos_ltS s (k := k) (by omega)).2 (by omega)
    obtain ⟨_, _, _, _, _, _, _, h8⟩ := tab_says (bs := bytesI s) (i := pos (bsT s) k) (by rw [bytesI_len]; exact hp) (bytes_in s)
    have h9 : (bsT s (pos (bsT s) k)).l = slen (sgM s k) (bsT s (pos (bsT s) k)).s + (bsT s (pos (bsT s) k + (bsT s (pos (bsT s) k)).s)).l := h8
    rw [wmP, List.length_append, segBits_len, sgT_len s (by omega), pos]
    omega
theorem wmP_all (s : ByteArray) : (wmP s (sgN s)).length = (bsT s 0).l := by
  have h := wmP_len s (sgN s) (Nat.le_refl _)
  have h1 : s.size ≤ pos (bsT s) (sgN s) := by
    rcases Nat.lt_or_ge (pos (bsT s) (sgN s)) s.size with h | h
    · exact absurd ((pos_ltS s (Nat.le_refl _)).1 h) (by omega)
    · exact h
  have h2 : bsT s (pos (bsT s) (sgN s)) = zc := tabT_end (by rw [bytesI_len]; exact h1)
  rw [h2] at h
  have h3 : zc.l = 0 := rfl
  omega
/-- The numbers of the whole table are small. -/
theorem bsT_l (s : ByteArray) (hs : s.size ≤ 400) : (bsT s 0).l ≤ 1130800 := by
  have h := (ok_tab (bytesI s) (bytesI s).length 0).2.1
  rw [bytesI_len] at h
  have h2 : (bsT s 0).l ≤ 2827 * (s.size - 0) := by unfold bsT tabT; rw [bytesI_len]; exact h
  omega

/-- What WriteMessage gives. -/
def wmCode (zs : List Int) (s : ByteArray) : Int := if isBits zs then (if s.size ≤ 400 then (if zs.length + (bsT s 0).l ≤ 8192 then 0 else 3) else 3) else 1
def wmOf (zs : List Int) (s : ByteArray) : List Int := if wmCode zs s = 0 then zs ++ wmP s (sgN s) else []
theorem wm_bad {zs : List Int} (h : isBits zs = false) (s : ByteArray) : wmCode zs s = 1 ∧ wmOf zs s = [] := by
  have : wmCode zs s = 1 := by simp [wmCode, h]
  exact ⟨this, by rw [wmOf, this]; rfl⟩
theorem wm_big {zs : List Int} (h : isBits zs = true) {s : ByteArray} (hs : ¬ s.size ≤ 400) : wmCode zs s = 3 ∧ wmOf zs s = [] := by
  have : wmCode zs s = 3 := by simp [wmCode, h, hs]
  exact ⟨this, by rw [wmOf, this]; rfl⟩
theorem wm_long {zs : List Int} (h : isBits zs = true) {s : ByteArray} (hs : s.size ≤ 400) (hl : 8192 < zs.length + (bsT s 0).l) : wmCode zs s = 3 ∧ wmOf zs s = [] := by
  have : wmCode zs s = 3 := by rw [wmCode, if_pos h, if_pos hs, if_neg (by omega)]
  exact ⟨this, by rw [wmOf, this]; rfl⟩
theorem wm_ok {zs : List Int} (h : isBits zs = true) {s : ByteArray} (hs : s.size ≤ 400) (hl : zs.length + (bsT s 0).l ≤ 8192) : wmCode zs s = 0 ∧ wmOf zs s = zs ++ wmP s (sgN s) := by
  have : wmCode zs s = 0 := by rw [wmCode, if_pos h, if_pos hs, if_pos hl]
  exact ⟨this, by rw [wmOf, if_pos this]⟩
theorem wmOf_len (zs : List Int) (s : ByteArray) : (wmOf zs s).length ≤ 1099511627776 := by
  rcases hb : isBits zs with _ | _
  · rw [(wm_bad hb s).2]; simp
  · by_cases hs : s.size ≤ 400
    · by_cases hl : zs.length + (bsT s 0).l ≤ 8192
      · rw [(wm_ok hb hs hl).2, List.length_append, wmP_all]; omega
      · rw [(wm_long hb hs (by omega)).2]; simp
    · rw [(wm_big hb hs).2]; simp
end Go.Proofs.Ytdccofbfdlebgaa
