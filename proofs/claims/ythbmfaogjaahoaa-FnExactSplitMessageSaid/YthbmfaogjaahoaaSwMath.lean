/-
  Plain mathematics of segmentations: none is shorter than the best one; the best of a part, of two parts.
  No condition.
-/
import Derived.Test.YthbmfaogjaahoaaQC
import Derived.Test.YthbmfaogjaahoaaPG
namespace Go.Proofs.Ythbmfaogjaahoaa
open Go Go.RowKit
set_option linter.unusedSimpArgs false
set_option linter.unusedVariables false

theorem bytesI_app (a b : ByteArray) : bytesI (a ++ b) = bytesI a ++ bytesI b := by unfold bytesI; simp
theorem rch_of {m : Int} {l : List Int} {k : Nat} (h1 : k ≤ 255) (h2 : k ≤ l.length) (h : ∀ j x, j < k → l[j]? = some x → 0 ≤ cval m x) : k ≤ rch m l := (rch_iff m l k h1 h2).2 h
theorem rch_at {m : Int} {l : List Int} {k : Nat} (h : k ≤ rch m l) {j : Nat} {x : Int} (hj : j < k) (hx : l[j]? = some x) : 0 ≤ cval m x := by
  have := rch_le m l
  exact (rch_iff m l k (by omega) (by omega)).1 h j x hj hx

/-- The joined text goes on behind its first texts. -/
theorem jn_rest (T : Nat → ByteArray) {k n : Nat} (h : k ≤ n) : ∃ r, bytesI (jn T n) = bytesI (jn T k) ++ r := by
  induction n with
  | zero => obtain rfl : k = 0 := by omega
            exact ⟨[], by simp⟩
  | succ n ih =>
    by_cases e : k = n + 1
    · subst e; exact ⟨[], by simp⟩
    · obtain ⟨r, hr⟩ := ih (by omega)
      exact ⟨r ++ bytesI (T n), by rw [jn, bytesI_app, hr, List.append_assoc]⟩
/-- No segmentation of a text is shorter than the best one. -/
theorem seg_opt {M : Nat → Int} {T : Nat → ByteArray} {n : Nat} (ha : slAll M T n) : ∀ d k, k + d = n → (tabT (bytesI (jn T n)) (jn T k).size).l + slP M T k ≤ slP M T n := by
  intro d
  induction d with
  | zero =>
    intro k hk
    obtain rfl : k = n := by omega
    rw [tabT_end (by rw [bytesI_len]; omega)]
    show 0 + _ ≤ _; omega
  | succ d ih =>
    intro k hk
    have h1 := ih (k + 1) (by omega)
    obtain ⟨⟨hm1, hm4⟩, ⟨hl1, hl2⟩, hv⟩ := seg_ok (ha k (by omega))
    rw [bytesI_len] at hl1 hl2
    obtain ⟨r, hr⟩ := jn_rest T (show k + 1 ≤ n by omega)
    rw [jn, bytesI_app] at hr
    have hdrop : (bytesI (jn T n)).drop (jn T k).size = bytesI (T k) ++ r := by
      rw [hr, List.append_assoc, List.drop_append_of_le_length (by rw [bytesI_len]; omega), List.drop_of_length_le (by rw [bytesI_len]; omega), List.nil_append]
    have hreach : (T k).size ≤ rch (M k) ((bytesI (jn T n)).drop (jn T k).size) := by
      rw [hdrop]
      refine rch_of hl2 (by rw [List.length_append, bytesI_len]; omega) fun j x hj hx => ?_
      rw [List.getElem?_append_left (by rw [bytesI_len]; exact hj)] at hx
      exact all_at hv hx
    have hM : (((M k).toNat : Nat) : Int) = M k := by omega
    have h2 := tab_min (bs := bytesI (jn T n)) (i := (jn T k).size) (m := (M k).toNat) (k := (T k).size) (by omega) (by omega) hl1 (by rw [hM]; exact hreach)
    rw [hM, ← jn_size] at h2
    rw [slP] at h1
    omega
theorem isg_is {M : Nat → Int} {T : Nat → ByteArray} {n : Nat} {s : ByteArray} (h : isgB M T n s = true) : slCode M T n = 0 ∧ slAll M T n ∧ slOf M T n = ((slP M T n : Nat) : Int) ∧ jn T n = s ∧ s.size ≤ 400 := by
  unfold isgB at h
  simp only [Bool.and_eq_true, decide_eq_true_eq, beq_iff_eq] at h
  obtain ⟨h1, h2⟩ := h
  rw [Go.ByteArray.toList_eq, Go.ByteArray.toList_eq] at h2
  have h3 : jsOf M T n = s := ByteArray.ext (Array.toList_inj.1 h2)
  rcases sl_cases M T n with h | h | ⟨h, h4, hall⟩
  · exfalso
    have := (js_bad (M := M) (T := T) (n := n) (by rw [h]; decide)).1
    rw [h1, h] at this; cases this
  · exfalso
    have := (js_bad (M := M) (T := T) (n := n) (by rw [h]; decide)).1
    rw [h1, h] at this; cases this
  · by_cases hl : 400 < (jn T n).size
    · exfalso
      have := (js_long h hl).1
      rw [h1] at this; cases this
    · have h5 := (js_ok h hl).2
      rw [h3] at h5
      exact ⟨h, hall, (sl_ok h4 hall).2, h5.symm, by rw [h5]; omega⟩
theorem isg_best {M : Nat → Int} {T : Nat → ByteArray} {n : Nat} {s : ByteArray} (h : isgB M T n s = true) : slCode M T n = 0 ∧ lbCode s = 0 ∧ blOf s ≤ slOf M T n := by
  obtain ⟨h1, h2, h3, h4, h5⟩ := isg_is h
  refine ⟨h1, by rw [lbCode, if_pos h5], ?_⟩
  have h6 := seg_opt h2 n 0 (by omega)
  rw [h4] at h6
  have h7 : (tabT (bytesI s) 0).l + 0 ≤ slP M T n := h6
  rw [blOf, if_pos h5, h3]
  have h8 : tabN (bytesI s) s.size = tabT (bytesI s) := by unfold tabT; rw [bytesI_len]
  rw [h8]; omega
end Go.Proofs.Ythbmfaogjaahoaa
