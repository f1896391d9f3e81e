/-
  FormatShare and NearestFormat of both copies: the share's number is that of one of both.
  Condition: none.
-/
import Derived.Test.YtkaconpbmppekaaWdKey
namespace Go.Proofs.Ytkaconpbmppekaa
open Go.RowKit
set_option linter.unusedSimpArgs false
set_option linter.unusedVariables false

theorem nf_key {D L P K : Nat} (hf : FcIs D L P K) (zs : List Int) (hzl : zs.length = L) (ho : okL L zs = true) (ht : zs.all isTri = true) :
    ∃ x m k : Int, V1 28 D L P zs (GivesIII x m k) ∧ V1 27 D L P zs (GivesIII x m k) ∧
      (dmgF D L P K zs < minD D L P K → k = 0 ∧ x = ((nearF D L P K zs).1 : Nat) ∧ m = ((nearF D L P K zs).2 : Nat)) := by
  by_cases hlt : dmgF D L P K zs < minD D L P K
  · refine ⟨(nearF D L P K zs).1, (nearF D L P K zs).2, 0, fun A n c B w hI hB => ?_, fun A n c B w hI hB => ?_, fun _ => ⟨rfl, rfl, rfl⟩⟩
    · obtain rfl : n = L := by rw [← hzl]; exact hI.len.symm
      have := specNf_ok hf A c B zs w hI hB ho
      rwa [if_pos hlt] at this
    · obtain rfl : n = L := by rw [← hzl]; exact hI.len.symm
      have := implNf_ok hf A c B zs w hI hB ho ht
      rwa [if_pos hlt] at this
  · refine ⟨0, 0, 7, fun A n c B w hI hB => ?_, fun A n c B w hI hB => ?_, fun h => absurd h hlt⟩
    · obtain rfl : n = L := by rw [← hzl]; exact hI.len.symm
      have := specNf_ok hf A c B zs w hI hB ho
      rwa [if_neg hlt] at this
    · obtain rfl : n = L := by rw [← hzl]; exact hI.len.symm
      have := implNf_ok hf A c B zs w hI hB ho ht
      rwa [if_neg hlt] at this
theorem sh_of (x1 d1 x2 d2 m : Nat) (h : shC d1 d2 m = 0) : (d1 < m ∧ shV x1 d1 x2 d2 m = x1) ∨ (d2 < m ∧ shV x1 d1 x2 d2 m = x2) := by
  unfold shC at h
  unfold shV
  by_cases h1 : d2 < d1
  · rw [if_pos h1] at h ⊢
    by_cases h2 : d2 < m
    · exact .inr ⟨h2, by rw [if_pos h2]⟩
    · rw [if_neg h2] at h; exact absurd h (by decide)
  · rw [if_neg h1] at h ⊢
    by_cases h2 : d1 < m
    · exact .inl ⟨h2, by rw [if_pos h2]⟩
    · rw [if_neg h2] at h; exact absurd h (by decide)
theorem fs_key (d l p : Int) (zs zs' : List Int) (hz : zs.length ≤ 1048576) (hz' : zs'.length ≤ 1048576) (hl : -9223372036854775808 ≤ l ∧ l ≤ 9223372036854775807) :
    ∃ a k x1 m1 k1 x2 m2 k2 : Int, V2 32 d l p zs zs' (GivesII a k) ∧ V2 30 d l p zs zs' (GivesII a k) ∧
      V1 27 d l p zs (GivesIII x1 m1 k1) ∧ V1 27 d l p zs' (GivesIII x2 m2 k2) ∧ (k ≠ 0 ∨ (k = 0 ∧ ((k1 = 0 ∧ a = x1) ∨ (k2 = 0 ∧ a = x2)))) := by
  obtain ⟨x1, m1, k1, _, h1⟩ := nf_both d l p zs hz hl
  obtain ⟨x2, m2, k2, _, h2⟩ := nf_both d l p zs' hz' hl
  rcases fs_cases d l p zs zs' with h | ⟨D, L, P, K, rfl, rfl, rfl, hf, ho⟩ | ⟨D, L, P, K, rfl, rfl, rfl, hf, hzl, ht, ho, hzl', ht', ho'⟩
  · exact ⟨0, 1, x1, m1, k1, x2, m2, k2, fun A n c A' n' c' B w hI hI' hB => specFs_bad d l p hl.1 h A n c A' n' c' w, fun A n c A' n' c' B w hI hI' hB => implFs_bad d l p h A n c A' n' c' w, h1, h2, .inl (by decide)⟩
  · refine ⟨0, 2, x1, m1, k1, x2, m2, k2, fun A n c A' n' c' B w hI hI' hB => ?_, fun A n c A' n' c' B w hI hI' hB => implFs_out hf A n c A' n' c' B zs zs' w hI hI' hB (by have := hI.len; omega) (by have := hI'.len; omega) ho, h1, h2, .inl (by decide)⟩
    rcases h1 : okL L zs with _ | _
    · exact specFs_out1 hf A n c A' n' c' B zs zs' w hI hI' hB (by have := hI.len; omega) (by have := hI'.len; omega) h1
    · rw [h1, Bool.true_and] at ho
      exact specFs_out2 hf A n c A' n' c' B zs zs' w hI hI' hB (by have := hI.len; omega) (by have := hI'.len; omega) h1 ho
  · clear h1 h2
    obtain ⟨x1, m1, k1, _, h1, hv1⟩ := nf_key hf zs hzl ho ht
    obtain ⟨x2, m2, k2, _, h2, hv2⟩ := nf_key hf zs' hzl' ho' ht'
    refine ⟨(shV (nearF D L P K zs).1 (dmgF D L P K zs) (nearF D L P K zs').1 (dmgF D L P K zs') (minD D L P K) : Nat), shC (dmgF D L P K zs) (dmgF D L P K zs') (minD D L P K), x1, m1, k1, x2, m2, k2, fun A n c A' n' c' B w hI hI' hB => ?_, fun A n c A' n' c' B w hI hI' hB => ?_, h1, h2, ?_⟩
    · obtain rfl : n = L := by rw [← hzl]; exact hI.len.symm
      obtain rfl : n' = n := by rw [← hzl']; exact hI'.len.symm
      exact specFs_ok hf A c A' c' B zs zs' w hI hI' hB ho ho'
    · obtain rfl : n = L := by rw [← hzl]; exact hI.len.symm
      obtain rfl : n' = n := by rw [← hzl']; exact hI'.len.symm
      exact implFs_ok hf A c A' c' B zs zs' w hI hI' hB ho ht ho' ht'
    · by_cases hk : shC (dmgF D L P K zs) (dmgF D L P K zs') (minD D L P K) = 0
      · refine .inr ⟨hk, ?_⟩
        rcases sh_of (nearF D L P K zs).1 _ (nearF D L P K zs').1 _ _ hk with ⟨hlt, he⟩ | ⟨hlt, he⟩
        · exact .inl ⟨(hv1 hlt).1, by rw [he]; exact (hv1 hlt).2.1.symm⟩
        · exact .inr ⟨(hv2 hlt).1, by rw [he]; exact (hv2 hlt).2.1.symm⟩
      · exact .inl hk
end Go.Proofs.Ytkaconpbmppekaa
