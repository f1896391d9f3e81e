/-
  What ErrorValues returns, as the law FnErrorValues wants it: an error, or values whose word has the given syndromes.
  Condition: lists shorter than 2^20; the numbers are int64s.
-/
import Derived.Test.YtpheembgjdgniaaDBoth2
import Derived.Test.YtpheembgjdgniaaCHalf
namespace Go.Proofs.Ytpheembgjdgniaa
open Go.RowKit
theorem val_key (p k g L C : Int) (z z' : List Int) (hz : z.length ≤ 1048576) (hz' : z'.length ≤ 1048576) (hC : -9223372036854775808 ≤ C ∧ C ≤ 9223372036854775807) : ∃ (r : List Int) (cd : Int), r.length ≤ 1048576 ∧ D2 23 p k g L C z z' (NewIK r cd) ∧ D2 22 p k g L C z z' (NewIK r cd) ∧
    ((cd != 0) = true ∨ (cd = 0 ∧ ∃ (R : Fld) (γ : El R) (l c : Nat) (J : List Nat) (f : Nat → El R), L = l ∧ C = c ∧ CodeIs R γ p k g l c ∧ z' = nv J ∧ Idx l J ∧ r = iv (J.map f) ∧ D1 24 p k g l c (iv (spread l J f)) (NewIK z 0))) := by
  rcases h : codeB p k g L C with _ | _
  · obtain ⟨h1, h2⟩ := val_bad1 p k g L C z z' hz hz' hC h
    exact ⟨[], 1, by simp, h1, h2, .inl rfl⟩
  · obtain ⟨R, γ, l, c, rfl, rfl, hc⟩ := codeB_open h
    rcases hw : wordB R.q (c : Int) z with _ | _
    · obtain ⟨h1, h2⟩ := val_bad2 hc z' hz' z hz hw
      exact ⟨[], 2, by simp, h1, h2, .inl rfl⟩
    · obtain ⟨S, rfl, hS⟩ := word_open hw
      rcases hi : idxB l z' with _ | _
      · obtain ⟨h1, h2⟩ := val_bad3 hc z' hz' S hS hz hi
        exact ⟨[], 5, by simp, h1, h2, .inl rfl⟩
      · obtain ⟨J, rfl, hJ⟩ := idx_open hi
        rcases Nat.lt_or_ge c J.length with hlt | hlt
        · obtain ⟨h1, h2⟩ := val_bad4 hc J hJ hz' S hS hz hlt
          exact ⟨[], 3, by simp, h1, h2, .inl rfl⟩
        · obtain ⟨h1, h2⟩ := val_val hc J hJ hz' S hS hz hlt
          have hJl := hJ.len
          have hl255 := hc.l255
          rcases hv : valB γ l c S J with _ | _
          · rw [hv, fvs_no hv] at h1 h2
            exact ⟨_, 7, by simp [iv], h1, h2, .inl rfl⟩
          · have hf : fvs (numE hc.fld) γ l c S J = J.map (fvI (numE hc.fld) γ l c S J) := by rw [fvs, if_pos hv]
            rw [hv, hf] at h1 h2
            have hb := val_back (num := numE hc.fld) hc.far (num_zero hc.fld) (num_succ hc.fld) hJ hlt hS hv
            have hs := syn_valI hc (spread l J (fvI (numE hc.fld) γ l c S J)) (by rw [iv_len, spread_len]; omega) (spread_len _ _ _)
            rw [hb] at hs
            exact ⟨_, 0, by rw [iv_len, List.length_map]; omega, h1, h2, .inr ⟨rfl, R, γ, l, c, J, _, rfl, rfl, hc, rfl, hJ, rfl, hs⟩⟩
end Go.Proofs.Ytpheembgjdgniaa
