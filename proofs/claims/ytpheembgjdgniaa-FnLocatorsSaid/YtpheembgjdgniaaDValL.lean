/-
  What LocatorOf returns, as the law FnLocators wants it: an error, or a polynomial out of which IndicesOf finds the indices again.
  Condition: a list shorter than 2^20; the numbers are int64s.
-/
import Derived.Test.YtpheembgjdgniaaDBoth2
namespace Go.Proofs.Ytpheembgjdgniaa
open Go.RowKit
theorem loc_key (p k g L C : Int) (z : List Int) (hz : z.length ≤ 1048576) (hC : -9223372036854775808 ≤ C ∧ C ≤ 9223372036854775807) : ∃ (r : List Int) (cd : Int), r.length ≤ 1048576 ∧ D1 27 p k g L C z (NewIK r cd) ∧ D1 26 p k g L C z (NewIK r cd) ∧
    ((cd != 0) = true ∨ (cd = 0 ∧ r.length = z.length + 1 ∧ D1 28 p k g L C r (NewIK z 0))) := by
  rcases h : codeB p k g L C with _ | _
  · obtain ⟨h1, h2⟩ := loc_bad1 p k g L C z hz hC h
    exact ⟨[], 1, by simp, h1, h2, .inl rfl⟩
  · obtain ⟨R, γ, l, c, rfl, rfl, hc⟩ := codeB_open h
    rcases hi : idxB l z with _ | _
    · obtain ⟨h1, h2⟩ := loc_bad2 hc z hz hi
      exact ⟨[], 5, by simp, h1, h2, .inl rfl⟩
    · obtain ⟨J, rfl, hJ⟩ := idx_open hi
      obtain ⟨h1, h2⟩ := loc_val hc J hJ hz
      have hll := locJ_len hc.far l J
      have hJl := hJ.len
      have hl255 := hc.l255
      have hv := (ind_val hc (locP (locs γ l J)) (tr_loc (locs_ne hc.far J)) (by rw [hll]; omega)).2
      have hb := locB_locs hc.far hJ
      rw [show locJ γ l (locP (locs γ l J)) = J by rw [locJ, if_pos hb, hits_locs hc.far hJ], hb] at hv
      exact ⟨_, 0, by rw [iv_len, hll]; omega, h1, h2, .inr ⟨rfl, by rw [iv_len, hll, nv_len], hv⟩⟩
end Go.Proofs.Ytpheembgjdgniaa
