/-
  What CorrectWord returns, as the law FnCorrected wants it: an error, or a code word within the bound.
  Condition: lists shorter than 2^20; the numbers are int64s.
-/
import Derived.Test.YtpheembgjdgniaaGreatDHalf
import Derived.Test.YtpheembgjdgniaaGreatCHalf
namespace Go.Proofs.YtpheembgjdgniaaGreat
open Go.RowKit
theorem cor_key (p k g L C : Int) (z z' : List Int) (hz : z.length ≤ 1048576) (hz' : z'.length ≤ 1048576) (hC : -9223372036854775808 ≤ C ∧ C ≤ 9223372036854775807) : ∃ (r s : List Int) (cd : Int), r.length ≤ 1048576 ∧ s.length ≤ 1048576 ∧ D2 7 p k g L C z z' (NewIIK r s cd) ∧ D2 6 p k g L C z z' (NewIIK r s cd) ∧
    D2 9 p k g L C z z' (Gives (.bool (decide (cd = 0)))) ∧
    ((cd != 0) = true ∨ (cd = 0 ∧ ∃ n : Nat, (n : Int) ≤ C ∧ n ≤ 100000 ∧ D3 10 p k g L C z r z' (GivesII n 0) ∧ D1 11 p k g L C r (Gives (.bool true)))) := by
  rcases xErr_cases p k g L C z' [z] with ⟨cd, h, hne⟩ | ⟨_, R, γ, l, c, E, rfl, rfl, hc, rfl, hE, hw⟩
  · obtain ⟨h1, h2⟩ := cor_bad p k g L C z z' cd hz hz' hC h hne
    exact ⟨[], [], cd, by simp, by simp, h1, h2, isc_impl h2, .inl hne⟩
  · obtain ⟨ws, rfl, hl⟩ := hw z (List.mem_singleton.2 rfl)
    by_cases ho : ∃ cz, Okw γ l c E ws cz
    · obtain ⟨cz, ho⟩ := ho
      obtain ⟨h1, h2⟩ := cor_yes hc ws hl E hE hz hz' cz ho
      have h3 : (difs ws cz).length ≤ ws.length := difN_len ws cz ws.length
      have := hc.l255
      have hcz : (iv cz).length ≤ 1048576 := by rw [iv_len, ho.1]; omega
      have hb := ho.2.2
      have hcl := hc.cl
      have hw := isw_valI hc cz hcz ho.1
      rw [ho.2.1] at hw
      exact ⟨_, _, 0, hcz, (by rw [nv_len]; omega), h1, h2, isc_impl h2, .inr ⟨rfl, E.length + 2 * (errs l E ws cz).length, by omega, by omega, dmg_valI hc ws cz hl ho.1 E hE hz hcz hz', hw⟩⟩
    · obtain ⟨h1, h2⟩ := cor_no hc ws hl E hE hz hz' (fun cz h => ho ⟨cz, h⟩)
      exact ⟨[], [], 7, by simp, by simp, h1, h2, isc_impl h2, .inl rfl⟩
end Go.Proofs.YtpheembgjdgniaaGreat
