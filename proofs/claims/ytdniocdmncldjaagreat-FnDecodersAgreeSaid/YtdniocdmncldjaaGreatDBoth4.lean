/-
  The functions of chapter 5, of the model and of the program, side by side, whatever the arguments.
  Condition: lists shorter than 2^20; the numbers are int64s.
-/
import Derived.Test.YtdniocdmncldjaaGreatDBoth3
namespace Go.Proofs.YtdniocdmncldjaaGreat
open Go.RowKit

theorem nv_mid {J : List Nat} (h : J.length ≤ 1048576) : (nv J).length ≤ 1099511627776 := by rw [nv_len]; omega
section
variable (p k g L C : Int) (z z' z'' : List Int)
theorem cor_both (hz : z.length ≤ 1048576) (hz' : z'.length ≤ 1048576) (hC : -9223372036854775808 ≤ C ∧ C ≤ 9223372036854775807) : ∃ (r s : List Int) (cd : Int), r.length ≤ 1048576 ∧ s.length ≤ 1048576 ∧ D2 27 p k g L C z z' (NewIIK r s cd) ∧ D2 8 p k g L C z z' (NewIIK r s cd) := by
  rcases xErr_cases p k g L C z' [z] with ⟨cd, h, hne⟩ | ⟨_, R, γ, l, c, E, rfl, rfl, hc, rfl, hE, hw⟩
  · obtain ⟨h1, h2⟩ := cor_bad p k g L C z z' cd hz hz' hC h hne
    exact ⟨[], [], cd, by simp, by simp, h1, h2⟩
  · obtain ⟨ws, rfl, hl⟩ := hw z (List.mem_singleton.2 rfl)
    by_cases ho : ∃ cz, Okw γ l c E ws cz
    · obtain ⟨cz, ho⟩ := ho
      obtain ⟨h1, h2⟩ := cor_yes hc ws hl E hE hz hz' cz ho
      have h3 : (difs ws cz).length ≤ ws.length := difN_len ws cz ws.length
      have := hc.l255
      refine ⟨_, _, 0, (by rw [iv_len, ho.1]; omega), (by rw [nv_len]; omega), h1, h2⟩
    · obtain ⟨h1, h2⟩ := cor_no hc ws hl E hE hz hz' (fun cz h => ho ⟨cz, h⟩)
      exact ⟨[], [], 7, by simp, by simp, h1, h2⟩
end
end Go.Proofs.YtdniocdmncldjaaGreat
