/-
  The functions of chapter 5, of the model and of the program, side by side, whatever the arguments.
  Condition: lists shorter than 2^20; the numbers are int64s.
-/
import Derived.Test.YtpheembgjdgniaaDBoth3
namespace Go.Proofs.Ytpheembgjdgniaa
open Go.RowKit

theorem nv_mid {J : List Nat} (h : J.length ≤ 1048576) : (nv J).length ≤ 1099511627776 := by rw [nv_len]; omega
section
variable (p k g L C : Int) (z z' z'' : List Int)
theorem loc_both (hz : z.length ≤ 1048576) (hC : -9223372036854775808 ≤ C ∧ C ≤ 9223372036854775807) : ∃ (r : List Int) (cd : Int), r.length ≤ 1099511627776 ∧ D1 27 p k g L C z (NewIK r cd) ∧ D1 26 p k g L C z (NewIK r cd) := by
  rcases h : codeB p k g L C with _ | _
  · obtain ⟨h1, h2⟩ := loc_bad1 p k g L C z hz hC h
    exact ⟨[], 1, by simp, h1, h2⟩
  · obtain ⟨R, γ, l, c, rfl, rfl, hc⟩ := codeB_open h
    rcases hi : idxB l z with _ | _
    · obtain ⟨h1, h2⟩ := loc_bad2 hc z hz hi
      exact ⟨[], 5, by simp, h1, h2⟩
    · obtain ⟨J, rfl, hJ⟩ := idx_open hi
      obtain ⟨h1, h2⟩ := loc_val hc J hJ hz
      exact ⟨_, 0, iv_mid (by rw [locJ_len hc.far]; have := hJ.len; have := hc.l255; omega), h1, h2⟩
theorem ind_both (hz : z.length ≤ 1048576) (hC : -9223372036854775808 ≤ C ∧ C ≤ 9223372036854775807) : ∃ (r : List Int) (cd : Int), r.length ≤ 1099511627776 ∧ D1 34 p k g L C z (NewIK r cd) ∧ D1 28 p k g L C z (NewIK r cd) := by
  rcases h : codeB p k g L C with _ | _
  · obtain ⟨h1, h2⟩ := ind_bad1 p k g L C z hz hC h
    exact ⟨[], 1, by simp, h1, h2⟩
  · obtain ⟨R, γ, l, c, rfl, rfl, hc⟩ := codeB_open h
    rcases hp : polyB R.q z with _ | _
    · obtain ⟨h1, h2⟩ := ind_bad2 hc z hz hp
      exact ⟨[], 2, by simp, h1, h2⟩
    · obtain ⟨ps, rfl, ht, hl⟩ := poly_open hp
      obtain ⟨h1, h2⟩ := ind_val hc ps ht hl
      refine ⟨_, _, nv_mid ?_, h1, h2⟩
      have := (hits_idx γ l ps).len
      have := hc.l255
      unfold locJ; split
      · omega
      · simp
theorem val_both (hz : z.length ≤ 1048576) (hz' : z'.length ≤ 1048576) (hC : -9223372036854775808 ≤ C ∧ C ≤ 9223372036854775807) : ∃ (r : List Int) (cd : Int), r.length ≤ 1099511627776 ∧ D2 23 p k g L C z z' (NewIK r cd) ∧ D2 22 p k g L C z z' (NewIK r cd) := by
  rcases h : codeB p k g L C with _ | _
  · obtain ⟨h1, h2⟩ := val_bad1 p k g L C z z' hz hz' hC h
    exact ⟨[], 1, by simp, h1, h2⟩
  · obtain ⟨R, γ, l, c, rfl, rfl, hc⟩ := codeB_open h
    rcases hw : wordB R.q (c : Int) z with _ | _
    · obtain ⟨h1, h2⟩ := val_bad2 hc z' hz' z hz hw
      exact ⟨[], 2, by simp, h1, h2⟩
    · obtain ⟨S, rfl, hS⟩ := word_open hw
      rcases hi : idxB l z' with _ | _
      · obtain ⟨h1, h2⟩ := val_bad3 hc z' hz' S hS hz hi
        exact ⟨[], 5, by simp, h1, h2⟩
      · obtain ⟨J, rfl, hJ⟩ := idx_open hi
        rcases Nat.lt_or_ge c J.length with hlt | hlt
        · obtain ⟨h1, h2⟩ := val_bad4 hc J hJ hz' S hS hz hlt
          exact ⟨[], 3, by simp, h1, h2⟩
        · obtain ⟨h1, h2⟩ := val_val hc J hJ hz' S hS hz hlt
          refine ⟨_, _, iv_mid ?_, h1, h2⟩
          have := hJ.len
          have := hc.l255
          unfold fvs; split
          · rw [List.length_map]; omega
          · simp
theorem cor_both (hz : z.length ≤ 1048576) (hz' : z'.length ≤ 1048576) (hC : -9223372036854775808 ≤ C ∧ C ≤ 9223372036854775807) : ∃ (r s : List Int) (cd : Int), r.length ≤ 1048576 ∧ s.length ≤ 1048576 ∧ D2 35 p k g L C z z' (NewIIK r s cd) ∧ D2 19 p k g L C z z' (NewIIK r s cd) := by
  rcases xErr_cases p k g L C z' [z] with ⟨cd, h, hne⟩ | ⟨_, R, γ, l, c, E, rfl, rfl, hc, rfl, hE, hw⟩
  · obtain ⟨h1, h2⟩ := cor_bad p k g L C z z' cd hz hz' hC h hne
    exact ⟨[], [], cd, by simp, by simp, h1, h2⟩
  · obtain ⟨ws, rfl, hl⟩ := hw z (List.mem_singleton.2 rfl)
    by_cases ho : ∃ cz, Okw γ l c E ws cz
    · obtain ⟨cz, ho⟩ := ho
      obtain ⟨h1, h2⟩ := cor_yes hc ws hl E hE hz hz' cz ho
      have h3 : (difs ws cz).length ≤ ws.length := difN_len ws cz ws.length
      have := hc.l255
      refine ⟨_, _, 0, (by rw [iv_len, ho.1]; omega), (by rw [nv_len]; omega), h1, h2⟩
    · obtain ⟨h1, h2⟩ := cor_no hc ws hl E hE hz hz' (fun cz h => ho ⟨cz, h⟩)
      exact ⟨[], [], 7, by simp, by simp, h1, h2⟩
theorem isc_both (hz : z.length ≤ 1048576) (hz' : z'.length ≤ 1048576) (hC : -9223372036854775808 ≤ C ∧ C ≤ 9223372036854775807) : ∃ b : Bool, D2 36 p k g L C z z' (Gives (.bool b)) ∧ D2 37 p k g L C z z' (Gives (.bool b)) := by
  obtain ⟨r, s, cd, _, _, h1, h2⟩ := cor_both p k g L C z z' hz hz' hC
  exact ⟨_, isc_spec h1, isc_impl h2⟩
theorem dmg_both (hz : z.length ≤ 1048576) (hz' : z'.length ≤ 1048576) (hz'' : z''.length ≤ 1048576) (hC : -9223372036854775808 ≤ C ∧ C ≤ 9223372036854775807) : ∃ v cd : Int, D3 15 p k g L C z z' z'' (GivesII v cd) ∧ D3 14 p k g L C z z' z'' (GivesII v cd) := by
  rcases xErr_cases p k g L C z'' [z, z'] with ⟨cd, h, hne⟩ | ⟨_, R, γ, l, c, E, rfl, rfl, hc, rfl, hE, hw⟩
  · exact ⟨0, cd, dmg_bad p k g L C z z' z'' cd hz hz' hz'' hC h hne⟩
  · obtain ⟨ws, rfl, hl⟩ := hw z (by simp)
    obtain ⟨ss, rfl, hs⟩ := hw z' (by simp)
    exact ⟨_, 0, dmg_val hc ws ss hl hs E hE hz hz' hz''⟩
end
end Go.Proofs.Ytpheembgjdgniaa
