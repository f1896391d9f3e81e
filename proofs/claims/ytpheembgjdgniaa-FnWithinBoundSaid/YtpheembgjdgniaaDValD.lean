/-
  What DamageOf returns, as the law FnWithinBound wants it: an error, or whether the sent word is a code word; and that a word within the bound is corrected.
  Condition: lists shorter than 2^20; the numbers are int64s.
-/
import Derived.Test.YtpheembgjdgniaaDBoth3
import Derived.Test.YtpheembgjdgniaaCHalf
import Derived.Test.YtpheembgjdgniaaDDamage
namespace Go.Proofs.Ytpheembgjdgniaa
open Go.RowKit
theorem dmg_key (p k g L C : Int) (z z' z'' : List Int) (hz : z.length ≤ 1048576) (hz' : z'.length ≤ 1048576) (hz'' : z''.length ≤ 1048576) (hC : -9223372036854775808 ≤ C ∧ C ≤ 9223372036854775807) : ∃ v cd : Int, D3 15 p k g L C z z' z'' (GivesII v cd) ∧ D3 14 p k g L C z z' z'' (GivesII v cd) ∧
    ((cd != 0) = true ∨ (cd = 0 ∧ ∃ b : Bool, D1 16 p k g L C z' (Gives (.bool b)) ∧
      (b = false ∨ (b = true ∧ ∃ (R : Fld) (γ : El R) (l c : Nat) (E : List Nat) (ss : List (El R)), L = l ∧ C = c ∧ CodeIs R γ p k g l c ∧ z' = iv ss ∧ z'' = nv E ∧ Idx l E ∧ ss.length = l ∧ isCW γ c ss = true)))) := by
  rcases xErr_cases p k g L C z'' [z, z'] with ⟨cd, h, hne⟩ | ⟨_, R, γ, l, c, E, rfl, rfl, hc, rfl, hE, hw⟩
  · obtain ⟨h1, h2⟩ := dmg_bad p k g L C z z' z'' cd hz hz' hz'' hC h hne
    exact ⟨0, cd, h1, h2, .inl hne⟩
  · obtain ⟨ws, rfl, hl⟩ := hw z (by simp)
    obtain ⟨ss, rfl, hs⟩ := hw z' (by simp)
    obtain ⟨h1, h2⟩ := dmg_val hc ws ss hl hs E hE hz hz' hz''
    have hi := isw_valS hc ss hz' hs
    rcases hb : isCW γ c ss with _ | _
    · rw [hb] at hi
      exact ⟨_, 0, h1, h2, .inr ⟨rfl, false, hi, .inl rfl⟩⟩
    · rw [hb] at hi
      exact ⟨_, 0, h1, h2, .inr ⟨rfl, true, hi, .inr ⟨rfl, R, γ, l, c, E, ss, rfl, rfl, hc, rfl, rfl, hE, hs, hb⟩⟩⟩
/-- What CorrectWord returns of a word that was damaged within the bound. -/
theorem hurt_key {R : Fld} {γ : El R} {p k g : Int} {l c : Nat} (hc : CodeIs R γ p k g l c) (E : List Nat) (hE : Idx l E) (ss : List (El R)) (hs : ss.length = l) (hcw : isCW γ c ss = true) (H : List (El R)) (hH : H.length = l) (hd : E.length ≤ c → 2 * (errs l E H ss).length + E.length ≤ c) :
    ∃ (r s : List Int) (cd : Int), r.length ≤ 1048576 ∧ D2 19 p k g l c (iv H) (nv E) (NewIIK r s cd) ∧ ((c < E.length ∧ cd = 7) ∨ (E.length ≤ c ∧ cd = 0 ∧ r = iv ss)) := by
  have hl255 := hc.l255
  have hEl := hE.len
  have hz : (iv H).length ≤ 1048576 := by rw [iv_len]; omega
  have hz' : (nv E).length ≤ 1048576 := by rw [nv_len]; omega
  rcases Nat.lt_or_ge c E.length with h | h
  · exact ⟨[], [], 7, by simp, (cor_no hc H hH E hE hz hz' (fun cz ho => by have := ho.2.2; omega)).2, .inl ⟨h, rfl⟩⟩
  · exact ⟨_, _, 0, by rw [iv_len]; omega, (cor_yes hc H hH E hE hz hz' ss ⟨hs, hcw, hd h⟩).2, .inr ⟨h, rfl, rfl⟩⟩
end Go.Proofs.Ytpheembgjdgniaa
