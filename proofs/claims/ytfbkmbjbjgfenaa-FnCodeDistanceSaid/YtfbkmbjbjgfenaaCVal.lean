/-
  What EncodeWord, AddWords, GeneratorOf and IsCodeWord return, as the laws of chapter 4 want it: an error, or a word of a valid code.
  Condition: lists shorter than 2^20; the numbers are int64s.
-/
import Derived.Test.YtfbkmbjbjgfenaaCBoth3
namespace Go.Proofs.Ytfbkmbjbjgfenaa
open Go.RowKit
section
variable (p k g L C : Int) (z z' : List Int)
theorem iv_mid' {R : Fld} {ps : List (El R)} (h : ps.length ≤ 1048576) : (iv ps).length ≤ 1048576 := by rw [iv_len]; exact h
theorem enc_key (hz : z.length ≤ 1048576) (hC : -9223372036854775808 ≤ C ∧ C ≤ 9223372036854775807) : ∃ (r : List Int) (cd : Int), r.length ≤ 1048576 ∧ D1 19 p k g L C z (NewIK r cd) ∧ D1 18 p k g L C z (NewIK r cd) ∧
    ((cd != 0) = true ∨ (cd = 0 ∧ ∃ (R : Fld) (γ : El R) (l c : Nat) (ms : List (El R)), L = l ∧ C = c ∧ CodeIs R γ p k g l c ∧ z = iv ms ∧ ms.length = l - c ∧ r = iv (encW γ c ms))) := by
  rcases h : codeB p k g L C with _ | _
  · obtain ⟨h1, h2⟩ := enc_bad1 p k g L C z hz hC h
    exact ⟨[], 1, by simp, h1, h2, .inl rfl⟩
  · obtain ⟨R, γ, l, c, rfl, rfl, hc⟩ := codeB_open h
    rcases hw : wordB R.q ((l - c : Nat) : Int) z with _ | _
    · obtain ⟨h1, h2⟩ := enc_bad2 hc z hz hw
      exact ⟨[], 2, by simp, h1, h2, .inl rfl⟩
    · obtain ⟨ms, rfl, hm⟩ := word_open hw
      obtain ⟨h1, h2⟩ := enc_val hc ms hz hm
      exact ⟨_, 0, iv_mid' (by rw [enc_len]; have := hc.c64; have := hc.l255; omega), h1, h2, .inr ⟨rfl, R, γ, l, c, ms, rfl, rfl, hc, rfl, hm, rfl⟩⟩
theorem addw_key (hz : z.length ≤ 1048576) (hz' : z'.length ≤ 1048576) (hC : -9223372036854775808 ≤ C ∧ C ≤ 9223372036854775807) : ∃ (r : List Int) (cd : Int), r.length ≤ 1048576 ∧ D2 28 p k g L C z z' (NewIK r cd) ∧ D2 27 p k g L C z z' (NewIK r cd) ∧
    ((cd != 0) = true ∨ (cd = 0 ∧ ∃ (R : Fld) (γ : El R) (l c : Nat) (a b : List (El R)), L = l ∧ C = c ∧ CodeIs R γ p k g l c ∧ z = iv a ∧ z' = iv b ∧ a.length = l ∧ b.length = l ∧ r = iv (addW a b))) := by
  rcases wErr_ne (p := p) (k := k) (g := g) (L := L) (C := C) (Z := [z, z']) with ⟨cd, h, hne⟩ | ⟨h, R, γ, l, c, rfl, rfl, hc, hw⟩
  · obtain ⟨h1, h2⟩ := addw_bad p k g L C z z' cd hz hz' hC h hne
    exact ⟨[], cd, by simp, h1, h2, .inl hne⟩
  · obtain ⟨a, rfl, ha⟩ := hw z (by simp)
    obtain ⟨b, rfl, hb⟩ := hw z' (by simp)
    exact ⟨_, 0, iv_mid' (by rw [addW_len]; have := hc.l255; omega), addw_spec hc a b ha hb, addw_impl hc a b ha hb, .inr ⟨rfl, R, γ, l, c, a, b, rfl, rfl, hc, rfl, rfl, ha, hb, rfl⟩⟩
theorem gen_key (hz : z.length ≤ 1048576) (hC : -9223372036854775808 ≤ C ∧ C ≤ 9223372036854775807) : ∃ (r : List Int) (cd : Int) (b : Bool), r.length ≤ 1048576 ∧ D0 37 p k g L C (NewIK r cd) ∧ D0 36 p k g L C (NewIK r cd) ∧
    D1 38 p k g L C z (Gives (.bool b)) ∧ D1 25 p k g L C z (Gives (.bool b)) ∧
    ((cd != 0) = true ∨ (cd = 0 ∧ ∃ (R : Fld) (γ : El R) (l c : Nat), L = l ∧ C = c ∧ CodeIs R γ p k g l c ∧ r = iv (genP γ c) ∧ (b = false ∨ (b = true ∧ ∃ ws : List (El R), z = iv ws ∧ ws.length = l ∧ isCW γ c ws = true)))) := by
  rcases h : codeB p k g L C with _ | _
  · obtain ⟨h1, h2⟩ := gen_bad p k g L C hC h
    obtain ⟨h3, h4⟩ := isw_bad1 p k g L C z hz hC h
    exact ⟨[], 1, false, by simp, h1, h2, h3, h4, .inl rfl⟩
  · obtain ⟨R, γ, l, c, rfl, rfl, hc⟩ := codeB_open h
    obtain ⟨h1, h2⟩ := gen_val hc
    rcases hw : wordB R.q (l : Int) z with _ | _
    · obtain ⟨h3, h4⟩ := isw_bad2 hc z hz hw
      exact ⟨_, 0, false, iv_mid' (by rw [gen_len]; have := hc.c64; omega), h1, h2, h3, h4, .inr ⟨rfl, R, γ, l, c, rfl, rfl, hc, rfl, .inl rfl⟩⟩
    · obtain ⟨ws, rfl, hl⟩ := word_open hw
      obtain ⟨h3, h4⟩ := isw_val hc ws hz hl
      refine ⟨_, 0, isCW γ c ws, iv_mid' (by rw [gen_len]; have := hc.c64; omega), h1, h2, h3, h4, .inr ⟨rfl, R, γ, l, c, rfl, rfl, hc, rfl, ?_⟩⟩
      rcases hb : isCW γ c ws with _ | _
      · exact .inl rfl
      · exact .inr ⟨rfl, ws, rfl, hl, hb⟩
end
end Go.Proofs.Ytfbkmbjbjgfenaa
