/-
  The functions of chapter 4, of the model and of the program, side by side, whatever the arguments.
  Condition: lists shorter than 2^20; the numbers are int64s.
-/
import Derived.Test.YtfbkmbjbjgfenaaCBoth3
namespace Go.Proofs.Ytfbkmbjbjgfenaa
open Go.RowKit

theorem iv_mid {R : Fld} {ps : List (El R)} (h : ps.length ≤ 1048576) : (iv ps).length ≤ 1099511627776 := by rw [iv_len]; omega
section
variable (p k g L C : Int) (z z' : List Int)
theorem isCode_both (hC : -9223372036854775808 ≤ C ∧ C ≤ 9223372036854775807) : ∃ b : Bool, D0 22 p k g L C (Gives (.bool b)) ∧ D0 21 p k g L C (Gives (.bool b)) :=
  ⟨_, fun w => specIsCode p k g L C w hC, fun w => implIsCode p k g L C w⟩
theorem gen_both (hC : -9223372036854775808 ≤ C ∧ C ≤ 9223372036854775807) : ∃ (r : List Int) (cd : Int), r.length ≤ 1099511627776 ∧ D0 37 p k g L C (NewIK r cd) ∧ D0 36 p k g L C (NewIK r cd) := by
  rcases h : codeB p k g L C with _ | _
  · obtain ⟨h1, h2⟩ := gen_bad p k g L C hC h
    exact ⟨[], 1, by simp, h1, h2⟩
  · obtain ⟨R, γ, l, c, rfl, rfl, hc⟩ := codeB_open h
    obtain ⟨h1, h2⟩ := gen_val hc
    exact ⟨_, 0, iv_mid (by rw [gen_len]; have := hc.c64; omega), h1, h2⟩
theorem enc_both (hz : z.length ≤ 1048576) (hC : -9223372036854775808 ≤ C ∧ C ≤ 9223372036854775807) : ∃ (r : List Int) (cd : Int), r.length ≤ 1099511627776 ∧ D1 19 p k g L C z (NewIK r cd) ∧ D1 18 p k g L C z (NewIK r cd) := by
  rcases h : codeB p k g L C with _ | _
  · obtain ⟨h1, h2⟩ := enc_bad1 p k g L C z hz hC h
    exact ⟨[], 1, by simp, h1, h2⟩
  · obtain ⟨R, γ, l, c, rfl, rfl, hc⟩ := codeB_open h
    rcases hw : wordB R.q ((l - c : Nat) : Int) z with _ | _
    · obtain ⟨h1, h2⟩ := enc_bad2 hc z hz hw
      exact ⟨[], 2, by simp, h1, h2⟩
    · obtain ⟨ms, rfl, hm⟩ := word_open hw
      obtain ⟨h1, h2⟩ := enc_val hc ms hz hm
      exact ⟨_, 0, iv_mid (by rw [enc_len]; have := hc.c64; have := hc.l255; omega), h1, h2⟩
theorem isw_both (hz : z.length ≤ 1048576) (hC : -9223372036854775808 ≤ C ∧ C ≤ 9223372036854775807) : ∃ b : Bool, D1 38 p k g L C z (Gives (.bool b)) ∧ D1 25 p k g L C z (Gives (.bool b)) := by
  rcases h : codeB p k g L C with _ | _
  · exact ⟨_, isw_bad1 p k g L C z hz hC h⟩
  · obtain ⟨R, γ, l, c, rfl, rfl, hc⟩ := codeB_open h
    rcases hw : wordB R.q (l : Int) z with _ | _
    · exact ⟨_, isw_bad2 hc z hz hw⟩
    · obtain ⟨ws, rfl, hl⟩ := word_open hw
      exact ⟨_, isw_val hc ws hz hl⟩
theorem syn_both (hz : z.length ≤ 1048576) (hC : -9223372036854775808 ≤ C ∧ C ≤ 9223372036854775807) : ∃ (r : List Int) (cd : Int), r.length ≤ 1099511627776 ∧ D1 45 p k g L C z (NewIK r cd) ∧ D1 24 p k g L C z (NewIK r cd) := by
  rcases wErr_ne (p := p) (k := k) (g := g) (L := L) (C := C) (Z := [z]) with ⟨cd, h, hne⟩ | ⟨h, R, γ, l, c, rfl, rfl, hc, hw⟩
  · obtain ⟨h1, h2⟩ := syn_bad p k g L C z cd hz hC h hne
    exact ⟨[], cd, by simp, h1, h2⟩
  · obtain ⟨ws, rfl, hl⟩ := hw z (List.mem_singleton.2 rfl)
    obtain ⟨h1, h2⟩ := syn_val hc ws hz hl
    exact ⟨_, 0, iv_mid (by rw [syn_len]; have := hc.c64; omega), h1, h2⟩
theorem msg_both (hz : z.length ≤ 1048576) (hC : -9223372036854775808 ≤ C ∧ C ≤ 9223372036854775807) : ∃ (r : List Int) (cd : Int), r.length ≤ 1099511627776 ∧ D1 46 p k g L C z (NewIK r cd) ∧ D1 23 p k g L C z (NewIK r cd) := by
  rcases wErr_ne (p := p) (k := k) (g := g) (L := L) (C := C) (Z := [z]) with ⟨cd, h, hne⟩ | ⟨h, R, γ, l, c, rfl, rfl, hc, hw⟩
  · obtain ⟨h1, h2⟩ := msg_bad p k g L C z cd hz hC h hne
    exact ⟨[], cd, by simp, h1, h2⟩
  · obtain ⟨ws, rfl, hl⟩ := hw z (List.mem_singleton.2 rfl)
    obtain ⟨h1, h2⟩ := msg_val hc ws hz hl
    exact ⟨_, 0, iv_mid (by rw [List.length_take]; have := hc.l255; omega), h1, h2⟩
theorem addw_both (hz : z.length ≤ 1048576) (hz' : z'.length ≤ 1048576) (hC : -9223372036854775808 ≤ C ∧ C ≤ 9223372036854775807) : ∃ (r : List Int) (cd : Int), r.length ≤ 1099511627776 ∧ D2 28 p k g L C z z' (NewIK r cd) ∧ D2 27 p k g L C z z' (NewIK r cd) := by
  rcases wErr_ne (p := p) (k := k) (g := g) (L := L) (C := C) (Z := [z, z']) with ⟨cd, h, hne⟩ | ⟨h, R, γ, l, c, rfl, rfl, hc, hw⟩
  · obtain ⟨h1, h2⟩ := addw_bad p k g L C z z' cd hz hz' hC h hne
    exact ⟨[], cd, by simp, h1, h2⟩
  · obtain ⟨a, rfl, ha⟩ := hw z (by simp)
    obtain ⟨b, rfl, hb⟩ := hw z' (by simp)
    exact ⟨_, 0, iv_mid (by rw [addW_len]; have := hc.l255; omega), addw_spec hc a b ha hb, addw_impl hc a b ha hb⟩
theorem dist_ex (hz : z.length ≤ 1048576) (hz' : z'.length ≤ 1048576) : ∃ v cd : Int, E2 47 z z' (GivesII v cd) ∧ E2 33 z z' (GivesII v cd) :=
  ⟨_, _, dist_both z z' hz hz'⟩
theorem within_ex (e1 e2 : Int) (hC : -9223372036854775808 ≤ C ∧ C ≤ 9223372036854775807) (h1 : -9223372036854775808 ≤ e1 ∧ e1 ≤ 9223372036854775807) (h2 : -9223372036854775808 ≤ e2 ∧ e2 ≤ 9223372036854775807) :
    ∃ b : Bool, D0ii 48 p k g L C e1 e2 (Gives (.bool b)) ∧ D0ii 34 p k g L C e1 e2 (Gives (.bool b)) :=
  ⟨_, within_both p k g L C e1 e2 hC h1 h2⟩
end
end Go.Proofs.Ytfbkmbjbjgfenaa
