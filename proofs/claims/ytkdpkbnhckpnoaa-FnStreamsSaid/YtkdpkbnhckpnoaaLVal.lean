/-
  What EncodeStream answers, and what of it the other functions make.
  Condition: lists shorter than 2^20.
-/
import Derived.Test.YtkdpkbnhckpnoaaLayC
import Derived.Test.YtkdpkbnhckpnoaaLayL
namespace Go.Proofs.Ytkdpkbnhckpnoaa
open Go.RowKit
set_option linter.unusedSimpArgs false
set_option linter.unusedVariables false

theorem es_key (p k g D K C : Int) (z : List Int) (hz : z.length ≤ 1048576) (hD : -9223372036854775808 ≤ D ∧ D ≤ 9223372036854775807) (hC : -9223372036854775808 ≤ C ∧ C ≤ 9223372036854775807) :
    ∃ (r : List Int) (cd : Int), r.length ≤ 1048576 ∧ E1 14 p k g D K C z (NewIK r cd) ∧ E1 13 p k g D K C z (NewIK r cd) ∧
      (cd ≠ 0 ∨ (cd = 0 ∧ ∃ (R : Fld) (γ : El R) (d c m : Nat) (ds : List (El R)), D = d ∧ K = c ∧ C = m ∧ LayIs R γ p k g d c m ∧ z = iv ds ∧ ds.length = d ∧ r = iv (strL d m c (encB γ d m c ds)))) := by
  rcases h : layB p k g D K C with _ | _
  · exact ⟨[], 1, by simp, esS_bad1 p k g D K C z hz h, esI_bad p k g D K C hD hC z 1 hz (lErr_no h) rfl, .inl (by decide)⟩
  · obtain ⟨R, γ, d, c, m, rfl, rfl, rfl, hI⟩ := layB_open h
    have hE := lErr_is (M := (d : Int)) (zs := z) h hI.fld.kind
    rcases hw : wordB R.q (d : Int) z with _ | _
    · rw [hw] at hE
      exact ⟨[], 2, by simp, esS_bad2 hI z hz hw, esI_bad p k g d c m hD hC z 2 hz hE rfl, .inl (by decide)⟩
    · rw [hw] at hE
      obtain ⟨ds, rfl, hd⟩ := word_open hw
      refine ⟨_, 0, ?_, esS_val hI ds hd hz, esI_val hI ds hd hz hE, .inr ⟨rfl, R, γ, d, c, m, ds, rfl, rfl, rfl, hI, rfl, hd, rfl⟩⟩
      rw [iv_len]
      have h4 := hI.tot
      show (tab _ _).length ≤ _
      rw [tab_len]
      omega
section
variable {R : Fld} {γ : El R} {D C K : Nat}
theorem str_lenI (γ : El R) (ds : List (El R)) : (iv (strL D C K (encB γ D C K ds))).length = D + C * K := by rw [iv_len]; exact tab_len _ _
/-- The words of the stream of some data. -/
theorem wrdZ_str {ds : List (El R)} {k : Nat} (hk : k < C) (hd : ds.length = D) : wrdZ D C K (iv (strL D C K (encB γ D C K ds))) k = iv (encB γ D C K ds k) := by
  have hl := encB_len (γ := γ) (K := K) hk hd
  apply List.ext_getElem?
  intro e
  by_cases he : e < lsz D C k + K
  · rw [iv_at (by rw [hl]; exact he)]
    unfold wrdZ
    rw [List.getElem?_map, List.getElem?_range he]
    have hs := (sidx_lt (D := D) (K := K) hk).2 he
    rw [Option.map_some, List.getD_eq_getElem?_getD, iv_at (by show sidx D C k e < (tab _ _).length; rw [tab_len]; exact hs), cf_str hk he]
    rfl
  · rw [List.getElem?_eq_none (by rw [wrdZ_len]; omega), List.getElem?_eq_none (by rw [iv_len, hl]; omega)]
/-- The data that the first blocks have. -/
theorem back_snoc {ds : List (El R)} {k : Nat} (hk : k < C) (hd : ds.length = D) : iv (ds.take (offB D C k)) ++ (iv (encB γ D C K ds k)).take (lsz D C k) = iv (ds.take (offB D C (k + 1))) := by
  have h1 : (encB γ D C K ds k).take (lsz D C k) = datL D C ds k := by
    have := enc_take γ K (datL D C ds k)
    rw [dat_len hk hd] at this
    exact this
  rw [iv_take, h1, ← iv_app, offB_succ, datL, List.take_add]
theorem back_all {ds : List (El R)} (hC : 0 < C) (hD : C ≤ D) (hd : ds.length = D) : iv (ds.take (offB D C C)) = iv ds := by
  have h1 : offB D C C = D := by
    unfold offB
    have h2 := dm D C
    have h3 := Nat.mod_lt D hC
    have h4 := Nat.mul_comm C (D / C)
    omega
  rw [h1, List.take_of_length_le (by omega)]
/-- Where an element of a word lies in the stream. -/
theorem str_at {ds : List (El R)} {k e : Nat} (hk : k < C) (he : e < lsz D C k + K) : (iv (strL D C K (encB γ D C K ds)))[sidx D C k e]? = some ((cf (encB γ D C K ds k) e).val : Int) := by
  have hs := (sidx_lt (D := D) (K := K) hk).2 he
  rw [iv_at (by show sidx D C k e < (tab _ _).length; rw [tab_len]; exact hs), cf_str hk he]
/-- StreamIndex finds an element of a word. -/
theorem implSI_at {p k g : Int} (h : LayIs R γ p k g D K C) {b e : Nat} (hb : b < C) (he : e < lsz D C b + K) (w : World) :
    Calls Try.prog 21 #[.agg #[.int .i64 p, .int .i64 k, .int .i64 g, .int .i64 D, .int .i64 K, .int .i64 C], .int .i64 b, .int .i64 e] w (GivesII (sidx D C b e : Nat) 0 w) := by
  have hs := (sidx_lt (D := D) (K := K) hb).2 he
  have ha : atI D C (b : Int) (e : Int) (sidx D C b e) = true := by
    unfold atI
    rw [pair_sidx hb]; simp
  refine (implSI R γ p k g D K C (b : Int) (e : Int) h w).mono ?_
  rintro x w' ⟨(⟨i, hi, hai, rfl⟩ | ⟨hn, rfl⟩), hb'⟩
  · rw [atI_one h.c1 hai ha]
    exact ⟨rfl, hb'⟩
  · rw [hn _ hs] at ha; cases ha
end
end Go.Proofs.Ytkdpkbnhckpnoaa
