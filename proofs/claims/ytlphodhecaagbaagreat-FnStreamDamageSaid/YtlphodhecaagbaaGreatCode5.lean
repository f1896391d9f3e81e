/-
  The contracts of encoded words, syndromes and the test of code words, of the program.
  Condition: the code is valid, and lists are words or messages of it.
-/
import Derived.Test.YtlphodhecaagbaaGreatCode4
namespace Go.Proofs.YtlphodhecaagbaaGreat
open Go.RowKit
set_option linter.unusedSimpArgs false
set_option linter.unusedVariables false

section
variable {R : Fld} {γ : El R} {p k g : Int} {l c : Nat}
theorem fill_step {n j : Nat} {f : Nat → El R} (x : El R) : (tab n f).set (n - 1 - j) x = tab n fun i => if i = n - 1 - j then x else f i := tab_set _ _
/-- A word with some of its last elements laid. -/
def encF (ms : List (El R)) (rest : List (El R)) (n j : Nat) (i : Nat) : El R := if n - j ≤ i then -(cf rest (n - 1 - i)) else cf ms i
theorem encF_zero (ms rest : List (El R)) (n : Nat) : tab n (encF ms rest n 0) = tab n (cf ms) := tab_congr fun i hi => if_neg (by omega)
theorem encF_step {ms rest : List (El R)} {n j : Nat} (hj : j < n) : (tab n (encF ms rest n j)).set (n - 1 - j) (-(cf rest j)) = tab n (encF ms rest n (j + 1)) := by
  rw [tab_set]
  refine tab_congr fun i hi => ?_
  unfold encF
  by_cases h : i = n - 1 - j
  · rw [if_pos h, if_pos (by omega), show n - 1 - i = j by omega]
  · rw [if_neg h]
    by_cases h2 : n - j ≤ i
    · rw [if_pos h2, if_pos (by omega)]
    · rw [if_neg h2, if_neg (by omega)]
theorem encF_end {ms : List (El R)} {c : Nat} : tab (ms.length + c) (encF ms (restW γ c ms) (ms.length + c) (restW γ c ms).length) = encW γ c ms := by
  refine List.ext_getElem? fun i => ?_
  have hrl := rest_le γ c ms
  rcases Nat.lt_or_ge i (ms.length + c) with hi | hi
  · rw [tab_at _ hi]
    rcases Nat.lt_or_ge i ms.length with h1 | h1
    · rw [encW, List.getElem?_append_left h1, at_cf h1, encF, if_neg (by omega)]
    · rw [encW, List.getElem?_append_right h1, tab_at _ (by omega), encF]
      have e : ms.length + c - 1 - i = c - 1 - (i - ms.length) := by omega
      split
      · rw [e]
      · rw [cf_out h1, cf_out (p := restW γ c ms) (by omega), en0]
  · rw [List.getElem?_eq_none (by rw [tab_len]; exact hi), List.getElem?_eq_none (by rw [enc_len]; exact hi)]

def EnRel (w : World) (p k g : Int) (l c : Nat) (gW : Nat) (Ar : Option Addr) (m cr : Nat) (ms rest : List (El R)) (i : Value) (wr : World) : Prop :=
  ∃ j : Nat, j ≤ m ∧ i = .int .i64 j ∧ Own wr (w.heap.size + 1) 2 .i64 (.slice (some ⟨gW, 0, none⟩) l l) (iv (tab l (encF ms rest l j))) ∧ Own wr (w.heap.size + 1) 2 .i64 (.slice Ar m cr) (iv rest) ∧ ((Value.slice Ar m cr).ownBlock = none ∨ (Value.slice Ar m cr).ownBlock ≠ some gW) ∧ CBox w wr p k g l c

set_option maxRecDepth 100000 in
set_option maxHeartbeats 4000000 in
theorem implEncoded (h : CodeIs R γ p k g l c) (ms : List (El R)) (A : Option Addr) (n cm B : Nat) (w : World) (hI : Ints .i64 w B A n (iv ms)) (hB : B ≤ w.heap.size) (hn : n + c = l) :
    Calls Tryz.prog 64 #[.agg #[.int .i64 p, .int .i64 k, .int .i64 g, .int .i64 l, .int .i64 c], .slice A n cm] w (NewE (encW γ c ms) w) := by
  have HX := hide (CBox.start w p k g l c)
  have hl255 := h.l255
  have hc64 := h.c64
  have hcl := h.cl
  have hml : ms.length = n := by rw [← iv_len]; exact hI.len
  have HML := hide hml
  have HI := hide hI
  have hnl : n ≤ l := by omega
  obtain ⟨m, hm⟩ : ∃ m, (restW γ c ms).length = m := ⟨_, rfl⟩
  have HM := hide hm
  have hmc : m ≤ c := by rw [← hm]; exact rest_le γ c ms
  have HGL := hide (gen_len γ c)
  have HWL := hide (show (wpoly (padW c ms)).length ≤ l by have h1 := wpoly_le (padW c ms); rw [pad_len] at h1; omega)
  clear hm
  have HP := hide (show padW c ms = tab l (cf ms) by
    refine List.ext_getElem? fun i => ?_
    rcases Nat.lt_or_ge i l with hi | hi
    · rw [tab_at _ hi]
      rcases Nat.lt_or_ge i ms.length with h1 | h1
      · rw [padW, List.getElem?_append_left h1, at_cf h1]
      · rw [padW, List.getElem?_append_right h1, tab_at _ (by omega), cf_out h1]
    · rw [List.getElem?_eq_none (by rw [pad_len]; omega), List.getElem?_eq_none (by rw [tab_len]; exact hi)])
  clear hI
  obtain ⟨c0, c1, c2, c3, c4⟩ := HX.out.cells
  go_enter Tryz.func64, Tryz.ntmps64
  go_wp2_with (first
    | (refine wpList_mkN _ rfl (.tmp 11) (.tmp 11) 28 rfl elem64 .i64 .i64 _ _ l rfl rfl rfl rfl (by omega) fun w1 h1 h2 => ?_; have HX1 := hide (HX.out.next h2); rw [alloc_size, iv_zeros (R := R)] at h1; have HO1 := hide h1; have HI1 := hide (HI.out.below (HX1.out.2.mono hB)); clear h1 h2)
    | (refine wpList_copyZ rfl (.tmp 13) (.tmp 14) 28 rfl elem64 _ (w.heap.size + 1) l l _ rfl HO1.out B A n cm _ rfl HI1.out hnl fun w2 h1 h2 => ?_; rw [iv_pad hml hnl] at h1; have HO2 := hide h1; have HX2 := hide (HX1.out.grow h2 (fun b hb => by injection hb with hb; omega)); clear h1 h2; obtain ⟨d0, d1, d2, d3, d4⟩ := HX2.out.cells))
  have HRE := hide (show remP (wpoly (padW c ms)) (genP γ c) = restW γ c ms from rfl)
  have HLM := hide (show (iv (remP (wpoly (padW c ms)) (genP γ c))).length = m by rw [iv_len]; exact HM.out)
  go_region_held3 (fun w' => w'.cell? ⟨w.heap.size, 0, none⟩ = some (.int .i64 p) ∧ w'.cell? ⟨w.heap.size, 1, none⟩ = some (.int .i64 k) ∧ w'.cell? ⟨w.heap.size, 2, none⟩ = some (.int .i64 g) ∧ w'.cell? ⟨w.heap.size, 3, none⟩ = some (.int .i64 l) ∧ w'.cell? ⟨w.heap.size, 4, none⟩ = some (.int .i64 c))
    (first
      | exact HX2.out.drew.cells
      | exact HX3.out.cells
      | exact HX4.out.cells
      | exact HX5.out.cells)
    (first
      | (go_at_call 88; refine (implPolyOf l c (tab l (cf ms)) (some ⟨w.heap.size + 1, 0, none⟩) l l w2.heap.size _ (HO2.out.drew.intsE) (Nat.le_refl _) (by omega) (by omega)).mono ?_; rw [← HP.out]; rintro e w3 ⟨g3, c3', rfl, ho3, hg3, hb3⟩; have HX3 := hide (HX2.out.drew.next hb3); have HO3 := hide (HO2.out.drew.below hb3 (Nat.le_refl _)); have HQ3 := hide (ho3.intsE); clear ho3 hg3 hb3)
      | (go_at_call 90; refine (implGenPoly h _).mono ?_; rintro e w4 ⟨A4, c4', rfl, hc4, ho4, hb4⟩; rw [HGL.out] at ho4 ⊢; have HX4 := hide (HX3.out.next hb4); have HO4 := hide (HO3.out.below hb4 (Nat.le_refl _)); have HQ4 := hide ((HQ3.out.below hb4).more hb4.size); have HG4 := hide ho4.intsE; clear ho4 hc4 hb4)
      | (go_at_call 89; refine (implDivided h.fld (wpoly (padW c ms)) (genP γ c) (some ⟨g3, 0, none⟩) A4 _ c3' (c + 1) c4' w4.heap.size _ HQ4.out HG4.out (Nat.le_refl _) (by have := HWL.out; omega) (by omega) (by omega)).mono ?_; rintro e w5 ⟨vq, vr, rfl, hoq, hor, hne, hb5⟩; obtain ⟨Ar, cr, rfl, hcr⟩ := hor.form; rw [HLM.out] at hor ⊢; rw [HRE.out] at hor; have HX5 := hide (HX4.out.next hb5); have HO5 := hide (HO4.out.below hb5 (Nat.le_refl _)); have HR5 := hide (hor.low (base' := w.heap.size + 1) HX4.out.lt); have HN5 := hide (show (Value.slice Ar m cr).ownBlock = none ∨ (Value.slice Ar m cr).ownBlock ≠ some (w.heap.size + 1) from by { rcases hv : (Value.slice Ar m cr).ownBlock with _ | b; exact .inl rfl; exact .inr (fun e => by injection e with e; have h1 := (hor.lt hv).1; have h2 := (HO4.out.lt (g := w.heap.size + 1) rfl).2; omega) }); clear hoq hor hne hb5 hcr))
  go_wp2_with fail
  go_loopw [29] (fun i wr => EnRel w p k g l c (w.heap.size + 1) Ar m cr ms (restW γ c ms) i wr) (fun i _ => m - (intOf i).toNat)
  case atStart => exact ⟨0, by omega, rfl, by rw [encF_zero]; exact HO5.out, HR5.out, HN5.out, HX5.out⟩
  case round =>
    clear HX HX1 HX2 HX5 HO1 HO2 HO5 HR5 HN5 HI1 HX3 HX4 HO3 HO4 HQ3 HQ4 HG4 c0 c1 c2 c3 c4 d0 d1 d2 d3 d4
    obtain ⟨j, hj, rfl, HO, HR, HN, HX⟩ := hrel
    have HX := hide HX
    have HO := hide HO
    have HR := hide HR
    have HN := hide HN
    by_cases hlt : j < m
    · obtain ⟨b, off, x, rfl, hb, hx, hc⟩ := HR.out.intsE.at_ hlt
      rw [iv_at (by rw [HM.out]; exact hlt)] at hx
      simp only [Option.some.injEq] at hx
      subst hx
      obtain ⟨x, hx⟩ : ∃ x, x = cf (restW γ c ms) j := ⟨_, rfl⟩
      rw [← hx] at hc
      obtain ⟨t, ht⟩ : ∃ t, t = l - 1 - j := ⟨_, rfl⟩
      have hw1 : (l : Int) - 1 - (j : Int) = (t : Int) := by omega
      have htl : t < l := by omega
      have HT := hide (show (tab l (encF ms (restW γ c ms) l j)).set t (-x) = tab l (encF ms (restW γ c ms) l (j + 1)) by rw [hx, ht]; exact encF_step (by omega))
      obtain ⟨c0, c1, c2, c3, c4⟩ := HX.out.cells
      clear hx ht
      go_wp2_with fail
      refine (implNegE h.fld x _).mono ?_
      rintro e w6 ⟨rfl, hb6⟩
      have HX6 := hide (HX.out.next hb6)
      have HO6 := hide (HO.out.below hb6 (Nat.le_refl _))
      have HR6 := hide (HR.out.below hb6 (Nat.le_refl _))
      have hfx := HO6.out.frozenAt t
      obtain ⟨u, hcx⟩ : ∃ u : Int, w6.cell? ⟨w.heap.size + 1, t, none⟩ = some (.int .i64 u) := ⟨_, HO6.out.cellAt (j := t) (iv_at (by rw [tab_len]; exact htl))⟩
      have HO7 := hide (HO6.out.stored t ((-x).val : Nat)).1
      have HG7 := hide (HO6.out.stored t ((-x).val : Nat)).2
      rw [iv_set, HT.out] at HO7
      have HR7 := hide (HR6.out.grown HG7.out HN.out)
      have HX7 := hide (HX6.out.set (b := w.heap.size + 1) (by omega) t (.int .i64 ((-x).val : Nat)))
      clear hb6 c0 c1 c2 c3 c4
      go_wp2_with fail
      go_roundw
      case rel => exact ⟨j + 1, by omega, by go_num, HO7.out, HR7.out, HN.out, HX7.out⟩
      case measure => simp [intOf]; omega
    · obtain rfl : j = m := by omega
      have HF := hide (show tab l (encF ms (restW γ c ms) l j) = encW γ c ms by rw [← HM.out, ← hn, ← HML.out]; exact encF_end)
      have HO8 := hide HO.out
      rw [HF.out] at HO8
      have HE := hide (newE_of (w := w) HO8.out HX.out.2 (Nat.le_succ _))
      go_wp2_with fail
      go_ret
      exact HE.out

def SyRel (w : World) (p k g : Int) (l c : Nat) (gS : Nat) (A1 : Option Addr) (g3 n3 c3 : Nat) (γ : El R) (ws : List (El R)) (i : Value) (wr : World) : Prop :=
  ∃ j : Nat, j ≤ c ∧ i = .int .i64 j ∧ Own wr gS 2 .i64 (.slice (some ⟨gS, 0, none⟩) c c) (iv (tab c fun i => if i < j then ev (epw γ (i + 1)) ws.reverse else 0)) ∧ Ints .i64 wr gS (some ⟨g3, 0, none⟩) n3 (iv (wpoly ws)) ∧ Own wr (gS + 1) 2 .i64 (.slice A1 c c3) (iv (pws γ c)) ∧ CBox w wr p k g l c
theorem syn_step {γ : El R} {ws : List (El R)} {c j : Nat} {y : El R} (hy : y = ev (epw γ (j + 1)) ws.reverse) : (tab c fun i => if i < j then ev (epw γ (i + 1)) ws.reverse else 0).set j y = tab c fun i => if i < j + 1 then ev (epw γ (i + 1)) ws.reverse else 0 := by
  rw [tab_set]
  refine tab_congr fun i hi => ?_
  by_cases h : i = j
  · rw [if_pos h, if_pos (by omega), hy, h]
  · rw [if_neg h]
    by_cases h2 : i < j
    · rw [if_pos h2, if_pos (by omega)]
    · rw [if_neg h2, if_neg (by omega)]

set_option maxRecDepth 100000 in
set_option maxHeartbeats 4000000 in
theorem implSyndromes (h : CodeIs R γ p k g l c) (ws : List (El R)) (A : Option Addr) (cm B : Nat) (w : World) (hI : Ints .i64 w B A l (iv ws)) (hB : B ≤ w.heap.size) :
    Calls Tryz.prog 97 #[.agg #[.int .i64 p, .int .i64 k, .int .i64 g, .int .i64 l, .int .i64 c], .slice A l cm] w (NewE (synW γ c ws) w) := by
  have HX := hide (CBox.start w p k g l c)
  have hl255 := h.l255
  have hc64 := h.c64
  have hcl := h.cl
  have hwl : ws.length = l := by rw [← iv_len]; exact hI.len
  have HWL := hide (show (wpoly ws).length ≤ l by have h1 := wpoly_le ws; omega)
  have HI := hide hI
  have HSY := hide (show (synW γ c ws).length = c from syn_len γ c ws)
  clear hI hwl
  obtain ⟨c0, c1, c2, c3, c4⟩ := HX.out.cells
  go_enter Tryz.func97, Tryz.ntmps97
  go_wp2_with fail
  refine (implPolyOf l c ws A l cm B _ (HI.out.below (HX.out.2.mono hB)) (Nat.le_trans hB (Nat.le_of_lt HX.out.lt)) (by omega) (by omega)).mono ?_
  rintro e w1 ⟨g1, m1, rfl, ho, hg1, hb⟩
  have HX1 := hide (HX.out.next hb)
  have HP1 := hide (ho.intsE)
  obtain ⟨n1, hn1⟩ : ∃ n1, n1 = (wpoly ws).length := ⟨_, rfl⟩
  have HN1 := hide (show n1 ≤ l by rw [hn1]; exact HWL.out)
  rw [← hn1] at HP1 ⊢
  clear ho hg1 hb c0 c1 c2 c3 c4 hn1
  obtain ⟨c0, c1, c2, c3, c4⟩ := HX1.out.cells
  go_wp2_with (refine wpList_mkN _ rfl (.tmp 13) (.tmp 13) 28 rfl elem64 .i64 .i64 _ _ c rfl rfl rfl rfl (by omega) fun w2 h1 h2 => ?_; have HX2 := hide (HX1.out.next h2); rw [iv_zeros (R := R)] at h1; have HO2 := hide h1; have HP2 := hide (HP1.out.below h2); obtain ⟨d0, d1, d2, d3, d4⟩ := HX2.out.cells; clear h1 h2)
  refine (implRootsOf h _).mono ?_
  rintro e w3 ⟨A3, m3, rfl, hm3, ho, hb⟩
  have HX3 := hide (HX2.out.next hb)
  have HO3 := hide (HO2.out.below hb (Nat.le_refl _))
  have HW2 := hide (show w1.heap.size < w2.heap.size from (HO2.out.lt (g := w1.heap.size) rfl).2)
  have HP3 := hide (HP2.out.below (hb.mono (Nat.le_of_lt HW2.out)))
  have HRL := hide (show (iv (pws γ c)).length = c by rw [iv_len, pws_len])
  rw [HRL.out] at ho ⊢
  have HR3 := hide (ho.low (base' := w1.heap.size + 1) HW2.out)
  have HXW := hide HX1.out.lt
  clear ho hb hm3 c0 c1 c2 c3 c4 d0 d1 d2 d3 d4
  go_wp2_with fail
  go_loopw [18] (fun i wr => SyRel w p k g l c w1.heap.size A3 g1 n1 m3 γ ws i wr) (fun i _ => c - (intOf i).toNat)
  case atStart => exact ⟨0, by omega, rfl, HO3.out, HP3.out, HR3.out, HX3.out⟩
  case round =>
    clear HX HX1 HX2 HX3 HO2 HO3 HP1 HP2 HP3 HR3 HI
    obtain ⟨j, hj, rfl, HO, HP, HR, HX⟩ := hrel
    have HX := hide HX
    have HO := hide HO
    have HP := hide HP
    have HR := hide HR
    have HWR := hide (show w1.heap.size < wr.heap.size from (HO.out.lt (g := w1.heap.size) rfl).2)
    by_cases hlt : j < c
    · obtain ⟨b, off, x, rfl, hb, hx, hc⟩ := HR.out.intsE.at_ hlt
      rw [iv_at (by rw [pws_len]; exact hlt), pws_at hlt] at hx
      simp only [Option.some.injEq] at hx
      subst hx
      obtain ⟨x, hx⟩ : ∃ x, x = epw γ (j + 1) := ⟨_, rfl⟩
      rw [← hx] at hc
      obtain ⟨y, hy⟩ : ∃ y, y = ev x (wpoly ws) := ⟨_, rfl⟩
      have HY := hide hy
      have HS := hide (syn_step (γ := γ) (ws := ws) (c := c) (j := j) (y := y) (by rw [hy, hx, ev_wpoly]))
      obtain ⟨c0, c1, c2, c3, c4⟩ := HX.out.cells
      clear hx hy
      go_wp2_with fail
      refine (implValueAt h.fld x (wpoly ws) (some ⟨g1, 0, none⟩) n1 m1 w1.heap.size wr HP.out (Nat.le_of_lt HWR.out) (by have := HN1.out; omega)).mono ?_
      rw [← HY.out]
      rintro e w6 ⟨rfl, hb6⟩
      have HX6 := hide (HX.out.next hb6)
      have HO6 := hide (HO.out.below hb6 (Nat.le_refl _))
      have HR6 := hide (HR.out.below hb6 (Nat.le_refl _))
      have HP6 := hide (HP.out.below (hb6.mono (Nat.le_of_lt HWR.out)))
      have hfx := HO6.out.frozenAt j
      obtain ⟨u, hcx⟩ : ∃ u : Int, w6.cell? ⟨w1.heap.size, j, none⟩ = some (.int .i64 u) := ⟨_, HO6.out.cellAt (j := j) (iv_at (by rw [tab_len]; exact hlt))⟩
      have HO7 := hide (HO6.out.stored j (y.val : Nat)).1
      have HG7 := hide (HO6.out.stored j (y.val : Nat)).2
      rw [iv_set, HS.out] at HO7
      have HR7 := hide (HR6.out.grown HG7.out (by
        rcases hv : (Value.slice (some ⟨b, off, none⟩) c m3).ownBlock with _ | b'
        · exact .inl rfl
        · refine .inr fun e => ?_
          injection e with e
          have h1 := (HR6.out.lt hv).1
          omega))
      have HP7 := hide (HP6.out.grown HG7.out (by have := hb6.size; have := HWR.out; omega) (fun r hr => by injection hr with hr; omega))
      have HX7 := hide (HX6.out.set (b := w1.heap.size) HXW.out j (.int .i64 (y.val : Nat)))
      clear hb6 c0 c1 c2 c3 c4
      go_wp2_with fail
      go_roundw
      case rel => exact ⟨j + 1, by omega, by go_num, HO7.out, HP7.out, HR7.out, HX7.out⟩
      case measure => simp [intOf]; omega
    · obtain rfl : j = c := by omega
      have HF := hide (show (tab j fun i => if i < j then ev (epw γ (i + 1)) ws.reverse else 0) = synW γ j ws from tab_congr fun i hi => if_pos hi)
      have HO8 := hide HO.out
      rw [HF.out] at HO8
      have HE := hide (newE_of (w := w) HO8.out HX.out.2 (Nat.le_of_lt HXW.out))
      go_wp2_with fail
      go_ret
      exact HE.out
end
end Go.Proofs.YtlphodhecaagbaaGreat
