/-
  The contracts of shortened lists, of evaluators and of the values of errors, of the program.
  Condition: the code is valid.
-/
import Derived.Test.YtlphodhecaagbaaGreatJQ
namespace Go.Proofs.YtlphodhecaagbaaGreat
open Go.RowKit
set_option linter.unusedSimpArgs false
set_option linter.unusedVariables false

section
variable {R : Fld} {γ : El R} {p k g : Int} {l c : Nat}
def TiRel (A : Option Addr) (n c : Nat) (ps : List (El R)) (v : Value) : Prop := ∃ m : Nat, m ≤ n ∧ v = .slice A m c ∧ Hid (trim (ps.take m) = trim ps)
theorem Ints.takeI {k : IntKind} {w : World} {B n m : Nat} {A : Option Addr} {zs : List Int} (h : Ints k w B A n zs) (hm : m ≤ n) : Ints k w B A m (zs.take m) := by
  have hl := h.len
  refine ⟨by rw [List.length_take]; omega, fun h0 => ?_⟩
  obtain ⟨b, off, e, hb, hc⟩ := h.2 (by omega)
  refine ⟨b, off, e, hb, fun j x hx => hc j x ?_⟩
  rw [List.getElem?_take] at hx
  split at hx
  · exact hx
  · cases hx

set_option maxHeartbeats 1000000 in
theorem implTrimI (ps : List (El R)) (A : Option Addr) (n c B : Nat) (w : World) (hI : Ints .i64 w B A n (iv ps)) (hcap : n ≤ c) (hn : n ≤ 1099511627776) :
    Calls Tryz.prog 118 #[.slice A n c] w fun x w' => x = .returned (.slice A (trim ps).length c) ∧ w = w' := by
  have hl : ps.length = n := by rw [← iv_len]; exact hI.len
  have HI := hide hI
  rcases Nat.eq_zero_or_pos n with h0 | h0
  · subst h0
    have HF := hide (show (trim ps).length = 0 by rw [List.eq_nil_of_length_eq_zero hl]; rfl)
    clear hI
    rw [HF.out]
    go_enter Tryz.func118, Tryz.ntmps118
    go_wp2_with fail
    go_loop [0] (fun v => v = .slice A 0 c) (fun v => 0)
    case atStart => rfl
    case round =>
      subst hrel
      go_wp2_with fail
      go_ret
      exact ⟨rfl, rfl⟩
  · obtain ⟨b, off, x0, rfl, _, _, _⟩ := hI.at_ h0
    clear hI
    go_enter Tryz.func118, Tryz.ntmps118
    go_wp2_with fail
    go_loop [0] (fun v => TiRel (some ⟨b, off, none⟩) n c ps v) (fun v => match v with | .slice _ m _ => m | _ => 0)
    case atStart => exact ⟨n, Nat.le_refl _, rfl, by rw [List.take_of_length_le (by omega)]; rfl⟩
    case round =>
      obtain ⟨m, hm, rfl, HT⟩ := hrel
      rcases Nat.eq_zero_or_pos m with rfl | hp
      · have HF := hide (show ps.take 0 = trim ps by rw [← HT.out]; rfl)
        have HZ := hide (show (trim ps).length = 0 by rw [← HF.out]; rfl)
        go_wp2_with fail
        go_ret
        exact ⟨by rw [HZ.out]; rfl, rfl⟩
      · obtain ⟨i, rfl⟩ : ∃ i, m = i + 1 := ⟨m - 1, by omega⟩
        have hw1 : ((i + 1 : Nat) : Int) - 1 = (i : Int) := by omega
        have hsn : ps.take (i + 1) = ps.take i ++ [cf ps i] := by rw [List.take_add_one, at_cf (by omega)]; rfl
        have HL := hide (show (iv (ps.take (i + 1))).getLast? = some ((cf ps i).val : Int) by rw [hsn, iv_app, iv_one]; simp)
        have HI1 := hide (show Ints .i64 w B (some ⟨b, off, none⟩) (i + 1) (iv (ps.take (i + 1))) by rw [← iv_take]; exact HI.out.takeI hm)
        by_cases hz : cf ps i = 0
        · have HN := hide (show trim (ps.take i) = trim ps by rw [← HT.out, hsn, hz, trim_zero])
          rw [hz] at HL
          clear hsn hz
          go_wp2_with fail
          refine (implLast (some ⟨b, off, none⟩) (i + 1) c B _ _ _ HI1.out HL.out (by omega)).mono ?_
          rintro e w1 ⟨rfl, rfl⟩
          go_wp2_with fail
          go_round
          case rel => exact ⟨i, by omega, rfl, HN⟩
          case measure => simp
        · have HF := hide (show ps.take (i + 1) = trim ps by rw [← HT.out, hsn, trim_more _ hz])
          have HZ := hide (show (trim ps).length = i + 1 by rw [← HF.out, List.length_take]; omega)
          have hv : ((((cf ps i).val : Nat) : Int) == 0) = false := by have := val_ne hz; simp; omega
          clear hsn hz
          go_wp2_with fail
          refine (implLast (some ⟨b, off, none⟩) (i + 1) c B _ _ _ HI1.out HL.out (by omega)).mono ?_
          rintro e w1 ⟨rfl, rfl⟩
          go_wp2_with fail
          go_ret
          exact ⟨by rw [HZ.out]; rfl, rfl⟩
theorem trim_take (ps : List (El R)) : ps.take (trim ps).length = trim ps := by
  have h1 := trim_le ps
  refine List.ext_getElem? fun i => ?_
  rw [List.getElem?_take]
  rcases Nat.lt_or_ge i (trim ps).length with h | h
  · rw [if_pos h, at_cf (by omega), at_cf h, cf_trim]
  · rw [if_neg (by omega), List.getElem?_eq_none h]

set_option maxRecDepth 100000 in
set_option maxHeartbeats 4000000 in
theorem implEvaluator (h : CodeIs R γ p k g l c) (S L : List (El R)) (A A' : Option Addr) (n cn m cm B : Nat) (w : World) (hI : Ints .i64 w B A n (iv S)) (hJ : Ints .i64 w B A' m (iv L)) (hB : B ≤ w.heap.size) (hcap : n ≤ cn) (hn : n ≤ 100000) (hm : m ≤ 100000) :
    Calls Tryz.prog 100 #[.agg #[.int .i64 p, .int .i64 k, .int .i64 g, .int .i64 l, .int .i64 c], .slice A n cn, .slice A' m cm] w (NewE (omeg c S L) w) := by
  have HX := hide (CBox.start w p k g l c)
  have hc64 := h.c64
  have hSn : S.length = n := by rw [← iv_len]; exact hI.len
  have hLm : L.length = m := by rw [← iv_len]; exact hJ.len
  obtain ⟨N, hN⟩ : ∃ N, (mulP (trim S) L).length = N := ⟨_, rfl⟩
  have hNb : N ≤ 1000000 := by
    rw [← hN, mulP, tab_len]; unfold plen
    have := trim_le S
    split <;> omega
  have HNL := hide hN
  have HI := hide hI
  have HJ := hide hJ
  have HT := hide (show Ints .i64 w B A (trim S).length (iv (trim S)) by
    have := hI.takeI (m := (trim S).length) (by have := trim_le S; omega)
    rwa [iv_take, trim_take] at this)
  obtain ⟨t, ht⟩ : ∃ t, (trim S).length = t := ⟨_, rfl⟩
  have htn : t ≤ n := by have := trim_le S; omega
  have HTL := hide ht
  rw [ht] at HT
  clear hI hJ hN hSn hLm ht
  obtain ⟨c0, c1, c2, c3, c4⟩ := HX.out.cells
  go_enter Tryz.func100, Tryz.ntmps100
  go_wp2_with fail
  go_region_held3 (fun w' => w'.cell? ⟨w.heap.size, 0, none⟩ = some (.int .i64 p) ∧ w'.cell? ⟨w.heap.size, 1, none⟩ = some (.int .i64 k) ∧ w'.cell? ⟨w.heap.size, 2, none⟩ = some (.int .i64 g))
    (first
      | exact ⟨HX.out.drew.cells.1, HX.out.drew.cells.2.1, HX.out.drew.cells.2.2.1⟩
      | exact ⟨HX3.out.cells.1, HX3.out.cells.2.1, HX3.out.cells.2.2.1⟩)
    (first
      | (go_at_call 118; refine (implTrimI S A n cn B _ (HI.out.below (HX.out.drew.2.mono hB)) hcap (by omega)).mono ?_; rw [HTL.out]; rintro e w2 ⟨rfl, rfl⟩)
      | (go_at_call 102; refine (implTimes h.fld (trim S) L A A' t cn m cm B _ (HT.out.below (HX.out.drew.2.mono hB)) (HJ.out.below (HX.out.drew.2.mono hB)) (Nat.le_trans hB (Nat.le_of_lt HX.out.drew.lt)) (by omega) (by omega)).mono ?_; rintro e w3 ⟨g3, m3, rfl, ho3, hg3, hb3⟩; rw [HNL.out] at ho3 ⊢; have HX3 := hide (HX.out.drew.next hb3); have HO3 := hide (ho3.low (base' := w.heap.size + 1) (by have := HX.out.drew.lt; omega)); clear ho3 hg3 hb3))
  have hcap3 : N ≤ m3 := by
    obtain ⟨A4, c4', h1, h2⟩ := HO3.out.form
    simp only [Value.slice.injEq] at h1
    rw [iv_len, HNL.out] at h2
    omega
  clear c0 c1 c2 c3 c4
  obtain ⟨c0, c1, c2, c3, c4⟩ := HX3.out.cells
  obtain ⟨M, hM⟩ : ∃ M, min N c = M := ⟨_, rfl⟩
  have hMi : min (N : Int) (c : Int) = (M : Int) := by omega
  have hMN : M ≤ N := by omega
  have HTK := hide (show (mulP (trim S) L).take M = (mulP (trim S) L).take c by
    refine List.ext_getElem? fun i => ?_
    rw [List.getElem?_take, List.getElem?_take]
    by_cases h1 : i < M
    · rw [if_pos h1, if_pos (by omega)]
    · rw [if_neg h1]
      split
      · exact (List.getElem?_eq_none (by rw [HNL.out]; omega)).symm
      · rfl)
  have HO4 := hide (HO3.out.take hMN)
  rw [iv_take, HTK.out] at HO4
  clear hM HTK
  go_wp2_with fail
  refine (implTrimmed ((mulP (trim S) L).take c) g3 M m3 (w.heap.size + 1) w3 HO4.out (by omega)).mono ?_
  rintro e w4 ⟨rfl, ho, rfl⟩
  have HE := hide (show NewE (omeg c S L) w (.returned (.slice (some ⟨g3, 0, none⟩) (omeg c S L).length m3)) w3 from newE_of (w := w) ho HX3.out.2 (Nat.le_succ _))
  clear ho
  go_wp2_with fail
  go_ret
  exact HE.out

/-- The values at indices, and none if there are none. -/
def fvs (num : Nat → El R) (γ : El R) (l c : Nat) (S : List (El R)) (J : List Nat) : List (El R) := if valB γ l c S J = true then J.map (fvI num γ l c S J) else []
def fvK (num : Nat → El R) (γ : El R) (l c : Nat) (S : List (El R)) (J : List Nat) (k : Nat) : El R := fvI num γ l c S J (J.getD k 0)
theorem fvs_tab {num : Nat → El R} {S : List (El R)} {J : List Nat} (hv : valB γ l c S J = true) : tab J.length (fvK num γ l c S J) = fvs num γ l c S J := by
  rw [fvs, if_pos hv]
  refine List.ext_getElem? fun i => ?_
  rcases Nat.lt_or_ge i J.length with h | h
  · rw [tab_at _ h, List.getElem?_map, List.getElem?_eq_getElem h, fvK, List.getD_eq_getElem?_getD, List.getElem?_eq_getElem h]; rfl
  · rw [List.getElem?_eq_none (by rw [tab_len]; exact h), List.getElem?_eq_none (by rw [List.length_map]; exact h)]
theorem fvs_no {num : Nat → El R} {S : List (El R)} {J : List Nat} (hv : valB γ l c S J = false) : fvs num γ l c S J = [] := by rw [fvs, hv]; rfl

def FoRel (w : World) (p k g : Int) (l c n gS : Nat) (γ : El R) (A8 A9 A10 A11 : Option Addr) (m8 m9 m10 : Nat) (L O D : List (El R)) (f : Nat → El R) (i : Value) (wr : World) : Prop :=
  ∃ j : Nat, j ≤ n ∧ i = .int .i64 j ∧ Own wr gS 2 .i64 (.slice (some ⟨gS, 0, none⟩) n n) (iv (tab n fun k => if k < j then f k else 0)) ∧ Ints .i64 wr gS A9 m9 (iv O) ∧ Ints .i64 wr gS A10 m10 (iv D) ∧ Ints .i64 wr gS A11 l (iv (invT γ l)) ∧ gS < wr.heap.size ∧ CBox w wr p k g l c

set_option maxRecDepth 100000 in
set_option maxHeartbeats 8000000 in
theorem implErrorValues0 (h : CodeIs R γ p k g l c) (S : List (El R)) (J : List Nat) (hJ : ∀ i ∈ J, i < l) (A A' : Option Addr) (n cn m cm B : Nat) (w : World) (hI : Ints .i64 w B A n (iv S)) (hI' : Ints .i64 w B A' m (nv J)) (hB : B ≤ w.heap.size) (hcap : n ≤ cn) (hn : n ≤ 1000) (hm : m ≤ 1000) :
    Calls Tryz.prog 103 #[.agg #[.int .i64 p, .int .i64 k, .int .i64 g, .int .i64 l, .int .i64 c], .slice A n cn, .slice A' m cm] w (NewIB (iv (fvs (numE h.fld) γ l c S J)) (valB γ l c S J) w) := by
  have HX := hide (CBox.start w p k g l c)
  have hl255 := h.l255
  have hc64 := h.c64
  have hJm : J.length = m := by rw [← nv_len]; exact hI'.len
  have HJM := hide hJm
  have HI := hide hI
  have HI' := hide hI'
  have HLL := hide (show (locP (locs γ l J)).length = m + 1 by rw [locJ_len h.far, hJm])
  obtain ⟨L, hL⟩ : ∃ L, locP (locs γ l J) = L := ⟨_, rfl⟩
  obtain ⟨O, hO⟩ : ∃ O, omeg c S (locP (locs γ l J)) = O := ⟨_, rfl⟩
  obtain ⟨o, ho⟩ : ∃ o, O.length = o := ⟨_, rfl⟩
  have hoc : o ≤ 64 := by rw [← ho, ← hO]; exact Nat.le_trans (omeg_le _ _ _) hc64
  have HL := hide hL
  have HO := hide hO
  have HOL := hide ho
  rw [hL] at HLL
  clear hI hI' hJm hL hO ho
  obtain ⟨c0, c1, c2, c3, c4⟩ := HX.out.cells
  go_enter Tryz.func103, Tryz.ntmps103
  go_wp2_with fail
  refine (implLocPoly h J hJ A' m cm B _ (HI'.out.below (HX.out.2.mono hB)) (Nat.le_trans hB (Nat.le_of_lt HX.out.lt)) hm).mono ?_
  rw [HL.out]
  rintro e w1 ⟨A1, m1, rfl, hm1, ho1, hb⟩
  rw [HLL.out] at ho1 hm1 ⊢
  have HX1 := hide (HX.out.next hb)
  have HP1 := hide ho1.intsE
  have HI1 := hide ((HI.out.below (HX1.out.2.mono hB)).more (B' := w1.heap.size) (Nat.le_trans hB (Nat.le_of_lt HX1.out.lt)))
  clear hb ho1 hm1 c0 c1 c2 c3 c4
  obtain ⟨c0, c1, c2, c3, c4⟩ := HX1.out.cells
  go_wp2_with fail
  refine (implEvaluator h S L A A1 n cn (m + 1) m1 w1.heap.size w1 HI1.out HP1.out (Nat.le_refl _) hcap (by omega) (by omega)).mono ?_
  rw [show omeg c S L = O by rw [← HL.out]; exact HO.out]
  rintro e w2 ⟨A2, m2, rfl, hm2, ho2, hb⟩
  rw [HOL.out] at ho2 hm2 ⊢
  have HX2 := hide (HX1.out.next hb)
  have HP2 := hide ((HP1.out.below hb).more hb.size)
  have HE2 := hide ho2.intsE
  clear hb ho2 hm2 c0 c1 c2 c3 c4
  obtain ⟨c0, c1, c2, c3, c4⟩ := HX2.out.cells
  rcases hv : valB γ l c S J with _ | _
  · have HZ := hide (fvs_no (num := numE h.fld) hv)
    have HE := hide (show NewIB (iv (fvs (numE h.fld) γ l c S J)) (valB γ l c S J) w (.returned (.tuple #[.slice none 0 0, .bool false])) w2 by rw [HZ.out, hv]; exact newIB_nil HX2.out.2)
    have z1 : decide ((m : Int) + 1 ≤ (o : Int)) = true := by
      simp only [valB, decide_eq_false_iff_not, HO.out, HOL.out, HJM.out] at hv
      rw [decide_eq_true_eq]; omega
    have z2 : decide (((m + 1 : Nat) : Int) ≤ (o : Int)) = true := by
      rw [decide_eq_true_eq] at z1 ⊢; omega
    clear hv
    go_wp2_with fail
    go_ret2
    exact HE.out
  · have HZ := hide (fvs_tab (num := numE h.fld) hv)
    have HVB := hide hv
    have z1 : decide ((m : Int) + 1 ≤ (o : Int)) = false := by
      simp only [valB, decide_eq_true_eq, HO.out, HOL.out, HJM.out] at hv
      rw [decide_eq_false_iff_not]; omega
    have z2 : decide (((m + 1 : Nat) : Int) ≤ (o : Int)) = false := by
      rw [decide_eq_false_iff_not] at z1 ⊢; omega
    obtain ⟨D, hD⟩ : ∃ D, derP h.fld L = D := ⟨_, rfl⟩
    have HD := hide hD
    obtain ⟨d, hd⟩ : ∃ d, D.length = d := ⟨_, rfl⟩
    have hdb : d ≤ 2000 := by
      rw [← hd, ← hD, derP]
      refine Nat.le_trans (trim_le _) ?_
      rw [tab_len, HLL.out]; omega
    have HDL := hide hd
    clear hv hD hd
    go_wp2_with fail
    refine (implDerE h.fld L A1 (m + 1) m1 w2.heap.size w2 HP2.out (Nat.le_refl _) (by omega)).mono ?_
    rw [HD.out]
    rintro e w3 ⟨A3, m3, rfl, hm3, ho3, hb⟩
    rw [HDL.out] at ho3 hm3 ⊢
    have HX3 := hide (HX2.out.next hb)
    have HE3 := hide ((HE2.out.below hb).more hb.size)
    have HD3 := hide ho3.intsE
    clear hb ho3 hm3 c0 c1 c2 c3 c4 HP1 HP2 HE2
    obtain ⟨c0, c1, c2, c3, c4⟩ := HX3.out.cells
    go_wp2_with fail
    refine (implInvLocators h w3).mono ?_
    rintro e w4 ⟨A4, m4, rfl, hm4, ho4, hb⟩
    rw [invT_len] at ho4 hm4 ⊢
    have HX4 := hide (HX3.out.next hb)
    have HE4 := hide ((HE3.out.below hb).more hb.size)
    have HD4 := hide ((HD3.out.below hb).more hb.size)
    have HT4 := hide ho4.intsE
    clear hb ho4 hm4 c0 c1 c2 c3 c4 HE3 HD3
    obtain ⟨c0, c1, c2, c3, c4⟩ := HX4.out.cells
    go_wp2_with (refine wpList_mkN _ rfl (.tmp 36) (.tmp 36) 28 rfl elem64 .i64 .i64 _ _ m rfl rfl rfl rfl (by omega) fun w5 h1 h2 => ?_; have HX5 := hide (HX4.out.next h2); rw [iv_zeros (R := R)] at h1; have HO5 := hide h1; have HE5 := hide (HE4.out.below h2); have HD5 := hide (HD4.out.below h2); have HT5 := hide (HT4.out.below h2); clear h1 h2)
    have HS5 := hide (HO5.out.lt (g := w4.heap.size) rfl).2
    have HNW := hide HX4.out.lt
    go_loopw [40] (fun i wr => FoRel w p k g l c m w4.heap.size γ A1 A2 A3 A4 (m + 1) o d L O D (fvK (numE h.fld) γ l c S J) i wr) (fun i _ => m - (intOf i).toNat)
    case atStart => exact ⟨0, by omega, rfl, HO5.out, HE5.out, HD5.out, HT5.out, HS5.out, HX5.out⟩
    case round =>
      clear HX HX1 HX2 HX3 HX4 HX5 HO5 HE4 HE5 HD4 HD5 HT4 HT5 HS5 HI1 c0 c1 c2 c3 c4
      obtain ⟨j, hj, rfl, HOw, HE, HDr, HT, HS, HX⟩ := hrel
      have HX := hide HX
      have HOw := hide HOw
      have HE := hide HE
      have HDr := hide HDr
      have HT := hide HT
      have HS := hide HS
      by_cases hlt : j < m
      · obtain ⟨b, off, z', rfl, hb, hz, hc⟩ := (HI'.out.below (HX.out.2.mono hB)).at_ hlt
        obtain ⟨z, hzJ, rfl⟩ := nv_get hz
        have hzl : z < l := hJ z (List.mem_of_getElem? hzJ)
        obtain ⟨b5, o5, x, rfl, hb5, hx, hc5⟩ := HT.out.at_ hzl
        rw [iv_at (by rw [invT_len]; exact hzl), invT_at hzl] at hx
        simp only [Option.some.injEq] at hx
        subst hx
        obtain ⟨x, hx⟩ : ∃ x, x = (lcE γ l z).inv := ⟨_, rfl⟩
        rw [← hx] at hc5
        obtain ⟨s, hs⟩ : ∃ s, ev x D = s := ⟨_, rfl⟩
        obtain ⟨v, hv⟩ : ∃ v, ev x O = v := ⟨_, rfl⟩
        have HSS := hide hs
        have HVV := hide hv
        have HY := hide (fillT_step (l := m) (f := fvK (numE h.fld) γ l c S J) (j := j) (y := -(v * s.inv)) (by
          rw [fvK, List.getD_eq_getElem?_getD, hzJ]
          show -(v * s.inv) = fvE (numE h.fld) c S (locs γ l J) (lcE γ l z)
          rw [fvE, ← hx, HL.out, ← derP_is h.fld, HD.out, show omeg c S L = O by rw [← HL.out]; exact HO.out, hs, hv]))
        have HC5 := hide hc5
        have hb5r : b5 < wr.heap.size := Nat.lt_trans hb5 HS.out
        clear hx hz hzJ hc5 hs hv
        go_wp2_with fail
        go_region_held3 (fun w' => w'.cell? ⟨w.heap.size, 0, none⟩ = some (.int .i64 p) ∧ w'.cell? ⟨w.heap.size, 1, none⟩ = some (.int .i64 k) ∧ w'.cell? ⟨w.heap.size, 2, none⟩ = some (.int .i64 g) ∧ w'.cell? ⟨b5, o5 + z, none⟩ = some (.int .i64 (x.val : Int)))
          (first
            | exact ⟨HX.out.drew.cells.1, HX.out.drew.cells.2.1, HX.out.drew.cells.2.2.1, HC5.out⟩
            | exact ⟨HX2.out.cells.1, HX2.out.cells.2.1, HX2.out.cells.2.2.1, HC52.out⟩)
          ((go_at_call 128; refine (implValueAt h.fld x D A3 d m3 w4.heap.size _ HDr.out.drew (Nat.le_of_lt HS.out) (by omega)).mono ?_; rw [HSS.out]; rintro e w2 ⟨rfl, hb2⟩; have HX2 := hide (HX.out.drew.next hb2); have HC52 := hide ((hb2.cell (p := ⟨b5, o5 + z, none⟩) hb5r).trans HC5.out); have HO2 := hide (HOw.out.drew.below hb2 (Nat.le_refl _)); have HE2 := hide (HE.out.drew.below (hb2.mono (Nat.le_of_lt HS.out))); have HD2 := hide (HDr.out.drew.below (hb2.mono (Nat.le_of_lt HS.out))); have HT2 := hide (HT.out.drew.below (hb2.mono (Nat.le_of_lt HS.out))); have HS2 := hide (Nat.lt_of_lt_of_le HS.out hb2.size); clear hb2))
        have hb5r2 : b5 < w2.heap.size := Nat.lt_trans hb5 HS2.out
        clear HX HOw HE HDr HT HS HC5
        go_wp2_with fail
        go_region_held3 (fun w' => w'.cell? ⟨w.heap.size, 0, none⟩ = some (.int .i64 p) ∧ w'.cell? ⟨w.heap.size, 1, none⟩ = some (.int .i64 k) ∧ w'.cell? ⟨w.heap.size, 2, none⟩ = some (.int .i64 g) ∧ w'.cell? ⟨b5, o5 + z, none⟩ = some (.int .i64 (x.val : Int)))
          (first
            | exact ⟨HX2.out.drew.cells.1, HX2.out.drew.cells.2.1, HX2.out.drew.cells.2.2.1, HC52.out⟩
            | exact ⟨HX3.out.cells.1, HX3.out.cells.2.1, HX3.out.cells.2.2.1, HC53.out⟩)
          ((go_at_call 128; refine (implValueAt h.fld x O A2 o m2 w4.heap.size _ HE2.out.drew (Nat.le_of_lt HS2.out) (by omega)).mono ?_; rw [HVV.out]; rintro e w3 ⟨rfl, hb3⟩; have HX3 := hide (HX2.out.drew.next hb3); have HC53 := hide ((hb3.cell (p := ⟨b5, o5 + z, none⟩) hb5r2).trans HC52.out); have HO3 := hide (HO2.out.drew.below hb3 (Nat.le_refl _)); have HE3 := hide (HE2.out.drew.below (hb3.mono (Nat.le_of_lt HS2.out))); have HD3 := hide (HD2.out.drew.below (hb3.mono (Nat.le_of_lt HS2.out))); have HT3 := hide (HT2.out.drew.below (hb3.mono (Nat.le_of_lt HS2.out))); have HS3 := hide (Nat.lt_of_lt_of_le HS2.out hb3.size); clear hb3))
        clear HX2 HO2 HE2 HD2 HT2 HS2 HC52 HC53
        obtain ⟨u, hcx⟩ : ∃ u : Int, w3.cell? ⟨w4.heap.size, j, none⟩ = some (.int .i64 u) := ⟨_, HO3.out.cellAt (j := j) (iv_at (by rw [tab_len]; exact hlt))⟩
        have HCX := hide hcx
        have HFZ := hide (HO3.out.frozenAt j)
        clear hcx
        go_wp2_with fail
        go_region_held3 (fun w' => w'.cell? ⟨w.heap.size, 0, none⟩ = some (.int .i64 p) ∧ w'.cell? ⟨w.heap.size, 1, none⟩ = some (.int .i64 k) ∧ w'.cell? ⟨w.heap.size, 2, none⟩ = some (.int .i64 g) ∧ w'.frozen? ⟨w4.heap.size, j, none⟩ = false)
          (first
            | exact ⟨HX3.out.drew.cells.1, HX3.out.drew.cells.2.1, HX3.out.drew.cells.2.2.1, HFZ.out⟩
            | exact ⟨HX6.out.cells.1, HX6.out.cells.2.1, HX6.out.cells.2.2.1, HF6.out⟩
            | exact ⟨HX7.out.cells.1, HX7.out.cells.2.1, HX7.out.cells.2.2.1, HF7.out⟩
            | exact ⟨HX8.out.cells.1, HX8.out.cells.2.1, HX8.out.cells.2.2.1, HF8.out⟩
            | exact HS9.out)
          (first
            | (go_at_call 119; refine (implInvE h.fld s _).mono ?_; rintro e w6 ⟨rfl, hb6⟩; have HX6 := hide (HX3.out.drew.next hb6); have HO6 := hide (HO3.out.drew.below hb6 (Nat.le_refl _)); have HF6 := hide (HO6.out.frozenAt j); have HB6 := hide hb6; clear hb6)
            | (go_at_call 121; refine (implProdE h.fld v s.inv _).mono ?_; rintro e w7 ⟨rfl, hb7⟩; have HX7 := hide (HX6.out.next hb7); have HO7 := hide (HO6.out.below hb7 (Nat.le_refl _)); have HF7 := hide (HO7.out.frozenAt j); have HB7 := hide (HB6.out.trans (hb7.mono HB6.out.size)); clear hb7)
            | (go_at_call 91; refine (implNegE h.fld (v * s.inv) _).mono ?_; rintro e w8 ⟨rfl, hb8⟩; have HX8 := hide (HX7.out.next hb8); have HO8 := hide (HO7.out.below hb8 (Nat.le_refl _)); have HF8 := hide (HO8.out.frozenAt j); have HB8 := hide (HB7.out.trans (hb8.mono HB7.out.size)); have hcx8 := (HB8.out.cell (p := ⟨w4.heap.size, j, none⟩) HS3.out).trans HCX.out; have HO9 := hide (HO8.out.stored j ((-(v * s.inv)).val : Nat)).1; have HG9 := hide (HO8.out.stored j ((-(v * s.inv)).val : Nat)).2; have HX9 := hide (HX8.out.grow HG9.out (fun r hr => by injection hr with hr; have := HNW.out; omega)); have HS9 := hide (And.intro HX9.out.cells.1 (And.intro HX9.out.cells.2.1 (And.intro HX9.out.cells.2.2.1 (HO9.out.frozenAt j)))); have HB9 := hide (show Below w4.heap.size w3.drew (w8.setCell ⟨w4.heap.size, j, none⟩ (.int .i64 ((-(v * s.inv)).val : Nat))) from (HB8.out.mono (Nat.le_of_lt HS3.out)).grown HG9.out (Nat.le_trans (Nat.le_of_lt HS3.out) HB8.out.size) (fun r hr => by injection hr with hr; omega)); have HSZ := hide (Nat.lt_of_lt_of_le HS3.out (Nat.le_trans HB8.out.size HG9.out.size)); clear hb8))
        rw [iv_set, HY.out] at HO9
        have HE9 := hide (HE3.out.drew.below HB9.out)
        have HD9 := hide (HD3.out.drew.below HB9.out)
        have HT9 := hide (HT3.out.drew.below HB9.out)
        clear HX3 HO3 HE3 HD3 HT3 HCX HFZ HX6 HO6 HF6 HB6 HX7 HO7 HF7 HB7 HX8 HO8 HF8 HB8 hcx8 HS9 HG9
        go_wp2_with fail
        go_roundw
        case rel => exact ⟨j + 1, by omega, by go_num, HO9.out, HE9.out, HD9.out, HT9.out, HSZ.out, HX9.out⟩
        case measure => simp [intOf]; omega
      · obtain rfl : j = m := by omega
        have HF := hide (show (tab j fun i => if i < j then fvK (numE h.fld) γ l c S J i else 0) = fvs (numE h.fld) γ l c S J by rw [← HZ.out, HJM.out]; exact tab_congr fun i hi => if_pos hi)
        have HO8 := hide HOw.out
        rw [HF.out] at HO8
        have HG := hide (show NewIB (iv (fvs (numE h.fld) γ l c S J)) (valB γ l c S J) w (.returned (.tuple #[.slice (some ⟨w4.heap.size, 0, none⟩) j j, .bool true])) wr by rw [HVB.out]; exact newIB_of (w := w) (c := true) HO8.out HX.out.2 (Nat.le_of_lt HNW.out))
        go_wp2_with fail
        go_ret2
        exact HG.out
end
end Go.Proofs.YtlphodhecaagbaaGreat
