/-
  Which families are valid: the model's IsFamily.
  Condition: as each statement says.
-/
import Derived.Test.YtncgeoliboidhaaGreatFmSpec3
import Derived.Test.YtncgeoliboidhaaGreatFmImpl3
namespace Go.Proofs.YtncgeoliboidhaaGreat
open Go.RowKit
set_option linter.unusedSimpArgs false
set_option linter.unusedVariables false

theorem pct_in : pctB = fun z => inR z 1 80 := rfl
theorem row_in : rowB = fun z => inR z 3 24 := rfl
theorem rise_and {a b : Int → Bool} {zs : List Int} : ∀ {o : Option Int}, riseF (fun z => a z && b z) o zs = (riseF a o zs && zs.all b) := by
  induction zs with
  | nil => intro o; rfl
  | cons x zs ih =>
    intro o
    rw [riseF, riseF, List.all_cons, ih]
    cases a x <;> cases b x <;> cases aft o x <;> simp
theorem msz_in : mszB = fun z => inR z 17 41 && (z % 4 == 1) := by
  funext z
  unfold mszB inR
  rw [Bool.eq_iff_iff]
  simp only [decide_eq_true_eq, Bool.and_eq_true, beq_iff_eq, and_assoc]
theorem ch_msz (zs : List Int) : chB mszB 8 zs = (chB (fun z => inR z 17 41) 8 zs && zs.all (fun z => z % 4 == 1)) := by
  rw [chB, chB, msz_in, rise_and, Bool.and_assoc]
theorem fs_fld {bs : List Int} {κ p k g : Int} {zs : List Int} {c : Int} {ls : List Int} (h : fieldB p k g = false) : fmB bs κ p k g zs c ls = false := by
  have h1 : matB κ p k g c = false := by rw [matB, h, Bool.and_false]
  have h2 : stkB κ p k g c = false := by
    rcases hs : stkB κ p k g c with _ | _
    · rfl
    · rw [stk_field hs] at h; cases h
  exact fm_kd h1 h2
theorem fs_lv {bs : List Int} {κ p k g : Int} {zs : List Int} {c : Int} {ls : List Int} (h : chB pctB 4 ls = false) : fmB bs κ p k g zs c ls = false := by rw [fmB, h, Bool.and_false]
theorem fs_mat {bs : List Int} {κ p k g : Int} {zs : List Int} {C : Int} {ls : List Int} (h0 : nmB bs = true) (h1 : fieldB p k g = true) (h2 : chB pctB 4 ls = true) (hk : (κ == 2) = false) :
    fmB bs κ p k g zs C ls = ((κ == 1) && (p == 2) && (C == 0) && chB (fun z => inR z 17 41) 8 zs && zs.all (fun z => z % 4 == 1)) := by
  have hs : stkB κ p k g C = false := by rw [stkB, decide_eq_false_iff_not]; intro h; rw [h.1] at hk; cases hk
  rw [fmB, h0, h2, hs, ch_msz, matB, h1]
  rw [Bool.eq_iff_iff]
  simp only [Bool.and_eq_true, Bool.or_eq_true, decide_eq_true_eq, beq_iff_eq, Bool.false_and, Bool.false_eq_true, or_false, and_true, true_and]
  constructor
  · rintro ⟨⟨a, b, c⟩, d, e⟩; exact ⟨⟨⟨⟨a, c⟩, b⟩, d⟩, e⟩
  · rintro ⟨⟨⟨⟨a, c⟩, b⟩, d⟩, e⟩; exact ⟨⟨a, b, c⟩, d, e⟩
theorem fs_stk {bs : List Int} {κ p k g : Int} {zs : List Int} {C : Int} {ls : List Int} (h0 : nmB bs = true) (h1 : fieldB p k g = true) (h2 : chB pctB 4 ls = true) (hk : (κ == 2) = true) :
    fmB bs κ p k g zs C ls = ((p == 2 && k == 5 && g == 37) && inR C 1 8 && chB (fun z => inR z 3 24) 8 zs) := by
  have hk2 : κ = 2 := by simpa using hk
  have hm : matB κ p k g C = false := by rw [matB, decide_eq_false (by omega), Bool.false_and]
  rw [fmB, h0, h2, hm, stkB, hk2, row_in]
  unfold inR
  rw [Bool.eq_iff_iff]
  simp only [Bool.and_eq_true, Bool.or_eq_true, decide_eq_true_eq, beq_iff_eq, Bool.false_and, Bool.false_eq_true, false_or, and_true, true_and]
  constructor
  · rintro ⟨⟨a, b, c, d, e⟩, f⟩; exact ⟨⟨⟨⟨c, d⟩, e⟩, a, b⟩, f⟩
  · rintro ⟨⟨⟨⟨c, d⟩, e⟩, a, b⟩, f⟩; exact ⟨⟨a, b, c, d, e⟩, f⟩

set_option maxRecDepth 100000 in
set_option maxHeartbeats 16000000 in
theorem specIsFm (s : ByteArray) (κ p k g : Int) (A : Option Addr) (n c : Nat) (C : Int) (A' : Option Addr) (n' c' B : Nat) (zs ls : List Int) (w : World) (hs : s.size ≤ 1099511627776)
    (hI : Ints .i64 w B A n zs) (hJ : Ints .i64 w B A' n' ls) (hB : B ≤ w.heap.size) (hn : n ≤ 1099511627776) (hn' : n' ≤ 1099511627776) :
    Calls Tryz.prog 25 #[.agg #[.string s, .int .i64 κ, .int .i64 p, .int .i64 k, .int .i64 g, .slice A n c, .int .i64 C, .slice A' n' c']] w (Gives (.bool (fmB (bytesI s) κ p k g zs C ls)) w) := by
  have HNM := hide (fun w' => specNm s hs w')
  have HFI := hide (fun w' => specIsField p k g w')
  have HLV := hide (fun w' h1 h2 => show Calls Tryz.prog 69 #[.slice A' n' c', .int .i64 4, .int .i64 1, .int .i64 80] w' (Gives (.bool (chB pctB 4 ls)) w') from specRises A' n' c' B 4 1 80 ls w' h1 h2 hn' (by omega))
  have HMT := hide (fun w' h1 h2 => show Calls Tryz.prog 69 #[.slice A n c, .int .i64 8, .int .i64 17, .int .i64 41] w' (Gives (.bool (chB (fun z => inR z 17 41) 8 zs)) w') from specRises A n c B 8 17 41 zs w' h1 h2 hn (by omega))
  have HST := hide (fun w' h1 h2 => show Calls Tryz.prog 69 #[.slice A n c, .int .i64 8, .int .i64 3, .int .i64 24] w' (Gives (.bool (chB (fun z => inR z 3 24) 8 zs)) w') from specRises A n c B 8 3 24 zs w' h1 h2 hn (by omega))
  have HFO := hide (fun w' => show Calls Tryz.prog 54 #[.int .i64 32] w' (GivesF 2 5 37 (foC 32) w') by
    have h := specFieldOf 32 w'
    obtain ⟨e1, e2, e3⟩ := fo32
    rw [e1, e2, e3] at h; exact h)
  have HX := hide (FBox.start w s κ p k g A n c C A' n' c')
  obtain ⟨c0, c1, c2, c3, c4, c5, c6, c7⟩ := HX.out.cells
  have HI := hide hI
  have HJ := hide hJ
  have HBW := hide hB
  have HLN := hide hI.len
  clear hI hJ hB
  -- ISFAMILY
  rcases h0 : nmB (bytesI s) with _ | _
  · rw [h0] at HNM
    have HF := hide (fm_nm (κ := κ) (p := p) (k := k) (g := g) (zs := zs) (c := C) (ls := ls) h0)
    clear h0
    go_enter Tryz.func25, Tryz.ntmps25
    go_wp2_with fail
    refine (HNM.out _).mono ?_
    rintro e _ ⟨rfl, rfl⟩
    go_wp2_with fail
    go_ret
    exact ⟨ret_bool (HF.out), HX.out.2⟩
  rw [h0] at HNM
  rcases h1 : fieldB p k g with _ | _
  · rw [h1] at HFI
    have HF := hide (fs_fld (bs := bytesI s) (κ := κ) (zs := zs) (c := C) (ls := ls) h1)
    clear h0 h1
    go_enter Tryz.func25, Tryz.ntmps25
    go_wp2_with fail
    refine (HNM.out _).mono ?_
    rintro e _ ⟨rfl, rfl⟩
    go_wp2_with fail
    refine (HFI.out _).mono ?_
    rintro e w1 ⟨rfl, hb⟩
    have HX1 := hide (HX.out.next hb)
    clear hb c0 c1 c2 c3 c4 c5 c6 c7
    obtain ⟨c0, c1, c2, c3, c4, c5, c6, c7⟩ := HX1.out.cells
    go_wp2_with fail
    go_ret
    exact ⟨ret_bool (HF.out), HX1.out.2⟩
  rw [h1] at HFI
  rcases h2 : chB pctB 4 ls with _ | _
  · rw [h2] at HLV
    have HF := hide (fs_lv (bs := bytesI s) (κ := κ) (p := p) (k := k) (g := g) (zs := zs) (c := C) h2)
    clear h0 h1 h2
    go_enter Tryz.func25, Tryz.ntmps25
    go_wp2_with fail
    refine (HNM.out _).mono ?_
    rintro e _ ⟨rfl, rfl⟩
    go_wp2_with fail
    refine (HFI.out _).mono ?_
    rintro e w1 ⟨rfl, hb⟩
    have HX1 := hide (HX.out.next hb)
    clear hb c0 c1 c2 c3 c4 c5 c6 c7
    obtain ⟨c0, c1, c2, c3, c4, c5, c6, c7⟩ := HX1.out.cells
    go_wp2_with fail
    refine (HLV.out _ (HJ.out.below (HX1.out.2.mono HBW.out)) (Nat.le_trans HBW.out (Nat.le_of_lt HX1.out.lt))).mono ?_
    rintro e w2 ⟨rfl, hb⟩
    have HX2 := hide (HX1.out.next hb)
    clear hb c0 c1 c2 c3 c4 c5 c6 c7
    obtain ⟨c0, c1, c2, c3, c4, c5, c6, c7⟩ := HX2.out.cells
    go_wp2_with fail
    go_ret
    exact ⟨ret_bool (HF.out), HX2.out.2⟩
  rw [h2] at HLV
  rcases hk : (κ == 2) with _ | _
  · have HS := hide (fs_mat (C := C) (zs := zs) h0 h1 h2 hk)
    clear h0 h1 h2
    rcases h3 : (κ == 1) with _ | _
    · have HF := hide (show fmB (bytesI s) κ p k g zs C ls = false by rw [HS.out, h3]; rfl)
      have h3' : (κ != 1) = true := by simp only [bne, h3, Bool.not_false]
      go_enter Tryz.func25, Tryz.ntmps25
      go_wp2_with fail
      refine (HNM.out _).mono ?_
      rintro e _ ⟨rfl, rfl⟩
      go_wp2_with fail
      refine (HFI.out _).mono ?_
      rintro e w1 ⟨rfl, hb⟩
      have HX1 := hide (HX.out.next hb)
      clear hb c0 c1 c2 c3 c4 c5 c6 c7
      obtain ⟨c0, c1, c2, c3, c4, c5, c6, c7⟩ := HX1.out.cells
      go_wp2_with fail
      refine (HLV.out _ (HJ.out.below (HX1.out.2.mono HBW.out)) (Nat.le_trans HBW.out (Nat.le_of_lt HX1.out.lt))).mono ?_
      rintro e w2 ⟨rfl, hb⟩
      have HX2 := hide (HX1.out.next hb)
      clear hb c0 c1 c2 c3 c4 c5 c6 c7
      obtain ⟨c0, c1, c2, c3, c4, c5, c6, c7⟩ := HX2.out.cells
      go_wp2_with fail
      go_wp2_with fail
      go_ret
      exact ⟨ret_bool (HF.out), HX2.out.2⟩
    have h3' : (κ != 1) = false := by simp only [bne, h3, Bool.not_true]
    rcases h4 : (p == 2) with _ | _
    · have HF := hide (show fmB (bytesI s) κ p k g zs C ls = false by rw [HS.out, h4, Bool.and_false]; rfl)
      have h4' : (p != 2) = true := by simp only [bne, h4, Bool.not_false]
      go_enter Tryz.func25, Tryz.ntmps25
      go_wp2_with fail
      refine (HNM.out _).mono ?_
      rintro e _ ⟨rfl, rfl⟩
      go_wp2_with fail
      refine (HFI.out _).mono ?_
      rintro e w1 ⟨rfl, hb⟩
      have HX1 := hide (HX.out.next hb)
      clear hb c0 c1 c2 c3 c4 c5 c6 c7
      obtain ⟨c0, c1, c2, c3, c4, c5, c6, c7⟩ := HX1.out.cells
      go_wp2_with fail
      refine (HLV.out _ (HJ.out.below (HX1.out.2.mono HBW.out)) (Nat.le_trans HBW.out (Nat.le_of_lt HX1.out.lt))).mono ?_
      rintro e w2 ⟨rfl, hb⟩
      have HX2 := hide (HX1.out.next hb)
      clear hb c0 c1 c2 c3 c4 c5 c6 c7
      obtain ⟨c0, c1, c2, c3, c4, c5, c6, c7⟩ := HX2.out.cells
      go_wp2_with fail
      go_wp2_with fail
      go_ret
      exact ⟨ret_bool (HF.out), HX2.out.2⟩
    have h4' : (p != 2) = false := by simp only [bne, h4, Bool.not_true]
    rcases h5 : (C == 0) with _ | _
    · have HF := hide (show fmB (bytesI s) κ p k g zs C ls = false by rw [HS.out, h5, Bool.and_false]; rfl)
      have h5' : (C != 0) = true := by simp only [bne, h5, Bool.not_false]
      go_enter Tryz.func25, Tryz.ntmps25
      go_wp2_with fail
      refine (HNM.out _).mono ?_
      rintro e _ ⟨rfl, rfl⟩
      go_wp2_with fail
      refine (HFI.out _).mono ?_
      rintro e w1 ⟨rfl, hb⟩
      have HX1 := hide (HX.out.next hb)
      clear hb c0 c1 c2 c3 c4 c5 c6 c7
      obtain ⟨c0, c1, c2, c3, c4, c5, c6, c7⟩ := HX1.out.cells
      go_wp2_with fail
      refine (HLV.out _ (HJ.out.below (HX1.out.2.mono HBW.out)) (Nat.le_trans HBW.out (Nat.le_of_lt HX1.out.lt))).mono ?_
      rintro e w2 ⟨rfl, hb⟩
      have HX2 := hide (HX1.out.next hb)
      clear hb c0 c1 c2 c3 c4 c5 c6 c7
      obtain ⟨c0, c1, c2, c3, c4, c5, c6, c7⟩ := HX2.out.cells
      go_wp2_with fail
      go_wp2_with fail
      go_ret
      exact ⟨ret_bool (HF.out), HX2.out.2⟩
    have h5' : (C != 0) = false := by simp only [bne, h5, Bool.not_true]
    rcases h6 : chB (fun z => inR z 17 41) 8 zs with _ | _
    · have HF := hide (show fmB (bytesI s) κ p k g zs C ls = false by rw [HS.out, h6, Bool.and_false]; rfl)
      rw [h6] at HMT
      go_enter Tryz.func25, Tryz.ntmps25
      go_wp2_with fail
      refine (HNM.out _).mono ?_
      rintro e _ ⟨rfl, rfl⟩
      go_wp2_with fail
      refine (HFI.out _).mono ?_
      rintro e w1 ⟨rfl, hb⟩
      have HX1 := hide (HX.out.next hb)
      clear hb c0 c1 c2 c3 c4 c5 c6 c7
      obtain ⟨c0, c1, c2, c3, c4, c5, c6, c7⟩ := HX1.out.cells
      go_wp2_with fail
      refine (HLV.out _ (HJ.out.below (HX1.out.2.mono HBW.out)) (Nat.le_trans HBW.out (Nat.le_of_lt HX1.out.lt))).mono ?_
      rintro e w2 ⟨rfl, hb⟩
      have HX2 := hide (HX1.out.next hb)
      clear hb c0 c1 c2 c3 c4 c5 c6 c7
      obtain ⟨c0, c1, c2, c3, c4, c5, c6, c7⟩ := HX2.out.cells
      go_wp2_with fail
      refine (HMT.out _ (HI.out.below (HX2.out.2.mono HBW.out)) (Nat.le_trans HBW.out (Nat.le_of_lt HX2.out.lt))).mono ?_
      rintro e w3 ⟨rfl, hb⟩
      have HX3 := hide (HX2.out.next hb)
      clear hb c0 c1 c2 c3 c4 c5 c6 c7
      obtain ⟨c0, c1, c2, c3, c4, c5, c6, c7⟩ := HX3.out.cells
      go_wp2_with fail
      go_ret
      exact ⟨ret_bool (HF.out), HX3.out.2⟩
    rw [h6] at HMT
    have HAL := hide (show fmB (bytesI s) κ p k g zs C ls = zs.all (fun z => z % 4 == 1) by rw [HS.out, h3, h4, h5, h6]; simp)
    have HRG := hide (fun z hz => rise_ok (chB_rise h6) z hz)
    clear h6
    go_enter Tryz.func25, Tryz.ntmps25
    go_wp2_with fail
    refine (HNM.out _).mono ?_
    rintro e _ ⟨rfl, rfl⟩
    go_wp2_with fail
    refine (HFI.out _).mono ?_
    rintro e w1 ⟨rfl, hb⟩
    have HX1 := hide (HX.out.next hb)
    clear hb c0 c1 c2 c3 c4 c5 c6 c7
    obtain ⟨c0, c1, c2, c3, c4, c5, c6, c7⟩ := HX1.out.cells
    go_wp2_with fail
    refine (HLV.out _ (HJ.out.below (HX1.out.2.mono HBW.out)) (Nat.le_trans HBW.out (Nat.le_of_lt HX1.out.lt))).mono ?_
    rintro e w2 ⟨rfl, hb⟩
    have HX2 := hide (HX1.out.next hb)
    clear hb c0 c1 c2 c3 c4 c5 c6 c7
    obtain ⟨c0, c1, c2, c3, c4, c5, c6, c7⟩ := HX2.out.cells
    go_wp2_with fail
    refine (HMT.out _ (HI.out.below (HX2.out.2.mono HBW.out)) (Nat.le_trans HBW.out (Nat.le_of_lt HX2.out.lt))).mono ?_
    rintro e w3 ⟨rfl, hb⟩
    have HX3 := hide (HX2.out.next hb)
    clear hb c0 c1 c2 c3 c4 c5 c6 c7
    obtain ⟨c0, c1, c2, c3, c4, c5, c6, c7⟩ := HX3.out.cells
    go_wp2_with fail
    go_loopw [5] (fun i wr => ∃ j : Nat, j ≤ n ∧ i = .int .i64 j ∧ Hid ((zs.drop j).all (fun z => z % 4 == 1) = zs.all (fun z => z % 4 == 1)) ∧ wr = w3) (fun i _ => n - (intOf i).toNat)
    case atStart => exact ⟨0, by omega, rfl, hide rfl, rfl⟩
    case round =>
      obtain ⟨j, hj, rfl, HR, rfl⟩ := hrel
      by_cases hlt : j < n
      · obtain ⟨b, off, z, rfl, hb, hz, hc⟩ := (HI.out.below (HX3.out.2.mono HBW.out)).at_ hlt
        have hr := HRG.out z (List.mem_of_getElem? hz)
        have hr1 : 17 ≤ z ∧ z ≤ 41 := of_decide_eq_true hr
        have HST := hide (all_step (f := fun z => z % 4 == 1) hz)
        obtain ⟨m, rfl⟩ : ∃ m : Nat, z = m := ⟨z.toNat, by omega⟩
        obtain ⟨y, hy⟩ : ∃ y, m % 4 = y := ⟨_, rfl⟩
        have e1 : (m : Int).tmod 4 = (y : Int) := by rw [← hy, Int.tmod_eq_emod_of_nonneg (by omega)]; rfl
        have HY := hide (show ((m : Int) % 4 == 1) = (y == 1) by rw [← hy, Bool.eq_iff_iff, beq_iff_eq, beq_iff_eq]; omega)
        have hy4 : y < 4 := by omega
        clear hr hr1 hz hy
        by_cases hy1 : y = 1
        · subst hy1
          have HN := hide (show (zs.drop (j + 1)).all (fun z => z % 4 == 1) = zs.all (fun z => z % 4 == 1) by rw [← HR.out, HST.out, HY.out]; rfl)
          go_wp2_with fail
          go_roundw
          case rel => exact ⟨j + 1, by omega, by go_num, HN, by first | exact trivial | rfl⟩
          case measure => simp [intOf]; omega
        · have e2 : ((y : Int) != 1) = true := by simp [bne]; omega
          have HF := hide (show fmB (bytesI s) κ p k g zs C ls = false by rw [HAL.out, ← HR.out, HST.out, HY.out]; simp [hy1])
          go_wp2_with fail
          go_ret
          exact ⟨ret_bool (HF.out), HX3.out.2⟩
      · have HF := hide (show fmB (bytesI s) κ p k g zs C ls = true by rw [HAL.out, ← HR.out, List.drop_of_length_le (by rw [HLN.out]; omega)]; rfl)
        go_wp2_with fail
        go_ret
        exact ⟨ret_bool (HF.out), HX3.out.2⟩
  · have HS := hide (fs_stk (C := C) (zs := zs) (p := p) (k := k) (g := g) h0 h1 h2 hk)
    clear h0 h1 h2
    have hbf : ∀ wx : World, Below wx.heap.size wx (wx.alloc (.cells #[.int .i64 2, .int .i64 5, .int .i64 37] 25)) := fun wx => (Below.refl _ _).alloc (Nat.le_refl _) _
    have HBF := hide hbf
    clear hbf
    rcases hq : (p == 2 && k == 5 && g == 37) with _ | _
    · have HF := hide (show fmB (bytesI s) κ p k g zs C ls = false by rw [HS.out, hq]; rfl)
      rcases b1 : (p == 2) with _ | _ <;> rcases b2 : (k == 5) with _ | _ <;> rcases b3 : (g == 37) with _ | _ <;>
      ( first
        | (exact absurd hq (by rw [b1, b2, b3]; decide))
        | (
          go_enter Tryz.func25, Tryz.ntmps25
          go_wp2_with fail
          refine (HNM.out _).mono ?_
          rintro e _ ⟨rfl, rfl⟩
          go_wp2_with fail
          refine (HFI.out _).mono ?_
          rintro e w1 ⟨rfl, hb⟩
          have HX1 := hide (HX.out.next hb)
          clear hb c0 c1 c2 c3 c4 c5 c6 c7
          obtain ⟨c0, c1, c2, c3, c4, c5, c6, c7⟩ := HX1.out.cells
          go_wp2_with fail
          refine (HLV.out _ (HJ.out.below (HX1.out.2.mono HBW.out)) (Nat.le_trans HBW.out (Nat.le_of_lt HX1.out.lt))).mono ?_
          rintro e w2 ⟨rfl, hb⟩
          have HX2 := hide (HX1.out.next hb)
          clear hb c0 c1 c2 c3 c4 c5 c6 c7
          obtain ⟨c0, c1, c2, c3, c4, c5, c6, c7⟩ := HX2.out.cells
          go_wp2_with fail
          refine (HFO.out _).mono ?_
          rintro e w3 ⟨rfl, hb⟩
          have HX3 := hide ((HX2.out.next hb).next (HBF.out w3))
          obtain ⟨c0, c1, c2, c3, c4, c5, c6, c7⟩ := HX3.out.cells
          have HZ3 := hide (heap_alloc_new w3 (.cells #[.int .i64 2, .int .i64 5, .int .i64 37] 25))
          obtain ⟨w4, hw4⟩ : ∃ w4, w3.alloc (.cells #[.int .i64 2, .int .i64 5, .int .i64 37] 25) = w4 := ⟨_, rfl⟩
          rw [hw4] at HX3 HZ3
          clear hb c0 c1 c2 c3 c4 c5 c6 c7
          obtain ⟨c0, c1, c2, c3, c4, c5, c6, c7⟩ := HX3.out.cells
          have z0 := cell_of_row w4 w3.heap.size 0 _ _ _ HZ3.out
          have z1 := cell_of_row w4 w3.heap.size 1 _ _ _ HZ3.out
          have z2 := cell_of_row w4 w3.heap.size 2 _ _ _ HZ3.out
          go_wp2_with fail
          go_ret
          exact ⟨ret_bool (HF.out), HX3.out.2⟩))
    · simp only [Bool.and_eq_true, beq_iff_eq] at hq
      obtain ⟨⟨rfl, rfl⟩, rfl⟩ := hq
      rcases h3 : inR C 1 8 with _ | _
      · have HF := hide (show fmB (bytesI s) κ 2 5 37 zs C ls = false by rw [HS.out, h3]; rfl)
        have HIN := hide (fun w' => specIn_is C 1 8 false w' h3)
        go_enter Tryz.func25, Tryz.ntmps25
        go_wp2_with fail
        refine (HNM.out _).mono ?_
        rintro e _ ⟨rfl, rfl⟩
        go_wp2_with fail
        refine (HFI.out _).mono ?_
        rintro e w1 ⟨rfl, hb⟩
        have HX1 := hide (HX.out.next hb)
        clear hb c0 c1 c2 c3 c4 c5 c6 c7
        obtain ⟨c0, c1, c2, c3, c4, c5, c6, c7⟩ := HX1.out.cells
        go_wp2_with fail
        refine (HLV.out _ (HJ.out.below (HX1.out.2.mono HBW.out)) (Nat.le_trans HBW.out (Nat.le_of_lt HX1.out.lt))).mono ?_
        rintro e w2 ⟨rfl, hb⟩
        have HX2 := hide (HX1.out.next hb)
        clear hb c0 c1 c2 c3 c4 c5 c6 c7
        obtain ⟨c0, c1, c2, c3, c4, c5, c6, c7⟩ := HX2.out.cells
        go_wp2_with fail
        refine (HFO.out _).mono ?_
        rintro e w3 ⟨rfl, hb⟩
        have HX3 := hide ((HX2.out.next hb).next (HBF.out w3))
        obtain ⟨c0, c1, c2, c3, c4, c5, c6, c7⟩ := HX3.out.cells
        have HZ3 := hide (heap_alloc_new w3 (.cells #[.int .i64 2, .int .i64 5, .int .i64 37] 25))
        obtain ⟨w4, hw4⟩ : ∃ w4, w3.alloc (.cells #[.int .i64 2, .int .i64 5, .int .i64 37] 25) = w4 := ⟨_, rfl⟩
        rw [hw4] at HX3 HZ3
        clear hb c0 c1 c2 c3 c4 c5 c6 c7
        obtain ⟨c0, c1, c2, c3, c4, c5, c6, c7⟩ := HX3.out.cells
        have z0 := cell_of_row w4 w3.heap.size 0 _ _ _ HZ3.out
        have z1 := cell_of_row w4 w3.heap.size 1 _ _ _ HZ3.out
        have z2 := cell_of_row w4 w3.heap.size 2 _ _ _ HZ3.out
        go_wp2_with fail
        refine (HIN.out _).mono ?_
        rintro e _ ⟨rfl, rfl⟩
        go_wp2_with fail
        go_ret
        exact ⟨ret_bool (HF.out), HX3.out.2⟩
      · have HF := hide (show fmB (bytesI s) κ 2 5 37 zs C ls = chB (fun z => inR z 3 24) 8 zs by rw [HS.out, h3]; simp)
        have HIN := hide (fun w' => specIn_is C 1 8 true w' h3)
        go_enter Tryz.func25, Tryz.ntmps25
        go_wp2_with fail
        refine (HNM.out _).mono ?_
        rintro e _ ⟨rfl, rfl⟩
        go_wp2_with fail
        refine (HFI.out _).mono ?_
        rintro e w1 ⟨rfl, hb⟩
        have HX1 := hide (HX.out.next hb)
        clear hb c0 c1 c2 c3 c4 c5 c6 c7
        obtain ⟨c0, c1, c2, c3, c4, c5, c6, c7⟩ := HX1.out.cells
        go_wp2_with fail
        refine (HLV.out _ (HJ.out.below (HX1.out.2.mono HBW.out)) (Nat.le_trans HBW.out (Nat.le_of_lt HX1.out.lt))).mono ?_
        rintro e w2 ⟨rfl, hb⟩
        have HX2 := hide (HX1.out.next hb)
        clear hb c0 c1 c2 c3 c4 c5 c6 c7
        obtain ⟨c0, c1, c2, c3, c4, c5, c6, c7⟩ := HX2.out.cells
        go_wp2_with fail
        refine (HFO.out _).mono ?_
        rintro e w3 ⟨rfl, hb⟩
        have HX3 := hide ((HX2.out.next hb).next (HBF.out w3))
        obtain ⟨c0, c1, c2, c3, c4, c5, c6, c7⟩ := HX3.out.cells
        have HZ3 := hide (heap_alloc_new w3 (.cells #[.int .i64 2, .int .i64 5, .int .i64 37] 25))
        obtain ⟨w4, hw4⟩ : ∃ w4, w3.alloc (.cells #[.int .i64 2, .int .i64 5, .int .i64 37] 25) = w4 := ⟨_, rfl⟩
        rw [hw4] at HX3 HZ3
        clear hb c0 c1 c2 c3 c4 c5 c6 c7
        obtain ⟨c0, c1, c2, c3, c4, c5, c6, c7⟩ := HX3.out.cells
        have z0 := cell_of_row w4 w3.heap.size 0 _ _ _ HZ3.out
        have z1 := cell_of_row w4 w3.heap.size 1 _ _ _ HZ3.out
        have z2 := cell_of_row w4 w3.heap.size 2 _ _ _ HZ3.out
        go_wp2_with fail
        refine (HIN.out _).mono ?_
        rintro e _ ⟨rfl, rfl⟩
        go_wp2_with fail
        refine (HST.out _ (HI.out.below (HX3.out.2.mono HBW.out)) (Nat.le_trans HBW.out (Nat.le_of_lt HX3.out.lt))).mono ?_
        rintro e w5 ⟨rfl, hb⟩
        have HX5 := hide (HX3.out.next hb)
        clear hb c0 c1 c2 c3 c4 c5 c6 c7
        obtain ⟨c0, c1, c2, c3, c4, c5, c6, c7⟩ := HX5.out.cells
        go_wp2_with fail
        go_ret
        exact ⟨ret_bool (HF.out), HX5.out.2⟩
-- END ISFAMILY
end Go.Proofs.YtncgeoliboidhaaGreat
