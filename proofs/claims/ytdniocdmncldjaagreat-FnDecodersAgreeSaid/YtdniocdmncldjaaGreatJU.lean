/-
  The contracts of the program's correction by a register: the sequence without erasures, and what is changed.
  What CorrectWord returns, case by case, of the model alone (names with S) and of the program alone (names with I).
  What CorrectByRegister of the program returns, case by case.
  What CorrectByRegister and ErrorLocator return, of the model and of the program.
  Condition: as each statement says.
-/
import Derived.Test.YtdniocdmncldjaaGreatJS
import Derived.Test.YtdniocdmncldjaaGreatDImpl6
import Derived.Test.YtdniocdmncldjaaGreatDBoth3
namespace Go.Proofs.YtdniocdmncldjaaGreat
open Go.RowKit
set_option linter.unusedSimpArgs false
set_option linter.unusedVariables false

section
variable {R : Fld} {γ : El R} {p k g : Int} {l c : Nat}
/-- The syndromes without what the erasures add. -/
def wiL (S L : List (El R)) (r n : Nat) : List (El R) := tab n fun j => ps (cf L) (cf S) (j + r)
theorem wiL_len (S L : List (El R)) (r n : Nat) : (wiL S L r n).length = n := tab_len _ _
theorem wiL_snoc (S L : List (El R)) (r n : Nat) : wiL S L r (n + 1) = wiL S L r n ++ [ps (cf L) (cf S) (n + r)] := tab_snoc _ _
def WiRel (w : World) (p k g : Int) (l c r M : Nat) (S L : List (El R)) (v i : Value) (wr : World) : Prop :=
  ∃ j t : Nat, j ≤ M ∧ t = j + r ∧ i = .int .i64 t ∧ Own wr (w.heap.size + 1) 2 .i64 v (iv (wiL S L r j)) ∧ CBox w wr p k g l c
set_option maxRecDepth 100000 in
set_option maxHeartbeats 4000000 in
theorem implWithout (h : CodeIs R γ p k g l c) (S L : List (El R)) (r M : Nat) (A A' : Option Addr) (cn m cm B : Nat) (w : World) (hI : Ints .i64 w B A c (iv S)) (hJ : Ints .i64 w B A' m (iv L)) (hB : B ≤ w.heap.size) (hm : m = r + 1) (hrM : r + M = c) :
    Calls Tryz.prog 42 #[.agg #[.int .i64 p, .int .i64 k, .int .i64 g, .int .i64 l, .int .i64 c], .slice A c cn, .slice A' m cm] w (NewE (wiL S L r M) w) := by
  have HX := hide (CBox.start w p k g l c)
  have hc64 := h.c64
  have HI := hide hI
  have HJ := hide hJ
  have HLM := hide (show L.length = m by rw [← iv_len]; exact hJ.len)
  have HM := hide hm
  have hmb : m ≤ 65 := by omega
  have hrm : r < m := by omega
  have hrc : r ≤ c := by omega
  have HRM := hide hrM
  have hw0 : IntKind.i64.wrap ((m : Int) - 1) = (r : Int) := by rw [IntWalk.i64_in _ ⟨by omega, by omega⟩]; omega
  clear hI hJ hm hrM
  go_enter Tryz.func42, Tryz.ntmps42
  go_wp2_with fail
  go_loopw [7, 8] (fun v i wr => WiRel w p k g l c r M S L v i wr) (fun _ i _ => c - (intOf i).toNat)
  case atStart => exact ⟨0, r, Nat.zero_le _, by omega, rfl, World.ownsRow_nil _ _ _ _, HX.out⟩
  case round =>
    clear HX
    obtain ⟨v, rfl⟩ : ∃ v : Value, v = u7 := ⟨_, rfl⟩
    obtain ⟨j, t, hj, htj, rfl, HO, HX⟩ := hrel
    have HO := hide HO
    have HX := hide HX
    have HTJ := hide htj
    have hrM : r + M = c := HRM.out
    by_cases hlt : j < M
    · have htc : t < c := by omega
      have hrt : r ≤ t := by omega
      have hmt : m ≤ t + 1 := by have := HM.out; omega
      obtain ⟨d, hd⟩ : ∃ d, ps (cf L) (cf S) t = d := ⟨_, rfl⟩
      have HD := hide hd
      have HSN := hide (show iv (wiL S L r j) ++ [(d.val : Int)] = iv (wiL S L r (j + 1)) by
        rw [wiL_snoc, show iv (wiL S L r j ++ [ps (cf L) (cf S) (j + r)]) = iv (wiL S L r j) ++ iv [ps (cf L) (cf S) (j + r)] from List.map_append, ← htj, hd]; rfl)
      have hlen : ((iv (wiL S L r j)).length + 1) * 8 ≤ 140737488355328 := by rw [iv_len, wiL_len]; omega
      obtain ⟨c0, c1, c2, c3, c4⟩ := HX.out.cells
      clear hd htj hrM
      go_wp2_with fail
      refine (implSumAt h.fld L S t A' A m cm c cn B _ (HJ.out.below (HX.out.2.mono hB)) (HI.out.below (HX.out.2.mono hB)) (Nat.le_trans hB (Nat.le_of_lt HX.out.lt)) htc hmt (by omega)).mono ?_
      rw [HD.out]
      rintro e w2 ⟨rfl, hb⟩
      have HX2 := hide (HX.out.next hb)
      have HO2 := hide (HO.out.below hb (Nat.le_refl _))
      have hw2 : w.heap.size + 1 ≤ w2.heap.size := HX2.out.lt
      clear hb c0 c1 c2 c3 c4
      go_wp2_with (at_builtin; refine wpList_app1 w2 rfl _ _ _ rfl elem64 (w.heap.size + 1) v _ rfl HO2.out (d.val : Int) rfl hlen hw2 ?_; intro v3 w3 hown hgrow; rw [HSN.out] at hown; have HO3 := hide hown; have HX3 := hide (HX2.out.grow hgrow (fun r hr => (HO2.out.lt hr).1)); clear hown hgrow)
      go_roundw
      case rel => exact ⟨j + 1, t + 1, by omega, by rw [HTJ.out]; omega, by go_num, HO3.out, HX3.out⟩
      case measure => simp [intOf]; omega
    · obtain rfl : j = M := by omega
      obtain rfl : t = c := by omega
      have HF := hide (newE_of (w := w) HO.out HX.out.2 (Nat.le_succ _))
      clear hlt htj hrM
      go_wp2_with fail
      go_ret
      exact HF.out

/-- What the changes are. -/
def ChPost (num : Nat → El R) (γ : El R) (l c : Nat) (E : List Nat) (ws : List (El R)) (w : World) (x : Ending) (w' : World) : Prop :=
  (∃ (J : List Nat) (A1 A2 : Option Addr) (m1 m2 : Nat), x = .returned (.tuple #[.slice A1 J.length m1, .slice A2 J.length m2, .bool true]) ∧ Ints .i64 w' w'.heap.size A1 J.length (nv J) ∧ Ints .i64 w' w'.heap.size A2 J.length (iv (J.map (fvI num γ l c (synW γ c ws) J))) ∧ Below w.heap.size w w' ∧
    Idx l J ∧ J.length ≤ c ∧ Okw γ l c E ws (corW num γ l c ws J) ∧ ∀ cw, Okw γ l c E ws cw → corW num γ l c ws J = cw) ∨
  (∃ v1 v2, x = .returned (.tuple #[v1, v2, .bool false]) ∧ Below w.heap.size w w' ∧ ∀ cw, ¬ Okw γ l c E ws cw)
set_option maxRecDepth 100000 in
set_option maxHeartbeats 16000000 in
theorem implChanges (h : CodeIs R γ p k g l c) (E : List Nat) (hE : Idx l E) (ws : List (El R)) (hwl : ws.length = l) (A1 A' : Option Addr) (m1 n cm B : Nat) (w : World) (hI : Ints .i64 w B A1 c (iv (synW γ c ws))) (hm1 : c ≤ m1) (hI' : Ints .i64 w B A' n (nv E)) (hB : B ≤ w.heap.size) :
    Calls Tryz.prog 20 #[.agg #[.int .i64 p, .int .i64 k, .int .i64 g, .int .i64 l, .int .i64 c], .slice A1 c m1, .slice A' n cm] w (ChPost (numE h.fld) γ l c E ws w) := by
  have HX := hide (CBox.start w p k g l c)
  have hl255 := h.l255
  have hc64 := h.c64
  have hcl := h.cl
  have hEn : E.length = n := by rw [← nv_len]; exact hI'.len
  have hnl : n ≤ l := by rw [← hEn]; exact hE.len
  have HI := hide hI
  have HI' := hide hI'
  have HWL := hide hwl
  have HEN := hide hEn
  have HEI := hide hE
  clear hI hI' hE hEn hwl
  obtain ⟨c0, c1, c2, c3, c4⟩ := HX.out.cells
  by_cases hnc : n ≤ c
  · obtain ⟨S, hS⟩ : ∃ S, synW γ c ws = S := ⟨_, rfl⟩
    obtain ⟨L, hL⟩ : ∃ L, locP (locs γ l E) = L := ⟨_, rfl⟩
    obtain ⟨M, hM⟩ : ∃ M, M = c - n := ⟨_, rfl⟩
    obtain ⟨T, hT⟩ : ∃ T, wiL S L n M = T := ⟨_, rfl⟩
    have HSL := hide (show S.length = c by rw [← hS, syn_len])
    have HLL := hide (show L.length = n + 1 by rw [← hL, locJ_len h.far, HEN.out])
    have HTL := hide (show T.length = M by rw [← hT, wiL_len])
    have hMb : M ≤ 64 := by omega
    have hnM : n + M = c := by omega
    have HMC := hide (show M = c - E.length by rw [HEN.out, hM])
    -- the sequence is the key equation's
    have HKT := hide (show ∀ j, j < c - E.length → cf T j = cf (keyP γ l c ws E) (j + E.length) from fun j hj => by
      rw [HEN.out] at hj ⊢
      rw [← hT, wiL, cf_tab, if_pos (by omega), keyP, cf_omeg, hS, hL]
      show _ = if j + n < c then _ else _
      rw [if_pos (by omega), ps_comm])
    obtain ⟨t, ht⟩ : ∃ t, bm (cf T) M = t := ⟨_, rfl⟩
    have HRF := hide (fun cw (ho : Okw γ l c E ws cw) => reg_found (num := numE h.fld) h.far (num_zero h.fld) (num_succ h.fld) HEI.out HWL.out ho HKT.out)
    have htl : t.C.length ≤ t.L + 1 := by rw [← ht]; exact bm_len _ _
    have htp : 0 < t.C.length := by rw [← ht]; exact bm_pos _ _
    have htM : t.L ≤ M := by rw [← ht]; exact bm_le _ _
    rw [← HMC.out, ht, hL] at HRF
    obtain ⟨q, hq⟩ : ∃ q, recL M t = q := ⟨_, rfl⟩
    obtain ⟨fd, hfd⟩ : ∃ fd, recB M t = fd := ⟨_, rfl⟩
    obtain ⟨nq, hnq⟩ : ∃ nq, (iv q).length = nq := ⟨_, rfl⟩
    have HQ := hide (show (M < 2 * t.L ∧ fd = false) ∨ (2 * t.L ≤ M ∧ fd = true ∧ q = t.C) by
      by_cases hlt : M < 2 * t.L
      · exact .inl ⟨hlt, by rw [← hfd]; exact (recL_no hlt).2⟩
      · exact .inr ⟨by omega, by rw [← hfd]; exact (recL_yes hlt).2, by rw [← hq]; exact (recL_yes hlt).1⟩)
    have HRL := hide (show iv (recL M (bm (cf T) M)) = iv q by rw [ht, hq])
    have HRB := hide (show recB M (bm (cf T) M) = fd by rw [ht, hfd])
    have HNQ := hide hnq
    have HS := hide hS
    have HL := hide hL
    have HT := hide hT
    have HTB := hide (show t.C.length ≤ t.L + 1 ∧ 0 < t.C.length ∧ t.L ≤ M from ⟨htl, htp, htM⟩)
    have z1 : decide ((c : Int) < (n : Int)) = false := by rw [decide_eq_false_iff_not]; omega
    have HIS := hide (show Ints .i64 w B A1 c (iv S) by rw [← hS]; exact HI.out)
    have HNM := hide hnM
    clear hS hL hT ht hq hfd hnq hM htl htp htM hnM HI
    go_enter Tryz.func20, Tryz.ntmps20
    go_wp2_with fail
    refine (implLocPoly h E HEI.out.2 A' n cm B _ (HI'.out.below (HX.out.2.mono hB)) (Nat.le_trans hB (Nat.le_of_lt HX.out.lt)) (by omega)).mono ?_
    rw [HL.out]
    rintro e w2 ⟨A2, m2, rfl, hm2, ho, hb⟩
    rw [HLL.out] at ho hm2 ⊢
    have HX2 := hide (HX.out.next hb)
    have HP2 := hide ((HIS.out.below (HX2.out.2.mono hB)).more (Nat.le_trans hB (Nat.le_of_lt HX2.out.lt)))
    have HQ2 := hide ho.intsE
    clear ho hb hm2 c0 c1 c2 c3 c4
    go_wp2_with fail
    go_region_held3 (fun w' => w'.cell? ⟨w.heap.size, 0, none⟩ = some (.int .i64 p) ∧ w'.cell? ⟨w.heap.size, 1, none⟩ = some (.int .i64 k) ∧ w'.cell? ⟨w.heap.size, 2, none⟩ = some (.int .i64 g) ∧ w'.cell? ⟨w.heap.size, 3, none⟩ = some (.int .i64 l) ∧ w'.cell? ⟨w.heap.size, 4, none⟩ = some (.int .i64 c))
      (first
        | exact HX2.out.drew.cells
        | exact HX3.out.cells
        | exact HX4.out.cells)
      (first
        | (go_at_call 42; refine (implWithout h S L n M A1 A2 m1 (n + 1) m2 _ _ HP2.out.drew HQ2.out.drew (Nat.le_refl _) rfl HNM.out).mono ?_; rw [HT.out]; rintro e w3 ⟨A3, m3, rfl, hm3, ho, hb⟩; rw [HTL.out] at ho hm3 ⊢; have HX3 := hide (HX2.out.drew.next hb); have HP3 := hide ((HP2.out.drew.below hb).more hb.size); have HQ3 := hide ((HQ2.out.drew.below hb).more hb.size); have HT3 := hide ho.intsE; clear ho hb hm3)
        | (go_at_call 32; refine (implRecurrence h.fld T A3 M m3 _ _ HT3.out (Nat.le_refl _) hMb).mono ?_; rw [HRL.out, HRB.out]; rintro e w4 ⟨Av, mv, rfl, hmv, ho, hb⟩; have HX4 := hide (HX3.out.next hb); have HP4 := hide ((HP3.out.below hb).more hb.size); have HQ4 := hide ((HQ3.out.below hb).more hb.size); have HV4 := hide ho.ints; rw [HNQ.out] at HV4 ⊢; clear ho hb hmv))
    rcases HQ.out with ⟨hlt, hd⟩ | ⟨hle, hd, hq⟩
    · have HF := hide (show ∀ cw, ¬ Okw γ l c E ws cw from fun cw ho => by have := (HRF.out cw ho).1; omega)
      subst hd
      clear hlt
      go_wp2_with fail
      go_ret3
      exact .inr ⟨_, _, rfl, HX4.out.2, HF.out⟩
    · have HTC := HTB.out
      rw [← hq] at HTC
      have hql : nq ≤ 100 := by rw [← HNQ.out, iv_len]; omega
      have hqr : 2 * q.length + E.length ≤ c + 2 := by have := HNM.out; have := HEN.out; omega
      obtain ⟨Pq, hPq⟩ : ∃ Pq, mulP L q = Pq := ⟨_, rfl⟩
      have HPP := hide hPq
      have HSO := hide (fun hB => reg_sound (num := numE h.fld) h.far (num_zero h.fld) (num_succ h.fld) HEI.out HWL.out (v := q) HTC.2.1 hqr hB)
      rw [HL.out, hPq] at HSO
      have HFD := hide (fun cw (ho : Okw γ l c E ws cw) => (HRF.out cw ho).2)
      rw [← hq, hPq] at HFD
      obtain ⟨nP, hnP⟩ : ∃ nP, (mulP L q).length = nP := ⟨_, rfl⟩
      have hnPb : nP ≤ 1000 := by rw [← hnP, mulP, tab_len]; unfold plen; rw [HLL.out, ← iv_len q, HNQ.out]; split <;> omega
      have HNP := hide hnP
      subst hd
      clear hPq hnP hq HTC hqr hle HQ
      go_wp2_with fail
      go_region_held3 (fun w' => w'.cell? ⟨w.heap.size, 0, none⟩ = some (.int .i64 p) ∧ w'.cell? ⟨w.heap.size, 1, none⟩ = some (.int .i64 k) ∧ w'.cell? ⟨w.heap.size, 2, none⟩ = some (.int .i64 g) ∧ w'.cell? ⟨w.heap.size, 3, none⟩ = some (.int .i64 l) ∧ w'.cell? ⟨w.heap.size, 4, none⟩ = some (.int .i64 c))
        (first
          | exact HX4.out.drew.cells
          | exact HX5.out.cells
          | exact HX6.out.cells)
        (first
          | (go_at_call 44; refine (implTimes h.fld L q A2 Av (n + 1) m2 nq mv _ _ HQ4.out.drew HV4.out.drew (Nat.le_refl _) (by omega) (by omega)).mono ?_; rintro e w5 ⟨g5, m5, rfl, ho, hg5, hb⟩; rw [HNP.out] at ho ⊢; have HX5 := hide (HX4.out.drew.next hb); have HP5 := hide ((HP4.out.drew.below hb).more hb.size); have HT5 := hide ho.intsE; clear ho hg5 hb)
          | (go_at_call 43; refine (implLocatedBy h (mulP L q) (some ⟨g5, 0, none⟩) nP m5 _ _ HT5.out (Nat.le_refl _) (by omega)).mono ?_; rw [HPP.out]; rintro e w6 ⟨A6, m6, rfl, hm6, ho, hb⟩; have HX6 := hide (HX5.out.next hb); have HP6 := hide ((HP5.out.below hb).more hb.size); have HJ6 := hide ho.ints; obtain ⟨nJ, hnJ⟩ : ∃ nJ, (nv (locJ γ l Pq)).length = nJ := ⟨_, rfl⟩; have HNJ := hide hnJ; rw [hnJ] at HJ6 ⊢; clear ho hb hm6 hnJ))
      rcases hB : locB γ l Pq with _ | _
      · have HF := hide (show ∀ cw, ¬ Okw γ l c E ws cw from fun cw ho => by
          have h1 := (HFD.out cw ho).1
          have h2 := locB_locs h.far (union_idx l E (errs l E ws cw))
          rw [← h1, hB] at h2; cases h2)
        clear hB
        go_wp2_with fail
        go_ret3
        exact .inr ⟨_, _, rfl, HX6.out.2, HF.out⟩
      · have HB := hide hB
        have HS2 := hide (HSO.out hB)
        have HJE := hide (show locJ γ l Pq = hits γ l Pq by rw [locJ, hB]; rfl)
        obtain ⟨J, hJ⟩ : ∃ J, hits γ l Pq = J := ⟨_, rfl⟩
        have HJJ := hide hJ
        have HJI := hide (show Idx l J by rw [← hJ]; exact hits_idx _ _ _)
        rw [HJE.out, hJ] at HJ6 HNJ
        rw [hJ] at HS2
        have hnJ : J.length = nJ := by rw [← HNJ.out, nv_len]
        have hnJc : nJ ≤ c := by rw [← hnJ]; exact HS2.out.1
        have HJL := hide hnJ
        have HCO := hide (show ∀ cw, Okw γ l c E ws cw → valB γ l c S J = true ∧ corW (numE h.fld) γ l c ws J = cw from fun cw ho => by
          have h1 := (HFD.out cw ho).1
          have h2 : J = union l E (errs l E ws cw) := by rw [← HJJ.out, h1, hits_locs h.far (union_idx _ _ _)]
          have := found_cor (num := numE h.fld) h.far (num_zero h.fld) (num_succ h.fld) HWL.out ho HJI.out (fun i hi => by rw [h2, union_mem]; exact ⟨fun h => h.2, fun h => ⟨hi, h⟩⟩) HS2.out.1
          rw [HS.out] at this
          exact this)
        obtain ⟨c0, c1, c2, c3, c4⟩ := HX6.out.cells
        clear hB hJ hnJ
        go_wp2_with fail
        refine (implErrorValues0 h S J HJI.out.2 A1 A6 c m1 nJ m6 _ w6 HP6.out HJ6.out (Nat.le_refl _) hm1 (by omega) (by omega)).mono ?_
        rintro e w7 ⟨A7, m7, rfl, hm7, ho, hb⟩
        have HX7 := hide (HX6.out.next hb)
        have HJ7 := hide ((HJ6.out.below hb).more hb.size)
        have HV7 := hide ho.ints
        obtain ⟨nV, hnV⟩ : ∃ nV, (iv (fvs (numE h.fld) γ l c S J)).length = nV := ⟨_, rfl⟩
        have HNV := hide hnV
        rw [hnV] at HV7 ⊢
        clear ho hb hm7 hnV c0 c1 c2 c3 c4
        rcases hvB : valB γ l c S J with _ | _
        · have HF := hide (show ∀ cw, ¬ Okw γ l c E ws cw from fun cw ho => by
            have := (HCO.out cw ho).1
            rw [hvB] at this; cases this)
          clear hvB
          go_wp2_with fail
          go_ret3
          exact .inr ⟨_, _, rfl, HX7.out.2, HF.out⟩
        · have HOK := hide (HS2.out.2 (by rw [HS.out]; exact hvB))
          have HVE := hide (show fvs (numE h.fld) γ l c S J = J.map (fvI (numE h.fld) γ l c S J) by rw [fvs, if_pos hvB])
          rw [HVE.out] at HV7 HNV
          have hnV : nV = nJ := by rw [← HNV.out, iv_len, List.length_map, HJL.out]
          subst hnV
          have HG := hide (show ChPost (numE h.fld) γ l c E ws w (.returned (.tuple #[.slice A6 nV m6, .slice A7 nV m7, .bool true])) w7 from .inl ⟨J, A6, A7, m6, m7, by rw [HJL.out], by rw [HJL.out]; exact HJ7.out, by rw [HJL.out, HS.out]; exact HV7.out, HX7.out.2, HJI.out, by rw [HJL.out]; exact hnJc, HOK.out, fun cw ho => (HCO.out cw ho).2⟩)
          clear hvB
          go_wp2_with fail
          go_ret3
          exact HG.out
  · have z1 : decide ((c : Int) < (n : Int)) = true := by rw [decide_eq_true_eq]; omega
    have HF := hide (show ∀ cw, ¬ Okw γ l c E ws cw from fun cw ho => by have := ho.2.2; rw [HEN.out] at this; omega)
    go_enter Tryz.func20, Tryz.ntmps20
    go_wp2_with fail
    go_ret3
    exact .inr ⟨_, _, rfl, HX.out.2, HF.out⟩
end
end Go.Proofs.YtdniocdmncldjaaGreat

namespace Go.Proofs.YtdniocdmncldjaaGreat
open Go.RowKit
set_option linter.unusedSimpArgs false
set_option linter.unusedVariables false

set_option maxRecDepth 100000 in
set_option maxHeartbeats 4000000 in
theorem cor_badS (p k g L C : Int) (z z' : List Int) (cd : Int) (hz : z.length ≤ 1048576) (hz' : z'.length ≤ 1048576) (hC : -9223372036854775808 ≤ C ∧ C ≤ 9223372036854775807) (h : xErr p k g L C z' [z] = cd) (hne : (cd != 0) = true) :
    D2 27 p k g L C z z' (NewIIK [] [] cd) := by
  have HE := hide h
  have HC := hide hC
  clear h hC
  intro A n cw A' n' cw' B w hI hJ hcap hcap' hB
  have HX0 := hide (CBox.start w p k g L C)
  have hn : n ≤ 1048576 := by rw [← hI.len]; exact hz
  have hn' : n' ≤ 1048576 := by rw [← hJ.len]; exact hz'
  have HR := hide (rws1b (c := cw) (.cells #[.int .i64 p, .int .i64 k, .int .i64 g, .int .i64 L, .int .i64 C] 27) 28 hI hB (by omega))
  have HXr := hide (HX0.out.alloc (.cells #[.slice A n cw] 28))
  have HI := hide hI
  have HJ := hide hJ
  clear hI hJ
  obtain ⟨c0, c1, c2, c3, c4⟩ := HXr.out.cells
  go_enter Tryz.func27, Tryz.ntmps27
  go_wp2_with fail
  refine (specXErr p k g L C A' n' cw' z' (some ⟨w.heap.size + 1, 0, none⟩) 1 1 B [z] _ (HJ.out.below (HXr.out.2.mono hB)) (Nat.le_trans hB (Nat.le_of_lt HXr.out.lt)) (by omega) (specWErr p k g L C HC.out _ 1 1 _ _ _ (HR.out.below ((Below.refl _ _).alloc (by rw [alloc_size, alloc_size]; exact Nat.le_refl _) _)) rfl (by rw [alloc_size, alloc_size, alloc_size]; omega) (by omega))).mono ?_
  rw [HE.out]
  rintro e w1 ⟨rfl, hb⟩
  have HX1 := hide (HXr.out.next hb)
  clear hb c0 c1 c2 c3 c4
  obtain ⟨c0, c1, c2, c3, c4⟩ := HX1.out.cells
  go_wp2_with fail
  go_ret3
  exact newIIK_nil HX1.out.2

set_option maxRecDepth 100000 in
set_option maxHeartbeats 4000000 in
theorem cor_badI (p k g L C : Int) (z z' : List Int) (cd : Int) (hz : z.length ≤ 1048576) (hz' : z'.length ≤ 1048576) (hC : -9223372036854775808 ≤ C ∧ C ≤ 9223372036854775807) (h : xErr p k g L C z' [z] = cd) (hne : (cd != 0) = true) :
    D2 8 p k g L C z z' (NewIIK [] [] cd) := by
  have HE := hide h
  have HC := hide hC
  clear h hC
  intro A n cw A' n' cw' B w hI hJ hcap hcap' hB
  have HX0 := hide (CBox.start w p k g L C)
  have hn : n ≤ 1048576 := by rw [← hI.len]; exact hz
  have hn' : n' ≤ 1048576 := by rw [← hJ.len]; exact hz'
  have HR := hide (rws1b (c := cw) (.cells #[.int .i64 p, .int .i64 k, .int .i64 g, .int .i64 L, .int .i64 C] 27) 28 hI hB (by omega))
  have HXr := hide (HX0.out.alloc (.cells #[.slice A n cw] 28))
  have HI := hide hI
  have HJ := hide hJ
  clear hI hJ
  obtain ⟨c0, c1, c2, c3, c4⟩ := HXr.out.cells
  go_enter Tryz.func8, Tryz.ntmps8
  go_wp2_with fail
  refine (implIdxErr p k g L C A' n' cw' z' (some ⟨w.heap.size + 1, 0, none⟩) 1 1 B [z] _ (HJ.out.below (HXr.out.2.mono hB)) (Nat.le_trans hB (Nat.le_of_lt HXr.out.lt)) (by omega) (implWErr p k g L C _ 1 1 _ _ _ (HR.out.below ((Below.refl _ _).alloc (by rw [alloc_size, alloc_size]; exact Nat.le_refl _) _)) rfl (by rw [alloc_size, alloc_size, alloc_size]; omega) (by omega))).mono ?_
  rw [HE.out]
  rintro e w1 ⟨rfl, hb⟩
  have HX1 := hide (HXr.out.next hb)
  clear hb c0 c1 c2 c3 c4
  obtain ⟨c0, c1, c2, c3, c4⟩ := HX1.out.cells
  go_wp2_with fail
  go_ret3
  exact newIIK_nil HX1.out.2

set_option maxRecDepth 100000 in
set_option maxHeartbeats 4000000 in
theorem cor_yesS {R : Fld} {γ : El R} {p k g : Int} {l c : Nat} (h : CodeIs R γ p k g l c) (ws : List (El R)) (hw : ws.length = l) (E : List Nat) (hE : Idx l E) (hz : (iv ws).length ≤ 1048576) (hz' : (nv E).length ≤ 1048576) (cz : List (El R)) (ho : Okw γ l c E ws cz) :
    D2 27 p k g l c (iv ws) (nv E) (NewIIK (iv cz) (nv (difs ws cz)) 0) := by
  have hl255 := h.l255
  have HC := hide (c_bd h)
  have HE := hide (show xErr p k g l c (nv E) [iv ws] = 0 by rw [xErr, wErr_is h (fun z hz => by rw [List.mem_singleton] at hz; exact ⟨ws, hz, hw⟩), if_pos rfl, idx_shut hE]; rfl)
  intro A n cw A' n' cw' B w hI hJ hcap hcap' hB
  have HX0 := hide (CBox.start w p k g l c)
  have hn : n ≤ 1048576 := by rw [← hI.len]; exact hz
  have hn' : n' ≤ 1048576 := by rw [← hJ.len]; exact hz'
  have HR := hide (rws1b (c := cw) (.cells #[.int .i64 p, .int .i64 k, .int .i64 g, .int .i64 l, .int .i64 c] 27) 28 hI hB (by omega))
  have HXr := hide (HX0.out.alloc (.cells #[.slice A n cw] 28))
  have HI := hide hI
  have HJ := hide hJ
  clear hI hJ
  obtain ⟨c0, c1, c2, c3, c4⟩ := HXr.out.cells
  have hwn : ws.length = n := by rw [← iv_len]; exact HI.out.len
  obtain rfl : n = l := by omega
  have HWN := hide hwn
  clear hwn hw
  go_enter Tryz.func27, Tryz.ntmps27
  go_wp2_with fail
  refine (specXErr p k g n c A' n' cw' (nv E) (some ⟨w.heap.size + 1, 0, none⟩) 1 1 B [(iv ws)] _ (HJ.out.below (HXr.out.2.mono hB)) (Nat.le_trans hB (Nat.le_of_lt HXr.out.lt)) (by omega) (specWErr p k g n c HC.out _ 1 1 _ _ _ (HR.out.below ((Below.refl _ _).alloc (by rw [alloc_size, alloc_size]; exact Nat.le_refl _) _)) rfl (by rw [alloc_size, alloc_size, alloc_size]; omega) (by omega))).mono ?_
  rw [HE.out]
  rintro e w1 ⟨rfl, hb⟩
  have HX1 := hide (HXr.out.next hb)
  clear hb c0 c1 c2 c3 c4
  obtain ⟨c0, c1, c2, c3, c4⟩ := HX1.out.cells
  go_wp2_with fail
  refine (specCorrect h E hE ws A A' cw n' cw' B _ (HI.out.below (HX1.out.2.mono hB)) (HJ.out.below (HX1.out.2.mono hB)) (Nat.le_trans hB (Nat.le_of_lt HX1.out.lt))).mono ?_
  intro e w2 hp
  obtain ⟨A2, m2, A3, m3, rfl, hm2, hm3, ho2, ho3, hne, hb⟩ := scPost_yes ho hp
  have HX2 := hide (HX1.out.next hb)
  have HF := hide (newIIK_of (w := w) (cd := 0) ho2 ho3 hne.1 HX2.out.2 (Nat.le_of_lt HX1.out.lt))
  clear hp ho2 ho3 hne hb hm2 hm3 c0 c1 c2 c3 c4
  go_wp2_with fail
  go_ret3
  exact HF.out

set_option maxRecDepth 100000 in
set_option maxHeartbeats 4000000 in
theorem cor_yesI {R : Fld} {γ : El R} {p k g : Int} {l c : Nat} (h : CodeIs R γ p k g l c) (ws : List (El R)) (hw : ws.length = l) (E : List Nat) (hE : Idx l E) (hz : (iv ws).length ≤ 1048576) (hz' : (nv E).length ≤ 1048576) (cz : List (El R)) (ho : Okw γ l c E ws cz) :
    D2 8 p k g l c (iv ws) (nv E) (NewIIK (iv cz) (nv (difs ws cz)) 0) := by
  have hl255 := h.l255
  have HC := hide (c_bd h)
  have HE := hide (show xErr p k g l c (nv E) [iv ws] = 0 by rw [xErr, wErr_is h (fun z hz => by rw [List.mem_singleton] at hz; exact ⟨ws, hz, hw⟩), if_pos rfl, idx_shut hE]; rfl)
  intro A n cw A' n' cw' B w hI hJ hcap hcap' hB
  have HX0 := hide (CBox.start w p k g l c)
  have hn : n ≤ 1048576 := by rw [← hI.len]; exact hz
  have hn' : n' ≤ 1048576 := by rw [← hJ.len]; exact hz'
  have HR := hide (rws1b (c := cw) (.cells #[.int .i64 p, .int .i64 k, .int .i64 g, .int .i64 l, .int .i64 c] 27) 28 hI hB (by omega))
  have HXr := hide (HX0.out.alloc (.cells #[.slice A n cw] 28))
  have HI := hide hI
  have HJ := hide hJ
  clear hI hJ
  obtain ⟨c0, c1, c2, c3, c4⟩ := HXr.out.cells
  have hwn : ws.length = n := by rw [← iv_len]; exact HI.out.len
  obtain rfl : n = l := by omega
  have HWN := hide hwn
  clear hwn hw
  go_enter Tryz.func8, Tryz.ntmps8
  go_wp2_with fail
  refine (implIdxErr p k g n c A' n' cw' (nv E) (some ⟨w.heap.size + 1, 0, none⟩) 1 1 B [(iv ws)] _ (HJ.out.below (HXr.out.2.mono hB)) (Nat.le_trans hB (Nat.le_of_lt HXr.out.lt)) (by omega) (implWErr p k g n c _ 1 1 _ _ _ (HR.out.below ((Below.refl _ _).alloc (by rw [alloc_size, alloc_size]; exact Nat.le_refl _) _)) rfl (by rw [alloc_size, alloc_size, alloc_size]; omega) (by omega))).mono ?_
  rw [HE.out]
  rintro e w1 ⟨rfl, hb⟩
  have HX1 := hide (HXr.out.next hb)
  clear hb c0 c1 c2 c3 c4
  obtain ⟨c0, c1, c2, c3, c4⟩ := HX1.out.cells
  go_wp2_with fail
  refine (implCorrected h E hE ws A A' cw n' cw' B _ (HI.out.below (HX1.out.2.mono hB)) (HJ.out.below (HX1.out.2.mono hB)) (Nat.le_trans hB (Nat.le_of_lt HX1.out.lt))).mono ?_
  intro e w2 hp
  obtain ⟨A2, m2, rfl, hm2, ho2, hb⟩ := coPost_yes ho hp
  have hcn := ho.1
  rw [iv_len, hcn] at ho2 hm2 ⊢
  have HX2 := hide (HX1.out.next hb)
  have HO2 := hide ho2
  clear hp hb hm2 c0 c1 c2 c3 c4
  go_wp2_with fail
  refine (implDifferences ws cz A A2 n cw m2 _ w2 ((HI.out.below (HX2.out.2.mono hB)).more (Nat.le_trans hB (Nat.le_of_lt HX2.out.lt))) ho2.intsE (Nat.le_refl _) (by omega)).mono ?_
  clear ho2
  rintro e w3 ⟨A3, m3, rfl, hm3, ho3, hb⟩
  have HX3 := hide (HX2.out.next hb)
  have HNE := hide (HO2.out.ne ho3 (Nat.le_refl _))
  have HO2b := hide (HO2.out.below hb (Nat.le_refl _))
  have HF := hide (newIIK_of (w := w) (cd := 0) (HO2b.out.low (Nat.le_of_lt HX1.out.lt)) (ho3.low (Nat.le_of_lt HX2.out.lt)) HNE.out HX3.out.2 (Nat.le_refl _))
  clear ho3 hb hm3
  go_wp2_with fail
  go_ret3
  exact HF.out

set_option maxRecDepth 100000 in
set_option maxHeartbeats 4000000 in
theorem cor_noS {R : Fld} {γ : El R} {p k g : Int} {l c : Nat} (h : CodeIs R γ p k g l c) (ws : List (El R)) (hw : ws.length = l) (E : List Nat) (hE : Idx l E) (hz : (iv ws).length ≤ 1048576) (hz' : (nv E).length ≤ 1048576) (ho : ∀ cz, ¬ Okw γ l c E ws cz) :
    D2 27 p k g l c (iv ws) (nv E) (NewIIK [] [] 7) := by
  have hl255 := h.l255
  have HC := hide (c_bd h)
  have HE := hide (show xErr p k g l c (nv E) [iv ws] = 0 by rw [xErr, wErr_is h (fun z hz => by rw [List.mem_singleton] at hz; exact ⟨ws, hz, hw⟩), if_pos rfl, idx_shut hE]; rfl)
  intro A n cw A' n' cw' B w hI hJ hcap hcap' hB
  have HX0 := hide (CBox.start w p k g l c)
  have hn : n ≤ 1048576 := by rw [← hI.len]; exact hz
  have hn' : n' ≤ 1048576 := by rw [← hJ.len]; exact hz'
  have HR := hide (rws1b (c := cw) (.cells #[.int .i64 p, .int .i64 k, .int .i64 g, .int .i64 l, .int .i64 c] 27) 28 hI hB (by omega))
  have HXr := hide (HX0.out.alloc (.cells #[.slice A n cw] 28))
  have HI := hide hI
  have HJ := hide hJ
  clear hI hJ
  obtain ⟨c0, c1, c2, c3, c4⟩ := HXr.out.cells
  have hwn : ws.length = n := by rw [← iv_len]; exact HI.out.len
  obtain rfl : n = l := by omega
  have HWN := hide hwn
  clear hwn hw
  go_enter Tryz.func27, Tryz.ntmps27
  go_wp2_with fail
  refine (specXErr p k g n c A' n' cw' (nv E) (some ⟨w.heap.size + 1, 0, none⟩) 1 1 B [(iv ws)] _ (HJ.out.below (HXr.out.2.mono hB)) (Nat.le_trans hB (Nat.le_of_lt HXr.out.lt)) (by omega) (specWErr p k g n c HC.out _ 1 1 _ _ _ (HR.out.below ((Below.refl _ _).alloc (by rw [alloc_size, alloc_size]; exact Nat.le_refl _) _)) rfl (by rw [alloc_size, alloc_size, alloc_size]; omega) (by omega))).mono ?_
  rw [HE.out]
  rintro e w1 ⟨rfl, hb⟩
  have HX1 := hide (HXr.out.next hb)
  clear hb c0 c1 c2 c3 c4
  obtain ⟨c0, c1, c2, c3, c4⟩ := HX1.out.cells
  go_wp2_with fail
  refine (specCorrect h E hE ws A A' cw n' cw' B _ (HI.out.below (HX1.out.2.mono hB)) (HJ.out.below (HX1.out.2.mono hB)) (Nat.le_trans hB (Nat.le_of_lt HX1.out.lt))).mono ?_
  intro e w2 hp
  obtain ⟨r, s, A2, m2, A3, m3, rfl, hm2, hm3, ho2, ho3, hne, hb⟩ := scPost_no ho hp
  have HX2 := hide (HX1.out.next hb)
  clear hp ho2 ho3 hne hb hm2 hm3 c0 c1 c2 c3 c4
  go_wp2_with fail
  go_ret3
  exact newIIK_nil HX2.out.2

set_option maxRecDepth 100000 in
set_option maxHeartbeats 4000000 in
theorem cor_noI {R : Fld} {γ : El R} {p k g : Int} {l c : Nat} (h : CodeIs R γ p k g l c) (ws : List (El R)) (hw : ws.length = l) (E : List Nat) (hE : Idx l E) (hz : (iv ws).length ≤ 1048576) (hz' : (nv E).length ≤ 1048576) (ho : ∀ cz, ¬ Okw γ l c E ws cz) :
    D2 8 p k g l c (iv ws) (nv E) (NewIIK [] [] 7) := by
  have hl255 := h.l255
  have HC := hide (c_bd h)
  have HE := hide (show xErr p k g l c (nv E) [iv ws] = 0 by rw [xErr, wErr_is h (fun z hz => by rw [List.mem_singleton] at hz; exact ⟨ws, hz, hw⟩), if_pos rfl, idx_shut hE]; rfl)
  intro A n cw A' n' cw' B w hI hJ hcap hcap' hB
  have HX0 := hide (CBox.start w p k g l c)
  have hn : n ≤ 1048576 := by rw [← hI.len]; exact hz
  have hn' : n' ≤ 1048576 := by rw [← hJ.len]; exact hz'
  have HR := hide (rws1b (c := cw) (.cells #[.int .i64 p, .int .i64 k, .int .i64 g, .int .i64 l, .int .i64 c] 27) 28 hI hB (by omega))
  have HXr := hide (HX0.out.alloc (.cells #[.slice A n cw] 28))
  have HI := hide hI
  have HJ := hide hJ
  clear hI hJ
  obtain ⟨c0, c1, c2, c3, c4⟩ := HXr.out.cells
  have hwn : ws.length = n := by rw [← iv_len]; exact HI.out.len
  obtain rfl : n = l := by omega
  have HWN := hide hwn
  clear hwn hw
  go_enter Tryz.func8, Tryz.ntmps8
  go_wp2_with fail
  refine (implIdxErr p k g n c A' n' cw' (nv E) (some ⟨w.heap.size + 1, 0, none⟩) 1 1 B [(iv ws)] _ (HJ.out.below (HXr.out.2.mono hB)) (Nat.le_trans hB (Nat.le_of_lt HXr.out.lt)) (by omega) (implWErr p k g n c _ 1 1 _ _ _ (HR.out.below ((Below.refl _ _).alloc (by rw [alloc_size, alloc_size]; exact Nat.le_refl _) _)) rfl (by rw [alloc_size, alloc_size, alloc_size]; omega) (by omega))).mono ?_
  rw [HE.out]
  rintro e w1 ⟨rfl, hb⟩
  have HX1 := hide (HXr.out.next hb)
  clear hb c0 c1 c2 c3 c4
  obtain ⟨c0, c1, c2, c3, c4⟩ := HX1.out.cells
  go_wp2_with fail
  refine (implCorrected h E hE ws A A' cw n' cw' B _ (HI.out.below (HX1.out.2.mono hB)) (HJ.out.below (HX1.out.2.mono hB)) (Nat.le_trans hB (Nat.le_of_lt HX1.out.lt))).mono ?_
  intro e w2 hp
  obtain ⟨A2, m2, rfl, hm2, ho2, hb⟩ := coPost_no ho hp
  have HX2 := hide (HX1.out.next hb)
  clear hp ho2 hb hm2 c0 c1 c2 c3 c4
  go_wp2_with fail
  go_ret3
  exact newIIK_nil HX2.out.2

end Go.Proofs.YtdniocdmncldjaaGreat

namespace Go.Proofs.YtdniocdmncldjaaGreat
open Go.RowKit
set_option linter.unusedSimpArgs false
set_option linter.unusedVariables false

section
variable {R : Fld} {γ : El R} {l c : Nat} {E : List Nat} {ws cw : List (El R)} {w w' : World} {x : Ending} {num : Nat → El R}
theorem chPost_no (ho : ∀ cw, ¬ Okw γ l c E ws cw) (h : ChPost num γ l c E ws w x w') : ∃ v1 v2, x = .returned (.tuple #[v1, v2, .bool false]) ∧ Below w.heap.size w w' := by
  rcases h with ⟨J, _, _, _, _, _, _, _, _, _, _, h1, _⟩ | ⟨v1, v2, h1, h2, _⟩
  · exact absurd h1 (ho _)
  · exact ⟨v1, v2, h1, h2⟩
theorem chPost_yes (ho : Okw γ l c E ws cw) (hwl : ws.length = l) (h : ChPost num γ l c E ws w x w') : ∃ (J : List Nat) (A1 A2 : Option Addr) (m1 m2 : Nat), x = .returned (.tuple #[.slice A1 J.length m1, .slice A2 J.length m2, .bool true]) ∧ Ints .i64 w' w'.heap.size A1 J.length (nv J) ∧ Ints .i64 w' w'.heap.size A2 J.length (iv (J.map (fvI num γ l c (synW γ c ws) J))) ∧ Below w.heap.size w w' ∧
    Idx l J ∧ J.length ≤ c ∧ tab l (coF ws (fvI num γ l c (synW γ c ws) J) J) = cw := by
  rcases h with ⟨J, A1, A2, m1, m2, h1, h2, h3, h4, h5, h6, h7, h8⟩ | ⟨_, _, _, _, h1⟩
  · exact ⟨J, A1, A2, m1, m2, h1, h2, h3, h4, h5, h6, by rw [coF_end num ws J hwl]; exact h8 cw ho⟩
  · exact absurd ho (h1 cw)
end
set_option maxRecDepth 100000 in
set_option maxHeartbeats 4000000 in
theorem cbr_badI (p k g L C : Int) (z z' : List Int) (cd : Int) (hz : z.length ≤ 1048576) (hz' : z'.length ≤ 1048576) (hC : -9223372036854775808 ≤ C ∧ C ≤ 9223372036854775807) (h : xErr p k g L C z' [z] = cd) (hne : (cd != 0) = true) :
    D2 7 p k g L C z z' (NewIIK [] [] cd) := by
  have HE := hide h
  have HC := hide hC
  clear h hC
  intro A n cw A' n' cw' B w hI hJ hcap hcap' hB
  have HX0 := hide (CBox.start w p k g L C)
  have hn : n ≤ 1048576 := by rw [← hI.len]; exact hz
  have hn' : n' ≤ 1048576 := by rw [← hJ.len]; exact hz'
  have HR := hide (rws1b (c := cw) (.cells #[.int .i64 p, .int .i64 k, .int .i64 g, .int .i64 L, .int .i64 C] 27) 28 hI hB (by omega))
  have HXr := hide (HX0.out.alloc (.cells #[.slice A n cw] 28))
  have HI := hide hI
  have HJ := hide hJ
  clear hI hJ
  obtain ⟨c0, c1, c2, c3, c4⟩ := HXr.out.cells
  go_enter Tryz.func7, Tryz.ntmps7
  go_wp2_with fail
  refine (implIdxErr p k g L C A' n' cw' z' (some ⟨w.heap.size + 1, 0, none⟩) 1 1 B [z] _ (HJ.out.below (HXr.out.2.mono hB)) (Nat.le_trans hB (Nat.le_of_lt HXr.out.lt)) (by omega) (implWErr p k g L C _ 1 1 _ _ _ (HR.out.below ((Below.refl _ _).alloc (by rw [alloc_size, alloc_size]; exact Nat.le_refl _) _)) rfl (by rw [alloc_size, alloc_size, alloc_size]; omega) (by omega))).mono ?_
  rw [HE.out]
  rintro e w1 ⟨rfl, hb⟩
  have HX1 := hide (HXr.out.next hb)
  clear hb c0 c1 c2 c3 c4
  obtain ⟨c0, c1, c2, c3, c4⟩ := HX1.out.cells
  go_wp2_with fail
  go_ret3
  exact newIIK_nil HX1.out.2

set_option maxRecDepth 100000 in
set_option maxHeartbeats 16000000 in
theorem cbr_yesI {R : Fld} {γ : El R} {p k g : Int} {l c : Nat} (h : CodeIs R γ p k g l c) (ws : List (El R)) (hw : ws.length = l) (E : List Nat) (hE : Idx l E) (hz : (iv ws).length ≤ 1048576) (hz' : (nv E).length ≤ 1048576) (cz : List (El R)) (ho : Okw γ l c E ws cz) :
    D2 7 p k g l c (iv ws) (nv E) (NewIIK (iv cz) (nv (difs ws cz)) 0) := by
  have hl255 := h.l255
  have HC := hide (c_bd h)
  have HE := hide (show xErr p k g l c (nv E) [iv ws] = 0 by rw [xErr, wErr_is h (fun z hz => by rw [List.mem_singleton] at hz; exact ⟨ws, hz, hw⟩), if_pos rfl, idx_shut hE]; rfl)
  intro A n cw A' n' cw' B w hI hJ hcap hcap' hB
  have HX0 := hide (CBox.start w p k g l c)
  have hn : n ≤ 1048576 := by rw [← hI.len]; exact hz
  have hn' : n' ≤ 1048576 := by rw [← hJ.len]; exact hz'
  have HR := hide (rws1b (c := cw) (.cells #[.int .i64 p, .int .i64 k, .int .i64 g, .int .i64 l, .int .i64 c] 27) 28 hI hB (by omega))
  have HXr := hide (HX0.out.alloc (.cells #[.slice A n cw] 28))
  have HI := hide hI
  have HJ := hide hJ
  clear hI hJ
  obtain ⟨c0, c1, c2, c3, c4⟩ := HXr.out.cells
  have hwn : ws.length = n := by rw [← iv_len]; exact HI.out.len
  obtain rfl : n = l := by omega
  have HWN := hide hwn
  clear hwn hw
  go_enter Tryz.func7, Tryz.ntmps7
  go_wp2_with fail
  refine (implIdxErr p k g n c A' n' cw' (nv E) (some ⟨w.heap.size + 1, 0, none⟩) 1 1 B [(iv ws)] _ (HJ.out.below (HXr.out.2.mono hB)) (Nat.le_trans hB (Nat.le_of_lt HXr.out.lt)) (by omega) (implWErr p k g n c _ 1 1 _ _ _ (HR.out.below ((Below.refl _ _).alloc (by rw [alloc_size, alloc_size]; exact Nat.le_refl _) _)) rfl (by rw [alloc_size, alloc_size, alloc_size]; omega) (by omega))).mono ?_
  rw [HE.out]
  rintro e w1 ⟨rfl, hb⟩
  have HX1 := hide (HXr.out.next hb)
  clear hb c0 c1 c2 c3 c4
  obtain ⟨c0, c1, c2, c3, c4⟩ := HX1.out.cells
  go_wp2_with fail
  have hc64 := h.c64
  have hwl0 : ws.length = n := by have := HI.out.len; rwa [iv_len] at this
  have HSY := hide (syn_len γ c ws)
  go_region_held3 (fun w' => w'.cell? ⟨w.heap.size, 0, none⟩ = some (.int .i64 p) ∧ w'.cell? ⟨w.heap.size, 1, none⟩ = some (.int .i64 k) ∧ w'.cell? ⟨w.heap.size, 2, none⟩ = some (.int .i64 g) ∧ w'.cell? ⟨w.heap.size, 3, none⟩ = some (.int .i64 n) ∧ w'.cell? ⟨w.heap.size, 4, none⟩ = some (.int .i64 c))
    (first
      | exact HX1.out.drew.cells
      | exact HX2.out.cells
      | exact HX3.out.cells)
    (first
      | (go_at_call 21; refine (implSyndromes h ws A cw B _ (HI.out.below (HX1.out.drew.2.mono hB)) (Nat.le_trans hB (Nat.le_of_lt HX1.out.lt))).mono ?_; rintro e w2 ⟨A2, m2, rfl, hm2, ho2, hb2⟩; rw [HSY.out] at ho2 hm2 ⊢; have HX2 := hide (HX1.out.drew.next hb2); have HS2 := hide ho2.intsE; clear ho2 hb2)
      | (go_at_call 20; refine (implChanges h E hE ws hwl0 A2 A' m2 n' cw' w2.heap.size _ HS2.out hm2 ((HJ.out.below (HX2.out.2.mono hB)).more (Nat.le_trans hB (Nat.le_of_lt HX2.out.lt))) (Nat.le_refl _)).mono ?_; intro e w3 hp; obtain ⟨J, A6, A7, m6, m7, rfl, hj3, hv3, hb3, hJI, hJc, hcz⟩ := chPost_yes ho hwl0 hp; have HX3 := hide (HX2.out.next hb3); clear hp hb3; have HJ3 := hide hj3; have HV3 := hide hv3; have HJI := hide hJI; have HCZ := hide hcz; obtain ⟨nV, hnV⟩ : ∃ nV, J.length = nV := ⟨_, rfl⟩; have HJL := hide hnV; obtain ⟨f, hf⟩ : ∃ f, fvI (numE h.fld) γ n c (synW γ c ws) J = f := ⟨_, rfl⟩; rw [hnV] at HJ3 HV3 hJc ⊢; rw [hf] at HV3 HCZ; clear hj3 hv3 hcz hJI hnV hf))
  go_wp2_with fail
  refine (implClone A n cw B (iv ws) _ (HI.out.below (HX3.out.2.mono hB)) (Nat.le_trans hB (Nat.le_of_lt HX3.out.lt)) (by omega)).mono ?_
  rintro e w8 ⟨A8, m8, rfl, hm8, ho8, hb8⟩
  rw [iv_len, hwl0] at ho8 ⊢
  have HX8 := hide (HX3.out.next hb8)
  obtain ⟨gW, c8, he, hg8, hg8', _⟩ := ho8.some_ (by rw [iv_len, hwl0]; have := h.cl; omega)
  simp only [Value.slice.injEq] at he
  obtain ⟨rfl, hx1, hx2⟩ := he
  have HO8 := hide (show Own w8 (w.heap.size + 1) 2 .i64 (.slice (some ⟨gW, 0, none⟩) n m8) (iv (tab n (coF ws f (J.take 0)))) by
    rw [List.take_zero, coF_nil ws f hwl0]
    exact ho8.low HX3.out.lt)
  have HJ8 := hide (((HJ3.out.below hb8).more (B' := gW) hg8))
  have HV8 := hide (((HV3.out.below hb8).more (B' := gW) hg8))
  have hgw : w.heap.size < gW := Nat.lt_of_lt_of_le HX3.out.lt hg8
  have HWL := hide hwl0
  clear ho8 hb8 hm8 hx1 hx2 hg8 hwl0
  go_wp2_with fail
  go_loopw [40] (fun i wr => CoRel w p k g n c nV gW A6 A7 J ws (J.map f) f m8 i wr) (fun i _ => nV - (intOf i).toNat)
  case atStart => exact ⟨0, by omega, rfl, HO8.out, HJ8.out, HV8.out, hg8', HX8.out⟩
  case round =>
    clear HX2 HX3 HX8 HS2 HJ3 HV3 HO8 HJ8 HV8 hg8'
    obtain ⟨j, hj, rfl, HO, HJr, HVr, HS1, HX⟩ := hrel
    have HX := hide HX
    have HO := hide HO
    have HJr := hide HJr
    have HVr := hide HVr
    have HS := hide HS1
    by_cases hlt : j < nV
    · obtain ⟨b1, o1, z', rfl, hb1, hz, hc1⟩ := HJr.out.at_ hlt
      obtain ⟨z, hzJ, rfl⟩ := nv_get hz
      have hzl : z < n := HJI.out.2 z (List.mem_of_getElem? hzJ)
      obtain ⟨b3, o3, y', rfl, hb3, hy, hc3⟩ := HVr.out.at_ hlt
      obtain ⟨y, hyf⟩ : ∃ y, y = f z := ⟨_, rfl⟩
      have hyy : y' = (y.val : Int) := by
        rw [iv, List.getElem?_map, List.getElem?_map, hzJ] at hy
        simp only [Option.map_some, Option.some.injEq] at hy
        rw [← hy, hyf]
      subst hyy
      obtain ⟨x, hx⟩ : ∃ x, x = cf ws z := ⟨_, rfl⟩
      have hcx := HO.out.cellAt (j := z) (x := (x.val : Int)) (by rw [iv, List.getElem?_map, coF_at HJI.out.nodup hzJ hzl, hx]; rfl)
      have HCX := hide hcx
      have HCY := hide hc3
      have HTT := hide (show (tab n (coF ws f (J.take j))).set z (x + -y) = tab n (coF ws f (J.take (j + 1))) by rw [hx, hyf]; exact coF_step hzJ)
      have hb3l : b3 < gW := hb3
      have hb3r : b3 < wr.heap.size := Nat.lt_trans hb3 HS.out
      clear hx hyf hy hz hzJ hcx hc3 hb3
      go_wp2_with fail
      refine tail_begin (fun w' => w'.cell? ⟨w.heap.size, 0, none⟩ = some (.int .i64 p) ∧ w'.cell? ⟨w.heap.size, 1, none⟩ = some (.int .i64 k) ∧ w'.cell? ⟨w.heap.size, 2, none⟩ = some (.int .i64 g) ∧ w'.cell? ⟨gW, z, none⟩ = some (.int .i64 (x.val : Int)) ∧ w'.cell? ⟨b3, o3 + j, none⟩ = some (.int .i64 (y.val : Int))) 17 (by kernel_rfl) ⟨HX.out.drew.cells.1, HX.out.drew.cells.2.1, HX.out.drew.cells.2.2.1, HCX.out, HCY.out⟩ (fun hS' => ?_)
      refine tail_take 0 rfl (by kernel_rfl) (by kernel_rfl) (by kernel_rfl) (by kernel_rfl) (fun _ _ _ h => h) (by rfl) (v := ?_) ?_ (by assumption) ?_
      rotate_left 1
      · intro w' hS'; (try dsimp only at hS'); go_simp; try with_reducible rfl
      try simp only [Act.put, List.setIfInBounds_toArray, List.set_cons_zero, List.set_cons_succ]
      refine tail_take 1 rfl (by kernel_rfl) (by kernel_rfl) (by kernel_rfl) (by kernel_rfl) (fun _ _ _ h => h) (by rfl) (v := ?_) ?_ (by assumption) ?_
      rotate_left 1
      · intro w' hS'; (try dsimp only at hS'); go_simp; try with_reducible rfl
      try simp only [Act.put, List.setIfInBounds_toArray, List.set_cons_zero, List.set_cons_succ]
      refine tail_take 2 rfl (by kernel_rfl) (by kernel_rfl) (by kernel_rfl) (by kernel_rfl) (fun _ _ _ h => h) (by rfl) (v := ?_) ?_ (by assumption) ?_
      rotate_left 1
      · intro w' hS'; (try dsimp only at hS'); go_simp; try with_reducible rfl
      try simp only [Act.put, List.setIfInBounds_toArray, List.set_cons_zero, List.set_cons_succ]
      refine tail_take 3 rfl (by kernel_rfl) (by kernel_rfl) (by kernel_rfl) (by kernel_rfl) (fun _ _ _ h => h) (by rfl) (v := ?_) ?_ (by assumption) ?_
      rotate_left 1
      · intro w' hS'; (try dsimp only at hS'); go_simp; try with_reducible rfl
      try simp only [Act.put, List.setIfInBounds_toArray, List.set_cons_zero, List.set_cons_succ]
      refine tail_take 4 rfl (by kernel_rfl) (by kernel_rfl) (by kernel_rfl) (by kernel_rfl) (fun _ _ _ h => h) (by rfl) (v := ?_) ?_ (by assumption) ?_
      rotate_left 1
      · intro w' hS'; (try dsimp only at hS'); go_simp; try with_reducible rfl
      try simp only [Act.put, List.setIfInBounds_toArray, List.set_cons_zero, List.set_cons_succ]
      refine tail_take 5 rfl (by kernel_rfl) (by kernel_rfl) (by kernel_rfl) (by kernel_rfl) (fun _ _ _ h => h) (by rfl) (v := ?_) ?_ (by assumption) ?_
      rotate_left 1
      · intro w' hS'; (try dsimp only at hS'); go_simp; try with_reducible rfl
      try simp only [Act.put, List.setIfInBounds_toArray, List.set_cons_zero, List.set_cons_succ]
      refine tail_take 6 rfl (by kernel_rfl) (by kernel_rfl) (by kernel_rfl) (by kernel_rfl) (fun _ _ _ h => h) (by rfl) (v := ?_) ?_ (by assumption) ?_
      rotate_left 1
      · intro w' hS'; (try dsimp only at hS'); go_simp; try with_reducible rfl
      try simp only [Act.put, List.setIfInBounds_toArray, List.set_cons_zero, List.set_cons_succ]
      refine tail_take 7 rfl (by kernel_rfl) (by kernel_rfl) (by kernel_rfl) (by kernel_rfl) (fun _ _ _ h => h) (by rfl) (v := ?_) ?_ (by assumption) ?_
      rotate_left 1
      · intro w' hS'; (try dsimp only at hS'); go_simp; try with_reducible rfl
      try simp only [Act.put, List.setIfInBounds_toArray, List.set_cons_zero, List.set_cons_succ]
      refine tail_take 8 rfl (by kernel_rfl) (by kernel_rfl) (by kernel_rfl) (by kernel_rfl) (fun _ _ _ h => h) (by rfl) (v := ?_) ?_ (by assumption) ?_
      rotate_left 1
      · intro w' hS'; (try dsimp only at hS'); go_simp; try with_reducible rfl
      try simp only [Act.put, List.setIfInBounds_toArray, List.set_cons_zero, List.set_cons_succ]
      refine tail_take 9 rfl (by kernel_rfl) (by kernel_rfl) (by kernel_rfl) (by kernel_rfl) (fun _ _ _ h => h) (by rfl) (v := ?_) ?_ (by assumption) ?_
      rotate_left 1
      · intro w' hS'; (try dsimp only at hS'); go_simp; try with_reducible rfl
      try simp only [Act.put, List.setIfInBounds_toArray, List.set_cons_zero, List.set_cons_succ]
      refine tail_take 10 rfl (by kernel_rfl) (by kernel_rfl) (by kernel_rfl) (by kernel_rfl) (fun _ _ _ h => h) (by rfl) (v := ?_) ?_ (by assumption) ?_
      rotate_left 1
      · intro w' hS'; (try dsimp only at hS'); go_simp; try with_reducible rfl
      try simp only [Act.put, List.setIfInBounds_toArray, List.set_cons_zero, List.set_cons_succ]
      refine tail_take 11 rfl (by kernel_rfl) (by kernel_rfl) (by kernel_rfl) (by kernel_rfl) (fun _ _ _ h => h) (by rfl) (v := ?_) ?_ (by assumption) ?_
      rotate_left 1
      · intro w' hS'; (try dsimp only at hS'); go_simp; try with_reducible rfl
      try simp only [Act.put, List.setIfInBounds_toArray, List.set_cons_zero, List.set_cons_succ]
      refine tail_take 12 rfl (by kernel_rfl) (by kernel_rfl) (by kernel_rfl) (by kernel_rfl) (fun _ _ _ h => h) (by rfl) (v := ?_) ?_ (by assumption) ?_
      rotate_left 1
      · intro w' hS'; (try dsimp only at hS'); go_simp; try with_reducible rfl
      try simp only [Act.put, List.setIfInBounds_toArray, List.set_cons_zero, List.set_cons_succ]
      refine tail_take 13 rfl (by kernel_rfl) (by kernel_rfl) (by kernel_rfl) (by kernel_rfl) (fun _ _ _ h => h) (by rfl) (v := ?_) ?_ (by assumption) ?_
      rotate_left 1
      · intro w' hS'; (try dsimp only at hS'); go_simp; try with_reducible rfl
      try simp only [Act.put, List.setIfInBounds_toArray, List.set_cons_zero, List.set_cons_succ]
      refine tail_call 14 rfl (by kernel_rfl) rfl (fun K hK => ?_)
      go_simp
      go_at_call 24; refine (implNegE h.fld y _).mono ?_; rintro e' w2 ⟨rfl, hb2⟩; have HX2 := hide (HX.out.drew.next hb2); have HO2 := hide (HO.out.drew.below hb2 (Nat.le_refl _)); have HCX2 := hide ((hb2.cell (p := ⟨gW, z, none⟩) HS.out).trans HCX.out); have HCY2 := hide ((hb2.cell (p := ⟨b3, o3 + j, none⟩) hb3r).trans HCY.out); have HS2 := hide (Nat.lt_of_lt_of_le HS.out hb2.size); have HBA := hide hb2; clear hb2
      refine hK.out _ _ (by (try dsimp only); exact ⟨HX2.out.cells.1, HX2.out.cells.2.1, HX2.out.cells.2.2.1, HCX2.out, HCY2.out⟩) (fun hS' => ?_)
      clear hK K
      try simp only [Act.put, List.setIfInBounds_toArray, List.set_cons_zero, List.set_cons_succ]
      refine tail_call 15 rfl (by kernel_rfl) rfl (fun K hK => ?_)
      go_simp
      go_at_call 23; refine (implSumE h.fld x (-y) _).mono ?_; rintro e' w3 ⟨rfl, hb3'⟩; have HX3 := hide (HX2.out.next hb3'); have HO3 := hide (HO2.out.below hb3' (Nat.le_refl _)); have HCX3 := hide ((hb3'.cell (p := ⟨gW, z, none⟩) HS2.out).trans HCX2.out); have HCY3 := hide ((hb3'.cell (p := ⟨b3, o3 + j, none⟩) (Nat.lt_trans hb3l HS2.out)).trans HCY2.out); have HS3 := hide (Nat.lt_of_lt_of_le HS2.out hb3'.size); have HBB := hide (HBA.out.trans (hb3'.mono HBA.out.size)); clear hb3'
      refine hK.out _ _ (by (try dsimp only); exact ⟨HX3.out.cells.1, HX3.out.cells.2.1, HX3.out.cells.2.2.1, HCX3.out, HCY3.out⟩) (fun hS' => ?_)
      clear hK K
      try simp only [Act.put, List.setIfInBounds_toArray, List.set_cons_zero, List.set_cons_succ]
      refine tail_take 16 rfl (by kernel_rfl) (by kernel_rfl) (by kernel_rfl) (by kernel_rfl) (fun _ _ _ h => h) (by rfl) (v := ?_) ?_ (by assumption) ?_
      rotate_left 1
      · intro w' hS'; (try dsimp only at hS'); go_simp; try with_reducible rfl
      try simp only [Act.put, List.setIfInBounds_toArray, List.set_cons_zero, List.set_cons_succ]
      have fx := HO3.out.frozenAt z
      have cx := HCX3.out
      refine tail_last 17 rfl (by kernel_rfl) (by kernel_rfl) rfl rfl (fun K hK => ?_)
      go_simp
      refine hK.out _ _ ?_
      clear hK K
      try simp only [Act.put, List.setIfInBounds_toArray, List.set_cons_zero, List.set_cons_succ]
      have HO9 := hide (HO3.out.stored z ((x + -y).val : Nat)).1
      have HG9 := hide (HO3.out.stored z ((x + -y).val : Nat)).2
      rw [iv_set, HTT.out] at HO9
      have HX9 := hide (HX3.out.grow HG9.out (fun r hr => by injection hr with hr; omega))
      have HB9 := hide (show Below gW wr.drew (w3.setCell ⟨gW, z, none⟩ (.int .i64 ((x + -y).val : Nat))) from (HBB.out.mono (Nat.le_of_lt HS.out)).grown HG9.out (Nat.le_trans (Nat.le_of_lt HS.out) HBB.out.size) (fun r hr => by injection hr with hr; omega))
      have HJ9 := hide (HJr.out.drew.below HB9.out)
      have HV9 := hide (HVr.out.drew.below HB9.out)
      have HS9 := hide (Nat.lt_of_lt_of_le HS3.out HG9.out.size)
      clear HX HO HJr HVr HCX HCY HX2 HO2 HCX2 HCY2 HBA HX3 HO3 HCX3 HCY3 HBB HB9 HG9 fx cx
      go_wp2_with fail
      go_roundw
      case rel => exact ⟨j + 1, by omega, by go_num, HO9.out, HJ9.out, HV9.out, HS9.out, HX9.out⟩
      case measure => simp [intOf]; omega
    · obtain rfl : j = nV := by omega
      have HE := hide (show tab n (coF ws f (J.take j)) = cz by rw [List.take_of_length_le (by rw [HJL.out]; exact Nat.le_refl _)]; exact HCZ.out)
      have HO2 := hide HO.out
      rw [HE.out] at HO2
      clear hlt
      go_wp2_with fail
      refine (implDifferences ws cz A (some ⟨gW, 0, none⟩) n cw m8 wr.heap.size wr ((HI.out.below (HX.out.2.mono hB)).more (Nat.le_trans hB (Nat.le_of_lt HX.out.lt))) HO2.out.intsE (Nat.le_refl _) (by omega)).mono ?_
      rintro e w3' ⟨A3, m3, rfl, hm3, ho3, hb3'⟩
      have HXF := hide (HX.out.next hb3')
      have HNE := hide (HO2.out.ne ho3 (Nat.le_refl _))
      have HO2b := hide (HO2.out.below hb3' (Nat.le_refl _))
      have HF := hide (newIIK_of (w := w) (cd := 0) (HO2b.out.low (Nat.le_succ _)) (ho3.low (Nat.le_of_lt HX.out.lt)) HNE.out HXF.out.2 (Nat.le_refl _))
      clear ho3 hb3' hm3
      go_wp2_with fail
      go_ret3
      exact HF.out

set_option maxRecDepth 100000 in
set_option maxHeartbeats 4000000 in
theorem cbr_noI {R : Fld} {γ : El R} {p k g : Int} {l c : Nat} (h : CodeIs R γ p k g l c) (ws : List (El R)) (hw : ws.length = l) (E : List Nat) (hE : Idx l E) (hz : (iv ws).length ≤ 1048576) (hz' : (nv E).length ≤ 1048576) (ho : ∀ cz, ¬ Okw γ l c E ws cz) :
    D2 7 p k g l c (iv ws) (nv E) (NewIIK [] [] 7) := by
  have hl255 := h.l255
  have HC := hide (c_bd h)
  have HE := hide (show xErr p k g l c (nv E) [iv ws] = 0 by rw [xErr, wErr_is h (fun z hz => by rw [List.mem_singleton] at hz; exact ⟨ws, hz, hw⟩), if_pos rfl, idx_shut hE]; rfl)
  intro A n cw A' n' cw' B w hI hJ hcap hcap' hB
  have HX0 := hide (CBox.start w p k g l c)
  have hn : n ≤ 1048576 := by rw [← hI.len]; exact hz
  have hn' : n' ≤ 1048576 := by rw [← hJ.len]; exact hz'
  have HR := hide (rws1b (c := cw) (.cells #[.int .i64 p, .int .i64 k, .int .i64 g, .int .i64 l, .int .i64 c] 27) 28 hI hB (by omega))
  have HXr := hide (HX0.out.alloc (.cells #[.slice A n cw] 28))
  have HI := hide hI
  have HJ := hide hJ
  clear hI hJ
  obtain ⟨c0, c1, c2, c3, c4⟩ := HXr.out.cells
  have hwn : ws.length = n := by rw [← iv_len]; exact HI.out.len
  obtain rfl : n = l := by omega
  have HWN := hide hwn
  clear hwn hw
  go_enter Tryz.func7, Tryz.ntmps7
  go_wp2_with fail
  refine (implIdxErr p k g n c A' n' cw' (nv E) (some ⟨w.heap.size + 1, 0, none⟩) 1 1 B [(iv ws)] _ (HJ.out.below (HXr.out.2.mono hB)) (Nat.le_trans hB (Nat.le_of_lt HXr.out.lt)) (by omega) (implWErr p k g n c _ 1 1 _ _ _ (HR.out.below ((Below.refl _ _).alloc (by rw [alloc_size, alloc_size]; exact Nat.le_refl _) _)) rfl (by rw [alloc_size, alloc_size, alloc_size]; omega) (by omega))).mono ?_
  rw [HE.out]
  rintro e w1 ⟨rfl, hb⟩
  have HX1 := hide (HXr.out.next hb)
  clear hb c0 c1 c2 c3 c4
  obtain ⟨c0, c1, c2, c3, c4⟩ := HX1.out.cells
  go_wp2_with fail
  have hc64 := h.c64
  have hwl0 : ws.length = n := by have := HI.out.len; rwa [iv_len] at this
  have HSY := hide (syn_len γ c ws)
  go_region_held3 (fun w' => w'.cell? ⟨w.heap.size, 0, none⟩ = some (.int .i64 p) ∧ w'.cell? ⟨w.heap.size, 1, none⟩ = some (.int .i64 k) ∧ w'.cell? ⟨w.heap.size, 2, none⟩ = some (.int .i64 g) ∧ w'.cell? ⟨w.heap.size, 3, none⟩ = some (.int .i64 n) ∧ w'.cell? ⟨w.heap.size, 4, none⟩ = some (.int .i64 c))
    (first
      | exact HX1.out.drew.cells
      | exact HX2.out.cells
      | exact HX3.out.cells)
    (first
      | (go_at_call 21; refine (implSyndromes h ws A cw B _ (HI.out.below (HX1.out.drew.2.mono hB)) (Nat.le_trans hB (Nat.le_of_lt HX1.out.lt))).mono ?_; rintro e w2 ⟨A2, m2, rfl, hm2, ho2, hb2⟩; rw [HSY.out] at ho2 hm2 ⊢; have HX2 := hide (HX1.out.drew.next hb2); have HS2 := hide ho2.intsE; clear ho2 hb2)
      | (go_at_call 20; refine (implChanges h E hE ws hwl0 A2 A' m2 n' cw' w2.heap.size _ HS2.out hm2 ((HJ.out.below (HX2.out.2.mono hB)).more (Nat.le_trans hB (Nat.le_of_lt HX2.out.lt))) (Nat.le_refl _)).mono ?_; intro e w3 hp; obtain ⟨v1, v2, rfl, hb3⟩ := chPost_no ho hp; have HX3 := hide (HX2.out.next hb3); clear hp hb3))
  go_wp2_with fail
  go_ret3
  exact newIIK_nil HX3.out.2
end Go.Proofs.YtdniocdmncldjaaGreat

namespace Go.Proofs.YtdniocdmncldjaaGreat
open Go.RowKit
set_option linter.unusedSimpArgs false
set_option linter.unusedVariables false

set_option maxRecDepth 100000 in
set_option maxHeartbeats 4000000 in
theorem cbr_spec {p k g L C : Int} {z z' r s : List Int} {cd : Int} (h : D2 27 p k g L C z z' (NewIIK r s cd)) : D2 9 p k g L C z z' (NewIIK r s cd) := by
  intro A n cw A' n' cw' B w hI hJ hcap hcap' hB
  have HX0 := hide (CBox.start w p k g L C)
  have HI := hide hI
  have HJ := hide hJ
  have HH := hide h
  clear hI hJ h
  obtain ⟨c0, c1, c2, c3, c4⟩ := HX0.out.cells
  go_enter Tryz.func9, Tryz.ntmps9
  go_wp2_with fail
  refine (HH.out A n cw A' n' cw' B _ (HI.out.below (HX0.out.2.mono hB)) (HJ.out.below (HX0.out.2.mono hB)) hcap hcap' (Nat.le_trans hB (Nat.le_of_lt HX0.out.lt))).mono ?_
  rintro e w1 ⟨A1, m1, A2, m2, rfl, hm1, hm2, ho1, ho2, hne, hb⟩
  have HX1 := hide (HX0.out.next hb)
  have HF := hide (newIIK_of (w := w) (cd := cd) ho1 ho2 hne.1 HX1.out.2 (Nat.le_of_lt HX0.out.lt))
  clear ho1 ho2 hne hb hm1 hm2 c0 c1 c2 c3 c4
  go_wp2_with fail
  go_ret3
  exact HF.out

set_option maxRecDepth 100000 in
set_option maxHeartbeats 4000000 in
theorem el_noS {p k g L C : Int} {z : List Int} {cd : Int} (hne : (cd != 0) = true) (h : D2 27 p k g L C z [] (NewIIK [] [] cd)) : D1 13 p k g L C z (NewIK [] cd) := by
  intro A n cw B w hI hcap hB
  have HX0 := hide (CBox.start w p k g L C)
  have HI := hide hI
  have HH := hide h
  clear hI h
  obtain ⟨c0, c1, c2, c3, c4⟩ := HX0.out.cells
  go_enter Tryz.func13, Tryz.ntmps13
  go_wp2_with fail
  refine (HH.out A n cw none 0 0 B _ (HI.out.below (HX0.out.2.mono hB)) Ints.empty hcap (Nat.le_refl _) (Nat.le_trans hB (Nat.le_of_lt HX0.out.lt))).mono ?_
  rintro e w1 ⟨A1, m1, A2, m2, rfl, hm1, hm2, ho1, ho2, _, hb⟩
  have HX1 := hide (HX0.out.next hb)
  clear ho1 ho2 hb hm1 hm2 c0 c1 c2 c3 c4
  go_wp2_with fail
  go_ret2
  exact newIK_nil HX1.out.2

set_option maxRecDepth 100000 in
set_option maxHeartbeats 4000000 in
theorem el_yesS {R : Fld} {γ : El R} {p k g : Int} {l c : Nat} (hc : CodeIs R γ p k g l c) {z r : List Int} (D : List Nat) (hD : Idx l D) (h : D2 27 p k g l c z [] (NewIIK r (nv D) 0)) : D1 13 p k g l c z (NewIK (iv (locP (locs γ l D))) 0) := by
  have hl255 := hc.l255
  have hDl := hD.len
  obtain ⟨nD, hnD⟩ : ∃ nD, D.length = nD := ⟨_, rfl⟩
  rw [hnD] at hDl
  have HND := hide hnD
  obtain ⟨Q, hQ⟩ : ∃ Q, locP (locs γ l D) = Q := ⟨_, rfl⟩
  have HQ := hide hQ
  rw [hQ]
  clear hnD hQ
  intro A n cw B w hI hcap hB
  have HX0 := hide (CBox.start w p k g l c)
  have HI := hide hI
  have HH := hide h
  clear hI h
  obtain ⟨c0, c1, c2, c3, c4⟩ := HX0.out.cells
  go_enter Tryz.func13, Tryz.ntmps13
  go_wp2_with fail
  refine (HH.out A n cw none 0 0 B _ (HI.out.below (HX0.out.2.mono hB)) Ints.empty hcap (Nat.le_refl _) (Nat.le_trans hB (Nat.le_of_lt HX0.out.lt))).mono ?_
  rintro e w1 ⟨A1, m1, A2, m2, rfl, hm1, hm2, ho1, ho2, _, hb⟩
  rw [nv_len, HND.out] at hm2 ho2 ⊢
  have HX1 := hide (HX0.out.next hb)
  have hx2 := ho2.ints
  rw [nv_len, HND.out] at hx2
  have HD1 := hide hx2
  clear ho1 ho2 hx2 hb hm1 hm2 c0 c1 c2 c3 c4
  obtain ⟨c0, c1, c2, c3, c4⟩ := HX1.out.cells
  go_wp2_with fail
  refine (specLocPoly hc D hD.2 A2 nD m2 _ _ HD1.out (Nat.le_refl _) (by omega)).mono ?_
  rw [HQ.out]
  rintro e w2 ⟨A3, m3, rfl, hm3, ho3, hb⟩
  have HX2 := hide (HX1.out.next hb)
  have HO3 := hide (ho3.low (base' := w.heap.size) (Nat.le_of_lt HX1.out.lt))
  clear ho3 hb hm3 c0 c1 c2 c3 c4
  go_wp2_with fail
  go_ret2
  exact newIK_of HO3.out HX2.out.2 (Nat.le_refl _)

set_option maxRecDepth 100000 in
set_option maxHeartbeats 4000000 in
theorem el_noI {p k g L C : Int} {z : List Int} {cd : Int} (hne : (cd != 0) = true) (h : D2 7 p k g L C z [] (NewIIK [] [] cd)) : D1 12 p k g L C z (NewIK [] cd) := by
  intro A n cw B w hI hcap hB
  have HX0 := hide (CBox.start w p k g L C)
  have HI := hide hI
  have HH := hide h
  clear hI h
  obtain ⟨c0, c1, c2, c3, c4⟩ := HX0.out.cells
  go_enter Tryz.func12, Tryz.ntmps12
  go_wp2_with fail
  refine (HH.out A n cw none 0 0 B _ (HI.out.below (HX0.out.2.mono hB)) Ints.empty hcap (Nat.le_refl _) (Nat.le_trans hB (Nat.le_of_lt HX0.out.lt))).mono ?_
  rintro e w1 ⟨A1, m1, A2, m2, rfl, hm1, hm2, ho1, ho2, _, hb⟩
  have HX1 := hide (HX0.out.next hb)
  clear ho1 ho2 hb hm1 hm2 c0 c1 c2 c3 c4
  go_wp2_with fail
  go_ret2
  exact newIK_nil HX1.out.2

set_option maxRecDepth 100000 in
set_option maxHeartbeats 4000000 in
theorem el_yesI {R : Fld} {γ : El R} {p k g : Int} {l c : Nat} (hc : CodeIs R γ p k g l c) {z r : List Int} (D : List Nat) (hD : Idx l D) (h : D2 7 p k g l c z [] (NewIIK r (nv D) 0)) : D1 12 p k g l c z (NewIK (iv (locP (locs γ l D))) 0) := by
  have hl255 := hc.l255
  have hDl := hD.len
  obtain ⟨nD, hnD⟩ : ∃ nD, D.length = nD := ⟨_, rfl⟩
  rw [hnD] at hDl
  have HND := hide hnD
  obtain ⟨Q, hQ⟩ : ∃ Q, locP (locs γ l D) = Q := ⟨_, rfl⟩
  have HQ := hide hQ
  rw [hQ]
  clear hnD hQ
  intro A n cw B w hI hcap hB
  have HX0 := hide (CBox.start w p k g l c)
  have HI := hide hI
  have HH := hide h
  clear hI h
  obtain ⟨c0, c1, c2, c3, c4⟩ := HX0.out.cells
  go_enter Tryz.func12, Tryz.ntmps12
  go_wp2_with fail
  refine (HH.out A n cw none 0 0 B _ (HI.out.below (HX0.out.2.mono hB)) Ints.empty hcap (Nat.le_refl _) (Nat.le_trans hB (Nat.le_of_lt HX0.out.lt))).mono ?_
  rintro e w1 ⟨A1, m1, A2, m2, rfl, hm1, hm2, ho1, ho2, _, hb⟩
  rw [nv_len, HND.out] at hm2 ho2 ⊢
  have HX1 := hide (HX0.out.next hb)
  have hx2 := ho2.ints
  rw [nv_len, HND.out] at hx2
  have HD1 := hide hx2
  clear ho1 ho2 hx2 hb hm1 hm2 c0 c1 c2 c3 c4
  obtain ⟨c0, c1, c2, c3, c4⟩ := HX1.out.cells
  go_wp2_with fail
  refine (implLocPoly hc D hD.2 A2 nD m2 _ _ HD1.out (Nat.le_refl _) (by omega)).mono ?_
  rw [HQ.out]
  rintro e w2 ⟨A3, m3, rfl, hm3, ho3, hb⟩
  have HX2 := hide (HX1.out.next hb)
  have HO3 := hide (ho3.low (base' := w.heap.size) (Nat.le_of_lt HX1.out.lt))
  clear ho3 hb hm3 c0 c1 c2 c3 c4
  go_wp2_with fail
  go_ret2
  exact newIK_of HO3.out HX2.out.2 (Nat.le_refl _)

theorem difs_idx {R : Fld} {l : Nat} {a b : List (El R)} (h : a.length = l) : Idx l (difs a b) := by rw [difs, h]; exact idx_filter _ _
section
variable (p k g L C : Int) (z z' : List Int)
theorem cbr_both (hz : z.length ≤ 1048576) (hz' : z'.length ≤ 1048576) (hC : -9223372036854775808 ≤ C ∧ C ≤ 9223372036854775807) : ∃ (r s : List Int) (cd : Int), r.length ≤ 1048576 ∧ s.length ≤ 1048576 ∧ D2 9 p k g L C z z' (NewIIK r s cd) ∧ D2 7 p k g L C z z' (NewIIK r s cd) := by
  rcases xErr_cases p k g L C z' [z] with ⟨cd, h, hne⟩ | ⟨_, R, γ, l, c, E, rfl, rfl, hc, rfl, hE, hw⟩
  · exact ⟨[], [], cd, by simp, by simp, cbr_spec (cor_badS p k g L C z z' cd hz hz' hC h hne), cbr_badI p k g L C z z' cd hz hz' hC h hne⟩
  · obtain ⟨ws, rfl, hl⟩ := hw z (List.mem_singleton.2 rfl)
    by_cases ho : ∃ cz, Okw γ l c E ws cz
    · obtain ⟨cz, ho⟩ := ho
      have h255 := hc.l255
      have hd := (difs_idx (l := l) (b := cz) hl).len
      exact ⟨_, _, 0, by rw [iv_len, ho.1]; omega, by rw [nv_len]; omega, cbr_spec (cor_yesS hc ws hl E hE hz hz' cz ho), cbr_yesI hc ws hl E hE hz hz' cz ho⟩
    · have ho' : ∀ cz, ¬ Okw γ l c E ws cz := fun cz h => ho ⟨cz, h⟩
      exact ⟨[], [], 7, by simp, by simp, cbr_spec (cor_noS hc ws hl E hE hz hz' ho'), cbr_noI hc ws hl E hE hz hz' ho'⟩
theorem el_both (hz : z.length ≤ 1048576) (hC : -9223372036854775808 ≤ C ∧ C ≤ 9223372036854775807) : ∃ (r : List Int) (cd : Int), r.length ≤ 1048576 ∧ D1 13 p k g L C z (NewIK r cd) ∧ D1 12 p k g L C z (NewIK r cd) := by
  have h0 : (nv []).length ≤ 1048576 := by simp [nv]
  rcases xErr_cases p k g L C [] [z] with ⟨cd, h, hne⟩ | ⟨_, R, γ, l, c, E, rfl, rfl, hc, hE0, hE, hw⟩
  · exact ⟨[], cd, by simp, el_noS hne (cor_badS p k g L C z [] cd hz (by simp) hC h hne), el_noI hne (cbr_badI p k g L C z [] cd hz (by simp) hC h hne)⟩
  · obtain rfl : E = [] := by
      cases E with
      | nil => rfl
      | cons a E => cases hE0
    obtain ⟨ws, rfl, hl⟩ := hw z (List.mem_singleton.2 rfl)
    by_cases ho : ∃ cz, Okw γ l c [] ws cz
    · obtain ⟨cz, ho⟩ := ho
      have h255 := hc.l255
      have hd := difs_idx (l := l) (b := cz) hl
      have hdl := hd.len
      refine ⟨_, 0, ?_, el_yesS hc (difs ws cz) hd (cor_yesS hc ws hl [] hE hz h0 cz ho), el_yesI hc (difs ws cz) hd (cbr_yesI hc ws hl [] hE hz h0 cz ho)⟩
      rw [iv_len, loc_len (locs_ne hc.far _), locs_len]; omega
    · have ho' : ∀ cz, ¬ Okw γ l c [] ws cz := fun cz h => ho ⟨cz, h⟩
      exact ⟨[], 7, by simp, el_noS rfl (cor_noS hc ws hl [] hE hz h0 ho'), el_noI rfl (cbr_noI hc ws hl [] hE hz h0 ho')⟩
end
end Go.Proofs.YtdniocdmncldjaaGreat
