/-
  The contracts of the program's correction by a register: the sequence without erasures, and what is changed.
  Condition: the code is valid.
-/
import Derived.Test.YtdniocdmncldjaaRShort
import Derived.Test.YtdniocdmncldjaaDImpl6
namespace Go.Proofs.Ytdniocdmncldjaa
open Go.RowKit
set_option linter.unusedSimpArgs false
set_option linter.unusedVariables false

section
variable {R : Fld} {γ : El R} {p k g : Int} {l c : Nat}
/-- The syndromes without what the erasures add. -/
def wiL (S L : List (El R)) (r n : Nat) : List (El R) := tab n fun j => ps (cf L) (cf S) (j + r)
theorem wiL_len (S L : List (El R)) (r n : Nat) : (wiL S L r n).length = n := tab_len _ _
theorem wiL_snoc (S L : List (El R)) (r n : Nat) : wiL S L r (n + 1) = wiL S L r n ++ [ps (cf L) (cf S) (n + r)] := tab_snoc _ _
def WiRel (w : World) (p k g : Int) (l c r M : Nat) (S L : List (El R)) (v i : Value) (wr : World) : Prop :=
  ∃ j t : Nat, j ≤ M ∧ t = j + r ∧ i = .int .i64 t ∧ Own wr (w.heap.size + 1) 2 .i64 v (iv (wiL S L r j)) ∧ CBox w wr p k g l c
set_option maxRecDepth 100000 in
set_option maxHeartbeats 4000000 in
theorem implWithout (h : CodeIs R γ p k g l c) (S L : List (El R)) (r M : Nat) (A A' : Option Addr) (cn m cm B : Nat) (w : World) (hI : Ints .i64 w B A c (iv S)) (hJ : Ints .i64 w B A' m (iv L)) (hB : B ≤ w.heap.size) (hm : m = r + 1) (hrM : r + M = c) :
    Calls Try.prog 77 #[.agg #[.int .i64 p, .int .i64 k, .int .i64 g, .int .i64 l, .int .i64 c], .slice A c cn, .slice A' m cm] w (NewE (wiL S L r M) w) := by
  have HX := hide (CBox.start w p k g l c)
  have hc64 := h.c64
  have HI := hide hI
  have HJ := hide hJ
  have HLM := hide (show L.length = m by rw [← iv_len]; exact hJ.len)
  have HM := hide hm
  have hmb : m ≤ 65 := by omega
  have hrm : r < m := by omega
  have hrc : r ≤ c := by omega
  have HRM := hide hrM
  have hw0 : IntKind.i64.wrap ((m : Int) - 1) = (r : Int) := by rw [IntWalk.i64_in _ ⟨by omega, by omega⟩]; omega
  clear hI hJ hm hrM
  go_enter Try.func77, Try.ntmps77
  go_wp2_with fail
  go_loopw [7, 8] (fun v i wr => WiRel w p k g l c r M S L v i wr) (fun _ i _ => c - (intOf i).toNat)
  case atStart => exact ⟨0, r, Nat.zero_le _, by omega, rfl, World.ownsRow_nil _ _ _ _, HX.out⟩
  case round =>
    clear HX
    obtain ⟨v, rfl⟩ : ∃ v : Value, v = u7 := ⟨_, rfl⟩
    obtain ⟨j, t, hj, htj, rfl, HO, HX⟩ := hrel
    have HO := hide HO
    have HX := hide HX
    have HTJ := hide htj
    have hrM : r + M = c := HRM.out
    by_cases hlt : j < M
    · have htc : t < c := by omega
      have hrt : r ≤ t := by omega
      have hmt : m ≤ t + 1 := by have := HM.out; omega
      obtain ⟨d, hd⟩ : ∃ d, ps (cf L) (cf S) t = d := ⟨_, rfl⟩
      have HD := hide hd
      have HSN := hide (show iv (wiL S L r j) ++ [(d.val : Int)] = iv (wiL S L r (j + 1)) by
        rw [wiL_snoc, show iv (wiL S L r j ++ [ps (cf L) (cf S) (j + r)]) = iv (wiL S L r j) ++ iv [ps (cf L) (cf S) (j + r)] from List.map_append, ← htj, hd]; rfl)
      have hlen : ((iv (wiL S L r j)).length + 1) * 8 ≤ 140737488355328 := by rw [iv_len, wiL_len]; omega
      obtain ⟨c0, c1, c2, c3, c4⟩ := HX.out.cells
      clear hd htj hrM
      go_wp2_with fail
      refine (implSumAt h.fld L S t A' A m cm c cn B _ (HJ.out.below (HX.out.2.mono hB)) (HI.out.below (HX.out.2.mono hB)) (Nat.le_trans hB (Nat.le_of_lt HX.out.lt)) htc hmt (by omega)).mono ?_
      rw [HD.out]
      rintro e w2 ⟨rfl, hb⟩
      have HX2 := hide (HX.out.next hb)
      have HO2 := hide (HO.out.below hb (Nat.le_refl _))
      have hw2 : w.heap.size + 1 ≤ w2.heap.size := HX2.out.lt
      clear hb c0 c1 c2 c3 c4
      go_wp2_with (at_builtin; refine wpList_app1 w2 rfl _ _ _ rfl elem64 (w.heap.size + 1) v _ rfl HO2.out (d.val : Int) rfl hlen hw2 ?_; intro v3 w3 hown hgrow; rw [HSN.out] at hown; have HO3 := hide hown; have HX3 := hide (HX2.out.grow hgrow (fun r hr => (HO2.out.lt hr).1)); clear hown hgrow)
      go_roundw
      case rel => exact ⟨j + 1, t + 1, by omega, by rw [HTJ.out]; omega, by go_num, HO3.out, HX3.out⟩
      case measure => simp [intOf]; omega
    · obtain rfl : j = M := by omega
      obtain rfl : t = c := by omega
      have HF := hide (newE_of (w := w) HO.out HX.out.2 (Nat.le_succ _))
      clear hlt htj hrM
      go_wp2_with fail
      go_ret
      exact HF.out

/-- What the changes are. -/
def ChPost (num : Nat → El R) (γ : El R) (l c : Nat) (E : List Nat) (ws : List (El R)) (w : World) (x : Ending) (w' : World) : Prop :=
  (∃ (J : List Nat) (A1 A2 : Option Addr) (m1 m2 : Nat), x = .returned (.tuple #[.slice A1 J.length m1, .slice A2 J.length m2, .bool true]) ∧ Ints .i64 w' w'.heap.size A1 J.length (nv J) ∧ Ints .i64 w' w'.heap.size A2 J.length (iv (J.map (fvI num γ l c (synW γ c ws) J))) ∧ Below w.heap.size w w' ∧
    Idx l J ∧ J.length ≤ c ∧ Okw γ l c E ws (corW num γ l c ws J) ∧ ∀ cw, Okw γ l c E ws cw → corW num γ l c ws J = cw) ∨
  (∃ v1 v2, x = .returned (.tuple #[v1, v2, .bool false]) ∧ Below w.heap.size w w' ∧ ∀ cw, ¬ Okw γ l c E ws cw)
set_option maxRecDepth 100000 in
set_option maxHeartbeats 16000000 in
theorem implChanges (h : CodeIs R γ p k g l c) (E : List Nat) (hE : Idx l E) (ws : List (El R)) (hwl : ws.length = l) (A1 A' : Option Addr) (m1 n cm B : Nat) (w : World) (hI : Ints .i64 w B A1 c (iv (synW γ c ws))) (hm1 : c ≤ m1) (hI' : Ints .i64 w B A' n (nv E)) (hB : B ≤ w.heap.size) :
    Calls Try.prog 49 #[.agg #[.int .i64 p, .int .i64 k, .int .i64 g, .int .i64 l, .int .i64 c], .slice A1 c m1, .slice A' n cm] w (ChPost (numE h.fld) γ l c E ws w) := by
  have HX := hide (CBox.start w p k g l c)
  have hl255 := h.l255
  have hc64 := h.c64
  have hcl := h.cl
  have hEn : E.length = n := by rw [← nv_len]; exact hI'.len
  have hnl : n ≤ l := by rw [← hEn]; exact hE.len
  have HI := hide hI
  have HI' := hide hI'
  have HWL := hide hwl
  have HEN := hide hEn
  have HEI := hide hE
  clear hI hI' hE hEn hwl
  obtain ⟨c0, c1, c2, c3, c4⟩ := HX.out.cells
  by_cases hnc : n ≤ c
  · obtain ⟨S, hS⟩ : ∃ S, synW γ c ws = S := ⟨_, rfl⟩
    obtain ⟨L, hL⟩ : ∃ L, locP (locs γ l E) = L := ⟨_, rfl⟩
    obtain ⟨M, hM⟩ : ∃ M, M = c - n := ⟨_, rfl⟩
    obtain ⟨T, hT⟩ : ∃ T, wiL S L n M = T := ⟨_, rfl⟩
    have HSL := hide (show S.length = c by rw [← hS, syn_len])
    have HLL := hide (show L.length = n + 1 by rw [← hL, locJ_len h.far, HEN.out])
    have HTL := hide (show T.length = M by rw [← hT, wiL_len])
    have hMb : M ≤ 64 := by omega
    have hnM : n + M = c := by omega
    have HMC := hide (show M = c - E.length by rw [HEN.out, hM])
    -- the sequence is the key equation's
    have HKT := hide (show ∀ j, j < c - E.length → cf T j = cf (keyP γ l c ws E) (j + E.length) from fun j hj => by
      rw [HEN.out] at hj ⊢
      rw [← hT, wiL, cf_tab, if_pos (by omega), keyP, cf_omeg, hS, hL]
      show _ = if j + n < c then _ else _
      rw [if_pos (by omega), ps_comm])
    obtain ⟨t, ht⟩ : ∃ t, bm (cf T) M = t := ⟨_, rfl⟩
    have HRF := hide (fun cw (ho : Okw γ l c E ws cw) => reg_found (num := numE h.fld) h.far (num_zero h.fld) (num_succ h.fld) HEI.out HWL.out ho HKT.out)
    have htl : t.C.length ≤ t.L + 1 := by rw [← ht]; exact bm_len _ _
    have htp : 0 < t.C.length := by rw [← ht]; exact bm_pos _ _
    have htM : t.L ≤ M := by rw [← ht]; exact bm_le _ _
    rw [← HMC.out, ht, hL] at HRF
    obtain ⟨q, hq⟩ : ∃ q, recL M t = q := ⟨_, rfl⟩
    obtain ⟨fd, hfd⟩ : ∃ fd, recB M t = fd := ⟨_, rfl⟩
    obtain ⟨nq, hnq⟩ : ∃ nq, (iv q).length = nq := ⟨_, rfl⟩
    have HQ := hide (show (M < 2 * t.L ∧ fd = false) ∨ (2 * t.L ≤ M ∧ fd = true ∧ q = t.C) by
      by_cases hlt : M < 2 * t.L
      · exact .inl ⟨hlt, by rw [← hfd]; exact (recL_no hlt).2⟩
      · exact .inr ⟨by omega, by rw [← hfd]; exact (recL_yes hlt).2, by rw [← hq]; exact (recL_yes hlt).1⟩)
    have HRL := hide (show iv (recL M (bm (cf T) M)) = iv q by rw [ht, hq])
    have HRB := hide (show recB M (bm (cf T) M) = fd by rw [ht, hfd])
    have HNQ := hide hnq
    have HS := hide hS
    have HL := hide hL
    have HT := hide hT
    have HTB := hide (show t.C.length ≤ t.L + 1 ∧ 0 < t.C.length ∧ t.L ≤ M from ⟨htl, htp, htM⟩)
    have z1 : decide ((c : Int) < (n : Int)) = false := by rw [decide_eq_false_iff_not]; omega
    have HIS := hide (show Ints .i64 w B A1 c (iv S) by rw [← hS]; exact HI.out)
    have HNM := hide hnM
    clear hS hL hT ht hq hfd hnq hM htl htp htM hnM HI
    go_enter Try.func49, Try.ntmps49
    go_wp2_with fail
    refine (implLocPoly h E HEI.out.2 A' n cm B _ (HI'.out.below (HX.out.2.mono hB)) (Nat.le_trans hB (Nat.le_of_lt HX.out.lt)) (by omega)).mono ?_
    rw [HL.out]
    rintro e w2 ⟨A2, m2, rfl, hm2, ho, hb⟩
    rw [HLL.out] at ho hm2 ⊢
    have HX2 := hide (HX.out.next hb)
    have HP2 := hide ((HIS.out.below (HX2.out.2.mono hB)).more (Nat.le_trans hB (Nat.le_of_lt HX2.out.lt)))
    have HQ2 := hide ho.intsE
    clear ho hb hm2 c0 c1 c2 c3 c4
    go_wp2_with fail
    go_region_held3 (fun w' => w'.cell? ⟨w.heap.size, 0, none⟩ = some (.int .i64 p) ∧ w'.cell? ⟨w.heap.size, 1, none⟩ = some (.int .i64 k) ∧ w'.cell? ⟨w.heap.size, 2, none⟩ = some (.int .i64 g) ∧ w'.cell? ⟨w.heap.size, 3, none⟩ = some (.int .i64 l) ∧ w'.cell? ⟨w.heap.size, 4, none⟩ = some (.int .i64 c))
      (first
        | exact HX2.out.drew.cells
        | exact HX3.out.cells
        | exact HX4.out.cells)
      (first
        | (go_at_call 77; refine (implWithout h S L n M A1 A2 m1 (n + 1) m2 _ _ HP2.out.drew HQ2.out.drew (Nat.le_refl _) rfl HNM.out).mono ?_; rw [HT.out]; rintro e w3 ⟨A3, m3, rfl, hm3, ho, hb⟩; rw [HTL.out] at ho hm3 ⊢; have HX3 := hide (HX2.out.drew.next hb); have HP3 := hide ((HP2.out.drew.below hb).more hb.size); have HQ3 := hide ((HQ2.out.drew.below hb).more hb.size); have HT3 := hide ho.intsE; clear ho hb hm3)
        | (go_at_call 35; refine (implRecurrence h.fld T A3 M m3 _ _ HT3.out (Nat.le_refl _) hMb).mono ?_; rw [HRL.out, HRB.out]; rintro e w4 ⟨Av, mv, rfl, hmv, ho, hb⟩; have HX4 := hide (HX3.out.next hb); have HP4 := hide ((HP3.out.below hb).more hb.size); have HQ4 := hide ((HQ3.out.below hb).more hb.size); have HV4 := hide ho.ints; rw [HNQ.out] at HV4 ⊢; clear ho hb hmv))
    rcases HQ.out with ⟨hlt, hd⟩ | ⟨hle, hd, hq⟩
    · have HF := hide (show ∀ cw, ¬ Okw γ l c E ws cw from fun cw ho => by have := (HRF.out cw ho).1; omega)
      subst hd
      clear hlt
      go_wp2_with fail
      go_ret3
      exact .inr ⟨_, _, rfl, HX4.out.2, HF.out⟩
    · have HTC := HTB.out
      rw [← hq] at HTC
      have hql : nq ≤ 100 := by rw [← HNQ.out, iv_len]; omega
      have hqr : 2 * q.length + E.length ≤ c + 2 := by have := HNM.out; have := HEN.out; omega
      obtain ⟨Pq, hPq⟩ : ∃ Pq, mulP L q = Pq := ⟨_, rfl⟩
      have HPP := hide hPq
      have HSO := hide (fun hB => reg_sound (num := numE h.fld) h.far (num_zero h.fld) (num_succ h.fld) HEI.out HWL.out (v := q) HTC.2.1 hqr hB)
      rw [HL.out, hPq] at HSO
      have HFD := hide (fun cw (ho : Okw γ l c E ws cw) => (HRF.out cw ho).2)
      rw [← hq, hPq] at HFD
      obtain ⟨nP, hnP⟩ : ∃ nP, (mulP L q).length = nP := ⟨_, rfl⟩
      have hnPb : nP ≤ 1000 := by rw [← hnP, mulP, tab_len]; unfold plen; rw [HLL.out, ← iv_len q, HNQ.out]; split <;> omega
      have HNP := hide hnP
      subst hd
      clear hPq hnP hq HTC hqr hle HQ
      go_wp2_with fail
      go_region_held3 (fun w' => w'.cell? ⟨w.heap.size, 0, none⟩ = some (.int .i64 p) ∧ w'.cell? ⟨w.heap.size, 1, none⟩ = some (.int .i64 k) ∧ w'.cell? ⟨w.heap.size, 2, none⟩ = some (.int .i64 g) ∧ w'.cell? ⟨w.heap.size, 3, none⟩ = some (.int .i64 l) ∧ w'.cell? ⟨w.heap.size, 4, none⟩ = some (.int .i64 c))
        (first
          | exact HX4.out.drew.cells
          | exact HX5.out.cells
          | exact HX6.out.cells)
        (first
          | (go_at_call 79; refine (implTimes h.fld L q A2 Av (n + 1) m2 nq mv _ _ HQ4.out.drew HV4.out.drew (Nat.le_refl _) (by omega) (by omega)).mono ?_; rintro e w5 ⟨g5, m5, rfl, ho, hg5, hb⟩; rw [HNP.out] at ho ⊢; have HX5 := hide (HX4.out.drew.next hb); have HP5 := hide ((HP4.out.drew.below hb).more hb.size); have HT5 := hide ho.intsE; clear ho hg5 hb)
          | (go_at_call 78; refine (implLocatedBy h (mulP L q) (some ⟨g5, 0, none⟩) nP m5 _ _ HT5.out (Nat.le_refl _) (by omega)).mono ?_; rw [HPP.out]; rintro e w6 ⟨A6, m6, rfl, hm6, ho, hb⟩; have HX6 := hide (HX5.out.next hb); have HP6 := hide ((HP5.out.below hb).more hb.size); have HJ6 := hide ho.ints; obtain ⟨nJ, hnJ⟩ : ∃ nJ, (nv (locJ γ l Pq)).length = nJ := ⟨_, rfl⟩; have HNJ := hide hnJ; rw [hnJ] at HJ6 ⊢; clear ho hb hm6 hnJ))
      rcases hB : locB γ l Pq with _ | _
      · have HF := hide (show ∀ cw, ¬ Okw γ l c E ws cw from fun cw ho => by
          have h1 := (HFD.out cw ho).1
          have h2 := locB_locs h.far (union_idx l E (errs l E ws cw))
          rw [← h1, hB] at h2; cases h2)
        clear hB
        go_wp2_with fail
        go_ret3
        exact .inr ⟨_, _, rfl, HX6.out.2, HF.out⟩
      · have HB := hide hB
        have HS2 := hide (HSO.out hB)
        have HJE := hide (show locJ γ l Pq = hits γ l Pq by rw [locJ, hB]; rfl)
        obtain ⟨J, hJ⟩ : ∃ J, hits γ l Pq = J := ⟨_, rfl⟩
        have HJJ := hide hJ
        have HJI := hide (show Idx l J by rw [← hJ]; exact hits_idx _ _ _)
        rw [HJE.out, hJ] at HJ6 HNJ
        rw [hJ] at HS2
        have hnJ : J.length = nJ := by rw [← HNJ.out, nv_len]
        have hnJc : nJ ≤ c := by rw [← hnJ]; exact HS2.out.1
        have HJL := hide hnJ
        have HCO := hide (show ∀ cw, Okw γ l c E ws cw → valB γ l c S J = true ∧ corW (numE h.fld) γ l c ws J = cw from fun cw ho => by
          have h1 := (HFD.out cw ho).1
          have h2 : J = union l E (errs l E ws cw) := by rw [← HJJ.out, h1, hits_locs h.far (union_idx _ _ _)]
          have := found_cor (num := numE h.fld) h.far (num_zero h.fld) (num_succ h.fld) HWL.out ho HJI.out (fun i hi => by rw [h2, union_mem]; exact ⟨fun h => h.2, fun h => ⟨hi, h⟩⟩) HS2.out.1
          rw [HS.out] at this
          exact this)
        obtain ⟨c0, c1, c2, c3, c4⟩ := HX6.out.cells
        clear hB hJ hnJ
        go_wp2_with fail
        refine (implErrorValues0 h S J HJI.out.2 A1 A6 c m1 nJ m6 _ w6 HP6.out HJ6.out (Nat.le_refl _) hm1 (by omega) (by omega)).mono ?_
        rintro e w7 ⟨A7, m7, rfl, hm7, ho, hb⟩
        have HX7 := hide (HX6.out.next hb)
        have HJ7 := hide ((HJ6.out.below hb).more hb.size)
        have HV7 := hide ho.ints
        obtain ⟨nV, hnV⟩ : ∃ nV, (iv (fvs (numE h.fld) γ l c S J)).length = nV := ⟨_, rfl⟩
        have HNV := hide hnV
        rw [hnV] at HV7 ⊢
        clear ho hb hm7 hnV c0 c1 c2 c3 c4
        rcases hvB : valB γ l c S J with _ | _
        · have HF := hide (show ∀ cw, ¬ Okw γ l c E ws cw from fun cw ho => by
            have := (HCO.out cw ho).1
            rw [hvB] at this; cases this)
          clear hvB
          go_wp2_with fail
          go_ret3
          exact .inr ⟨_, _, rfl, HX7.out.2, HF.out⟩
        · have HOK := hide (HS2.out.2 (by rw [HS.out]; exact hvB))
          have HVE := hide (show fvs (numE h.fld) γ l c S J = J.map (fvI (numE h.fld) γ l c S J) by rw [fvs, if_pos hvB])
          rw [HVE.out] at HV7 HNV
          have hnV : nV = nJ := by rw [← HNV.out, iv_len, List.length_map, HJL.out]
          subst hnV
          have HG := hide (show ChPost (numE h.fld) γ l c E ws w (.returned (.tuple #[.slice A6 nV m6, .slice A7 nV m7, .bool true])) w7 from .inl ⟨J, A6, A7, m6, m7, by rw [HJL.out], by rw [HJL.out]; exact HJ7.out, by rw [HJL.out, HS.out]; exact HV7.out, HX7.out.2, HJI.out, by rw [HJL.out]; exact hnJc, HOK.out, fun cw ho => (HCO.out cw ho).2⟩)
          clear hvB
          go_wp2_with fail
          go_ret3
          exact HG.out
  · have z1 : decide ((c : Int) < (n : Int)) = true := by rw [decide_eq_true_eq]; omega
    have HF := hide (show ∀ cw, ¬ Okw γ l c E ws cw from fun cw ho => by have := ho.2.2; rw [HEN.out] at this; omega)
    go_enter Try.func49, Try.ntmps49
    go_wp2_with fail
    go_ret3
    exact .inr ⟨_, _, rfl, HX.out.2, HF.out⟩
end
end Go.Proofs.Ytdniocdmncldjaa
