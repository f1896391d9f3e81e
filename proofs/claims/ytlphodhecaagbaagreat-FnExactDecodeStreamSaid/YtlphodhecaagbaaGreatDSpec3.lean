/-
  The contract of the algorithm of Euclid, of the model.
  Condition: the code is valid.
-/
import Derived.Test.YtlphodhecaagbaaGreatDSpec2
namespace Go.Proofs.YtlphodhecaagbaaGreat
open Go.RowKit
set_option linter.unusedSimpArgs false
set_option linter.unusedVariables false

section
variable {R : Fld} {γ : El R} {p k g : Int} {l c : Nat}
/-- What the model's algorithm leaves: the polynomial that it ends with. -/
def EsPost (c r : Nat) (T : List (El R)) (w : World) (x : Ending) (w' : World) : Prop :=
  ∃ a b u v : List (El R), Eu c r T a b u v ∧ 2 * b.length < c + r + 2 ∧ NewE v w x w'
def lenOfS : Value → Nat
  | .slice _ n _ => n
  | _ => 0
def EsRel (w : World) (p k g : Int) (l c r : Nat) (T : List (El R)) (s t s' t' : Value) (wr : World) : Prop :=
  ∃ (a b u v : List (El R)) (Aa : Option Addr) (na ca : Nat) (Ab : Option Addr) (nb cb : Nat) (Au : Option Addr) (nu cu : Nat) (Av : Option Addr) (nv' cv : Nat),
    s = .slice Aa na ca ∧ t = .slice Ab nb cb ∧ s' = .slice Au nu cu ∧ t' = .slice Av nv' cv ∧ a.length = na ∧ b.length = nb ∧ u.length = nu ∧ v.length = nv' ∧
    Ints .i64 wr wr.heap.size Aa na (iv a) ∧ Ints .i64 wr wr.heap.size Ab nb (iv b) ∧ Ints .i64 wr wr.heap.size Au nu (iv u) ∧ Own wr (w.heap.size + 1) 2 .i64 (.slice Av nv' cv) (iv v) ∧
    CF w wr p k g l c ∧ Eu c r T a b u v
theorem trim_quo {a b : List (El R)} (ha : Tr a) (hb : Tr b) (h : 0 < b.length) : trim (quoP a b) = quoP a b := trim_id (tr_quo ha hb h)

set_option maxRecDepth 100000 in
set_option maxHeartbeats 8000000 in
theorem specEuclid (h : CodeIs R γ p k g l c) (S : List (El R)) (E : List Nat) (hE : ∀ i ∈ E, i < l) (A A' : Option Addr) (n cn r cr B : Nat) (w : World) (hI : Ints .i64 w B A n (iv S)) (hI' : Ints .i64 w B A' r (nv E)) (hB : B ≤ w.heap.size) (hcap : n ≤ cn) (hn : n ≤ 1000) (hr : r ≤ c) :
    Calls Tryz.prog 109 #[.agg #[.int .i64 p, .int .i64 k, .int .i64 g, .int .i64 l, .int .i64 c], .slice A n cn, .slice A' r cr] w (EsPost c r (omeg c S (locP (locs γ l E))) w) := by
  have HX := hide (CBox.start w p k g l c)
  have hl255 := h.l255
  have hc64 := h.c64
  have hc1 := h.c1
  have hSn : S.length = n := by rw [← iv_len]; exact hI.len
  have hEr : E.length = r := by rw [← nv_len]; exact hI'.len
  have HI := hide hI
  have HI' := hide hI'
  have HLL := hide (show (locP (locs γ l E)).length = r + 1 by rw [locJ_len h.far, hEr])
  obtain ⟨L, hL⟩ : ∃ L, locP (locs γ l E) = L := ⟨_, rfl⟩
  rw [hL]
  obtain ⟨T, hT⟩ : ∃ T, omeg c S L = T := ⟨_, rfl⟩
  rw [hT]
  obtain ⟨nT, hnT⟩ : ∃ nT, T.length = nT := ⟨_, rfl⟩
  have hnTc : nT ≤ c := by rw [← hnT, ← hT]; exact omeg_le _ _ _
  have HTT := hide (show Tr T by rw [← hT]; exact tr_omeg _ _ _)
  obtain ⟨s, hs⟩ : ∃ s, (trim S).length = s := ⟨_, rfl⟩
  have hsn : s ≤ n := by have := trim_le S; omega
  obtain ⟨q, hq⟩ : ∃ q, (mulP (trim S) L).length = q := ⟨_, rfl⟩
  have hqb : q ≤ 5000 := by rw [← hq, mulP, tab_len]; unfold plen; rw [← hL, HLL.out]; split <;> omega
  have HTR := hide (show trim (mulP (trim S) L) = mulP (trim S) L from trim_id (tr_mul (tr_trim S) (by rw [← hL]; exact tr_loc (locs_ne h.far E))))
  have HTm := hide (show trim ((mulP (trim S) L).take c) = T from hT)
  have HL := hide hL
  have HSL := hide hs
  have HQL := hide hq
  have HTL := hide hnT
  rw [hL] at HLL
  have HCS := hide (CF.start w p k g l c)
  clear hI hI' hSn hEr hL hT hnT hs hq
  obtain ⟨c0, c1, c2, c3, c4⟩ := HX.out.cells
  have d4 := HCS.out.x.cells.2.2.2.2
  go_enter Tryz.func109, Tryz.ntmps109
  go_wp2_with (refine wpList_mkN _ rfl (.tmp 20) (.tmp 20) 28 rfl elem64 .i64 .i64 _ _ (c + 1) rfl rfl (by omega) (by omega) (by omega) fun w2 h1 h2 => ?_; have HX2 := hide (HCS.out.next h2); rw [alloc_size, alloc_size, iv_zeros (R := R)] at h1; have HO2 := hide h1; have hcx := HO2.out.cellAt (j := c) (iv_at (by rw [tab_len]; omega)); have hfx := HO2.out.frozenAt c; have e4 := HX2.out.x.cells.2.2.2.2; clear h1 h2)
  have HO3 := hide (HO2.out.stored c 1).1
  have HG3 := hide (HO2.out.stored c 1).2
  rw [xpow_set] at HO3
  have HX3 := hide (HX2.out.grow HG3.out (fun b hb => by injection hb with hb; omega))
  obtain ⟨w3, hw3⟩ : ∃ w3, w2.setCell ⟨w.heap.size + 1 + 1, c, none⟩ (.int .i64 1) = w3 := ⟨_, rfl⟩
  rw [hw3] at HO3 HX3 ⊢
  have HA3 := hide HO3.out.intsE
  clear hw3 HG3 HO2 HX2 HO3 hcx hfx c0 c1 c2 c3 c4 d4 e4
  go_region_held3 (fun w' => w'.cell? ⟨w.heap.size, 0, none⟩ = some (.int .i64 p) ∧ w'.cell? ⟨w.heap.size, 1, none⟩ = some (.int .i64 k) ∧ w'.cell? ⟨w.heap.size, 2, none⟩ = some (.int .i64 g) ∧ w'.cell? ⟨w.heap.size, 3, none⟩ = some (.int .i64 l) ∧ w'.cell? ⟨w.heap.size, 4, none⟩ = some (.int .i64 c) ∧ w'.cell? ⟨w.heap.size + 1, 0, none⟩ = some (.int .i64 p) ∧ w'.cell? ⟨w.heap.size + 1, 1, none⟩ = some (.int .i64 k) ∧ w'.cell? ⟨w.heap.size + 1, 2, none⟩ = some (.int .i64 g))
    (first
      | exact HX3.out.drew.all
      | exact HX4.out.all
      | exact HX5.out.all
      | exact HX6.out.all
      | exact HX7.out.all)
    (first
      | (go_at_call 82; refine (specTrimE A n cn B S _ (HI.out.below (HX3.out.drew.x.2.mono hB)) (Nat.le_trans hB (Nat.le_of_lt HX3.out.drew.x.lt)) (by omega) hcap).mono ?_; rintro e w4 ⟨A4, m4, rfl, hm4, ho4, hb4⟩; rw [HSL.out] at ho4 ⊢; have HX4 := hide (HX3.out.drew.next hb4); have HA4 := hide ((HA3.out.drew.below hb4).more hb4.size); have HS4 := hide ho4.intsE; clear ho4 hb4 hm4)
      | (go_at_call 141; refine (specLocPoly h E hE A' r cr B _ (HI'.out.below (HX4.out.x.2.mono hB)) (Nat.le_trans hB (Nat.le_of_lt HX4.out.x.lt)) (by omega)).mono ?_; rw [HL.out]; rintro e w5 ⟨A5, m5, rfl, hm5, ho5, hb5⟩; rw [HLL.out] at ho5 ⊢; have HX5 := hide (HX4.out.next hb5); have HA5 := hide ((HA4.out.below hb5).more hb5.size); have HS5 := hide ((HS4.out.below hb5).more hb5.size); have HP5 := hide ho5.intsE; clear ho5 hb5 hm5)
      | (go_at_call 116; refine (specMulE' h.fld (trim S) L A4 A5 s m4 (r + 1) m5 _ _ HS5.out HP5.out (Nat.le_refl _) (by omega) (by omega)).mono ?_; rw [HTR.out]; rintro e w6 ⟨A6, m6, rfl, hm6, ho6, hb6⟩; rw [HQL.out] at ho6 hm6 ⊢; have HX6 := hide (HX5.out.next hb6); have HA6 := hide ((HA5.out.below hb6).more hb6.size); have HS6 := hide ho6.intsE; clear ho6 hb6)
      | (go_at_call 140; refine (specModE A6 q m6 _ c (mulP (trim S) L) _ HS6.out (Nat.le_refl _) hm6 (by omega) (by omega)).mono ?_; rw [HTm.out]; rintro e w7 ⟨A7, m7, rfl, hm7, ho7, hb7⟩; rw [HTL.out] at ho7 ⊢; have HX7 := hide (HX6.out.next hb7); have HA7 := hide ((HA6.out.below hb7).more hb7.size); have HT7 := hide ho7.intsE; clear ho7 hb7 hm7))
  clear hm6 HX3 HA3 HX4 HA4 HS4 HX5 HA5 HS5 HP5 HX6 HA6 HS6
  have HX8 := hide (HX7.out.alloc (.cells #[] 2))
  have HX9 := hide (HX8.out.alloc (.cells #[.int .i64 1] 2))
  have HB9 := hide (show Below w7.heap.size w7 ((w7.alloc (.cells #[] 2)).alloc (.cells #[.int .i64 1] 2)) from ((Below.refl w7.heap.size w7).alloc (Nat.le_refl _) _).alloc (by rw [alloc_size]; exact Nat.le_succ _) _)
  have HA9 := hide ((HA7.out.below HB9.out).more HB9.out.size)
  have HT9 := hide ((HT7.out.below HB9.out).more HB9.out.size)
  have HV9 := hide ((own_lit1 (w7.alloc (.cells #[] 2)) 2 .i64 1).low (base' := w.heap.size + 1) (by have := HX7.out.lt; rw [alloc_size]; omega))
  rw [alloc_size] at HV9
  have HST := hide (Eu.start (r := r) HTT.out (by rw [HTL.out]; exact hnTc) hr)
  go_wp2_with fail
  go_loopw [8, 9, 10, 11] (fun s t s' t' wr => EsRel w p k g l c r T s t s' t' wr) (fun _ t _ _ _ => lenOfS t)
  case atStart => exact ⟨_, _, _, [1], _, c + 1, c + 1, _, nT, m7, _, 0, 0, _, 1, 1, rfl, rfl, rfl, rfl, xpow_len c, HTL.out, rfl, rfl, HA9.out, HT9.out, Ints.empty, HV9.out, HX9.out, HST.out⟩
  case round =>
    clear HX HX7 HX8 HX9 HB9 HA7 HA9 HT7 HT9 HV9 HST HCS
    obtain ⟨a, b, u, v, Aa, na, ca, Ab, nb, cb, Au, nu, cu, Av, nw, cv, rfl, rfl, rfl, rfl, hla, hlb, hlu, hlv, HIa, HIb, HIu, HOv, HX, HE⟩ := hrel
    have hbd : na ≤ 66 ∧ nb ≤ 66 ∧ nu ≤ 66 ∧ nw ≤ 66 ∧ nb < na := by
      have e1 := HE.len; have e2 := HE.ba; have e3 := HE.uv
      omega
    have HX := hide HX
    have HIa := hide HIa
    have HIb := hide HIb
    have HIu := hide HIu
    have HOv := hide HOv
    have HE := hide HE
    obtain ⟨c0, c1, c2, c3, c4, f0, f1, f2⟩ := HX.out.all
    by_cases hst : 2 * nb < c + r + 2
    · have z1 : decide ((c : Int) + (r : Int) + 1 < 2 * (nb : Int)) = false := by rw [decide_eq_false_iff_not]; omega
      have HLv := hide hlv
      have HF := hide (show EsPost c r T w (.returned (.slice Av nw cv)) wr from ⟨a, b, u, v, HE.out, by rw [hlb]; exact hst, newE_of HOv.out HX.out.x.2 (Nat.le_succ _)⟩)
      clear hla hlb hlu hlv
      go_wp2_with fail
      go_ret
      exact HF.out
    · have z1 : decide ((c : Int) + (r : Int) + 1 < 2 * (nb : Int)) = true := by rw [decide_eq_true_eq]; omega
      have hb0 : 0 < nb := by omega
      have HQ := hide (trim_quo HE.out.ta HE.out.tb (by omega))
      obtain ⟨nQ, hnQ⟩ : ∃ nQ, (quoP a b).length = nQ := ⟨_, rfl⟩
      have hnQb : nQ ≤ 70 := by rw [← hnQ, quo_len (by omega)]; omega
      obtain ⟨nR, hnR⟩ : ∃ nR, (remP a b).length = nR := ⟨_, rfl⟩
      have hnRb : nR < nb := by rw [← hnR, ← hlb]; exact rem_len HE.out.tb (by omega)
      have HNE := hide (show trim (mulP (quoP a b) [-1]) = scaP (-1) (quoP a b) from mul_num _ _)
      obtain ⟨ns, hns⟩ : ∃ ns, (scaP (-1) (quoP a b)).length = ns := ⟨_, rfl⟩
      have hnsb : ns ≤ 70 := by rw [← hns]; have := trim_le (tab (quoP a b).length fun i => (-1) * cf (quoP a b) i); rw [tab_len] at this; unfold scaP; omega
      obtain ⟨X, hX⟩ : ∃ X, trim (mulP (scaP (-1) (quoP a b)) v) = X := ⟨_, rfl⟩
      obtain ⟨nX, hnX⟩ : ∃ nX, X.length = nX := ⟨_, rfl⟩
      have hnXb : nX ≤ 300 := by
        rw [← hnX, ← hX]
        refine Nat.le_trans (trim_le _) ?_
        rw [mulP, tab_len]; unfold plen; split <;> omega
      have HST := hide (HE.out.step (v' := addP u X) (by omega) (tr_trim _) (by
        rw [cf_addP, ← hX, cf_trim, cf_mul, cf_sca]
        funext i
        rw [ps_mulL, enm, e1m]))
      obtain ⟨nz, hnz⟩ : ∃ nz, (addP u X).length = nz := ⟨_, rfl⟩
      have HNQ := hide hnQ
      have HNR := hide hnR
      have HNS := hide hns
      have HXX := hide hX
      have HNX := hide hnX
      have HNZ := hide hnz
      have HLb := hide hlb
      have HLv := hide hlv
      clear hla hlb hlu hlv hnQ hnR hns hX hnX hnz
      go_wp2_with fail
      refine (specDivE h.fld a b Aa Ab na ca nb cb wr.heap.size wr HIa.out HIb.out (Nat.le_refl _) (by omega) (by omega) hb0).mono ?_
      rw [HQ.out]
      rintro e w1 hdiv
      obtain ⟨Aq, cq, Ar, cr', rfl, hcq, hcr, hoq, hor, hne, hb⟩ := hdiv
      rw [HNQ.out] at hoq hcq
      rw [HNR.out] at hor hcr
      rw [HNQ.out, HNR.out]
      have HX1 := hide (HX.out.next hb)
      have HIq := hide hoq.intsE
      have HIr1 := hide hor.intsE
      have HIb1 := hide ((HIb.out.below hb).more hb.size)
      have HIu1 := hide ((HIu.out.below hb).more hb.size)
      have HOv1 := hide (HOv.out.below hb (Nat.le_refl _))
      clear hoq hor hb hcq hcr hne HX HIa HIb HIu HOv
      clear c0 c1 c2 c3 c4 f0 f1 f2
      go_wp2_with fail
      go_region_held3 (fun w' => w'.cell? ⟨w.heap.size, 0, none⟩ = some (.int .i64 p) ∧ w'.cell? ⟨w.heap.size, 1, none⟩ = some (.int .i64 k) ∧ w'.cell? ⟨w.heap.size, 2, none⟩ = some (.int .i64 g) ∧ w'.cell? ⟨w.heap.size, 3, none⟩ = some (.int .i64 l) ∧ w'.cell? ⟨w.heap.size, 4, none⟩ = some (.int .i64 c) ∧ w'.cell? ⟨w.heap.size + 1, 0, none⟩ = some (.int .i64 p) ∧ w'.cell? ⟨w.heap.size + 1, 1, none⟩ = some (.int .i64 k) ∧ w'.cell? ⟨w.heap.size + 1, 2, none⟩ = some (.int .i64 g))
        (first
          | exact HX1.out.drew.all
          | exact HX2.out.all
          | exact (HX2.out.alloc _).all
          | exact HX3.out.all)
        (first
          | (go_at_call 85; refine (specNegE h.fld 1 _).mono ?_; rintro e w2 ⟨rfl, hb2⟩; have HX2 := hide (HX1.out.drew.next hb2); have HBB := hide hb2; clear hb2)
          | (go_at_call 116; refine (specMulE' h.fld (quoP a b) [-1] Aq (some ⟨w2.heap.size, 0, none⟩) nQ cq 1 1 (w2.heap.size + 1) _ (((HIq.out.drew.below HBB.out).below ((Below.refl w1.heap.size w2).alloc HBB.out.size _)).more (by have := HBB.out.size; simp only [World.drew] at this; exact Nat.le_trans this (Nat.le_succ _))) (ints_one w2 2 .i64 ((-(1 : El R)).val : Int)) (by rw [alloc_size]; exact Nat.le_refl _) (by omega) (by omega)).mono ?_; rw [HNE.out]; rintro e w3 ⟨A3, m3, rfl, hm3, ho3, hb3⟩; rw [HNS.out] at ho3 ⊢; have HX3 := hide ((HX2.out.alloc _).next hb3); have HB3 := hide (show Below w1.heap.size w1.drew w3 from (HBB.out.alloc HBB.out.size _).trans (hb3.mono (Nat.le_trans HBB.out.size (by rw [alloc_size]; exact Nat.le_succ _)))); have HIn := hide ho3.intsE; clear ho3 hb3 hm3))
      have HIb3 := hide ((HIb1.out.drew.below HB3.out).more HB3.out.size)
      have HIr3 := hide ((HIr1.out.drew.below HB3.out).more HB3.out.size)
      have HIu3 := hide ((HIu1.out.drew.below HB3.out).more HB3.out.size)
      have HOv3 := hide (HOv1.out.drew.below HB3.out (Nat.le_refl _))
      clear HX1 HX2 HBB HB3 HIq HIb1 HIr1 HIu1 HOv1
      go_wp2_with fail
      go_region_held3 (fun w' => w'.cell? ⟨w.heap.size, 0, none⟩ = some (.int .i64 p) ∧ w'.cell? ⟨w.heap.size, 1, none⟩ = some (.int .i64 k) ∧ w'.cell? ⟨w.heap.size, 2, none⟩ = some (.int .i64 g) ∧ w'.cell? ⟨w.heap.size, 3, none⟩ = some (.int .i64 l) ∧ w'.cell? ⟨w.heap.size, 4, none⟩ = some (.int .i64 c) ∧ w'.cell? ⟨w.heap.size + 1, 0, none⟩ = some (.int .i64 p) ∧ w'.cell? ⟨w.heap.size + 1, 1, none⟩ = some (.int .i64 k) ∧ w'.cell? ⟨w.heap.size + 1, 2, none⟩ = some (.int .i64 g))
        (first
          | exact HX3.out.drew.all
          | exact HX4.out.all
          | exact HX5.out.all)
        (first
          | (go_at_call 116; refine (specMulE' h.fld (scaP (-1) (quoP a b)) v A3 Av ns m3 nw cv _ _ HIn.out.drew HOv3.out.drew.intsE (Nat.le_refl _) (by omega) (by omega)).mono ?_; rw [HXX.out]; rintro e w4 ⟨A4, m4, rfl, hm4, ho4, hb4⟩; rw [HNX.out] at ho4 ⊢; have HX4 := hide (HX3.out.drew.next hb4); have HB4 := hide hb4; have HI4 := hide ho4.intsE; clear ho4 hb4 hm4)
          | (go_at_call 142; refine (specAddE' h.fld u X Au A4 nu cu nX m4 _ _ ((HIu3.out.drew.below HB4.out).more HB4.out.size) HI4.out (Nat.le_refl _) (by omega) (by omega)).mono ?_; rintro e w5 ⟨A5, m5, rfl, hm5, ho5, hb5⟩; rw [HNZ.out] at ho5 ⊢; have HX5 := hide (HX4.out.next hb5); have HB5 := hide (show Below w3.heap.size w3.drew w5 from HB4.out.trans (hb5.mono HB4.out.size)); have HO5 := hide (ho5.low (base' := w.heap.size + 1) (Nat.le_of_lt HX4.out.lt)); clear ho5 hb5 hm5))
      have HIb5 := hide ((HIb3.out.drew.below HB5.out).more HB5.out.size)
      have HIr5 := hide ((HIr3.out.drew.below HB5.out).more HB5.out.size)
      have HIv5 := hide ((HOv3.out.drew.intsE.below HB5.out).more HB5.out.size)
      clear HX3 HX4 HB4 HI4 HIn HIb3 HIr3 HIu3 HOv3 HB5
      go_wp2_with fail
      go_roundw
      case rel => exact ⟨b, remP a b, v, addP u X, Ab, nb, cb, Ar, nR, cr', Av, nw, cv, A5, nz, m5, rfl, rfl, rfl, rfl, HLb.out, HNR.out, HLv.out, HNZ.out, HIb5.out, HIr5.out, HIv5.out, HO5.out, HX5.out, HST.out.1⟩
      case measure => show nR < nb; exact hnRb
end
end Go.Proofs.YtlphodhecaagbaaGreat
