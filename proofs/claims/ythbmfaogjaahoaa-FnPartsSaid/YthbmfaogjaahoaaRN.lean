/-
  MissingParts and JoinParts, the program's.
  JoinParts, the program's.
  Condition: as each statement says.
-/
import Derived.Test.YthbmfaogjaahoaaRM
import Derived.Test.YthbmfaogjaahoaaTE
namespace Go.Proofs.Ythbmfaogjaahoaa
open Go Go.RowKit
set_option linter.unusedSimpArgs false
set_option linter.unusedVariables false

def MiRel (w : World) (b B0 : Nat) (X : Nat → PtV) (n C : Nat) (v i : Value) (wr : World) : Prop :=
  ∃ k : Nat, k ≤ C ∧ i = .int .i64 k ∧ MapF wr b (txF X n) (mF X n) ∧ Own wr B0 2 .i64 v (msL X n k) ∧ Below B0 w wr ∧ b < B0

theorem pts_cells {w w' : World} {B n : Nat} {A : Option Addr} {X : Nat → PtV} (hI : Pts w B A n X) (hB : B ≤ w.heap.size) (hb : Below w.heap.size w w') (h1 : 1 ≤ n) : ∃ b off, A = some ⟨b, off, none⟩ ∧ b < B ∧ PtAt w' b off (X 0) := by
  obtain ⟨b, off, e, hbb, hc⟩ := hI (by omega)
  have := (hc 0 (by omega)).below hb (by omega)
  rw [Nat.zero_mul, Nat.add_zero] at this
  exact ⟨b, off, e, hbb, this⟩

set_option maxRecDepth 100000 in
set_option maxHeartbeats 2000000 in
theorem implMi (A : Option Addr) (n c B : Nat) (X : Nat → PtV) (w : World) (hI : Pts w B A n X) (hB : B ≤ w.heap.size) (hn : n ≤ 1099511627776) (hX : ∀ j, j < n → (X j).t.size ≤ 1099511627776 ∧ (-9223372036854775808 ≤ (X j).c ∧ (X j).c ≤ 9223372036854775807)) :
    Calls Try.prog 32 #[.slice A n c] w (EbPost (mpL X n) (peC X n) w) := by
  have HPE := hide (implPe A n c B X w hI hB hn hX)
  have HI := hide hI
  by_cases h0 : peC X n = 0
  case neg =>
    have HL := hide (show mpL X n = [] by unfold mpL; rw [if_neg h0])
    rw [HL.out]
    obtain ⟨K, hK⟩ : ∃ K, peC X n = K := ⟨_, rfl⟩
    rw [hK] at HPE h0 ⊢
    clear hK hI hX
    go_enter Try.func32, Try.ntmps32
    go_wp2_with fail
    refine HPE.out.mono ?_
    rintro e w1 ⟨rfl, hb1⟩
    have HB1 := hide hb1
    clear hb1
    go_wp2_with fail
    go_ret2
    exact eb_nil HB1.out
  obtain ⟨⟨h1, h8⟩, hv, he⟩ := pe_yes h0
  obtain ⟨_, hC, hC1, hC8⟩ := al_idx h1 hv he
  have HL := hide (show mpL X n = msL X n (X 0).c.toNat by unfold mpL; rw [if_pos h0])
  rw [h0] at HPE ⊢
  rw [HL.out]
  have HTX := hide (fun w' (hI' : Pts w' B A n X) (hB' : B ≤ w'.heap.size) => implTx A n c B X w' hI' hB' h1 h8 hv)
  have HCE := hide (fun (w' : World) (hb : Below w.heap.size w w') => pts_cells hI hB hb h1)
  obtain ⟨C, hCe⟩ : ∃ C, (X 0).c.toNat = C := ⟨_, rfl⟩
  rw [hCe] at hC hC1 hC8 ⊢
  have HCI := hide hC
  have hn0 : 0 < n := by omega
  have HMN := hide (fun k => @tx_none X k n)
  clear hI hX hv he hC hCe
  go_enter Try.func32, Try.ntmps32
  go_wp2_with fail
  refine HPE.out.mono ?_
  rintro e w1 ⟨rfl, hb1⟩
  have HB1 := hide hb1
  clear hb1 HPE
  go_wp2_with fail
  refine (HTX.out w1 (HI.out.below (HB1.out.mono hB)) (Nat.le_trans hB HB1.out.size)).mono ?_
  rintro e w2 ⟨b, rfl, hbw, hm2, hb2⟩
  have HB2 := hide (HB1.out.trans (hb2.mono HB1.out.size))
  have HM2 := hide hm2
  have HBW := hide (Nat.le_trans HB1.out.size hbw)
  clear hb2 hm2 hbw HTX
  obtain ⟨b0, off, rfl, hbb, e0, e1, e2, e3⟩ := HCE.out w2 HB2.out
  rw [HCI.out] at e1
  obtain ⟨p0, hp0⟩ : ∃ p, (X 0).p = p := ⟨_, rfl⟩
  obtain ⟨i0, hi0⟩ : ∃ p, (X 0).i = p := ⟨_, rfl⟩
  obtain ⟨t0, ht0⟩ : ∃ p, (X 0).t = p := ⟨_, rfl⟩
  rw [hi0] at e0
  rw [hp0] at e2
  rw [ht0] at e3
  clear hp0 hi0 ht0 hbb
  go_wp2_with fail
  clear e0 e1 e2 e3
  go_loopw [6, 21] (fun v i wr => MiRel w2 b w2.heap.size X n C v i wr) (fun _ i _ => C - (intOf i).toNat)
  case atStart => exact ⟨0, Nat.zero_le _, rfl, HM2.out, nilOwn _ _ _ _, Below.refl _ _, HM2.out.lt⟩
  case round =>
    clear HM2
    obtain ⟨k, hk, rfl, hmp, ho, hb, hbl⟩ := hrel
    obtain ⟨v, rfl⟩ : ∃ v : Value, v = u6 := ⟨_, rfl⟩
    have HM := hide hmp
    have HO := hide ho
    have HB := hide hb
    clear hmp ho hb
    by_cases hlt : k < C
    · have hwf : (Lit.int .i64 (k : Int)).wf = true := by simp [Lit.wf, IntKind.min, IntKind.max, IntKind.signed, IntKind.bits]; omega
      have hlook := HM.out.look true hwf
      simp only [if_true] at hlook
      have HST := hide (ms_step X n k)
      have HLN := hide (ms_len X n k)
      clear hwf
      by_cases hls : lsF X n (k : Int) = []
      · have HN := hide (HMN.out (k : Int) |>.2 hls)
        rw [HN.out] at hlook
        simp only [Option.getD_none, Option.isSome_none] at hlook
        rw [if_pos hls] at HST
        clear hls
        have hl8 : (msL X n k).length ≤ 8 := by have := HLN.out; omega
        go_wp2_with (at_builtin; refine wpList_app1 wr rfl (.tmp 32) (.tmp 34) 33 rfl elem64 w2.heap.size v (msL X n k) rfl HO.out (k : Int) rfl (by omega) HB.out.size ?_; intro v' w' h1 h2; have HO3 := hide h1; have HB3 := hide (HB.out.grown h2 HB.out.size (fun g hg => (HO.out.lt hg).1)); have HM3 := hide (HM.out.kept h2 (fun e => by have := (HO.out.lt e.symm).1; omega)); clear h1 h2)
        refine ⟨⟨k + 1, by omega, by go_num, HM3.out, by rw [HST.out]; exact HO3.out, HB3.out, hbl⟩, ?_⟩
        simp [intOf]; omega
      · obtain ⟨s, hs⟩ : ∃ s, txF X n (k : Int) = some s := Option.ne_none_iff_exists'.1 (fun e => hls ((HMN.out (k : Int)).1 e))
        rw [hs] at hlook
        simp only [Option.getD_some, Option.isSome_some] at hlook
        rw [if_neg hls] at HST
        clear hls hs
        go_wp2_with fail
        go_roundw
        case rel => exact ⟨k + 1, by omega, by go_num, HM.out, by rw [HST.out]; exact HO.out, HB.out, hbl⟩
        case measure => simp [intOf]; omega
    · obtain rfl : k = C := by omega
      have HF := hide (eb_of HO.out (HB2.out.trans (HB.out.mono HB2.out.size)) HB2.out.size (c := 0))
      go_wp2_with fail
      go_ret2
      exact HF.out
end Go.Proofs.Ythbmfaogjaahoaa

namespace Go.Proofs.Ythbmfaogjaahoaa
open Go Go.RowKit
set_option linter.unusedSimpArgs false
set_option linter.unusedVariables false

set_option maxRecDepth 100000 in
set_option maxHeartbeats 2000000 in
theorem implJp (A : Option Addr) (n c B : Nat) (X : Nat → PtV) (w : World) (hI : Pts w B A n X) (hB : B ≤ w.heap.size) (hn : n ≤ 1099511627776) (hX : ∀ j, j < n → (X j).t.size ≤ 1099511627776 ∧ (-9223372036854775808 ≤ (X j).c ∧ (X j).c ≤ 9223372036854775807)) :
    Calls Try.prog 30 #[.slice A n c] w (GivSI (jpT X n) (jpC X n) w) := by
  have HPE := hide (implPe A n c B X w hI hB hn hX)
  have HI := hide hI
  by_cases h0 : peC X n = 0
  case neg =>
    obtain ⟨q1, q2⟩ := jp_pe h0
    rw [q1, q2]
    obtain ⟨K, hK⟩ : ∃ K, peC X n = K := ⟨_, rfl⟩
    rw [hK] at HPE h0 ⊢
    clear hK hI hX q1 q2
    go_enter Try.func30, Try.ntmps30
    go_wp2_with fail
    refine HPE.out.mono ?_
    rintro e w1 ⟨rfl, hb1⟩
    have HB1 := hide hb1
    clear hb1
    go_wp2_with fail
    go_ret2
    exact ⟨rfl, HB1.out⟩
  obtain ⟨⟨h1, h8⟩, hv, he⟩ := pe_yes h0
  obtain ⟨hai, hC, hC1, hC8⟩ := al_idx h1 hv he
  have HP0 := hide (isPt_yes (hv 0 (by omega))).2.2.1
  have HTX := hide (fun w' (hI' : Pts w' B A n X) (hB' : B ≤ w'.heap.size) => implTx A n c B X w' hI' hB' h1 h8 hv)
  have HCE := hide (fun (w' : World) (hb : Below w.heap.size w w') => pts_cells hI hB hb h1)
  have HONE := hide (one_each hai)
  have HRG := hide (fun ho x => one_rg hai ho x)
  have HJL := hide (fun ho => jnT_le h0 ho)
  have HR1 := hide (fun ho => jp_one h0 ho)
  have HR2 := hide (fun ho h3 => jp_par h0 ho h3)
  have HR3 := hide (fun ho h3 h4 => jp_long h0 ho h3 h4)
  have HR4 := hide (fun ho h3 h4 => jp_ok h0 ho h3 h4)
  rw [h0] at HPE
  have HJT := hide (show jnT X n = jn (txK X n) (X 0).c.toNat from rfl)
  obtain ⟨C, hCe⟩ : ∃ C, (X 0).c.toNat = C := ⟨_, rfl⟩
  simp only [hCe] at hC hC1 hC8 HONE HRG HJL HR1 HR2 HR3 HR4 HJT
  have HCI := hide hC
  have hn0 : 0 < n := by omega
  have hmle := mF_le X n
  clear hI hX hv he hai hC hCe h0
  by_cases ho : oneEach X n C
  case neg =>
    obtain ⟨q1, q2⟩ := HR1.out ho
    rw [q1, q2]
    have HNO := hide (show ¬ (n = C ∧ mF X n = C) from fun h => ho (HONE.out.1 h))
    clear q1 q2 ho HONE HRG HJL HR1 HR2 HR3 HR4
    go_enter Try.func30, Try.ntmps30
    go_wp2_with fail
    refine HPE.out.mono ?_
    rintro e w1 ⟨rfl, hb1⟩
    have HB1 := hide hb1
    clear hb1 HPE
    go_wp2_with fail
    refine (HTX.out w1 (HI.out.below (HB1.out.mono hB)) (Nat.le_trans hB HB1.out.size)).mono ?_
    rintro e w2 ⟨b, rfl, hbw, hm2, hb2⟩
    have HB2 := hide (HB1.out.trans (hb2.mono HB1.out.size))
    have hlen := hm2.len 3
    clear hb2 hm2 hbw HTX
    obtain ⟨b0, off, rfl, hbb, e0, e1, e2, e3⟩ := HCE.out w2 HB2.out
    rw [HCI.out] at e1
    obtain ⟨p0, hp0⟩ : ∃ p, (X 0).p = p := ⟨_, rfl⟩
    obtain ⟨i0, hi0⟩ : ∃ p, (X 0).i = p := ⟨_, rfl⟩
    obtain ⟨t0, ht0⟩ : ∃ p, (X 0).t = p := ⟨_, rfl⟩
    rw [hi0] at e0
    rw [hp0] at e2
    rw [ht0] at e3
    obtain ⟨m, hm⟩ : ∃ m, mF X n = m := ⟨_, rfl⟩
    rw [hm] at hlen hmle HNO
    clear hp0 hi0 ht0 hbb hm
    by_cases hnC : n = C
    · subst hnC
      have hmn : ¬ m = n := fun h => HNO.out ⟨rfl, h⟩
      have hq1 : ((n : Int) != (n : Int)) = false := by simp
      have hq2 : ((m : Int) != (n : Int)) = true := by simp; omega
      clear hmn
      go_wp2_with fail
      go_ret2
      exact ⟨rfl, HB2.out⟩
    · have hq1 : ((n : Int) != (C : Int)) = true := by simp; omega
      clear hnC
      go_wp2_with fail
      go_ret2
      exact ⟨rfl, HB2.out⟩
  obtain ⟨hnC, hmC⟩ := HONE.out.2 ho
  obtain ⟨hTs, hJs⟩ := HJL.out ho
  have HTS := hide hTs
  have HRGF := hide (HRG.out ho)
  rw [HJT.out] at hJs
  have HQ2 := hide (fun h3 => HR2.out ho h3)
  have HQ3 := hide (fun h3 h4 => HR3.out ho h3 h4)
  have HQ4 := hide (fun h3 h4 => HR4.out ho h3 h4)
  clear HR1 HR2 HR3 HR4
  have HJTX := hide (fun (b : Nat) (w : World) (hM : MapF w b (rgF (txK X n) 0 C) C) => implJt b C (txK X n) w hM hC8 HTS.out)
  obtain ⟨J, hJ⟩ : ∃ J, jn (txK X n) C = J := ⟨_, rfl⟩
  rw [hJ] at hJs HJT HJTX
  rw [HJT.out] at HQ2 HQ3 HQ4
  have HPA := hide (fun w => implPar J (by omega) w)
  obtain ⟨q, hq⟩ : ∃ q, parI (bytesI J) = q := ⟨_, rfl⟩
  obtain ⟨p0, hp0⟩ : ∃ p, (X 0).p = p := ⟨_, rfl⟩
  rw [hq] at HPA HQ2 HQ3 HQ4
  rw [hp0] at HQ2 HQ3 HQ4
  have HPZ := hide hp0
  have HIM := hide (fun w => implIsMsg J (by omega) w)
  subst hnC
  have HMC := hide hmC
  have hq1 : ((n : Int) != (n : Int)) = false := by simp
  clear hJ hq hp0 hTs ho HONE HRG HJL hmC hmle
  have key : ∀ K T, jpC X n = K → jpT X n = T → ((p0 = q ∧ J.size ≤ 400 ∧ K = 0 ∧ T = J) ∨ (p0 = q ∧ ¬ J.size ≤ 400 ∧ K = 3 ∧ T = ⟨#[]⟩) ∨ (p0 ≠ q ∧ K = 7 ∧ T = ⟨#[]⟩)) := by
    rintro K T rfl rfl
    by_cases h3 : q = p0
    · by_cases h4 : J.size ≤ 400
      · exact .inl ⟨h3.symm, h4, HQ4.out h3 h4⟩
      · exact .inr (.inl ⟨h3.symm, h4, HQ3.out h3 h4⟩)
    · exact .inr (.inr ⟨fun e => h3 e.symm, HQ2.out h3⟩)
  have HK := hide (key _ _ rfl rfl)
  obtain ⟨K, hK⟩ : ∃ K, jpC X n = K := ⟨_, rfl⟩
  obtain ⟨T, hT⟩ : ∃ T, jpT X n = T := ⟨_, rfl⟩
  rw [hK, hT] at HK ⊢
  clear key hK hT HQ2 HQ3 HQ4 HJT
  go_enter Try.func30, Try.ntmps30
  go_wp2_with fail
  refine HPE.out.mono ?_
  rintro e w1 ⟨rfl, hb1⟩
  have HB1 := hide hb1
  clear hb1 HPE
  go_wp2_with fail
  refine (HTX.out w1 (HI.out.below (HB1.out.mono hB)) (Nat.le_trans hB HB1.out.size)).mono ?_
  rintro e w2 ⟨b, rfl, hbw, hm2, hb2⟩
  have HB2 := hide (HB1.out.trans (hb2.mono HB1.out.size))
  have hm3 := hm2.congr HRGF.out
  rw [HMC.out] at hm3
  have hlen := hm3.len 3
  have HM3 := hide hm3
  have HBW := hide (Nat.le_trans HB1.out.size hbw)
  clear hb2 hm2 hm3 hbw HTX
  obtain ⟨b0, off, rfl, hbb, e0, e1, e2, e3⟩ := HCE.out w2 HB2.out
  rw [HCI.out] at e1
  rw [HPZ.out] at e2
  obtain ⟨i0, hi0⟩ : ∃ p, (X 0).i = p := ⟨_, rfl⟩
  obtain ⟨t0, ht0⟩ : ∃ p, (X 0).t = p := ⟨_, rfl⟩
  rw [hi0] at e0
  rw [ht0] at e3
  have HB0 := hide (Nat.lt_of_lt_of_le hbb hB)
  have HE2 := hide e2
  clear hi0 ht0 hbb
  go_wp2_with fail
  refine (HJTX.out b w2 HM3.out).mono ?_
  rintro e w3 ⟨rfl, hb3⟩
  have HB3 := hide (HB2.out.trans (hb3.mono HBW.out))
  have HE3 := hide (show w3.cell? ⟨b0, off + 2, none⟩ = some (.int .i64 p0) from (hb3.cell (p := ⟨b0, off + 2, none⟩) (Nat.lt_of_lt_of_le HB0.out HBW.out)).trans HE2.out)
  clear hb3 hlen e0 e1 e2 e3
  have f2 := HE3.out
  rcases HK.out with ⟨h3, h4, hK, hT⟩ | ⟨h3, h4, hK, hT⟩ | ⟨h3, hK, hT⟩
  · subst hK hT h3
    have n1 : (p0 != p0) = false := by simp
    have HM1 := hide (fun w => implIsMsg_yes _ h4 w)
    clear h4
    go_wp2_with fail
    go_region_held3 (fun w' => w'.cell? ⟨b0, off + 2, none⟩ = some (.int .i64 p0)) (exact HE3.out) ((go_at_call 15; refine (HPA.out _).mono ?_; rintro e _ ⟨rfl, rfl⟩))
    go_wp2_with fail
    refine (HM1.out _).mono ?_
    rintro e _ ⟨rfl, rfl⟩
    go_wp2_with fail
    go_ret2
    exact ⟨rfl, HB3.out.drew⟩
  · subst hK hT h3
    have n1 : (p0 != p0) = false := by simp
    have HM1 := hide (fun w => implIsMsg_no _ (by omega) h4 w)
    clear h4
    go_wp2_with fail
    go_region_held3 (fun w' => w'.cell? ⟨b0, off + 2, none⟩ = some (.int .i64 p0)) (exact HE3.out) ((go_at_call 15; refine (HPA.out _).mono ?_; rintro e _ ⟨rfl, rfl⟩))
    go_wp2_with fail
    refine (HM1.out _).mono ?_
    rintro e _ ⟨rfl, rfl⟩
    go_wp2_with fail
    go_ret2
    exact ⟨rfl, HB3.out.drew⟩
  · subst hK hT
    have n1 : (q != p0) = true := by simpa using fun e : q = p0 => h3 e.symm
    clear h3
    go_wp2_with fail
    go_region_held3 (fun w' => w'.cell? ⟨b0, off + 2, none⟩ = some (.int .i64 p0)) (exact HE3.out) ((go_at_call 15; refine (HPA.out _).mono ?_; rintro e _ ⟨rfl, rfl⟩))
    go_wp2_with fail
    go_ret2
    exact ⟨rfl, HB3.out.drew⟩
end Go.Proofs.Ythbmfaogjaahoaa
