/-
  MissingParts and JoinParts, the program's.
  JoinParts, the program's.
  A slice of slices of strings, each row in a block of its own: what reads, grows and writes of it keep.
  The model's list of the texts of parts for each index.
  MissingParts and JoinParts, the model's.
  Condition: as each statement says.
-/
import Derived.Test.YthbmfaogjaahoaaRM
import Derived.Test.YthbmfaogjaahoaaPy3
import Derived.Test.YthbmfaogjaahoaaProg
import Derived.Test.YthbmfaogjaahoaaWords
import Derived.Test.YthbmfaogjaahoaaBox
import Derived.Test.YthbmfaogjaahoaaTail2
import Derived.Deep.AppendLies
import Derived.Test.YthbmfaogjaahoaaLawKit
import Derived.Deep.DeepCutAuto
import Derived.Deep.CutRange
namespace Go.Proofs.Ythbmfaogjaahoaa
open Go Go.RowKit
set_option linter.unusedSimpArgs false
set_option linter.unusedVariables false

def MiRel (w : World) (b B0 : Nat) (X : Nat → PtV) (n C : Nat) (v i : Value) (wr : World) : Prop :=
  ∃ k : Nat, k ≤ C ∧ i = .int .i64 k ∧ MapF wr b (txF X n) (mF X n) ∧ Own wr B0 2 .i64 v (msL X n k) ∧ Below B0 w wr ∧ b < B0

theorem pts_cells {w w' : World} {B n : Nat} {A : Option Addr} {X : Nat → PtV} (hI : Pts w B A n X) (hB : B ≤ w.heap.size) (hb : Below w.heap.size w w') (h1 : 1 ≤ n) : ∃ b off, A = some ⟨b, off, none⟩ ∧ b < B ∧ PtAt w' b off (X 0) := by
  obtain ⟨b, off, e, hbb, hc⟩ := hI (by omega)
  have := (hc 0 (by omega)).below hb (by omega)
  rw [Nat.zero_mul, Nat.add_zero] at this
  exact ⟨b, off, e, hbb, this⟩

set_option maxRecDepth 100000 in
set_option maxHeartbeats 2000000 in
theorem implMi (A : Option Addr) (n c B : Nat) (X : Nat → PtV) (w : World) (hI : Pts w B A n X) (hB : B ≤ w.heap.size) (hn : n ≤ 1099511627776) (hX : ∀ j, j < n → (X j).t.size ≤ 1099511627776 ∧ (-9223372036854775808 ≤ (X j).c ∧ (X j).c ≤ 9223372036854775807)) :
    Calls Try.prog 32 #[.slice A n c] w (EbPost (mpL X n) (peC X n) w) := by
  have HPE := hide (implPe A n c B X w hI hB hn hX)
  have HI := hide hI
  by_cases h0 : peC X n = 0
  case neg =>
    have HL := hide (show mpL X n = [] by unfold mpL; rw [if_neg h0])
    rw [HL.out]
    obtain ⟨K, hK⟩ : ∃ K, peC X n = K := ⟨_, rfl⟩
    rw [hK] at HPE h0 ⊢
    clear hK hI hX
    go_enter Try.func32, Try.ntmps32
    go_wp2_with fail
    refine HPE.out.mono ?_
    rintro e w1 ⟨rfl, hb1⟩
    have HB1 := hide hb1
    clear hb1
    go_wp2_with fail
    go_ret2
    exact eb_nil HB1.out
  obtain ⟨⟨h1, h8⟩, hv, he⟩ := pe_yes h0
  obtain ⟨_, hC, hC1, hC8⟩ := al_idx h1 hv he
  have HL := hide (show mpL X n = msL X n (X 0).c.toNat by unfold mpL; rw [if_pos h0])
  rw [h0] at HPE ⊢
  rw [HL.out]
  have HTX := hide (fun w' (hI' : Pts w' B A n X) (hB' : B ≤ w'.heap.size) => implTx A n c B X w' hI' hB' h1 h8 hv)
  have HCE := hide (fun (w' : World) (hb : Below w.heap.size w w') => pts_cells hI hB hb h1)
  obtain ⟨C, hCe⟩ : ∃ C, (X 0).c.toNat = C := ⟨_, rfl⟩
  rw [hCe] at hC hC1 hC8 ⊢
  have HCI := hide hC
  have hn0 : 0 < n := by omega
  have HMN := hide (fun k => @tx_none X k n)
  clear hI hX hv he hC hCe
  go_enter Try.func32, Try.ntmps32
  go_wp2_with fail
  refine HPE.out.mono ?_
  rintro e w1 ⟨rfl, hb1⟩
  have HB1 := hide hb1
  clear hb1 HPE
  go_wp2_with fail
  refine (HTX.out w1 (HI.out.below (HB1.out.mono hB)) (Nat.le_trans hB HB1.out.size)).mono ?_
  rintro e w2 ⟨b, rfl, hbw, hm2, hb2⟩
  have HB2 := hide (HB1.out.trans (hb2.mono HB1.out.size))
  have HM2 := hide hm2
  have HBW := hide (Nat.le_trans HB1.out.size hbw)
  clear hb2 hm2 hbw HTX
  obtain ⟨b0, off, rfl, hbb, e0, e1, e2, e3⟩ := HCE.out w2 HB2.out
  rw [HCI.out] at e1
  obtain ⟨p0, hp0⟩ : ∃ p, (X 0).p = p := ⟨_, rfl⟩
  obtain ⟨i0, hi0⟩ : ∃ p, (X 0).i = p := ⟨_, rfl⟩
  obtain ⟨t0, ht0⟩ : ∃ p, (X 0).t = p := ⟨_, rfl⟩
  rw [hi0] at e0
  rw [hp0] at e2
  rw [ht0] at e3
  clear hp0 hi0 ht0 hbb
  go_wp2_with fail
  clear e0 e1 e2 e3
  go_loopw [6, 21] (fun v i wr => MiRel w2 b w2.heap.size X n C v i wr) (fun _ i _ => C - (intOf i).toNat)
  case atStart => exact ⟨0, Nat.zero_le _, rfl, HM2.out, nilOwn _ _ _ _, Below.refl _ _, HM2.out.lt⟩
  case round =>
    clear HM2
    obtain ⟨k, hk, rfl, hmp, ho, hb, hbl⟩ := hrel
    obtain ⟨v, rfl⟩ : ∃ v : Value, v = u6 := ⟨_, rfl⟩
    have HM := hide hmp
    have HO := hide ho
    have HB := hide hb
    clear hmp ho hb
    by_cases hlt : k < C
    · have hwf : (Lit.int .i64 (k : Int)).wf = true := by simp [Lit.wf, IntKind.min, IntKind.max, IntKind.signed, IntKind.bits]; omega
      have hlook := HM.out.look true hwf
      simp only [if_true] at hlook
      have HST := hide (ms_step X n k)
      have HLN := hide (ms_len X n k)
      clear hwf
      by_cases hls : lsF X n (k : Int) = []
      · have HN := hide (HMN.out (k : Int) |>.2 hls)
        rw [HN.out] at hlook
        simp only [Option.getD_none, Option.isSome_none] at hlook
        rw [if_pos hls] at HST
        clear hls
        have hl8 : (msL X n k).length ≤ 8 := by have := HLN.out; omega
        go_wp2_with (at_builtin; refine wpList_app1 wr rfl (.tmp 32) (.tmp 34) 33 rfl elem64 w2.heap.size v (msL X n k) rfl HO.out (k : Int) rfl (by omega) HB.out.size ?_; intro v' w' h1 h2; have HO3 := hide h1; have HB3 := hide (HB.out.grown h2 HB.out.size (fun g hg => (HO.out.lt hg).1)); have HM3 := hide (HM.out.kept h2 (fun e => by have := (HO.out.lt e.symm).1; omega)); clear h1 h2)
        refine ⟨⟨k + 1, by omega, by go_num, HM3.out, by rw [HST.out]; exact HO3.out, HB3.out, hbl⟩, ?_⟩
        simp [intOf]; omega
      · obtain ⟨s, hs⟩ : ∃ s, txF X n (k : Int) = some s := Option.ne_none_iff_exists'.1 (fun e => hls ((HMN.out (k : Int)).1 e))
        rw [hs] at hlook
        simp only [Option.getD_some, Option.isSome_some] at hlook
        rw [if_neg hls] at HST
        clear hls hs
        go_wp2_with fail
        go_roundw
        case rel => exact ⟨k + 1, by omega, by go_num, HM.out, by rw [HST.out]; exact HO.out, HB.out, hbl⟩
        case measure => simp [intOf]; omega
    · obtain rfl : k = C := by omega
      have HF := hide (eb_of HO.out (HB2.out.trans (HB.out.mono HB2.out.size)) HB2.out.size (c := 0))
      go_wp2_with fail
      go_ret2
      exact HF.out
end Go.Proofs.Ythbmfaogjaahoaa

namespace Go.Proofs.Ythbmfaogjaahoaa
open Go Go.RowKit
set_option linter.unusedSimpArgs false
set_option linter.unusedVariables false

set_option maxRecDepth 100000 in
set_option maxHeartbeats 2000000 in
theorem implJp (A : Option Addr) (n c B : Nat) (X : Nat → PtV) (w : World) (hI : Pts w B A n X) (hB : B ≤ w.heap.size) (hn : n ≤ 1099511627776) (hX : ∀ j, j < n → (X j).t.size ≤ 1099511627776 ∧ (-9223372036854775808 ≤ (X j).c ∧ (X j).c ≤ 9223372036854775807)) :
    Calls Try.prog 30 #[.slice A n c] w (GivSI (jpT X n) (jpC X n) w) := by
  have HPE := hide (implPe A n c B X w hI hB hn hX)
  have HI := hide hI
  by_cases h0 : peC X n = 0
  case neg =>
    obtain ⟨q1, q2⟩ := jp_pe h0
    rw [q1, q2]
    obtain ⟨K, hK⟩ : ∃ K, peC X n = K := ⟨_, rfl⟩
    rw [hK] at HPE h0 ⊢
    clear hK hI hX q1 q2
    go_enter Try.func30, Try.ntmps30
    go_wp2_with fail
    refine HPE.out.mono ?_
    rintro e w1 ⟨rfl, hb1⟩
    have HB1 := hide hb1
    clear hb1
    go_wp2_with fail
    go_ret2
    exact ⟨rfl, HB1.out⟩
  obtain ⟨⟨h1, h8⟩, hv, he⟩ := pe_yes h0
  obtain ⟨hai, hC, hC1, hC8⟩ := al_idx h1 hv he
  have HP0 := hide (isPt_yes (hv 0 (by omega))).2.2.1
  have HTX := hide (fun w' (hI' : Pts w' B A n X) (hB' : B ≤ w'.heap.size) => implTx A n c B X w' hI' hB' h1 h8 hv)
  have HCE := hide (fun (w' : World) (hb : Below w.heap.size w w') => pts_cells hI hB hb h1)
  have HONE := hide (one_each hai)
  have HRG := hide (fun ho x => one_rg hai ho x)
  have HJL := hide (fun ho => jnT_le h0 ho)
  have HR1 := hide (fun ho => jp_one h0 ho)
  have HR2 := hide (fun ho h3 => jp_par h0 ho h3)
  have HR3 := hide (fun ho h3 h4 => jp_long h0 ho h3 h4)
  have HR4 := hide (fun ho h3 h4 => jp_ok h0 ho h3 h4)
  rw [h0] at HPE
  have HJT := hide (show jnT X n = jn (txK X n) (X 0).c.toNat from rfl)
  obtain ⟨C, hCe⟩ : ∃ C, (X 0).c.toNat = C := ⟨_, rfl⟩
  simp only [hCe] at hC hC1 hC8 HONE HRG HJL HR1 HR2 HR3 HR4 HJT
  have HCI := hide hC
  have hn0 : 0 < n := by omega
  have hmle := mF_le X n
  clear hI hX hv he hai hC hCe h0
  by_cases ho : oneEach X n C
  case neg =>
    obtain ⟨q1, q2⟩ := HR1.out ho
    rw [q1, q2]
    have HNO := hide (show ¬ (n = C ∧ mF X n = C) from fun h => ho (HONE.out.1 h))
    clear q1 q2 ho HONE HRG HJL HR1 HR2 HR3 HR4
    go_enter Try.func30, Try.ntmps30
    go_wp2_with fail
    refine HPE.out.mono ?_
    rintro e w1 ⟨rfl, hb1⟩
    have HB1 := hide hb1
    clear hb1 HPE
    go_wp2_with fail
    refine (HTX.out w1 (HI.out.below (HB1.out.mono hB)) (Nat.le_trans hB HB1.out.size)).mono ?_
    rintro e w2 ⟨b, rfl, hbw, hm2, hb2⟩
    have HB2 := hide (HB1.out.trans (hb2.mono HB1.out.size))
    have hlen := hm2.len 3
    clear hb2 hm2 hbw HTX
    obtain ⟨b0, off, rfl, hbb, e0, e1, e2, e3⟩ := HCE.out w2 HB2.out
    rw [HCI.out] at e1
    obtain ⟨p0, hp0⟩ : ∃ p, (X 0).p = p := ⟨_, rfl⟩
    obtain ⟨i0, hi0⟩ : ∃ p, (X 0).i = p := ⟨_, rfl⟩
    obtain ⟨t0, ht0⟩ : ∃ p, (X 0).t = p := ⟨_, rfl⟩
    rw [hi0] at e0
    rw [hp0] at e2
    rw [ht0] at e3
    obtain ⟨m, hm⟩ : ∃ m, mF X n = m := ⟨_, rfl⟩
    rw [hm] at hlen hmle HNO
    clear hp0 hi0 ht0 hbb hm
    by_cases hnC : n = C
    · subst hnC
      have hmn : ¬ m = n := fun h => HNO.out ⟨rfl, h⟩
      have hq1 : ((n : Int) != (n : Int)) = false := by simp
      have hq2 : ((m : Int) != (n : Int)) = true := by simp; omega
      clear hmn
      go_wp2_with fail
      go_ret2
      exact ⟨rfl, HB2.out⟩
    · have hq1 : ((n : Int) != (C : Int)) = true := by simp; omega
      clear hnC
      go_wp2_with fail
      go_ret2
      exact ⟨rfl, HB2.out⟩
  obtain ⟨hnC, hmC⟩ := HONE.out.2 ho
  obtain ⟨hTs, hJs⟩ := HJL.out ho
  have HTS := hide hTs
  have HRGF := hide (HRG.out ho)
  rw [HJT.out] at hJs
  have HQ2 := hide (fun h3 => HR2.out ho h3)
  have HQ3 := hide (fun h3 h4 => HR3.out ho h3 h4)
  have HQ4 := hide (fun h3 h4 => HR4.out ho h3 h4)
  clear HR1 HR2 HR3 HR4
  have HJTX := hide (fun (b : Nat) (w : World) (hM : MapF w b (rgF (txK X n) 0 C) C) => implJt b C (txK X n) w hM hC8 HTS.out)
  obtain ⟨J, hJ⟩ : ∃ J, jn (txK X n) C = J := ⟨_, rfl⟩
  rw [hJ] at hJs HJT HJTX
  rw [HJT.out] at HQ2 HQ3 HQ4
  have HPA := hide (fun w => implPar J (by omega) w)
  obtain ⟨q, hq⟩ : ∃ q, parI (bytesI J) = q := ⟨_, rfl⟩
  obtain ⟨p0, hp0⟩ : ∃ p, (X 0).p = p := ⟨_, rfl⟩
  rw [hq] at HPA HQ2 HQ3 HQ4
  rw [hp0] at HQ2 HQ3 HQ4
  have HPZ := hide hp0
  have HIM := hide (fun w => implIsMsg J (by omega) w)
  subst hnC
  have HMC := hide hmC
  have hq1 : ((n : Int) != (n : Int)) = false := by simp
  clear hJ hq hp0 hTs ho HONE HRG HJL hmC hmle
  have key : ∀ K T, jpC X n = K → jpT X n = T → ((p0 = q ∧ J.size ≤ 400 ∧ K = 0 ∧ T = J) ∨ (p0 = q ∧ ¬ J.size ≤ 400 ∧ K = 3 ∧ T = ⟨#[]⟩) ∨ (p0 ≠ q ∧ K = 7 ∧ T = ⟨#[]⟩)) := by
    rintro K T rfl rfl
    by_cases h3 : q = p0
    · by_cases h4 : J.size ≤ 400
      · exact .inl ⟨h3.symm, h4, HQ4.out h3 h4⟩
      · exact .inr (.inl ⟨h3.symm, h4, HQ3.out h3 h4⟩)
    · exact .inr (.inr ⟨fun e => h3 e.symm, HQ2.out h3⟩)
  have HK := hide (key _ _ rfl rfl)
  obtain ⟨K, hK⟩ : ∃ K, jpC X n = K := ⟨_, rfl⟩
  obtain ⟨T, hT⟩ : ∃ T, jpT X n = T := ⟨_, rfl⟩
  rw [hK, hT] at HK ⊢
  clear key hK hT HQ2 HQ3 HQ4 HJT
  go_enter Try.func30, Try.ntmps30
  go_wp2_with fail
  refine HPE.out.mono ?_
  rintro e w1 ⟨rfl, hb1⟩
  have HB1 := hide hb1
  clear hb1 HPE
  go_wp2_with fail
  refine (HTX.out w1 (HI.out.below (HB1.out.mono hB)) (Nat.le_trans hB HB1.out.size)).mono ?_
  rintro e w2 ⟨b, rfl, hbw, hm2, hb2⟩
  have HB2 := hide (HB1.out.trans (hb2.mono HB1.out.size))
  have hm3 := hm2.congr HRGF.out
  rw [HMC.out] at hm3
  have hlen := hm3.len 3
  have HM3 := hide hm3
  have HBW := hide (Nat.le_trans HB1.out.size hbw)
  clear hb2 hm2 hm3 hbw HTX
  obtain ⟨b0, off, rfl, hbb, e0, e1, e2, e3⟩ := HCE.out w2 HB2.out
  rw [HCI.out] at e1
  rw [HPZ.out] at e2
  obtain ⟨i0, hi0⟩ : ∃ p, (X 0).i = p := ⟨_, rfl⟩
  obtain ⟨t0, ht0⟩ : ∃ p, (X 0).t = p := ⟨_, rfl⟩
  rw [hi0] at e0
  rw [ht0] at e3
  have HB0 := hide (Nat.lt_of_lt_of_le hbb hB)
  have HE2 := hide e2
  clear hi0 ht0 hbb
  go_wp2_with fail
  refine (HJTX.out b w2 HM3.out).mono ?_
  rintro e w3 ⟨rfl, hb3⟩
  have HB3 := hide (HB2.out.trans (hb3.mono HBW.out))
  have HE3 := hide (show w3.cell? ⟨b0, off + 2, none⟩ = some (.int .i64 p0) from (hb3.cell (p := ⟨b0, off + 2, none⟩) (Nat.lt_of_lt_of_le HB0.out HBW.out)).trans HE2.out)
  clear hb3 hlen e0 e1 e2 e3
  have f2 := HE3.out
  rcases HK.out with ⟨h3, h4, hK, hT⟩ | ⟨h3, h4, hK, hT⟩ | ⟨h3, hK, hT⟩
  · subst hK hT h3
    have n1 : (p0 != p0) = false := by simp
    have HM1 := hide (fun w => implIsMsg_yes _ h4 w)
    clear h4
    go_wp2_with fail
    go_region_held3 (fun w' => w'.cell? ⟨b0, off + 2, none⟩ = some (.int .i64 p0)) (exact HE3.out) ((go_at_call 15; refine (HPA.out _).mono ?_; rintro e _ ⟨rfl, rfl⟩))
    go_wp2_with fail
    refine (HM1.out _).mono ?_
    rintro e _ ⟨rfl, rfl⟩
    go_wp2_with fail
    go_ret2
    exact ⟨rfl, HB3.out.drew⟩
  · subst hK hT h3
    have n1 : (p0 != p0) = false := by simp
    have HM1 := hide (fun w => implIsMsg_no _ (by omega) h4 w)
    clear h4
    go_wp2_with fail
    go_region_held3 (fun w' => w'.cell? ⟨b0, off + 2, none⟩ = some (.int .i64 p0)) (exact HE3.out) ((go_at_call 15; refine (HPA.out _).mono ?_; rintro e _ ⟨rfl, rfl⟩))
    go_wp2_with fail
    refine (HM1.out _).mono ?_
    rintro e _ ⟨rfl, rfl⟩
    go_wp2_with fail
    go_ret2
    exact ⟨rfl, HB3.out.drew⟩
  · subst hK hT
    have n1 : (q != p0) = true := by simpa using fun e : q = p0 => h3 e.symm
    clear h3
    go_wp2_with fail
    go_region_held3 (fun w' => w'.cell? ⟨b0, off + 2, none⟩ = some (.int .i64 p0)) (exact HE3.out) ((go_at_call 15; refine (HPA.out _).mono ?_; rintro e _ ⟨rfl, rfl⟩))
    go_wp2_with fail
    go_ret2
    exact ⟨rfl, HB3.out.drew⟩
end Go.Proofs.Ythbmfaogjaahoaa

namespace Go.Proofs.Ythbmfaogjaahoaa
open Go Go.RowKit
set_option linter.unusedSimpArgs false
set_option linter.unusedVariables false

/-- A slice of strings that is owned. -/
def OwnT (w : World) (base : Nat) (v : Value) (ts : List ByteArray) : Prop := w.ownsRow base 9 1 v ts.length (ts.map Value.string)
section
variable {w w' : World} {base : Nat} {v : Value} {ts : List ByteArray}
theorem OwnT.lt (h : OwnT w base v ts) {g : Nat} (hg : v.ownBlock = some g) : base ≤ g ∧ g < w.heap.size := World.ownsRow.lt h g hg
theorem OwnT.form (h : OwnT w base v ts) : ∃ A c, v = .slice A ts.length c ∧ ts.length ≤ c := by
  rcases h.2 with ⟨rfl, h0⟩ | ⟨g, cap, cur, hv, hb, hg, hnc, hm, hs, ht⟩
  · exact ⟨none, 0, by rw [h0], by omega⟩
  · exact ⟨_, cap, hv, hnc⟩
theorem OwnT.grown {row : Option Nat} (h : OwnT w base v ts) (hg : w.grownBy w' row) (hne : v.ownBlock = none ∨ v.ownBlock ≠ row) : OwnT w' base v ts := World.ownsRow.kept h hg hne
theorem OwnT.below {B : Nat} (h : OwnT w base v ts) (hb : Below B w w') (hB : w.heap.size ≤ B) : OwnT w' base v ts := by
  refine h.grown (row := none) ⟨hb.os, hb.tape, hb.output, hb.size, fun i hi _ => hb.block i (by omega)⟩ ?_
  rcases hv : v.ownBlock with _ | g
  · exact .inl rfl
  · exact .inr (by simp)
theorem OwnT.alloc (h : OwnT w base v ts) (o : Obj) : OwnT (w.alloc o) base v ts := World.ownsRow.alloc h o
theorem OwnT.drew (h : OwnT w base v ts) : OwnT w.drew base v ts := h
theorem OwnT.drewN (h : OwnT w base v ts) (m : Nat) : OwnT (w.drewN m) base v ts := h
theorem OwnT.nil (w : World) (base : Nat) : OwnT w base (.slice none 0 0) [] := World.ownsRow_nil _ _ _ _
theorem OwnT.at_ {g n c k : Nat} {s : ByteArray} (h : OwnT w base (.slice (some ⟨g, 0, none⟩) n c) ts) (hk : ts[k]? = some s) : w.cell? ⟨g, k, none⟩ = some (.string s) := by
  have hkl : k < ts.length := (List.getElem?_eq_some_iff.1 hk).1
  have hn : ts.length = n := by obtain ⟨A, c', e, _⟩ := h.form; simp only [Value.slice.injEq] at e; exact e.2.1.symm
  subst hn
  rw [World.ownsRow.cellAt h k (by simpa using hkl), List.getElem?_map, hk]; rfl
theorem OwnT.some_ (h : OwnT w base v ts) (hp : 0 < ts.length) : ∃ g c, v = .slice (some ⟨g, 0, none⟩) ts.length c ∧ base ≤ g ∧ g < w.heap.size ∧ ts.length ≤ c := by
  rcases h.2 with ⟨_, h0⟩ | ⟨g, cap, cur, hv, hb, hg, hnc, _⟩
  · omega
  · exact ⟨g, cap, hv, hb, (Array.getElem?_eq_some_iff.1 hg).1, hnc⟩
end
theorem elemT : (Try.prog.info? 9).map (fun i => (i.zero, i.size, i.bytes)) = some (some (.string ⟨#[]⟩), 1, 16) := by kernel_rfl
theorem elemTT : (Try.prog.info? 81).map (fun i => (i.zero, i.size, i.bytes)) = some (some (.slice none 0 0), 1, 24) := by kernel_rfl
/-- append(row, y), where the one string lies in a new block of its own. -/
theorem wp_appT {base : Nat} {v : Value} {ts : List ByteArray} (w : World) {o : Oper} {a : Act} {K : Act → World → Prop} {Q : Exit → Act → World → Prop} (s x : Operand)
    (ho : o.op = .call { callee := .builtin .append, args := #[s, x], argTypes := #[81, 81] })
    (hs : a.eval s = v) (h : OwnT w base v ts) (y : ByteArray) (hx : a.eval x = .slice (some ⟨w.heap.size, 0, none⟩) 1 1) (hlen : (ts.length + 1) * 16 ≤ 140737488355328) (hbase : base ≤ w.heap.size)
    (hk : ∀ u w', OwnT w' base u (ts ++ [y]) → w.grownBy w' v.ownBlock → (u.ownBlock = none ∨ u.ownBlock = v.ownBlock ∨ ∃ b, u.ownBlock = some b ∧ w.heap.size ≤ b) → K (a.put o.dst u) w') : Oper.wp Try.prog o a (w.alloc (.cells #[.string y] 9)) K Q := by
  obtain ⟨i, hi, hz0, hz1, hz2⟩ := info_parts elemT
  have hun : Try.prog.underlying 81 = some (.slice 9) := Try.underlying81
  refine wp_append_lies (w.alloc (.cells #[.string y] 9)) s x 81 ho base 9 i (.string ⟨#[]⟩) 1 16 hun hi hz0 hz1 hz2 rfl (by decide) v ts.length (ts.map Value.string) hs (h.alloc _) ⟨w.heap.size, 0, none⟩ 1 1 [.string y] hx rfl (fun j t ht => ?_) (fun t ht => ?_) (by decide) (by simp only [maxLen]; omega) hlen (by rw [alloc_size]; omega) (w.heap.size + 1) (alloc_size _ _) fun g cap w' h2 h3 h4 _ => ?_
  · match j, ht with
    | 0, ht =>
      simp only [List.getElem?_cons_zero, Option.some.injEq] at ht
      subst ht
      exact cell_of_row (w.alloc (.cells #[.string y] 9)) w.heap.size 0 _ _ _ (heap_alloc_new w _)
  · rw [List.mem_singleton.1 ht]; rfl
  · refine hk _ w' ?_ (grown_trans (World.grownBy_alloc w _ _) h3) ?_
    · unfold OwnT
      rw [List.length_append, List.length_singleton, List.map_append, List.map_singleton]
      exact h2
    · rcases h4 with h4 | h4
      · exact .inr (.inl h4.symm)
      · exact .inr (.inr ⟨_, rfl, by show w.heap.size ≤ g; omega⟩)

/-- Slices that are owned, each in a block of its own, none in the blocks 'no' speaks of. -/
structure RowT (w : World) (base : Nat) (vs : List Value) (Z : Nat → List ByteArray) : Prop where
  own : ∀ (k : Nat) (v : Value), vs[k]? = some v → OwnT w base v (Z k)
  dis : ∀ (j k : Nat) (u v : Value), vs[j]? = some u → vs[k]? = some v → j ≠ k → u.ownBlock = none ∨ u.ownBlock ≠ v.ownBlock
section
variable {w w' : World} {base : Nat} {vs : List Value} {Z : Nat → List ByteArray}
theorem RowT.grown {row : Option Nat} (h : RowT w base vs Z) (hg : w.grownBy w' row) (hne : ∀ (k : Nat) (v : Value), vs[k]? = some v → v.ownBlock = none ∨ v.ownBlock ≠ row) : RowT w' base vs Z :=
  ⟨fun k v hv => (h.own k v hv).grown hg (hne k v hv), h.dis⟩
theorem RowT.below (h : RowT w base vs Z) {B : Nat} (hb : Below B w w') (hB : w.heap.size ≤ B) : RowT w' base vs Z := ⟨fun k v hv => (h.own k v hv).below hb hB, h.dis⟩
theorem RowT.next (h : RowT w base vs Z) (hb : Below w.heap.size w w') : RowT w' base vs Z := h.below hb (Nat.le_refl _)
theorem RowT.alloc (h : RowT w base vs Z) (o : Obj) : RowT (w.alloc o) base vs Z := h.next ((Below.refl _ _).alloc (Nat.le_refl _) o)
theorem RowT.drew (h : RowT w base vs Z) : RowT w.drew base vs Z := ⟨h.own, h.dis⟩
theorem RowT.drewN (h : RowT w base vs Z) (n : Nat) : RowT (w.drewN n) base vs Z := ⟨fun k v hv => (h.own k v hv).drewN n, h.dis⟩
theorem RowT.congr {Y : Nat → List ByteArray} (h : RowT w base vs Z) (hy : ∀ k, k < vs.length → Y k = Z k) : RowT w base vs Y :=
  ⟨fun k v hv => by rw [hy k (List.getElem?_eq_some_iff.1 hv).1]; exact h.own k v hv, h.dis⟩
theorem RowT.nil (w : World) (base : Nat) (Z : Nat → List ByteArray) : RowT w base [] Z := ⟨fun k v hv => by simp at hv, fun j k u v hu => by simp at hu⟩
/-- The row k is replaced by another slice, in another world in which nothing but the row k's block has changed. -/
theorem RowT.put {k : Nat} {u v : Value} {zs : List ByteArray} (h : RowT w base vs Z) (hv : vs[k]? = some v) (hg : w.grownBy w' v.ownBlock) (hu : OwnT w' base u zs)
    (hl : u.ownBlock = none ∨ u.ownBlock = v.ownBlock ∨ ∃ b, u.ownBlock = some b ∧ w.heap.size ≤ b) : RowT w' base (vs.set k u) (fun i => if i = k then zs else Z i) := by
  have hk : k < vs.length := (List.getElem?_eq_some_iff.1 hv).1
  have hlow : ∀ (j : Nat) (t : Value), vs[j]? = some t → j ≠ k → (t.ownBlock = none ∨ t.ownBlock ≠ u.ownBlock) ∧ (u.ownBlock = none ∨ u.ownBlock ≠ t.ownBlock) := by
    intro j t ht hj
    have h1 := h.dis j k t v ht hv hj
    have h2 := h.dis k j v t hv ht (Ne.symm hj)
    rcases hl with h3 | h3 | ⟨b, h3, h4⟩
    · exact ⟨by rw [h3]; rcases ht' : t.ownBlock with _ | g <;> simp, .inl h3⟩
    · rw [h3]; exact ⟨h1, h2⟩
    · have h5 : ∀ g, t.ownBlock = some g → g < w.heap.size := fun g hg' => ((h.own j t ht).lt hg').2
      rw [h3]
      refine ⟨?_, .inr fun e => ?_⟩
      · rcases ht' : t.ownBlock with _ | g
        · exact .inl rfl
        · refine .inr fun e => ?_
          injection e with e
          have := h5 g ht'
          omega
      · have := h5 b e.symm
        omega
  refine ⟨fun j t ht => ?_, fun i j s t hs ht hij => ?_⟩
  · by_cases hj : j = k
    · subst hj
      rw [List.getElem?_set_self hk] at ht
      injection ht with ht
      subst ht
      simpa using hu
    · rw [List.getElem?_set_ne (Ne.symm hj)] at ht
      simp only [hj, if_false]
      refine (h.own j t ht).grown hg ?_
      have := h.dis j k t v ht hv hj
      exact this
  · by_cases hi : i = k
    · subst hi
      rw [List.getElem?_set_self hk] at hs
      injection hs with hs
      subst hs
      rw [List.getElem?_set_ne hij] at ht
      exact (hlow j t ht (Ne.symm hij)).2
    · rw [List.getElem?_set_ne (Ne.symm hi)] at hs
      by_cases hj : j = k
      · subst hj
        rw [List.getElem?_set_self hk] at ht
        injection ht with ht
        subst ht
        exact (hlow i s hs hi).1
      · rw [List.getElem?_set_ne (Ne.symm hj)] at ht
        exact h.dis i j s t hs ht hij
/-- One row more. -/
theorem RowT.snoc {u : Value} {zs : List ByteArray} (h : RowT w base vs Z) (hu : OwnT w base u zs) (hl : ∀ b, u.ownBlock = some b → ∀ (j : Nat) (t : Value), vs[j]? = some t → t.ownBlock ≠ some b) : RowT w base (vs ++ [u]) (fun i => if i = vs.length then zs else Z i) := by
  have hlast : ∀ (j : Nat) (t : Value), (vs ++ [u])[j]? = some t → (j < vs.length ∧ vs[j]? = some t) ∨ (j = vs.length ∧ t = u) := by
    intro j t ht
    rcases Nat.lt_trichotomy j vs.length with h1 | h1 | h1
    · rw [List.getElem?_append_left h1] at ht; exact .inl ⟨h1, ht⟩
    · subst h1
      rw [List.getElem?_concat_length] at ht
      injection ht with ht
      exact .inr ⟨rfl, ht.symm⟩
    · rw [List.getElem?_eq_none (by simp; omega)] at ht; cases ht
  have hne : ∀ (j : Nat) (t : Value), vs[j]? = some t → (t.ownBlock = none ∨ t.ownBlock ≠ u.ownBlock) ∧ (u.ownBlock = none ∨ u.ownBlock ≠ t.ownBlock) := by
    intro j t ht
    rcases hu' : u.ownBlock with _ | b
    · exact ⟨by rcases t.ownBlock with _ | g <;> simp, .inl rfl⟩
    · have := hl b hu' j t ht
      exact ⟨.inr this, .inr fun e => this e.symm⟩
  refine ⟨fun j t ht => ?_, fun i j s t hs ht hij => ?_⟩
  · rcases hlast j t ht with ⟨h1, h2⟩ | ⟨h1, h2⟩
    · simp only [show j ≠ vs.length by omega, if_false]; exact h.own j t h2
    · subst h1 h2; simpa using hu
  · rcases hlast i s hs with ⟨h1, h2⟩ | ⟨h1, h2⟩ <;> rcases hlast j t ht with ⟨h3, h4⟩ | ⟨h3, h4⟩
    · exact h.dis i j s t h2 h4 hij
    · subst h4; exact (hne i s h2).1
    · subst h2; exact (hne j t h4).2
    · omega
theorem RowT.lt (h : RowT w base vs Z) {k g : Nat} {v : Value} (hv : vs[k]? = some v) (hb : v.ownBlock = some g) : base ≤ g ∧ g < w.heap.size := (h.own k v hv).lt hb
end

/-- A slice of slices. -/
structure MatT (w : World) (base : Nat) (v : Value) (n : Nat) (vs : List Value) (Z : Nat → List ByteArray) : Prop where
  row : w.ownsRow base 81 1 v n vs
  rows : RowT w base vs Z
  out : ∀ (k : Nat) (u : Value), vs[k]? = some u → (u.ownBlock = none ∨ u.ownBlock ≠ v.ownBlock) ∧ (v.ownBlock = none ∨ v.ownBlock ≠ u.ownBlock)
section
variable {w w' : World} {base n : Nat} {v : Value} {vs : List Value} {Z : Nat → List ByteArray}
theorem MatT.len (h : MatT w base v n vs Z) : vs.length = n := by have := h.row.1; omega
theorem MatT.grown {row : Option Nat} (h : MatT w base v n vs Z) (hg : w.grownBy w' row) (hv : v.ownBlock = none ∨ v.ownBlock ≠ row) (hne : ∀ (k : Nat) (v : Value), vs[k]? = some v → v.ownBlock = none ∨ v.ownBlock ≠ row) : MatT w' base v n vs Z :=
  ⟨World.ownsRow.kept h.row hg hv, h.rows.grown hg hne, h.out⟩
theorem MatT.below (h : MatT w base v n vs Z) {B : Nat} (hb : Below B w w') (hB : w.heap.size ≤ B) : MatT w' base v n vs Z :=
  h.grown (row := none) ⟨hb.os, hb.tape, hb.output, hb.size, fun i hi _ => hb.block i (by omega)⟩ (by rcases v.ownBlock with _ | g <;> simp) (fun k u _ => by rcases u.ownBlock with _ | g <;> simp)
theorem MatT.next (h : MatT w base v n vs Z) (hb : Below w.heap.size w w') : MatT w' base v n vs Z := h.below hb (Nat.le_refl _)
theorem MatT.alloc (h : MatT w base v n vs Z) (o : Obj) : MatT (w.alloc o) base v n vs Z := h.next ((Below.refl _ _).alloc (Nat.le_refl _) o)
theorem MatT.drew (h : MatT w base v n vs Z) : MatT w.drew base v n vs Z := ⟨h.row, h.rows.drew, h.out⟩
theorem MatT.drewN (h : MatT w base v n vs Z) (m : Nat) : MatT (w.drewN m) base v n vs Z := ⟨h.row, h.rows.drewN m, h.out⟩
theorem MatT.congr {Y : Nat → List ByteArray} (h : MatT w base v n vs Z) (hy : ∀ k, k < n → Y k = Z k) : MatT w base v n vs Y := ⟨h.row, h.rows.congr fun k hk => hy k (by rw [← h.len]; exact hk), h.out⟩
/-- A block that lies apart from all of it. -/
theorem MatT.apart {g : Nat} (h : MatT w base v n vs Z) (hg : g < base ∨ w.heap.size ≤ g) : (v.ownBlock = none ∨ v.ownBlock ≠ some g) ∧ ∀ (k : Nat) (u : Value), vs[k]? = some u → u.ownBlock = none ∨ u.ownBlock ≠ some g :=
  ⟨.inr fun e => by have := World.ownsRow.lt h.row g e; omega, fun k u hu => .inr fun e => by have := h.rows.lt hu e; omega⟩
theorem MatT.set_other {g : Nat} (h : MatT w base v n vs Z) (hg : g < base ∨ w.heap.size ≤ g) (j : Nat) (u : Value) : MatT (w.setCell ⟨g, j, none⟩ u) base v n vs Z :=
  h.grown (row := some g) ⟨rfl, rfl, rfl, by simp, fun k _ hk => heap_setCell_other w ⟨g, j, none⟩ k u (fun e => hk (by simp [e]))⟩ (h.apart hg).1 (h.apart hg).2
/-- The form of it when it has a row. -/
theorem MatT.form (h : MatT w base v n vs Z) (hn : 0 < n) : ∃ g c, v = .slice (some ⟨g, 0, none⟩) n c ∧ base ≤ g ∧ g < w.heap.size ∧ n ≤ c := by
  rcases h.row.2 with ⟨_, h0⟩ | ⟨g, cap, cur, hv, hb, hg, hnc, _⟩
  · omega
  · exact ⟨g, cap, hv, hb, (Array.getElem?_eq_some_iff.1 hg).1, hnc⟩
theorem MatT.form0 (h : MatT w base v n vs Z) : ∃ A c, v = .slice A n c ∧ n ≤ c := by
  rcases h.row.2 with ⟨rfl, rfl⟩ | ⟨g, cap, cur, hv, hb, hg, hnc, _⟩
  · exact ⟨none, 0, rfl, Nat.le_refl _⟩
  · exact ⟨_, cap, hv, hnc⟩
/-- A row's slice, read. -/
theorem MatT.at_ {g c k : Nat} (h : MatT w base (.slice (some ⟨g, 0, none⟩) n c) n vs Z) (hk : k < n) : ∃ (A : Option Addr) (m : Nat), vs[k]? = some (.slice A (Z k).length m) ∧ w.cell? ⟨g, k, none⟩ = some (.slice A (Z k).length m) ∧ OwnT w base (.slice A (Z k).length m) (Z k) ∧ (Z k).length ≤ m := by
  have hkl : k < vs.length := by rw [h.len]; exact hk
  obtain ⟨A, m, hu, hm⟩ := (h.rows.own k _ (List.getElem?_eq_getElem hkl)).form
  have hv : vs[k]? = some (.slice A (Z k).length m) := by rw [← hu]; exact List.getElem?_eq_getElem hkl
  exact ⟨A, m, hv, by rw [World.ownsRow.cellAt h.row k (by omega)]; exact hv, h.rows.own k _ hv, hm⟩
theorem MatT.frozen {g c : Nat} (h : MatT w base (.slice (some ⟨g, 0, none⟩) n c) n vs Z) (k : Nat) : w.frozen? ⟨g, k, none⟩ = false := World.ownsRow.frozenAt h.row k
/-- A row is replaced: first what the row itself has become, then the store into the slice. -/
theorem MatT.put {g c k : Nat} {u t : Value} {zs : List ByteArray} (h : MatT w base (.slice (some ⟨g, 0, none⟩) n c) n vs Z) (ht : vs[k]? = some t) (hg : w.grownBy w' t.ownBlock) (hu : OwnT w' base u zs)
    (hl : u.ownBlock = none ∨ u.ownBlock = t.ownBlock ∨ ∃ b, u.ownBlock = some b ∧ w.heap.size ≤ b) :
    MatT (w'.setCell ⟨g, k, none⟩ u) base (.slice (some ⟨g, 0, none⟩) n c) n (vs.set k u) (fun i => if i = k then zs else Z i) ∧ w'.grownBy (w'.setCell ⟨g, k, none⟩ u) (some g) := by
  have hgl := World.ownsRow.lt h.row g rfl
  have ho := h.out k t ht
  have hrow := World.ownsRow.kept h.row hg (by rcases ho.2 with h1 | h1; exact .inl h1; exact .inr h1)
  obtain ⟨hs, hgg⟩ := World.ownsRow.stored hrow k u
  have hrz := h.rows.put ht hg hu hl
  have hk : k < vs.length := (List.getElem?_eq_some_iff.1 ht).1
  have hug : u.ownBlock ≠ some g := by
    intro e
    rcases hl with h1 | h1 | ⟨b, h1, h2⟩
    · rw [h1] at e; cases e
    · rw [h1] at e
      rcases ho.1 with h3 | h3
      · rw [h3] at e; cases e
      · exact h3 e
    · rw [h1] at e; injection e with e; omega
  have hout : ∀ (i : Nat) (s : Value), (vs.set k u)[i]? = some s → s.ownBlock ≠ some g := by
    intro i s hs'
    by_cases hi : i = k
    · subst hi
      rw [List.getElem?_set_self hk] at hs'
      injection hs' with hs'
      subst hs'; exact hug
    · rw [List.getElem?_set_ne (Ne.symm hi)] at hs'
      rcases (h.out i s hs').1 with h1 | h1
      · rw [h1]; simp
      · exact h1
  exact ⟨⟨hs, hrz.grown hgg fun i s hs' => .inr (hout i s hs'), fun i s hs' => ⟨.inr (hout i s hs'), .inr fun e => hout i s hs' e.symm⟩⟩, hgg⟩
end

/-- make([][]string, n). -/
theorem make_matT (w : World) (n : Nat) (hn : n ≤ 1000) :
    ∃ w1, (Instr.makeSlice 87 (.int .i64 n) (.int .i64 n)).run Try.prog w = .ok (.slice (some ⟨w.heap.size, 0, none⟩) n n) w1 ∧ MatT w1 w.heap.size (.slice (some ⟨w.heap.size, 0, none⟩) n n) n (List.replicate n (.slice none 0 0)) (fun _ => []) ∧ Below w.heap.size w w1 := by
  obtain ⟨ti, hi, hz0, hz1, hz2⟩ := info_parts elemTT
  obtain ⟨w1, hrun, ho, hg⟩ := run_make_full (P := Try.prog) w w.heap.size 87 81 ti _ 1 Try.underlying87 hi hz0 hz1 .i64 .i64 n (by rw [hz2]; omega) (by simp only [maxLen]; omega) (by omega)
  have hrep : ∀ (k : Nat) (v : Value), (List.replicate n (Value.slice none 0 0))[k]? = some v → v = .slice none 0 0 := fun k v hv => by
    rw [List.getElem?_replicate] at hv
    split at hv
    · cases hv; rfl
    · cases hv
  refine ⟨w1, hrun, ⟨?_, ⟨fun k v hv => ?_, fun j k u v hu hv _ => ?_⟩, fun k u hu => ?_⟩, (Below.refl w.heap.size w).grown hg (Nat.le_refl _) (by simp)⟩
  · rw [show (List.replicate n (Value.slice none 0 0)) = (madeCells (Value.cells (.slice none 0 0)) (n * 1)).toList from ?_]
    · exact ho
    · rw [Nat.mul_one]; exact (toList_madeCells_one _ n).symm
  · rw [hrep k v hv]; exact OwnT.nil _ _
  · rw [hrep j u hu]; exact .inl rfl
  · rw [hrep k u hu]; exact ⟨.inl rfl, .inr (by simp [Value.ownBlock])⟩
end Go.Proofs.Ythbmfaogjaahoaa

namespace Go.Proofs.Ythbmfaogjaahoaa
open Go Go.RowKit
set_option linter.unusedSimpArgs false
set_option linter.unusedVariables false

theorem ownsRow_low {w : World} {base base' : Nat} {e : TypeId} {size n : Nat} {v : Value} {xs : List Value} (h : w.ownsRow base e size v n xs) (hb : base' ≤ base) : w.ownsRow base' e size v n xs := by
  refine ⟨h.1, ?_⟩
  rcases h.2 with h0 | ⟨g, cap, cur, h1, h2, h3⟩
  · exact .inl h0
  · exact .inr ⟨g, cap, cur, h1, Nat.le_trans hb h2, h3⟩
/-- What l12Parts leaves: nothing but a code, or the texts by index. -/
def L12 (X : Nat → PtV) (n : Nat) (w : World) (e : Ending) (w' : World) : Prop :=
  ∃ v, e = .returned (.tuple #[v, .int .i64 (peC X n)]) ∧ Below w.heap.size w w' ∧ (peC X n ≠ 0 → v = .slice none 0 0) ∧
    (peC X n = 0 → ∃ g c vs, v = .slice (some ⟨g, 0, none⟩) (X 0).c.toNat c ∧ MatT w' w.heap.size v (X 0).c.toNat vs (fun k => lsF X n (k : Int)))
theorem l12_no {X : Nat → PtV} {n : Nat} {K : Int} {w w' : World} (h : peC X n = K) (h0 : K ≠ 0) (hb : Below w.heap.size w w') : L12 X n w (.returned (.tuple #[.slice none 0 0, .int .i64 K])) w' :=
  ⟨_, by rw [h], hb, fun _ => rfl, fun e => absurd (h.symm.trans e) h0⟩
def SpRel2 (w w1 : World) (X : Nat → PtV) (n C : Nat) (i : Value) (wr : World) : Prop :=
  ∃ (k : Nat) (vs : List Value), k ≤ n ∧ i = .int .i64 k ∧ Hid (∀ j, j < k → (X j).c = (X 0).c ∧ (X j).p = (X 0).p) ∧ MatT wr w1.heap.size (.slice (some ⟨w1.heap.size, 0, none⟩) C C) C vs (fun x => lsF X k (x : Int)) ∧ Below w1.heap.size w1 wr

set_option maxRecDepth 100000 in
set_option maxHeartbeats 4000000 in
theorem specL12 (A : Option Addr) (n c B : Nat) (X : Nat → PtV) (w : World) (hI : Pts w B A n X) (hB : B ≤ w.heap.size) (hn : n ≤ 1099511627776) (hX : ∀ j, j < n → (X j).t.size ≤ 1099511627776 ∧ (-9223372036854775808 ≤ (X j).c ∧ (X j).c ≤ 9223372036854775807)) :
    Calls Try.prog 61 #[.slice A n c] w (L12 X n w) := by
  have HXX := hide hX
  clear hX
  by_cases h18 : 1 ≤ n ∧ n ≤ 8
  case neg =>
    have HE := hide (l12_no (w := w) (w' := w) (pe_len (X := X) (n := n) h18) (by decide) (Below.refl _ _))
    go_enter Try.func61, Try.ntmps61
    go_wp2_with fail
    refine (specIn_no (n : Int) 1 8 _ (by omega)).mono ?_
    rintro e _ ⟨rfl, rfl⟩
    go_wp2_with fail
    go_ret2
    exact HE.out
  obtain ⟨h1, h8⟩ := h18
  have HNV := hide (pe_val (X := X) (n := n) ⟨h1, h8⟩)
  have HNO := hide (pe_one (X := X) (n := n) ⟨h1, h8⟩)
  have HOK := hide (pe_ok (X := X) (n := n) ⟨h1, h8⟩)
  obtain ⟨b, off, rfl, hbb, hc⟩ := hI (by omega)
  have HC := hide (ptB_of hbb hB hc)
  have hn0 : 0 < n := by omega
  clear hI hbb hc
  go_enter Try.func61, Try.ntmps61
  go_wp2_with fail
  refine (specIn_yes (n : Int) 1 8 _ (by omega) (by omega)).mono ?_
  rintro e _ ⟨rfl, rfl⟩
  go_wp2_with fail
  go_loopw [4] (fun i wr => PeRel w X n i wr) (fun i _ => n - (intOf i).toNat)
  case atStart => exact ⟨0, Nat.zero_le _, rfl, hide (fun j hj => absurd hj (by omega)), Below.refl _ _⟩
  case round =>
    obtain ⟨k, hk, rfl, hv, hb⟩ := hrel
    have HV := hv
    have HB := hide hb
    clear hv hb
    by_cases hlt : k < n
    · obtain ⟨hs, hcb⟩ := HXX.out k hlt
      obtain ⟨e0, e1, e2, e3⟩ := HC.out wr HB.out k hlt
      obtain ⟨i0, hi0⟩ : ∃ m, (X k).i = m := ⟨_, rfl⟩
      obtain ⟨c0, hc0⟩ : ∃ m, (X k).c = m := ⟨_, rfl⟩
      obtain ⟨p0, hp0⟩ : ∃ m, (X k).p = m := ⟨_, rfl⟩
      obtain ⟨s, hse⟩ : ∃ s, (X k).t = s := ⟨_, rfl⟩
      rw [hi0] at e0
      rw [hc0] at e1 hcb
      rw [hp0] at e2
      rw [hse] at e3 hs
      have hXk : X k = ⟨i0, c0, p0, s⟩ := by rw [← hi0, ← hc0, ← hp0, ← hse]
      have HXK := hide hXk
      have HIV := hide (fun w' => specIsPart i0 c0 p0 s hs hcb w')
      clear hi0 hc0 hp0 hse hXk
      rcases hf : isPt ⟨i0, c0, p0, s⟩ with _ | _
      · have HE := hide (HNV.out (fun h => by have := h k hlt; rw [HXK.out, hf] at this; cases this))
        rw [hf] at HIV
        clear hf
        go_wp2_with fail
        refine (HIV.out _).mono ?_
        rintro e w1 ⟨rfl, hb1⟩
        have HF := hide (l12_no HE.out (by decide) (HB.out.trans (hb1.mono HB.out.size)))
        clear hb1 e0 e1 e2 e3
        go_wp2_with fail
        go_ret2
        exact HF.out
      · have HV2 := hide (fun (j : Nat) (hj : j < k + 1) => show isPt (X j) = true from if h : j < k then HV.out j h else by rw [show j = k by omega, HXK.out]; exact hf)
        rw [hf] at HIV
        clear hf
        go_wp2_with fail
        refine (HIV.out _).mono ?_
        rintro e w1 ⟨rfl, hb1⟩
        have HB3 := hide (HB.out.trans (hb1.mono HB.out.size))
        clear hb1 e0 e1 e2 e3
        go_wp2_with fail
        go_roundw
        case rel => exact ⟨k + 1, by omega, by go_num, HV2, HB3.out⟩
        case measure => simp [intOf]; omega
    · have HVV := hide (show alV X n from fun j hj => HV.out j (by omega))
      obtain ⟨⟨c1, c2⟩, _⟩ := isPt_yes (HVV.out 0 (by omega))
      obtain ⟨C, hCe⟩ : ∃ C, (X 0).c.toNat = C := ⟨_, rfl⟩
      have HCE := hide hCe
      have hCI : (X 0).c = (C : Int) := by omega
      have hC8 : C ≤ 8 := by omega
      obtain ⟨w1, hrun, hm1, hb1⟩ := make_matT wr C (by omega)
      have HM1 := hide hm1
      have HW1 := hide hb1
      have HCZ := hide (fun (wx : World) (hx : Below w.heap.size w wx) => show wx.cell? ⟨b, off + 1, none⟩ = some (.int .i64 (C : Nat)) ∧ wx.cell? ⟨b, off + 2, none⟩ = some (.int .i64 (X 0).p) from by
        obtain ⟨_, q1, q2, _⟩ := HC.out wx hx 0 (by omega)
        simp only [Nat.zero_mul, Nat.add_zero] at q1 q2
        rw [hCI] at q1
        exact ⟨q1, q2⟩)
      obtain ⟨z1, z2⟩ := HCZ.out wr HB.out
      have HCI := hide hCI
      have HBB := hide (HB.out.trans (hb1.mono HB.out.size))
      have HWW := hide HB.out.size
      have hC0 : 0 < C := by omega
      clear HV hm1 hb1 hCe hCI c1 c2
      go_wp2_with fail
      clear hrun z1 z2 hlt hk
      obtain ⟨wo, rfl⟩ : ∃ wo : World, wo = wr := ⟨_, rfl⟩
      go_loopw [6] (fun i wr => SpRel2 w wo X n C i wr) (fun i _ => n - (intOf i).toNat)
      case atStart => exact ⟨0, _, Nat.zero_le _, rfl, hide (fun j hj => absurd hj (by omega)), HM1.out, HW1.out⟩
      case round =>
        clear HM1 HW1 HBB
        obtain ⟨k, vs, hk, rfl, hv, hm, hb⟩ := hrel
        have HV := hv
        have HM := hide hm
        have HBI := hide hb
        have HB2 := hide (HB.out.trans (hb.mono HB.out.size))
        clear hv hm hb
        by_cases hlt : k < n
        · have HCK := hide (fun (wx : World) (hx : Below w.heap.size w wx) => HC.out wx hx k hlt)
          obtain ⟨i0, hi0⟩ : ∃ m, (X k).i = m := ⟨_, rfl⟩
          obtain ⟨c0, hc0⟩ : ∃ m, (X k).c = m := ⟨_, rfl⟩
          obtain ⟨p0, hp0⟩ : ∃ m, (X k).p = m := ⟨_, rfl⟩
          obtain ⟨s, hse⟩ : ∃ s, (X k).t = s := ⟨_, rfl⟩
          have hXk : X k = ⟨i0, c0, p0, s⟩ := by rw [← hi0, ← hc0, ← hp0, ← hse]
          have HXK := hide hXk
          rw [hXk] at HCK
          unfold PtAt at HCK
          simp only at HCK
          obtain ⟨e0, e1, e2, e3⟩ := HCK.out wr HB2.out
          have HXC := hide (show (X k).c = c0 ∧ (X k).p = p0 from ⟨hc0, hp0⟩)
          obtain ⟨pz, hpz⟩ : ∃ m, (X 0).p = m := ⟨_, rfl⟩
          have HEQ := hide (fun (h : c0 = (C : Int) ∧ p0 = pz) (j : Nat) (hj : j < k + 1) => show (X j).c = (X 0).c ∧ (X j).p = (X 0).p from if h' : j < k then HV.out j h' else by rw [show j = k by omega, HXC.out.1, HXC.out.2, HCI.out, hpz]; exact h)
          have HNE := hide (fun (h : ¬ (c0 = (C : Int) ∧ p0 = pz)) => HNO.out HVV.out (fun g => h (by have := g k hlt; rw [HXC.out.1, HXC.out.2, HCI.out, hpz] at this; exact this)))
          rw [hpz] at HCZ
          have HIX := hide (fun (h : c0 = (C : Int)) => show 0 ≤ i0 ∧ i0 < (C : Int) from by
            have h2 := (isPt_yes (HVV.out k hlt)).2.1
            rw [HXK.out] at h2
            simp only at h2
            omega)
          clear hi0 hc0 hp0 hse hpz hXk
          obtain ⟨z1, z2⟩ := HCZ.out wr HB2.out
          by_cases hq1 : c0 = (C : Int)
          · by_cases hq2 : p0 = pz
            · have HV2 := hide (HEQ.out ⟨hq1, hq2⟩)
              obtain ⟨hi1, hi2⟩ := HIX.out hq1
              obtain ⟨kk, rfl⟩ : ∃ kk : Nat, i0 = kk := ⟨i0.toNat, by omega⟩
              have hkC : kk < C := by omega
              have HLS := hide (show ∀ x : Nat, lsF X (k + 1) (x : Int) = if x = kk then lsF X k (kk : Int) ++ [s] else lsF X k (x : Int) from fun x => by
                by_cases hx : x = kk
                · subst hx; rw [if_pos rfl, ls_yes (by rw [HXK.out]), HXK.out]
                · rw [if_neg hx, ls_no (by rw [HXK.out]; show ((kk : Int)) ≠ _; omega)])
              have HLL := hide (show (lsF X k (kk : Int)).length ≤ k from by
                have key : ∀ m, (lsF X m (kk : Int)).length ≤ m := by
                  intro m
                  induction m with
                  | zero => exact Nat.le_refl _
                  | succ m ih => rw [lsF]; split <;> (try simp only [List.length_append, List.length_singleton]) <;> omega
                exact key k)
              subst hq1 hq2
              have n1 : ((C : Int) != (C : Int)) = false := by simp
              have n2 : (p0 != p0) = false := by simp
              clear HEQ HNE HIX hi1 hi2
              go_wp2_with fail
              go_region_held3 (fun w' => (w'.cell? ⟨b, off + k * 4, none⟩ = some (.int .i64 (kk : Nat)) ∧ w'.cell? ⟨b, off + k * 4 + 1, none⟩ = some (.int .i64 (C : Nat)) ∧ w'.cell? ⟨b, off + k * 4 + 2, none⟩ = some (.int .i64 p0) ∧ w'.cell? ⟨b, off + k * 4 + 3, none⟩ = some (.string s)) ∧ (w'.cell? ⟨b, off + 1, none⟩ = some (.int .i64 (C : Nat)) ∧ w'.cell? ⟨b, off + 2, none⟩ = some (.int .i64 p0)))
                (exact ⟨HCK.out _ HB2.out.drew, HCZ.out _ HB2.out.drew⟩) (fail)
              have HB3 := hide HB2.out.drew
              have HM3 := hide HM.out.drew
              have HI3 := hide HBI.out.drew
              clear e0 e1 e2 e3 z1 z2 HB2 HM HBI
              obtain ⟨wz, hwz⟩ : ∃ wz, wr.drew = wz := ⟨_, rfl⟩
              rw [hwz] at HB3 HM3 HI3 ⊢
              clear hwz
              obtain ⟨e0, e1, e2, e3⟩ := HCK.out wz HB3.out
              obtain ⟨Ar, mr, hvr, hcr, hor, hmr⟩ := HM3.out.at_ hkC
              have HVR := hide hvr
              have HOR := hide hor
              have HCR := hide hcr
              obtain ⟨lr, hlr⟩ : ∃ lr, (lsF X k (kk : Int)).length = lr := ⟨_, rfl⟩
              rw [hlr] at HVR HOR HCR HLL
              have hlr8 : lr ≤ 8 := by have := HLL.out; omega
              have HLR := hide hlr
              have HWB := hide (show w.heap.size ≤ wo.heap.size from HWW.out)
              clear hvr hcr hor hmr hlr
              go_wp2_with fail
              clear e0 e1 e2 e3
              refine tail_begin (fun w' => (w'.cell? ⟨wo.heap.size, kk, none⟩ = some (.slice Ar lr mr) ∧ w'.cell? ⟨b, off + k * 4 + 3, none⟩ = some (.string s))) 14 (by kernel_rfl) ⟨HCR.out, (HCK.out _ HB3.out.drew).2.2.2⟩ (fun hS' => ?_)
              have HMd := hide HM3.out.drew
              have HBd := hide HB3.out.drew
              have HId := hide HI3.out.drew
              have HORd := hide HOR.out.drew
              obtain ⟨wd, hwd⟩ : ∃ wd, wz.drew = wd := ⟨_, rfl⟩
              rw [hwd] at HMd HBd HId HORd hS' ⊢
              clear hwd
              refine tail_take 0 rfl (by kernel_rfl) (by kernel_rfl) (by kernel_rfl) (by kernel_rfl) (fun _ _ _ h => h) (by rfl) (v := ?_) ?_ (by assumption) ?_
              rotate_left 1
              · intro w' hS'; (try dsimp only at hS'); obtain ⟨q1, q2⟩ := hS'; go_simp; try with_reducible rfl
              try simp only [Act.put, List.setIfInBounds_toArray, List.set_cons_zero, List.set_cons_succ]
              refine tail_take 1 rfl (by kernel_rfl) (by kernel_rfl) (by kernel_rfl) (by kernel_rfl) (fun _ _ _ h => h) (by rfl) (v := ?_) ?_ (by assumption) ?_
              rotate_left 1
              · intro w' hS'; (try dsimp only at hS'); obtain ⟨q1, q2⟩ := hS'; go_simp; try with_reducible rfl
              try simp only [Act.put, List.setIfInBounds_toArray, List.set_cons_zero, List.set_cons_succ]
              refine tail_take 2 rfl (by kernel_rfl) (by kernel_rfl) (by kernel_rfl) (by kernel_rfl) (fun _ _ _ h => h) (by rfl) (v := ?_) ?_ (by assumption) ?_
              rotate_left 1
              · intro w' hS'; (try dsimp only at hS'); obtain ⟨q1, q2⟩ := hS'; go_simp; try with_reducible rfl
              try simp only [Act.put, List.setIfInBounds_toArray, List.set_cons_zero, List.set_cons_succ]
              refine tail_take 3 rfl (by kernel_rfl) (by kernel_rfl) (by kernel_rfl) (by kernel_rfl) (fun _ _ _ h => h) (by rfl) (v := ?_) ?_ (by assumption) ?_
              rotate_left 1
              · intro w' hS'; (try dsimp only at hS'); obtain ⟨q1, q2⟩ := hS'; go_simp; try with_reducible rfl
              try simp only [Act.put, List.setIfInBounds_toArray, List.set_cons_zero, List.set_cons_succ]
              refine tail_take 4 rfl (by kernel_rfl) (by kernel_rfl) (by kernel_rfl) (by kernel_rfl) (fun _ _ _ h => h) (by rfl) (v := ?_) ?_ (by assumption) ?_
              rotate_left 1
              · intro w' hS'; (try dsimp only at hS'); obtain ⟨q1, q2⟩ := hS'; go_simp; try with_reducible rfl
              try simp only [Act.put, List.setIfInBounds_toArray, List.set_cons_zero, List.set_cons_succ]
              refine tail_take 5 rfl (by kernel_rfl) (by kernel_rfl) (by kernel_rfl) (by kernel_rfl) (fun _ _ _ h => h) (by rfl) (v := ?_) ?_ (by assumption) ?_
              rotate_left 1
              · intro w' hS'; (try dsimp only at hS'); obtain ⟨q1, q2⟩ := hS'; go_simp; try with_reducible rfl
              try simp only [Act.put, List.setIfInBounds_toArray, List.set_cons_zero, List.set_cons_succ]
              refine tail_take 6 rfl (by kernel_rfl) (by kernel_rfl) (by kernel_rfl) (by kernel_rfl) (fun _ _ _ h => h) (by rfl) (v := ?_) ?_ (by assumption) ?_
              rotate_left 1
              · intro w' hS'; (try dsimp only at hS'); obtain ⟨q1, q2⟩ := hS'; go_simp; try with_reducible rfl
              try simp only [Act.put, List.setIfInBounds_toArray, List.set_cons_zero, List.set_cons_succ]
              refine tail_take 7 rfl (by kernel_rfl) (by kernel_rfl) (by kernel_rfl) (by kernel_rfl) (fun _ _ _ h => h) (by rfl) (v := ?_) ?_ (by assumption) ?_
              rotate_left 1
              · intro w' hS'; (try dsimp only at hS'); obtain ⟨q1, q2⟩ := hS'; go_simp; try with_reducible rfl
              try simp only [Act.put, List.setIfInBounds_toArray, List.set_cons_zero, List.set_cons_succ]
              refine tail_take 8 rfl (by kernel_rfl) (by kernel_rfl) (by kernel_rfl) (by kernel_rfl) (fun _ _ _ h => h) (by rfl) (v := ?_) ?_ (by assumption) ?_
              rotate_left 1
              · intro w' hS'; (try dsimp only at hS'); obtain ⟨q1, q2⟩ := hS'; go_simp; try with_reducible rfl
              try simp only [Act.put, List.setIfInBounds_toArray, List.set_cons_zero, List.set_cons_succ]
              refine tail_take 9 rfl (by kernel_rfl) (by kernel_rfl) (by kernel_rfl) (by kernel_rfl) (fun _ _ _ h => h) (by rfl) (v := ?_) ?_ (by assumption) ?_
              rotate_left 1
              · intro w' hS'; (try dsimp only at hS'); obtain ⟨q1, q2⟩ := hS'; go_simp; try with_reducible rfl
              try simp only [Act.put, List.setIfInBounds_toArray, List.set_cons_zero, List.set_cons_succ]
              refine tail_take 10 rfl (by kernel_rfl) (by kernel_rfl) (by kernel_rfl) (by kernel_rfl) (fun _ _ _ h => h) (by rfl) (v := ?_) ?_ (by assumption) ?_
              rotate_left 1
              · intro w' hS'; (try dsimp only at hS'); obtain ⟨q1, q2⟩ := hS'; go_simp; try with_reducible rfl
              try simp only [Act.put, List.setIfInBounds_toArray, List.set_cons_zero, List.set_cons_succ]
              have HS1 := hide (show (wd.alloc (.cells #[.string s] 9)).cell? ⟨wo.heap.size, kk, none⟩ = some (.slice Ar lr mr) ∧ (wd.alloc (.cells #[.string s] 9)).cell? ⟨b, off + k * 4 + 3, none⟩ = some (.string s) from ⟨by
                have h := (HMd.out.alloc (.cells #[.string s] 9)).at_ hkC
                obtain ⟨A9, m9, h9, h8', _⟩ := h
                rw [HVR.out] at h9
                injection h9 with h9
                rw [h8', ← h9], (HCK.out _ (HBd.out.alloc HBd.out.size _)).2.2.2⟩)
              refine tail_call 11 rfl (by kernel_rfl) rfl (fun K' hK => ?_)
              go_simp
              refine hK.out _ _ HS1.out (fun hS' => ?_)
              clear hK K'
              try simp only [Act.put, List.setIfInBounds_toArray, List.set_cons_zero, List.set_cons_succ]
              refine tail_call 12 rfl (by kernel_rfl) rfl (fun K' hK => ?_)
              refine wp_appT (base := wo.heap.size) (v := .slice Ar lr mr) (ts := lsF X k (kk : Int)) wd (.tmp 67) (.tmp 73) rfl rfl (by first | exact HORd.out | (have h := HORd.out; exact h)) s rfl (by rw [HLR.out]; omega) HId.out.size ?_
              intro u w4 hu4 hg4 hl4
              obtain ⟨hmm, hgg⟩ := HMd.out.put HVR.out hg4 hu4 hl4
              have HMM := hide (hmm.congr (Y := fun x => lsF X (k + 1) (x : Int)) (fun x _ => HLS.out x))
              have hfz : w4.frozen? ⟨wo.heap.size, kk, none⟩ = false := World.ownsRow.frozenAt (World.ownsRow.kept HMd.out.row hg4 (by have ho := HMd.out.out kk _ HVR.out; rcases ho.2 with h1 | h1; exact .inl h1; exact .inr h1)) kk
              have hcl : w4.cell? ⟨wo.heap.size, kk, none⟩ = some (.slice Ar lr mr) := by
                have hrow := World.ownsRow.kept HMd.out.row hg4 (by have ho := HMd.out.out kk _ HVR.out; rcases ho.2 with h1 | h1; exact .inl h1; exact .inr h1)
                rw [World.ownsRow.cellAt hrow kk (by have := HMd.out.len; omega), HVR.out]
              have HI4 := hide (HId.out.grown hg4 HId.out.size (fun g hg => (HORd.out.lt hg).1))
              have HB4 := hide (HB.out.trans (HI4.out.mono HB.out.size))
              obtain ⟨Au, mu, hue, hmu⟩ := hu4.form
              subst hue
              have HI5 := hide (HI4.out.setCell (p := ⟨wo.heap.size, kk, none⟩) (Nat.le_refl _) (.slice Au (lsF X k (kk : Int) ++ [s]).length mu))
              obtain ⟨ll, hll⟩ : ∃ ll, (lsF X k (kk : Int) ++ [s]).length = ll := ⟨_, rfl⟩
              rw [hll] at HMM HI5 ⊢
              clear hu4 hg4 hl4 hmm hgg hmu hll
              have HT5 := hide (HCK.out _ HB4.out).2.2.2
              refine hK.out _ _ ⟨hcl, HT5.out⟩ (fun hS' => ?_)
              clear hK K'
              try simp only [Act.put, List.setIfInBounds_toArray, List.set_cons_zero, List.set_cons_succ]
              refine tail_take 13 rfl (by kernel_rfl) (by kernel_rfl) (by kernel_rfl) (by kernel_rfl) (fun _ _ _ h => h) (by rfl) (v := ?_) ?_ (by assumption) ?_
              rotate_left 1
              · intro w' hS'; (try dsimp only at hS'); obtain ⟨q1, q2⟩ := hS'; go_simp; try with_reducible rfl
              try simp only [Act.put, List.setIfInBounds_toArray, List.set_cons_zero, List.set_cons_succ]
              refine tail_last 14 rfl (by kernel_rfl) (by kernel_rfl) rfl rfl (fun K' hK => ?_)
              go_simp
              refine hK.out _ _ ?_
              clear hK K' hS' hcl hfz
              try simp only [Act.put, List.setIfInBounds_toArray, List.set_cons_zero, List.set_cons_succ]
              obtain ⟨w5, hw5⟩ : ∃ w5, w4.setCell ⟨wo.heap.size, kk, none⟩ (.slice Au ll mu) = w5 := ⟨_, rfl⟩
              rw [hw5] at HMM HI5 ⊢
              clear hw5
              go_wp2_with fail
              go_roundw
              case rel => exact ⟨k + 1, _, by omega, by go_num, HV2, HMM.out, HI5.out⟩
              case measure => simp [intOf]; omega
            · have HE := hide (l12_no (HNE.out (fun h => hq2 h.2)) (by decide) HB2.out.drew)
              subst hq1
              have n1 : ((C : Int) != (C : Int)) = false := by simp
              have n2 : (p0 != pz) = true := by simpa using hq2
              go_wp2_with fail
              go_region_held3 (fun w' => (w'.cell? ⟨b, off + k * 4, none⟩ = some (.int .i64 i0) ∧ w'.cell? ⟨b, off + k * 4 + 1, none⟩ = some (.int .i64 (C : Nat)) ∧ w'.cell? ⟨b, off + k * 4 + 2, none⟩ = some (.int .i64 p0) ∧ w'.cell? ⟨b, off + k * 4 + 3, none⟩ = some (.string s)) ∧ (w'.cell? ⟨b, off + 1, none⟩ = some (.int .i64 (C : Nat)) ∧ w'.cell? ⟨b, off + 2, none⟩ = some (.int .i64 pz)))
                (exact ⟨HCK.out _ HB2.out.drew, HCZ.out _ HB2.out.drew⟩) (fail)
              go_wp2_with fail
              go_ret2
              exact HE.out
          · have HE := hide (fun nq => l12_no (HNE.out (fun h => hq1 h.1)) (by decide) (below_drewN HB2.out nq))
            have n1 : (c0 != (C : Int)) = true := by simpa using hq1
            go_wp2_with fail
            go_quiet (fail)
            go_wp2_with fail
            go_ret2
            exact HE.out _
        · obtain rfl : k = n := by omega
          have HE := hide (HOK.out HVV.out (fun j hj => HV.out j hj))
          have HF := hide (show L12 X k w (.returned (.tuple #[.slice (some ⟨wo.heap.size, 0, none⟩) C C, .int .i64 0])) wr from
            ⟨_, by rw [HE.out], HB2.out, fun h => absurd HE.out h, fun _ => ⟨wo.heap.size, C, vs, by rw [HCE.out], by
              rw [HCE.out]
              exact ⟨ownsRow_low HM.out.row HWW.out, ⟨fun j u hu => ownsRow_low (HM.out.rows.own j u hu) HWW.out, HM.out.rows.dis⟩, HM.out.out⟩⟩⟩)
          go_wp2_with fail
          go_ret2
          exact HF.out
end Go.Proofs.Ythbmfaogjaahoaa

namespace Go.Proofs.Ythbmfaogjaahoaa
open Go Go.RowKit
set_option linter.unusedSimpArgs false
set_option linter.unusedVariables false

def SmRel (w : World) (B0 : Nat) (X : Nat → PtV) (n C : Nat) (v i : Value) (wr : World) : Prop :=
  ∃ k : Nat, k ≤ C ∧ i = .int .i64 k ∧ Own wr B0 2 .i64 v (msL X n k) ∧ Below B0 w wr

set_option maxRecDepth 100000 in
set_option maxHeartbeats 2000000 in
theorem specMi (A : Option Addr) (n c B : Nat) (X : Nat → PtV) (w : World) (hI : Pts w B A n X) (hB : B ≤ w.heap.size) (hn : n ≤ 1099511627776) (hX : ∀ j, j < n → (X j).t.size ≤ 1099511627776 ∧ (-9223372036854775808 ≤ (X j).c ∧ (X j).c ≤ 9223372036854775807)) :
    Calls Try.prog 31 #[.slice A n c] w (EbPost (mpL X n) (peC X n) w) := by
  have HL12 := hide (specL12 A n c B X w hI hB hn hX)
  by_cases h0 : peC X n = 0
  case neg =>
    have HL := hide (show mpL X n = [] by unfold mpL; rw [if_neg h0])
    rw [HL.out]
    unfold L12 at HL12
    obtain ⟨K, hK⟩ : ∃ K, peC X n = K := ⟨_, rfl⟩
    rw [hK] at HL12 h0 ⊢
    clear hK hI hX
    go_enter Try.func31, Try.ntmps31
    go_wp2_with fail
    refine HL12.out.mono ?_
    rintro e w1 ⟨v, rfl, hb1, hv, _⟩
    have HB1 := hide hb1
    obtain rfl := hv h0
    clear hb1 hv
    go_wp2_with fail
    go_ret2
    exact eb_nil HB1.out
  obtain ⟨⟨h1, h8⟩, hv, he⟩ := pe_yes h0
  obtain ⟨_, hC, hC1, hC8⟩ := al_idx h1 hv he
  have HL := hide (show mpL X n = msL X n (X 0).c.toNat by unfold mpL; rw [if_pos h0])
  unfold L12 at HL12
  rw [h0] at HL12 ⊢
  rw [HL.out]
  obtain ⟨C, hCe⟩ : ∃ C, (X 0).c.toNat = C := ⟨_, rfl⟩
  rw [hCe] at hC hC1 hC8 HL12 ⊢
  clear hI hX hv he hC hCe
  go_enter Try.func31, Try.ntmps31
  go_wp2_with fail
  refine HL12.out.mono ?_
  rintro e w1 ⟨v, rfl, hb1, _, hv⟩
  obtain ⟨g, cc, vs, rfl, hm⟩ := hv trivial
  have HB1 := hide hb1
  have HM := hide hm
  clear hb1 hv hm
  have HO1 := hide (Own.lit0 w1 2 .i64)
  have HW1 := hide ((Below.refl w1.heap.size w1).alloc (Nat.le_refl _) (.cells #[] 2))
  go_wp2_with fail
  go_loopw [6, 7] (fun v i wr => SmRel w1 w1.heap.size X n C v i wr) (fun _ i _ => C - (intOf i).toNat)
  case atStart => exact ⟨0, Nat.zero_le _, rfl, HO1.out, HW1.out⟩
  case round =>
    clear HO1 HW1
    obtain ⟨k, hk, rfl, ho, hb⟩ := hrel
    obtain ⟨v, rfl⟩ : ∃ v : Value, v = u6 := ⟨_, rfl⟩
    have HO := hide ho
    have HB := hide hb
    clear ho hb
    by_cases hlt : k < C
    · obtain ⟨Ar, mr, _, hcr, _, _⟩ := (HM.out.below HB.out (Nat.le_refl _)).at_ hlt
      have HST := hide (ms_step X n k)
      have HLN := hide (ms_len X n k)
      by_cases hls : lsF X n (k : Int) = []
      · rw [hls] at hcr
        simp only [List.length_nil] at hcr
        rw [if_pos hls] at HST
        clear hls
        have hl8 : (msL X n k).length ≤ 8 := by have := HLN.out; omega
        go_wp2_with (at_builtin; refine wpList_app1 wr rfl (.tmp 29) (.tmp 31) 33 rfl elem64 w1.heap.size v (msL X n k) rfl HO.out (k : Int) rfl (by omega) HB.out.size ?_; intro v' w' h1 h2; have HO3 := hide h1; have HB3 := hide (HB.out.grown h2 HB.out.size (fun g hg => (HO.out.lt hg).1)); clear h1 h2)
        first
          | (refine ⟨⟨k + 1, by omega, by go_num, by rw [HST.out]; exact HO3.out, HB3.out⟩, ?_⟩
             simp [intOf]; omega)
          | (go_roundw
             case rel => exact ⟨k + 1, by omega, by go_num, by rw [HST.out]; exact HO3.out, HB3.out⟩
             case measure => simp [intOf]; omega)
      · obtain ⟨l, hl⟩ : ∃ l, (lsF X n (k : Int)).length = l := ⟨_, rfl⟩
        have hl0 : l ≠ 0 := fun e => hls (List.length_eq_zero_iff.1 (hl.trans e))
        rw [hl] at hcr
        rw [if_neg hls] at HST
        clear hls hl
        have hl0' : ((l : Int) == 0) = false := by simpa using hl0
        have hl0z : ¬ l = 0 := hl0
        go_wp2_with fail
        go_roundw
        case rel => exact ⟨k + 1, by omega, by go_num, by rw [HST.out]; exact HO.out, HB.out⟩
        case measure => simp [intOf]; omega
    · obtain rfl : k = C := by omega
      have HF := hide (eb_of HO.out (HB1.out.trans (HB.out.mono HB1.out.size)) HB1.out.size (c := 0))
      go_wp2_with fail
      go_ret2
      exact HF.out

def SjRel (w : World) (B0 : Nat) (X : Nat → PtV) (n C : Nat) (v i : Value) (wr : World) : Prop :=
  ∃ (k : Nat) (q : ByteArray), k ≤ C ∧ i = .int .i64 k ∧ v = .string q ∧ Hid (jn (txK X n) k = q) ∧ Hid (∀ j, j < k → (lsF X n (j : Int)).length = 1) ∧ q.size ≤ 400 * k ∧ w = wr

set_option maxRecDepth 100000 in
set_option maxHeartbeats 2000000 in
theorem specJp (A : Option Addr) (n c B : Nat) (X : Nat → PtV) (w : World) (hI : Pts w B A n X) (hB : B ≤ w.heap.size) (hn : n ≤ 1099511627776) (hX : ∀ j, j < n → (X j).t.size ≤ 1099511627776 ∧ (-9223372036854775808 ≤ (X j).c ∧ (X j).c ≤ 9223372036854775807)) :
    Calls Try.prog 28 #[.slice A n c] w (GivSI (jpT X n) (jpC X n) w) := by
  have HL12 := hide (specL12 A n c B X w hI hB hn hX)
  by_cases h0 : peC X n = 0
  case neg =>
    obtain ⟨q1, q2⟩ := jp_pe h0
    rw [q1, q2]
    unfold L12 at HL12
    obtain ⟨K, hK⟩ : ∃ K, peC X n = K := ⟨_, rfl⟩
    rw [hK] at HL12 h0 ⊢
    clear hK hI hX q1 q2
    go_enter Try.func28, Try.ntmps28
    go_wp2_with fail
    refine HL12.out.mono ?_
    rintro e w1 ⟨v, rfl, hb1, hv, _⟩
    have HB1 := hide hb1
    obtain rfl := hv h0
    clear hb1 hv
    go_wp2_with fail
    go_ret2
    exact ⟨rfl, HB1.out⟩
  obtain ⟨⟨h1, h8⟩, hv, he⟩ := pe_yes h0
  obtain ⟨hai, hC, hC1, hC8⟩ := al_idx h1 hv he
  have HCE := hide (fun (w' : World) (hb : Below w.heap.size w w') => pts_cells hI hB hb h1)
  have HJT := hide (show jnT X n = jn (txK X n) (X 0).c.toNat from rfl)
  have HSZ := hide (fun (k : Nat) (hk : (lsF X n (k : Int)).length = 1) => show (txK X n k).size ≤ 400 ∧ lsF X n (k : Int) = [txK X n k] from by
    have e : lsF X n (k : Int) = [txK X n k] := by
      unfold txK
      match hl : lsF X n (k : Int), hk with
      | [a], _ => rfl
    obtain ⟨j, hj, _, ej⟩ := ls_mem n (show txK X n k ∈ lsF X n (k : Int) by rw [e]; simp)
    exact ⟨by rw [← ej]; exact (isPt_yes (hv j hj)).2.2.2, e⟩)
  have HR1 := hide (fun ho => jp_one h0 ho)
  have HR2 := hide (fun ho h3 => jp_par h0 ho h3)
  have HR3 := hide (fun ho h3 h4 => jp_long h0 ho h3 h4)
  have HR4 := hide (fun ho h3 h4 => jp_ok h0 ho h3 h4)
  unfold L12 at HL12
  rw [h0] at HL12
  obtain ⟨C, hCe⟩ : ∃ C, (X 0).c.toNat = C := ⟨_, rfl⟩
  simp only [hCe] at hC hC1 hC8 HL12 HR1 HR2 HR3 HR4 HJT
  obtain ⟨K, hK⟩ : ∃ K, jpC X n = K := ⟨_, rfl⟩
  obtain ⟨T, hT⟩ : ∃ T, jpT X n = T := ⟨_, rfl⟩
  obtain ⟨p0, hp0⟩ : ∃ p, (X 0).p = p := ⟨_, rfl⟩
  rw [hK, hT, hp0] at HR2 HR3 HR4
  rw [hK, hT] at HR1 ⊢
  have HPZ := hide hp0
  have hn0 : 0 < n := by omega
  clear hI hX hv he hai hC hCe h0 hK hT hp0
  go_enter Try.func28, Try.ntmps28
  go_wp2_with fail
  refine HL12.out.mono ?_
  rintro e w1 ⟨v, rfl, hb1, _, hv⟩
  obtain ⟨g, cc, vs, rfl, hm⟩ := hv trivial
  have HB1 := hide hb1
  have HM := hide hm
  clear hb1 hv hm
  go_wp2_with fail
  go_loopw [6, 7] (fun v i wr => SjRel w1 w1.heap.size X n C v i wr) (fun _ i _ => C - (intOf i).toNat)
  case atStart => exact ⟨0, ⟨#[]⟩, Nat.zero_le _, rfl, rfl, rfl, hide (fun j hj => absurd hj (by omega)), Nat.le_refl _, rfl⟩
  case round =>
    obtain ⟨k, q, hk, rfl, rfl, hj, ho, hqs, rfl⟩ := hrel
    have HJ := hj
    have HO := ho
    clear hj ho
    by_cases hlt : k < C
    · obtain ⟨Ar, mr, _, hcr, hor, _⟩ := HM.out.at_ hlt
      by_cases h1' : (lsF X n (k : Int)).length = 1
      · obtain ⟨hts, htl⟩ := HSZ.out k h1'
        have HJ2 := hide (show jn (txK X n) (k + 1) = q ++ txK X n k by rw [jn, HJ.out])
        have HO2 := hide (fun (j : Nat) (hj : j < k + 1) => show (lsF X n (j : Int)).length = 1 from if h : j < k then HO.out j h else by rw [show j = k by omega]; exact h1')
        rw [htl] at hcr hor
        obtain ⟨s, hs⟩ : ∃ s, txK X n k = s := ⟨_, rfl⟩
        rw [hs] at hts hcr hor HJ2
        simp only [List.length_singleton] at hcr hor
        obtain ⟨gr, cr', her, _, _, _⟩ := hor.some_ (by simp)
        simp only [List.length_singleton, Value.slice.injEq] at her
        obtain ⟨rfl, _, rfl⟩ := her
        have hcs := hor.at_ (k := 0) (s := s) rfl
        have HQZ := hide (show (q ++ s).size ≤ 400 * (k + 1) by rw [ByteArray.size_append]; omega)
        have hbig : ¬ 9223372036854775807 < q.size + s.size := by omega
        clear hor htl hs h1'
        go_wp2_with fail
        go_roundw
        case rel => exact ⟨k + 1, q ++ s, by omega, by go_num, rfl, HJ2, HO2, HQZ.out, rfl⟩
        case measure => simp [intOf]; omega
      · obtain ⟨hK, hT⟩ := HR1.out (fun ho => h1' (ho k hlt))
        obtain ⟨l, hl⟩ : ∃ l, (lsF X n (k : Int)).length = l := ⟨_, rfl⟩
        rw [hl] at hcr h1'
        have hl1 : ((l : Int) != 1) = true := by simp; omega
        have hl1z : ¬ l = 1 := h1'
        subst hK hT
        clear hor hl
        go_wp2_with fail
        go_ret2
        exact ⟨rfl, HB1.out⟩
    · obtain rfl : k = C := by omega
      have HOE := hide (show oneEach X n k from fun j hj => HO.out j hj)
      have hJ2 : jnT X n = q := HJT.out.trans HJ.out
      have HQ2 := hide (fun h3 => HR2.out HOE.out h3)
      have HQ3 := hide (fun h3 h4 => HR3.out HOE.out h3 h4)
      have HQ4 := hide (fun h3 h4 => HR4.out HOE.out h3 h4)
      rw [hJ2] at HQ2 HQ3 HQ4
      have HPA := hide (fun w => specPar q (by omega) w)
      obtain ⟨z, hz⟩ : ∃ z, parI (bytesI q) = z := ⟨_, rfl⟩
      rw [hz] at HPA HQ2 HQ3 HQ4
      obtain ⟨b0, off, rfl, hbb, e0, e1, e2, e3⟩ := HCE.out w1 HB1.out
      rw [HPZ.out] at e2
      have HE2 := hide e2
      have HE3 := hide (show w1.drew.cell? ⟨b0, off + 2, none⟩ = some (.int .i64 p0) from e2)
      clear e0 e1 e3 hJ2 hz HR1 HR2 HR3 HR4 hbb
      by_cases h3 : z = p0
      · subst h3
        have n1 : (z != z) = false := by simp
        by_cases h4 : q.size ≤ 400
        · obtain ⟨hK, hT⟩ := HQ4.out rfl h4
          have h4I : ¬ (400 : Int) < (q.size : Int) := by omega
          subst hK hT
          clear h4
          go_wp2_with fail
          go_region_held3 (fun w' => w'.cell? ⟨b0, off + 2, none⟩ = some (.int .i64 z)) (exact HE3.out) ((go_at_call 14; refine (HPA.out _).mono ?_; rintro e _ ⟨rfl, rfl⟩))
          go_wp2_with fail
          go_ret2
          exact ⟨rfl, HB1.out.drew⟩
        · obtain ⟨hK, hT⟩ := HQ3.out rfl h4
          have h4I : (400 : Int) < (q.size : Int) := by omega
          subst hK hT
          clear h4
          go_wp2_with fail
          go_region_held3 (fun w' => w'.cell? ⟨b0, off + 2, none⟩ = some (.int .i64 z)) (exact HE3.out) ((go_at_call 14; refine (HPA.out _).mono ?_; rintro e _ ⟨rfl, rfl⟩))
          go_wp2_with fail
          go_ret2
          exact ⟨rfl, HB1.out.drew⟩
      · obtain ⟨hK, hT⟩ := HQ2.out h3
        subst hK hT
        have n1 : (z != p0) = true := by simpa using h3
        clear h3
        go_wp2_with fail
        go_region_held3 (fun w' => w'.cell? ⟨b0, off + 2, none⟩ = some (.int .i64 p0)) (exact HE3.out) ((go_at_call 14; refine (HPA.out _).mono ?_; rintro e _ ⟨rfl, rfl⟩))
        go_wp2_with fail
        go_ret2
        exact ⟨rfl, HB1.out.drew⟩
end Go.Proofs.Ythbmfaogjaahoaa
