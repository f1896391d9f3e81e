/-
  The model's reading of a segment.
  Condition: as each statement says.
-/
import Derived.Test.YthmpfnbcodolcaaRd1
import Derived.Test.YthmpfnbcodolcaaSg9
import Derived.Test.YthmpfnbcodolcaaSpecIn
import Derived.Test.YthmpfnbcodolcaaDrawK
import Derived.Test.YthmpfnbcodolcaaLawKit
import Derived.Test.YthmpfnbcodolcaaTail2
namespace Go.Proofs.Ythmpfnbcodolcaa
open Go Go.RowKit
set_option linter.unusedSimpArgs false
set_option linter.unusedVariables false

set_option maxRecDepth 100000 in
set_option maxHeartbeats 1000000 in
theorem specChar (m : Int) (hm : 1 ≤ m ∧ m ≤ 4) (x : Nat) (hx : x < gbase m) (w : World) :
    Calls Try.prog 93 #[.int .i64 m, .int .i64 x] w fun e w' => e = .returned (.int .u8 (chr m (x : Int))) ∧ w' = w := by
  by_cases h4 : m = 4
  · subst h4
    have hx' : x < 256 := hx
    have hw : IntKind.u8.wrap (x : Int) = (x : Int) := by rw [IntKind.wrap_u8]; omega
    have HC := hide (show chr 4 (x : Int) = (x : Int) from rfl)
    rw [HC.out]
    clear hx HC
    go_enter Try.func93, Try.ntmps93
    go_wp2_with fail
    go_ret
    exact ⟨rfl, rfl⟩
  · have e4 : (m == 4) = false := by simpa using h4
    have hm3 : m = 1 ∨ m = 2 ∨ m = 3 := by omega
    have hxs : x < (stS m).size := by rw [stS_size hm3]; exact hx
    obtain ⟨q, hq, hq2, hq0, hq1⟩ := byteAt (stS m) hxs
    have HC := hide (show chr m (x : Int) = q by
      rw [chr, if_neg h4, List.getD_eq_getElem?_getD, Int.toNat_natCast, ← stS_chars hm3, hq2]; rfl)
    have HSET := hide (specSet m)
    obtain ⟨st, hst⟩ : ∃ st, stS m = st := ⟨_, rfl⟩
    subst hst
    rw [HC.out]
    have hxI : (x : Int) < ((stS m).size : Int) := by omega
    clear hq2 hm3 h4 hx HC
    go_enter Try.func93, Try.ntmps93
    go_wp2_with fail
    refine (HSET.out _).mono ?_
    rintro e wz ⟨rfl, hwz⟩
    rw [hwz]
    clear hwz
    go_wp2_with fail
    go_ret
    exact ⟨rfl, rfl⟩

/-- The box of a segment is written anew. -/
theorem SBox.put {w wr : World} {t : TypeId} {m : Int} {s : ByteArray} (h : SBox w wr t m s) (m' : Int) (s' : ByteArray) : SBox w ((wr.setCell ⟨w.heap.size, 0, none⟩ (.int .i64 m')).setCell ⟨w.heap.size, 1, none⟩ (.string s')) t m' s' := by
  refine ⟨?_, (h.2.setCell (p := ⟨w.heap.size, 0, none⟩) (Nat.le_refl _) _).setCell (p := ⟨w.heap.size, 1, none⟩) (Nat.le_refl _) _⟩
  have h1 := heap_setCell_same wr w.heap.size 0 _ _ (.int .i64 m') h.1
  exact heap_setCell_same _ w.heap.size 1 _ _ (.string s') h1
def RdIn (w : World) (g cc S : Nat) (M : Int) (v : Nat) (tx : List Int) (vt nu k : Value) (wr : World) : Prop :=
  ∃ t u : Nat, t ≤ cc ∧ nu = .int .i64 u ∧ Hid (v / S ^ t = u) ∧ u ≤ 2048 ∧ k = .int .i64 ((cc : Int) - 1 - (t : Int)) ∧ Own wr g 5 .u8 (.slice (some ⟨g, 0, none⟩) cc cc) (List.replicate (cc - t) 0 ++ dgN S M v t) ∧ Own wr (w.heap.size + 1) 5 .u8 vt tx ∧ SBox w wr 26 0 ⟨#[]⟩ ∧ ((Value.slice (some ⟨g, 0, none⟩) cc cc).ownBlock = none ∨ (Value.slice (some ⟨g, 0, none⟩) cc cc).ownBlock ≠ vt.ownBlock)
def RdOut (w : World) (zs : List Int) (p11 q : Nat) (M : Int) (N G : Nat) (pp v i : Value) (wr : World) : Prop :=
  ∃ j p : Nat, j ≤ gct G N ∧ i = .int .i64 (j * G : Nat) ∧ pp = .int .i64 p ∧ Hid (j < gct G N → p = p11 + j * wid M G) ∧ Hid (j = gct G N → p = q) ∧ Own wr (w.heap.size + 1) 5 .u8 v (rdT zs p11 M N j) ∧ Hid (rdOk zs p11 M N j) ∧ SBox w wr 26 0 ⟨#[]⟩
def rdM0 (zs : List Int) (a : Nat) : Int := numVal ((zs.drop a).take 3)
def rdN0 (zs : List Int) (a : Nat) : Nat := (numVal ((zs.drop (a + 3)).take 8)).toNat
/-- A valid segment begins at index a. -/
def RdIs (zs : List Int) (a : Nat) : Prop := a + 11 ≤ zs.length ∧ 1 ≤ rdM0 zs a ∧ rdM0 zs a ≤ 4 ∧ 1 ≤ rdN0 zs a ∧ a + slen (rdM0 zs a) (rdN0 zs a) ≤ zs.length ∧ rdOk zs (a + 11) (rdM0 zs a) (rdN0 zs a) (gct (gsz (rdM0 zs a)) (rdN0 zs a))
open Classical in
noncomputable def rdB (zs : List Int) (a : Nat) : Bool := decide (RdIs zs a)
noncomputable def rdM (zs : List Int) (a : Nat) : Int := if rdB zs a then rdM0 zs a else 0
noncomputable def rdS (zs : List Int) (a : Nat) : ByteArray := if rdB zs a then strOf (rdT zs (a + 11) (rdM0 zs a) (rdN0 zs a) (gct (gsz (rdM0 zs a)) (rdN0 zs a))) else ⟨#[]⟩
noncomputable def rdE (zs : List Int) (a : Nat) : Int := if rdB zs a then ((a + slen (rdM0 zs a) (rdN0 zs a) : Nat) : Int) else 0
theorem rd_no {zs : List Int} {a : Nat} (h : ¬ RdIs zs a) : rdB zs a = false ∧ rdM zs a = 0 ∧ rdS zs a = ⟨#[]⟩ ∧ rdE zs a = 0 := by
  have hb : rdB zs a = false := by unfold rdB; exact @decide_eq_false _ (Classical.propDecidable _) h
  refine ⟨hb, ?_, ?_, ?_⟩
  · unfold rdM; rw [hb]; rfl
  · unfold rdS; rw [hb]; rfl
  · unfold rdE; rw [hb]; rfl
theorem rd_yes {zs : List Int} {a : Nat} (h : RdIs zs a) : rdB zs a = true ∧ rdM zs a = rdM0 zs a ∧ rdS zs a = strOf (rdT zs (a + 11) (rdM0 zs a) (rdN0 zs a) (gct (gsz (rdM0 zs a)) (rdN0 zs a))) ∧ rdE zs a = ((a + slen (rdM0 zs a) (rdN0 zs a) : Nat) : Int) := by
  have hb : rdB zs a = true := by unfold rdB; exact @decide_eq_true _ (Classical.propDecidable _) h
  refine ⟨hb, ?_, ?_, ?_⟩
  · unfold rdM; rw [hb]; rfl
  · unfold rdS; rw [hb]; rfl
  · unfold rdE; rw [hb]; rfl
/-- What the model's reading leaves. -/
def RdPost (zs : List Int) (a : Nat) (w : World) (x : Ending) (w' : World) : Prop :=
  x = .returned (.tuple #[.agg #[.int .i64 (rdM zs a), .string (rdS zs a)], .int .i64 (rdE zs a), .bool (rdB zs a)]) ∧ Below w.heap.size w w'
theorem rd_post_no {zs : List Int} {a : Nat} (h : ¬ RdIs zs a) {w w' : World} (hb : Below w.heap.size w w') : RdPost zs a w (.returned (.tuple #[.agg #[.int .i64 0, .string ⟨#[]⟩], .int .i64 0, .bool false])) w' := by
  obtain ⟨h1, h2, h3, h4⟩ := rd_no h
  exact ⟨by rw [h1, h2, h3, h4], hb⟩

set_option maxRecDepth 100000 in
set_option maxHeartbeats 4000000 in
theorem specL9 (A : Option Addr) (n0 c B : Nat) (zs : List Int) (a : Nat) (w : World) (hI : Ints .i64 w B A n0 zs) (hB : B ≤ w.heap.size) (hn : n0 ≤ 8192) (ha : a ≤ n0) (hbt : ∀ x ∈ zs, x = 0 ∨ x = 1) :
    Calls Try.prog 58 #[.slice A n0 c, .int .i64 a] w (RdPost zs a w) := by
  have HI := hide hI
  have hl := hide hI.len
  have HBT := hide hbt
  have HX := hide (SBox.start w 26 0 ⟨#[]⟩)
  obtain ⟨c0, c1⟩ := HX.out.cells
  have hfz : ∀ i, (w.alloc (.cells #[.int .i64 0, .string ⟨#[]⟩] 26)).frozen? ⟨w.heap.size, i, none⟩ = false := fun i => frozen_of_row _ w.heap.size i _ _ HX.out.1
  clear hI hbt
  obtain ⟨p3, hp3⟩ : ∃ p3, a + 3 = p3 := ⟨_, rfl⟩
  obtain ⟨p11, hp11⟩ : ∃ p11, a + 11 = p11 := ⟨_, rfl⟩
  have HP3 := hide hp3
  have HP11 := hide hp11
  have hw1 : IntKind.i64.wrap ((a : Int) + 3) = (p3 : Int) := by rw [IntWalk.i64_in _ ⟨by omega, by omega⟩]; omega
  have hw2 : IntKind.i64.wrap ((p3 : Int) + 8) = (p11 : Int) := by rw [IntWalk.i64_in _ ⟨by omega, by omega⟩]; omega
  by_cases h11 : n0 < p11
  · have HF := hide (fun w' hb => rd_post_no (zs := zs) (a := a) (w := w) (w' := w') (fun h => by have := h.1; rw [hl.out] at this; omega) hb)
    have z1 : (n0 : Int) < (p11 : Int) := by omega
    clear hp3 hp11
    go_enter Try.func58, Try.ntmps58
    go_wp2_with fail
    exact bodyPost_ret (v := .tuple #[.agg #[.int .i64 0, .string ⟨#[]⟩], .int .i64 0, .bool false]) (by simp [results, Try.results58, go_sem, c0, c1]) rfl (HF.out _ HX.out.2)
  have z1 : ¬ (n0 : Int) < (p11 : Int) := by omega
  have HNM := hide (fun lo wd w hI hwd hlo => specNumber A n0 c B lo wd zs w hI (by omega) hwd hlo HBT.out)
  obtain ⟨hm1, hm2⟩ := num_nat HBT.out a 3
  obtain ⟨hm3, hm4⟩ := num_nat HBT.out p3 8
  obtain ⟨M, hM⟩ : ∃ M, numVal ((zs.drop a).take 3) = M := ⟨_, rfl⟩
  obtain ⟨N, hN⟩ : ∃ N, (numVal ((zs.drop p3).take 8)).toNat = N := ⟨_, rfl⟩
  have HM := hide hM
  have HN := hide hN
  rw [hM] at hm1 hm2
  rw [hN] at hm3 hm4
  have hn255 : N ≤ 255 := by omega
  have hM7 : 0 ≤ M ∧ M ≤ 7 := by omega
  have HS1 := hide (fun w hI => HNM.out a 3 w hI (by omega) (by omega))
  have HS2 := hide (fun w hI => HNM.out p3 8 w hI (by omega) (by omega))
  rw [hM] at HS1
  rw [hm3] at HS2
  have HRM := hide (show rdM0 zs a = M from hM)
  have HRN := hide (show rdN0 zs a = N by unfold rdN0; rw [hp3]; exact hN)
  clear hp3 hp11 hm1 hm2 hm3 hm4 hM hN
  by_cases hm : 1 ≤ M ∧ M ≤ 4
  case neg =>
    have HF := hide (fun w' hb => rd_post_no (zs := zs) (a := a) (w := w) (w' := w') (fun h => hm (by rw [← HRM.out]; exact ⟨h.2.1, h.2.2.1⟩)) hb)
    have hm' : M < 1 ∨ 4 < M := by omega
    go_enter Try.func58, Try.ntmps58
    go_wp2_with fail
    refine (HS1.out _ (HI.out.below (HX.out.2.mono hB))).mono ?_
    rintro e _ ⟨rfl, rfl⟩
    go_wp2_with fail
    refine (HS2.out _ (HI.out.below (HX.out.2.mono hB))).mono ?_
    rintro e _ ⟨rfl, rfl⟩
    go_wp2_with fail
    refine (specIn_no M 1 4 _ hm').mono ?_
    rintro e _ ⟨rfl, rfl⟩
    go_wp2_with fail
    exact bodyPost_ret (v := .tuple #[.agg #[.int .i64 0, .string ⟨#[]⟩], .int .i64 0, .bool false]) (by simp [results, Try.results58, go_sem, c0, c1]) rfl (HF.out _ HX.out.2)
  by_cases hN1 : N = 0
  case pos =>
    have HF := hide (fun w' hb => rd_post_no (zs := zs) (a := a) (w := w) (w' := w') (fun h => by have := h.2.2.2.1; rw [HRN.out] at this; omega) hb)
    subst hN1
    go_enter Try.func58, Try.ntmps58
    go_wp2_with fail
    refine (HS1.out _ (HI.out.below (HX.out.2.mono hB))).mono ?_
    rintro e _ ⟨rfl, rfl⟩
    go_wp2_with fail
    refine (HS2.out _ (HI.out.below (HX.out.2.mono hB))).mono ?_
    rintro e _ ⟨rfl, rfl⟩
    go_wp2_with fail
    refine (specIn_yes M 1 4 _ hm.1 hm.2).mono ?_
    rintro e _ ⟨rfl, rfl⟩
    go_wp2_with fail
    exact bodyPost_ret (v := .tuple #[.agg #[.int .i64 0, .string ⟨#[]⟩], .int .i64 0, .bool false]) (by simp [results, Try.results58, go_sem, c0, c1]) rfl (HF.out _ HX.out.2)
  have hN0 : ¬ (N : Int) = 0 := by omega
  have hNb : ((N : Int) == 0) = false := by simpa using hN1
  have HL := hide (specLength M hm N hn255)
  obtain ⟨T, hT⟩ : ∃ T, slen M N = T := ⟨_, rfl⟩
  have HT := hide hT
  have hTb : T ≤ 2827 := by rw [← hT]; have := twid_le (m := M) hn255; unfold slen; omega
  rw [hT] at HL
  obtain ⟨q, hq⟩ : ∃ q, a + T = q := ⟨_, rfl⟩
  have HQ := hide hq
  have hw3 : IntKind.i64.wrap ((a : Int) + (T : Int)) = (q : Int) := by rw [IntWalk.i64_in _ ⟨by omega, by omega⟩]; omega
  clear hT hq
  by_cases hlong : n0 < q
  case pos =>
    have HF := hide (fun w' hb => rd_post_no (zs := zs) (a := a) (w := w) (w' := w') (fun h => by have := h.2.2.2.2.1; rw [HRM.out, HRN.out, HT.out, hl.out] at this; have := HQ.out; omega) hb)
    have z2 : (n0 : Int) < (q : Int) := by omega
    go_enter Try.func58, Try.ntmps58
    go_wp2_with fail
    refine (HS1.out _ (HI.out.below (HX.out.2.mono hB))).mono ?_
    rintro e _ ⟨rfl, rfl⟩
    go_wp2_with fail
    refine (HS2.out _ (HI.out.below (HX.out.2.mono hB))).mono ?_
    rintro e _ ⟨rfl, rfl⟩
    go_wp2_with fail
    refine (specIn_yes M 1 4 _ hm.1 hm.2).mono ?_
    rintro e _ ⟨rfl, rfl⟩
    go_wp2_with fail
    refine (HL.out _).mono ?_
    rintro e w1 ⟨rfl, hb1⟩
    have HX1 := hide (HX.out.next hb1)
    clear hb1 c0 c1
    obtain ⟨c0, c1⟩ := HX1.out.cells
    have f0 := frozen_of_row w1 w.heap.size 0 _ _ HX1.out.1
    have f1 := frozen_of_row w1 w.heap.size 1 _ _ HX1.out.1
    have HXp := hide (HX1.out.put 0 ⟨#[]⟩)
    go_wp2_with fail
    obtain ⟨d0, d1⟩ := HXp.out.cells
    exact bodyPost_ret (v := .tuple #[.agg #[.int .i64 0, .string ⟨#[]⟩], .int .i64 0, .bool false]) (by simp [results, Try.results58, go_sem, d0, d1]) rfl (HF.out _ HXp.out.2)
  -- MAIN
  have z2 : ¬ (n0 : Int) < (q : Int) := by omega
  have HGR := hide (specGroup M hm)
  rw [sb_is] at HGR
  have hg1 := gsz_pos M
  have hg3 := gsz_le M
  have HGS := hide (fun (cc : Nat) (v : Nat) h1 h2 h3 => sb_dg (m := M) hm (c := cc) (v := v) h1 h2 h3)
  have HWA := hide (fun cc h1 h2 => specWidth M hm cc h1 h2)
  have HGE := hide (fun j hj => gp_end (m := M) (n := N) (j := j) hj)
  have HGL := hide (fun j hj => gp_last (m := M) (n := N) (by omega) (j := j) hj)
  have HTW := hide (show T = 11 + twid M N by rw [← HT.out]; rfl)
  obtain ⟨G, hG⟩ : ∃ G, gsz M = G := ⟨_, rfl⟩
  obtain ⟨S, hS⟩ : ∃ S, sbN M = S := ⟨_, rfl⟩
  have hS1 : 1 ≤ S ∧ S ≤ 256 := by rw [← hS]; unfold sbN; (repeat' split) <;> omega
  have HGG := hide hG
  have HSS := hide hS
  rw [hG, hS] at HGR
  rw [hS] at HGS
  rw [hG] at hg1 hg3 HGE HGL
  clear hG hS
  go_enter Try.func58, Try.ntmps58
  go_wp2_with fail
  refine (HS1.out _ (HI.out.below (HX.out.2.mono hB))).mono ?_
  rintro e _ ⟨rfl, rfl⟩
  go_wp2_with fail
  refine (HS2.out _ (HI.out.below (HX.out.2.mono hB))).mono ?_
  rintro e _ ⟨rfl, rfl⟩
  go_wp2_with fail
  refine (specIn_yes M 1 4 _ hm.1 hm.2).mono ?_
  rintro e _ ⟨rfl, rfl⟩
  go_wp2_with fail
  refine (HL.out _).mono ?_
  rintro e w1 ⟨rfl, hb1⟩
  have HX1 := hide (HX.out.next hb1)
  clear hb1 c0 c1
  go_wp2_with fail
  refine (HGR.out _).mono ?_
  rintro e wz ⟨rfl, hwz⟩
  rw [hwz]
  clear hwz
  go_wp2_with fail
  have HO1 := hide (Own.lit0 w1 5 .u8)
  have HX1' := hide (HX1.out.alloc (.cells #[] 5))
  go_loopw [1, 12, 13] (fun pp v i wr => RdOut w zs p11 q M N G pp v i wr) (fun _ _ i _ => N - (intOf i).toNat)
  case atStart => exact ⟨0, p11, Nat.zero_le _, by simp, rfl, hide (fun _ => by simp), hide (fun h => by have := (gct_lt hg1 (n := N) (j := 0)).2 (by omega); omega), HO1.out.low HX1.out.lt, hide (fun i hi => absurd hi (by omega)), HX1'.out⟩
  case round =>
    clear HO1 HX1'
    obtain ⟨vt, hvt⟩ : ∃ v, v = u12 := ⟨_, rfl⟩
    subst hvt
    obtain ⟨j, pp, hj, rfl, rfl, hp1, hp2, hO, hok, hX⟩ := hrel
    have HOr := hide hO
    have HXr := hide hX
    have HOK := hok
    have HP1 := hp1
    have HP2 := hp2
    clear hO hX hok hp1 hp2
    by_cases hlt : j * G < N
    · have hjl := (gct_lt hg1 (n := N) (j := j)).2 hlt
      have hpp := HP1.out hjl
      obtain ⟨cc, hcc⟩ : ∃ cc, glN M N j = cc := ⟨_, rfl⟩
      have hmin : min G (N - j * G) = cc := by rw [← hcc, glN, HGG.out]
      have hc1 : 1 ≤ cc := by omega
      have hcG : cc ≤ G := by omega
      have HWD := hide (HWA.out cc hc1 (by rw [HGG.out]; exact hcG))
      have hwl := wid_le M cc
      have hge := HGE.out j hjl
      rw [hcc] at hge
      have HVN := hide (show gvN zs p11 M N j = (numVal ((zs.drop pp).take (wid M cc))).toNat by unfold gvN gpN; rw [hcc, hpp, HGG.out])
      obtain ⟨hv1, hv2⟩ := num_nat HBT.out pp (wid M cc)
      have HNJ := hide (fun w hI => HNM.out pp (wid M cc) w hI (by omega) (by rw [hpp]; have := HTW.out; have := HQ.out; have := HP11.out; omega))
      obtain ⟨v, hve⟩ : ∃ v, (numVal ((zs.drop pp).take (wid M cc))).toNat = v := ⟨_, rfl⟩
      rw [hv1] at HNJ
      rw [hve] at HNJ HVN hv2
      have HDG := hide (HGS.out cc v hc1 (by rw [HGG.out]; exact hcG) hv2)
      have hv : v ≤ 2048 := by have : (2 : Nat) ^ wid M cc ≤ 2 ^ 11 := Nat.pow_le_pow_right (by omega) hwl; omega
      obtain ⟨Wd, hWd⟩ : ∃ Wd, wid M cc = Wd := ⟨_, rfl⟩
      rw [hWd] at HWD HNJ hge hwl
      have HWd := hide hWd
      have hpb : pp + Wd ≤ n0 := by rw [hpp]; have := HTW.out; have := HQ.out; have := HP11.out; omega
      have hwp : IntKind.i64.wrap ((pp : Int) + (Wd : Int)) = ((pp + Wd : Nat) : Int) := by rw [IntWalk.i64_in _ ⟨by omega, by omega⟩]; omega
      obtain ⟨p2, hp2e⟩ : ∃ p2, pp + Wd = p2 := ⟨_, rfl⟩
      rw [hp2e] at hwp hpb
      have HP2e := hide hp2e
      obtain ⟨x, hx⟩ : ∃ x, j * G = x := ⟨_, rfl⟩
      have HXX := hide hx
      have HCC := hide hcc
      have hws : IntKind.i64.wrap ((N : Int) - (x : Int)) = ((N - x : Nat) : Int) := by rw [IntWalk.i64_in _ ⟨by omega, by omega⟩]; omega
      rw [hx] at hlt hmin ⊢
      obtain ⟨r, hr⟩ : ∃ r, N - x = r := ⟨_, rfl⟩
      rw [hr] at hmin hws
      have hwc : IntKind.i64.wrap ((cc : Int) - 1) = (cc : Int) - 1 := IntWalk.i64_in _ ⟨by omega, by omega⟩
      have hxr : x + r = N := by omega
      clear hv1 hv2 hve hWd hp2e hx hcc hpp hr hge
      go_wp2_with fail
      · obtain rfl : cc = r := by omega
        skip
        go_wp2_with fail
        refine (HWD.out _).mono ?_
        rintro e w2 ⟨rfl, hb2⟩
        have HX2 := hide (HXr.out.next hb2)
        have HO2 := hide (HOr.out.below hb2 (Nat.le_refl _))
        clear hb2
        go_wp2_with fail
        refine (HNJ.out _ (HI.out.below (HX2.out.2.mono hB))).mono ?_
        rintro e _ ⟨rfl, rfl⟩
        go_wp2_with (at_make; refine wpList_mkN _ rfl _ _ _ rfl elem8 .i64 .i64 _ _ cc rfl rfl rfl rfl (by omega) ?_; intro w4 hown hbel; have HG4 := hide hown; have HX4 := hide (HX2.out.next hbel); have HO4 := hide (HO2.out.below hbel (Nat.le_refl _)); have hg4 := hide HX2.out.2.size; have hgt := hide (HX2.out.lt); have hne4 := hide (HO2.out.ne' hown (Nat.le_refl _)); clear hown hbel)
        go_loopw [16, 18] (fun nu k wr => RdIn w w2.heap.size cc S M v (rdT zs p11 M N j) vt nu k wr) (fun _ k _ => (intOf k + 1).toNat)
        case atStart => exact ⟨0, v, by omega, rfl, by simp [Hid], hv, by simp, by simpa [dgN] using HG4.out, HO4.out, HX4.out, hne4.out⟩
        case round =>
          clear HG4 HX4 HO4 hne4
          obtain ⟨t, u, ht, rfl, hu, hu2, rfl, hG, hO, hX, hne⟩ := hrel
          have HU := hu
          have HG5 := hide hG
          have HO5 := hide hO
          have HX5 := hide hX
          have HN5 := hide hne
          clear hu hG hO hX hne
          by_cases htc : t < cc
          · obtain ⟨kk, hkk⟩ : ∃ kk, kk + t + 1 = cc := ⟨cc - t - 1, by omega⟩
            have hkI : (cc : Int) - 1 - (t : Int) = (kk : Int) := by omega
            have hx3 := HDG.out.2.2 t htc
            rw [HU.out] at hx3
            have htm : (u : Int).tmod (S : Int) = ((u % S : Nat) : Int) := by rw [Int.tmod_eq_emod_of_nonneg (by omega)]; rfl
            have hle := Nat.div_le_self u S
            obtain ⟨u2, hu2e⟩ : ∃ u2, u / S = u2 := ⟨_, rfl⟩
            have htd : IntKind.i64.wrap ((u : Int) / (S : Int)) = (u2 : Int) := by
              rw [show ((u : Int) / (S : Int)) = (u2 : Int) by rw [← hu2e]; rfl]
              rw [hu2e] at hle
              exact IntWalk.i64_in _ ⟨by omega, by omega⟩
            have HU2 := hide (show v / S ^ (t + 1) = u2 by rw [Nat.pow_succ, ← Nat.div_div_eq_div_mul, HU.out]; exact hu2e)
            have HCH := hide (fun w => specChar M hm (u % S) hx3 w)
            have HCB := hide (show dgN S M v (t + 1) = chr M ((u % S : Nat) : Int) :: dgN S M v t by rw [dgN, HU.out])
            obtain ⟨y, hy⟩ : ∃ y, chr M ((u % S : Nat) : Int) = y := ⟨_, rfl⟩
            obtain ⟨x3, hx3e⟩ : ∃ x3, u % S = x3 := ⟨_, rfl⟩
            rw [hu2e] at hle
            rw [hy] at HCH HCB
            rw [hx3e] at htm HCH
            have hS0 : ¬ (S : Int) = 0 := by omega
            have hwk : IntKind.i64.wrap ((kk : Int) - 1) = (kk : Int) - 1 := IntWalk.i64_in _ ⟨by omega, by omega⟩
            have e0 : wr.cell? ⟨w2.heap.size, kk, none⟩ = some (.int .u8 0) := HG5.out.cellAt (by
              rw [List.getElem?_append_left (by simp; omega), List.getElem?_replicate, if_pos (by omega)])
            have f0 := HG5.out.frozenAt kk
            obtain ⟨g1, g2⟩ := HG5.out.stored kk y
            have HG6 := hide g1
            have HO6 := hide (HO5.out.grown g2 (by
              rcases HN5.out with h | h
              · cases h
              · exact .inr (fun e => h e.symm)))
            have HX6 := hide (HX5.out.grow' g2 (fun b hb => by cases hb; exact hgt.out))
            have HLS := hide (show (List.replicate (cc - t) 0 ++ dgN S M v t).set kk y = List.replicate (cc - (t + 1)) 0 ++ dgN S M v (t + 1) by
              rw [HCB.out, show cc - t = kk + 1 by omega, show cc - (t + 1) = kk by omega, List.replicate_succ', List.append_assoc, List.set_append_right _ _ (by simp)]
              simp)
            have hkn : kk < cc := by omega
            rw [hkI]
            clear hu2e hy hx3e hx3 g1 g2 HG5 HO5 HX5
            go_wp2_with fail
            refine (HCH.out _).mono ?_
            rintro e wz ⟨rfl, hwz⟩
            rw [hwz]
            clear hwz
            go_wp2_with fail
            go_roundw
            case rel => exact ⟨t + 1, u2, by omega, rfl, HU2.out, by omega, by go_num, by rw [← HLS.out]; exact HG6.out, HO6.out, HX6.out, HN5.out⟩
            case measure => simp [intOf]
          · obtain rfl : t = cc := by omega
            have hkI : (t : Int) - 1 - (t : Int) = -1 := by omega
            have HGA := hide (show List.replicate (t - t) 0 ++ dgN S M v t = dgN S M v t by simp)
            rw [HGA.out] at HG5
            rw [hkI]
            by_cases hu0 : u = 0
            · subst hu0
              have HVL := hide (show gvN zs p11 M N j < glim M (glN M N j) by rw [HVN.out, HCC.out]; exact HDG.out.2.1.1 HU.out)
              have HTJ := hide (show rdT zs p11 M N (j + 1) = rdT zs p11 M N j ++ dgN S M v t by rw [rdT, HVN.out, HCC.out, HDG.out.1])
              have HIG := hide (HG5.out.ints' (dgN_len _ _ _ _))
              have hlt8 : (rdT zs p11 M N j).length ≤ 255 := by rw [rdT_len _ _ _ _ j (by rw [HGG.out]; exact hj)]; omega
              have hbz := hide HX5.out.lt
              have hwi : IntKind.i64.wrap ((x : Int) + (G : Int)) = ((x + G : Nat) : Int) := by rw [IntWalk.i64_in _ ⟨by omega, by omega⟩]; omega
              obtain ⟨tx, htx⟩ : ∃ tx, rdT zs p11 M N j = tx := ⟨_, rfl⟩
              rw [htx] at HO5 HTJ hlt8
              obtain ⟨ng, hng⟩ : ∃ ng, dgN S M v t = ng := ⟨_, rfl⟩
              rw [hng] at HTJ HIG
              obtain ⟨xG, hxG⟩ : ∃ xG, x + G = xG := ⟨_, rfl⟩
              rw [hxG] at hwi
              have HXG := hide hxG
              clear htx hng hxG
              go_wp2_with (at_builtin; refine wpList_appL _ rfl _ _ _ rfl elem8 (w.heap.size + 1) vt tx rfl HO5.out _ _ t t ng rfl HIG.out (by omega) hbz.out ?_; intro v7 w7 hown hgr; have HO7 := hide hown; have HX7 := hide (HX5.out.grow' hgr (fun b hb => (HO5.out.lt hb).1)); clear hown hgr)
              go_roundw
              case rel => exact ⟨j + 1, p2, hjl, by rw [← HXG.out, Nat.add_mul, Nat.one_mul, HXX.out], rfl, hide (fun h => by
                have h1 := glN_full (m := M) (n := N) (j := j) (by rw [HGG.out]; exact h)
                rw [HCC.out, HGG.out] at h1
                rw [← HP2e.out, HP1.out hjl, ← HWd.out, h1, Nat.add_mul, Nat.one_mul, Nat.add_assoc]), hide (fun h => by
                have h1 := HGL.out j h
                rw [HCC.out, HWd.out] at h1
                have h2 := HP1.out hjl
                try rw [HWd.out] at h2
                have h3 := HP2e.out; have h4 := HQ.out; have h5 := HTW.out; have h6 := HP11.out
                omega), by rw [HTJ.out]; exact HO7.out, hide (rdOk_next HOK.out HVL.out), HX7.out⟩
              case measure => have := HXG.out; simp [intOf]; omega
            · have hup : (0 : Int) < (u : Int) := by omega
              have HF := hide (fun w' hb => rd_post_no (zs := zs) (a := a) (w := w) (w' := w') (fun h => by
                have h5 := h.2.2.2.2.2
                rw [HRM.out, HRN.out, HP11.out, HGG.out] at h5
                have h6 := h5 j hjl
                rw [HVN.out, HCC.out] at h6
                exact hu0 (HU.out.symm.trans (HDG.out.2.1.2 h6))) hb)
              obtain ⟨c0, c1⟩ := HX5.out.cells
              have f0 := frozen_of_row wr w.heap.size 0 _ _ HX5.out.1
              have f1 := frozen_of_row wr w.heap.size 1 _ _ HX5.out.1
              have HXp := hide (HX5.out.put 0 ⟨#[]⟩)
              go_wp2_with fail
              obtain ⟨d0, d1⟩ := HXp.out.cells
              exact bodyPost_ret (v := .tuple #[.agg #[.int .i64 0, .string ⟨#[]⟩], .int .i64 0, .bool false]) (by simp [results, Try.results58, go_sem, d0, d1]) rfl (HF.out _ HXp.out.2)
      · obtain rfl : cc = G := by omega
        skip
        go_wp2_with fail
        refine (HWD.out _).mono ?_
        rintro e w2 ⟨rfl, hb2⟩
        have HX2 := hide (HXr.out.next hb2)
        have HO2 := hide (HOr.out.below hb2 (Nat.le_refl _))
        clear hb2
        go_wp2_with fail
        refine (HNJ.out _ (HI.out.below (HX2.out.2.mono hB))).mono ?_
        rintro e _ ⟨rfl, rfl⟩
        go_wp2_with (at_make; refine wpList_mkN _ rfl _ _ _ rfl elem8 .i64 .i64 _ _ cc rfl rfl rfl rfl (by omega) ?_; intro w4 hown hbel; have HG4 := hide hown; have HX4 := hide (HX2.out.next hbel); have HO4 := hide (HO2.out.below hbel (Nat.le_refl _)); have hg4 := hide HX2.out.2.size; have hgt := hide (HX2.out.lt); have hne4 := hide (HO2.out.ne' hown (Nat.le_refl _)); clear hown hbel)
        go_loopw [16, 18] (fun nu k wr => RdIn w w2.heap.size cc S M v (rdT zs p11 M N j) vt nu k wr) (fun _ k _ => (intOf k + 1).toNat)
        case atStart => exact ⟨0, v, by omega, rfl, by simp [Hid], hv, by simp, by simpa [dgN] using HG4.out, HO4.out, HX4.out, hne4.out⟩
        case round =>
          clear HG4 HX4 HO4 hne4
          obtain ⟨t, u, ht, rfl, hu, hu2, rfl, hG, hO, hX, hne⟩ := hrel
          have HU := hu
          have HG5 := hide hG
          have HO5 := hide hO
          have HX5 := hide hX
          have HN5 := hide hne
          clear hu hG hO hX hne
          by_cases htc : t < cc
          · obtain ⟨kk, hkk⟩ : ∃ kk, kk + t + 1 = cc := ⟨cc - t - 1, by omega⟩
            have hkI : (cc : Int) - 1 - (t : Int) = (kk : Int) := by omega
            have hx3 := HDG.out.2.2 t htc
            rw [HU.out] at hx3
            have htm : (u : Int).tmod (S : Int) = ((u % S : Nat) : Int) := by rw [Int.tmod_eq_emod_of_nonneg (by omega)]; rfl
            have hle := Nat.div_le_self u S
            obtain ⟨u2, hu2e⟩ : ∃ u2, u / S = u2 := ⟨_, rfl⟩
            have htd : IntKind.i64.wrap ((u : Int) / (S : Int)) = (u2 : Int) := by
              rw [show ((u : Int) / (S : Int)) = (u2 : Int) by rw [← hu2e]; rfl]
              rw [hu2e] at hle
              exact IntWalk.i64_in _ ⟨by omega, by omega⟩
            have HU2 := hide (show v / S ^ (t + 1) = u2 by rw [Nat.pow_succ, ← Nat.div_div_eq_div_mul, HU.out]; exact hu2e)
            have HCH := hide (fun w => specChar M hm (u % S) hx3 w)
            have HCB := hide (show dgN S M v (t + 1) = chr M ((u % S : Nat) : Int) :: dgN S M v t by rw [dgN, HU.out])
            obtain ⟨y, hy⟩ : ∃ y, chr M ((u % S : Nat) : Int) = y := ⟨_, rfl⟩
            obtain ⟨x3, hx3e⟩ : ∃ x3, u % S = x3 := ⟨_, rfl⟩
            rw [hu2e] at hle
            rw [hy] at HCH HCB
            rw [hx3e] at htm HCH
            have hS0 : ¬ (S : Int) = 0 := by omega
            have hwk : IntKind.i64.wrap ((kk : Int) - 1) = (kk : Int) - 1 := IntWalk.i64_in _ ⟨by omega, by omega⟩
            have e0 : wr.cell? ⟨w2.heap.size, kk, none⟩ = some (.int .u8 0) := HG5.out.cellAt (by
              rw [List.getElem?_append_left (by simp; omega), List.getElem?_replicate, if_pos (by omega)])
            have f0 := HG5.out.frozenAt kk
            obtain ⟨g1, g2⟩ := HG5.out.stored kk y
            have HG6 := hide g1
            have HO6 := hide (HO5.out.grown g2 (by
              rcases HN5.out with h | h
              · cases h
              · exact .inr (fun e => h e.symm)))
            have HX6 := hide (HX5.out.grow' g2 (fun b hb => by cases hb; exact hgt.out))
            have HLS := hide (show (List.replicate (cc - t) 0 ++ dgN S M v t).set kk y = List.replicate (cc - (t + 1)) 0 ++ dgN S M v (t + 1) by
              rw [HCB.out, show cc - t = kk + 1 by omega, show cc - (t + 1) = kk by omega, List.replicate_succ', List.append_assoc, List.set_append_right _ _ (by simp)]
              simp)
            have hkn : kk < cc := by omega
            rw [hkI]
            clear hu2e hy hx3e hx3 g1 g2 HG5 HO5 HX5
            go_wp2_with fail
            refine (HCH.out _).mono ?_
            rintro e wz ⟨rfl, hwz⟩
            rw [hwz]
            clear hwz
            go_wp2_with fail
            go_roundw
            case rel => exact ⟨t + 1, u2, by omega, rfl, HU2.out, by omega, by go_num, by rw [← HLS.out]; exact HG6.out, HO6.out, HX6.out, HN5.out⟩
            case measure => simp [intOf]
          · obtain rfl : t = cc := by omega
            have hkI : (t : Int) - 1 - (t : Int) = -1 := by omega
            have HGA := hide (show List.replicate (t - t) 0 ++ dgN S M v t = dgN S M v t by simp)
            rw [HGA.out] at HG5
            rw [hkI]
            by_cases hu0 : u = 0
            · subst hu0
              have HVL := hide (show gvN zs p11 M N j < glim M (glN M N j) by rw [HVN.out, HCC.out]; exact HDG.out.2.1.1 HU.out)
              have HTJ := hide (show rdT zs p11 M N (j + 1) = rdT zs p11 M N j ++ dgN S M v t by rw [rdT, HVN.out, HCC.out, HDG.out.1])
              have HIG := hide (HG5.out.ints' (dgN_len _ _ _ _))
              have hlt8 : (rdT zs p11 M N j).length ≤ 255 := by rw [rdT_len _ _ _ _ j (by rw [HGG.out]; exact hj)]; omega
              have hbz := hide HX5.out.lt
              have hwi : IntKind.i64.wrap ((x : Int) + (t : Int)) = ((x + t : Nat) : Int) := by rw [IntWalk.i64_in _ ⟨by omega, by omega⟩]; omega
              obtain ⟨tx, htx⟩ : ∃ tx, rdT zs p11 M N j = tx := ⟨_, rfl⟩
              rw [htx] at HO5 HTJ hlt8
              obtain ⟨ng, hng⟩ : ∃ ng, dgN S M v t = ng := ⟨_, rfl⟩
              rw [hng] at HTJ HIG
              obtain ⟨xG, hxG⟩ : ∃ xG, x + t = xG := ⟨_, rfl⟩
              rw [hxG] at hwi
              have HXG := hide hxG
              clear htx hng hxG
              go_wp2_with (at_builtin; refine wpList_appL _ rfl _ _ _ rfl elem8 (w.heap.size + 1) vt tx rfl HO5.out _ _ t t ng rfl HIG.out (by omega) hbz.out ?_; intro v7 w7 hown hgr; have HO7 := hide hown; have HX7 := hide (HX5.out.grow' hgr (fun b hb => (HO5.out.lt hb).1)); clear hown hgr)
              go_roundw
              case rel => exact ⟨j + 1, p2, hjl, by rw [← HXG.out, Nat.add_mul, Nat.one_mul, HXX.out], rfl, hide (fun h => by
                have h1 := glN_full (m := M) (n := N) (j := j) (by rw [HGG.out]; exact h)
                rw [HCC.out, HGG.out] at h1
                rw [← HP2e.out, HP1.out hjl, ← HWd.out, h1, Nat.add_mul, Nat.one_mul, Nat.add_assoc]), hide (fun h => by
                have h1 := HGL.out j h
                rw [HCC.out, HWd.out] at h1
                have h2 := HP1.out hjl
                try rw [HWd.out] at h2
                have h3 := HP2e.out; have h4 := HQ.out; have h5 := HTW.out; have h6 := HP11.out
                omega), by rw [HTJ.out]; exact HO7.out, hide (rdOk_next HOK.out HVL.out), HX7.out⟩
              case measure => have := HXG.out; simp [intOf]; omega
            · have hup : (0 : Int) < (u : Int) := by omega
              have HF := hide (fun w' hb => rd_post_no (zs := zs) (a := a) (w := w) (w' := w') (fun h => by
                have h5 := h.2.2.2.2.2
                rw [HRM.out, HRN.out, HP11.out, HGG.out] at h5
                have h6 := h5 j hjl
                rw [HVN.out, HCC.out] at h6
                exact hu0 (HU.out.symm.trans (HDG.out.2.1.2 h6))) hb)
              obtain ⟨c0, c1⟩ := HX5.out.cells
              have f0 := frozen_of_row wr w.heap.size 0 _ _ HX5.out.1
              have f1 := frozen_of_row wr w.heap.size 1 _ _ HX5.out.1
              have HXp := hide (HX5.out.put 0 ⟨#[]⟩)
              go_wp2_with fail
              obtain ⟨d0, d1⟩ := HXp.out.cells
              exact bodyPost_ret (v := .tuple #[.agg #[.int .i64 0, .string ⟨#[]⟩], .int .i64 0, .bool false]) (by simp [results, Try.results58, go_sem, d0, d1]) rfl (HF.out _ HXp.out.2)
    · have hje := gct_end hg1 hj hlt
      have hpq := HP2.out hje
      subst hpq
      have HF := hide (show RdIs zs a from ⟨by rw [hl.out]; have := HP11.out; omega, by rw [HRM.out]; exact hm.1, by rw [HRM.out]; exact hm.2, by rw [HRN.out]; omega, by rw [HRM.out, HRN.out, HT.out, HQ.out, hl.out]; omega, by rw [HRM.out, HRN.out, HP11.out, HGG.out, ← hje]; exact HOK.out⟩)
      obtain ⟨y1, y2, y3, y4⟩ := rd_yes HF.out
      rw [HRM.out] at y2
      rw [HRM.out, HRN.out, HP11.out, HGG.out, ← hje] at y3
      rw [HRM.out, HRN.out, HT.out, HQ.out] at y4
      obtain ⟨tx, htx⟩ : ∃ tx, rdT zs p11 M N j = tx := ⟨_, rfl⟩
      rw [htx] at HOr y3
      have HPO := hide (fun w' (hb : Below w.heap.size w w') => show RdPost zs a w (.returned (.tuple #[.agg #[.int .i64 M, .string (strOf tx)], .int .i64 (pp : Nat), .bool true])) w' from ⟨by rw [y1, y2, y3, y4], hb⟩)
      obtain ⟨A7, c7, rfl, hc7⟩ := HOr.out.form
      have hconv := run_str wr elem8 Try.underlying5 Try.underlying9 c7 HOr.out.ints
      obtain ⟨c0, c1⟩ := HXr.out.cells
      have f0 := frozen_of_row wr w.heap.size 0 _ _ HXr.out.1
      have f1 := frozen_of_row wr w.heap.size 1 _ _ HXr.out.1
      have HXp := hide (HXr.out.put M (strOf tx))
      clear htx hc7 y1 y2 y3 y4 hje HF HOr
      go_wp2_with fail
      obtain ⟨d0, d1⟩ := HXp.out.cells
      exact bodyPost_ret (v := .tuple #[.agg #[.int .i64 M, .string (strOf tx)], .int .i64 (pp : Nat), .bool true]) (by simp [results, Try.results58, go_sem, d0, d1]) rfl (HPO.out _ HXp.out.2)
end Go.Proofs.Ythmpfnbcodolcaa
