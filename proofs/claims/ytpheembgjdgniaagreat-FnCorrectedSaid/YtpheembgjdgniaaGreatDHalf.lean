/-
  What DamageOf returns, case by case, of the model alone (names with S) and of the program alone (names with I).
  Condition: lists shorter than 2^20; the number of check elements is an int64.
-/
import Derived.Test.YtpheembgjdgniaaGreatDBoth3
namespace Go.Proofs.YtpheembgjdgniaaGreat
open Go.RowKit
set_option linter.unusedSimpArgs false
set_option linter.unusedVariables false

set_option maxRecDepth 100000 in
set_option maxHeartbeats 4000000 in
theorem dmg_badI (p k g L C : Int) (z z' z'' : List Int) (cd : Int) (hz : z.length ≤ 1048576) (hz' : z'.length ≤ 1048576) (hz'' : z''.length ≤ 1048576) (hC : -9223372036854775808 ≤ C ∧ C ≤ 9223372036854775807) (h : xErr p k g L C z'' [z, z'] = cd) (hne : (cd != 0) = true) :
    D3 10 p k g L C z z' z'' (GivesII 0 cd) := by
  have HE := hide h
  have HC := hide hC
  clear h hC
  intro A n cw A' n' cw' A'' n'' cw'' B w hI hJ hQ hcap hcap' hcap'' hB
  have HX0 := hide (CBox.start w p k g L C)
  have hn : n ≤ 1048576 := by rw [← hI.len]; exact hz
  have hn' : n' ≤ 1048576 := by rw [← hJ.len]; exact hz'
  have hn'' : n'' ≤ 1048576 := by rw [← hQ.len]; exact hz''
  have HR := hide (rws2b (c := cw) (c' := cw') (.cells #[.int .i64 p, .int .i64 k, .int .i64 g, .int .i64 L, .int .i64 C] 27) 28 hI hJ hB (by omega) (by omega))
  have HXr := hide (HX0.out.alloc (.cells #[.slice A n cw, .slice A' n' cw'] 28))
  have HI := hide hI
  have HJ := hide hJ
  have HQ := hide hQ
  clear hI hJ hQ
  obtain ⟨c0, c1, c2, c3, c4⟩ := HXr.out.cells
  go_enter Tryz.func10, Tryz.ntmps10
  go_wp2_with fail
  refine (implIdxErr p k g L C A'' n'' cw'' z'' (some ⟨w.heap.size + 1, 0, none⟩) 2 2 B [z, z'] _ (HQ.out.below (HXr.out.2.mono hB)) (Nat.le_trans hB (Nat.le_of_lt HXr.out.lt)) (by omega) (implWErr p k g L C _ 2 2 _ _ _ (HR.out.below ((Below.refl _ _).alloc (by rw [alloc_size, alloc_size]; exact Nat.le_refl _) _)) rfl (by rw [alloc_size, alloc_size, alloc_size]; omega) (by omega))).mono ?_
  rw [HE.out]
  rintro e w1 ⟨rfl, hb⟩
  have HX1 := hide (HXr.out.next hb)
  clear hb c0 c1 c2 c3 c4
  obtain ⟨c0, c1, c2, c3, c4⟩ := HX1.out.cells
  go_wp2_with fail
  go_ret2
  exact ⟨rfl, HX1.out.2⟩

set_option maxRecDepth 100000 in
set_option maxHeartbeats 4000000 in
theorem dmg_valI {R : Fld} {γ : El R} {p k g : Int} {l c : Nat} (h : CodeIs R γ p k g l c) (ws ss : List (El R)) (hw : ws.length = l) (hs : ss.length = l) (E : List Nat) (hE : Idx l E) (hz : (iv ws).length ≤ 1048576) (hz' : (iv ss).length ≤ 1048576) (hz'' : (nv E).length ≤ 1048576) :
    D3 10 p k g l c (iv ws) (iv ss) (nv E) (GivesII (E.length + 2 * (errs l E ws ss).length : Nat) 0) := by
  have hl255 := h.l255
  have HC := hide (c_bd h)
  have hEl := hE.len
  have HE := hide (show xErr p k g l c (nv E) [iv ws, iv ss] = 0 by
    rw [xErr, wErr_is h (fun z hz => by
      simp only [List.mem_cons, List.not_mem_nil, or_false] at hz
      rcases hz with rfl | rfl
      · exact ⟨ws, rfl, hw⟩
      · exact ⟨ss, rfl, hs⟩), if_pos rfl, idx_shut hE]; rfl)
  intro A n cw A' n' cw' A'' n'' cw'' B w hI hJ hQ hcap hcap' hcap'' hB
  have HX0 := hide (CBox.start w p k g l c)
  have hn : n ≤ 1048576 := by rw [← hI.len]; exact hz
  have hn' : n' ≤ 1048576 := by rw [← hJ.len]; exact hz'
  have hn'' : n'' ≤ 1048576 := by rw [← hQ.len]; exact hz''
  have HR := hide (rws2b (c := cw) (c' := cw') (.cells #[.int .i64 p, .int .i64 k, .int .i64 g, .int .i64 l, .int .i64 c] 27) 28 hI hJ hB (by omega) (by omega))
  have HXr := hide (HX0.out.alloc (.cells #[.slice A n cw, .slice A' n' cw'] 28))
  have HI := hide hI
  have HJ := hide hJ
  have HQ := hide hQ
  clear hI hJ hQ
  obtain ⟨c0, c1, c2, c3, c4⟩ := HXr.out.cells
  have hwn : ws.length = n := by rw [← iv_len]; exact HI.out.len
  have hsn : ss.length = n' := by rw [← iv_len]; exact HJ.out.len
  have hEn : E.length = n'' := by rw [← nv_len]; exact HQ.out.len
  obtain rfl : n = l := by omega
  obtain rfl : n' = n := by omega
  have HWN := hide hwn
  have HSN := hide hsn
  have HEN := hide hEn
  have hn2 : n'' ≤ 255 := by omega
  clear hwn hsn hEn hw hs hEl
  go_enter Tryz.func10, Tryz.ntmps10
  go_wp2_with fail
  refine (implIdxErr p k g n' c A'' n'' cw'' (nv E) (some ⟨w.heap.size + 1, 0, none⟩) 2 2 B [(iv ws), (iv ss)] _ (HQ.out.below (HXr.out.2.mono hB)) (Nat.le_trans hB (Nat.le_of_lt HXr.out.lt)) (by omega) (implWErr p k g n' c _ 2 2 _ _ _ (HR.out.below ((Below.refl _ _).alloc (by rw [alloc_size, alloc_size]; exact Nat.le_refl _) _)) rfl (by rw [alloc_size, alloc_size, alloc_size]; omega) (by omega))).mono ?_
  rw [HE.out]
  rintro e w1 ⟨rfl, hb⟩
  have HX1 := hide (HXr.out.next hb)
  clear hb c0 c1 c2 c3 c4
  obtain ⟨c0, c1, c2, c3, c4⟩ := HX1.out.cells
  go_wp2_with fail
  refine (implDifferences ws ss A A' n' cw cw' B _ (HI.out.below (HX1.out.2.mono hB)) (HJ.out.below (HX1.out.2.mono hB)) (Nat.le_trans hB (Nat.le_of_lt HX1.out.lt)) (by omega)).mono ?_
  rintro e w2 ⟨A2, m2, rfl, hm2, ho2, hb⟩
  have HX2 := hide (HX1.out.next hb)
  obtain ⟨D, hD⟩ : ∃ D, difs ws ss = D := ⟨_, rfl⟩
  have HDD := hide hD
  obtain ⟨m, hm⟩ : ∃ m, D.length = m := ⟨_, rfl⟩
  have hmb : m ≤ 255 := by
    rw [← hm, ← hD]
    have := difN_len ws ss ws.length
    show (difN ws ss ws.length).length ≤ 255
    rw [HWN.out] at this ⊢; omega
  have HDM := hide hm
  have HJ2 := hide ho2.ints
  rw [hD, nv_len, hm] at HJ2 ⊢
  clear ho2 hb hm2 hD hm c0 c1 c2 c3 c4
  go_wp2_with fail
  go_loopw [11, 29] (fun d i wr => DmRel w p k g n' c w2.heap.size m A2 E D d i wr) (fun _ i _ => m - (intOf i).toNat)
  case atStart => exact ⟨0, by omega, rfl, by rw [HEN.out]; rfl, HJ2.out, HX2.out⟩
  case round =>
    clear HX0 HXr HX1 HX2 HJ2 HR
    obtain ⟨j, hj, rfl, rfl, HD, HX⟩ := hrel
    have HX := hide HX
    have HD := hide HD
    obtain ⟨dN, hdN⟩ : ∃ dN, E.length + 2 * ((D.take j).filter fun i => !decide (i ∈ E)).length = dN := ⟨_, rfl⟩
    have hdb : dN ≤ 1000 := by
      have h1 := List.length_filter_le (fun i => !decide (i ∈ E)) (D.take j)
      rw [List.length_take] at h1
      rw [← hdN, HEN.out]; omega
    have HDN := hide hdN
    rw [hdN]
    clear hdN
    by_cases hlt : j < m
    · obtain ⟨b, off, z', rfl, hb, hzz, hc⟩ := HD.out.at_ hlt
      obtain ⟨z, hzD, rfl⟩ := nv_get hzz
      have htk : D.take (j + 1) = D.take j ++ [z] := by rw [List.take_add_one, hzD]; rfl
      have HIE := hide (HQ.out.below (HX.out.2.mono hB))
      clear hzz hzD
      by_cases hE2 : z ∈ E
      · have HME := hide (show decide ((z : Int) ∈ nv E) = true by rw [decide_eq_true_eq, mem_nv]; exact hE2)
        have HE2 := hide (show E.length + 2 * ((D.take (j + 1)).filter fun i => !decide (i ∈ E)).length = dN by rw [htk, List.filter_append, List.filter_cons_of_neg (by simpa using hE2), List.filter_nil, List.append_nil]; exact HDN.out)
        clear hE2 htk
        go_wp2_with fail
        refine (implContains A'' n'' cw'' _ (nv E) (z : Int) wr HIE.out (by omega)).mono ?_
        rw [HME.out]
        rintro e wz ⟨rfl, rfl⟩
        go_wp2_with fail
        go_roundw
        case rel => exact ⟨j + 1, by omega, by go_num, by rw [HE2.out], HD.out, HX.out⟩
        case measure => simp [intOf]; omega
      · have HME := hide (show decide ((z : Int) ∈ nv E) = false by rw [decide_eq_false_iff_not, mem_nv]; exact hE2)
        have HE2 := hide (show E.length + 2 * ((D.take (j + 1)).filter fun i => !decide (i ∈ E)).length = dN + 2 by rw [htk, List.filter_append, List.filter_cons_of_pos (by simpa using hE2), List.filter_nil, List.length_append, ← HDN.out]; simp; omega)
        clear hE2 htk
        go_wp2_with fail
        refine (implContains A'' n'' cw'' _ (nv E) (z : Int) wr HIE.out (by omega)).mono ?_
        rw [HME.out]
        rintro e wz ⟨rfl, rfl⟩
        go_wp2_with fail
        go_roundw
        case rel => exact ⟨j + 1, by omega, by go_num, by rw [HE2.out]; congr 1, HD.out, HX.out⟩
        case measure => simp [intOf]; omega
    · obtain rfl : j = m := by omega
      have HF := hide (show ((E.length + 2 * (errs n' E ws ss).length : Nat) : Int) = (dN : Int) by
        have := HDN.out
        rw [List.take_of_length_le (by rw [HDM.out]; exact Nat.le_refl _), ← HDD.out] at this
        rw [errs_difs HWN.out, this])
      go_wp2_with fail
      go_ret2
      exact ⟨ret_ii HF.out rfl, HX.out.2⟩

end Go.Proofs.YtpheembgjdgniaaGreat
