/-
  What EncodeWord, SyndromesOf and IsCodeWord return, case by case, of the model alone (names with S) and of the program alone (names with I).
  Condition: lists shorter than 2^20; the number of check elements is an int64.
-/
import Derived.Test.YtdniocdmncldjaaGreatCBoth1
namespace Go.Proofs.YtdniocdmncldjaaGreat
open Go.RowKit
set_option linter.unusedSimpArgs false
set_option linter.unusedVariables false

set_option maxRecDepth 100000 in
set_option maxHeartbeats 4000000 in
theorem enc_bad1S (p k g L C : Int) (z : List Int) (hz : z.length ≤ 1048576) (hC : -9223372036854775808 ≤ C ∧ C ≤ 9223372036854775807) (h : codeB p k g L C = false) :
    D1 65 p k g L C (z) (NewIK [] 1) := by
  have HB := hide h
  have HC := hide hC
  clear h hC
  intro A n cw B w hI hcap hB
  have HX := hide (CBox.start w p k g L C)
  have hn : n ≤ 1048576 := by rw [← hI.len]; exact hz
  have HI := hide hI
  clear hI
  go_enter Tryz.func65, Tryz.ntmps65
  go_wp2_with fail
  refine (specIsCode p k g L C _ HC.out).mono ?_
  rw [HB.out]
  rintro e w1 ⟨rfl, hb⟩
  have HX1 := hide (HX.out.next hb)
  obtain ⟨c0, c1, c2, c3, c4⟩ := HX1.out.cells
  clear hb
  go_wp2_with fail
  go_ret2
  exact newIK_nil HX1.out.2

set_option maxRecDepth 100000 in
set_option maxHeartbeats 4000000 in
theorem enc_bad2S {R : Fld} {γ : El R} {p k g : Int} {l c : Nat} (h : CodeIs R γ p k g l c) (z : List Int) (hz : z.length ≤ 1048576) (hw : wordB R.q ((l - c : Nat) : Int) z = false) :
    D1 65 p k g l c (z) (NewIK [] 2) := by
  have HB := hide (codeB_is h)
  have HC := hide (c_bd h)
  have HW := hide hw
  clear hw
  intro A n cw B w hI hcap hB
  have HX := hide (CBox.start w p k g l c)
  have hn : n ≤ 1048576 := by rw [← hI.len]; exact hz
  have hl := hI.len
  have HI := hide hI
  clear hI
  have hcl := h.cl
  have hl255 := h.l255
  rcases (show ((n : Int) != (l : Int) - (c : Int)) = true ∨ (((n : Int) != (l : Int) - (c : Int)) = false ∧ z.all (elB R.q) = false) by
      rcases hh : ((n : Int) != (l : Int) - (c : Int)) with _ | _
      · refine .inr ⟨rfl, ?_⟩
        rw [← wordB_all (L := ((l - c : Nat) : Int)) (by rw [hl]; simp at hh; omega)]; exact HW.out
      · exact .inl rfl) with z1 | ⟨z1, z2⟩
  · go_enter Tryz.func65, Tryz.ntmps65
    go_wp2_with fail
    refine (specIsCode p k g l c _ HC.out).mono ?_
    rw [HB.out]
    rintro e w1 ⟨rfl, hb⟩
    have HX1 := hide (HX.out.next hb)
    obtain ⟨c0, c1, c2, c3, c4⟩ := HX1.out.cells
    clear hb
    go_wp2_with fail
    go_ret2
    exact newIK_nil HX1.out.2
  · have HA := hide z2
    clear z2
    go_enter Tryz.func65, Tryz.ntmps65
    go_wp2_with fail
    refine (specIsCode p k g l c _ HC.out).mono ?_
    rw [HB.out]
    rintro e w1 ⟨rfl, hb⟩
    have HX1 := hide (HX.out.next hb)
    obtain ⟨c0, c1, c2, c3, c4⟩ := HX1.out.cells
    clear hb
    go_wp2_with fail
    refine (specIs h.fld.kind A n cw B z _ (HI.out.below (HX1.out.2.mono hB)) (Nat.le_trans hB (Nat.le_of_lt HX1.out.lt)) (by omega)).mono ?_
    rw [HA.out]
    rintro e w2 ⟨rfl, hb⟩
    have HX2 := hide (HX1.out.next hb)
    clear hb
    go_wp2_with fail
    go_ret2
    exact newIK_nil HX2.out.2

set_option maxRecDepth 100000 in
set_option maxHeartbeats 4000000 in
theorem enc_valS {R : Fld} {γ : El R} {p k g : Int} {l c : Nat} (h : CodeIs R γ p k g l c) (ms : List (El R)) (hz : (iv ms).length ≤ 1048576) (hm : ms.length = l - c) :
    D1 65 p k g l c (iv ms) (NewIK (iv (encW γ c ms)) 0) := by
  have HB := hide (codeB_is h)
  have HC := hide (c_bd h)
  have HW := hide (show wordB R.q ((l - c : Nat) : Int) (iv ms) = true by rw [← hm]; exact word_shut ms)
  have HA := hide (iv_all ms)
  intro A n cw B w hI hcap hB
  have HX := hide (CBox.start w p k g l c)
  have hn : n ≤ 1048576 := by rw [← hI.len]; exact hz
  have hml : ms.length = n := by rw [← iv_len]; exact hI.len
  have HI := hide hI
  clear hI
  have hcl := h.cl
  have hl255 := h.l255
  have hnl : n + c = l := by omega
  have z1 : ((n : Int) != (l : Int) - (c : Int)) = false := by simp; omega
  go_enter Tryz.func65, Tryz.ntmps65
  go_wp2_with fail
  refine (specIsCode p k g l c _ HC.out).mono ?_
  rw [HB.out]
  rintro e w1 ⟨rfl, hb⟩
  have HX1 := hide (HX.out.next hb)
  obtain ⟨c0, c1, c2, c3, c4⟩ := HX1.out.cells
  clear hb
  go_wp2_with fail
  refine (specIs h.fld.kind A n cw B (iv ms) _ (HI.out.below (HX1.out.2.mono hB)) (Nat.le_trans hB (Nat.le_of_lt HX1.out.lt)) (by omega)).mono ?_
  rw [HA.out]
  rintro e w2 ⟨rfl, hb⟩
  have HX2 := hide (HX1.out.next hb)
  clear hb c0 c1 c2 c3 c4
  obtain ⟨c0, c1, c2, c3, c4⟩ := HX2.out.cells
  go_wp2_with fail
  refine (specEncode h ms A n cw B _ (HI.out.below (HX2.out.2.mono hB)) (Nat.le_trans hB (Nat.le_of_lt HX2.out.lt)) hnl).mono ?_
  rintro e w4 ⟨A1, m1, rfl, hm1, ho, hb⟩
  have HX4 := hide (HX2.out.next hb)
  have HO := hide (newIK_of (c := 0) ho HX4.out.2 (Nat.le_of_lt HX2.out.lt))
  clear ho hb c0 c1 c2 c3 c4
  go_wp2_with fail
  go_ret2
  exact HO.out

set_option maxRecDepth 100000 in
set_option maxHeartbeats 4000000 in
theorem syn_badI (p k g L C : Int) (z : List Int) (cd : Int) (hz : z.length ≤ 1048576) (hC : -9223372036854775808 ≤ C ∧ C ≤ 9223372036854775807) (h : wErr p k g L C [z] = cd) (hne : (cd != 0) = true) :
    D1 14 p k g L C (z) (NewIK [] cd) := by
  have HE := hide h
  have HC := hide hC
  clear h hC
  intro A n cw B w hI hcap hB
  have HX := hide (CBox.start w p k g L C)
  have hn : n ≤ 1048576 := by rw [← hI.len]; exact hz
  have HR := hide (rws1b (c := cw) (.cells #[.int .i64 p, .int .i64 k, .int .i64 g, .int .i64 L, .int .i64 C] 27) 28 hI hB (by omega))
  have HXr := hide (HX.out.alloc (.cells #[.slice A n cw] 28))
  have HI := hide hI
  clear hI
  go_enter Tryz.func14, Tryz.ntmps14
  go_wp2_with fail
  refine (implWErr p k g L C _ 1 1 _ _ _ HR.out rfl (box_size _ _ _) (by omega)).mono ?_
  rw [show lists [(A, n, cw, z)] = [z] from rfl, HE.out]
  rintro e w1 ⟨rfl, hb⟩
  have HX1 := hide (HXr.out.next hb)
  obtain ⟨c0, c1, c2, c3, c4⟩ := HX1.out.cells
  clear hb
  go_wp2_with fail
  go_ret2
  exact newIK_nil HX1.out.2

set_option maxRecDepth 100000 in
set_option maxHeartbeats 4000000 in
theorem syn_valI {R : Fld} {γ : El R} {p k g : Int} {l c : Nat} (h : CodeIs R γ p k g l c) (ws : List (El R)) (hz : (iv ws).length ≤ 1048576) (hw : ws.length = l) :
    D1 14 p k g l c (iv ws) (NewIK (iv (synW γ c ws)) 0) := by
  have HE := hide (wErr_is h (Z := [iv ws]) (by simp only [List.mem_singleton, forall_eq]; exact ⟨ws, rfl, hw⟩))
  have HC := hide (c_bd h)
  intro A n cw B w hI hcap hB
  have HX := hide (CBox.start w p k g l c)
  have hn : n ≤ 1048576 := by rw [← hI.len]; exact hz
  have HR := hide (rws1b (c := cw) (.cells #[.int .i64 p, .int .i64 k, .int .i64 g, .int .i64 l, .int .i64 c] 27) 28 hI hB (by omega))
  have HXr := hide (HX.out.alloc (.cells #[.slice A n cw] 28))
  have HI := hide hI
  have hwl : ws.length = n := by rw [← iv_len]; exact hI.len
  obtain rfl : n = l := by omega
  clear hI hwl
  go_enter Tryz.func14, Tryz.ntmps14
  go_wp2_with fail
  refine (implWErr p k g n c _ 1 1 _ _ _ HR.out rfl (box_size _ _ _) (by omega)).mono ?_
  rw [show lists [(A, n, cw, iv ws)] = [iv ws] from rfl, HE.out]
  rintro e w1 ⟨rfl, hb⟩
  have HX1 := hide (HXr.out.next hb)
  obtain ⟨c0, c1, c2, c3, c4⟩ := HX1.out.cells
  clear hb
  go_wp2_with fail
  refine (implSyndromes h ws A cw B _ (HI.out.below (HX1.out.2.mono hB)) (Nat.le_trans hB (Nat.le_of_lt HX1.out.lt))).mono ?_
  rintro e w2 ⟨A1, m1, rfl, hm1, ho, hb⟩
  have HX2 := hide (HX1.out.next hb)
  have HO := hide (newIK_of (c := 0) ho HX2.out.2 (Nat.le_of_lt HX1.out.lt))
  clear ho hb c0 c1 c2 c3 c4
  go_wp2_with fail
  go_ret2
  exact HO.out

end Go.Proofs.YtdniocdmncldjaaGreat
