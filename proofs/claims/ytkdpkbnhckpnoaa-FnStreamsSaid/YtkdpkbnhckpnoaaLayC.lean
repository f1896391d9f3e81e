/-
  EncodeStream: the model's and the program's answer.
  Condition: lists shorter than 2^20.
-/
import Derived.Test.YtkdpkbnhckpnoaaLayB
import Derived.Test.YtkdpkbnhckpnoaaJK
namespace Go.Proofs.Ytkdpkbnhckpnoaa
open Go.RowKit
set_option linter.unusedSimpArgs false
set_option linter.unusedVariables false

set_option maxRecDepth 100000 in
set_option maxHeartbeats 2000000 in
theorem esS_bad1 (p k g D K C : Int) (z : List Int) (hz : z.length ≤ 1048576) (h : layB p k g D K C = false) : E1 14 p k g D K C z (NewIK [] 1) := by
  intro A n c B w hI hnc hB
  have HX := hide (YBox.start w p k g D K C)
  obtain ⟨c0, c1, c2, c3, c4, c5⟩ := HX.out.cells
  have hn : n ≤ 1048576 := by rw [← hI.len]; exact hz
  have hzl := hI.len
  have HI := hide hI
  clear hI
  have HV := hide (fun w' => specIsLayout p k g D K C w')
  rw [h] at HV
  go_enter Try.func14, Try.ntmps14
  go_wp2_with fail
  refine (HV.out _).mono ?_
  rintro x w1 ⟨rfl, hb1⟩
  have HX1 := hide (HX.out.next hb1)
  clear hb1 c0 c1 c2 c3 c4 c5
  obtain ⟨c0, c1, c2, c3, c4, c5⟩ := HX1.out.cells
  go_wp2_with fail
  go_ret2
  exact newIK_nil HX1.out.2

set_option maxRecDepth 100000 in
set_option maxHeartbeats 2000000 in
theorem esS_bad2 {R : Fld} {γ : El R} {p k g : Int} {D K C : Nat} (h : LayIs R γ p k g D K C) (z : List Int) (hz : z.length ≤ 1048576) (hw : wordB R.q (D : Int) z = false) : E1 14 p k g D K C z (NewIK [] 2) := by
  intro A n c B w hI hnc hB
  have HX := hide (YBox.start w p k g D K C)
  obtain ⟨c0, c1, c2, c3, c4, c5⟩ := HX.out.cells
  have hn : n ≤ 1048576 := by rw [← hI.len]; exact hz
  have hzl := hI.len
  have HI := hide hI
  clear hI
  have HV := hide (fun w' => specIsLayout p k g D K C w')
  rw [layB_is h] at HV
  have HH := hide h
  have h6 := h.d1500
  clear h
  by_cases hM : (n : Int) = (D : Int)
  · have HZ := hide (show z.all (elB R.q) = false by rw [← wordB_all (L := (D : Int)) (by rw [hzl]; exact hM)]; exact hw)
    have e1 : ((n : Int) != (D : Int)) = false := by simpa using hM
    clear hw hM hzl
    go_enter Try.func14, Try.ntmps14
    go_wp2_with fail
    refine (HV.out _).mono ?_
    rintro x w1 ⟨rfl, hb1⟩
    have HX1 := hide (HX.out.next hb1)
    clear hb1 c0 c1 c2 c3 c4 c5
    obtain ⟨c0, c1, c2, c3, c4, c5⟩ := HX1.out.cells
    go_wp2_with fail
    refine (specIs HH.out.fld.kind A n c B z _ (HI.out.below (HX1.out.2.mono hB)) (Nat.le_trans hB (Nat.le_of_lt HX1.out.lt)) (by omega)).mono ?_
    rw [HZ.out]
    rintro e w2 ⟨rfl, hb⟩
    have HX2 := hide (HX1.out.next hb)
    clear hb c0 c1 c2 c3 c4 c5
    obtain ⟨c0, c1, c2, c3, c4, c5⟩ := HX2.out.cells
    go_wp2_with fail
    go_ret2
    exact newIK_nil HX2.out.2
  · have e1 : ((n : Int) != (D : Int)) = true := by simpa using hM
    clear hw hM hzl
    go_enter Try.func14, Try.ntmps14
    go_wp2_with fail
    refine (HV.out _).mono ?_
    rintro x w1 ⟨rfl, hb1⟩
    have HX1 := hide (HX.out.next hb1)
    clear hb1 c0 c1 c2 c3 c4 c5
    obtain ⟨c0, c1, c2, c3, c4, c5⟩ := HX1.out.cells
    go_wp2_with fail
    go_ret2
    exact newIK_nil HX1.out.2

set_option maxRecDepth 100000 in
set_option maxHeartbeats 2000000 in
theorem esS_val {R : Fld} {γ : El R} {p k g : Int} {D K C : Nat} (h : LayIs R γ p k g D K C) (ds : List (El R)) (hd : ds.length = D) (hz : (iv ds).length ≤ 1048576) : E1 14 p k g D K C (iv ds) (NewIK (iv (strL D C K (encB γ D C K ds))) 0) := by
  intro A n c B w hI hnc hB
  have HX := hide (YBox.start w p k g D K C)
  obtain ⟨c0, c1, c2, c3, c4, c5⟩ := HX.out.cells
  have hn : n ≤ 1048576 := by rw [← hI.len]; exact hz
  have hzl := hI.len
  have HI := hide hI
  clear hI
  have HV := hide (fun w' => specIsLayout p k g D K C w')
  rw [layB_is h] at HV
  have HH := hide h
  have HZ := hide (iv_all ds)
  have e1 : ((n : Int) != (D : Int)) = false := by rw [← hzl, iv_len, hd]; simp
  have hnc' : n ≤ c := by rw [← hzl]; exact hnc
  have h6 := h.d1500
  clear h hzl
  go_enter Try.func14, Try.ntmps14
  go_wp2_with fail
  refine (HV.out _).mono ?_
  rintro x w1 ⟨rfl, hb1⟩
  have HX1 := hide (HX.out.next hb1)
  clear hb1 c0 c1 c2 c3 c4 c5
  obtain ⟨c0, c1, c2, c3, c4, c5⟩ := HX1.out.cells
  go_wp2_with fail
  refine (specIs HH.out.fld.kind A n c B (iv ds) _ (HI.out.below (HX1.out.2.mono hB)) (Nat.le_trans hB (Nat.le_of_lt HX1.out.lt)) (by omega)).mono ?_
  rw [HZ.out]
  rintro e w2 ⟨rfl, hb⟩
  have HX2 := hide (HX1.out.next hb)
  clear hb c0 c1 c2 c3 c4 c5
  obtain ⟨c0, c1, c2, c3, c4, c5⟩ := HX2.out.cells
  go_wp2_with fail
  refine (specEncodeS HH.out ds hd A n c B _ (HI.out.below (HX2.out.2.mono hB)) (Nat.le_trans hB (Nat.le_of_lt HX2.out.lt)) hnc').mono ?_
  rintro e w4 ⟨A1, m1, rfl, hm1, ho, hb⟩
  have HX4 := hide (HX2.out.next hb)
  have HO := hide (newIK_of (c := 0) ho HX4.out.2 (Nat.le_of_lt HX2.out.lt))
  clear ho hb c0 c1 c2 c3 c4 c5
  go_wp2_with fail
  go_ret2
  exact HO.out

set_option maxRecDepth 100000 in
set_option maxHeartbeats 2000000 in
theorem esI_bad (p k g D K C : Int) (hD : -9223372036854775808 ≤ D ∧ D ≤ 9223372036854775807) (hC : -9223372036854775808 ≤ C ∧ C ≤ 9223372036854775807) (z : List Int) (cd : Int) (hz : z.length ≤ 1048576) (h : lErr p k g D K C D z = cd) (hne : (cd != 0) = true) : E1 13 p k g D K C z (NewIK [] cd) := by
  intro A n c B w hI hnc hB
  have HX := hide (YBox.start w p k g D K C)
  obtain ⟨c0, c1, c2, c3, c4, c5⟩ := HX.out.cells
  have hn : n ≤ 1048576 := by rw [← hI.len]; exact hz
  have hzl := hI.len
  have HI := hide hI
  clear hI
  have HE := hide h
  clear h
  go_enter Try.func13, Try.ntmps13
  go_wp2_with fail
  refine (implListErr p k g D K C D hD hC A n c B z _ (HI.out.below (HX.out.2.mono hB)) (Nat.le_trans hB (Nat.le_of_lt HX.out.lt)) (by omega)).mono ?_
  rw [HE.out]
  rintro e w9 ⟨rfl, hb⟩
  have HX9 := hide (HX.out.next hb)
  clear hb c0 c1 c2 c3 c4 c5
  obtain ⟨c0, c1, c2, c3, c4, c5⟩ := HX9.out.cells
  go_wp2_with fail
  go_ret2
  exact newIK_nil HX9.out.2

set_option maxRecDepth 100000 in
set_option maxHeartbeats 2000000 in
theorem esI_val {R : Fld} {γ : El R} {p k g : Int} {D K C : Nat} (h : LayIs R γ p k g D K C) (ds : List (El R)) (hd : ds.length = D) (hz : (iv ds).length ≤ 1048576) (he : lErr p k g D K C D (iv ds) = 0) : E1 13 p k g D K C (iv ds) (NewIK (iv (strL D C K (encB γ D C K ds))) 0) := by
  intro A n c B w hI hnc hB
  have HX := hide (YBox.start w p k g D K C)
  obtain ⟨c0, c1, c2, c3, c4, c5⟩ := HX.out.cells
  have hn : n ≤ 1048576 := by rw [← hI.len]; exact hz
  have hzl := hI.len
  have HI := hide hI
  clear hI
  have HE := hide he
  have HH := hide h
  have hD : -9223372036854775808 ≤ (D : Int) ∧ (D : Int) ≤ 9223372036854775807 := by have := h.d1500; omega
  have hC : -9223372036854775808 ≤ (C : Int) ∧ (C : Int) ≤ 9223372036854775807 := by have := h.c16; omega
  have hnc' : n ≤ c := by rw [← hzl]; exact hnc
  clear h he hzl
  go_enter Try.func13, Try.ntmps13
  go_wp2_with fail
  refine (implListErr p k g D K C D hD hC A n c B (iv ds) _ (HI.out.below (HX.out.2.mono hB)) (Nat.le_trans hB (Nat.le_of_lt HX.out.lt)) (by omega)).mono ?_
  rw [HE.out]
  rintro e w9 ⟨rfl, hb⟩
  have HX9 := hide (HX.out.next hb)
  clear hb c0 c1 c2 c3 c4 c5
  obtain ⟨c0, c1, c2, c3, c4, c5⟩ := HX9.out.cells
  go_wp2_with fail
  refine (implEncodedS HH.out ds hd A n c B _ (HI.out.below (HX9.out.2.mono hB)) (Nat.le_trans hB (Nat.le_of_lt HX9.out.lt)) hnc').mono ?_
  rintro e w4 ⟨A1, m1, rfl, hm1, ho, hb⟩
  have HX4 := hide (HX9.out.next hb)
  have HO := hide (newIK_of (c := 0) ho HX4.out.2 (Nat.le_of_lt HX9.out.lt))
  clear ho hb c0 c1 c2 c3 c4 c5
  go_wp2_with fail
  go_ret2
  exact HO.out

theorem es_both (p k g D K C : Int) (z : List Int) (hz : z.length ≤ 1048576) (hD : -9223372036854775808 ≤ D ∧ D ≤ 9223372036854775807) (hC : -9223372036854775808 ≤ C ∧ C ≤ 9223372036854775807) :
    ∃ (r : List Int) (cd : Int), r.length ≤ 1099511627776 ∧ E1 14 p k g D K C z (NewIK r cd) ∧ E1 13 p k g D K C z (NewIK r cd) := by
  rcases h : layB p k g D K C with _ | _
  · exact ⟨[], 1, by simp, esS_bad1 p k g D K C z hz h, esI_bad p k g D K C hD hC z 1 hz (lErr_no h) rfl⟩
  · obtain ⟨R, γ, d, c, m, rfl, rfl, rfl, hI⟩ := layB_open h
    have hE := lErr_is (M := (d : Int)) (zs := z) h hI.fld.kind
    rcases hw : wordB R.q (d : Int) z with _ | _
    · rw [hw] at hE
      exact ⟨[], 2, by simp, esS_bad2 hI z hz hw, esI_bad p k g d c m hD hC z 2 hz hE rfl⟩
    · rw [hw] at hE
      obtain ⟨ds, rfl, hd⟩ := word_open hw
      refine ⟨_, 0, ?_, esS_val hI ds hd hz, esI_val hI ds hd hz hE⟩
      rw [iv_len]
      have h4 := hI.tot
      show (tab _ _).length ≤ _
      rw [tab_len]
      omega
end Go.Proofs.Ytkdpkbnhckpnoaa
