/-
  What SequenceLength and RecurrenceOf return, of the model (names with S) and of the program (names with I).
  Condition: lists shorter than 2^20.
-/
import Derived.Test.YtdniocdmncldjaaRMassey
import Derived.Test.YtdniocdmncldjaaJL
namespace Go.Proofs.Ytdniocdmncldjaa
open Go.RowKit
set_option linter.unusedSimpArgs false
set_option linter.unusedVariables false

section
variable {R : Fld} {p k g : Int}
/-- The code of a recurrence. -/
def recK (n : Nat) (t : BmSt R) : Int := if n < 2 * t.L then 5 else 0
theorem recK_no {n : Nat} {t : BmSt R} (h : n < 2 * t.L) : recK n t = 5 := if_pos h
theorem recK_yes {n : Nat} {t : BmSt R} (h : ¬ n < 2 * t.L) : recK n t = 0 := if_neg h

set_option maxHeartbeats 4000000 in
theorem sl_badS (z : List Int) (hz : z.length ≤ 1048576) {cd : Int} (h : sqErr p k g z = cd) (hne : (cd != 0) = true) : C1 18 p k g z (GivesII 0 cd) := by
  intro A n c B w hI hB
  have HX := hide (Box.start w 25 p k g)
  have hn : n ≤ 1048576 := by rw [← hI.len]; exact hz
  have HE := hide h
  have HI := hide (hI.below (HX.out.2.mono hB))
  clear hI h
  obtain ⟨c0, c1, c2⟩ := HX.out.cells
  go_enter Try.func18, Try.ntmps18
  go_wp2_with fail
  refine (specSqErr p k g A n c B z _ HI.out (Nat.le_trans hB (Nat.le_of_lt HX.out.lt)) (by omega)).mono ?_
  rw [HE.out]
  rintro e w1 ⟨rfl, hb⟩
  have HX1 := hide (HX.out.next hb)
  clear hb c0 c1 c2
  go_wp2_with fail
  go_ret2
  exact ⟨rfl, HX1.out.2⟩

set_option maxHeartbeats 4000000 in
theorem rc_badS (z : List Int) (hz : z.length ≤ 1048576) {cd : Int} (h : sqErr p k g z = cd) (hne : (cd != 0) = true) : C1 22 p k g z (NewIK [] cd) := by
  intro A n c B w hI hB
  have HX := hide (Box.start w 25 p k g)
  have hn : n ≤ 1048576 := by rw [← hI.len]; exact hz
  have HE := hide h
  have HI := hide (hI.below (HX.out.2.mono hB))
  clear hI h
  obtain ⟨c0, c1, c2⟩ := HX.out.cells
  go_enter Try.func22, Try.ntmps22
  go_wp2_with fail
  refine (specSqErr p k g A n c B z _ HI.out (Nat.le_trans hB (Nat.le_of_lt HX.out.lt)) (by omega)).mono ?_
  rw [HE.out]
  rintro e w1 ⟨rfl, hb⟩
  have HX1 := hide (HX.out.next hb)
  clear hb c0 c1 c2
  go_wp2_with fail
  go_ret2
  exact newIK_nil HX1.out.2

set_option maxHeartbeats 4000000 in
theorem sl_valS (h : FldIs R p k g) (s : List (El R)) (hs : s.length ≤ 64) (hE : sqErr p k g (iv s) = 0) : C1 18 p k g (iv s) (GivesII ((bm (cf s) s.length).L : Nat) 0) := by
  intro A n c B w hI hB
  have HX := hide (Box.start w 25 p k g)
  have hsn : s.length = n := by rw [← iv_len]; exact hI.len
  have hn : n ≤ 64 := by omega
  have HE := hide hE
  rw [hsn]
  have HI := hide hI
  clear hI hE hsn
  obtain ⟨c0, c1, c2⟩ := HX.out.cells
  go_enter Try.func18, Try.ntmps18
  go_wp2_with fail
  refine (specSqErr p k g A n c B (iv s) _ (HI.out.below (HX.out.2.mono hB)) (Nat.le_trans hB (Nat.le_of_lt HX.out.lt)) (by omega)).mono ?_
  rw [HE.out]
  rintro e w1 ⟨rfl, hb⟩
  have HX1 := hide (HX.out.next hb)
  clear hb c0 c1 c2
  obtain ⟨c0, c1, c2⟩ := HX1.out.cells
  go_wp2_with fail
  refine (specMassey h s A n c B _ (HI.out.below (HX1.out.2.mono hB)) (Nat.le_trans hB (Nat.le_of_lt HX1.out.lt)) hn).mono ?_
  rintro e w2 ⟨v, rfl, ho, hb⟩
  have HX2 := hide (HX1.out.next hb)
  have HO2 := hide (ho.low (base' := w.heap.size) (Nat.le_of_lt HX1.out.lt))
  clear ho hb c0 c1 c2
  go_wp2_with fail
  go_ret2
  exact ⟨rfl, HX2.out.2⟩

set_option maxHeartbeats 4000000 in
theorem rc_valS (h : FldIs R p k g) (s : List (El R)) (hs : s.length ≤ 64) (hE : sqErr p k g (iv s) = 0) : C1 22 p k g (iv s) (NewIK (iv (recL s.length (bm (cf s) s.length))) (recK s.length (bm (cf s) s.length))) := by
  intro A n c B w hI hB
  have HX := hide (Box.start w 25 p k g)
  have hsn : s.length = n := by rw [← iv_len]; exact hI.len
  have hn : n ≤ 64 := by omega
  have HE := hide hE
  rw [hsn]
  have HI := hide hI
  clear hI hE hsn
  obtain ⟨c0, c1, c2⟩ := HX.out.cells
  go_enter Try.func22, Try.ntmps22
  go_wp2_with fail
  refine (specSqErr p k g A n c B (iv s) _ (HI.out.below (HX.out.2.mono hB)) (Nat.le_trans hB (Nat.le_of_lt HX.out.lt)) (by omega)).mono ?_
  rw [HE.out]
  rintro e w1 ⟨rfl, hb⟩
  have HX1 := hide (HX.out.next hb)
  clear hb c0 c1 c2
  obtain ⟨c0, c1, c2⟩ := HX1.out.cells
  go_wp2_with fail
  refine (specMassey h s A n c B _ (HI.out.below (HX1.out.2.mono hB)) (Nat.le_trans hB (Nat.le_of_lt HX1.out.lt)) hn).mono ?_
  rintro e w2 ⟨v, rfl, ho, hb⟩
  have HX2 := hide (HX1.out.next hb)
  have HO2 := hide (ho.low (base' := w.heap.size) (Nat.le_of_lt HX1.out.lt))
  clear ho hb c0 c1 c2
  have hLn := bm_le (cf s) n
  by_cases hlt0 : n < 2 * (bm (cf s) n).L
  · have HZ := hide (recL_no hlt0)
    have HZ2 := hide (recK_no hlt0)
    obtain ⟨L, hL⟩ : ∃ L, (bm (cf s) n).L = L := ⟨_, rfl⟩
    rw [hL] at hLn hlt0 ⊢
    have z1 : decide ((n : Int) < 2 * (L : Int)) = true := by rw [decide_eq_true_eq]; omega
    clear hL
    go_wp2_with fail
    go_ret2
    rw [HZ.out.1, HZ2.out]
    exact newIK_nil HX2.out.2
  · have HZ := hide (recL_yes hlt0)
    have HZ2 := hide (recK_yes hlt0)
    obtain ⟨L, hL⟩ : ∃ L, (bm (cf s) n).L = L := ⟨_, rfl⟩
    rw [hL] at hLn hlt0 ⊢
    have z1 : decide ((n : Int) < 2 * (L : Int)) = false := by rw [decide_eq_false_iff_not]; omega
    clear hL
    go_wp2_with fail
    go_ret2
    rw [HZ.out.1, HZ2.out]
    exact newIK_of HO2.out HX2.out.2 (Nat.le_refl _)

set_option maxHeartbeats 4000000 in
theorem sl_badI (z : List Int) (hz : z.length ≤ 1048576) {cd : Int} (h : sqErr p k g z = cd) (hne : (cd != 0) = true) : C1 16 p k g z (GivesII 0 cd) := by
  intro A n c B w hI hB
  have HX := hide (Box.start w 25 p k g)
  have hn : n ≤ 1048576 := by rw [← hI.len]; exact hz
  have HE := hide h
  have HI := hide (hI.below (HX.out.2.mono hB))
  clear hI h
  obtain ⟨c0, c1, c2⟩ := HX.out.cells
  go_enter Try.func16, Try.ntmps16
  go_wp2_with fail
  refine (implSqErr p k g A n c B z _ HI.out (Nat.le_trans hB (Nat.le_of_lt HX.out.lt)) (by omega)).mono ?_
  rw [HE.out]
  rintro e w1 ⟨rfl, hb⟩
  have HX1 := hide (HX.out.next hb)
  clear hb c0 c1 c2
  go_wp2_with fail
  go_ret2
  exact ⟨rfl, HX1.out.2⟩

set_option maxHeartbeats 4000000 in
theorem rc_badI (z : List Int) (hz : z.length ≤ 1048576) {cd : Int} (h : sqErr p k g z = cd) (hne : (cd != 0) = true) : C1 15 p k g z (NewIK [] cd) := by
  intro A n c B w hI hB
  have HX := hide (Box.start w 25 p k g)
  have hn : n ≤ 1048576 := by rw [← hI.len]; exact hz
  have HE := hide h
  have HI := hide (hI.below (HX.out.2.mono hB))
  clear hI h
  obtain ⟨c0, c1, c2⟩ := HX.out.cells
  go_enter Try.func15, Try.ntmps15
  go_wp2_with fail
  refine (implSqErr p k g A n c B z _ HI.out (Nat.le_trans hB (Nat.le_of_lt HX.out.lt)) (by omega)).mono ?_
  rw [HE.out]
  rintro e w1 ⟨rfl, hb⟩
  have HX1 := hide (HX.out.next hb)
  clear hb c0 c1 c2
  go_wp2_with fail
  go_ret2
  exact newIK_nil HX1.out.2

set_option maxHeartbeats 4000000 in
theorem sl_valI (h : FldIs R p k g) (s : List (El R)) (hs : s.length ≤ 64) (hE : sqErr p k g (iv s) = 0) : C1 16 p k g (iv s) (GivesII ((bm (cf s) s.length).L : Nat) 0) := by
  intro A n c B w hI hB
  have HX := hide (Box.start w 25 p k g)
  have hsn : s.length = n := by rw [← iv_len]; exact hI.len
  have hn : n ≤ 64 := by omega
  have HE := hide hE
  rw [hsn]
  have HI := hide hI
  clear hI hE hsn
  obtain ⟨c0, c1, c2⟩ := HX.out.cells
  go_enter Try.func16, Try.ntmps16
  go_wp2_with fail
  refine (implSqErr p k g A n c B (iv s) _ (HI.out.below (HX.out.2.mono hB)) (Nat.le_trans hB (Nat.le_of_lt HX.out.lt)) (by omega)).mono ?_
  rw [HE.out]
  rintro e w1 ⟨rfl, hb⟩
  have HX1 := hide (HX.out.next hb)
  clear hb c0 c1 c2
  obtain ⟨c0, c1, c2⟩ := HX1.out.cells
  go_wp2_with fail
  refine (implShortest h s A n c B _ (HI.out.below (HX1.out.2.mono hB)) (Nat.le_trans hB (Nat.le_of_lt HX1.out.lt)) hn).mono ?_
  rintro e w2 ⟨v, rfl, ho, hb⟩
  have HX2 := hide (HX1.out.next hb)
  have HO2 := hide (ho.low (base' := w.heap.size) (Nat.le_of_lt HX1.out.lt))
  clear ho hb c0 c1 c2
  go_wp2_with fail
  go_ret2
  exact ⟨rfl, HX2.out.2⟩

set_option maxHeartbeats 4000000 in
theorem rc_valI (h : FldIs R p k g) (s : List (El R)) (hs : s.length ≤ 64) (hE : sqErr p k g (iv s) = 0) : C1 15 p k g (iv s) (NewIK (iv (recL s.length (bm (cf s) s.length))) (recK s.length (bm (cf s) s.length))) := by
  intro A n c B w hI hB
  have HX := hide (Box.start w 25 p k g)
  have hsn : s.length = n := by rw [← iv_len]; exact hI.len
  have hn : n ≤ 64 := by omega
  have HE := hide hE
  rw [hsn]
  have HI := hide hI
  clear hI hE hsn
  obtain ⟨c0, c1, c2⟩ := HX.out.cells
  go_enter Try.func15, Try.ntmps15
  go_wp2_with fail
  refine (implSqErr p k g A n c B (iv s) _ (HI.out.below (HX.out.2.mono hB)) (Nat.le_trans hB (Nat.le_of_lt HX.out.lt)) (by omega)).mono ?_
  rw [HE.out]
  rintro e w1 ⟨rfl, hb⟩
  have HX1 := hide (HX.out.next hb)
  clear hb c0 c1 c2
  obtain ⟨c0, c1, c2⟩ := HX1.out.cells
  go_wp2_with fail
  refine (implRecurrence h s A n c B _ (HI.out.below (HX1.out.2.mono hB)) (Nat.le_trans hB (Nat.le_of_lt HX1.out.lt)) hn).mono ?_
  by_cases hlt0 : n < 2 * (bm (cf s) n).L
  · have HZ := hide (recL_no hlt0)
    have HZ2 := hide (recK_no hlt0)
    rw [HZ.out.1, HZ.out.2]
    rintro e w2 ⟨A2, m2, rfl, hm2, ho, hb⟩
    have HX2 := hide (HX1.out.next hb)
    clear ho hb c0 c1 c2
    go_wp2_with fail
    go_ret2
    rw [HZ.out.1, HZ2.out]
    exact newIK_nil HX2.out.2
  · have HZ := hide (recL_yes hlt0)
    have HZ2 := hide (recK_yes hlt0)
    rw [HZ.out.1, HZ.out.2]
    rintro e w2 ⟨A2, m2, rfl, hm2, ho, hb⟩
    have HX2 := hide (HX1.out.next hb)
    have HO2 := hide (ho.low (base' := w.heap.size) (Nat.le_of_lt HX1.out.lt))
    clear ho hb c0 c1 c2
    go_wp2_with fail
    go_ret2
    rw [HZ.out.1, HZ2.out]
    exact newIK_of HO2.out HX2.out.2 (Nat.le_refl _)

theorem sl_both (p k g : Int) (z : List Int) (hz : z.length ≤ 1048576) : ∃ v cd : Int, C1 18 p k g z (GivesII v cd) ∧ C1 16 p k g z (GivesII v cd) := by
  rcases sqErr_cases p k g z with ⟨cd, h, hne, _⟩ | ⟨h, _, R, s, hR, rfl, hs⟩
  · exact ⟨0, cd, sl_badS z hz h hne, sl_badI z hz h hne⟩
  · exact ⟨_, 0, sl_valS hR s hs h, sl_valI hR s hs h⟩
theorem recL_len (s : List (El R)) (n : Nat) : (recL n (bm (cf s) n)).length ≤ n + 1 := by
  unfold recL; split
  · exact Nat.zero_le _
  · have h1 := bm_len (cf s) n
    have h2 := bm_le (cf s) n
    omega
theorem rc_both (p k g : Int) (z : List Int) (hz : z.length ≤ 1048576) : ∃ (r : List Int) (cd : Int), r.length ≤ 1048576 ∧ C1 22 p k g z (NewIK r cd) ∧ C1 15 p k g z (NewIK r cd) := by
  rcases sqErr_cases p k g z with ⟨cd, h, hne, _⟩ | ⟨h, _, R, s, hR, rfl, hs⟩
  · exact ⟨[], cd, by simp, rc_badS z hz h hne, rc_badI z hz h hne⟩
  · exact ⟨_, _, by rw [iv_len]; have := recL_len s s.length; omega, rc_valS hR s hs h, rc_valI hR s hs h⟩
end
end Go.Proofs.Ytdniocdmncldjaa
