/-
  The contracts of PolyDiv, of the model and of the program, side by side.
  Condition: lists shorter than 2^20.
-/
import Derived.Test.YthafkohopkgckaaPBoth2
namespace Go.Proofs.Ythafkohopkgckaa
open Go.RowKit
set_option linter.unusedSimpArgs false
set_option linter.unusedVariables false

theorem iv512b {R : Fld} {ps : List (El R)} (h : ps.length ≤ 1024) : (iv ps).length ≤ 549755813888 := by rw [iv_len]; omega
section
variable (p k g : Int) (z z' : List Int)
set_option maxHeartbeats 4000000 in
theorem div_both2 (hz : z.length ≤ 1048576) (hz' : z'.length ≤ 1048576) : ∃ (r r' : List Int) (c : Int), r.length ≤ 549755813888 ∧ r'.length ≤ 549755813888 ∧ C2 33 p k g z z' (NewIKK r r' c) ∧ C2 31 p k g z z' (NewIKK r r' c) := by
  rcases pErr2 p k g z z' with h1 | ⟨h0, hf, R, ps, qs, hR, rfl, hp, hpl, rfl, hq, hql⟩
  · have H1 := hide h1
    clear h1
    refine ⟨[], [], 1, by simp, by simp, ?_, ?_⟩
    · intro A n c A' n' c' B w hI hJ hB
      have HX := hide (Box.start w 25 p k g)
      have hn : n ≤ 1048576 := by rw [← hI.len]; exact hz
      have hn' : n' ≤ 1048576 := by rw [← hJ.len]; exact hz'
      have HR := hide (rws2b (c := c) (c' := c') (.cells #[.int .i64 p, .int .i64 k, .int .i64 g] 25) 35 hI hJ hB (by omega) (by omega))
      have HXr := hide (HX.out.alloc (.cells #[.slice A n c, .slice A' n' c'] 35))
      have HI := hide hI
      have HJ := hide hJ
      clear hI hJ
      go_enter Try.func33, Try.ntmps33
      go_wp2_with fail
      refine (specPErr p k g _ 2 2 _ _ _ HR.out rfl (box_size _ _ _) (by omega)).mono ?_
      rw [show lists [(A, n, c, z), (A', n', c', z')] = [z, z'] from rfl, H1.out]
      rintro e w1 ⟨rfl, hb⟩
      have HX1 := hide (HXr.out.next hb)
      obtain ⟨c0, c1, c2⟩ := HX1.out.cells
      clear hb
      go_wp2_with fail
      go_ret3
      exact newIKK_nil HX1.out.2
    · intro A n c A' n' c' B w hI hJ hB
      have HX := hide (Box.start w 25 p k g)
      have hn : n ≤ 1048576 := by rw [← hI.len]; exact hz
      have hn' : n' ≤ 1048576 := by rw [← hJ.len]; exact hz'
      have HR := hide (rws2b (c := c) (c' := c') (.cells #[.int .i64 p, .int .i64 k, .int .i64 g] 25) 70 hI hJ hB (by omega) (by omega))
      have HXr := hide (HX.out.alloc (.cells #[.slice A n c, .slice A' n' c'] 70))
      have HI := hide hI
      have HJ := hide hJ
      clear hI hJ
      go_enter Try.func31, Try.ntmps31
      go_wp2_with fail
      refine (implPErr p k g _ 2 2 _ _ _ HR.out rfl (box_size _ _ _) (by omega)).mono ?_
      rw [show lists [(A, n, c, z), (A', n', c', z')] = [z, z'] from rfl, H1.out]
      rintro e w1 ⟨rfl, hb⟩
      have HX1 := hide (HXr.out.next hb)
      obtain ⟨c0, c1, c2⟩ := HX1.out.cells
      clear hb
      go_wp2_with fail
      go_ret3
      exact newIKK_nil HX1.out.2
  · have H0 := hide h0
    clear h0
    by_cases hq0 : qs.length = 0
    · refine ⟨[], [], 5, by simp, by simp, ?_, ?_⟩
      · intro A n c A' n' c' B w hI hJ hB
        have HX := hide (Box.start w 25 p k g)
        have hn : n ≤ 1048576 := by rw [← hI.len]; exact hz
        have hn' : n' ≤ 1048576 := by rw [← hJ.len]; exact hz'
        have hpn : ps.length = n := by rw [← iv_len]; exact hI.len
        have hqm : qs.length = n' := by rw [← iv_len]; exact hJ.len
        have HR := hide (rws2b (c := c) (c' := c') (.cells #[.int .i64 p, .int .i64 k, .int .i64 g] 25) 35 hI hJ hB (by omega) (by omega))
        have HXr := hide (HX.out.alloc (.cells #[.slice A n c, .slice A' n' c'] 35))
        have HI := hide hI
        have HJ := hide hJ
        clear hI hJ
        have e1 : ((n' : Int) == 0) = true := by simp; omega
        go_enter Try.func33, Try.ntmps33
        go_wp2_with fail
        refine (specPErr p k g _ 2 2 _ _ _ HR.out rfl (box_size _ _ _) (by omega)).mono ?_
        rw [show lists [(A, n, c, iv ps), (A', n', c', iv qs)] = [iv ps, iv qs] from rfl, H0.out]
        rintro e w1 ⟨rfl, hb⟩
        have HX1 := hide (HXr.out.next hb)
        obtain ⟨c0, c1, c2⟩ := HX1.out.cells
        clear hb
        go_wp2_with fail
        go_ret3
        exact newIKK_nil HX1.out.2
      · intro A n c A' n' c' B w hI hJ hB
        have HX := hide (Box.start w 25 p k g)
        have hn : n ≤ 1048576 := by rw [← hI.len]; exact hz
        have hn' : n' ≤ 1048576 := by rw [← hJ.len]; exact hz'
        have hpn : ps.length = n := by rw [← iv_len]; exact hI.len
        have hqm : qs.length = n' := by rw [← iv_len]; exact hJ.len
        have HR := hide (rws2b (c := c) (c' := c') (.cells #[.int .i64 p, .int .i64 k, .int .i64 g] 25) 70 hI hJ hB (by omega) (by omega))
        have HXr := hide (HX.out.alloc (.cells #[.slice A n c, .slice A' n' c'] 70))
        have HI := hide hI
        have HJ := hide hJ
        clear hI hJ
        have e1 : ((n' : Int) == 0) = true := by simp; omega
        go_enter Try.func31, Try.ntmps31
        go_wp2_with fail
        refine (implPErr p k g _ 2 2 _ _ _ HR.out rfl (box_size _ _ _) (by omega)).mono ?_
        rw [show lists [(A, n, c, iv ps), (A', n', c', iv qs)] = [iv ps, iv qs] from rfl, H0.out]
        rintro e w1 ⟨rfl, hb⟩
        have HX1 := hide (HXr.out.next hb)
        obtain ⟨c0, c1, c2⟩ := HX1.out.cells
        clear hb
        go_wp2_with fail
        go_ret3
        exact newIKK_nil HX1.out.2
    · have HTM := hide (show trim (quoP ps qs) = quoP ps qs from trim_id (tr_quo hp hq (by omega)))
      refine ⟨iv (quoP ps qs), iv (remP ps qs), 0, iv512b (by unfold quoP; split; simp; rw [tab_len]; omega), iv512b (by have := @rem_le R ps qs; omega), ?_, ?_⟩
      · intro A n c A' n' c' B w hI hJ hB
        have HX := hide (Box.start w 25 p k g)
        have hn : n ≤ 1048576 := by rw [← hI.len]; exact hz
        have hn' : n' ≤ 1048576 := by rw [← hJ.len]; exact hz'
        have hpn : ps.length = n := by rw [← iv_len]; exact hI.len
        have hqm : qs.length = n' := by rw [← iv_len]; exact hJ.len
        have HR := hide (rws2b (c := c) (c' := c') (.cells #[.int .i64 p, .int .i64 k, .int .i64 g] 25) 35 hI hJ hB (by omega) (by omega))
        have HXr := hide (HX.out.alloc (.cells #[.slice A n c, .slice A' n' c'] 35))
        have HI := hide hI
        have HJ := hide hJ
        clear hI hJ
        have hq1 : ((n' : Int) == 0) = false := by simp; omega
        go_enter Try.func33, Try.ntmps33
        go_wp2_with fail
        refine (specPErr p k g _ 2 2 _ _ _ HR.out rfl (box_size _ _ _) (by omega)).mono ?_
        rw [show lists [(A, n, c, iv ps), (A', n', c', iv qs)] = [iv ps, iv qs] from rfl, H0.out]
        rintro e w1 ⟨rfl, hb⟩
        have HX1 := hide (HXr.out.next hb)
        obtain ⟨c0, c1, c2⟩ := HX1.out.cells
        clear hb
        go_wp2_with fail
        refine (specDivE hR ps qs A A' n c n' c' B _ (HI.out.below (HX1.out.2.mono hB)) (HJ.out.below (HX1.out.2.mono hB)) (Nat.le_trans hB (Nat.le_of_lt HX1.out.lt)) (by omega) (by omega) (by omega)).mono ?_
        rw [HTM.out]
        rintro e w2 ⟨Aq, mq, Ar, mr, rfl, hq2, hr2, hoq, hor, hne, hb⟩
        have HX2 := hide (HX1.out.next hb)
        have HO := hide (newIKK_of (c := 0) hoq hor hne.1 HX2.out.2 (Nat.le_of_lt HX1.out.lt))
        clear hoq hor hne hb c0 c1 c2
        go_wp2_with fail
        go_ret3
        exact HO
      · intro A n c A' n' c' B w hI hJ hB
        have HX := hide (Box.start w 25 p k g)
        have hn : n ≤ 1048576 := by rw [← hI.len]; exact hz
        have hn' : n' ≤ 1048576 := by rw [← hJ.len]; exact hz'
        have hpn : ps.length = n := by rw [← iv_len]; exact hI.len
        have hqm : qs.length = n' := by rw [← iv_len]; exact hJ.len
        have HR := hide (rws2b (c := c) (c' := c') (.cells #[.int .i64 p, .int .i64 k, .int .i64 g] 25) 70 hI hJ hB (by omega) (by omega))
        have HXr := hide (HX.out.alloc (.cells #[.slice A n c, .slice A' n' c'] 70))
        have HI := hide hI
        have HJ := hide hJ
        clear hI hJ
        have hq1 : ((n' : Int) == 0) = false := by simp; omega
        go_enter Try.func31, Try.ntmps31
        go_wp2_with fail
        refine (implPErr p k g _ 2 2 _ _ _ HR.out rfl (box_size _ _ _) (by omega)).mono ?_
        rw [show lists [(A, n, c, iv ps), (A', n', c', iv qs)] = [iv ps, iv qs] from rfl, H0.out]
        rintro e w1 ⟨rfl, hb⟩
        have HX1 := hide (HXr.out.next hb)
        obtain ⟨c0, c1, c2⟩ := HX1.out.cells
        clear hb
        go_wp2_with fail
        refine (implDivided hR ps qs A A' n c n' c' B _ (HI.out.below (HX1.out.2.mono hB)) (HJ.out.below (HX1.out.2.mono hB)) (Nat.le_trans hB (Nat.le_of_lt HX1.out.lt)) (by omega) (by omega) (by omega)).mono ?_
        rintro e w2 ⟨vq, vr, rfl, hoq, hor, hne, hb⟩
        have HX2 := hide (HX1.out.next hb)
        have HO := hide (newIKK_of (c := 0) hoq hor hne HX2.out.2 (Nat.le_of_lt HX1.out.lt))
        clear hoq hor hne hb c0 c1 c2
        go_wp2_with fail
        go_ret3
        exact HO

end
end Go.Proofs.Ythafkohopkgckaa
