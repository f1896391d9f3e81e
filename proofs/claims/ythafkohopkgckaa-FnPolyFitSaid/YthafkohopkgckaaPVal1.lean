/-
  The contracts of PolyMul, PolyDiv and PolyEval, case by case, of the model and of the program, side by side.
  Condition: lists shorter than 2^20.
-/
import Derived.Test.YthafkohopkgckaaPBoth2
namespace Go.Proofs.Ythafkohopkgckaa
open Go.RowKit
set_option linter.unusedSimpArgs false
set_option linter.unusedVariables false

theorem pErr_ok1 {R : Fld} {p k g : Int} (hf : fieldB p k g = true) (hR : FldIs R p k g) {ps : List (El R)} (hp : Tr ps) (hpl : ps.length ≤ 512) : pErr p k g [iv ps] = 0 :=
  pErr_ok hf hR.kind (by simp [poly_shut hp hpl])
theorem pErr_ok2 {R : Fld} {p k g : Int} (hf : fieldB p k g = true) (hR : FldIs R p k g) {ps qs : List (El R)} (hp : Tr ps) (hpl : ps.length ≤ 512) (hq : Tr qs) (hql : qs.length ≤ 512) : pErr p k g [iv ps, iv qs] = 0 :=
  pErr_ok hf hR.kind (by simp [poly_shut hp hpl, poly_shut hq hql])
theorem iv_small {R : Fld} {ps : List (El R)} (h : ps.length ≤ 1024) : (iv ps).length ≤ 1048576 := by rw [iv_len]; omega
set_option maxHeartbeats 4000000 in
theorem mul_bad (p k g : Int) (z z' : List Int) (hz : z.length ≤ 1048576) (hz' : z'.length ≤ 1048576) (h1 : pErr p k g [z, z'] = 1) : C2 28 p k g (z) (z') (NewIK [] 1) ∧ C2 27 p k g (z) (z') (NewIK [] 1) := by
  have H1 := hide h1
  clear h1
  refine ⟨?_, ?_⟩
  · intro A n c A' n' c' B w hI hJ hB
    have HX := hide (Box.start w 25 p k g)
    have hn : n ≤ 1048576 := by rw [← hI.len]; exact hz
    have hn' : n' ≤ 1048576 := by rw [← hJ.len]; exact hz'
    have HR := hide (rws2b (c := c) (c' := c') (.cells #[.int .i64 p, .int .i64 k, .int .i64 g] 25) 35 hI hJ hB (by omega) (by omega))
    have HXr := hide (HX.out.alloc (.cells #[.slice A n c, .slice A' n' c'] 35))
    have HI := hide hI
    have HJ := hide hJ
    clear hI hJ
    go_enter Try.func28, Try.ntmps28
    go_wp2_with fail
    refine (specPErr p k g _ 2 2 _ _ _ HR.out rfl (box_size _ _ _) (by omega)).mono ?_
    rw [show lists [(A, n, c, z), (A', n', c', z')] = [z, z'] from rfl, H1.out]
    rintro e w1 ⟨rfl, hb⟩
    have HX1 := hide (HXr.out.next hb)
    obtain ⟨c0, c1, c2⟩ := HX1.out.cells
    clear hb
    go_wp2_with fail
    go_ret2
    exact newIK_nil HX1.out.2
  · intro A n c A' n' c' B w hI hJ hB
    have HX := hide (Box.start w 25 p k g)
    have hn : n ≤ 1048576 := by rw [← hI.len]; exact hz
    have hn' : n' ≤ 1048576 := by rw [← hJ.len]; exact hz'
    have HR := hide (rws2b (c := c) (c' := c') (.cells #[.int .i64 p, .int .i64 k, .int .i64 g] 25) 70 hI hJ hB (by omega) (by omega))
    have HXr := hide (HX.out.alloc (.cells #[.slice A n c, .slice A' n' c'] 70))
    have HI := hide hI
    have HJ := hide hJ
    clear hI hJ
    go_enter Try.func27, Try.ntmps27
    go_wp2_with fail
    refine (implPErr p k g _ 2 2 _ _ _ HR.out rfl (box_size _ _ _) (by omega)).mono ?_
    rw [show lists [(A, n, c, z), (A', n', c', z')] = [z, z'] from rfl, H1.out]
    rintro e w1 ⟨rfl, hb⟩
    have HX1 := hide (HXr.out.next hb)
    obtain ⟨c0, c1, c2⟩ := HX1.out.cells
    clear hb
    go_wp2_with fail
    go_ret2
    exact newIK_nil HX1.out.2

set_option maxHeartbeats 4000000 in
theorem mul_big {R : Fld} {p k g : Int} (hR : FldIs R p k g) (ps qs : List (El R)) (hz : (iv ps).length ≤ 1048576) (hz' : (iv qs).length ≤ 1048576) (hp : Tr ps) (hpl : ps.length ≤ 512) (hq : Tr qs) (hql : qs.length ≤ 512) (h0 : pErr p k g [iv ps, iv qs] = 0) (hbig : 512 < plen ps qs) : C2 28 p k g (iv ps) (iv qs) (NewIK [] 3) ∧ C2 27 p k g (iv ps) (iv qs) (NewIK [] 3) := by
  have H0 := hide h0
  clear h0
  obtain ⟨N, hN⟩ : ∃ N, plen ps qs = N := ⟨_, rfl⟩
  rw [hN] at hbig
  have hNb : N ≤ 1100 := by rw [← hN]; unfold plen; split <;> omega
  have hNx : (ps.length = 0 ∨ qs.length = 0 ∧ 0 < ps.length) ∧ N = 0 ∨ 0 < ps.length ∧ 0 < qs.length ∧ N + 1 = ps.length + qs.length := by rw [← hN]; unfold plen; split <;> omega
  have HN := hide hN
  clear hN
  refine ⟨?_, ?_⟩
  · intro A n c A' n' c' B w hI hJ hB
    have HX := hide (Box.start w 25 p k g)
    have hn : n ≤ 1048576 := by rw [← hI.len]; exact hz
    have hn' : n' ≤ 1048576 := by rw [← hJ.len]; exact hz'
    have hpn : ps.length = n := by rw [← iv_len]; exact hI.len
    have hqm : qs.length = n' := by rw [← iv_len]; exact hJ.len
    have HR := hide (rws2b (c := c) (c' := c') (.cells #[.int .i64 p, .int .i64 k, .int .i64 g] 25) 35 hI hJ hB (by omega) (by omega))
    have HXr := hide (HX.out.alloc (.cells #[.slice A n c, .slice A' n' c'] 35))
    have HI := hide hI
    have HJ := hide hJ
    clear hI hJ
    have z1 : 0 < n := by omega
    have z2 : 0 < n' := by omega
    have z3 : (n : Int) + (n' : Int) - 1 = (N : Int) := by omega
    go_enter Try.func28, Try.ntmps28
    go_wp2_with fail
    refine (specPErr p k g _ 2 2 _ _ _ HR.out rfl (box_size _ _ _) (by omega)).mono ?_
    rw [show lists [(A, n, c, iv ps), (A', n', c', iv qs)] = [iv ps, iv qs] from rfl, H0.out]
    rintro e w1 ⟨rfl, hb⟩
    have HX1 := hide (HXr.out.next hb)
    obtain ⟨c0, c1, c2⟩ := HX1.out.cells
    clear hb
    go_wp2_with fail
    go_ret2
    exact newIK_nil HX1.out.2
  · intro A n c A' n' c' B w hI hJ hB
    have HX := hide (Box.start w 25 p k g)
    have hn : n ≤ 1048576 := by rw [← hI.len]; exact hz
    have hn' : n' ≤ 1048576 := by rw [← hJ.len]; exact hz'
    have hpn : ps.length = n := by rw [← iv_len]; exact hI.len
    have hqm : qs.length = n' := by rw [← iv_len]; exact hJ.len
    have HR := hide (rws2b (c := c) (c' := c') (.cells #[.int .i64 p, .int .i64 k, .int .i64 g] 25) 70 hI hJ hB (by omega) (by omega))
    have HXr := hide (HX.out.alloc (.cells #[.slice A n c, .slice A' n' c'] 70))
    have HI := hide hI
    have HJ := hide hJ
    clear hI hJ
    go_enter Try.func27, Try.ntmps27
    go_wp2_with fail
    refine (implPErr p k g _ 2 2 _ _ _ HR.out rfl (box_size _ _ _) (by omega)).mono ?_
    rw [show lists [(A, n, c, iv ps), (A', n', c', iv qs)] = [iv ps, iv qs] from rfl, H0.out]
    rintro e w1 ⟨rfl, hb⟩
    have HX1 := hide (HXr.out.next hb)
    obtain ⟨c0, c1, c2⟩ := HX1.out.cells
    clear hb
    go_wp2_with fail
    refine (implPlen ps qs A A' n n' c c' _ hpn hqm (by omega) (by omega)).mono ?_
    rw [HN.out]
    rintro e w1' ⟨rfl, rfl⟩
    go_wp2_with fail
    go_ret2
    exact newIK_nil HX1.out.2

set_option maxHeartbeats 4000000 in
theorem mul_val {R : Fld} {p k g : Int} (hR : FldIs R p k g) (ps qs : List (El R)) (hz : (iv ps).length ≤ 1048576) (hz' : (iv qs).length ≤ 1048576) (hp : Tr ps) (hpl : ps.length ≤ 512) (hq : Tr qs) (hql : qs.length ≤ 512) (h0 : pErr p k g [iv ps, iv qs] = 0) (hbig : plen ps qs ≤ 512) : C2 28 p k g (iv ps) (iv qs) (NewIK (iv (mulP ps qs)) 0) ∧ C2 27 p k g (iv ps) (iv qs) (NewIK (iv (mulP ps qs)) 0) := by
  have H0 := hide h0
  clear h0
  obtain ⟨N, hN⟩ : ∃ N, plen ps qs = N := ⟨_, rfl⟩
  rw [hN] at hbig
  have hNb : N ≤ 1100 := by rw [← hN]; unfold plen; split <;> omega
  have hNx : (ps.length = 0 ∨ qs.length = 0 ∧ 0 < ps.length) ∧ N = 0 ∨ 0 < ps.length ∧ 0 < qs.length ∧ N + 1 = ps.length + qs.length := by rw [← hN]; unfold plen; split <;> omega
  have HN := hide hN
  clear hN
  have HTM := hide (show trim (mulP ps qs) = mulP ps qs from trim_id (tr_mul hp hq))
  refine ⟨?_, ?_⟩
  · intro A n c A' n' c' B w hI hJ hB
    have HX := hide (Box.start w 25 p k g)
    have hn : n ≤ 1048576 := by rw [← hI.len]; exact hz
    have hn' : n' ≤ 1048576 := by rw [← hJ.len]; exact hz'
    have hpn : ps.length = n := by rw [← iv_len]; exact hI.len
    have hqm : qs.length = n' := by rw [← iv_len]; exact hJ.len
    have HR := hide (rws2b (c := c) (c' := c') (.cells #[.int .i64 p, .int .i64 k, .int .i64 g] 25) 35 hI hJ hB (by omega) (by omega))
    have HXr := hide (HX.out.alloc (.cells #[.slice A n c, .slice A' n' c'] 35))
    have HI := hide hI
    have HJ := hide hJ
    clear hI hJ
    rcases (show decide (0 < n) = false ∨ (0 < n ∧ decide (0 < n') = false) ∨ (0 < n ∧ 0 < n' ∧ (n : Int) + (n' : Int) - 1 = (N : Int) ∧ decide (512 < N) = false) by simp; omega) with z1 | ⟨z1, z2⟩ | ⟨z1, z2, z3, z4⟩
    · go_enter Try.func28, Try.ntmps28
      go_wp2_with fail
      refine (specPErr p k g _ 2 2 _ _ _ HR.out rfl (box_size _ _ _) (by omega)).mono ?_
      rw [show lists [(A, n, c, iv ps), (A', n', c', iv qs)] = [iv ps, iv qs] from rfl, H0.out]
      rintro e w1 ⟨rfl, hb⟩
      have HX1 := hide (HXr.out.next hb)
      obtain ⟨c0, c1, c2⟩ := HX1.out.cells
      clear hb
      go_wp2_with fail
      refine (specMulE' hR ps qs A A' n c n' c' B _ (HI.out.below (HX1.out.2.mono hB)) (HJ.out.below (HX1.out.2.mono hB)) (Nat.le_trans hB (Nat.le_of_lt HX1.out.lt)) (by omega) (by omega)).mono ?_
      rw [HTM.out]; rintro e w2 ⟨A1, m1, rfl, hm1, ho, hb⟩
      have HX2 := hide (HX1.out.next hb)
      have HO := hide (newIK_of (c := 0) ho HX2.out.2 (Nat.le_of_lt HX1.out.lt))
      clear ho hb c0 c1 c2
      go_wp2_with fail
      go_ret2
      exact HO
    · go_enter Try.func28, Try.ntmps28
      go_wp2_with fail
      refine (specPErr p k g _ 2 2 _ _ _ HR.out rfl (box_size _ _ _) (by omega)).mono ?_
      rw [show lists [(A, n, c, iv ps), (A', n', c', iv qs)] = [iv ps, iv qs] from rfl, H0.out]
      rintro e w1 ⟨rfl, hb⟩
      have HX1 := hide (HXr.out.next hb)
      obtain ⟨c0, c1, c2⟩ := HX1.out.cells
      clear hb
      go_wp2_with fail
      refine (specMulE' hR ps qs A A' n c n' c' B _ (HI.out.below (HX1.out.2.mono hB)) (HJ.out.below (HX1.out.2.mono hB)) (Nat.le_trans hB (Nat.le_of_lt HX1.out.lt)) (by omega) (by omega)).mono ?_
      rw [HTM.out]; rintro e w2 ⟨A1, m1, rfl, hm1, ho, hb⟩
      have HX2 := hide (HX1.out.next hb)
      have HO := hide (newIK_of (c := 0) ho HX2.out.2 (Nat.le_of_lt HX1.out.lt))
      clear ho hb c0 c1 c2
      go_wp2_with fail
      go_ret2
      exact HO
    · go_enter Try.func28, Try.ntmps28
      go_wp2_with fail
      refine (specPErr p k g _ 2 2 _ _ _ HR.out rfl (box_size _ _ _) (by omega)).mono ?_
      rw [show lists [(A, n, c, iv ps), (A', n', c', iv qs)] = [iv ps, iv qs] from rfl, H0.out]
      rintro e w1 ⟨rfl, hb⟩
      have HX1 := hide (HXr.out.next hb)
      obtain ⟨c0, c1, c2⟩ := HX1.out.cells
      clear hb
      go_wp2_with fail
      refine (specMulE' hR ps qs A A' n c n' c' B _ (HI.out.below (HX1.out.2.mono hB)) (HJ.out.below (HX1.out.2.mono hB)) (Nat.le_trans hB (Nat.le_of_lt HX1.out.lt)) (by omega) (by omega)).mono ?_
      rw [HTM.out]; rintro e w2 ⟨A1, m1, rfl, hm1, ho, hb⟩
      have HX2 := hide (HX1.out.next hb)
      have HO := hide (newIK_of (c := 0) ho HX2.out.2 (Nat.le_of_lt HX1.out.lt))
      clear ho hb c0 c1 c2
      go_wp2_with fail
      go_ret2
      exact HO
  · intro A n c A' n' c' B w hI hJ hB
    have HX := hide (Box.start w 25 p k g)
    have hn : n ≤ 1048576 := by rw [← hI.len]; exact hz
    have hn' : n' ≤ 1048576 := by rw [← hJ.len]; exact hz'
    have hpn : ps.length = n := by rw [← iv_len]; exact hI.len
    have hqm : qs.length = n' := by rw [← iv_len]; exact hJ.len
    have HR := hide (rws2b (c := c) (c' := c') (.cells #[.int .i64 p, .int .i64 k, .int .i64 g] 25) 70 hI hJ hB (by omega) (by omega))
    have HXr := hide (HX.out.alloc (.cells #[.slice A n c, .slice A' n' c'] 70))
    have HI := hide hI
    have HJ := hide hJ
    clear hI hJ
    have z4 : decide (512 < N) = false := by simp; omega
    go_enter Try.func27, Try.ntmps27
    go_wp2_with fail
    refine (implPErr p k g _ 2 2 _ _ _ HR.out rfl (box_size _ _ _) (by omega)).mono ?_
    rw [show lists [(A, n, c, iv ps), (A', n', c', iv qs)] = [iv ps, iv qs] from rfl, H0.out]
    rintro e w1 ⟨rfl, hb⟩
    have HX1 := hide (HXr.out.next hb)
    obtain ⟨c0, c1, c2⟩ := HX1.out.cells
    clear hb
    go_wp2_with fail
    refine (implPlen ps qs A A' n n' c c' _ hpn hqm (by omega) (by omega)).mono ?_
    rw [HN.out]
    rintro e w1' ⟨rfl, rfl⟩
    go_wp2_with fail
    refine (implTimes hR ps qs A A' n c n' c' B _ (HI.out.below (HX1.out.2.mono hB)) (HJ.out.below (HX1.out.2.mono hB)) (Nat.le_trans hB (Nat.le_of_lt HX1.out.lt)) (by omega) (by omega)).mono ?_
    rintro e w2 ⟨gB, m1, rfl, ho, hm1, hb⟩
    have HX2 := hide (HX1.out.next hb)
    have HO := hide (newIK_of (c := 0) ho HX2.out.2 (Nat.le_of_lt HX1.out.lt))
    clear ho hb c0 c1 c2
    go_wp2_with fail
    go_ret2
    exact HO

set_option maxHeartbeats 4000000 in
theorem div_bad (p k g : Int) (z z' : List Int) (hz : z.length ≤ 1048576) (hz' : z'.length ≤ 1048576) (h1 : pErr p k g [z, z'] = 1) : C2 33 p k g (z) (z') (NewIKK [] [] 1) ∧ C2 31 p k g (z) (z') (NewIKK [] [] 1) := by
  have H1 := hide h1
  clear h1
  refine ⟨?_, ?_⟩
  · intro A n c A' n' c' B w hI hJ hB
    have HX := hide (Box.start w 25 p k g)
    have hn : n ≤ 1048576 := by rw [← hI.len]; exact hz
    have hn' : n' ≤ 1048576 := by rw [← hJ.len]; exact hz'
    have HR := hide (rws2b (c := c) (c' := c') (.cells #[.int .i64 p, .int .i64 k, .int .i64 g] 25) 35 hI hJ hB (by omega) (by omega))
    have HXr := hide (HX.out.alloc (.cells #[.slice A n c, .slice A' n' c'] 35))
    have HI := hide hI
    have HJ := hide hJ
    clear hI hJ
    go_enter Try.func33, Try.ntmps33
    go_wp2_with fail
    refine (specPErr p k g _ 2 2 _ _ _ HR.out rfl (box_size _ _ _) (by omega)).mono ?_
    rw [show lists [(A, n, c, z), (A', n', c', z')] = [z, z'] from rfl, H1.out]
    rintro e w1 ⟨rfl, hb⟩
    have HX1 := hide (HXr.out.next hb)
    obtain ⟨c0, c1, c2⟩ := HX1.out.cells
    clear hb
    go_wp2_with fail
    go_ret3
    exact newIKK_nil HX1.out.2
  · intro A n c A' n' c' B w hI hJ hB
    have HX := hide (Box.start w 25 p k g)
    have hn : n ≤ 1048576 := by rw [← hI.len]; exact hz
    have hn' : n' ≤ 1048576 := by rw [← hJ.len]; exact hz'
    have HR := hide (rws2b (c := c) (c' := c') (.cells #[.int .i64 p, .int .i64 k, .int .i64 g] 25) 70 hI hJ hB (by omega) (by omega))
    have HXr := hide (HX.out.alloc (.cells #[.slice A n c, .slice A' n' c'] 70))
    have HI := hide hI
    have HJ := hide hJ
    clear hI hJ
    go_enter Try.func31, Try.ntmps31
    go_wp2_with fail
    refine (implPErr p k g _ 2 2 _ _ _ HR.out rfl (box_size _ _ _) (by omega)).mono ?_
    rw [show lists [(A, n, c, z), (A', n', c', z')] = [z, z'] from rfl, H1.out]
    rintro e w1 ⟨rfl, hb⟩
    have HX1 := hide (HXr.out.next hb)
    obtain ⟨c0, c1, c2⟩ := HX1.out.cells
    clear hb
    go_wp2_with fail
    go_ret3
    exact newIKK_nil HX1.out.2

set_option maxHeartbeats 4000000 in
theorem div_zero {R : Fld} {p k g : Int} (hR : FldIs R p k g) (ps qs : List (El R)) (hz : (iv ps).length ≤ 1048576) (hz' : (iv qs).length ≤ 1048576) (hp : Tr ps) (hpl : ps.length ≤ 512) (hq : Tr qs) (hql : qs.length ≤ 512) (h0 : pErr p k g [iv ps, iv qs] = 0) (hq0 : qs.length = 0) : C2 33 p k g (iv ps) (iv qs) (NewIKK [] [] 5) ∧ C2 31 p k g (iv ps) (iv qs) (NewIKK [] [] 5) := by
  have H0 := hide h0
  clear h0
  refine ⟨?_, ?_⟩
  · intro A n c A' n' c' B w hI hJ hB
    have HX := hide (Box.start w 25 p k g)
    have hn : n ≤ 1048576 := by rw [← hI.len]; exact hz
    have hn' : n' ≤ 1048576 := by rw [← hJ.len]; exact hz'
    have hpn : ps.length = n := by rw [← iv_len]; exact hI.len
    have hqm : qs.length = n' := by rw [← iv_len]; exact hJ.len
    have HR := hide (rws2b (c := c) (c' := c') (.cells #[.int .i64 p, .int .i64 k, .int .i64 g] 25) 35 hI hJ hB (by omega) (by omega))
    have HXr := hide (HX.out.alloc (.cells #[.slice A n c, .slice A' n' c'] 35))
    have HI := hide hI
    have HJ := hide hJ
    clear hI hJ
    have e1 : ((n' : Int) == 0) = true := by simp; omega
    go_enter Try.func33, Try.ntmps33
    go_wp2_with fail
    refine (specPErr p k g _ 2 2 _ _ _ HR.out rfl (box_size _ _ _) (by omega)).mono ?_
    rw [show lists [(A, n, c, iv ps), (A', n', c', iv qs)] = [iv ps, iv qs] from rfl, H0.out]
    rintro e w1 ⟨rfl, hb⟩
    have HX1 := hide (HXr.out.next hb)
    obtain ⟨c0, c1, c2⟩ := HX1.out.cells
    clear hb
    go_wp2_with fail
    go_ret3
    exact newIKK_nil HX1.out.2
  · intro A n c A' n' c' B w hI hJ hB
    have HX := hide (Box.start w 25 p k g)
    have hn : n ≤ 1048576 := by rw [← hI.len]; exact hz
    have hn' : n' ≤ 1048576 := by rw [← hJ.len]; exact hz'
    have hpn : ps.length = n := by rw [← iv_len]; exact hI.len
    have hqm : qs.length = n' := by rw [← iv_len]; exact hJ.len
    have HR := hide (rws2b (c := c) (c' := c') (.cells #[.int .i64 p, .int .i64 k, .int .i64 g] 25) 70 hI hJ hB (by omega) (by omega))
    have HXr := hide (HX.out.alloc (.cells #[.slice A n c, .slice A' n' c'] 70))
    have HI := hide hI
    have HJ := hide hJ
    clear hI hJ
    have e1 : ((n' : Int) == 0) = true := by simp; omega
    go_enter Try.func31, Try.ntmps31
    go_wp2_with fail
    refine (implPErr p k g _ 2 2 _ _ _ HR.out rfl (box_size _ _ _) (by omega)).mono ?_
    rw [show lists [(A, n, c, iv ps), (A', n', c', iv qs)] = [iv ps, iv qs] from rfl, H0.out]
    rintro e w1 ⟨rfl, hb⟩
    have HX1 := hide (HXr.out.next hb)
    obtain ⟨c0, c1, c2⟩ := HX1.out.cells
    clear hb
    go_wp2_with fail
    go_ret3
    exact newIKK_nil HX1.out.2

set_option maxHeartbeats 4000000 in
theorem div_val {R : Fld} {p k g : Int} (hR : FldIs R p k g) (ps qs : List (El R)) (hz : (iv ps).length ≤ 1048576) (hz' : (iv qs).length ≤ 1048576) (hp : Tr ps) (hpl : ps.length ≤ 512) (hq : Tr qs) (hql : qs.length ≤ 512) (h0 : pErr p k g [iv ps, iv qs] = 0) (hq0 : 0 < qs.length) : C2 33 p k g (iv ps) (iv qs) (NewIKK (iv (quoP ps qs)) (iv (remP ps qs)) 0) ∧ C2 31 p k g (iv ps) (iv qs) (NewIKK (iv (quoP ps qs)) (iv (remP ps qs)) 0) := by
  have H0 := hide h0
  clear h0
  have HTM := hide (show trim (quoP ps qs) = quoP ps qs from trim_id (tr_quo hp hq hq0))
  refine ⟨?_, ?_⟩
  · intro A n c A' n' c' B w hI hJ hB
    have HX := hide (Box.start w 25 p k g)
    have hn : n ≤ 1048576 := by rw [← hI.len]; exact hz
    have hn' : n' ≤ 1048576 := by rw [← hJ.len]; exact hz'
    have hpn : ps.length = n := by rw [← iv_len]; exact hI.len
    have hqm : qs.length = n' := by rw [← iv_len]; exact hJ.len
    have HR := hide (rws2b (c := c) (c' := c') (.cells #[.int .i64 p, .int .i64 k, .int .i64 g] 25) 35 hI hJ hB (by omega) (by omega))
    have HXr := hide (HX.out.alloc (.cells #[.slice A n c, .slice A' n' c'] 35))
    have HI := hide hI
    have HJ := hide hJ
    clear hI hJ
    have hq1 : ((n' : Int) == 0) = false := by simp; omega
    go_enter Try.func33, Try.ntmps33
    go_wp2_with fail
    refine (specPErr p k g _ 2 2 _ _ _ HR.out rfl (box_size _ _ _) (by omega)).mono ?_
    rw [show lists [(A, n, c, iv ps), (A', n', c', iv qs)] = [iv ps, iv qs] from rfl, H0.out]
    rintro e w1 ⟨rfl, hb⟩
    have HX1 := hide (HXr.out.next hb)
    obtain ⟨c0, c1, c2⟩ := HX1.out.cells
    clear hb
    go_wp2_with fail
    refine (specDivE hR ps qs A A' n c n' c' B _ (HI.out.below (HX1.out.2.mono hB)) (HJ.out.below (HX1.out.2.mono hB)) (Nat.le_trans hB (Nat.le_of_lt HX1.out.lt)) (by omega) (by omega) (by omega)).mono ?_
    rw [HTM.out]
    rintro e w2 ⟨Aq, mq, Ar, mr, rfl, hq2, hr2, hoq, hor, hne, hb⟩
    have HX2 := hide (HX1.out.next hb)
    have HO := hide (newIKK_of (c := 0) hoq hor hne.1 HX2.out.2 (Nat.le_of_lt HX1.out.lt))
    clear hoq hor hne hb c0 c1 c2
    go_wp2_with fail
    go_ret3
    exact HO
  · intro A n c A' n' c' B w hI hJ hB
    have HX := hide (Box.start w 25 p k g)
    have hn : n ≤ 1048576 := by rw [← hI.len]; exact hz
    have hn' : n' ≤ 1048576 := by rw [← hJ.len]; exact hz'
    have hpn : ps.length = n := by rw [← iv_len]; exact hI.len
    have hqm : qs.length = n' := by rw [← iv_len]; exact hJ.len
    have HR := hide (rws2b (c := c) (c' := c') (.cells #[.int .i64 p, .int .i64 k, .int .i64 g] 25) 70 hI hJ hB (by omega) (by omega))
    have HXr := hide (HX.out.alloc (.cells #[.slice A n c, .slice A' n' c'] 70))
    have HI := hide hI
    have HJ := hide hJ
    clear hI hJ
    have hq1 : ((n' : Int) == 0) = false := by simp; omega
    go_enter Try.func31, Try.ntmps31
    go_wp2_with fail
    refine (implPErr p k g _ 2 2 _ _ _ HR.out rfl (box_size _ _ _) (by omega)).mono ?_
    rw [show lists [(A, n, c, iv ps), (A', n', c', iv qs)] = [iv ps, iv qs] from rfl, H0.out]
    rintro e w1 ⟨rfl, hb⟩
    have HX1 := hide (HXr.out.next hb)
    obtain ⟨c0, c1, c2⟩ := HX1.out.cells
    clear hb
    go_wp2_with fail
    refine (implDivided hR ps qs A A' n c n' c' B _ (HI.out.below (HX1.out.2.mono hB)) (HJ.out.below (HX1.out.2.mono hB)) (Nat.le_trans hB (Nat.le_of_lt HX1.out.lt)) (by omega) (by omega) (by omega)).mono ?_
    rintro e w2 ⟨vq, vr, rfl, hoq, hor, hne, hb⟩
    have HX2 := hide (HX1.out.next hb)
    have HO := hide (newIKK_of (c := 0) hoq hor hne HX2.out.2 (Nat.le_of_lt HX1.out.lt))
    clear hoq hor hne hb c0 c1 c2
    go_wp2_with fail
    go_ret3
    exact HO

set_option maxHeartbeats 4000000 in
theorem eval_val {R : Fld} {p k g : Int} (hR : FldIs R p k g) (ps : List (El R)) (hz : (iv ps).length ≤ 1048576) (hp : Tr ps) (hpl : ps.length ≤ 512) (h0 : pErr p k g [iv ps] = 0) (X : El R) : C1i 30 p k g (iv ps) (X.val : Int) (GivesII ((ev X ps).val : Nat) 0) := by
  have H0 := hide h0
  clear h0
  have HXX := hide (show decide (0 ≤ (X.val : Int) ∧ (X.val : Int) < (R.q : Int)) = true by have := X.lt; simp; omega)
  intro A n c B w hI hB
  have HX := hide (Box.start w 25 p k g)
  have hn : n ≤ 1048576 := by rw [← hI.len]; exact hz
  have hpn : ps.length = n := by rw [← iv_len]; exact hI.len
  have HR := hide (rws1b (c := c) (.cells #[.int .i64 p, .int .i64 k, .int .i64 g] 25) 70 hI hB (by omega))
  have HXr := hide (HX.out.alloc (.cells #[.slice A n c] 70))
  have HI := hide hI
  clear hI
  go_enter Try.func30, Try.ntmps30
  go_wp2_with fail
  refine (implPErr p k g _ 1 1 _ _ _ HR.out rfl (box_size _ _ _) (by omega)).mono ?_
  rw [show lists [(A, n, c, iv ps)] = [iv ps] from rfl, H0.out]
  rintro e w1 ⟨rfl, hb⟩
  have HX1 := hide (HXr.out.next hb)
  obtain ⟨c0, c1, c2⟩ := HX1.out.cells
  clear hb
  go_wp2_with fail
  refine (implHas hR.kind (X.val : Int) _).mono ?_
  rw [show decide (0 ≤ (X.val : Int) ∧ (X.val : Int) < (R.q : Int)) = true from HXX.out]
  rintro e w2 ⟨rfl, hb⟩
  have HX2 := hide (HX1.out.next hb)
  clear hb c0 c1 c2
  obtain ⟨c0, c1, c2⟩ := HX2.out.cells
  go_wp2_with fail
  refine (implValueAt hR X ps A n c B _ (HI.out.below (HX2.out.2.mono hB)) (Nat.le_trans hB (Nat.le_of_lt HX2.out.lt)) (by omega)).mono ?_
  rintro e w3 ⟨rfl, hb⟩
  have HX3 := hide (HX2.out.next hb)
  clear hb c0 c1 c2
  go_wp2_with fail
  go_ret2
  exact ⟨rfl, HX3.out.2⟩

/-- The two lists are polynomials over a field. -/
def Good2 (p k g : Int) (z z' : List Int) (F : (R : Fld) → List (El R) → List (El R) → Prop) : Prop :=
  fieldB p k g = true ∧ ∃ (R : Fld) (ps qs : List (El R)), FldIs R p k g ∧ z = iv ps ∧ z' = iv qs ∧ Tr ps ∧ ps.length ≤ 512 ∧ Tr qs ∧ qs.length ≤ 512 ∧ F R ps qs
def Good1 (p k g : Int) (z : List Int) (F : (R : Fld) → List (El R) → Prop) : Prop :=
  fieldB p k g = true ∧ ∃ (R : Fld) (ps : List (El R)), FldIs R p k g ∧ z = iv ps ∧ Tr ps ∧ ps.length ≤ 512 ∧ F R ps

section
variable (p k g : Int) (z z' : List Int) (hz : z.length ≤ 1048576) (hz' : z'.length ≤ 1048576)
include hz hz'
theorem mul_key : ∃ (r : List Int) (c : Int), r.length ≤ 1048576 ∧ C2 28 p k g z z' (NewIK r c) ∧ C2 27 p k g z z' (NewIK r c) ∧
    (c ≠ 0 ∨ (c = 0 ∧ Good2 p k g z z' fun R ps qs => r = iv (mulP ps qs) ∧ plen ps qs ≤ 512)) := by
  rcases pErr2 p k g z z' with h1 | ⟨h0, hf, R, ps, qs, hR, rfl, hp, hpl, rfl, hq, hql⟩
  · exact ⟨[], 1, by simp, (mul_bad p k g z z' hz hz' h1).1, (mul_bad p k g z z' hz hz' h1).2, .inl (by decide)⟩
  · by_cases hb : plen ps qs ≤ 512
    · have h := mul_val hR ps qs hz hz' hp hpl hq hql h0 hb
      exact ⟨iv (mulP ps qs), 0, by rw [iv_len, mulP, tab_len]; omega, h.1, h.2, .inr ⟨rfl, hf, R, ps, qs, hR, rfl, rfl, hp, hpl, hq, hql, rfl, hb⟩⟩
    · have h := mul_big hR ps qs hz hz' hp hpl hq hql h0 (by omega)
      exact ⟨[], 3, by simp, h.1, h.2, .inl (by decide)⟩
theorem div_key : ∃ (r r' : List Int) (c : Int), r.length ≤ 1048576 ∧ r'.length ≤ 1048576 ∧ C2 33 p k g z z' (NewIKK r r' c) ∧ C2 31 p k g z z' (NewIKK r r' c) ∧
    (c ≠ 0 ∨ (c = 0 ∧ Good2 p k g z z' fun R ps qs => r = iv (quoP ps qs) ∧ r' = iv (remP ps qs) ∧ 0 < qs.length)) := by
  rcases pErr2 p k g z z' with h1 | ⟨h0, hf, R, ps, qs, hR, rfl, hp, hpl, rfl, hq, hql⟩
  · exact ⟨[], [], 1, by simp, by simp, (div_bad p k g z z' hz hz' h1).1, (div_bad p k g z z' hz hz' h1).2, .inl (by decide)⟩
  · by_cases hb : 0 < qs.length
    · have h := div_val hR ps qs hz hz' hp hpl hq hql h0 hb
      refine ⟨iv (quoP ps qs), iv (remP ps qs), 0, ?_, ?_, h.1, h.2, .inr ⟨rfl, hf, R, ps, qs, hR, rfl, rfl, hp, hpl, hq, hql, rfl, rfl, hb⟩⟩
      · rw [iv_len]; unfold quoP; split; simp; rw [tab_len]; omega
      · rw [iv_len]; have := @rem_le R ps qs; omega
    · have h := div_zero hR ps qs hz hz' hp hpl hq hql h0 (by omega)
      exact ⟨[], [], 5, by simp, by simp, h.1, h.2, .inl (by decide)⟩
end
end Go.Proofs.Ythafkohopkgckaa
