/-
  The contracts of PolyAdd and IsPolynomial, case by case, of the model and of the program, side by side.
  Condition: lists shorter than 2^20.
-/
import Derived.Test.YthafkohopkgckaaPVal1
namespace Go.Proofs.Ythafkohopkgckaa
open Go.RowKit
set_option linter.unusedSimpArgs false
set_option linter.unusedVariables false

set_option maxHeartbeats 4000000 in
theorem add_val {R : Fld} {p k g : Int} (hR : FldIs R p k g) (ps qs : List (El R)) (hz : (iv ps).length ≤ 1048576) (hz' : (iv qs).length ≤ 1048576) (hp : Tr ps) (hpl : ps.length ≤ 512) (hq : Tr qs) (hql : qs.length ≤ 512) (h0 : pErr p k g [iv ps, iv qs] = 0) : C2 34 p k g (iv ps) (iv qs) (NewIK (iv (addP ps qs)) 0) := by
  have H0 := hide h0
  clear h0
  intro A n c A' n' c' B w hI hJ hB
  have HX := hide (Box.start w 25 p k g)
  have hn : n ≤ 1048576 := by rw [← hI.len]; exact hz
  have hn' : n' ≤ 1048576 := by rw [← hJ.len]; exact hz'
  have hpn : ps.length = n := by rw [← iv_len]; exact hI.len
  have hqm : qs.length = n' := by rw [← iv_len]; exact hJ.len
  have HR := hide (rws2b (c := c) (c' := c') (.cells #[.int .i64 p, .int .i64 k, .int .i64 g] 25) 70 hI hJ hB (by omega) (by omega))
  have HXr := hide (HX.out.alloc (.cells #[.slice A n c, .slice A' n' c'] 70))
  have HI := hide hI
  have HJ := hide hJ
  clear hI hJ
  go_enter Try.func34, Try.ntmps34
  go_wp2_with fail
  refine (implPErr p k g _ 2 2 _ _ _ HR.out rfl (box_size _ _ _) (by omega)).mono ?_
  rw [show lists [(A, n, c, iv ps), (A', n', c', iv qs)] = [iv ps, iv qs] from rfl, H0.out]
  rintro e w1 ⟨rfl, hb⟩
  have HX1 := hide (HXr.out.next hb)
  obtain ⟨c0, c1, c2⟩ := HX1.out.cells
  clear hb
  have HXb := hide (HX1.out.alloc (.cells #[.slice A' n' c'] 70))
  go_wp2_with fail
  refine (implPlus hR ps qs A A' n c n' c' B w1.heap.size _ (HI.out.below (HXb.out.2.mono hB)) (HJ.out.below (HXb.out.2.mono hB)) (by rw [alloc_size]; omega) (by rw [World.cell?_alloc_at _ _ _ _ rfl]; rfl) (Nat.le_trans hB (Nat.le_of_lt HXb.out.lt)) (by omega) (by omega)).mono ?_
  rintro e w2 ⟨gB, m1, rfl, ho, hm1, hb⟩
  have HX2 := hide (HXb.out.next hb)
  have HO := hide (newIK_of (c := 0) ho HX2.out.2 (Nat.le_of_lt HXb.out.lt))
  clear ho hb c0 c1 c2
  go_wp2_with fail
  go_ret2
  exact HO

set_option maxHeartbeats 4000000 in
theorem isPoly_val {R : Fld} {p k g : Int} (hR : FldIs R p k g) (ps : List (El R)) (hz : (iv ps).length ≤ 1048576) (hp : Tr ps) (hpl : ps.length ≤ 512) (h0 : pErr p k g [iv ps] = 0) : C1 35 p k g (iv ps) (Gives (.bool true)) := by
  have H0 := hide h0
  clear h0
  intro A n c B w hI hB
  have HX := hide (Box.start w 25 p k g)
  have hn : n ≤ 1048576 := by rw [← hI.len]; exact hz
  have hpn : ps.length = n := by rw [← iv_len]; exact hI.len
  have HR := hide (rws1b (c := c) (.cells #[.int .i64 p, .int .i64 k, .int .i64 g] 25) 70 hI hB (by omega))
  have HXr := hide (HX.out.alloc (.cells #[.slice A n c] 70))
  have HI := hide hI
  clear hI
  go_enter Try.func35, Try.ntmps35
  go_wp2_with fail
  refine (implPErr p k g _ 1 1 _ _ _ HR.out rfl (box_size _ _ _) (by omega)).mono ?_
  rw [show lists [(A, n, c, iv ps)] = [iv ps] from rfl, H0.out]
  rintro e w1 ⟨rfl, hb⟩
  have HX1 := hide (HXr.out.next hb)
  obtain ⟨c0, c1, c2⟩ := HX1.out.cells
  clear hb
  go_wp2_with fail
  go_ret
  exact ⟨rfl, HX1.out.2⟩

end Go.Proofs.Ythafkohopkgckaa
