/-
  PolyDiv of the program on two polynomials over a field: the lengths that it returns.
  Condition: the divisor is not empty; both have at most 512 coefficients.
-/
import Derived.Test.YtfbkmbjbjgfenaaJK
import Derived.Test.YtfbkmbjbjgfenaaJE
namespace Go.Proofs.Ytfbkmbjbjgfenaa
open Go.RowKit
set_option linter.unusedSimpArgs false
set_option linter.unusedVariables false

/-- What a division leaves: a quotient, a remainder, no error. -/
def Divided (r : List Int) (w : World) (x : Ending) (w' : World) : Prop :=
  ∃ Aq nq mq Ar mr, x = .returned (.tuple #[.slice Aq nq mq, .slice Ar r.length mr, .int .i64 0]) ∧ Below w.heap.size w w'

set_option maxHeartbeats 4000000 in
theorem implDiv {R : Fld} {p k g : Int} (hf : fieldB p k g = true) (hR : FldIs R p k g) (ps qs : List (El R)) (hp : Tr ps) (hpl : ps.length ≤ 512) (hq : Tr qs) (hql : qs.length ≤ 512) (hq0 : 0 < qs.length) :
    C2 39 p k g (iv ps) (iv qs) (Divided (iv (remP ps qs))) := by
  have H0 := hide (show pErr p k g [iv ps, iv qs] = 0 from pErr_ok hf hR.kind (by simp [poly_shut hp hpl, poly_shut hq hql]))
  intro A n c A' n' c' B w hI hJ hB
  have HX := hide (Box.start w 25 p k g)
  have hpn : ps.length = n := by rw [← iv_len]; exact hI.len
  have hqm : qs.length = n' := by rw [← iv_len]; exact hJ.len
  have HR := hide (rws2b (c := c) (c' := c') (.cells #[.int .i64 p, .int .i64 k, .int .i64 g] 25) 83 hI hJ hB (by omega) (by omega))
  have HXr := hide (HX.out.alloc (.cells #[.slice A n c, .slice A' n' c'] 83))
  have HI := hide hI
  have HJ := hide hJ
  clear hI hJ
  have hq1 : ((n' : Int) == 0) = false := by simp; omega
  go_enter Try.func39, Try.ntmps39
  go_wp2_with fail
  refine (implPErr p k g _ 2 2 _ _ _ HR.out rfl (box_size _ _ _) (by omega)).mono ?_
  rw [show lists [(A, n, c, iv ps), (A', n', c', iv qs)] = [iv ps, iv qs] from rfl, H0.out]
  rintro e w1 ⟨rfl, hb⟩
  have HX1 := hide (HXr.out.next hb)
  obtain ⟨c0, c1, c2⟩ := HX1.out.cells
  clear hb
  go_wp2_with fail
  refine (implDivided hR ps qs A A' n c n' c' B _ (HI.out.below (HX1.out.2.mono hB)) (HJ.out.below (HX1.out.2.mono hB)) (Nat.le_trans hB (Nat.le_of_lt HX1.out.lt)) (by omega) (by omega) (by omega)).mono ?_
  rintro e w2 ⟨vq, vr, rfl, hoq, hor, hne, hb⟩
  have HX2 := hide (HX1.out.next hb)
  have HO := hide (show Divided (iv (remP ps qs)) w (.returned (.tuple #[vq, vr, .int .i64 0])) w2 by
    obtain ⟨Aq, mq, rfl, hcq⟩ := hoq.form
    obtain ⟨Ar, mr, rfl, hcr⟩ := hor.form
    exact ⟨Aq, _, mq, Ar, mr, rfl, HX2.out.2⟩)
  clear hoq hor hne hb c0 c1 c2
  go_wp2_with fail
  go_ret3
  exact HO.out
end Go.Proofs.Ytfbkmbjbjgfenaa
