/-
  The contracts of PolyGcd, case by case, of the model and of the program, side by side.
  Condition: lists shorter than 2^20.
-/
import Derived.Test.YthafkohopkgckaaPVal1
import Derived.Test.YthafkohopkgckaaPoly7
namespace Go.Proofs.Ythafkohopkgckaa
open Go.RowKit
set_option linter.unusedSimpArgs false
set_option linter.unusedVariables false

set_option maxHeartbeats 4000000 in
theorem gcd_bad (p k g : Int) (z z' : List Int) (hz : z.length ≤ 1048576) (hz' : z'.length ≤ 1048576) (h1 : pErr p k g [z, z'] = 1) : C2 44 p k g (z) (z') (NewIK [] 1) ∧ C2 43 p k g (z) (z') (NewIK [] 1) := by
  have H1 := hide h1
  clear h1
  refine ⟨?_, ?_⟩
  · intro A n c A' n' c' B w hI hJ hB
    have HX := hide (Box.start w 25 p k g)
    have hn : n ≤ 1048576 := by rw [← hI.len]; exact hz
    have hn' : n' ≤ 1048576 := by rw [← hJ.len]; exact hz'
    have HR := hide (rws2b (c := c) (c' := c') (.cells #[.int .i64 p, .int .i64 k, .int .i64 g] 25) 35 hI hJ hB (by omega) (by omega))
    have HXr := hide (HX.out.alloc (.cells #[.slice A n c, .slice A' n' c'] 35))
    have HI := hide hI
    have HJ := hide hJ
    clear hI hJ
    go_enter Try.func44, Try.ntmps44
    go_wp2_with fail
    refine (specPErr p k g _ 2 2 _ _ _ HR.out rfl (box_size _ _ _) (by omega)).mono ?_
    rw [show lists [(A, n, c, z), (A', n', c', z')] = [z, z'] from rfl, H1.out]
    rintro e w1 ⟨rfl, hb⟩
    have HX1 := hide (HXr.out.next hb)
    obtain ⟨c0, c1, c2⟩ := HX1.out.cells
    clear hb
    go_wp2_with fail
    go_ret2
    exact newIK_nil HX1.out.2
  · intro A n c A' n' c' B w hI hJ hB
    have HX := hide (Box.start w 25 p k g)
    have hn : n ≤ 1048576 := by rw [← hI.len]; exact hz
    have hn' : n' ≤ 1048576 := by rw [← hJ.len]; exact hz'
    have HR := hide (rws2b (c := c) (c' := c') (.cells #[.int .i64 p, .int .i64 k, .int .i64 g] 25) 70 hI hJ hB (by omega) (by omega))
    have HXr := hide (HX.out.alloc (.cells #[.slice A n c, .slice A' n' c'] 70))
    have HI := hide hI
    have HJ := hide hJ
    clear hI hJ
    go_enter Try.func43, Try.ntmps43
    go_wp2_with fail
    refine (implPErr p k g _ 2 2 _ _ _ HR.out rfl (box_size _ _ _) (by omega)).mono ?_
    rw [show lists [(A, n, c, z), (A', n', c', z')] = [z, z'] from rfl, H1.out]
    rintro e w1 ⟨rfl, hb⟩
    have HX1 := hide (HXr.out.next hb)
    obtain ⟨c0, c1, c2⟩ := HX1.out.cells
    clear hb
    go_wp2_with fail
    go_ret2
    exact newIK_nil HX1.out.2

set_option maxHeartbeats 4000000 in
theorem gcd_zero5 {R : Fld} {p k g : Int} (hR : FldIs R p k g) (ps qs : List (El R)) (hz : (iv ps).length ≤ 1048576) (hz' : (iv qs).length ≤ 1048576) (hp : Tr ps) (hpl : ps.length ≤ 512) (hq : Tr qs) (hql : qs.length ≤ 512) (h0 : pErr p k g [iv ps, iv qs] = 0) (hpq0 : ps.length = 0 ∧ qs.length = 0) : C2 44 p k g (iv ps) (iv qs) (NewIK [] 5) ∧ C2 43 p k g (iv ps) (iv qs) (NewIK [] 5) := by
  have H0 := hide h0
  clear h0
  refine ⟨?_, ?_⟩
  · intro A n c A' n' c' B w hI hJ hB
    have HX := hide (Box.start w 25 p k g)
    have hn : n ≤ 1048576 := by rw [← hI.len]; exact hz
    have hn' : n' ≤ 1048576 := by rw [← hJ.len]; exact hz'
    have hpn : ps.length = n := by rw [← iv_len]; exact hI.len
    have hqm : qs.length = n' := by rw [← iv_len]; exact hJ.len
    have HR := hide (rws2b (c := c) (c' := c') (.cells #[.int .i64 p, .int .i64 k, .int .i64 g] 25) 35 hI hJ hB (by omega) (by omega))
    have HXr := hide (HX.out.alloc (.cells #[.slice A n c, .slice A' n' c'] 35))
    have HI := hide hI
    have HJ := hide hJ
    clear hI hJ
    have e1 : ((n : Int) == 0) = true := by simp; omega
    have e2 : ((n' : Int) == 0) = true := by simp; omega
    go_enter Try.func44, Try.ntmps44
    go_wp2_with fail
    refine (specPErr p k g _ 2 2 _ _ _ HR.out rfl (box_size _ _ _) (by omega)).mono ?_
    rw [show lists [(A, n, c, iv ps), (A', n', c', iv qs)] = [iv ps, iv qs] from rfl, H0.out]
    rintro e w1 ⟨rfl, hb⟩
    have HX1 := hide (HXr.out.next hb)
    obtain ⟨c0, c1, c2⟩ := HX1.out.cells
    clear hb
    go_wp2_with fail
    go_ret2
    exact newIK_nil HX1.out.2
  · intro A n c A' n' c' B w hI hJ hB
    have HX := hide (Box.start w 25 p k g)
    have hn : n ≤ 1048576 := by rw [← hI.len]; exact hz
    have hn' : n' ≤ 1048576 := by rw [← hJ.len]; exact hz'
    have hpn : ps.length = n := by rw [← iv_len]; exact hI.len
    have hqm : qs.length = n' := by rw [← iv_len]; exact hJ.len
    have HR := hide (rws2b (c := c) (c' := c') (.cells #[.int .i64 p, .int .i64 k, .int .i64 g] 25) 70 hI hJ hB (by omega) (by omega))
    have HXr := hide (HX.out.alloc (.cells #[.slice A n c, .slice A' n' c'] 70))
    have HI := hide hI
    have HJ := hide hJ
    clear hI hJ
    have e1 : ((n : Int) == 0) = true := by simp; omega
    have e2 : ((n' : Int) == 0) = true := by simp; omega
    go_enter Try.func43, Try.ntmps43
    go_wp2_with fail
    refine (implPErr p k g _ 2 2 _ _ _ HR.out rfl (box_size _ _ _) (by omega)).mono ?_
    rw [show lists [(A, n, c, iv ps), (A', n', c', iv qs)] = [iv ps, iv qs] from rfl, H0.out]
    rintro e w1 ⟨rfl, hb⟩
    have HX1 := hide (HXr.out.next hb)
    obtain ⟨c0, c1, c2⟩ := HX1.out.cells
    clear hb
    go_wp2_with fail
    go_ret2
    exact newIK_nil HX1.out.2

set_option maxHeartbeats 4000000 in
theorem gcd_val {R : Fld} {p k g : Int} (hR : FldIs R p k g) (ps qs : List (El R)) (hz : (iv ps).length ≤ 1048576) (hz' : (iv qs).length ≤ 1048576) (hp : Tr ps) (hpl : ps.length ≤ 512) (hq : Tr qs) (hql : qs.length ≤ 512) (h0 : pErr p k g [iv ps, iv qs] = 0) (hpos : 0 < ps.length ∨ 0 < qs.length) : C2 44 p k g (iv ps) (iv qs) (NewIK (iv (gcdM ps qs)) 0) ∧ C2 43 p k g (iv ps) (iv qs) (NewIK (iv (gcdM ps qs)) 0) := by
  have H0 := hide h0
  clear h0
  refine ⟨?_, ?_⟩
  · intro A n c A' n' c' B w hI hJ hB
    have HX := hide (Box.start w 25 p k g)
    have hn : n ≤ 1048576 := by rw [← hI.len]; exact hz
    have hn' : n' ≤ 1048576 := by rw [← hJ.len]; exact hz'
    have hpn : ps.length = n := by rw [← iv_len]; exact hI.len
    have hqm : qs.length = n' := by rw [← iv_len]; exact hJ.len
    have HR := hide (rws2b (c := c) (c' := c') (.cells #[.int .i64 p, .int .i64 k, .int .i64 g] 25) 35 hI hJ hB (by omega) (by omega))
    have HXr := hide (HX.out.alloc (.cells #[.slice A n c, .slice A' n' c'] 35))
    have HI := hide hI
    have HJ := hide hJ
    clear hI hJ
    rcases (show (((n : Int) == 0) = true ∧ ((n' : Int) == 0) = false) ∨ ((n : Int) == 0) = false by simp; omega) with ⟨e1, e2⟩ | e1
    · go_enter Try.func44, Try.ntmps44
      go_wp2_with fail
      refine (specPErr p k g _ 2 2 _ _ _ HR.out rfl (box_size _ _ _) (by omega)).mono ?_
      rw [show lists [(A, n, c, iv ps), (A', n', c', iv qs)] = [iv ps, iv qs] from rfl, H0.out]
      rintro e w1 ⟨rfl, hb⟩
      have HX1 := hide (HXr.out.next hb)
      obtain ⟨c0, c1, c2⟩ := HX1.out.cells
      clear hb
      go_wp2_with fail
      refine (specOwnE A n c B ps _ (HI.out.below (HX1.out.2.mono hB)) (Nat.le_trans hB (Nat.le_of_lt HX1.out.lt)) (by omega)).mono ?_
      rintro e w2 ⟨A1, m1, rfl, hm1, ho, hb⟩
      have HX2 := hide (HX1.out.next hb)
      have HI2 := hide ho.intsE
      rw [hpn] at HI2 ⊢
      clear ho hb c0 c1 c2 hm1
      go_wp2_with fail
      refine (specOwnE A' n' c' B qs _ (HJ.out.below (HX2.out.2.mono hB)) (Nat.le_trans hB (Nat.le_of_lt HX2.out.lt)) (by omega)).mono ?_
      rintro e w3 ⟨A2, m2, rfl, hm2, ho, hb⟩
      have HX3 := hide (HX2.out.next hb)
      have HJ3 := hide ho.intsE
      have HI3 := hide ((HI2.out.below hb).more hb.size)
      rw [hqm] at HJ3 ⊢
      have HS := hide (show Tr ps ∧ Tr qs ∧ (0 < ps.length ∨ 0 < qs.length) from ⟨hp, hq, hpos⟩)
      clear ho hb hm2
      go_wp2_with fail
      go_loopw [9, 10] (fun u v wr => GcRel w p k g 1048576 ps qs u v wr) (fun _ v _ => lenOf v)
      case atStart => exact ⟨A1, A2, n, m1, n', m2, ps, qs, rfl, rfl, HI3.out, HJ3.out, ⟨HS.out.1, HS.out.2.1, rfl, HS.out.2.2⟩, hn, hn', HX3.out⟩
      case round =>
        clear HX HX1 HX2 HX3 HI2 HI3 HJ3 HS HXr hn hn' hpn hqm HI HJ
        obtain ⟨A, A', n, c, m, c', pp, qq, rfl, rfl, hI, hJ, HS, hn, hm, HX⟩ := hrel
        have HX := hide HX
        have HI := hide hI
        have HJ := hide hJ
        have HPN := hide (show pp.length = n by rw [← iv_len]; exact hI.len)
        have HQM := hide (show qq.length = m by rw [← iv_len]; exact hJ.len)
        clear hI hJ
        rcases Nat.eq_zero_or_pos m with h0 | h0
        · obtain ⟨hps, hend⟩ := gc_end HS.out (by rw [HQM.out]; exact h0)
          obtain ⟨le, hle⟩ : ∃ le, le = lastE pp := ⟨_, rfl⟩
          have HE := hide (show trim (mulP pp [le.inv]) = gcdM ps qs by rw [mul_num, hle]; exact hend)
          obtain ⟨d, hd⟩ : ∃ d, d = n - 1 := ⟨_, rfl⟩
          have hn0 : 0 < n := by rw [← HPN.out]; exact hps
          have hdn : d < n := by omega
          have hw1 : IntKind.i64.wrap ((n : Int) - 1) = (d : Int) := by rw [IntWalk.i64_in _ ⟨by omega, by omega⟩]; omega
          obtain ⟨b, off, x, rfl, hb, hx, hc⟩ := HI.out.at_ hdn
          rw [iv_at (by rw [HPN.out]; omega)] at hx
          simp only [Option.some.injEq] at hx
          subst hx
          have hle2 : cf pp d = le := by rw [hle, lastE, HPN.out, hd]
          rw [hle2] at hc
          have HC := hide hc
          have hz : decide (0 < m) = false := by simp; omega
          have HBL := hide hb
          clear hend hle h0 hps hd hle2 hc hb
          go_wp2_with fail
          go_region_held3 (fun w' => w'.cell? ⟨w.heap.size, 0, none⟩ = some (.int .i64 p) ∧ w'.cell? ⟨w.heap.size, 1, none⟩ = some (.int .i64 k) ∧ w'.cell? ⟨w.heap.size, 2, none⟩ = some (.int .i64 g) ∧ w'.cell? ⟨b, off + d, none⟩ = some (.int .i64 (le.val : Int)))
            (first
              | exact ⟨HX.out.drew.cells.1, HX.out.drew.cells.2.1, HX.out.drew.cells.2.2, HC.out⟩
              | exact ⟨HX2.out.cells.1, HX2.out.cells.2.1, HX2.out.cells.2.2, HC2.out⟩
              | exact ⟨(HX2.out.alloc _).cells.1, (HX2.out.alloc _).cells.2.1, (HX2.out.alloc _).cells.2.2, HC2a.out⟩
              | exact ⟨HX3.out.cells.1, HX3.out.cells.2.1, HX3.out.cells.2.2, HC3.out⟩)
            (first
              | (go_at_call 86; refine (specInvE hR le _).mono ?_; rintro e w2 ⟨rfl, hb2⟩; have HX2 := hide (HX.out.drew.next hb2); have HI2 := hide ((HI.out.drew.below hb2).more hb2.size); have HC2 := hide ((hb2.cell (p := ⟨b, off + d, none⟩) HBL.out).trans HC.out); have hbl2 := Nat.lt_of_lt_of_le HBL.out hb2.size; have HC2a := hide ((((Below.refl w2.heap.size w2).alloc (Nat.le_refl _) (.cells #[.int .i64 (le.inv.val : Int)] 2)).cell (p := ⟨b, off + d, none⟩) hbl2).trans HC2.out); have HI2a := hide ((HI2.out.below ((Below.refl w2.heap.size w2).alloc (Nat.le_refl _) (.cells #[.int .i64 (le.inv.val : Int)] 2))).more (B' := w2.heap.size + 1) (Nat.le_succ _)); clear hb2)
              | (go_at_call 71; refine (specMulE' hR pp [le.inv] (some ⟨b, off, none⟩) (some ⟨w2.heap.size, 0, none⟩) n c 1 1 (w2.heap.size + 1) _ HI2a.out (ints_one w2 2 .i64 (le.inv.val : Int)) (by rw [alloc_size]; exact Nat.le_refl _) (by omega) (by omega)).mono ?_; rw [HE.out]; rintro e w3 ⟨A3, c3, rfl, hc3, ho3, hb3⟩; have HX3 := hide ((HX2.out.alloc _).next hb3); have HC3 := hide ((hb3.cell (p := ⟨b, off + d, none⟩) (by rw [alloc_size]; exact Nat.lt_succ_of_lt hbl2)).trans HC2a.out); have HO3 := hide ho3; have hlw := HX2.out.lt; clear ho3 hb3))
          have HF := hide (newIK_of (c := 0) (w := w) HO3.out HX3.out.2 (by rw [alloc_size]; omega))
          clear HO3
          go_wp2_with fail
          go_ret2
          exact HF
        · have HS2 := hide (gc_step HS.out (by rw [HQM.out]; exact h0))
          have HRL := hide (rem_len (p := pp) HS.out.2.1 (by rw [HQM.out]; exact h0))
          obtain ⟨c0, c1, c2⟩ := HX.out.cells
          go_wp2_with fail
          refine (specDivE hR pp qq A A' n c m c' wr.heap.size wr HI.out HJ.out (Nat.le_refl _) (by omega) (by omega) h0).mono ?_
          rintro e w2 ⟨Aq, mq, Ar, cr, rfl, hq2, hr2, hoq, hor, hne, hb⟩
          have HX2 := hide (HX.out.next hb)
          have HOR := hide (hor.intsE)
          have HJ2 := hide ((HJ.out.below hb).more hb.size)
          have hlt : (remP pp qq).length < m := by have := HRL.out; rw [HQM.out] at this; exact this
          obtain ⟨rl, hrl⟩ : ∃ rl, rl = (remP pp qq).length := ⟨_, rfl⟩
          rw [← hrl] at HOR hlt ⊢
          clear hoq hor hne hb c0 c1 c2 hq2 hr2 hrl
          go_wp2_with fail
          go_roundw
          case rel => exact ⟨A', Ar, m, c', rl, cr, qq, remP pp qq, rfl, rfl, HJ2.out, HOR.out, HS2, hm, by omega, HX2.out⟩
          case measure => simp only [lenOf]; omega
    · go_enter Try.func44, Try.ntmps44
      go_wp2_with fail
      refine (specPErr p k g _ 2 2 _ _ _ HR.out rfl (box_size _ _ _) (by omega)).mono ?_
      rw [show lists [(A, n, c, iv ps), (A', n', c', iv qs)] = [iv ps, iv qs] from rfl, H0.out]
      rintro e w1 ⟨rfl, hb⟩
      have HX1 := hide (HXr.out.next hb)
      obtain ⟨c0, c1, c2⟩ := HX1.out.cells
      clear hb
      go_wp2_with fail
      refine (specOwnE A n c B ps _ (HI.out.below (HX1.out.2.mono hB)) (Nat.le_trans hB (Nat.le_of_lt HX1.out.lt)) (by omega)).mono ?_
      rintro e w2 ⟨A1, m1, rfl, hm1, ho, hb⟩
      have HX2 := hide (HX1.out.next hb)
      have HI2 := hide ho.intsE
      rw [hpn] at HI2 ⊢
      clear ho hb c0 c1 c2 hm1
      go_wp2_with fail
      refine (specOwnE A' n' c' B qs _ (HJ.out.below (HX2.out.2.mono hB)) (Nat.le_trans hB (Nat.le_of_lt HX2.out.lt)) (by omega)).mono ?_
      rintro e w3 ⟨A2, m2, rfl, hm2, ho, hb⟩
      have HX3 := hide (HX2.out.next hb)
      have HJ3 := hide ho.intsE
      have HI3 := hide ((HI2.out.below hb).more hb.size)
      rw [hqm] at HJ3 ⊢
      have HS := hide (show Tr ps ∧ Tr qs ∧ (0 < ps.length ∨ 0 < qs.length) from ⟨hp, hq, hpos⟩)
      clear ho hb hm2
      go_wp2_with fail
      go_loopw [9, 10] (fun u v wr => GcRel w p k g 1048576 ps qs u v wr) (fun _ v _ => lenOf v)
      case atStart => exact ⟨A1, A2, n, m1, n', m2, ps, qs, rfl, rfl, HI3.out, HJ3.out, ⟨HS.out.1, HS.out.2.1, rfl, HS.out.2.2⟩, hn, hn', HX3.out⟩
      case round =>
        clear HX HX1 HX2 HX3 HI2 HI3 HJ3 HS HXr hn hn' hpn hqm HI HJ
        obtain ⟨A, A', n, c, m, c', pp, qq, rfl, rfl, hI, hJ, HS, hn, hm, HX⟩ := hrel
        have HX := hide HX
        have HI := hide hI
        have HJ := hide hJ
        have HPN := hide (show pp.length = n by rw [← iv_len]; exact hI.len)
        have HQM := hide (show qq.length = m by rw [← iv_len]; exact hJ.len)
        clear hI hJ
        rcases Nat.eq_zero_or_pos m with h0 | h0
        · obtain ⟨hps, hend⟩ := gc_end HS.out (by rw [HQM.out]; exact h0)
          obtain ⟨le, hle⟩ : ∃ le, le = lastE pp := ⟨_, rfl⟩
          have HE := hide (show trim (mulP pp [le.inv]) = gcdM ps qs by rw [mul_num, hle]; exact hend)
          obtain ⟨d, hd⟩ : ∃ d, d = n - 1 := ⟨_, rfl⟩
          have hn0 : 0 < n := by rw [← HPN.out]; exact hps
          have hdn : d < n := by omega
          have hw1 : IntKind.i64.wrap ((n : Int) - 1) = (d : Int) := by rw [IntWalk.i64_in _ ⟨by omega, by omega⟩]; omega
          obtain ⟨b, off, x, rfl, hb, hx, hc⟩ := HI.out.at_ hdn
          rw [iv_at (by rw [HPN.out]; omega)] at hx
          simp only [Option.some.injEq] at hx
          subst hx
          have hle2 : cf pp d = le := by rw [hle, lastE, HPN.out, hd]
          rw [hle2] at hc
          have HC := hide hc
          have hz : decide (0 < m) = false := by simp; omega
          have HBL := hide hb
          clear hend hle h0 hps hd hle2 hc hb
          go_wp2_with fail
          go_region_held3 (fun w' => w'.cell? ⟨w.heap.size, 0, none⟩ = some (.int .i64 p) ∧ w'.cell? ⟨w.heap.size, 1, none⟩ = some (.int .i64 k) ∧ w'.cell? ⟨w.heap.size, 2, none⟩ = some (.int .i64 g) ∧ w'.cell? ⟨b, off + d, none⟩ = some (.int .i64 (le.val : Int)))
            (first
              | exact ⟨HX.out.drew.cells.1, HX.out.drew.cells.2.1, HX.out.drew.cells.2.2, HC.out⟩
              | exact ⟨HX2.out.cells.1, HX2.out.cells.2.1, HX2.out.cells.2.2, HC2.out⟩
              | exact ⟨(HX2.out.alloc _).cells.1, (HX2.out.alloc _).cells.2.1, (HX2.out.alloc _).cells.2.2, HC2a.out⟩
              | exact ⟨HX3.out.cells.1, HX3.out.cells.2.1, HX3.out.cells.2.2, HC3.out⟩)
            (first
              | (go_at_call 86; refine (specInvE hR le _).mono ?_; rintro e w2 ⟨rfl, hb2⟩; have HX2 := hide (HX.out.drew.next hb2); have HI2 := hide ((HI.out.drew.below hb2).more hb2.size); have HC2 := hide ((hb2.cell (p := ⟨b, off + d, none⟩) HBL.out).trans HC.out); have hbl2 := Nat.lt_of_lt_of_le HBL.out hb2.size; have HC2a := hide ((((Below.refl w2.heap.size w2).alloc (Nat.le_refl _) (.cells #[.int .i64 (le.inv.val : Int)] 2)).cell (p := ⟨b, off + d, none⟩) hbl2).trans HC2.out); have HI2a := hide ((HI2.out.below ((Below.refl w2.heap.size w2).alloc (Nat.le_refl _) (.cells #[.int .i64 (le.inv.val : Int)] 2))).more (B' := w2.heap.size + 1) (Nat.le_succ _)); clear hb2)
              | (go_at_call 71; refine (specMulE' hR pp [le.inv] (some ⟨b, off, none⟩) (some ⟨w2.heap.size, 0, none⟩) n c 1 1 (w2.heap.size + 1) _ HI2a.out (ints_one w2 2 .i64 (le.inv.val : Int)) (by rw [alloc_size]; exact Nat.le_refl _) (by omega) (by omega)).mono ?_; rw [HE.out]; rintro e w3 ⟨A3, c3, rfl, hc3, ho3, hb3⟩; have HX3 := hide ((HX2.out.alloc _).next hb3); have HC3 := hide ((hb3.cell (p := ⟨b, off + d, none⟩) (by rw [alloc_size]; exact Nat.lt_succ_of_lt hbl2)).trans HC2a.out); have HO3 := hide ho3; have hlw := HX2.out.lt; clear ho3 hb3))
          have HF := hide (newIK_of (c := 0) (w := w) HO3.out HX3.out.2 (by rw [alloc_size]; omega))
          clear HO3
          go_wp2_with fail
          go_ret2
          exact HF
        · have HS2 := hide (gc_step HS.out (by rw [HQM.out]; exact h0))
          have HRL := hide (rem_len (p := pp) HS.out.2.1 (by rw [HQM.out]; exact h0))
          obtain ⟨c0, c1, c2⟩ := HX.out.cells
          go_wp2_with fail
          refine (specDivE hR pp qq A A' n c m c' wr.heap.size wr HI.out HJ.out (Nat.le_refl _) (by omega) (by omega) h0).mono ?_
          rintro e w2 ⟨Aq, mq, Ar, cr, rfl, hq2, hr2, hoq, hor, hne, hb⟩
          have HX2 := hide (HX.out.next hb)
          have HOR := hide (hor.intsE)
          have HJ2 := hide ((HJ.out.below hb).more hb.size)
          have hlt : (remP pp qq).length < m := by have := HRL.out; rw [HQM.out] at this; exact this
          obtain ⟨rl, hrl⟩ : ∃ rl, rl = (remP pp qq).length := ⟨_, rfl⟩
          rw [← hrl] at HOR hlt ⊢
          clear hoq hor hne hb c0 c1 c2 hq2 hr2 hrl
          go_wp2_with fail
          go_roundw
          case rel => exact ⟨A', Ar, m, c', rl, cr, qq, remP pp qq, rfl, rfl, HJ2.out, HOR.out, HS2, hm, by omega, HX2.out⟩
          case measure => simp only [lenOf]; omega
  · intro A n c A' n' c' B w hI hJ hB
    have HX := hide (Box.start w 25 p k g)
    have hn : n ≤ 1048576 := by rw [← hI.len]; exact hz
    have hn' : n' ≤ 1048576 := by rw [← hJ.len]; exact hz'
    have hpn : ps.length = n := by rw [← iv_len]; exact hI.len
    have hqm : qs.length = n' := by rw [← iv_len]; exact hJ.len
    have HR := hide (rws2b (c := c) (c' := c') (.cells #[.int .i64 p, .int .i64 k, .int .i64 g] 25) 70 hI hJ hB (by omega) (by omega))
    have HXr := hide (HX.out.alloc (.cells #[.slice A n c, .slice A' n' c'] 70))
    have HI := hide hI
    have HJ := hide hJ
    clear hI hJ
    rcases (show (((n : Int) == 0) = true ∧ ((n' : Int) == 0) = false) ∨ ((n : Int) == 0) = false by simp; omega) with ⟨e1, e2⟩ | e1
    · go_enter Try.func43, Try.ntmps43
      go_wp2_with fail
      refine (implPErr p k g _ 2 2 _ _ _ HR.out rfl (box_size _ _ _) (by omega)).mono ?_
      rw [show lists [(A, n, c, iv ps), (A', n', c', iv qs)] = [iv ps, iv qs] from rfl, H0.out]
      rintro e w1 ⟨rfl, hb⟩
      have HX1 := hide (HXr.out.next hb)
      obtain ⟨c0, c1, c2⟩ := HX1.out.cells
      clear hb
      go_wp2_with fail
      refine (implGcdE hR ps qs A A' n c n' c' B _ (HI.out.below (HX1.out.2.mono hB)) (HJ.out.below (HX1.out.2.mono hB)) (Nat.le_trans hB (Nat.le_of_lt HX1.out.lt)) hp hq hpos 1048576 hn hn' (by omega)).mono ?_
      rintro e w2 ⟨A1, m1, rfl, hm1, ho, hb⟩
      have HX2 := hide (HX1.out.next hb)
      have HO := hide (newIK_of (c := 0) ho HX2.out.2 (Nat.le_of_lt HX1.out.lt))
      clear ho hb c0 c1 c2
      go_wp2_with fail
      go_ret2
      exact HO
    · go_enter Try.func43, Try.ntmps43
      go_wp2_with fail
      refine (implPErr p k g _ 2 2 _ _ _ HR.out rfl (box_size _ _ _) (by omega)).mono ?_
      rw [show lists [(A, n, c, iv ps), (A', n', c', iv qs)] = [iv ps, iv qs] from rfl, H0.out]
      rintro e w1 ⟨rfl, hb⟩
      have HX1 := hide (HXr.out.next hb)
      obtain ⟨c0, c1, c2⟩ := HX1.out.cells
      clear hb
      go_wp2_with fail
      refine (implGcdE hR ps qs A A' n c n' c' B _ (HI.out.below (HX1.out.2.mono hB)) (HJ.out.below (HX1.out.2.mono hB)) (Nat.le_trans hB (Nat.le_of_lt HX1.out.lt)) hp hq hpos 1048576 hn hn' (by omega)).mono ?_
      rintro e w2 ⟨A1, m1, rfl, hm1, ho, hb⟩
      have HX2 := hide (HX1.out.next hb)
      have HO := hide (newIK_of (c := 0) ho HX2.out.2 (Nat.le_of_lt HX1.out.lt))
      clear ho hb c0 c1 c2
      go_wp2_with fail
      go_ret2
      exact HO

section
variable (p k g : Int) (z z' : List Int) (hz : z.length ≤ 1048576) (hz' : z'.length ≤ 1048576)
include hz hz'
theorem gcd_key : ∃ (r : List Int) (c : Int), r.length ≤ 1048576 ∧ C2 44 p k g z z' (NewIK r c) ∧ C2 43 p k g z z' (NewIK r c) ∧
    (c ≠ 0 ∨ (c = 0 ∧ Good2 p k g z z' fun R ps qs => r = iv (gcdM ps qs) ∧ (0 < ps.length ∨ 0 < qs.length))) := by
  rcases pErr2 p k g z z' with h1 | ⟨h0, hf, R, ps, qs, hR, rfl, hp, hpl, rfl, hq, hql⟩
  · exact ⟨[], 1, by simp, (gcd_bad p k g z z' hz hz' h1).1, (gcd_bad p k g z z' hz hz' h1).2, .inl (by decide)⟩
  · by_cases hb : ps.length = 0 ∧ qs.length = 0
    · have h := gcd_zero5 hR ps qs hz hz' hp hpl hq hql h0 hb
      exact ⟨[], 5, by simp, h.1, h.2, .inl (by decide)⟩
    · have hpos : 0 < ps.length ∨ 0 < qs.length := by omega
      have h := gcd_val hR ps qs hz hz' hp hpl hq hql h0 hpos
      obtain ⟨_, _, _, _, _, hgl⟩ := gcdM_facts hp hq hpos
      exact ⟨iv (gcdM ps qs), 0, by rw [iv_len]; omega, h.1, h.2, .inr ⟨rfl, hf, R, ps, qs, hR, rfl, rfl, hp, hpl, hq, hql, rfl, hpos⟩⟩
end
end Go.Proofs.Ythafkohopkgckaa
