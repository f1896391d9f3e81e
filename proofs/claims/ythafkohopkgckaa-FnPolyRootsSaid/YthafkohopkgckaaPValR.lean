/-
  The contracts of PolyRoots, case by case, of the model and of the program, side by side.
  Condition: lists shorter than 2^20.
-/
import Derived.Test.YthafkohopkgckaaPVal1
import Derived.Test.YthafkohopkgckaaPoly6
namespace Go.Proofs.Ythafkohopkgckaa
open Go.RowKit
set_option linter.unusedSimpArgs false
set_option linter.unusedVariables false

set_option maxHeartbeats 4000000 in
theorem roots_bad (p k g : Int) (z : List Int) (hz : z.length ≤ 1048576) (h1 : pErr p k g [z] = 1) : C1 38 p k g (z) (NewIK [] 1) ∧ C1 37 p k g (z) (NewIK [] 1) := by
  have H1 := hide h1
  clear h1
  refine ⟨?_, ?_⟩
  · intro A n c B w hI hB
    have HX := hide (Box.start w 25 p k g)
    have hn : n ≤ 1048576 := by rw [← hI.len]; exact hz
    have HR := hide (rws1b (c := c) (.cells #[.int .i64 p, .int .i64 k, .int .i64 g] 25) 35 hI hB (by omega))
    have HXr := hide (HX.out.alloc (.cells #[.slice A n c] 35))
    have HI := hide hI
    clear hI
    go_enter Try.func38, Try.ntmps38
    go_wp2_with fail
    refine (specPErr p k g _ 1 1 _ _ _ HR.out rfl (box_size _ _ _) (by omega)).mono ?_
    rw [show lists [(A, n, c, z)] = [z] from rfl, H1.out]
    rintro e w1 ⟨rfl, hb⟩
    have HX1 := hide (HXr.out.next hb)
    obtain ⟨c0, c1, c2⟩ := HX1.out.cells
    clear hb
    go_wp2_with fail
    go_ret2
    exact newIK_nil HX1.out.2
  · intro A n c B w hI hB
    have HX := hide (Box.start w 25 p k g)
    have hn : n ≤ 1048576 := by rw [← hI.len]; exact hz
    have HR := hide (rws1b (c := c) (.cells #[.int .i64 p, .int .i64 k, .int .i64 g] 25) 70 hI hB (by omega))
    have HXr := hide (HX.out.alloc (.cells #[.slice A n c] 70))
    have HI := hide hI
    clear hI
    go_enter Try.func37, Try.ntmps37
    go_wp2_with fail
    refine (implPErr p k g _ 1 1 _ _ _ HR.out rfl (box_size _ _ _) (by omega)).mono ?_
    rw [show lists [(A, n, c, z)] = [z] from rfl, H1.out]
    rintro e w1 ⟨rfl, hb⟩
    have HX1 := hide (HXr.out.next hb)
    obtain ⟨c0, c1, c2⟩ := HX1.out.cells
    clear hb
    go_wp2_with fail
    go_ret2
    exact newIK_nil HX1.out.2

set_option maxHeartbeats 4000000 in
theorem roots_zero5 {R : Fld} {p k g : Int} (hR : FldIs R p k g) (ps : List (El R)) (hz : (iv ps).length ≤ 1048576) (hp : Tr ps) (hpl : ps.length ≤ 512) (h0 : pErr p k g [iv ps] = 0) (hp0 : ps.length = 0) : C1 38 p k g (iv ps) (NewIK [] 5) ∧ C1 37 p k g (iv ps) (NewIK [] 5) := by
  have H0 := hide h0
  clear h0
  refine ⟨?_, ?_⟩
  · intro A n c B w hI hB
    have HX := hide (Box.start w 25 p k g)
    have hn : n ≤ 1048576 := by rw [← hI.len]; exact hz
    have hpn : ps.length = n := by rw [← iv_len]; exact hI.len
    have HR := hide (rws1b (c := c) (.cells #[.int .i64 p, .int .i64 k, .int .i64 g] 25) 35 hI hB (by omega))
    have HXr := hide (HX.out.alloc (.cells #[.slice A n c] 35))
    have HI := hide hI
    clear hI
    have e1 : ((n : Int) == 0) = true := by simp; omega
    go_enter Try.func38, Try.ntmps38
    go_wp2_with fail
    refine (specPErr p k g _ 1 1 _ _ _ HR.out rfl (box_size _ _ _) (by omega)).mono ?_
    rw [show lists [(A, n, c, iv ps)] = [iv ps] from rfl, H0.out]
    rintro e w1 ⟨rfl, hb⟩
    have HX1 := hide (HXr.out.next hb)
    obtain ⟨c0, c1, c2⟩ := HX1.out.cells
    clear hb
    go_wp2_with fail
    go_ret2
    exact newIK_nil HX1.out.2
  · intro A n c B w hI hB
    have HX := hide (Box.start w 25 p k g)
    have hn : n ≤ 1048576 := by rw [← hI.len]; exact hz
    have hpn : ps.length = n := by rw [← iv_len]; exact hI.len
    have HR := hide (rws1b (c := c) (.cells #[.int .i64 p, .int .i64 k, .int .i64 g] 25) 70 hI hB (by omega))
    have HXr := hide (HX.out.alloc (.cells #[.slice A n c] 70))
    have HI := hide hI
    clear hI
    have e1 : ((n : Int) == 0) = true := by simp; omega
    go_enter Try.func37, Try.ntmps37
    go_wp2_with fail
    refine (implPErr p k g _ 1 1 _ _ _ HR.out rfl (box_size _ _ _) (by omega)).mono ?_
    rw [show lists [(A, n, c, iv ps)] = [iv ps] from rfl, H0.out]
    rintro e w1 ⟨rfl, hb⟩
    have HX1 := hide (HXr.out.next hb)
    obtain ⟨c0, c1, c2⟩ := HX1.out.cells
    clear hb
    go_wp2_with fail
    go_ret2
    exact newIK_nil HX1.out.2

set_option maxHeartbeats 4000000 in
theorem roots_val {R : Fld} {p k g : Int} (hR : FldIs R p k g) (ps : List (El R)) (hz : (iv ps).length ≤ 1048576) (hp : Tr ps) (hpl : ps.length ≤ 512) (h0 : pErr p k g [iv ps] = 0) (hp0 : 0 < ps.length) : C1 38 p k g (iv ps) (NewIK (iv (rootsE ps R.q)) 0) ∧ C1 37 p k g (iv ps) (NewIK (iv (rootsE ps R.q)) 0) := by
  have H0 := hide h0
  clear h0
  have hq := hR.le
  have hq3 := R.three
  refine ⟨?_, ?_⟩
  · intro A n c B w hI hB
    have HX := hide (Box.start w 25 p k g)
    have hn : n ≤ 1048576 := by rw [← hI.len]; exact hz
    have hpn : ps.length = n := by rw [← iv_len]; exact hI.len
    have HR := hide (rws1b (c := c) (.cells #[.int .i64 p, .int .i64 k, .int .i64 g] 25) 35 hI hB (by omega))
    have HXr := hide (HX.out.alloc (.cells #[.slice A n c] 35))
    have HI := hide hI
    clear hI
    have e1 : ((n : Int) == 0) = false := by simp; omega
    go_enter Try.func38, Try.ntmps38
    go_wp2_with fail
    refine (specPErr p k g _ 1 1 _ _ _ HR.out rfl (box_size _ _ _) (by omega)).mono ?_
    rw [show lists [(A, n, c, iv ps)] = [iv ps] from rfl, H0.out]
    rintro e w1 ⟨rfl, hb⟩
    have HX1 := hide (HXr.out.next hb)
    obtain ⟨c0, c1, c2⟩ := HX1.out.cells
    clear hb
    go_wp2_with fail
    have HXs := hide (HX1.out.alloc (.cells #[] 2))
    have HOs := hide ((Own.lit0 w1 2 .i64).low (base' := w.heap.size + 1) HX1.out.lt)
    go_loopw [7, 8] (fun v i wr => RtRel w p k g ps v i wr) (fun _ i _ => R.q - (intOf i).toNat)
    case atStart => exact ⟨0, by omega, rfl, HOs.out, HXs.out⟩
    case round =>
      clear HX HX1 HXs HOs HXr c0 c1 c2
      obtain ⟨v, rfl⟩ : ∃ v : Value, v = u7 := ⟨_, rfl⟩
      obtain ⟨j, hj, rfl, HO, HX⟩ := hrel
      have HX := hide HX
      have HO := hide HO
      obtain ⟨c0, c1, c2⟩ := HX.out.cells
      go_wp2_with fail
      refine (specSize hR.kind _).mono ?_
      rintro e w4 ⟨rfl, hb⟩
      have HX4 := hide (HX.out.next hb)
      have HO4 := hide (HO.out.below hb (Nat.le_refl _))
      clear hb c0 c1 c2 HX HO
      by_cases hlt : j < R.q
      · obtain ⟨x, rfl⟩ : ∃ x : El R, j = x.val := ⟨⟨j, hlt⟩, rfl⟩
        have HI1 := hide (HI.out.below (HX4.out.2.mono hB))
        obtain ⟨c0, c1, c2⟩ := HX4.out.cells
        go_wp2_with fail
        refine (specEvalE hR x ps A n c B _ HI1.out (Nat.le_trans hB (Nat.le_of_lt HX4.out.lt)) (by omega)).mono ?_
        rintro e w2 ⟨rfl, hb2⟩
        have HX2 := hide (HX4.out.next hb2)
        have HO2 := hide (HO4.out.below hb2 (Nat.le_refl _))
        have hwl : w.heap.size + 1 ≤ w2.heap.size := HX2.out.lt
        have HVB := hide (show ∀ b, v.ownBlock = some b → w.heap.size < b from fun b hb => (HO2.out.lt hb).1)
        have hlen : (iv (rootsE ps x.val)).length + 1 ≤ 100000 := by rw [iv_len]; have := (roots_facts ps x.val).1; omega
        clear hb2 c0 c1 c2
        by_cases hz : ev x ps = 0
        · have HZ := hide (roots_yes hz)
          rw [hz]
          clear hz
          go_wp2_with (at_builtin; refine wpList_app1 w2 rfl _ _ _ rfl elem64 (w.heap.size + 1) v _ rfl HO2.out (x.val : Int) rfl (by omega) hwl ?_; intro v3 w3 hown hgrow)
          have HO3 := hide (show Own w3 (w.heap.size + 1) 2 .i64 v3 (iv (rootsE ps (x.val + 1))) by rw [HZ.out, iv_app, iv_one]; exact hown)
          have HX3 := hide (HX2.out.grow' hgrow HVB.out)
          clear hown hgrow
          go_wp2_with fail
          go_roundw
          case rel => exact ⟨x.val + 1, by omega, by go_num, HO3.out, HX3.out⟩
          case measure => simp [intOf]; omega
        · have HZ := hide (roots_no hz)
          have hv : ((((ev x ps).val : Nat) : Int) == 0) = false := by have := val_ne hz; simp; omega
          have HO3 := hide (show Own w2 (w.heap.size + 1) 2 .i64 v (iv (rootsE ps (x.val + 1))) by rw [HZ.out]; exact HO2.out)
          clear hz
          go_wp2_with fail
          go_roundw
          case rel => exact ⟨x.val + 1, by omega, by go_num, HO3.out, HX2.out⟩
          case measure => simp [intOf]; omega
      · obtain rfl : j = R.q := by omega
        have HF := hide (newIK_of (c := 0) HO4.out HX4.out.2 (Nat.le_succ _))
        go_wp2_with fail
        go_ret2
        exact HF
  · intro A n c B w hI hB
    have HX := hide (Box.start w 25 p k g)
    have hn : n ≤ 1048576 := by rw [← hI.len]; exact hz
    have hpn : ps.length = n := by rw [← iv_len]; exact hI.len
    have HR := hide (rws1b (c := c) (.cells #[.int .i64 p, .int .i64 k, .int .i64 g] 25) 70 hI hB (by omega))
    have HXr := hide (HX.out.alloc (.cells #[.slice A n c] 70))
    have HI := hide hI
    clear hI
    have e1 : ((n : Int) == 0) = false := by simp; omega
    go_enter Try.func37, Try.ntmps37
    go_wp2_with fail
    refine (implPErr p k g _ 1 1 _ _ _ HR.out rfl (box_size _ _ _) (by omega)).mono ?_
    rw [show lists [(A, n, c, iv ps)] = [iv ps] from rfl, H0.out]
    rintro e w1 ⟨rfl, hb⟩
    have HX1 := hide (HXr.out.next hb)
    obtain ⟨c0, c1, c2⟩ := HX1.out.cells
    clear hb
    go_wp2_with fail
    refine (implRootsE hR ps A n c B _ (HI.out.below (HX1.out.2.mono hB)) (Nat.le_trans hB (Nat.le_of_lt HX1.out.lt)) (by omega)).mono ?_
    rintro e w2 ⟨A1, m1, rfl, hm1, ho, hb⟩
    have HX2 := hide (HX1.out.next hb)
    have HO := hide (newIK_of (c := 0) ho HX2.out.2 (Nat.le_of_lt HX1.out.lt))
    clear ho hb c0 c1 c2
    go_wp2_with fail
    go_ret2
    exact HO

theorem roots_key (p k g : Int) (z : List Int) (hz : z.length ≤ 1048576) : ∃ (r : List Int) (c : Int), r.length ≤ 1048576 ∧ C1 38 p k g z (NewIK r c) ∧ C1 37 p k g z (NewIK r c) ∧
    (c ≠ 0 ∨ (c = 0 ∧ Good1 p k g z fun R ps => r = iv (rootsE ps R.q) ∧ 0 < ps.length)) := by
  rcases pErr1 p k g z with h1 | ⟨h0, hf, R, ps, hR, rfl, hp, hpl⟩
  · exact ⟨[], 1, by simp, (roots_bad p k g z hz h1).1, (roots_bad p k g z hz h1).2, .inl (by decide)⟩
  · by_cases hb : 0 < ps.length
    · have h := roots_val hR ps hz hp hpl h0 hb
      exact ⟨iv (rootsE ps R.q), 0, by rw [iv_len]; have := (roots_facts ps R.q).1; have := hR.le; omega, h.1, h.2, .inr ⟨rfl, hf, R, ps, hR, rfl, hp, hpl, rfl, hb⟩⟩
    · have h := roots_zero5 hR ps hz hp hpl h0 (by omega)
      exact ⟨[], 5, by simp, h.1, h.2, .inl (by decide)⟩
end Go.Proofs.Ythafkohopkgckaa
