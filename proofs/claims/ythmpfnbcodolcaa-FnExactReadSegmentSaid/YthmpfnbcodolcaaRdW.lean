/-
  The law FnExactReadSegment, walked, given the program's textOf.
  Condition: as the statement says.
-/
import Derived.Test.YthmpfnbcodolcaaRdH
import Derived.Test.YthmpfnbcodolcaaShell
import Derived.Test.YthmpfnbcodolcaaDist
import Derived.Test.YthmpfnbcodolcaaLawKit
import Derived.Test.YthmpfnbcodolcaaSq2
namespace Go.Proofs.Ythmpfnbcodolcaa
open Go Go.RowKit
set_option linter.unusedVariables false
set_option linter.unusedSimpArgs false

set_option maxRecDepth 100000 in
set_option maxHeartbeats 2000000 in
theorem readSegmentWalkT (hTX : TextOf) (a0 : Option Addr) (n0 c0 : Nat) (z0 : List Int) (a1 : Int) (w : World) (h0 : Came .i64 w a0 n0 c0 z0) (h1 : (Lit.int .i64 a1).wf = true) :
    Calls Try.prog 6 #[.slice a0 n0 c0, .int .i64 a1] w fun e w' => e = .returned (.bool true) ∧ Below w.heap.size w w' := by
  obtain ⟨hI0, hnc0, hcm0, hwf0⟩ := h0
  have HI0 := hide hI0
  obtain rfl : z0.length = n0 := hI0.len
  clear hI0 hwf0 h1
  unfold maxLen at hcm0
  by_cases hbig0 : 1048576 < z0.length
  · go_enter Try.func6, Try.ntmps6
    go_wp2_with fail
    go_ret
    exact ⟨rfl, Below.refl _ _⟩
  have hn0 : z0.length ≤ 1099511627776 := by omega
  have hn1 : z0.length ≤ 1048576 := by omega
  have HSP := hide (fun A n c B w hI hB hn => specRs A n c B z0 a1 w hI hB hn)
  have HIM := hide (fun A n c B w hI hB hn hc hcc => implRs hTX A n c B z0 a1 w hI hB hn hc hcc)
  unfold RsPost at HSP HIM
  obtain ⟨m, hm⟩ : ∃ m, rsM z0 a1 = m := ⟨_, rfl⟩
  obtain ⟨s, hs⟩ : ∃ s, rsS z0 a1 = s := ⟨_, rfl⟩
  obtain ⟨q, hq⟩ : ∃ q, rsE z0 a1 = q := ⟨_, rfl⟩
  obtain ⟨k, hk⟩ : ∃ k, rsK z0 a1 = k := ⟨_, rfl⟩
  rw [hm, hs, hq, hk] at HSP HIM
  have e1 : (q != q) = false := by simp
  have e2 : (k != k) = false := by simp
  clear hm hs hq hk
  go_enter Try.func6, Try.ntmps6
  go_wp2_with fail
  refine (toInts a0 _ c0 z0 w HI0.out hn0).mono ?_
  rintro e w1 ⟨A1, c1, rfl, hc1, ho1, hb1⟩
  have HO1 := hide ho1
  have HB1 := hide hb1
  clear ho1 hb1
  go_wp2_with fail
  refine (HSP.out A1 _ c1 _ w1 HO1.out.ints (Nat.le_refl _) hn1).mono ?_
  rintro e w2 ⟨rfl, hb2⟩
  have HY2 := hide (SBox.start w2 26 m s)
  have HB2 := hide ((HB1.out.trans (hb2.mono HB1.out.size)).trans (HY2.out.2.mono (HB1.out.trans (hb2.mono HB1.out.size)).size))
  clear hb2 HO1
  go_wp2_with fail
  refine (toInts a0 _ c0 z0 _ ((HI0.out.below HB2.out).more HB2.out.size) hn0).mono ?_
  rintro e w3 ⟨A3, c3, rfl, hc3, ho3, hb3⟩
  have HO3 := hide ho3
  have HB3 := hide (HB2.out.trans (hb3.mono HB2.out.size))
  have HY3 := hide (HY2.out.next hb3)
  clear ho3 hb3
  go_wp2_with fail
  refine (HIM.out A3 _ c3 _ w3 HO3.out.ints (Nat.le_refl _) hn1 hc3 HO3.out.cap).mono ?_
  rintro e w4 ⟨rfl, hb4⟩
  have HZ4 := hide (SBox.start w4 26 m s)
  have HB4a := hide (HB3.out.trans (hb4.mono HB3.out.size))
  have HB4 := hide (HB4a.out.trans (HZ4.out.2.mono HB4a.out.size))
  have HY4 := hide ((HY3.out.next hb4).next HZ4.out.2)
  have HO4 := hide ((HO3.out.below hb4 (Nat.le_refl _)).below HZ4.out.2 (Nat.le_refl _))
  clear hb4 HO3 HY2 HY3
  obtain ⟨y0, y1⟩ := HY4.out.cells
  obtain ⟨z0', z1'⟩ := HZ4.out.cells
  go_wp2_with fail
  refine (eqSeg_same m s _).mono ?_
  rintro e w5 ⟨rfl, hb5⟩
  have HB5 := hide (HB4.out.trans (hb5.mono HB4.out.size))
  have HO5 := hide (HO4.out.below hb5 (Nat.le_refl _))
  clear hb5 HO4 HY4 HZ4 y0 y1 z0' z1'
  go_wp2_with fail
  refine (toInts a0 _ c0 z0 _ ((HI0.out.below HB5.out).more HB5.out.size) hn0).mono ?_
  rintro e w6 ⟨A6, c6, rfl, hc6, ho6, hb6⟩
  have HO6 := hide ho6
  have HG6 := hide (HO5.out.below hb6 (Nat.le_refl _))
  have HB6 := hide (HB5.out.trans (hb6.mono HB5.out.size))
  clear ho6 hb6 HO5
  go_wp2_with fail
  refine (eqSame A3 _ c3 _ A6 _ c6 _ z0 w6 HG6.out.ints HO6.out.ints hn0).mono ?_
  rintro e w7 ⟨rfl, hb7⟩
  have HB7 := hide (HB6.out.trans (hb7.mono HB6.out.size))
  clear hb7
  go_wp2_with fail
  go_ret
  exact ⟨rfl, HB7.out⟩
end Go.Proofs.Ythmpfnbcodolcaa
