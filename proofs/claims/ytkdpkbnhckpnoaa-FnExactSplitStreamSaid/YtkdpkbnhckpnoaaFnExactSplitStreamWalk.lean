/-
  The walk of the law FnExactSplitStream: it returns true, and nothing that was there before is changed.
  Condition: none.
-/
import Derived.Test.YtkdpkbnhckpnoaaYSS
import Derived.Test.YtkdpkbnhckpnoaaYShell
namespace Go.Proofs.Ytkdpkbnhckpnoaa
open Go.RowKit
set_option linter.unusedVariables false

set_option maxRecDepth 100000 in
set_option maxHeartbeats 4000000 in
theorem fnExactSplitStreamWalk (a0x a0y a0z a0d a0k a0c : Int) (a1 : Option Addr) (n1 c1 : Nat) (z1 : List Int) (w : World) (h0x : (Lit.int .i64 a0x).wf = true) (h0y : (Lit.int .i64 a0y).wf = true) (h0z : (Lit.int .i64 a0z).wf = true) (h0d : (Lit.int .i64 a0d).wf = true) (h0k : (Lit.int .i64 a0k).wf = true) (h0c : (Lit.int .i64 a0c).wf = true) (h1 : Came .i64 w a1 n1 c1 z1) :
    Calls Try.prog 8 #[.agg #[.int .i64 a0x, .int .i64 a0y, .int .i64 a0z, .int .i64 a0d, .int .i64 a0k, .int .i64 a0c], .slice a1 n1 c1] w fun e w' => e = .returned (.bool true) ∧ Below w.heap.size w w' := by
  have hD := bd_i64 h0d
  have hC := bd_i64 h0c
  clear h0x h0y h0z h0d h0k h0c
  have HX0 := hide (KBox.start w a0x a0y a0z a0d a0k a0c)
  obtain ⟨hI1, hnc1, hcm1, hwf1⟩ := h1
  have HI1 := hide hI1
  obtain rfl : z1.length = n1 := hI1.len
  clear hI1 hwf1
  unfold maxLen at hcm1
  by_cases hbig1 : 1048576 < z1.length
  · go_enter Try.func8, Try.ntmps8
    go_wp2_with fail
    go_ret
    exact ⟨rfl, HX0.out.2⟩
  have hn1 : z1.length ≤ 1048576 := by omega
  obtain ⟨n, Z, cd, ⟨hn, hZ⟩, HS, HM⟩ := ss_both a0x a0y a0z a0d a0k a0c z1 hn1 hD hC
  have HSP := hide HS
  have HIM := hide HM
  have HZ := hide hZ
  clear HS HM hZ
  have hcd : (cd != cd) = false := by simp
  have hq0 : ¬ (((1 + offS Z n : Nat) : Int) < 0) := by omega
  obtain ⟨m, hm⟩ : ∃ m : Int, ((1 + offS Z n : Nat) : Int) = m := ⟨_, rfl⟩
  have HMM := hide hm
  rw [hm] at hq0
  have hqq : (m != m) = false := by simp
  clear hm
  go_enter Try.func8, Try.ntmps8
  go_wp2_with fail
  refine (toLayout a0x a0y a0z a0d a0k a0c _).mono ?_
  rintro e w1 ⟨rfl, hb⟩
  have HX1 := hide (HX0.out.next hb)
  clear hb
  obtain ⟨b0, b1, b2, b3, b4, b5⟩ := HX1.out.cells
  go_wp2_with fail
  refine (toInts a1 _ c1 z1 _ ((HI1.out.below HX1.out.2).more HX1.out.2.size) (by omega)).mono ?_
  rintro e w2 ⟨AP, cP, rfl, hcP, ho, hb⟩
  have HX2 := hide (HX1.out.next hb)
  have HOP := hide ho
  have HBP := hide (Below.refl w2.heap.size w2)
  clear ho
  clear hb
  clear b0 b1 b2 b3 b4 b5
  obtain ⟨b0, b1, b2, b3, b4, b5⟩ := HX2.out.cells
  go_wp2_with fail
  refine (HSP.out AP _ cP _ _ (HOP.out.below HBP.out (Nat.le_refl _)).ints hcP (Nat.le_refl _)).mono ?_
  rintro e w3 ⟨vW, vsW, rfl, ho, hb⟩
  have HX3 := hide (HX2.out.next hb)
  have HBP := hide (HBP.out.trans (hb.mono HBP.out.size))
  have HOW := hide ho
  have HBW := hide (Below.refl w3.heap.size w3)
  clear ho
  clear hb
  clear b0 b1 b2 b3 b4 b5
  obtain ⟨b0, b1, b2, b3, b4, b5⟩ := HX3.out.cells
  clear HOP HBP
  go_wp2_with fail
  refine (toInts a1 _ c1 z1 _ ((HI1.out.below HX3.out.2).more HX3.out.2.size) (by omega)).mono ?_
  rintro e w4 ⟨AX, cX, rfl, hcX, ho, hb⟩
  have HXX := hide HX3.out.lt
  have HXW := hide (Nat.le_refl w3.heap.size)
  have HNX0 := hide (show ∀ g, (Value.slice AX z1.length cX).ownBlock = some g → g < w4.heap.size from fun g hg => (ho.lt hg).2)
  have HX4 := hide (HX3.out.next hb)
  have HBW := hide (HBW.out.trans (hb.mono HBW.out.size))
  have HOX := hide ho
  have HBX := hide (Below.refl w4.heap.size w4)
  clear ho
  clear hb
  clear b0 b1 b2 b3 b4 b5
  obtain ⟨b0, b1, b2, b3, b4, b5⟩ := HX4.out.cells
  go_wp2_with fail
  refine (toLayout a0x a0y a0z a0d a0k a0c _).mono ?_
  rintro e w5 ⟨rfl, hb⟩
  have HX5 := hide (HX4.out.next hb)
  have HBW := hide (HBW.out.trans (hb.mono HBW.out.size))
  have HBX := hide (HBX.out.trans (hb.mono HBX.out.size))
  clear hb
  clear b0 b1 b2 b3 b4 b5
  obtain ⟨b0, b1, b2, b3, b4, b5⟩ := HX5.out.cells
  go_wp2_with fail
  refine (HIM.out AX _ cX _ _ (HOX.out.below HBX.out (Nat.le_refl _)).ints hcX (Nat.le_refl _)).mono ?_
  rintro e w6 ⟨vG, vsG, rfl, ho, hb⟩
  have HXG := hide HX5.out.lt
  have HSG := hide hb.size
  have HWG := hide HBW.out.size
  have HNX := hide (show ∀ g, (Value.slice AX z1.length cX).ownBlock = some g → g < w5.heap.size from fun g hg => Nat.lt_of_lt_of_le (HNX0.out g hg) HBX.out.size)
  have HX6 := hide (HX5.out.next hb)
  have HBW := hide (HBW.out.trans (hb.mono HBW.out.size))
  have HBX := hide (HBX.out.trans (hb.mono HBX.out.size))
  have HOG := hide ho
  have HBG := hide (Below.refl w6.heap.size w6)
  clear ho
  clear hb
  clear b0 b1 b2 b3 b4 b5
  obtain ⟨b0, b1, b2, b3, b4, b5⟩ := HX6.out.cells
  go_wp2_with fail
  refine (eqSS_same vG vW n _ _ vsG vsW Z _ (HOG.out.next HBG.out) (HOW.out.next HBW.out) hn HZ.out).mono ?_
  rintro e w7 ⟨rfl, hb⟩
  have HX7 := hide (HX6.out.next hb)
  have HBW := hide (HBW.out.trans (hb.mono HBW.out.size))
  have HBX := hide (HBX.out.trans (hb.mono HBX.out.size))
  have HBG := hide (HBG.out.trans (hb.mono HBG.out.size))
  clear hb
  clear b0 b1 b2 b3 b4 b5
  obtain ⟨b0, b1, b2, b3, b4, b5⟩ := HX7.out.cells
  go_wp2_with fail
  refine (toInts a1 _ c1 z1 _ ((HI1.out.below HX7.out.2).more HX7.out.2.size) (by omega)).mono ?_
  rintro e w8 ⟨AQ, cQ, rfl, hcQ, ho, hb⟩
  have HX8 := hide (HX7.out.next hb)
  have HBW := hide (HBW.out.trans (hb.mono HBW.out.size))
  have HBX := hide (HBX.out.trans (hb.mono HBX.out.size))
  have HBG := hide (HBG.out.trans (hb.mono HBG.out.size))
  have HOQ := hide ho
  have HBQ := hide (Below.refl w8.heap.size w8)
  clear ho
  clear hb
  clear b0 b1 b2 b3 b4 b5
  obtain ⟨b0, b1, b2, b3, b4, b5⟩ := HX8.out.cells
  go_wp2_with fail
  refine (eqSame AX _ cX _ AQ _ cQ _ z1 _ (HOX.out.below HBX.out (Nat.le_refl _)).ints (HOQ.out.below HBQ.out (Nat.le_refl _)).ints (by omega)).mono ?_
  rintro e w9 ⟨rfl, hb⟩
  have HX9 := hide (HX8.out.next hb)
  have HBW := hide (HBW.out.trans (hb.mono HBW.out.size))
  have HBX := hide (HBX.out.trans (hb.mono HBX.out.size))
  have HBG := hide (HBG.out.trans (hb.mono HBG.out.size))
  have HBQ := hide (HBQ.out.trans (hb.mono HBQ.out.size))
  clear hb
  clear b0 b1 b2 b3 b4 b5
  obtain ⟨b0, b1, b2, b3, b4, b5⟩ := HX9.out.cells
  clear HOQ HBQ
  go_wp2_with fail
  have hoX := (HOX.out.below HBX.out (Nat.le_refl _))
  have hoG := HOG.out.next HBG.out
  refine (markInts' AX _ cX _ _ 1 z1 _ hoX (by omega) (by omega) (by omega)).mono ?_
  rintro e w10 ⟨rfl, ho, hg⟩
  have HX10 := hide (HX9.out.grow' hg (fun g hg => Nat.lt_of_lt_of_le HXX.out (hoX.lt hg).1))
  have HBW := hide (HBW.out.grown hg HBW.out.size (fun g hg => Nat.le_trans HXW.out (hoX.lt hg).1))
  have HOG := hide (hoG.grown hg (by rcases hv : vG.ownBlock with _ | g; exact .inl rfl; exact .inr fun e => by have a := World.ownsRow.lt hoG.row g hv; have b := hoX.lt e.symm; have c := hoX.lt e.symm; exact absurd (HNX.out g e.symm) (by omega)) (fun k u hu => by rcases hv : u.ownBlock with _ | g; exact .inl rfl; exact .inr fun e => by have a := hoG.rows.lt hu hv; exact absurd (HNX.out g e.symm) (by omega)))
  have HSG := hide (Nat.le_trans HSG.out (Nat.le_trans HBG.out.size hg.size))
  have HBG := hide (Below.refl w10.heap.size w10)
  clear ho hg hoX hoG HOX HBX b0 b1 b2 b3 b4 b5
  obtain ⟨b0, b1, b2, b3, b4, b5⟩ := HX10.out.cells
  go_wp2_with fail
  refine (eqSS_same vG vW n _ _ vsG vsW Z _ (HOG.out.next HBG.out) (HOW.out.next HBW.out) hn HZ.out).mono ?_
  rintro e w11 ⟨rfl, hb⟩
  have HX11 := hide (HX10.out.next hb)
  have HBW := hide (HBW.out.trans (hb.mono HBW.out.size))
  have HBG := hide (HBG.out.trans (hb.mono HBG.out.size))
  clear hb
  clear b0 b1 b2 b3 b4 b5
  obtain ⟨b0, b1, b2, b3, b4, b5⟩ := HX11.out.cells
  go_wp2_with fail
  have hoG := HOG.out.next HBG.out
  refine (markSS vG n _ 1 1 rfl vsG Z _ hoG (Nat.le_trans HSG.out HBG.out.size) hn HZ.out (by omega)).mono ?_
  rw [HMM.out]
  rintro e w12 ⟨rfl, ho, hb⟩
  have HX12 := hide (show KBox w w12 a0x a0y a0z a0d a0k a0c from ⟨by rw [hb.block _ HXG.out]; exact HX11.out.1, HX11.out.2.trans (hb.mono (Nat.le_of_lt HXG.out))⟩)
  have HBW := hide (HBW.out.trans (hb.mono HWG.out))
  have HOG := hide ho
  have HBG := hide (Below.refl w12.heap.size w12)
  clear ho hb hoG b0 b1 b2 b3 b4 b5
  obtain ⟨b0, b1, b2, b3, b4, b5⟩ := HX12.out.cells
  go_wp2_with fail
  refine (heldSS vG n _ 1 1 rfl vsG Z _ (HOG.out.next HBG.out) hn HZ.out (by omega)).mono ?_
  rw [HMM.out]
  rintro e w12 ⟨rfl, rfl⟩
  go_wp2_with fail
  refine (toLayout a0x a0y a0z a0d a0k a0c _).mono ?_
  rintro e w13 ⟨rfl, hb⟩
  have HX13 := hide (HX12.out.next hb)
  have HBW := hide (HBW.out.trans (hb.mono HBW.out.size))
  have HBG := hide (HBG.out.trans (hb.mono HBG.out.size))
  clear hb
  clear b0 b1 b2 b3 b4 b5
  obtain ⟨b0, b1, b2, b3, b4, b5⟩ := HX13.out.cells
  go_wp2_with fail
  refine (toInts a1 _ c1 z1 _ ((HI1.out.below HX13.out.2).more HX13.out.2.size) (by omega)).mono ?_
  rintro e w14 ⟨AR, cR, rfl, hcR, ho, hb⟩
  have HX14 := hide (HX13.out.next hb)
  have HBW := hide (HBW.out.trans (hb.mono HBW.out.size))
  have HBG := hide (HBG.out.trans (hb.mono HBG.out.size))
  have HOR := hide ho
  have HBR := hide (Below.refl w14.heap.size w14)
  clear ho
  clear hb
  clear b0 b1 b2 b3 b4 b5
  obtain ⟨b0, b1, b2, b3, b4, b5⟩ := HX14.out.cells
  go_wp2_with fail
  refine (HIM.out AR _ cR _ _ (HOR.out.below HBR.out (Nat.le_refl _)).ints hcR (Nat.le_refl _)).mono ?_
  rintro e w15 ⟨vH, vsH, rfl, ho, hb⟩
  have HX15 := hide (HX14.out.next hb)
  have HBW := hide (HBW.out.trans (hb.mono HBW.out.size))
  have HBG := hide (HBG.out.trans (hb.mono HBG.out.size))
  have HBR := hide (HBR.out.trans (hb.mono HBR.out.size))
  have HOH := hide ho
  have HBH := hide (Below.refl w15.heap.size w15)
  clear ho
  clear hb
  clear b0 b1 b2 b3 b4 b5
  obtain ⟨b0, b1, b2, b3, b4, b5⟩ := HX15.out.cells
  clear HOR HBR
  go_wp2_with fail
  refine (eqSS_same vH vW n _ _ vsH vsW Z _ (HOH.out.next HBH.out) (HOW.out.next HBW.out) hn HZ.out).mono ?_
  rintro e w16 ⟨rfl, hb⟩
  have HX16 := hide (HX15.out.next hb)
  have HBW := hide (HBW.out.trans (hb.mono HBW.out.size))
  have HBG := hide (HBG.out.trans (hb.mono HBG.out.size))
  have HBH := hide (HBH.out.trans (hb.mono HBH.out.size))
  clear hb
  clear b0 b1 b2 b3 b4 b5
  obtain ⟨b0, b1, b2, b3, b4, b5⟩ := HX16.out.cells
  go_wp2_with fail
  refine (heldSS vG n _ 1 1 rfl vsG Z _ (HOG.out.next HBG.out) hn HZ.out (by omega)).mono ?_
  rw [HMM.out]
  rintro e w16 ⟨rfl, rfl⟩
  go_wp2_with fail
  go_ret
  exact ⟨rfl, HX16.out.2⟩
end Go.Proofs.Ytkdpkbnhckpnoaa
