/-
  The walk of the law FnBitDistances: it returns true, and nothing that was there before is changed.
-/
import Derived.Test.YtfjagcalfnjddaaFnBitsAppendedWalk
import Derived.Test.YtfjagcalfnjddaaDist
namespace Go.Proofs.Ytfjagcalfnjddaa
open Go.RowKit
set_option linter.unusedVariables false

set_option maxHeartbeats 2000000 in
theorem fnBitDistancesWalk (a0 : Option Addr) (n0 c0 : Nat) (z0 : List Int) (w : World) (h0 : Came .u8 w a0 n0 c0 z0) :
    Calls Try.prog 5 #[.slice a0 n0 c0] w fun e w' => e = .returned (.bool true) ∧ Below w.heap.size w w' := by
  obtain ⟨hI, hnc, hcm, hwf⟩ := h0
  have HI := hide hI
  have HBY := hide (show ∀ b ∈ z0, 0 ≤ b ∧ b ≤ 255 from fun b hb => bd_u8 (hwf b hb))
  clear hI hwf
  unfold maxLen at hcm
  by_cases hbig : 4096 < n0
  · go_enter Try.func5, Try.ntmps5
    go_wp2_with fail
    refine (big_yes a0 n0 c0 w hbig (by omega)).mono ?_
    rintro e w ⟨rfl, rfl⟩
    go_wp2_with fail
    go_ret
    exact ⟨rfl, Below.refl _ _⟩
  have hn0 : n0 ≤ 4096 := by omega
  go_enter Try.func5, Try.ntmps5
  go_wp2_with fail
  refine (big_no a0 n0 c0 w hn0).mono ?_
  rintro e w ⟨rfl, rfl⟩
  go_wp2_with fail
  refine (drawDist a0 n0 c0 z0 w HI hn0 HBY).mono ?_
  rintro e w1 ⟨za, zb, va, vb, rfl, hza, hzb, hOa, hOb, hb⟩
  obtain ⟨A1, c1, rfl, hc1⟩ := hOa.form
  obtain ⟨A2, c2, rfl, hc2⟩ := hOb.form
  have HA1 := hide hOa
  have HBb1 := hide hOb
  have HB1 := hide hb
  clear hOa hOb hb hc1 hc2
  have hna : za.length ≤ 1099511627776 := by omega
  have hnb : zb.length ≤ 1099511627776 := by omega
  go_wp2_with fail
  refine (implDist A1 _ c1 _ za A2 _ c2 _ zb w1 HA1.out.ints HBb1.out.ints hna hnb).mono ?_
  rintro e w2 ⟨rfl, hb⟩
  have HA2 := hide (HA1.out.below hb (Nat.le_refl _))
  have HBb2 := hide (HBb1.out.below hb (Nat.le_refl _))
  have HB2 := hide (HB1.out.trans (hb.mono HB1.out.size))
  clear hb HA1 HBb1
  go_wp2_with fail
  refine (specDist A1 _ c1 _ za A2 _ c2 _ zb w2 HA2.out.ints HBb2.out.ints hna hnb).mono ?_
  rintro e w3 ⟨rfl, hb⟩
  have HA3 := hide (HA2.out.below hb (Nat.le_refl _))
  have HBb3 := hide (HBb2.out.below hb (Nat.le_refl _))
  have HB3 := hide (HB2.out.trans (hb.mono HB2.out.size))
  clear hb HA2 HBb2
  go_wp2_with fail
  refine (implXor A1 _ c1 _ za A2 _ c2 _ zb w3 HA3.out.ints HBb3.out.ints (Nat.le_refl _) (Nat.le_refl _) hna hnb).mono ?_
  rintro e w4 ⟨A4, c4, rfl, hc4, ho, hb⟩
  have HX4 := hide ho
  have HA4 := hide (HA3.out.below hb (Nat.le_refl _))
  have HBb4 := hide (HBb3.out.below hb (Nat.le_refl _))
  have HB4 := hide (HB3.out.trans (hb.mono HB3.out.size))
  clear ho hb HA3 HBb3 hc4
  rcases pair_cases za zb with h | h | ⟨h, ha, hbb, hlen⟩
  · have HX := hide (show xorOf za zb = [] by rw [xorOf, if_neg (by rw [h]; decide)])
    have hx0 : (xorOf za zb).length = 0 := by rw [HX.out]; rfl
    go_wp2_with fail
    go_ret
    exact ⟨rfl, HB4⟩
  · have HX := hide (show xorOf za zb = [] by rw [xorOf, if_neg (by rw [h]; decide)])
    have hx0 : (xorOf za zb).length = 0 := by rw [HX.out]; rfl
    go_wp2_with fail
    go_ret
    exact ⟨rfl, HB4⟩
  · have HX := hide (show xorOf za zb = xorL za zb by rw [xorOf, if_pos h])
    have HXL := hide (show (xorOf za zb).length = za.length by rw [HX.out, xorL_len hlen])
    have HXB := hide (show ∀ x ∈ xorOf za zb, x = 0 ∨ x = 1 by rw [HX.out]; exact xorL_bit za zb)
    have HD := hide (show distOf za zb = (differ za zb : Int) by rw [distOf, if_pos h])
    have HS := hide (show sumI (xorOf za zb) = (differ za zb : Int) by rw [HX.out]; exact sumI_xor za zb)
    have hp2 : pairCode (xorOf za zb) zb = 0 := pair_ok (isBits_of (by rw [HXL.out]; exact isBits_len ha) HXB.out) hbb (by rw [HXL.out]; exact hlen)
    have HQ := hide (show xorOf (xorOf za zb) zb = za by rw [xorOf, if_pos hp2, HX.out]; exact xorL_back za zb hlen (isBits_all ha) (isBits_all hbb))
    have hxn : (xorOf za zb).length ≤ 10000 := by rw [HXL.out]; exact hza
    have HA := hide ha
    have HBB := hide hbb
    have HLEN := hide hlen
    clear ha hbb hlen
    generalize hxs : xorOf za zb = xs at *
    have HXS := hide hxs
    clear hxs
    go_wp2_with fail
    go_loop [11, 12] (fun s i => ∃ k : Nat, k ≤ xs.length ∧ i = .int .i64 k ∧ ∃ t : Int, s = .int .i64 t ∧ 0 ≤ t ∧ t ≤ k ∧ Hid (sumI (xs.take k) = t)) (fun _ i => xs.length - (intOf i).toNat)
    case atStart => exact ⟨0, by omega, rfl, 0, rfl, by omega, by omega, by simp [Hid, sumI]⟩
    case round =>
      obtain ⟨k, hk, rfl, t, rfl, ht0, ht1, HT⟩ := hrel
      by_cases hlt : k < xs.length
      · obtain ⟨b, off, x, rfl, hb, hx, hc⟩ := HX4.out.ints.at_ hlt
        have hx01 := HXB.out x (List.mem_of_getElem? hx)
        have HT2 := hide (show sumI (xs.take (k + 1)) = t + x by rw [take_snocI hx, sumI_snoc, HT.out])
        clear hx
        have hx0 : 0 ≤ x := by omega
        have hx1 : x ≤ 1 := by omega
        clear hx01
        go_wp2_with fail
        go_round
        case rel => exact ⟨k + 1, by omega, by go_num, t + x, rfl, by omega, by omega, HT2⟩
        case measure => simp [intOf]; omega
      · have HF := hide (show (differ za zb : Int) = t by
          have h1 := HT.out
          rw [List.take_of_length_le (by omega), HS.out] at h1
          exact h1)
        have hd2 : distOf za zb = t := by rw [HD.out]; exact HF
        go_wp2_with fail
        refine (implXor A4 _ c4 _ xs A2 _ c2 _ zb w4 HX4.out.ints HBb4.out.ints (Nat.le_refl _) (Nat.le_refl _) (by omega) hnb).mono ?_
        rintro e w5 ⟨A5, c5, rfl, hc5, ho, hb⟩
        have HI5 := hide (show Ints .i64 w5 w5.heap.size A5 (xorOf xs zb).length za by
          have h1 := ho.ints
          rw [HQ.out] at h1 ⊢
          exact h1)
        have HA5 := hide (HA4.out.below hb (Nat.le_refl _))
        have HB5 := hide (HB4.out.trans (hb.mono HB4.out.size))
        clear ho hb hc5
        go_wp2_with fail
        refine (likeSame A5 _ c5 _ A1 _ c1 _ za w5 HI5 HA5.out.ints hna).mono ?_
        rintro e w6 ⟨rfl, hb⟩
        have HB6 := hide (HB5.out.trans (hb.mono HB5.out.size))
        clear hb
        go_wp2_with fail
        go_ret
        exact ⟨rfl, HB6⟩
end Go.Proofs.Ytfjagcalfnjddaa
