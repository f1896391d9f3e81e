/-
  The walk of the law FnBitsText: it returns true, and nothing that was there before is changed.
-/
import Derived.Test.YtfjagcalfnjddaaFnBitsAppendedWalk
import Derived.Test.YtfjagcalfnjddaaStr3
namespace Go.Proofs.Ytfjagcalfnjddaa
open Go.RowKit
set_option linter.unusedVariables false

theorem textOf_size {zs : List Int} {k : Nat} (h : zs.length ≤ k) : (textOf zs).size ≤ k := by
  unfold textOf
  split
  · rw [strOf_size, textB_len]; exact h
  · exact Nat.zero_le _

set_option maxHeartbeats 2000000 in
theorem fnBitsTextWalk (a0 : Option Addr) (n0 c0 : Nat) (z0 : List Int) (w : World) (h0 : Came .u8 w a0 n0 c0 z0) :
    Calls Try.prog 4 #[.slice a0 n0 c0] w fun e w' => e = .returned (.bool true) ∧ Below w.heap.size w w' := by
  obtain ⟨hI, hnc, hcm, hwf⟩ := h0
  have HI := hide hI
  have HBY := hide (show ∀ b ∈ z0, 0 ≤ b ∧ b ≤ 255 from fun b hb => bd_u8 (hwf b hb))
  clear hI hwf
  unfold maxLen at hcm
  by_cases hbig : 4096 < n0
  · go_enter Try.func4, Try.ntmps4
    go_wp2_with fail
    refine (big_yes a0 n0 c0 w hbig (by omega)).mono ?_
    rintro e w ⟨rfl, rfl⟩
    go_wp2_with fail
    go_ret
    exact ⟨rfl, Below.refl _ _⟩
  have hn0 : n0 ≤ 4096 := by omega
  go_enter Try.func4, Try.ntmps4
  go_wp2_with fail
  refine (big_no a0 n0 c0 w hn0).mono ?_
  rintro e w ⟨rfl, rfl⟩
  go_wp2_with fail
  refine (drawStringOf a0 n0 c0 z0 w HI hn0 HBY).mono ?_
  rintro e w1 ⟨zs, v, rfl, hz, hO, hb⟩
  obtain ⟨A1, c1, rfl, hc1⟩ := hO.form
  have HO1 := hide hO
  have HB1 := hide hb
  have hcm1 := hO.cap
  clear hO hb
  have hzn : zs.length ≤ 1099511627776 := by omega
  go_wp2_with fail
  refine (implStringOf A1 _ c1 _ zs w1 HO1.out.ints (Nat.le_refl _) hzn hc1 hcm1).mono ?_
  rintro e w2 ⟨rfl, hb⟩
  have HO2 := hide (HO1.out.below hb (Nat.le_refl _))
  have HB2 := hide (HB1.out.trans (hb.mono HB1.out.size))
  clear hb HO1
  go_wp2_with fail
  refine (specStringOf A1 _ c1 _ zs w2 HO2.out.ints (Nat.le_refl _) hzn).mono ?_
  rintro e w3 ⟨rfl, hb⟩
  have HO3 := hide (HO2.out.below hb (Nat.le_refl _))
  have HB3 := hide (HB2.out.trans (hb.mono HB2.out.size))
  clear hb HO2
  go_wp2_with fail
  refine (implText A1 _ c1 _ zs w3 HO3.out.ints (Nat.le_refl _) hzn).mono ?_
  rintro e w4 ⟨rfl, hb⟩
  have HO4 := hide (HO3.out.below hb (Nat.le_refl _))
  have HB4 := hide (HB3.out.trans (hb.mono HB3.out.size))
  clear hb HO3
  go_wp2_with fail
  refine (specText A1 _ c1 _ zs w4 HO4.out.ints (Nat.le_refl _) hzn).mono ?_
  rintro e w5 ⟨rfl, hb⟩
  have HO5 := hide (HO4.out.below hb (Nat.le_refl _))
  have HB5 := hide (HB4.out.trans (hb.mono HB4.out.size))
  clear hb HO4
  go_wp2_with fail
  refine (implText A1 _ c1 _ zs w5 HO5.out.ints (Nat.le_refl _) hzn).mono ?_
  rintro e w6 ⟨rfl, hb⟩
  have HO6 := hide (HO5.out.below hb (Nat.le_refl _))
  have HB6 := hide (HB5.out.trans (hb.mono HB5.out.size))
  clear hb HO5
  have hts := textOf_size hzn
  go_wp2_with fail
  refine (implRead (textOf zs) w6 hts).mono ?_
  rintro e w7 ⟨A7, c7, rfl, hc7, ho, hb⟩
  have HO7 := hide ho
  have HO6b := hide (HO6.out.below hb (Nat.le_refl _))
  have HB7 := hide (HB6.out.trans (hb.mono HB6.out.size))
  clear ho hb HO6 hc7
  rcases hbits : isBits zs with _ | _
  · have HBT := hide hbits
    obtain ⟨r1, r2, r3⟩ := reread_not hbits
    have hok : rbOk (bytesI (textOf zs)) = true := by rw [r1, r2]
    have hs0 : sobCode zs = 1 := sob_bad hbits
    clear r1 r2 r3 hbits
    go_wp2_with fail
    refine (implIsBits_no A1 _ c1 _ zs w7 HO6b.out.ints hzn HBT).mono ?_
    rintro e w7 ⟨rfl, rfl⟩
    go_wp2_with fail
    go_ret
    exact ⟨rfl, HB7⟩
  · have HBT := hide hbits
    obtain ⟨r1, r2, r3⟩ := reread hbits
    have hok : rbOk (bytesI (textOf zs)) = true := by rw [r1, r2]
    have HE := hide (show rbOf (bytesI (textOf zs)) = zs by rw [r1, r3])
    clear r1 r2 r3 hbits
    have HI7 := hide (show Ints .i64 w7 w7.heap.size A7 (rbOf (bytesI (textOf zs))).length zs by
      have h := HO7.out.ints
      rw [HE.out] at h ⊢
      exact h)
    go_wp2_with fail
    refine (implIsBits_yes A1 _ c1 _ zs w7 HO6b.out.ints hzn HBT).mono ?_
    rintro e w7 ⟨rfl, rfl⟩
    go_wp2_with fail
    refine (likeSame A7 _ c7 _ A1 _ c1 _ zs w7 HI7 HO6b.out.ints hzn).mono ?_
    rintro e w8 ⟨rfl, hb⟩
    have HO8 := hide (HO6b.out.below hb (Nat.le_refl _))
    have HB8 := hide (HB7.out.trans (hb.mono HB7.out.size))
    clear hb HO7 HO6b HI7
    by_cases hc : sobCode zs = 0
    · obtain ⟨q1, q2, q3⟩ := recovered hc
      have hs8 : (sobOf zs).size ≤ 1024 := by
        have h1 := isBits_len q1
        have h2 : (bytesI (sobOf zs)).length = zs.length / 8 := by rw [q2, strBytes_len]
        rw [bytesI_len] at h2
        omega
      have HQ := hide (show bosOf (sobOf zs) = zs by rw [bosOf, if_pos hs8, q2, q3])
      have hcode : bosCode (sobOf zs) = 0 := by rw [bosCode, if_pos hs8]
      clear q1 q2 q3
      go_wp2_with fail
      refine (implBitsOf (sobOf zs) w8 (by omega)).mono ?_
      rintro e w9 ⟨A9, c9, rfl, hc9, ho, hb⟩
      have HI9 := hide (show Ints .i64 w9 w9.heap.size A9 (bosOf (sobOf zs)).length zs by
        have h := ho.ints
        rw [HQ.out] at h ⊢
        exact h)
      have HO9 := hide (HO8.out.below hb (Nat.le_refl _))
      have HB9 := hide (HB8.out.trans (hb.mono HB8.out.size))
      clear ho hb HO8 hc9
      go_wp2_with fail
      refine (likeSame A9 _ c9 _ A1 _ c1 _ zs w9 HI9 HO9.out.ints hzn).mono ?_
      rintro e w10 ⟨rfl, hb⟩
      have HB10 := hide (HB9.out.trans (hb.mono HB9.out.size))
      clear hb
      go_wp2_with fail
      go_ret
      exact ⟨rfl, HB10⟩
    · have e0 : (sobCode zs != 0) = true := by simpa using hc
      go_wp2_with fail
      go_ret
      exact ⟨rfl, HB8⟩
end Go.Proofs.Ytfjagcalfnjddaa
