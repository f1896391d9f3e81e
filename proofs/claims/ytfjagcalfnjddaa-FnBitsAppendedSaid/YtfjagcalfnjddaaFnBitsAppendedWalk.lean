/-
  The walk of the law FnBitsAppended: it returns true, and nothing that was there before is changed.
-/
import Derived.Test.YtfjagcalfnjddaaShell
import Derived.Test.YtfjagcalfnjddaaDraws1
import Derived.Test.YtfjagcalfnjddaaLike
import Derived.Test.YtfjagcalfnjddaaLawKit
import Derived.Test.YtfjagcalfnjddaaBitsMath2
namespace Go.Proofs.Ytfjagcalfnjddaa
open Go.RowKit
set_option linter.unusedVariables false

theorem bd_u8 {n : Int} (h : (Lit.int .u8 n).wf = true) : 0 ≤ n ∧ n ≤ 255 := by
  simp [Lit.wf, IntKind.min, IntKind.max, IntKind.signed, IntKind.bits] at h
  omega
theorem Ints.front {k : IntKind} {w : World} {B n m : Nat} {A : Option Addr} {zs : List Int} (h : Ints k w B A n zs) (hm : m ≤ n) : Ints k w B A m (zs.take m) := by
  refine ⟨by rw [List.length_take, h.len]; omega, fun hp => ?_⟩
  obtain ⟨b, off, e, hb, hc⟩ := h.2 (by omega)
  refine ⟨b, off, e, hb, fun j x hx => hc j x ?_⟩
  rw [List.getElem?_take] at hx
  split at hx
  · exact hx
  · cases hx
theorem appOf_len2 {zs : List Int} {v d : Int} (h : zs.length ≤ 10000) : (appOf zs v d).length ≤ 1099511627776 := by
  unfold appOf
  split
  · rename_i hc
    unfold appCode at hc
    split at hc
    · split at hc
      · rename_i hw
        simp only [Bool.and_eq_true, inR, decide_eq_true_eq] at hw
        rw [List.length_append, bitsOf_len]; omega
      · simp at hc
    · simp at hc
  · simp

set_option maxHeartbeats 1000000 in
theorem fnBitsAppendedWalk (a0 : Option Addr) (n0 c0 : Nat) (z0 : List Int) (w : World) (h0 : Came .u8 w a0 n0 c0 z0) :
    Calls Try.prog 3 #[.slice a0 n0 c0] w fun e w' => e = .returned (.bool true) ∧ Below w.heap.size w w' := by
  obtain ⟨hI, hnc, hcm, hwf⟩ := h0
  have HI := hide hI
  have HBY := hide (show ∀ b ∈ z0, 0 ≤ b ∧ b ≤ 255 from fun b hb => bd_u8 (hwf b hb))
  clear hI hwf
  unfold maxLen at hcm
  by_cases hbig : 4096 < n0
  · go_enter Try.func3, Try.ntmps3
    go_wp2_with fail
    refine (big_yes a0 n0 c0 w hbig (by omega)).mono ?_
    rintro e w ⟨rfl, rfl⟩
    go_wp2_with fail
    go_ret
    exact ⟨rfl, Below.refl _ _⟩
  have hn0 : n0 ≤ 4096 := by omega
  go_enter Try.func3, Try.ntmps3
  go_wp2_with fail
  refine (big_no a0 n0 c0 w hn0).mono ?_
  rintro e w ⟨rfl, rfl⟩
  go_wp2_with fail
  refine (drawAppend a0 n0 c0 z0 w HI hn0 HBY).mono ?_
  rintro e w1 ⟨zs, v, val, wd, rfl, hz, hv0, hv1, hO, hb⟩
  obtain ⟨A1, c1, rfl, hc1⟩ := hO.form
  have HO1 := hide hO
  have HB1 := hide hb
  clear hO hb
  have hzn : zs.length ≤ 1099511627776 := by omega
  have hlen := appOf_len2 (v := val) (d := wd) hz
  go_wp2_with fail
  refine (implAppend A1 _ c1 _ zs val wd w1 HO1.out.ints (Nat.le_refl _) hzn (by omega)).mono ?_
  rintro e w2 ⟨A2, c2, rfl, hc2, ho, hb⟩
  have HO2 := hide ho
  have HO1b := hide (HO1.out.below hb (Nat.le_refl _))
  have HB2 := hide (HB1.out.trans (hb.mono HB1.out.size))
  clear ho hb HO1
  go_wp2_with fail
  refine (specAppend A1 _ c1 _ zs val wd w2 HO1b.out.ints (Nat.le_refl _) hzn (by omega)).mono ?_
  rintro e w3 ⟨A3, c3, rfl, hc3, ho, hb⟩
  have HO3 := hide ho
  have HO1c := hide (HO1b.out.below hb (Nat.le_refl _))
  have HO2c := hide (HO2.out.below hb (Nat.le_refl _))
  have HB3 := hide (HB2.out.trans (hb.mono HB2.out.size))
  clear ho hb HO1b HO2
  go_wp2_with fail
  refine (likeSame A2 _ c2 _ A3 _ c3 _ _ w3 HO2c.out.ints HO3.out.ints hlen).mono ?_
  rintro e w4 ⟨rfl, hb⟩
  have HO1d := hide (HO1c.out.below hb (Nat.le_refl _))
  have HO2d := hide (HO2c.out.below hb (Nat.le_refl _))
  have HB4 := hide (HB3.out.trans (hb.mono HB3.out.size))
  clear hb HO1c HO2c HO3 hc3
  by_cases hok : appCode zs val wd = 0
  · obtain ⟨g1, g2, g3, g4⟩ := appended hok
    have G2 := hide g2
    have hcz : zs.length ≤ c2 := by rw [g2, List.length_append] at hc2; omega
    have hcm2 := HO2d.out.cap
    clear g1 g2
    go_wp2_with fail
    refine (implNumber A2 _ c2 _ _ _ wd w4 HO2d.out.ints hlen hc2 hcm2).mono ?_
    rintro e w5 ⟨rfl, hb⟩
    have HO1e := hide (HO1d.out.below hb (Nat.le_refl _))
    have HO2e := hide (HO2d.out.below hb (Nat.le_refl _))
    have HB5 := hide (HB4.out.trans (hb.mono HB4.out.size))
    clear hb HO1d HO2d
    have HF := hide (show Ints .i64 w5 w5.heap.size A2 zs.length zs by
      have h := HO2e.out.ints.front (m := zs.length) (by rw [G2.out, List.length_append]; omega)
      rw [G2.out, List.take_left] at h
      exact h)
    go_wp2_with fail
    refine (likeSame A2 _ c2 _ A1 _ c1 _ zs w5 HF HO1e.out.ints hzn).mono ?_
    rintro e w6 ⟨rfl, hb⟩
    have HB6 := hide (HB5.out.trans (hb.mono HB5.out.size))
    clear hb
    go_wp2_with fail
    go_ret
    exact ⟨rfl, HB6⟩
  · have e0 : (appCode zs val wd != 0) = true := by simpa using hok
    go_wp2_with fail
    go_ret
    exact ⟨rfl, HB4⟩
end Go.Proofs.Ytfjagcalfnjddaa
