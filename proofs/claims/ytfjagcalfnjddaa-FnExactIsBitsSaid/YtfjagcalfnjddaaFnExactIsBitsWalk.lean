/-
  The walk of the law FnExactIsBits: it returns true.
-/
import Derived.Test.YtfjagcalfnjddaaShell
import Derived.Test.YtfjagcalfnjddaaIsBits
import Derived.Test.YtfjagcalfnjddaaMarks
namespace Go.Proofs.Ytfjagcalfnjddaa
open Go.RowKit
set_option linter.unusedVariables false

set_option maxHeartbeats 400000 in
theorem fnExactIsBitsWalk (A : Option Addr) (n c : Nat) (zs : List Int) (w : World) (h : Came .i64 w A n c zs) :
    Calls Try.prog 6 #[.slice A n c] w fun e w' => e = .returned (.bool true) ∧ Below w.heap.size w w' := by
  obtain ⟨hI, hnc, hcm, hwf⟩ := h
  have HI := hide hI
  have hl := hide hI.len
  clear hI hwf
  unfold maxLen at hcm
  by_cases hbig : 1048576 < n
  · go_enter Try.func6, Try.ntmps6
    go_wp2_with fail
    go_ret
    exact ⟨rfl, Below.refl _ _⟩
  · have hn : n ≤ 1099511627776 := by omega
    go_enter Try.func6, Try.ntmps6
    go_wp2_with fail
    refine (toInts A n c zs w HI hn).mono ?_
    rintro e w1 ⟨A1, c1, rfl, hc1, ho1, hb1⟩
    obtain rfl : zs.length = n := hl.out
    have HO1 := hide ho1
    have HB1 := hide hb1
    clear ho1 hb1
    go_wp2_with fail
    refine (specIsBits A1 _ c1 _ zs w1 HO1.out.ints hn).mono ?_
    rintro e w1 ⟨rfl, rfl⟩
    go_wp2_with fail
    refine (toInts A _ c zs w1 ((HI.out.below HB1).more HB1.out.size) hn).mono ?_
    rintro e w2 ⟨A2, c2, rfl, hc2, ho2, hb2⟩
    have HO2 := hide ho2
    have HB2 := hide (HB1.out.trans (hb2.mono HB1.out.size))
    clear ho2 hb2
    go_wp2_with fail
    refine (implIsBits A2 _ c2 _ zs w2 HO2.out.ints hn).mono ?_
    rintro e w2 ⟨rfl, rfl⟩
    go_wp2_with fail
    refine (toInts A _ c zs w2 ((HI.out.below HB2).more HB2.out.size) hn).mono ?_
    rintro e w3 ⟨A3, c3, rfl, hc3, ho3, hb3⟩
    have HO3 := hide ho3
    have HB3 := hide (HB2.out.trans (hb3.mono HB2.out.size))
    have HO2' := hide (HO2.out.below hb3 (Nat.le_refl _))
    clear ho3 hb3
    go_wp2_with fail
    refine (eqInts A2 _ c2 _ zs A3 _ c3 _ zs w3 HO2'.out.ints HO3.out.ints hn hn).mono ?_
    rintro e w4 ⟨rfl, m, rfl⟩
    have hs := sameI_refl zs
    go_wp2_with fail
    go_ret
    exact ⟨rfl, below_drewN HB3 _⟩
end Go.Proofs.Ytfjagcalfnjddaa
