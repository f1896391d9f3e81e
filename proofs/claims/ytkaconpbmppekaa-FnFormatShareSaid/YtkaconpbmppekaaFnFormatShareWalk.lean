/-
  The walk of the law FnFormatShare: it returns true, and nothing that was there before is changed.
  Condition: none.
-/
import Derived.Test.YtkaconpbmppekaaWdKeyS
import Derived.Test.YtkaconpbmppekaaWdDraw4
import Derived.Test.YtkaconpbmppekaaLike
import Derived.Test.YtkaconpbmppekaaLawKit
import Derived.Test.YtkaconpbmppekaaShell
namespace Go.Proofs.Ytkaconpbmppekaa
open Go.RowKit
set_option linter.unusedVariables false
set_option linter.unusedSimpArgs false

theorem wbd_u8s {n : Int} (h : (Lit.int .u8 n).wf = true) : 0 ≤ n ∧ n ≤ 255 := by
  simp [Lit.wf, IntKind.min, IntKind.max, IntKind.signed, IntKind.bits] at h
  omega

set_option maxRecDepth 100000 in
set_option maxHeartbeats 4000000 in
theorem fnFormatShareWalk (a0 : Option Addr) (n0 c0 : Nat) (z0 : List Int) (w : World) (h0 : Came .u8 w a0 n0 c0 z0) :
    Calls Try.prog 5 #[.slice a0 n0 c0] w fun e w' => e = .returned (.bool true) ∧ Below w.heap.size w w' := by
  obtain ⟨hI, hnc, hcm, hwf⟩ := h0
  have HI := hide hI
  have HBY := hide (show ∀ b ∈ z0, 0 ≤ b ∧ b ≤ 255 from fun b hb => wbd_u8s (hwf b hb))
  clear hI hwf
  unfold maxLen at hcm
  by_cases hbig : 4096 < n0
  · go_enter Try.func5, Try.ntmps5
    go_wp2_with fail
    refine (big_yes a0 n0 c0 w hbig (by omega)).mono ?_
    rintro e w ⟨rfl, rfl⟩
    go_wp2_with fail
    go_ret
    exact ⟨rfl, Below.refl _ _⟩
  have hn0 : n0 ≤ 4096 := by omega
  go_enter Try.func5, Try.ntmps5
  go_wp2_with fail
  refine (big_no a0 n0 c0 w hn0).mono ?_
  rintro e w ⟨rfl, rfl⟩
  go_wp2_with fail
  refine (drawFormatShare a0 n0 c0 z0 w HI hn0 HBY).mono ?_
  rintro e w1 ⟨d, l, p, za, zb, A1, A2, c1, c2, rfl, hl, hla, hlb, hca, hcb, hia, hib, hb⟩
  have HB1 := hide hb
  have HIA := hide hia
  have HIB := hide hib
  have HX1 := hide (Box.start w1 25 d l p)
  clear hb hia hib
  obtain ⟨b0, b1, b2⟩ := HX1.out.cells
  obtain ⟨v, k, x1, m1, k1, x2, m2, k2, hS, hM, hN1, hN2, hC⟩ := fs_key d l p za zb (by omega) (by omega) (by omega)
  have HS := hide hS
  have HM := hide hM
  have HN1 := hide hN1
  have HN2 := hide hN2
  have HC := hide hC
  clear hS hM hN1 hN2 hC
  have hcc : (k != k) = false := by simp
  have hvv : (v != v) = false := by simp
  go_wp2_with fail
  refine (HM.out A1 _ c1 A2 _ c2 w1.heap.size _ (HIA.out.below ((Below.refl _ _).alloc (Nat.le_refl _) _)) (HIB.out.below ((Below.refl _ _).alloc (Nat.le_refl _) _)) HX1.out.2.size).mono ?_
  rintro e w2 ⟨rfl, hb⟩
  have HX2 := hide (HX1.out.next hb)
  clear hb b0 b1 b2
  obtain ⟨b0, b1, b2⟩ := HX2.out.cells
  go_wp2_with fail
  refine (HS.out A1 _ c1 A2 _ c2 w1.heap.size _ (HIA.out.below HX2.out.2) (HIB.out.below HX2.out.2) HX2.out.2.size).mono ?_
  rintro e w3 ⟨rfl, hb⟩
  have HX3 := hide (HX2.out.next hb)
  clear hb b0 b1 b2
  obtain ⟨b0, b1, b2⟩ := HX3.out.cells
  rcases HC.out with hcd | ⟨hcd, hor⟩
  · have e1 : (k != 0) = true := by simpa using hcd
    clear hcd
    go_wp2_with fail
    go_ret
    exact ⟨rfl, HB1.out.trans (HX3.out.2.mono HB1.out.size)⟩
  · subst hcd
    have HOR := hide hor
    clear hor
    go_wp2_with fail
    refine (HN1.out A1 _ c1 w1.heap.size _ (HIA.out.below HX3.out.2) HX3.out.2.size).mono ?_
    rintro e w4 ⟨rfl, hb⟩
    have HX4 := hide (HX3.out.next hb)
    clear hb b0 b1 b2
    obtain ⟨b0, b1, b2⟩ := HX4.out.cells
    go_wp2_with fail
    refine (HN2.out A2 _ c2 w1.heap.size _ (HIB.out.below HX4.out.2) HX4.out.2.size).mono ?_
    rintro e w5 ⟨rfl, hb⟩
    have HX5 := hide (HX4.out.next hb)
    clear hb b0 b1 b2
    have HB5 := hide (HB1.out.trans (HX5.out.2.mono HB1.out.size))
    rcases HOR.out with ⟨h1, h2⟩ | ⟨h1, h2⟩
    · subst h1 h2
      have hee : (v == v) = true := by simp
      go_wp2_with fail
      go_ret
      exact ⟨rfl, HB5.out⟩
    · subst h1 h2
      have hee : (v == v) = true := by simp
      rcases hk : (k1 == 0) with _ | _
      · go_wp2_with fail
        go_ret
        exact ⟨rfl, HB5.out⟩
      · rcases hx : (v == x1) with _ | _
        · go_wp2_with fail
          go_ret
          exact ⟨rfl, HB5.out⟩
        · go_wp2_with fail
          go_ret
          exact ⟨rfl, HB5.out⟩
end Go.Proofs.Ytkaconpbmppekaa
