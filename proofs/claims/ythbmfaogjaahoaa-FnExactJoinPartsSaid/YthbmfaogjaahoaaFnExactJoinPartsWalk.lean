/-
  The law FnExactJoinParts, walked: both sides give the same for every list of parts, and the list is not changed.
  Condition: none beyond the row's own.
-/
import Derived.Test.YthbmfaogjaahoaaRN
import Derived.Test.YthbmfaogjaahoaaRA
import Derived.Test.YthbmfaogjaahoaaPtShell
namespace Go.Proofs.Ythbmfaogjaahoaa
open Go.RowKit
set_option linter.unusedVariables false

theorem cameX {w : World} {A : Option Addr} {n c : Nat} {X : Nat → PtV} (h : CamePt w A n c X) (hT : ∀ j, j < n → (X j).t.size ≤ 1048576) : ∀ j, j < n → (X j).t.size ≤ 1099511627776 ∧ (-9223372036854775808 ≤ (X j).c ∧ (X j).c ≤ 9223372036854775807) := fun j hj => by
  have h1 := hT j hj
  exact ⟨by omega, bd_i64 (h.2.2.2 j hj).1.2.1⟩

set_option maxRecDepth 100000 in
theorem fnExactJoinPartsWalk (A : Option Addr) (n c : Nat) (X : Nat → PtV) (w : World) (h : CamePt w A n c X) :
    Calls Try.prog 7 #[.slice A n c] w fun e w' => e = .returned (.bool true) ∧ Below w.heap.size w w' := by
  have hncap := h.2.1
  have hcm := h.2.2.1
  unfold maxLen at hcm
  have HSZ := hide (szPts A n c X w h.1 (by omega) (fun j hj => by have := (h.2.2.2 j hj).2; unfold maxLen at this; omega))
  have HI := hide h.1
  have HX := hide (fun hT => cameX h hT)
  clear h
  go_enter Try.func7, Try.ntmps7
  go_wp2_with fail
  refine HSZ.out.mono ?_
  rintro e w1 ⟨r, rfl, hr, hb1⟩
  have HB1 := hide hb1
  clear hb1 HSZ
  rcases hr with hr | ⟨hr, hn, hT⟩
  · go_wp2_with fail
    go_ret
    exact ⟨rfl, HB1.out⟩
  · have hr' : ¬ r < 0 := by omega
    have HXX := hide (HX.out hT)
    have HSP := hide (fun (A : Option Addr) (c B : Nat) w hI hB => specJp A n c B X w hI hB (by omega) HXX.out)
    have HIM := hide (fun (A : Option Addr) (c B : Nat) w hI hB => implJp A n c B X w hI hB (by omega) HXX.out)
    obtain ⟨s, hs⟩ : ∃ s, jpT X n = s := ⟨_, rfl⟩
    obtain ⟨k, hk⟩ : ∃ k, jpC X n = k := ⟨_, rfl⟩
    rw [hs, hk] at HSP HIM
    have hne : (k != k) = false := by simp
    clear hT hs hk hr HX
    go_wp2_with fail
    refine (toPts A n c _ X w1 ((HI.out.below HB1.out).more HB1.out.size) (Nat.le_refl _) hn).mono ?_
    rintro e w2 ⟨A2, c2, rfl, hn2, hc2, ho2, hb2⟩
    have HB2 := hide (HB1.out.trans (hb2.mono HB1.out.size))
    have HO2 := hide ho2
    clear hb2 ho2
    go_wp2_with fail
    refine (HSP.out A2 c2 _ w2 HO2.out.pts (Nat.le_refl _)).mono ?_
    rintro e w3 ⟨rfl, hb3⟩
    have HB3 := hide (HB2.out.trans (hb3.mono HB2.out.size))
    clear hb3 HO2 HSP
    go_wp2_with fail
    refine (toPts A n c _ X w3 ((HI.out.below HB3.out).more HB3.out.size) (Nat.le_refl _) hn).mono ?_
    rintro e w4 ⟨A4, c4, rfl, hn4, hc4, ho4, hb4⟩
    have HB4 := hide (HB3.out.trans (hb4.mono HB3.out.size))
    have HO4 := hide ho4
    clear hb4 ho4
    go_wp2_with fail
    refine (HIM.out A4 c4 _ w4 HO4.out.pts (Nat.le_refl _)).mono ?_
    rintro e w5 ⟨rfl, hb5⟩
    have HB5 := hide (HB4.out.trans (hb5.mono HB4.out.size))
    have HO5 := hide (HO4.out.next hb5)
    clear hb5 HO4 HIM
    go_wp2_with fail
    refine (toPts A n c _ X w5 ((HI.out.below HB5.out).more HB5.out.size) (Nat.le_refl _) hn).mono ?_
    rintro e w6 ⟨A6, c6, rfl, hn6, hc6, ho6, hb6⟩
    have HB6 := hide (HB5.out.trans (hb6.mono HB5.out.size))
    have HO6 := hide ho6
    have HO56 := hide (HO5.out.next hb6)
    clear hb6 ho6 HO5
    go_wp2_with fail
    refine (eqPts_same A4 A6 n c4 c6 _ _ X w6 HO56.out.pts HO6.out.pts (Nat.le_refl _) (Nat.le_refl _) hn).mono ?_
    rintro e w7 ⟨rfl, hb7⟩
    have HB7 := hide (HB6.out.trans (hb7.mono HB6.out.size))
    clear hb7
    go_wp2_with fail
    go_ret
    exact ⟨rfl, HB7.out⟩
end Go.Proofs.Ythbmfaogjaahoaa
