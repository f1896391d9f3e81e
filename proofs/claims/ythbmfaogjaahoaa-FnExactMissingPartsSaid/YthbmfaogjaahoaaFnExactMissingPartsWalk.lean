/-
  The law FnExactMissingParts, walked: both sides give the same for every list of parts; the list is not changed; what is returned is new memory.
  Condition: none beyond the row's own.
-/
import Derived.Test.YthbmfaogjaahoaaPtMk
import Derived.Test.YthbmfaogjaahoaaFnExactJoinPartsWalk
import Derived.Test.YthbmfaogjaahoaaMarks
namespace Go.Proofs.Ythbmfaogjaahoaa
open Go.RowKit
set_option linter.unusedVariables false

theorem apartP {u v : Value} {B : Nat} (hu : ∀ g, u.ownBlock = some g → g < B) (hv : ∀ g, v.ownBlock = some g → B ≤ g) : (u.ownBlock = none ∨ u.ownBlock ≠ v.ownBlock) ∧ (v.ownBlock = none ∨ v.ownBlock ≠ u.ownBlock) := by
  rcases hu' : u.ownBlock with _ | a
  · exact ⟨.inl rfl, by rcases v.ownBlock with _ | b <;> simp⟩
  · have h1 := hu a hu'
    refine ⟨.inr fun e => ?_, ?_⟩
    · have := hv a e.symm; omega
    · rcases hv' : v.ownBlock with _ | b
      · exact .inl rfl
      · refine .inr fun e => ?_
        injection e with e
        have := hv b hv'; omega

set_option maxRecDepth 100000 in
set_option maxHeartbeats 2000000 in
theorem fnExactMissingPartsWalk (A : Option Addr) (n c : Nat) (X : Nat → PtV) (w : World) (h : CamePt w A n c X) :
    Calls Try.prog 8 #[.slice A n c] w fun e w' => e = .returned (.bool true) ∧ Below w.heap.size w w' := by
  have hncap := h.2.1
  have hcm := h.2.2.1
  unfold maxLen at hcm
  have HSZ := hide (szPts A n c X w h.1 (by omega) (fun j hj => by have := (h.2.2.2 j hj).2; unfold maxLen at this; omega))
  have HI := hide h.1
  have HX := hide (fun hT => cameX h hT)
  clear h
  go_enter Try.func8, Try.ntmps8
  go_wp2_with fail
  refine HSZ.out.mono ?_
  rintro e w1 ⟨r, rfl, hr, hb1⟩
  have HB1 := hide hb1
  clear hb1 HSZ
  rcases hr with hr | ⟨hr, hn, hT⟩
  · go_wp2_with fail
    go_ret
    exact ⟨rfl, HB1.out⟩
  have hr' : ¬ r < 0 := by omega
  have HXX := hide (HX.out hT)
  have HSP := hide (fun (A : Option Addr) (c B : Nat) w hI hB => specMi A n c B X w hI hB (by omega) HXX.out)
  have HIM := hide (fun (A : Option Addr) (c B : Nat) w hI hB => implMi A n c B X w hI hB (by omega) HXX.out)
  have hl8 : (mpL X n).length ≤ 8 := by
    unfold mpL
    split
    · rename_i h0
      obtain ⟨⟨h1, h8⟩, hv, he⟩ := pe_yes h0
      have := al_idx h1 hv he
      have := ms_len X n (X 0).c.toNat
      omega
    · exact Nat.zero_le _
  obtain ⟨l, hl⟩ : ∃ l, mpL X n = l := ⟨_, rfl⟩
  obtain ⟨k, hk⟩ : ∃ k, peC X n = k := ⟨_, rfl⟩
  rw [hl] at hl8 HSP HIM
  rw [hk] at HSP HIM
  have hne : (k != k) = false := by simp
  clear hT hl hk hr HX
  go_wp2_with fail
  refine (toPts A n c _ X w1 ((HI.out.below HB1.out).more HB1.out.size) (Nat.le_refl _) hn).mono ?_
  rintro e w2 ⟨A2, c2, rfl, hn2, hc2, ho2, hb2⟩
  have HB2 := hide (HB1.out.trans (hb2.mono HB1.out.size))
  have HO2 := hide ho2
  clear hb2 ho2
  go_wp2_with fail
  refine (HSP.out A2 c2 _ w2 HO2.out.pts (Nat.le_refl _)).mono ?_
  rintro e w3 ⟨A3, c3, rfl, hl3, ho3, hb3⟩
  have HB3 := hide (HB2.out.trans (hb3.mono HB2.out.size))
  have HW3 := hide ho3
  clear hb3 ho3 HO2 HSP
  go_wp2_with fail
  refine (toPts A n c _ X w3 ((HI.out.below HB3.out).more HB3.out.size) (Nat.le_refl _) hn).mono ?_
  rintro e w4 ⟨A4, c4, rfl, hn4, hc4, ho4, hb4⟩
  have HB4 := hide (HB3.out.trans (hb4.mono HB3.out.size))
  have HO4 := hide ho4
  have HW4 := hide (HW3.out.below hb4 (Nat.le_refl _))
  have NWX := hide (apartP (u := .slice A3 l.length c3) (v := .slice A4 n c4) (B := w3.heap.size) (fun g hg => (HW3.out.lt hg).2) (fun g hg => (World.ownsRow.lt ho4 g hg).1))
  have HXB := hide (fun g hg => (World.ownsRow.lt ho4 g hg))
  have hs34 := hb4.size
  clear hb4 ho4 HW3
  go_wp2_with fail
  refine (HIM.out A4 c4 _ w4 HO4.out.pts (Nat.le_refl _)).mono ?_
  rintro e w5 ⟨A5, c5, rfl, hl5, ho5, hb5⟩
  have HB5 := hide (HB4.out.trans (hb5.mono HB4.out.size))
  have HO5 := hide (HO4.out.next hb5)
  have HW5 := hide (HW4.out.below hb5 (Nat.le_refl _))
  have HG5 := hide ho5
  have NGX := hide (apartP (u := .slice A4 n c4) (v := .slice A5 l.length c5) (B := w4.heap.size) (fun g hg => (HXB.out g hg).2) (fun g hg => (ho5.lt hg).1))
  have NWG := hide (HW4.out.ne ho5 (Nat.le_refl _))
  clear hb5 ho5 HO4 HW4
  go_wp2_with fail
  refine (eqSame A5 _ c5 _ A3 _ c3 _ l _ HG5.out.ints HW5.out.ints (by omega)).mono ?_
  rintro e w6 ⟨rfl, hb6⟩
  have HB6 := hide (HB5.out.trans (hb6.mono HB5.out.size))
  have HO6 := hide (HO5.out.next hb6)
  have HW6 := hide (HW5.out.below hb6 (Nat.le_refl _))
  have HG6 := hide (HG5.out.below hb6 (Nat.le_refl _))
  clear hb6 HO5 HW5 HG5
  go_wp2_with fail
  refine (toPts A n c _ X w6 ((HI.out.below HB6.out).more HB6.out.size) (Nat.le_refl _) hn).mono ?_
  rintro e w7 ⟨A7, c7, rfl, hn7, hc7, ho7, hb7⟩
  have HB7 := hide (HB6.out.trans (hb7.mono HB6.out.size))
  have HO7 := hide (HO6.out.next hb7)
  have HW7 := hide (HW6.out.below hb7 (Nat.le_refl _))
  have HG7 := hide (HG6.out.below hb7 (Nat.le_refl _))
  have HT7 := hide ho7
  clear hb7 ho7 HO6 HW6 HG6
  go_wp2_with fail
  refine (eqPts_same A4 A7 n c4 c7 _ _ X w7 HO7.out.pts HT7.out.pts (Nat.le_refl _) (Nat.le_refl _) hn).mono ?_
  rintro e w8 ⟨rfl, hb8⟩
  have HB8 := hide (HB7.out.trans (hb8.mono HB7.out.size))
  have HO8 := hide (HO7.out.next hb8)
  have HW8 := hide (HW7.out.below hb8 (Nat.le_refl _))
  have HG8 := hide (HG7.out.below hb8 (Nat.le_refl _))
  clear hb8 HO7 HW7 HG7 HT7
  go_wp2_with fail
  refine (markPts A4 n c4 w3.heap.size 1 _ w8 HO8.out hn (by omega) (by omega)).mono ?_
  rintro e w9 ⟨rfl, _, hg9⟩
  have HB9 := hide (HB8.out.grown hg9 HB8.out.size (fun g hg => Nat.le_trans HB3.out.size (HXB.out g hg).1))
  have HW9 := hide (HW8.out.grown hg9 NWX.out.1)
  have HG9 := hide (HG8.out.grown hg9 NGX.out.2)
  clear hg9 HO8 HW8 HG8
  have hk0 : ¬ ((1 + 4 * n : Nat) : Int) < 0 := by omega
  obtain ⟨kk, hkk⟩ : ∃ kk, 1 + 4 * n = kk := ⟨_, rfl⟩
  rw [hkk] at hk0 ⊢
  clear hkk
  go_wp2_with fail
  refine (eqSame A5 _ c5 _ A3 _ c3 _ l _ HG9.out.ints HW9.out.ints (by omega)).mono ?_
  rintro e w10 ⟨rfl, hb10⟩
  have HB10 := hide (HB9.out.trans (hb10.mono HB9.out.size))
  have HW10 := hide (HW9.out.below hb10 (Nat.le_refl _))
  have HG10 := hide (HG9.out.below hb10 (Nat.le_refl _))
  clear hb10 HW9 HG9
  go_wp2_with fail
  refine (markInts' A5 _ c5 _ _ 1 l _ HG10.out (by omega) (by omega) (by omega)).mono ?_
  rintro e w11 ⟨rfl, ho11, hg11⟩
  have HB11 := hide (HB10.out.grown hg11 HB10.out.size (fun g hg => Nat.le_trans HB4.out.size (HG10.out.lt hg).1))
  have HW11 := hide (HW10.out.grown hg11 NWG.out)
  have HG11 := hide ho11
  clear ho11 hg11 HW10 HG10
  go_wp2_with fail
  refine (heldInts' A5 _ c5 _ _ 1 _ (HG11.out.ints' (marks_len _ _)) (by omega) (by omega) (by omega)).mono ?_
  rintro e w11 ⟨rfl, rfl⟩
  go_wp2_with fail
  refine (toPts A n c _ X w11 ((HI.out.below HB11.out).more HB11.out.size) (Nat.le_refl _) hn).mono ?_
  rintro e w12 ⟨A12, c12, rfl, hn12, hc12, ho12, hb12⟩
  have HB12 := hide (HB11.out.trans (hb12.mono HB11.out.size))
  have HW12 := hide (HW11.out.below hb12 (Nat.le_refl _))
  have HG12 := hide (HG11.out.below hb12 (Nat.le_refl _))
  have HO12 := hide ho12
  clear hb12 ho12 HW11 HG11
  go_wp2_with fail
  refine (HIM.out A12 c12 _ w12 HO12.out.pts (Nat.le_refl _)).mono ?_
  rintro e w13 ⟨A13, c13, rfl, hl13, ho13, hb13⟩
  have HB13 := hide (HB12.out.trans (hb13.mono HB12.out.size))
  have HW13 := hide (HW12.out.below hb13 (Nat.le_refl _))
  have HG13 := hide (HG12.out.below hb13 (Nat.le_refl _))
  have HH13 := hide ho13
  clear hb13 ho13 HW12 HG12 HO12
  go_wp2_with fail
  refine (eqSame A13 _ c13 _ A3 _ c3 _ l _ HH13.out.ints HW13.out.ints (by omega)).mono ?_
  rintro e w14 ⟨rfl, hb14⟩
  have HB14 := hide (HB13.out.trans (hb14.mono HB13.out.size))
  have HG14 := hide (HG13.out.below hb14 (Nat.le_refl _))
  clear hb14 HW13 HG13 HH13
  go_wp2_with fail
  refine (heldInts' A5 _ c5 _ _ 1 _ (HG14.out.ints' (marks_len _ _)) (by omega) (by omega) (by omega)).mono ?_
  rintro e w14 ⟨rfl, rfl⟩
  go_wp2_with fail
  go_ret
  exact ⟨rfl, HB14.out⟩
end Go.Proofs.Ythbmfaogjaahoaa
