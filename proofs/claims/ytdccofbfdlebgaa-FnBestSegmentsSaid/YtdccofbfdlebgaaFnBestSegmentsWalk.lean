/-
  The walk of the law FnBestSegments: it returns true, and nothing that was there before is changed.
  Condition: none.
-/
import Derived.Test.YtdccofbfdlebgaaSwMath2
import Derived.Test.YtdccofbfdlebgaaSwDraw2
import Derived.Test.YtdccofbfdlebgaaDice
import Derived.Test.YtdccofbfdlebgaaLike
import Derived.Test.YtdccofbfdlebgaaShell
import Derived.Test.YtdccofbfdlebgaaTail2
import Derived.BigQuiet
namespace Go.Proofs.Ytdccofbfdlebgaa
open Go Go.RowKit
set_option linter.unusedVariables false
set_option linter.unusedSimpArgs false

theorem bsb_u8 {n : Int} (h : (Lit.int .u8 n).wf = true) : 0 ≤ n ∧ n ≤ 255 := by
  simp [Lit.wf, IntKind.min, IntKind.max, IntKind.signed, IntKind.bits] at h
  omega
set_option maxRecDepth 100000 in
set_option maxHeartbeats 2000000 in
theorem drawBs (A : Option Addr) (n c : Nat) (code : List Int) (w : World) (hI : Ints .u8 w w.heap.size A n code) (hn : n ≤ 4096) (hby : ∀ b ∈ code, 0 ≤ b ∧ b ≤ 255) :
    Calls Try.prog 50 #[.slice A n c] w fun x w' => ∃ s : ByteArray, x = .returned (.string s) ∧ s.size ≤ 4004 ∧ Below w.heap.size w w' := by
  have HI := hide hI
  have HBY := hide hby
  clear hI hby
  go_enter Try.func50, Try.ntmps50
  go_wp2_with fail
  refine (from_any A n c code w HI.out hn HBY.out).mono ?_
  rintro e w1 ⟨rfl, hs1, hb1⟩
  have HD1 := hide (show Dn w A n c code w1 from ⟨hs1, hb1⟩)
  clear hs1 hb1
  go_wp2_with fail
  refine (drawMsg _ _ A n c code w1 HD1.out.1).mono ?_
  rintro e w2 ⟨s, rfl, hs, hs2, hg2⟩
  have HD2 := hide (show Dn w A n c code w2 from ⟨hs2, dn_below HD1.out hg2⟩)
  clear hs2 hg2
  go_wp2_with fail
  go_ret
  exact ⟨s, rfl, hs, HD2.out.2⟩

theorem bl_nonneg (s : ByteArray) : 0 ≤ blOf s := by unfold blOf; split <;> omega

def BcRel (w : World) (n : Nat) (i : Value) (wr : World) : Prop := ∃ k : Nat, k ≤ n ∧ i = .int .i64 k ∧ Below w.heap.size w wr

set_option maxRecDepth 100000 in
set_option maxHeartbeats 8000000 in
theorem fnBestSegmentsWalk (a0 : Option Addr) (n0 c0 : Nat) (z0 : List Int) (w : World) (h0 : Came .u8 w a0 n0 c0 z0) :
    Calls Try.prog 13 #[.slice a0 n0 c0] w fun e w' => e = .returned (.bool true) ∧ Below w.heap.size w w' := by
  obtain ⟨hI, hnc, hcm, hwf⟩ := h0
  have HI := hide hI
  have HBY := hide (show ∀ b ∈ z0, 0 ≤ b ∧ b ≤ 255 from fun b hb => bsb_u8 (hwf b hb))
  clear hI hwf
  unfold maxLen at hcm
  by_cases hbig : 4096 < n0
  · go_enter Try.func13, Try.ntmps13
    go_wp2_with fail
    refine (big_yes a0 n0 c0 w hbig (by omega)).mono ?_
    rintro e wz ⟨rfl, rfl⟩
    go_wp2_with fail
    go_ret
    exact ⟨rfl, Below.refl _ _⟩
  have hn0 : n0 ≤ 4096 := by omega
  go_enter Try.func13, Try.ntmps13
  go_wp2_with fail
  refine (big_no a0 n0 c0 w hn0).mono ?_
  rintro e wz ⟨rfl, rfl⟩
  go_wp2_with fail
  refine (drawBs a0 n0 c0 z0 w HI.out hn0 HBY.out).mono ?_
  rintro e w1 ⟨s, rfl, hs, hb1⟩
  have HB1 := hide hb1
  clear hb1
  have HSP := hide (specBs s (by omega))
  have HIM := hide (implBs s (by omega))
  have hN := bsN_le s
  have HTS := hide (bs_size s)
  have HSM := hide (fun h : s.size ≤ 400 => show bsN s = sgN s ∧ lbCode s = 0 from ⟨by rw [bsN, if_pos h], by rw [lbCode, if_pos h]⟩)
  have HLG := hide (fun h : ¬ s.size ≤ 400 => show lbCode s = 3 by rw [lbCode, if_neg h])
  obtain ⟨n, hn⟩ : ∃ n, bsN s = n := ⟨_, rfl⟩
  obtain ⟨cd, hcd⟩ : ∃ cd, lbCode s = cd := ⟨_, rfl⟩
  rw [hn, hcd] at HSP HIM HSM
  rw [hcd] at HLG
  rw [hn] at hN HTS
  have q1 : (cd != cd) = false := by simp
  clear hn
  have HCD := hide hcd
  clear hcd
  go_wp2_with fail
  refine (HIM.out w1).mono ?_
  rintro e w2 ⟨A2, c2, rfl, hc2, hc2', ho2, hb2⟩
  have HB2 := hide (HB1.out.trans (hb2.mono HB1.out.size))
  have HG2 := hide ho2.segs
  clear hb2 ho2
  go_wp2_with fail
  refine (HSP.out w2).mono ?_
  rintro e w3 ⟨A3, c3, rfl, hc3, hc3', ho3, hb3⟩
  have HB3 := hide (HB2.out.trans (hb3.mono HB2.out.size))
  have HG3 := hide ((HG2.out.below hb3).more hb3.size)
  have HW3 := hide ho3.segs
  clear hb3 ho3 HG2 HSP HIM
  have q2 : ((n : Int) != (n : Int)) = false := by simp
  go_wp2_with fail
  go_loopw [8] (fun i wr => BcRel w3 n i wr) (fun i _ => n - (intOf i).toNat)
  case atStart => exact ⟨0, Nat.zero_le _, rfl, Below.refl _ _⟩
  case round =>
    obtain ⟨k, hk, rfl, hb⟩ := hrel
    have HB := hide hb
    clear hb
    by_cases hlt : k < n
    · obtain ⟨b, off, rfl, hb, hc⟩ := HG3.out (by omega)
      obtain ⟨b', off', rfl, hb', hc'⟩ := HW3.out (by omega)
      have HCA := hide (fun (wx : World) (hx : Below w3.heap.size w3 wx) => segs_cells hb (Nat.le_refl _) hc hlt hx)
      have HCB := hide (fun (wx : World) (hx : Below w3.heap.size w3 wx) => segs_cells hb' (Nat.le_refl _) hc' hlt hx)
      obtain ⟨m, hm⟩ : ∃ m, sgM s k = m := ⟨_, rfl⟩
      obtain ⟨t, ht⟩ : ∃ t, sgT s k = t := ⟨_, rfl⟩
      rw [hm, ht] at HCA HCB
      clear hb hb' hc hc' hm ht
      obtain ⟨d0, d1⟩ := HCA.out _ HB.out
      obtain ⟨d2, d3⟩ := HCB.out _ HB.out
      have q3 : (m != m) = false := by simp
      go_wp2_with fail
      go_quiet (fail)
      go_wp2_with fail
      go_roundw
      case rel => exact ⟨k + 1, by omega, by go_num, below_drewN HB.out _⟩
      case measure => simp [intOf]; omega
    · obtain rfl : k = n := by omega
      by_cases h4 : s.size ≤ 400
      · obtain ⟨hke, rfl⟩ := HSM.out h4
        by_cases h6 : s.size ≤ 60
        · have HBw := hide (HB3.out.trans (HB.out.mono HB3.out.size))
          have HGw := hide (HG3.out.below HB.out)
          have hB0 : w3.heap.size ≤ wr.heap.size := HB.out.size
          have HB0 := hide hB0
          have hT' : ∀ j, j < k → (sgT s j).size ≤ 1099511627776 := fun j hj => Nat.le_trans (HTS.out j hj) (by omega)
          have HBL := hide (implBl s (by omega))
          have HSL := hide (fun wx hI hB => implSl A2 k c2 w3.heap.size (sgM s) (sgT s) wx hI hB (by omega) hT')
          have HLB := hide (implLb s (by omega))
          have HJS := hide (fun wx hI hB => implJs A2 k c2 w3.heap.size (sgM s) (sgT s) wx hI hB (by omega) hT')
          have HIG := hide (fun wx hI hB => implIsg A2 k c2 w3.heap.size (sgM s) (sgT s) s wx hI hB (by omega) hT')
          have hs1 := sl_of_best s h4
          have hs2 := js_of_best s h4
          rw [← hke] at hs1 hs2
          rw [hs1.1, hs1.2] at HSL
          rw [hs2.1, hs2.2.1] at HJS
          rw [hs2.2.2] at HIG
          have hle := bl_lb s (by omega)
          have HP := hide (fun j (hj : j ≤ s.size) => bl_parts s h4 hj)
          rw [HCD.out] at HBL HLB
          obtain ⟨bl, hbl⟩ : ∃ bl, blOf s = bl := ⟨_, rfl⟩
          obtain ⟨lb, hlb⟩ : ∃ lb, lbOf s = lb := ⟨_, rfl⟩
          have HBD := hide (show 0 ≤ bl ∧ bl ≤ 1130800 by rw [← hbl, bl_tab h4]; have := bsT_l s h4; have h : (bsT s 0).l = (tabT (bytesI s) 0).l := rfl; omega)
          rw [hbl] at HBL HSL hle HP
          rw [hlb] at HLB hle
          have q3 : (bl != bl) = false := by simp
          have q4 : ¬ lb < bl := by omega
          clear hbl hlb hle hs1 hs2 hT' hB0 HG3 HW3 HB HTS hke h4
          go_wp2_with fail
          refine (HBL.out wr).mono ?_
          rintro e w4 ⟨rfl, hb4⟩
          have HB4 := hide (HBw.out.trans (hb4.mono HBw.out.size))
          have HG4 := hide (HGw.out.below (hb4.mono HB0.out))
          have HS4 := hide (Nat.le_trans HB0.out hb4.size)
          clear hb4
          go_wp2_with fail
          refine (HSL.out w4 HG4.out HS4.out).mono ?_
          rintro e w5 ⟨rfl, hb5⟩
          have HB5 := hide (HB4.out.trans (hb5.mono HB4.out.size))
          have HG5 := hide (HG4.out.below (hb5.mono HS4.out))
          have HS5 := hide (Nat.le_trans HS4.out hb5.size)
          clear hb5
          go_wp2_with fail
          refine (HLB.out w5).mono ?_
          rintro e w6 ⟨rfl, hb6⟩
          have HB6 := hide (HB5.out.trans (hb6.mono HB5.out.size))
          have HG6 := hide (HG5.out.below (hb6.mono HS5.out))
          have HS6 := hide (Nat.le_trans HS5.out hb6.size)
          clear hb6
          go_wp2_with fail
          refine (HJS.out w6 HG6.out HS6.out).mono ?_
          rintro e w7 ⟨rfl, hb7⟩
          have HB7 := hide (HB6.out.trans (hb7.mono HB6.out.size))
          have HG7 := hide (HG6.out.below (hb7.mono HS6.out))
          have HS7 := hide (Nat.le_trans HS6.out hb7.size)
          clear hb7
          go_wp2_with fail
          refine (HIG.out w7 HG7.out HS7.out).mono ?_
          rintro e w8 ⟨rfl, hb8⟩
          have HB8 := hide (HB7.out.trans (hb8.mono HB7.out.size))
          clear hb8
          go_wp2_with fail
          refine (roll_any a0 n0 c0 z0 1001 w8 ((HI.out.below HB8.out).more HB8.out.size) hn0 HBY.out).mono ?_
          rintro e w9 ⟨rfl, hdi, hb9⟩
          have HDI := hide hdi
          have HB9 := hide (HB8.out.trans (hb9.mono HB8.out.size))
          have hwl : IntKind.i64.wrap ((s.size : Int) + 1) = (s.size : Int) + 1 := IntWalk.i64_in _ ⟨by omega, by omega⟩
          clear hdi hb9
          go_wp2_with fail
          refine (below_any _ _ a0 n0 c0 z0 ((s.size : Int) + 1) w9 HDI.out (by omega) (by omega)).mono ?_
          rintro e w10 ⟨o, rfl, ho, _, hgr⟩
          have HB10 := hide (HB9.out.grown hgr HB9.out.size (fun r hr => by cases hr; exact HB8.out.size))
          have hos : o ≤ s.size := by omega
          have hosI : (o : Int) ≤ (s.size : Int) := by omega
          have HPP := HP.out o hos
          have hA := bl_nonneg (s.extract 0 o)
          have hB := bl_nonneg (s.extract o s.size)
          have HBA := hide (implBl (s.extract 0 o) (by rw [ByteArray.size_extract]; omega))
          have HBB := hide (implBl (s.extract o s.size) (by rw [ByteArray.size_extract]; omega))
          obtain ⟨hp1, hp2, hp3, hp4, hp5⟩ := HPP
          rw [hp1] at HBA
          rw [hp2] at HBB
          obtain ⟨x, hx⟩ : ∃ x, blOf (s.extract 0 o) = x := ⟨_, rfl⟩
          obtain ⟨y, hy⟩ : ∃ y, blOf (s.extract o s.size) = y := ⟨_, rfl⟩
          rw [hx] at HBA hp3 hp4 hA
          rw [hy] at HBB hp3 hp5 hB
          have hbd := HBD.out
          have hwx : IntKind.i64.wrap (x + y) = x + y := IntWalk.i64_in _ ⟨by omega, by omega⟩
          have q5 : bl ≤ x + y := hp3
          clear hgr hp1 hp2 hx hy hbd ho
          go_wp2_with fail
          refine (HBA.out w10).mono ?_
          rintro e w11 ⟨rfl, hb11⟩
          have HB11 := hide (HB10.out.trans (hb11.mono HB10.out.size))
          clear hb11
          go_wp2_with fail
          refine (HBB.out w11).mono ?_
          rintro e w12 ⟨rfl, hb12⟩
          have HB12 := hide (HB11.out.trans (hb12.mono HB11.out.size))
          clear hb12
          go_wp2_with fail
          go_ret
          exact ⟨rfl, HB12.out⟩
        · go_wp2_with fail
          go_ret
          exact ⟨rfl, HB3.out.trans (HB.out.mono HB3.out.size)⟩
      · obtain rfl := HLG.out h4
        go_wp2_with fail
        go_ret
        exact ⟨rfl, HB3.out.trans (HB.out.mono HB3.out.size)⟩
end Go.Proofs.Ytdccofbfdlebgaa
