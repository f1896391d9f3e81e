/-
  The walk of the law FnCodeSums: it returns true, and nothing that was there before is changed.
  Condition: none.
-/
import Derived.Test.YtfbkmbjbjgfenaaJE
import Derived.Test.YtfbkmbjbjgfenaaJH
import Derived.Test.YtfbkmbjbjgfenaaCVal
import Derived.Test.YtfbkmbjbjgfenaaCDraw6
import Derived.Test.YtfbkmbjbjgfenaaDice2
namespace Go.Proofs.Ytfbkmbjbjgfenaa
open Go.RowKit
set_option linter.unusedVariables false
set_option linter.unusedSimpArgs false

def CsRel {R : Fld} (w1 : World) (p k γ : Int) (l c : Nat) (Ag A1 A2 Ap Aq Ar : Option Addr) (a b x sa sb sx : List (El R)) (i : Value) (wr : World) : Prop :=
  ∃ j : Nat, j ≤ c ∧ i = .int .i64 j ∧ Ints .i64 wr wr.heap.size Ag (iv x).length (iv x) ∧ Ints .i64 wr wr.heap.size A1 (iv a).length (iv a) ∧ Ints .i64 wr wr.heap.size A2 (iv b).length (iv b) ∧ Ints .i64 wr wr.heap.size Ap c (iv sa) ∧ Ints .i64 wr wr.heap.size Aq c (iv sb) ∧ Ints .i64 wr wr.heap.size Ar c (iv sx) ∧ CBox w1 wr p k γ l c

set_option maxRecDepth 100000 in
set_option maxHeartbeats 8000000 in
theorem fnCodeSumsWalk (a0 : Option Addr) (n0 c0 : Nat) (z0 : List Int) (w : World) (h0 : Came .u8 w a0 n0 c0 z0) :
    Calls Try.prog 4 #[.slice a0 n0 c0] w fun e w' => e = .returned (.bool true) ∧ Below w.heap.size w w' := by
  obtain ⟨hI, hnc, hcm, hwf⟩ := h0
  have HI := hide hI
  have HBY := hide (show ∀ b ∈ z0, 0 ≤ b ∧ b ≤ 255 from fun b hb => bd_u8 (hwf b hb))
  clear hI hwf
  unfold maxLen at hcm
  by_cases hbig : 4096 < n0
  · go_enter Try.func4, Try.ntmps4
    go_wp2_with fail
    refine (big_yes a0 n0 c0 w hbig (by omega)).mono ?_
    rintro e w ⟨rfl, rfl⟩
    go_wp2_with fail
    go_ret
    exact ⟨rfl, Below.refl _ _⟩
  have hn0 : n0 ≤ 4096 := by omega
  go_enter Try.func4, Try.ntmps4
  go_wp2_with fail
  refine (big_no a0 n0 c0 w hn0).mono ?_
  rintro e w ⟨rfl, rfl⟩
  go_wp2_with fail
  refine (drawAddw a0 n0 c0 z0 w HI hn0 HBY).mono ?_
  rintro e w1 ⟨p, k, γ, L, C, z1, A1, c1, z2, A2, c2, rfl, hL0, hL1, hC0, hC1, hl1, hl2, hn1, hn2, hI1, hI2, hb⟩
  have HB1 := hide hb
  have HX1 := hide (CBox.start w1 p k γ L C)
  have hCb : -9223372036854775808 ≤ C ∧ C ≤ 9223372036854775807 := by omega
  have I1_1 := hide ((hI1.below HX1.out.2).more HX1.out.2.size)
  have I2_1 := hide ((hI2.below HX1.out.2).more HX1.out.2.size)
  have I0_1 := hide (((HI.out.below hb).more hb.size).below HX1.out.2 |>.more HX1.out.2.size)
  clear hI1 hI2 hb HI
  obtain ⟨b0, b1, b2, b3, b4⟩ := HX1.out.cells
  clear I0_1
  obtain ⟨r, cd, hr, hS, hM, hC⟩ := addw_key p k γ L C z1 z2 (by omega) (by omega) hCb
  have HS := hide hS
  have HM := hide hM
  have HC := hide hC
  clear hS hM hC
  have hcc : (cd != cd) = false := by simp
  go_wp2_with fail
  refine (HM.out A1 _ c1 A2 _ c2 _ _ I1_1.out I2_1.out hn1 hn2 (Nat.le_refl _)).mono ?_
  rintro e w2 ⟨Ag, cg, rfl, hcg, hog, hb⟩
  have HX2 := hide (HX1.out.next hb)
  have I1_2 := hide ((I1_1.out.below hb).more hb.size)
  have I2_2 := hide ((I2_1.out.below hb).more hb.size)
  clear I1_1
  clear I2_1
  have Ig_2 := hide (hog.ints)
  clear hog
  clear hb b0 b1 b2 b3 b4
  obtain ⟨b0, b1, b2, b3, b4⟩ := HX2.out.cells
  go_wp2_with fail
  refine (HS.out A1 _ c1 A2 _ c2 _ _ I1_2.out I2_2.out hn1 hn2 (Nat.le_refl _)).mono ?_
  rintro e w3 ⟨Av, cv, rfl, hcv, hov, hb⟩
  have HX3 := hide (HX2.out.next hb)
  have I1_3 := hide ((I1_2.out.below hb).more hb.size)
  have I2_3 := hide ((I2_2.out.below hb).more hb.size)
  have Ig_3 := hide ((Ig_2.out.below hb).more hb.size)
  clear I1_2
  clear I2_2
  clear Ig_2
  have Iv_3 := hide (hov.ints)
  clear hov
  clear hb b0 b1 b2 b3 b4
  obtain ⟨b0, b1, b2, b3, b4⟩ := HX3.out.cells
  clear hcv
  go_wp2_with fail
  refine (likeSame Ag _ cg _ Av _ cv _ r _ Ig_3.out Iv_3.out (by omega)).mono ?_
  rintro e w4 ⟨rfl, hb⟩
  have HX4 := hide (HX3.out.next hb)
  have I1_4 := hide ((I1_3.out.below hb).more hb.size)
  have I2_4 := hide ((I2_3.out.below hb).more hb.size)
  have Ig_4 := hide ((Ig_3.out.below hb).more hb.size)
  have Iv_4 := hide ((Iv_3.out.below hb).more hb.size)
  clear I1_3
  clear I2_3
  clear Ig_3
  clear Iv_3
  clear hb b0 b1 b2 b3 b4
  obtain ⟨b0, b1, b2, b3, b4⟩ := HX4.out.cells
  clear Iv_4
  rcases HC.out with hcd | ⟨hcd, R, γ', l, c, a, b, hLe, hCe, hc, hze, hze', hal, hbl, hre⟩
  · have e1 : (cd != 0) = true := by simpa using hcd
    clear hcd
    go_wp2_with fail
    go_ret
    exact ⟨rfl, HB1.out.trans (HX4.out.2.mono HB1.out.size)⟩
  · subst hcd hLe hCe hze hze' hre
    have hcl := hc.cl
    have hl255 := hc.l255
    have hc64 := hc.c64
    obtain ⟨x, hx⟩ : ∃ x, x = addW a b := ⟨_, rfl⟩
    have hxl : x.length = l := by rw [hx, addW_len]; exact hal
    have HXW := hide (show isCW γ' c a = true → isCW γ' c b = true → isCW γ' c x = true from fun h1 h2 => by rw [hx]; exact add_isCW (by omega) h1 h2)
    have HXS := hide (show ∀ j, j < c → cf (synW γ' c a) j + cf (synW γ' c b) j = cf (synW γ' c x) j from fun j hj => by rw [hx, syn_at _ _ hj, syn_at _ _ hj, syn_at _ _ hj, ev_addW _ (by omega)])
    rw [← hx] at Ig_4 hcg ⊢
    have HVA := hide (syn_val hc a (by rw [iv_len]; omega) hal).2
    have HVB := hide (syn_val hc b (by rw [iv_len]; omega) hbl).2
    have HVX := hide (syn_val hc x (by rw [iv_len]; omega) hxl).2
    have HIA := hide (isw_val hc a (by rw [iv_len]; omega) hal).2
    have HIB := hide (isw_val hc b (by rw [iv_len]; omega) hbl).2
    have HIX := hide (isw_val hc x (by rw [iv_len]; omega) hxl).2
    obtain ⟨sa, hsa⟩ : ∃ sa, sa = synW γ' c a := ⟨_, rfl⟩
    obtain ⟨sb, hsb⟩ : ∃ sb, sb = synW γ' c b := ⟨_, rfl⟩
    obtain ⟨sx, hsx⟩ : ∃ sx, sx = synW γ' c x := ⟨_, rfl⟩
    have HLA := hide (show (iv sa).length = c by rw [iv_len, hsa]; exact syn_len _ _ _)
    have HLB := hide (show (iv sb).length = c by rw [iv_len, hsb]; exact syn_len _ _ _)
    have HLX := hide (show (iv sx).length = c by rw [iv_len, hsx]; exact syn_len _ _ _)
    rw [← hsa] at HVA HXS
    rw [← hsb] at HVB HXS
    rw [← hsx] at HVX HXS
    have HFA := hide (fun X Y : El R => fAddE hc.ok hc.fld X Y)
    clear hcc HS HM HC hx hsa hsb hsx hL0 hL1 hC0 hC1 hCb
    go_wp2_with fail
    refine (HVA.out A1 _ c1 _ _ I1_4.out hn1 (Nat.le_refl _)).mono ?_
    rintro e w5 ⟨Ap, cp, rfl, hcp, hop, hb⟩
    have HX5 := hide (HX4.out.next hb)
    have I1_5 := hide ((I1_4.out.below hb).more hb.size)
    have I2_5 := hide ((I2_4.out.below hb).more hb.size)
    have Ig_5 := hide ((Ig_4.out.below hb).more hb.size)
    clear I1_4
    clear I2_4
    clear Ig_4
    have Ip_5 := hide (hop.ints)
    clear hop
    clear hb b0 b1 b2 b3 b4
    obtain ⟨b0, b1, b2, b3, b4⟩ := HX5.out.cells
    clear hcp
    rw [HLA.out] at Ip_5 ⊢
    go_wp2_with fail
    refine (HVB.out A2 _ c2 _ _ I2_5.out hn2 (Nat.le_refl _)).mono ?_
    rintro e w6 ⟨Aq, cq, rfl, hcq, hoq, hb⟩
    have HX6 := hide (HX5.out.next hb)
    have I1_6 := hide ((I1_5.out.below hb).more hb.size)
    have I2_6 := hide ((I2_5.out.below hb).more hb.size)
    have Ig_6 := hide ((Ig_5.out.below hb).more hb.size)
    have Ip_6 := hide ((Ip_5.out.below hb).more hb.size)
    clear I1_5
    clear I2_5
    clear Ig_5
    clear Ip_5
    have Iq_6 := hide (hoq.ints)
    clear hoq
    clear hb b0 b1 b2 b3 b4
    obtain ⟨b0, b1, b2, b3, b4⟩ := HX6.out.cells
    clear hcq
    rw [HLB.out] at Iq_6 ⊢
    go_wp2_with fail
    refine (HVX.out Ag _ cg _ _ Ig_6.out hcg (Nat.le_refl _)).mono ?_
    rintro e w7 ⟨Ar, cr, rfl, hcr, hor, hb⟩
    have HX7 := hide (HX6.out.next hb)
    have I1_7 := hide ((I1_6.out.below hb).more hb.size)
    have I2_7 := hide ((I2_6.out.below hb).more hb.size)
    have Ig_7 := hide ((Ig_6.out.below hb).more hb.size)
    have Ip_7 := hide ((Ip_6.out.below hb).more hb.size)
    have Iq_7 := hide ((Iq_6.out.below hb).more hb.size)
    clear I1_6
    clear I2_6
    clear Ig_6
    clear Ip_6
    clear Iq_6
    have Ir_7 := hide (hor.ints)
    clear hor
    clear hb b0 b1 b2 b3 b4
    obtain ⟨b0, b1, b2, b3, b4⟩ := HX7.out.cells
    clear hcr
    rw [HLX.out] at Ir_7 ⊢
    have HN1 := hide hn1
    have HN2 := hide hn2
    have HNG := hide hcg
    have hnn : ((c : Int) != (c : Int)) = false := by simp
    go_wp2_with fail
    go_loopw [16, 17, 18] (fun i _ _ wr => CsRel w1 p k γ l c Ag A1 A2 Ap Aq Ar a b x sa sb sx i wr) (fun i _ _ _ => c - (intOf i).toNat)
    case atStart => exact ⟨0, by omega, rfl, Ig_7.out, I1_7.out, I2_7.out, Ip_7.out, Iq_7.out, Ir_7.out, HX7.out⟩
    case round =>
      clear b0 b1 b2 b3 b4 hnn I1_7 I2_7 Ig_7 Ip_7 Iq_7 Ir_7 HX1 HX2 HX3 HX4 HX5 HX6 HX7
      obtain ⟨j, hj, rfl, hIg, hI1, hI2, hIp, hIq, hIr, HX⟩ := hrel
      have HX := hide HX
      have HIg := hide hIg; have HI1 := hide hI1; have HI2 := hide hI2; have HIp := hide hIp; have HIq := hide hIq; have HIr := hide hIr
      clear hIg hI1 hI2 hIp hIq hIr
      obtain ⟨b0, b1, b2, b3, b4⟩ := HX.out.cells
      by_cases hlt : j < c
      · skip
        obtain ⟨bp, op, xp, rfl, hbp, hxp, hcp⟩ := HIp.out.at_ hlt
        rw [iv_at (by have := HLA.out; rw [iv_len] at this; omega)] at hxp
        simp only [Option.some.injEq] at hxp
        subst hxp
        obtain ⟨bq, oq, xq, rfl, hbq, hxq, hcq⟩ := HIq.out.at_ hlt
        rw [iv_at (by have := HLB.out; rw [iv_len] at this; omega)] at hxq
        simp only [Option.some.injEq] at hxq
        subst hxq
        obtain ⟨br, or, xr, rfl, hbr, hxr, hcr⟩ := HIr.out.at_ hlt
        rw [iv_at (by have := HLX.out; rw [iv_len] at this; omega)] at hxr
        simp only [Option.some.injEq] at hxr
        subst hxr
        have HE := hide (HFA.out (cf sa j) (cf sb j))
        rw [HXS.out j hlt] at HE
        obtain ⟨X, hX⟩ : ∃ X, X = cf sa j := ⟨_, rfl⟩
        obtain ⟨Y, hY⟩ : ∃ Y, Y = cf sb j := ⟨_, rfl⟩
        obtain ⟨Z, hZ⟩ : ∃ Z, Z = cf sx j := ⟨_, rfl⟩
        rw [← hX] at hcp HE
        rw [← hY] at hcq HE
        rw [← hZ] at hcr HE
        have hzz : (((Z.val : Nat) : Int) != ((Z.val : Nat) : Int)) = false := by simp
        have HCP := hide hcp
        have HCQ := hide hcq
        have HCR := hide hcr
        have HBR := hide hbr
        have HBP := hide hbp
        have HBQ := hide hbq
        clear hX hY hZ hbp hbq hbr
        go_wp2_with fail
        go_region_held3 (fun w' => w'.cell? ⟨w1.heap.size, 0, none⟩ = some (.int .i64 p) ∧ w'.cell? ⟨w1.heap.size, 1, none⟩ = some (.int .i64 k) ∧ w'.cell? ⟨w1.heap.size, 2, none⟩ = some (.int .i64 γ) ∧ w'.cell? ⟨bp, op + j, none⟩ = some (.int .i64 (X.val : Int)) ∧ w'.cell? ⟨bq, oq + j, none⟩ = some (.int .i64 (Y.val : Int)))
          (first
            | exact ⟨HX.out.drew.cells.1, HX.out.drew.cells.2.1, HX.out.drew.cells.2.2.1, HCP.out, HCQ.out⟩
            | exact ⟨HX9.out.cells.1, HX9.out.cells.2.1, HX9.out.cells.2.2.1, HCP9.out, HCQ9.out⟩)
          ((go_at_call 29; refine (implAdd p k γ _ _ _).mono ?_; rw [HE.out.1, HE.out.2]; rintro e w9 ⟨rfl, hb9⟩; have HX9 := hide (HX.out.drew.next hb9); have HIg9 := hide ((HIg.out.drew.below hb9).more hb9.size); have HI19 := hide ((HI1.out.drew.below hb9).more hb9.size); have HI29 := hide ((HI2.out.drew.below hb9).more hb9.size); have HIp9 := hide ((HIp.out.drew.below hb9).more hb9.size); have HIq9 := hide ((HIq.out.drew.below hb9).more hb9.size); have HIr9 := hide ((HIr.out.drew.below hb9).more hb9.size); have HCP9 := hide ((hb9.cell (p := ⟨bp, op + j, none⟩) HBP.out).trans HCP.out); have HCQ9 := hide ((hb9.cell (p := ⟨bq, oq + j, none⟩) HBQ.out).trans HCQ.out); have hcr9 := (hb9.cell (p := ⟨br, or + j, none⟩) HBR.out).trans HCR.out; clear hb9))
        go_wp2_with fail
        go_roundw
        case rel => exact ⟨j + 1, by omega, by go_num, HIg9.out, HI19.out, HI29.out, HIp9.out, HIq9.out, HIr9.out, HX9.out⟩
        case measure => simp [intOf]; omega
      · have hd : decide (j < c) = false := by simpa using hlt
        clear hlt
        go_wp2_with fail
        rcases ha : isCW γ' c a with _ | _
        · rw [ha] at HIA
          refine (HIA.out A1 _ c1 _ _ HI1.out HN1.out (Nat.le_refl _)).mono ?_
          rintro e w10 ⟨rfl, hb⟩
          have HX10 := hide (HX.out.next hb)
          clear hb b0 b1 b2 b3 b4
          obtain ⟨b0, b1, b2, b3, b4⟩ := HX10.out.cells
          go_wp2_with fail
          go_ret
          exact ⟨rfl, HB1.out.trans (HX10.out.2.mono HB1.out.size)⟩
        · rcases hb' : isCW γ' c b with _ | _
          · rw [ha] at HIA
            rw [hb'] at HIB
            refine (HIA.out A1 _ c1 _ _ HI1.out HN1.out (Nat.le_refl _)).mono ?_
            rintro e w10 ⟨rfl, hb⟩
            have HX10 := hide (HX.out.next hb)
            have HI2_10 := hide ((HI2.out.below hb).more hb.size)
            clear hb b0 b1 b2 b3 b4
            obtain ⟨b0, b1, b2, b3, b4⟩ := HX10.out.cells
            go_wp2_with fail
            refine (HIB.out A2 _ c2 _ _ HI2_10.out HN2.out (Nat.le_refl _)).mono ?_
            rintro e w11 ⟨rfl, hb⟩
            have HX11 := hide (HX10.out.next hb)
            clear hb b0 b1 b2 b3 b4
            obtain ⟨b0, b1, b2, b3, b4⟩ := HX11.out.cells
            go_wp2_with fail
            go_ret
            exact ⟨rfl, HB1.out.trans (HX11.out.2.mono HB1.out.size)⟩
          · rw [HXW.out ha hb'] at HIX
            rw [ha] at HIA
            rw [hb'] at HIB
            refine (HIA.out A1 _ c1 _ _ HI1.out HN1.out (Nat.le_refl _)).mono ?_
            rintro e w10 ⟨rfl, hb⟩
            have HX10 := hide (HX.out.next hb)
            have HI2_10 := hide ((HI2.out.below hb).more hb.size)
            have HIg_10 := hide ((HIg.out.below hb).more hb.size)
            clear hb b0 b1 b2 b3 b4
            obtain ⟨b0, b1, b2, b3, b4⟩ := HX10.out.cells
            go_wp2_with fail
            refine (HIB.out A2 _ c2 _ _ HI2_10.out HN2.out (Nat.le_refl _)).mono ?_
            rintro e w11 ⟨rfl, hb⟩
            have HX11 := hide (HX10.out.next hb)
            have HIg_11 := hide ((HIg_10.out.below hb).more hb.size)
            clear hb b0 b1 b2 b3 b4
            obtain ⟨b0, b1, b2, b3, b4⟩ := HX11.out.cells
            go_wp2_with fail
            refine (HIX.out Ag _ cg _ _ HIg_11.out HNG.out (Nat.le_refl _)).mono ?_
            rintro e w12 ⟨rfl, hb⟩
            have HX12 := hide (HX11.out.next hb)
            clear hb b0 b1 b2 b3 b4
            obtain ⟨b0, b1, b2, b3, b4⟩ := HX12.out.cells
            go_wp2_with fail
            go_ret
            exact ⟨rfl, HB1.out.trans (HX12.out.2.mono HB1.out.size)⟩
end Go.Proofs.Ytfbkmbjbjgfenaa
