/-
  The walk of the law FnEncoded: it returns true, and nothing that was there before is changed.
  Condition: none.
-/
import Derived.Test.YtfbkmbjbjgfenaaJE
import Derived.Test.YtfbkmbjbjgfenaaJH
import Derived.Test.YtfbkmbjbjgfenaaCVal
import Derived.Test.YtfbkmbjbjgfenaaCDraw6
namespace Go.Proofs.Ytfbkmbjbjgfenaa
open Go.RowKit
set_option linter.unusedVariables false
set_option linter.unusedSimpArgs false

def EncRel {R : Fld} (w1 : World) (p k γ : Int) (l c : Nat) (Ag A1 Am As : Option Addr) (ms ws ss : List (El R)) (i : Value) (wr : World) : Prop :=
  ∃ j : Nat, j ≤ c ∧ i = .int .i64 j ∧ Ints .i64 wr wr.heap.size Ag (iv ws).length (iv ws) ∧ Ints .i64 wr wr.heap.size A1 (iv ms).length (iv ms) ∧ Ints .i64 wr wr.heap.size Am (iv ms).length (iv ms) ∧ Ints .i64 wr wr.heap.size As c (iv ss) ∧ CBox w1 wr p k γ l c

set_option maxRecDepth 100000 in
set_option maxHeartbeats 8000000 in
theorem fnEncodedWalk (a0 : Option Addr) (n0 c0 : Nat) (z0 : List Int) (w : World) (h0 : Came .u8 w a0 n0 c0 z0) :
    Calls Try.prog 3 #[.slice a0 n0 c0] w fun e w' => e = .returned (.bool true) ∧ Below w.heap.size w w' := by
  obtain ⟨hI, hnc, hcm, hwf⟩ := h0
  have HI := hide hI
  have HBY := hide (show ∀ b ∈ z0, 0 ≤ b ∧ b ≤ 255 from fun b hb => bd_u8 (hwf b hb))
  clear hI hwf
  unfold maxLen at hcm
  by_cases hbig : 4096 < n0
  · go_enter Try.func3, Try.ntmps3
    go_wp2_with fail
    refine (big_yes a0 n0 c0 w hbig (by omega)).mono ?_
    rintro e w ⟨rfl, rfl⟩
    go_wp2_with fail
    go_ret
    exact ⟨rfl, Below.refl _ _⟩
  have hn0 : n0 ≤ 4096 := by omega
  go_enter Try.func3, Try.ntmps3
  go_wp2_with fail
  refine (big_no a0 n0 c0 w hn0).mono ?_
  rintro e w ⟨rfl, rfl⟩
  go_wp2_with fail
  refine (drawEnc a0 n0 c0 z0 w HI hn0 HBY).mono ?_
  rintro e w1 ⟨p, k, γ, L, C, z1, A1, c1, rfl, hL0, hL1, hC0, hC1, hl1, hn1, hI1, hb⟩
  have HB1 := hide hb
  have HX1 := hide (CBox.start w1 p k γ L C)
  have hCb : -9223372036854775808 ≤ C ∧ C ≤ 9223372036854775807 := by omega
  have I1_1 := hide ((hI1.below HX1.out.2).more HX1.out.2.size)
  have I0_1 := hide (((HI.out.below hb).more hb.size).below HX1.out.2 |>.more HX1.out.2.size)
  clear hI1 hb HI
  obtain ⟨b0, b1, b2, b3, b4⟩ := HX1.out.cells
  obtain ⟨r, cd, hr, hS, hM, hC⟩ := enc_key p k γ L C z1 (by omega) hCb
  have HS := hide hS
  have HM := hide hM
  have HC := hide hC
  clear hS hM hC
  have hcc : (cd != cd) = false := by simp
  go_wp2_with fail
  refine (HM.out A1 _ c1 _ _ I1_1.out hn1 (Nat.le_refl _)).mono ?_
  rintro e w2 ⟨Ag, cg, rfl, hcg, hog, hb⟩
  have HX2 := hide (HX1.out.next hb)
  have I1_2 := hide ((I1_1.out.below hb).more hb.size)
  have I0_2 := hide ((I0_1.out.below hb).more hb.size)
  clear I1_1
  clear I0_1
  have Ig_2 := hide (hog.ints)
  clear hog
  clear hb b0 b1 b2 b3 b4
  obtain ⟨b0, b1, b2, b3, b4⟩ := HX2.out.cells
  go_wp2_with fail
  refine (HS.out A1 _ c1 _ _ I1_2.out hn1 (Nat.le_refl _)).mono ?_
  rintro e w3 ⟨Av, cv, rfl, hcv, hov, hb⟩
  have HX3 := hide (HX2.out.next hb)
  have I1_3 := hide ((I1_2.out.below hb).more hb.size)
  have I0_3 := hide ((I0_2.out.below hb).more hb.size)
  have Ig_3 := hide ((Ig_2.out.below hb).more hb.size)
  clear I1_2
  clear I0_2
  clear Ig_2
  have Iv_3 := hide (hov.ints)
  clear hov
  clear hb b0 b1 b2 b3 b4
  obtain ⟨b0, b1, b2, b3, b4⟩ := HX3.out.cells
  clear hcv
  go_wp2_with fail
  go_region_held3 (fun w' => w'.cell? ⟨w1.heap.size, 0, none⟩ = some (.int .i64 p) ∧ w'.cell? ⟨w1.heap.size, 1, none⟩ = some (.int .i64 k) ∧ w'.cell? ⟨w1.heap.size, 2, none⟩ = some (.int .i64 γ) ∧ w'.cell? ⟨w1.heap.size, 3, none⟩ = some (.int .i64 L) ∧ w'.cell? ⟨w1.heap.size, 4, none⟩ = some (.int .i64 C))
    (first
      | exact ⟨(HX3.out.drew.cells).1, (HX3.out.drew.cells).2.1, (HX3.out.drew.cells).2.2.1, (HX3.out.drew.cells).2.2.2.1, (HX3.out.drew.cells).2.2.2.2⟩
      | exact ⟨(HX4.out.cells).1, (HX4.out.cells).2.1, (HX4.out.cells).2.2.1, (HX4.out.cells).2.2.2.1, (HX4.out.cells).2.2.2.2⟩
      | exact ⟨(HX5.out.cells).1, (HX5.out.cells).2.1, (HX5.out.cells).2.2.1, (HX5.out.cells).2.2.2.1, (HX5.out.cells).2.2.2.2⟩
      | exact ⟨(HX6.out.cells).1, (HX6.out.cells).2.1, (HX6.out.cells).2.2.1, (HX6.out.cells).2.2.2.1, (HX6.out.cells).2.2.2.2⟩)
    (first
      | (go_at_call 22; have hm5 := HMK5; refine (specIsCode p k γ L C _ hCb).mono ?_; rintro e w6 ⟨rfl, hb⟩; have HX6 := hide (HX5.out.next hb); have I1_6 := hide ((I1_5.out.below hb).more hb.size); have I0_6 := hide ((I0_5.out.below hb).more hb.size); have Ig_6 := hide ((Ig_5.out.below hb).more hb.size); have Iv_6 := hide ((Iv_5.out.below hb).more hb.size); have HMK6 : True := trivial; clear hb)
      | (go_at_call 21; have hm4 := HMK4; refine (implIsCode p k γ L C _).mono ?_; rintro e w5 ⟨rfl, hb⟩; have HX5 := hide (HX4.out.next hb); have I1_5 := hide ((I1_4.out.below hb).more hb.size); have I0_5 := hide ((I0_4.out.below hb).more hb.size); have Ig_5 := hide ((Ig_4.out.below hb).more hb.size); have Iv_5 := hide ((Iv_4.out.below hb).more hb.size); have HMK5 : True := trivial; clear hb)
      | (go_at_call 20; refine (likeSame Ag _ cg _ Av _ cv _ r _ Ig_3.out.drew Iv_3.out.drew (by omega)).mono ?_; rintro e w4 ⟨rfl, hb⟩; have HX4 := hide (HX3.out.drew.next hb); have I1_4 := hide ((I1_3.out.drew.below hb).more hb.size); have I0_4 := hide ((I0_3.out.drew.below hb).more hb.size); have Ig_4 := hide ((Ig_3.out.drew.below hb).more hb.size); have Iv_4 := hide ((Iv_3.out.drew.below hb).more hb.size); have HMK4 : True := trivial; clear hb))
  clear b0 b1 b2 b3 b4
  obtain ⟨b0, b1, b2, b3, b4⟩ := HX6.out.cells
  rcases HC.out with hcd | ⟨hcd, R, γ', l, c, ms, hLe, hCe, hc, hze, hml, hre⟩
  · have e1 : (cd != 0) = true := by simpa using hcd
    clear hcd
    go_wp2_with fail
    go_ret
    exact ⟨rfl, HB1.out.trans (HX6.out.2.mono HB1.out.size)⟩
  · subst hcd hLe hCe hze hre
    have hcl := hc.cl
    have hl255 := hc.l255
    have hc64 := hc.c64
    obtain ⟨ws, hws⟩ : ∃ ws, ws = encW γ' c ms := ⟨_, rfl⟩
    have hwl : ws.length = l := by rw [hws, enc_len]; omega
    have hcw : isCW γ' c ws = true := by rw [hws]; exact enc_isCW _ _ _
    have htk : ws.take (l - c) = ms := by rw [hws, ← hml]; exact enc_take _ _ _
    rw [← hws] at Ig_6 hcg ⊢
    have HVM := hide (msg_val hc ws (by rw [iv_len]; omega) hwl).2
    rw [htk] at HVM
    have HVS := hide (syn_val hc ws (by rw [iv_len]; omega) hwl).2
    have HVI := hide (isw_val hc ws (by rw [iv_len]; omega) hwl).2
    rw [hcw] at HVI
    obtain ⟨ss, hss⟩ : ∃ ss, ss = synW γ' c ws := ⟨_, rfl⟩
    have HSL := hide (show ss.length = c by rw [hss]; exact syn_len _ _ _)
    have HSZ := hide (show ∀ j, j < c → (iv ss)[j]? = some 0 from fun j hj => by { rw [iv_at (by rw [HSL.out]; exact hj), hss]; rw [isCW] at hcw; rw [zeroL_cf hcw]; rfl })
    rw [← hss] at HVS
    clear hcc HS HM HC hws hcw htk hss hL0 hL1 hC0 hC1 hCb hml
    go_wp2_with fail
    refine (HVM.out Ag _ cg _ _ Ig_6.out hcg (Nat.le_refl _)).mono ?_
    rintro e w7 ⟨Am, cm, rfl, hcm, hom, hb⟩
    have HX7 := hide (HX6.out.next hb)
    have I1_7 := hide ((I1_6.out.below hb).more hb.size)
    have I0_7 := hide ((I0_6.out.below hb).more hb.size)
    have Ig_7 := hide ((Ig_6.out.below hb).more hb.size)
    have Iv_7 := hide ((Iv_6.out.below hb).more hb.size)
    clear I1_6
    clear I0_6
    clear Ig_6
    clear Iv_6
    have Im_7 := hide (hom.ints)
    clear hom
    clear hb b0 b1 b2 b3 b4
    obtain ⟨b0, b1, b2, b3, b4⟩ := HX7.out.cells
    clear hcm
    go_wp2_with fail
    refine (HVS.out Ag _ cg _ _ Ig_7.out hcg (Nat.le_refl _)).mono ?_
    rintro e w8 ⟨As, cs, rfl, hcs, hos, hb⟩
    have HX8 := hide (HX7.out.next hb)
    have I1_8 := hide ((I1_7.out.below hb).more hb.size)
    have I0_8 := hide ((I0_7.out.below hb).more hb.size)
    have Ig_8 := hide ((Ig_7.out.below hb).more hb.size)
    have Iv_8 := hide ((Iv_7.out.below hb).more hb.size)
    have Im_8 := hide ((Im_7.out.below hb).more hb.size)
    clear I1_7
    clear I0_7
    clear Ig_7
    clear Iv_7
    clear Im_7
    have Is_8 := hide (hos.ints)
    clear hos
    clear hb b0 b1 b2 b3 b4
    obtain ⟨b0, b1, b2, b3, b4⟩ := HX8.out.cells
    clear hcs
    have hsl : (iv ss).length = c := by rw [iv_len]; exact HSL.out
    rw [hsl] at Is_8 ⊢
    have HHG := hide hcg
    go_wp2_with fail
    go_loopw [13] (fun i wr => EncRel w1 p k γ l c Ag A1 Am As ms ws ss i wr) (fun i _ => c - (intOf i).toNat)
    case atStart => exact ⟨0, by omega, rfl, Ig_8.out, I1_8.out, Im_8.out, Is_8.out, HX8.out⟩
    case round =>
      clear b0 b1 b2 b3 b4 I1_8 I0_8 Ig_8 Iv_8 Im_8 Is_8 HX1 HX2 HX3 HX4 HX5 HX6 HX7
      obtain ⟨j, hj, rfl, hIg, hI1, hIm, hIs, HX⟩ := hrel
      have HX := hide HX
      have HIg := hide hIg
      have HI1 := hide hI1
      have HIm := hide hIm
      have HIs := hide hIs
      clear hIg hI1 hIm hIs
      obtain ⟨b0, b1, b2, b3, b4⟩ := HX.out.cells
      by_cases hlt : j < c
      · obtain ⟨b, off, x, rfl, hb, hx, hc'⟩ := HIs.out.at_ hlt
        rw [HSZ.out j hlt] at hx
        obtain rfl : x = 0 := by injection hx with hx; exact hx.symm
        clear hx
        go_wp2_with fail
        go_roundw
        case rel => exact ⟨j + 1, by omega, by go_num, HIg.out, HI1.out, HIm.out, HIs.out, HX.out⟩
        case measure => simp [intOf]; omega
      · have hd : decide (j < c) = false := by simpa using hlt
        clear hlt
        go_wp2_with fail
        refine (likeSame Am _ cm _ A1 _ c1 _ (iv ms) _ HIm.out HI1.out (by omega)).mono ?_
        rintro e w8 ⟨rfl, hb⟩
        have HX8 := hide (HX.out.next hb)
        have HIg8 := hide ((HIg.out.below hb).more hb.size)
        clear hb b0 b1 b2 b3 b4
        obtain ⟨b0, b1, b2, b3, b4⟩ := HX8.out.cells
        go_wp2_with fail
        refine (HVI.out Ag _ cg _ _ HIg8.out HHG.out (Nat.le_refl _)).mono ?_
        rintro e w9 ⟨rfl, hb⟩
        have HX9 := hide (HX8.out.next hb)
        clear hb b0 b1 b2 b3 b4
        obtain ⟨b0, b1, b2, b3, b4⟩ := HX9.out.cells
        go_wp2_with fail
        go_ret
        exact ⟨rfl, HB1.out.trans (HX9.out.2.mono HB1.out.size)⟩
end Go.Proofs.Ytfbkmbjbjgfenaa
