/-
  The walk of the law FnErrorValues: it returns true, and nothing that was there before is changed.
  Condition: none.
-/
import Derived.Test.YtpheembgjdgniaaJE
import Derived.Test.YtpheembgjdgniaaJH
import Derived.Test.YtpheembgjdgniaaDValE
import Derived.Test.YtpheembgjdgniaaDDraw6
import Derived.Test.YtpheembgjdgniaaCLaw
import Derived.Test.YtpheembgjdgniaaJG
namespace Go.Proofs.Ytpheembgjdgniaa
open Go.RowKit
set_option linter.unusedVariables false
set_option linter.unusedSimpArgs false

theorem ints_ov {w w' : World} {B g n : Nat} {A : Option Addr} {zs : List Int} (h : Ints .i64 w B A n zs) (hg : w.grownBy w' (some g)) (hB : B ≤ g) (hs : B ≤ w.heap.size) : Ints .i64 w' B A n zs :=
  h.keep fun b o hb => World.cell?_of_block (hg.block b (by omega) (fun e => by injection e with e; omega))
theorem spread_put {R : Fld} {l j t : Nat} {J : List Nat} {f : Nat → El R} (hJ : Idx l J) (ht : t < l) (h : J[j]? = some t) : (spread l (J.take j) f).set t (f t) = spread l (J.take (j + 1)) f := by
  refine List.ext_getElem? fun i => ?_
  rcases Nat.lt_or_ge i l with hi | hi
  · have e1 : (spread l (J.take (j + 1)) f)[i]? = some (if i ∈ J.take (j + 1) then f i else 0) := by rw [spread, tab_at _ hi]
    have e2 : (spread l (J.take j) f)[i]? = some (if i ∈ J.take j then f i else 0) := by rw [spread, tab_at _ hi]
    have hm : i ∈ J.take (j + 1) ↔ i ∈ J.take j ∨ i = t := by rw [List.take_add_one, h]; simp
    rw [List.getElem?_set, e1, e2, spread_len]
    by_cases hit : t = i
    · subst hit
      rw [if_pos rfl, if_pos hi, if_pos (hm.2 (.inr rfl))]
    · rw [if_neg hit]
      by_cases hin : i ∈ J.take j
      · rw [if_pos hin, if_pos (hm.2 (.inl hin))]
      · rw [if_neg hin, if_neg (fun hc => (hm.1 hc).elim hin (fun e => hit e.symm))]
  · rw [List.getElem?_eq_none (by rw [List.length_set, spread_len]; exact hi), List.getElem?_eq_none (by rw [spread_len]; exact hi)]
def EvWRel {R : Fld} (w1 : World) (p k γ : Int) (l c m gW : Nat) (A1 A2 Ag : Option Addr) (J : List Nat) (f : Nat → El R) (z1 : List Int) (i : Value) (wr : World) : Prop :=
  ∃ j : Nat, j ≤ m ∧ i = .int .i64 j ∧ Own wr gW 2 .i64 (.slice (some ⟨gW, 0, none⟩) l l) (iv (spread l (J.take j) f)) ∧ Ints .i64 wr gW A1 z1.length z1 ∧ Ints .i64 wr gW A2 m (nv J) ∧ Ints .i64 wr gW Ag m (iv (J.map f)) ∧ CBox w1 wr p k γ l c ∧ gW ≤ wr.heap.size

set_option maxRecDepth 100000 in
set_option maxHeartbeats 8000000 in
theorem fnErrorValuesWalk (a0 : Option Addr) (n0 c0 : Nat) (z0 : List Int) (w : World) (h0 : Came .u8 w a0 n0 c0 z0) :
    Calls Try.prog 4 #[.slice a0 n0 c0] w fun e w' => e = .returned (.bool true) ∧ Below w.heap.size w w' := by
  obtain ⟨hI, hnc, hcm, hwf⟩ := h0
  have HI := hide hI
  have HBY := hide (show ∀ b ∈ z0, 0 ≤ b ∧ b ≤ 255 from fun b hb => bd_u8 (hwf b hb))
  clear hI hwf
  unfold maxLen at hcm
  by_cases hbig : 4096 < n0
  · go_enter Try.func4, Try.ntmps4
    go_wp2_with fail
    refine (big_yes a0 n0 c0 w hbig (by omega)).mono ?_
    rintro e w ⟨rfl, rfl⟩
    go_wp2_with fail
    go_ret
    exact ⟨rfl, Below.refl _ _⟩
  have hn0 : n0 ≤ 4096 := by omega
  go_enter Try.func4, Try.ntmps4
  go_wp2_with fail
  refine (big_no a0 n0 c0 w hn0).mono ?_
  rintro e w ⟨rfl, rfl⟩
  go_wp2_with fail
  refine (drawEv a0 n0 c0 z0 w HI hn0 HBY).mono ?_
  rintro e w1 ⟨p, k, γ, L, C, z1, A1, c1, z2, A2, c2, rfl, hL0, hL1, hC0, hC1, hl1, hl2, hn1, hn2, hI1, hI2, hb⟩
  have HB1 := hide hb
  have HX1 := hide (CBox.start w1 p k γ L C)
  have hCb : -9223372036854775808 ≤ C ∧ C ≤ 9223372036854775807 := by omega
  have I1_1 := hide ((hI1.below HX1.out.2).more HX1.out.2.size)
  have I2_1 := hide ((hI2.below HX1.out.2).more HX1.out.2.size)
  have I0_1 := hide (((HI.out.below hb).more hb.size).below HX1.out.2 |>.more HX1.out.2.size)
  clear hI1 hI2 hb HI
  obtain ⟨b0, b1, b2, b3, b4⟩ := HX1.out.cells
  clear I0_1
  obtain ⟨r, cd, hr, hS, hM, hC⟩ := val_key p k γ L C z1 z2 (by omega) (by omega) hCb
  have HS := hide hS
  have HM := hide hM
  have HC := hide hC
  clear hS hM hC
  have hcc : (cd != cd) = false := by simp
  go_wp2_with fail
  refine (HM.out A1 _ c1 A2 _ c2 _ _ I1_1.out I2_1.out hn1 hn2 (Nat.le_refl _)).mono ?_
  rintro e w2 ⟨Ag, cg, rfl, hcg, hog, hb⟩
  have HX2 := hide (HX1.out.next hb)
  have I1_2 := hide ((I1_1.out.below hb).more hb.size)
  have I2_2 := hide ((I2_1.out.below hb).more hb.size)
  clear I1_1
  clear I2_1
  have Ig_2 := hide (hog.ints)
  clear hog
  clear hb b0 b1 b2 b3 b4
  obtain ⟨b0, b1, b2, b3, b4⟩ := HX2.out.cells
  go_wp2_with fail
  refine (HS.out A1 _ c1 A2 _ c2 _ _ I1_2.out I2_2.out hn1 hn2 (Nat.le_refl _)).mono ?_
  rintro e w3 ⟨Av, cv, rfl, hcv, hov, hb⟩
  have HX3 := hide (HX2.out.next hb)
  have I1_3 := hide ((I1_2.out.below hb).more hb.size)
  have I2_3 := hide ((I2_2.out.below hb).more hb.size)
  have Ig_3 := hide ((Ig_2.out.below hb).more hb.size)
  clear I1_2
  clear I2_2
  clear Ig_2
  have Iv_3 := hide (hov.ints)
  clear hov
  clear hb b0 b1 b2 b3 b4
  obtain ⟨b0, b1, b2, b3, b4⟩ := HX3.out.cells
  clear hcv
  go_wp2_with fail
  refine (likeSame Ag _ cg _ Av _ cv _ r _ Ig_3.out Iv_3.out (by omega)).mono ?_
  rintro e w4 ⟨rfl, hb⟩
  have HX4 := hide (HX3.out.next hb)
  have I1_4 := hide ((I1_3.out.below hb).more hb.size)
  have I2_4 := hide ((I2_3.out.below hb).more hb.size)
  have Ig_4 := hide ((Ig_3.out.below hb).more hb.size)
  have Iv_4 := hide ((Iv_3.out.below hb).more hb.size)
  clear I1_3
  clear I2_3
  clear Ig_3
  clear Iv_3
  clear hb b0 b1 b2 b3 b4
  obtain ⟨b0, b1, b2, b3, b4⟩ := HX4.out.cells
  clear Iv_4
  rcases HC.out with hcd | ⟨hcd, R, γ', l, c, J, f, hLe, hCe, hc, hze, hJ, hre, hI⟩
  · have e1 : (cd != 0) = true := by simpa using hcd
    clear hcd
    go_wp2_with fail
    go_ret
    exact ⟨rfl, HB1.out.trans (HX4.out.2.mono HB1.out.size)⟩
  · subst hcd hLe hCe hze hre
    have hl255 := hc.l255
    have hJl := hJ.len
    have hjn : (nv J).length = J.length := nv_len J
    have hjm : (iv (J.map f)).length = J.length := by rw [iv_len, List.length_map]
    obtain ⟨m, hm⟩ : ∃ m, m = J.length := ⟨_, rfl⟩
    rw [hjn, ← hm] at I2_4 hn2 ⊢
    rw [hjm, ← hm] at Ig_4 hcg ⊢
    have HJ := hide hJ
    have HI := hide hI
    have HML := hide hm
    have HN1 := hide hn1
    have hmb : m ≤ 255 := by omega
    have hlm : l ≤ 255 := hl255
    clear hI hJ hcc HS HM HC hL0 hL1 hC0 hC1 hCb hl2 hjn hjm hr hJl hl255 hm hn1
    go_wp2_with (refine wpList_mkN _ rfl (.tmp 48) (.tmp 48) 28 rfl elem64 .i64 .i64 _ _ l rfl rfl rfl rfl (by omega) fun w9 h1 h2 => ?_; have HX9 := hide (HX4.out.next h2); have HO9 := hide h1; have I1_9 := hide (I1_4.out.below h2); have I2_9 := hide (I2_4.out.below h2); have Ig_9 := hide (Ig_4.out.below h2); have HBS := hide h2.size; clear h1 h2; obtain ⟨d0, d1, d2, d3, d4⟩ := HX9.out.cells)
    have hgw : w1.heap.size < w4.heap.size := HX4.out.lt
    obtain ⟨gW, hgW⟩ : ∃ gW, gW = w4.heap.size := ⟨_, rfl⟩
    rw [← hgW] at HO9 I1_9 I2_9 Ig_9 HBS hgw ⊢
    have HZ0 := hide (show List.replicate l (0 : Int) = iv (spread l (J.take 0) f) from (by rw [show J.take 0 = [] from rfl]; exact List.ext_getElem? fun i => by { rcases Nat.lt_or_ge i l with h | h; rw [iv_at (by rw [spread_len]; exact h), cf_spread h, if_neg List.not_mem_nil, List.getElem?_replicate, if_pos h]; rfl; rw [List.getElem?_eq_none (by simpa using h), List.getElem?_eq_none (by rw [iv_len, spread_len]; exact h)] }))
    rw [HZ0.out] at HO9
    clear hgW d0 d1 d2 d3 d4 b0 b1 b2 b3 b4 I1_4 I2_4 Ig_4 HZ0 HX1 HX2 HX3 HX4
    obtain ⟨b0, b1, b2, b3, b4⟩ := HX9.out.cells
    go_loopw [11] (fun i wr => EvWRel w1 p k γ l c m gW A1 A2 Ag J f z1 i wr) (fun i _ => m - (intOf i).toNat)
    case atStart => exact ⟨0, Nat.zero_le _, rfl, HO9.out, I1_9.out, I2_9.out, Ig_9.out, HX9.out, HBS.out⟩
    case round =>
      clear b0 b1 b2 b3 b4 HO9 I1_9 I2_9 Ig_9 HX9 HBS
      obtain ⟨j, hj, rfl, hO, hI1, hI2, hIg, hX, hB⟩ := hrel
      have HO := hide hO
      have HI1 := hide hI1
      have HI2 := hide hI2
      have HIg := hide hIg
      have HX := hide hX
      have HBZ := hide hB
      clear hO hI1 hI2 hIg hX hB
      obtain ⟨b0, b1, b2, b3, b4⟩ := HX.out.cells
      by_cases hlt : j < m
      · have hjJ : j < J.length := by rw [← HML.out]; exact hlt
        obtain ⟨t, ht⟩ : ∃ t, J[j]? = some t := ⟨_, List.getElem?_eq_getElem hjJ⟩
        have htl : t < l := HJ.out.2 t (List.mem_of_getElem? ht)
        have hti : (t : Int) < (l : Int) := by omega
        have hji : (j : Int) < (m : Int) := by omega
        obtain ⟨ba, oa, xa, rfl, hba, hxa, hca⟩ := HI2.out.at_ hlt
        rw [nv_at ht] at hxa
        obtain rfl : xa = (t : Int) := by injection hxa with hxa; exact hxa.symm
        obtain ⟨bg, og, xg, rfl, hbg, hxg, hcx⟩ := HIg.out.at_ hlt
        have hft : (J.map f)[j]? = some (f t) := by rw [List.getElem?_map, ht]; rfl
        rw [show (iv (J.map f))[j]? = some (((f t).val : Nat) : Int) by rw [iv, List.getElem?_map, hft]; rfl] at hxg
        obtain ⟨Y, hY⟩ : ∃ Y, Y = f t := ⟨_, rfl⟩
        rw [← hY] at hxg
        obtain rfl : xg = (Y.val : Int) := by injection hxg with hxg; exact hxg.symm
        have hfx := HO.out.frozenAt t
        obtain ⟨u, hcw⟩ : ∃ u : Int, wr.cell? ⟨gW, t, none⟩ = some (.int .i64 u) := ⟨_, HO.out.cellAt (j := t) (List.getElem?_eq_getElem (by rw [iv_len, spread_len]; exact htl))⟩
        have HOd := hide (HO.out.stored t (Y.val : Int)).1
        have HGd := hide (HO.out.stored t (Y.val : Int)).2
        rw [iv_set, hY, spread_put HJ.out htl ht, ← hY] at HOd
        have HYY := hide hY
        have HGe := hide (grown_drew HGd.out)
        clear hxa hxg hft hba hbg ht hjJ hY
        go_wp2_with fail
        go_region
        all_goals
          go_wp2_with fail
          go_roundw
          case rel => exact ⟨j + 1, hlt, by go_num, HOd.out.drew, ints_ov HI1.out HGe.out (Nat.le_refl _) HBZ.out, ints_ov HI2.out HGe.out (Nat.le_refl _) HBZ.out, ints_ov HIg.out HGe.out (Nat.le_refl _) HBZ.out, HX.out.grow HGe.out (fun b hb => by injection hb with hb; omega), Nat.le_trans HBZ.out HGe.out.size⟩
          case measure => simp [intOf]; omega
      · obtain rfl : j = m := by omega
        rw [show J.take j = J from List.take_of_length_le (by rw [HML.out]; exact Nat.le_refl _)] at HO
        have HIH := hide (show Ints .i64 wr wr.heap.size (some ⟨gW, 0, none⟩) l (iv (spread l J f)) by have h := HO.out.ints; rwa [iv_len, spread_len] at h)
        clear hlt
        go_wp2_with fail
        refine (HI.out (some ⟨gW, 0, none⟩) l l wr.heap.size wr HIH.out (Nat.le_refl _) (Nat.le_refl _)).mono ?_
        rintro e w8 ⟨As, cs, rfl, hcs, hos, hb⟩
        have HX8 := hide (HX.out.next hb)
        have Is_8 := hide hos.ints
        have I1_8 := hide ((HI1.out.below (hb.mono HBZ.out)).more (Nat.le_trans HBZ.out hb.size))
        clear hb hos hcs b0 b1 b2 b3 b4
        obtain ⟨b0, b1, b2, b3, b4⟩ := HX8.out.cells
        go_wp2_with fail
        refine (likeSame As _ cs _ A1 _ c1 _ z1 _ Is_8.out I1_8.out (by omega)).mono ?_
        rintro e w10 ⟨rfl, hb⟩
        have HX10 := hide (HX8.out.next hb)
        clear hb b0 b1 b2 b3 b4
        obtain ⟨b0, b1, b2, b3, b4⟩ := HX10.out.cells
        go_wp2_with fail
        go_ret
        exact ⟨rfl, HB1.out.trans (HX10.out.2.mono HB1.out.size)⟩
end Go.Proofs.Ytpheembgjdgniaa
