/-
  The walk of the law FnGenerator: it returns true, and nothing that was there before is changed.
  Condition: none.
-/
import Derived.Test.YtfbkmbjbjgfenaaJE
import Derived.Test.YtfbkmbjbjgfenaaJH
import Derived.Test.YtfbkmbjbjgfenaaCVal
import Derived.Test.YtfbkmbjbjgfenaaCDraw6
import Derived.Test.YtfbkmbjbjgfenaaCDiv
namespace Go.Proofs.Ytfbkmbjbjgfenaa
open Go.RowKit
set_option linter.unusedVariables false
set_option linter.unusedSimpArgs false

theorem ints_own {w w' : World} {B n : Nat} {row : Option Nat} {A : Option Addr} {zs : List Int} (h : Ints .i64 w B A n zs) (hg : w.grownBy w' row) (hr : ∀ b, row = some b → B ≤ b) (hs : B ≤ w.heap.size) : Ints .i64 w' B A n zs :=
  h.keep fun b o hb => World.cell?_of_block (hg.block b (by omega) (fun e => by have := hr b e.symm; omega))
def GnRel {R : Fld} (w1 : World) (p k γ : Int) (m c base : Nat) (A1 Ag : Option Addr) (ws vs gs : List (El R)) (v i : Value) (wr : World) : Prop :=
  ∃ j : Nat, j ≤ m ∧ i = .int .i64 ((m : Int) - 1 - (j : Int)) ∧ Own wr base 2 .i64 v (iv (vs.take j)) ∧ Ints .i64 wr base A1 m (iv ws) ∧ Ints .i64 wr base Ag (c + 1) (iv gs) ∧ CBox w1 wr p k γ m c ∧ base ≤ wr.heap.size
/-- The length of a slice. -/
def slLen : Value → Nat
  | .slice _ n _ => n
  | _ => 0
def GtRel {R : Fld} (A : Option Addr) (m cv : Nat) (vs : List (El R)) (v : Value) : Prop := ∃ t : Nat, t ≤ m ∧ v = .slice A t cv ∧ Hid (trim (vs.take t) = trim vs)
theorem ints_take {R : Fld} {w : World} {B n t : Nat} {A : Option Addr} {ps : List (El R)} (h : Ints .i64 w B A n (iv ps)) (ht : t ≤ n) : Ints .i64 w B A t (iv (ps.take t)) := by
  have hl : ps.length = n := by have := h.len; rw [iv_len] at this; exact this
  refine ⟨by rw [iv_len, List.length_take]; omega, fun hp => ?_⟩
  obtain ⟨b, off, rfl, hb, hcell⟩ := h.2 (by omega)
  refine ⟨b, off, rfl, hb, fun j x hx => hcell j x ?_⟩
  rw [← iv_take, List.getElem?_take] at hx
  split at hx
  · exact hx
  · cases hx
theorem iv_takes {R : Fld} {ps : List (El R)} {j : Nat} (h : j < ps.length) : iv (ps.take j) ++ [((cf ps j).val : Int)] = iv (ps.take (j + 1)) := by
  rw [List.take_add_one, at_cf h, iv_app]; rfl

set_option maxRecDepth 100000 in
set_option maxHeartbeats 8000000 in
theorem fnGeneratorWalk (a0 : Option Addr) (n0 c0 : Nat) (z0 : List Int) (w : World) (h0 : Came .u8 w a0 n0 c0 z0) :
    Calls Try.prog 6 #[.slice a0 n0 c0] w fun e w' => e = .returned (.bool true) ∧ Below w.heap.size w w' := by
  obtain ⟨hI, hnc, hcm, hwf⟩ := h0
  have HI := hide hI
  have HBY := hide (show ∀ b ∈ z0, 0 ≤ b ∧ b ≤ 255 from fun b hb => bd_u8 (hwf b hb))
  clear hI hwf
  unfold maxLen at hcm
  by_cases hbig : 4096 < n0
  · go_enter Try.func6, Try.ntmps6
    go_wp2_with fail
    refine (big_yes a0 n0 c0 w hbig (by omega)).mono ?_
    rintro e w ⟨rfl, rfl⟩
    go_wp2_with fail
    go_ret
    exact ⟨rfl, Below.refl _ _⟩
  have hn0 : n0 ≤ 4096 := by omega
  go_enter Try.func6, Try.ntmps6
  go_wp2_with fail
  refine (big_no a0 n0 c0 w hn0).mono ?_
  rintro e w ⟨rfl, rfl⟩
  go_wp2_with fail
  refine (drawIsw a0 n0 c0 z0 w HI hn0 HBY).mono ?_
  rintro e w1 ⟨p, k, γ, L, C, z1, A1, c1, rfl, hL0, hL1, hC0, hC1, hl1, hn1, hI1, hb⟩
  have HB1 := hide hb
  have HX1 := hide (CBox.start w1 p k γ L C)
  have hCb : -9223372036854775808 ≤ C ∧ C ≤ 9223372036854775807 := by omega
  have I1_1 := hide ((hI1.below HX1.out.2).more HX1.out.2.size)
  have I0_1 := hide (((HI.out.below hb).more hb.size).below HX1.out.2 |>.more HX1.out.2.size)
  clear hI1 hb HI
  obtain ⟨b0, b1, b2, b3, b4⟩ := HX1.out.cells
  clear I0_1
  obtain ⟨r, cd, b, hr, hS, hM, hIS, hIM, hC⟩ := gen_key p k γ L C z1 (by omega) hCb
  have HS := hide hS
  have HM := hide hM
  have HIS := hide hIS
  have HIM := hide hIM
  have HC := hide hC
  clear hS hM hIS hIM hC
  have hcc : (cd != cd) = false := by simp
  have hbb : (b != b) = false := by simp
  go_wp2_with fail
  refine (HM.out _).mono ?_
  rintro e w2 ⟨Ag, cg, rfl, hcg, hog, hb⟩
  have HX2 := hide (HX1.out.next hb)
  have I1_2 := hide ((I1_1.out.below hb).more hb.size)
  clear I1_1
  have Ig_2 := hide (hog.ints)
  clear hog
  clear hb b0 b1 b2 b3 b4
  obtain ⟨b0, b1, b2, b3, b4⟩ := HX2.out.cells
  clear hcg
  go_wp2_with fail
  refine (HS.out _).mono ?_
  rintro e w3 ⟨Av, cv, rfl, hcv, hov, hb⟩
  have HX3 := hide (HX2.out.next hb)
  have I1_3 := hide ((I1_2.out.below hb).more hb.size)
  have Ig_3 := hide ((Ig_2.out.below hb).more hb.size)
  clear I1_2
  clear Ig_2
  have Iv_3 := hide (hov.ints)
  clear hov
  clear hb b0 b1 b2 b3 b4
  obtain ⟨b0, b1, b2, b3, b4⟩ := HX3.out.cells
  clear hcv
  go_wp2_with fail
  go_region_held3 (fun w' => w'.cell? ⟨w1.heap.size, 0, none⟩ = some (.int .i64 p) ∧ w'.cell? ⟨w1.heap.size, 1, none⟩ = some (.int .i64 k) ∧ w'.cell? ⟨w1.heap.size, 2, none⟩ = some (.int .i64 γ) ∧ w'.cell? ⟨w1.heap.size, 3, none⟩ = some (.int .i64 L) ∧ w'.cell? ⟨w1.heap.size, 4, none⟩ = some (.int .i64 C))
    (first
      | exact ⟨(HX3.out.drew.cells).1, (HX3.out.drew.cells).2.1, (HX3.out.drew.cells).2.2.1, (HX3.out.drew.cells).2.2.2.1, (HX3.out.drew.cells).2.2.2.2⟩
      | exact ⟨(HX4.out.cells).1, (HX4.out.cells).2.1, (HX4.out.cells).2.2.1, (HX4.out.cells).2.2.2.1, (HX4.out.cells).2.2.2.2⟩
      | exact ⟨(HX5.out.cells).1, (HX5.out.cells).2.1, (HX5.out.cells).2.2.1, (HX5.out.cells).2.2.2.1, (HX5.out.cells).2.2.2.2⟩
      | exact ⟨(HX6.out.cells).1, (HX6.out.cells).2.1, (HX6.out.cells).2.2.1, (HX6.out.cells).2.2.2.1, (HX6.out.cells).2.2.2.2⟩)
    (first
      | (go_at_call 38; have hm5 := HMK5; refine (HIS.out A1 _ c1 _ _ I1_5.out hn1 (Nat.le_refl _)).mono ?_; rintro e w6 ⟨rfl, hb⟩; have HX6 := hide (HX5.out.next hb); have I1_6 := hide ((I1_5.out.below hb).more hb.size); have Ig_6 := hide ((Ig_5.out.below hb).more hb.size); have Iv_6 := hide ((Iv_5.out.below hb).more hb.size); have HMK6 : True := trivial; clear hb)
      | (go_at_call 25; have hm4 := HMK4; refine (HIM.out A1 _ c1 _ _ I1_4.out hn1 (Nat.le_refl _)).mono ?_; rintro e w5 ⟨rfl, hb⟩; have HX5 := hide (HX4.out.next hb); have I1_5 := hide ((I1_4.out.below hb).more hb.size); have Ig_5 := hide ((Ig_4.out.below hb).more hb.size); have Iv_5 := hide ((Iv_4.out.below hb).more hb.size); have HMK5 : True := trivial; clear hb)
      | (go_at_call 20; refine (likeSame Ag _ cg _ Av _ cv _ r _ Ig_3.out.drew Iv_3.out.drew (by omega)).mono ?_; rintro e w4 ⟨rfl, hb⟩; have HX4 := hide (HX3.out.drew.next hb); have I1_4 := hide ((I1_3.out.drew.below hb).more hb.size); have Ig_4 := hide ((Ig_3.out.drew.below hb).more hb.size); have Iv_4 := hide ((Iv_3.out.drew.below hb).more hb.size); have HMK4 : True := trivial; clear hb))
  clear b0 b1 b2 b3 b4
  obtain ⟨b0, b1, b2, b3, b4⟩ := HX6.out.cells
  clear Iv_6
  rcases HC.out with hcd | ⟨hcd, R, γ', l, c, hLe, hCe, hc, hre, hw⟩
  · have e1 : (cd != 0) = true := by simpa using hcd
    clear hcd
    go_wp2_with fail
    go_ret
    exact ⟨rfl, HB1.out.trans (HX6.out.2.mono HB1.out.size)⟩
  · subst hcd hLe hCe hre
    have hcl := hc.cl
    have hl255 := hc.l255
    have hc64 := hc.c64
    have HW := hide hw
    clear hcc HS HM HC hw
    obtain ⟨m, hm⟩ : ∃ m, m = z1.length := ⟨_, rfl⟩
    rw [← hm] at hn1 hl1 I1_6 ⊢
    have HMZ := hide hm
    clear hm
    by_cases hml : m = l
    · skip
      obtain rfl := hml
      have hll : ((m : Int) != (m : Int)) = false := by simp
      go_wp2_with fail
      refine (HIS.out A1 _ c1 _ _ I1_6.out hn1 (Nat.le_refl _)).mono ?_
      rintro e w7 ⟨rfl, hb⟩
      have HX7 := hide (HX6.out.next hb)
      have I1_7 := hide ((I1_6.out.below hb).more hb.size)
      have Ig_7 := hide ((Ig_6.out.below hb).more hb.size)
      clear I1_6
      clear Ig_6
      clear hb b0 b1 b2 b3 b4
      obtain ⟨b0, b1, b2, b3, b4⟩ := HX7.out.cells
      rcases HW.out with hbf | ⟨hbt, ws, hze, hwl, hcw⟩
      · subst hbf
        go_wp2_with fail
        go_ret
        exact ⟨rfl, HB1.out.trans (HX7.out.2.mono HB1.out.size)⟩
      · subst hbt hze
        have HWL := hide hwl
        have HCW := hide hcw
        clear hwl hcw
        obtain ⟨vs, hvs⟩ : ∃ vs, vs = ws.reverse := ⟨_, rfl⟩
        have HVL := hide (show vs.length = m by rw [hvs, List.length_reverse]; exact HWL.out)
        have HVC := hide (show ∀ j t, j < m → t = m - 1 - j → cf ws t = cf vs j from fun j t hj ht => by rw [hvs, cf_rev (by rw [HWL.out]; exact hj), HWL.out, ht])
        have HTR := hide (show trim vs = wpoly ws by rw [hvs]; rfl)
        have hm1 : 1 ≤ m := by omega
        have HRM := hide (gen_divides hc.far (by omega) HCW.out)
        have hwp : (wpoly ws).length ≤ 512 := by have := wpoly_le ws; have := HWL.out; omega
        have HDV := hide (implDiv hc.ok hc.fld (wpoly ws) (genP γ' c) (tr_wpoly ws) hwp (tr_gen γ' c) (by rw [gen_len]; omega) (by rw [gen_len]; omega))
        rw [HRM.out] at HDV
        obtain ⟨gs, hgs⟩ : ∃ gs, gs = genP γ' c := ⟨_, rfl⟩
        have HGL := hide (show (iv gs).length = c + 1 by rw [iv_len, hgs, gen_len])
        rw [← hgs] at Ig_7 HDV ⊢
        rw [HGL.out] at Ig_7 ⊢
        clear hvs hgs hwp
        have hlo := HX7.out.lt
        obtain ⟨base, hbase⟩ : ∃ base, base = w7.heap.size := ⟨_, rfl⟩
        have HX0 := hide (HX7.out.next ((Below.refl _ _).alloc (Nat.le_refl _) (.cells #[] 2)))
        have HO0 := hide (Own.lit0 w7 2 .i64)
        have I10 := hide (I1_7.out.below ((Below.refl _ _).alloc (Nat.le_refl _) (.cells #[] 2)))
        have Ig0 := hide (Ig_7.out.below ((Below.refl _ _).alloc (Nat.le_refl _) (.cells #[] 2)))
        have hsz : base ≤ (w7.alloc (.cells #[] 2)).heap.size := by rw [alloc_size]; omega
        rw [← hbase] at hlo HO0 I10 Ig0
        go_wp2_with fail
        go_loopw [9, 10] (fun v i wr => GnRel w1 p k γ m c base A1 Ag ws vs gs v i wr) (fun _ i _ => (intOf i + 1).toNat)
        case atStart => exact ⟨0, by omega, by simp [wrap64], by rw [hbase] at HO0 ⊢; exact HO0.out, I10.out, Ig0.out, HX0.out, hsz⟩
        case round =>
          clear HX0 HO0 I10 Ig0 b0 b1 b2 b3 b4 hsz hbase I1_7 Ig_7 HX1 HX2 HX3 HX4 HX5 HX6 HX7
          obtain ⟨v, rfl⟩ : ∃ v : Value, v = u9 := ⟨_, rfl⟩
          obtain ⟨j, hj, rfl, HO, HI1, HIg, HX, hsz⟩ := hrel
          have HO := hide HO
          have HI1 := hide HI1
          have HIg := hide HIg
          have HX := hide HX
          obtain ⟨b0, b1, b2, b3, b4⟩ := HX.out.cells
          by_cases hlt : j < m
          · obtain ⟨t, ht⟩ : ∃ t, t = m - 1 - j := ⟨_, rfl⟩
            have htj : (m : Int) - 1 - (j : Int) = (t : Int) := by omega
            have htm : t < m := by omega
            obtain ⟨b, off, x, rfl, hb, hx, hcx⟩ := HI1.out.at_ htm
            rw [iv_at (by rw [HWL.out]; exact htm), HVC.out j t hlt ht] at hx
            obtain rfl : x = ((cf vs j).val : Int) := by injection hx with hx; exact hx.symm
            have HTK := hide (iv_takes (ps := vs) (j := j) (by rw [HVL.out]; exact hlt))
            have HLN := hide (show (iv (vs.take j)).length ≤ 1000 by rw [iv_len, List.length_take]; omega)
            obtain ⟨x, hxx⟩ : ∃ x, x = ((cf vs j).val : Int) := ⟨_, rfl⟩
            rw [← hxx] at hcx HTK
            have HTJ := hide htj
            have hw1 : (t : Int) - 1 = (m : Int) - 1 - ((j + 1 : Nat) : Int) := by omega
            have hw2 : IntKind.i64.wrap ((t : Int) - 1) = (t : Int) - 1 := IntWalk.i64_in _ ⟨by omega, by omega⟩
            have HW1 := hide hw1
            rw [htj]
            clear hx hxx ht htj hw1
            go_wp2_with (at_builtin; refine wpList_app1 wr rfl _ _ _ rfl elem64 base v _ rfl HO.out x rfl (by have := HLN.out; omega) hsz ?_; intro v6 w6 hown hgrow)
            have HO6 := hide hown
            rw [HTK.out] at HO6
            have hvo := fun b hb => (HO.out.lt (g := b) hb).1
            have HX6 := hide (HX.out.grow hgrow (fun b hb => Nat.lt_of_lt_of_le hlo (hvo b hb)))
            have I16 := hide (ints_own HI1.out hgrow hvo hsz)
            have Ig6 := hide (ints_own HIg.out hgrow hvo hsz)
            have hs6 := Nat.le_trans hsz hgrow.size
            clear hown hgrow hvo
            go_wp2_with fail
            go_roundw
            case rel => exact ⟨j + 1, by omega, by rw [HW1.out], HO6.out, I16.out, Ig6.out, HX6.out, hs6⟩
            case measure => have := HTJ.out; simp [intOf]
          · obtain rfl : j = m := by omega
            have hneg : (j : Int) - 1 - (j : Int) = -1 := by omega
            obtain ⟨A', c', rfl, hc'⟩ := HO.out.form
            have hvv : vs.take j = vs := List.take_of_length_le (by rw [HVL.out]; omega)
            rw [hvv] at HO hc' ⊢
            have hvl : (iv vs).length = j := by rw [iv_len]; exact HVL.out
            have HIv := hide HO.out.ints
            rw [hvl] at HIv hc' ⊢
            rw [hneg]
            clear hneg hvv hvl HO hlt
            go_wp2_with fail
            go_loop [9] (fun v => GtRel A' j c' vs v) (fun v => slLen v)
            case atStart => exact ⟨j, Nat.le_refl _, rfl, by rw [List.take_of_length_le (by rw [HVL.out]; omega)]; rfl⟩
            case round =>
              obtain ⟨v, rfl⟩ : ∃ v : Value, v = u9 := ⟨_, rfl⟩
              obtain ⟨t, ht, rfl, HT⟩ := hrel
              have HS := hide (ints_take HIv.out ht)
              have hw3 : IntKind.i64.wrap ((c : Int) + 1) = (c : Int) + 1 := IntWalk.i64_in _ ⟨by omega, by omega⟩
              have hgl : (((c + 1 : Nat) : Int) == (c : Int) + 1) = true := by simp
              have e6 : (iv ([] : List (El R))).length = 0 := rfl
              rcases Nat.eq_zero_or_pos t with rfl | hp
              · have HF := hide (show vs.take 0 = wpoly ws by rw [← HTR.out, ← HT.out]; rfl)
                rw [HF.out] at HS
                go_wp2_with fail
                refine (HDV.out _ 0 c' Ag _ cg wr.heap.size wr HS.out (HIg.out.more hsz) (Nat.le_refl _)).mono ?_
                rintro e w9 ⟨Aq, nq, mq, Ar, mr, rfl, hb⟩
                have HX9 := hide (HX.out.next hb)
                clear hb b0 b1 b2 b3 b4
                obtain ⟨b0, b1, b2, b3, b4⟩ := HX9.out.cells
                go_wp2_with fail
                go_ret
                exact ⟨rfl, HB1.out.trans (HX9.out.2.mono HB1.out.size)⟩
              · obtain ⟨i, hi⟩ : ∃ i, t = i + 1 := ⟨t - 1, by omega⟩
                have hw1 : IntKind.i64.wrap ((t : Int) - 1) = (i : Int) := by rw [IntWalk.i64_in _ ⟨by omega, by omega⟩]; omega
                have hin : i < j := by omega
                have hz : (0 : Int) < (t : Int) := by omega
                have hsn : vs.take t = vs.take i ++ [cf vs i] := by rw [hi, List.take_add_one, at_cf (by rw [HVL.out]; omega)]; rfl
                have him : i < t := by omega
                have hic : i ≤ c' := by omega
                have HSN := hide hsn
                obtain ⟨b, off, x, rfl, hb, hx, hcc⟩ := HIv.out.at_ hin
                rw [iv_at (by rw [HVL.out]; exact hin)] at hx
                simp only [Option.some.injEq] at hx
                subst hx
                clear hi hsn
                by_cases hz0 : cf vs i = 0
                · have HN := hide (show trim (vs.take i) = trim vs by rw [← HT.out, HSN.out, hz0, trim_zero])
                  rw [hz0] at hcc
                  clear hz0
                  go_wp2_with fail
                  go_round
                  case rel => exact ⟨i, by omega, rfl, HN⟩
                  case measure => simp [slLen]; omega
                · have HF := hide (show vs.take t = wpoly ws by rw [← HTR.out, ← HT.out, HSN.out, trim_more _ hz0])
                  have hv : ((((cf vs i).val : Nat) : Int) == 0) = false := by have := val_ne hz0; simp; omega
                  rw [HF.out] at HS
                  clear hz0
                  go_wp2_with fail
                  refine (HDV.out _ t c' Ag _ cg wr.heap.size wr HS.out (HIg.out.more hsz) (Nat.le_refl _)).mono ?_
                  rintro e w9 ⟨Aq, nq, mq, Ar, mr, rfl, hb⟩
                  have HX9 := hide (HX.out.next hb)
                  clear hb b0 b1 b2 b3 b4
                  obtain ⟨b0, b1, b2, b3, b4⟩ := HX9.out.cells
                  go_wp2_with fail
                  go_ret
                  exact ⟨rfl, HB1.out.trans (HX9.out.2.mono HB1.out.size)⟩
    · have hll : ((m : Int) != (l : Int)) = true := by simp; omega
      clear hml
      go_wp2_with fail
      go_ret
      exact ⟨rfl, HB1.out.trans (HX6.out.2.mono HB1.out.size)⟩
end Go.Proofs.Ytfbkmbjbjgfenaa
