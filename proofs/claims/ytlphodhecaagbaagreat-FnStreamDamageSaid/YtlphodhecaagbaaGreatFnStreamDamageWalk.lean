/-
  The walk of the law FnStreamDamage: it returns true, and nothing that was there before is changed.
  Condition: none.
-/
import Derived.Test.YtlphodhecaagbaaGreatKB
import Derived.Test.YtlphodhecaagbaaGreatKC
import Derived.Test.YtlphodhecaagbaaGreatJH
namespace Go.Proofs.YtlphodhecaagbaaGreat
open Go.RowKit
set_option linter.unusedVariables false
set_option linter.unusedSimpArgs false

def FgRel {R : Fld} (w1 : World) (p k γ D K C : Int) (a0 : Option Addr) (n0 c0 B0 gD : Nat) (z0 : List Int) (Bx d : Nat) (v i : Value) (wr : World) : Prop :=
  ∃ (j : Nat) (xs : List (El R)), j ≤ d ∧ i = .int .i64 (j : Nat) ∧ Hid (xs.length = j) ∧ Bx ≤ wr.heap.size ∧ Own wr Bx 2 .i64 v (iv xs) ∧ Dice wr gD B0 a0 n0 c0 z0 ∧ YBox w1 wr p k γ D K C
def FhRel {R : Fld} (w1 : World) (p k γ D K C : Int) (a0 : Option Addr) (n0 c0 B0 gD : Nat) (z0 : List Int) (gS cS N Bx Bs : Nat) (W : List (El R)) (E F : List Nat) (v : Value) (xs : List (El R)) (i : Value) (wr : World) : Prop :=
  ∃ (j : Nat) (S : List (El R)), j ≤ N ∧ i = .int .i64 (j : Nat) ∧ Hid (S.length = N) ∧ Hid (∀ i, cf S i ≠ cf W i → i ∈ E ∨ i ∈ F) ∧
    Own wr Bs 2 .i64 (.slice (some ⟨gS, 0, none⟩) N cS) (iv S) ∧ Own wr Bx 2 .i64 v (iv xs) ∧ Dice wr gD B0 a0 n0 c0 z0 ∧ YBox w1 wr p k γ D K C

set_option maxRecDepth 100000 in
set_option maxHeartbeats 8000000 in
theorem fnStreamDamageWalk (a0 : Option Addr) (n0 c0 : Nat) (z0 : List Int) (w : World) (h0 : Came .u8 w a0 n0 c0 z0) :
    Calls Tryz.prog 4 #[.slice a0 n0 c0] w fun e w' => e = .returned (.bool true) ∧ Below w.heap.size w w' := by
  obtain ⟨hI, hnc, hcm, hwf⟩ := h0
  have HI := hide hI
  have HBY := hide (show ∀ b ∈ z0, 0 ≤ b ∧ b ≤ 255 from fun b hb => bd_u8 (hwf b hb))
  clear hI hwf
  unfold maxLen at hcm
  by_cases hbig : 4096 < n0
  · go_enter Tryz.func4, Tryz.ntmps4
    go_wp2_with fail
    refine (big_yes a0 n0 c0 w hbig (by omega)).mono ?_
    rintro e w ⟨rfl, rfl⟩
    go_wp2_with fail
    go_ret
    exact ⟨rfl, Below.refl _ _⟩
  have hn0 : n0 ≤ 4096 := by omega
  go_enter Tryz.func4, Tryz.ntmps4
  go_wp2_with fail
  refine (big_no a0 n0 c0 w hn0).mono ?_
  rintro e w ⟨rfl, rfl⟩
  go_wp2_with fail
  refine (drawStreamD a0 n0 c0 z0 w HI.out hn0 HBY.out).mono ?_
  rintro e w1 ⟨p, k, γ, D, K, C, z1, z2, A1, A2, c1, c2, rfl, hD0, hD1, hK0, hK1, hC0, hC1, hl1, hl2, hn1, hn2, hI1, hI2, hb⟩
  have HB1 := hide hb
  have HX1 := hide (YBox.start w1 p k γ D K C)
  have hDb : -9223372036854775808 ≤ D ∧ D ≤ 9223372036854775807 := by omega
  have hCb : -9223372036854775808 ≤ C ∧ C ≤ 9223372036854775807 := by omega
  have I1 := hide hI1
  have I2 := hide hI2
  clear hI1 hI2 hb
  obtain ⟨b0, b1, b2, b3, b4, b5⟩ := HX1.out.cells
  obtain ⟨cd, bb, hS, hM, hC⟩ := sd_key p k γ D K C z1 z2 (by omega) (by omega) hDb hCb
  have HS := hide hS
  have HM := hide hM
  have HC := hide hC
  clear hS hM hC
  have hcc : (cd != cd) = false := by simp
  have hbb : (bb != bb) = false := by simp
  go_wp2_with fail
  refine (HM.out A1 _ c1 A2 _ c2 _ _ (I1.out.below HX1.out.2) (I2.out.below HX1.out.2) HX1.out.2.size).mono ?_
  rintro e w2 ⟨rfl, hb⟩
  have HX2 := hide (HX1.out.next hb)
  clear hb b0 b1 b2 b3 b4 b5
  obtain ⟨b0, b1, b2, b3, b4, b5⟩ := HX2.out.cells
  go_wp2_with fail
  refine (HS.out A1 _ c1 A2 _ c2 _ _ (I1.out.below HX2.out.2) (I2.out.below HX2.out.2) HX2.out.2.size).mono ?_
  rintro e w3 ⟨rfl, hb⟩
  have HX3 := hide (HX2.out.next hb)
  clear hb b0 b1 b2 b3 b4 b5
  obtain ⟨b0, b1, b2, b3, b4, b5⟩ := HX3.out.cells
  rcases HC.out with hcd | ⟨hcd, hbf⟩ | ⟨hcd, hbt, R, γ', d, c, m, F, E, hDe, hKe, hCe, hL, hzF, hzE, hidx, hsum⟩
  · have e1 : (cd != 0) = true := by simpa using hcd
    clear hcd
    go_wp2_with fail
    go_ret
    exact ⟨rfl, HB1.out.trans (HX3.out.2.mono HB1.out.size)⟩
  · subst hcd hbf
    go_wp2_with fail
    go_ret
    exact ⟨rfl, HB1.out.trans (HX3.out.2.mono HB1.out.size)⟩
  · subst hcd hbt hDe hKe hCe hzF hzE
    by_cases h120 : 120 < d
    · have e2 : (120 : Int) < (d : Int) := by omega
      go_wp2_with fail
      go_ret
      exact ⟨rfl, HB1.out.trans (HX3.out.2.mono HB1.out.size)⟩
    · have e2 : ¬ (120 : Int) < (d : Int) := by omega
      have h1 := hL.c1; have h2 := hL.c16; have h3 := hL.cd; have h4 := hL.tot; have h5 := hL.k1; have h6 := hL.d1500
      have HLL := hide hL
      have HIX := hide hidx
      have HSU := hide hsum
      have HFS := hide (show fsize p k γ = R.q by rw [fsize, if_pos (hL.code 0 h1).ok, hL.fld.kind.size])
      have hqb := hL.fld.kind.big
      have hq3 := R.three
      have HB3 := hide (HB1.out.trans (HX3.out.2.mono HB1.out.size))
      have hx3 := HX3.out.lt
      clear hL hidx hsum HS HM HC hcc hbb
      go_wp2_with fail
      refine (roll_any a0 n0 c0 z0 703 _ ((HI.out.below HB3.out).more HB3.out.size) hn0 HBY.out).mono ?_
      rintro e w5 ⟨rfl, hd5, hb5⟩
      have HB5 := hide (HB3.out.trans (hb5.mono HB3.out.size))
      have HX5 := hide (HX3.out.next hb5)
      have HD5 := hide (hd5.re (HI.out.below HB5.out) HB3.out.size)
      have HOb := hide (Own.lit0 w5 2 .i64)
      have HXb := hide (HX5.out.alloc (.cells #[] 2))
      have HDb := hide (HD5.out.below ((Below.refl w5.heap.size w5).alloc (Nat.le_refl _) (.cells #[] 2)) HD5.out.lt)
      have hDl := HD5.out.lt
      have hwb0 : w5.heap.size ≤ (w5.alloc (.cells #[] 2)).heap.size := by rw [alloc_size]; omega
      have HWB := hide hwb0
      clear hd5 hb5 hwb0 b0 b1 b2 b3 b4 b5
      go_wp2_with fail
      generalize w5.alloc (.cells #[] 2) = wb at HOb HXb HDb HWB ⊢
      generalize w5.heap.size = Bx at HOb HWB hDl ⊢
      obtain ⟨gD, hgD⟩ : ∃ gD, w3.heap.size = gD := ⟨_, rfl⟩
      rw [hgD] at HDb hx3 hDl ⊢
      have hB0 : w.heap.size ≤ w1.heap.size := HB1.out.size
      clear hgD
      go_loopw [11, 12] (fun v i wr => FgRel (R := R) w1 p k γ d c m a0 n0 c0 w.heap.size gD z0 Bx d v i wr) (fun _ i _ => d - (intOf i).toNat)
      case atStart => exact ⟨0, [], Nat.zero_le _, rfl, rfl, HWB.out, HOb.out, HDb.out, HXb.out⟩
      case round =>
        clear HOb HDb HXb HD5 HX5
        obtain ⟨v, hvv⟩ : ∃ v : Value, v = u11 := ⟨_, rfl⟩
        subst hvv
        obtain ⟨j, xs, hj, rfl, hxl, hBx, hO, hD, hX⟩ := hrel
        have HXL := hide hxl.out
        have HO := hide hO
        have HD := hide hD
        have HX := hide hX
        clear hxl hO hD hX
        obtain ⟨b0, b1, b2, b3, b4, b5⟩ := HX.out.cells
        have HVD := hide (show v.ownBlock = none ∨ v.ownBlock ≠ some gD from by
          rcases hq : v.ownBlock with _ | q
          · exact .inl rfl
          · refine .inr fun e => ?_
            have h1 : q = gD := Option.some.inj e
            have := (HO.out.lt hq).1
            omega)
        have HVX := hide (show ∀ b, v.ownBlock = some b → w1.heap.size < b from fun b hb => by have := (HO.out.lt hb).1; omega)
        by_cases hlt : j < d
        · have htj : (j : Int) < (d : Int) := by omega
          go_wp2_with fail
          refine (specFieldSize p k γ _).mono ?_
          rw [HFS.out]
          rintro e w7 ⟨rfl, hb7⟩
          have HX7 := hide (HX.out.next hb7)
          have HO7 := hide (HO.out.below hb7 (Nat.le_refl _))
          have HD7 := hide (HD.out.below hb7 HD.out.lt)
          have hs7 := hb7.size
          clear hb7 b0 b1 b2 b3 b4 b5
          go_wp2_with fail
          refine (below_any _ _ a0 n0 c0 z0 (R.q : Int) w7 HD7.out (by omega) (by omega)).mono ?_
          rintro e w8 ⟨y, rfl, hy, hd8, hg8⟩
          have HX8 := hide (HX7.out.grow hg8 (fun q hq => by injection hq with hq; omega))
          have HO8 := hide (HO7.out.grown hg8 HVD.out)
          have HD8 := hide hd8
          have hs8 : Bx ≤ w8.heap.size := by have := hg8.size; omega
          obtain ⟨Y, hY⟩ : ∃ Y : El R, Y.val = y := ⟨⟨y, by omega⟩, rfl⟩
          have HYY := hide hY
          have hlx : (iv xs).length + 1 ≤ 2000 := by rw [iv_len, HXL.out]; omega
          clear hd8 hg8 hy hY
          go_wp2_with (
            at_builtin
            refine wpList_app1 w8 rfl _ _ _ rfl elem64 Bx v _ rfl HO8.out ((y : Nat) : Int) rfl (by omega) hs8 ?_
            intro v4 w9 hown hgrow
            rw [← HYY.out, ← iv_one, ← iv_app] at hown
            have HO9 := hide hown
            have hs9 := hide hgrow.size
            have HX9 := hide (HX8.out.grow hgrow HVX.out)
            have HD9 := hide (show Dice w9 gD w.heap.size a0 n0 c0 z0 from by
              rcases hq : v.ownBlock with _ | q
              · rw [hq] at hgrow
                exact HD8.out.below ⟨hgrow.os, hgrow.tape, hgrow.output, hgrow.size, fun i hi => hgrow.block i hi (by simp)⟩ HD8.out.lt
              · rw [hq] at hgrow
                have h3 := (HO8.out.lt hq).1
                exact HD8.out.over hgrow (by omega) (by omega))
            clear hown hgrow)
          go_roundw
          case rel => exact ⟨j + 1, xs ++ [Y], by omega, by go_num, hide (by rw [List.length_append, HXL.out]; rfl), Nat.le_trans hs8 hs9.out, HO9.out, HD9.out, HX9.out⟩
          case measure => simp [intOf]; omega
        · have htj : ¬ (j : Int) < (d : Int) := by omega
          have HXD := hide (show xs.length = d by rw [HXL.out]; omega)
          obtain ⟨Av, cv, hve, hcv⟩ := HO.out.form
          subst hve
          have HES := hide (esI_val HLL.out xs HXD.out (by rw [iv_len, HXD.out]; omega) (data_ok HLL.out xs HXD.out))
          have hvl : (iv xs).length = d := by rw [iv_len]; exact HXD.out
          have HII := hide (Own.ints HO.out)
          have HCV := hide hcv
          have HVL := hide hvl
          clear hcv hvl
          go_wp2_with fail
          refine (HES.out Av _ cv _ _ HII.out HCV.out (Nat.le_refl _)).mono ?_
          rintro e w7 ⟨Ag, cg, rfl, hcg, hog, hb⟩
          have HX7 := hide (HX.out.next hb)
          have HO7 := hide (HO.out.below hb (Nat.le_refl _))
          have HD7 := hide (HD.out.below hb HD.out.lt)
          have hsl : (iv (strL d m c (encB γ' d m c xs))).length = d + m * c := str_lenI γ' xs
          obtain ⟨gS, cS, hAg, hgS1, hgS2, _⟩ := hog.some_ (by rw [hsl]; omega)
          have HOG := hide hog
          rw [hsl] at hAg HOG hcg ⊢
          simp only [Value.slice.injEq] at hAg
          obtain ⟨rfl, _, rfl⟩ := hAg
          clear hog hb b0 b1 b2 b3 b4 b5
          obtain ⟨b0, b1, b2, b3, b4, b5⟩ := HX7.out.cells
          have HSL := hide (show (strL d m c (encB γ' d m c xs)).length = d + m * c by rw [← iv_len]; exact hsl)
          have hz2l : (nv E).length ≤ 1048576 := by omega
          have HDEC := hide (fun S (hS : S.length = d + m * c) hs => dec_damage HLL.out xs S HXD.out hS E F hz2l HIX.out hs HSU.out)
          obtain ⟨W, hW⟩ : ∃ W, strL d m c (encB γ' d m c xs) = W := ⟨_, rfl⟩
          rw [hW] at HOG HSL HDEC
          obtain ⟨mc, hmc⟩ : ∃ mc, m * c = mc := ⟨_, rfl⟩
          have hwm : IntKind.i64.wrap ((m : Int) * (c : Int)) = (mc : Int) := by
            have h7 : (m : Int) * (c : Int) = ((m * c : Nat) : Int) := by simp
            rw [h7, hmc]; exact IntWalk.i64_in _ ⟨by omega, by omega⟩
          rw [hmc] at HOG HSL HDEC hcg h4 ⊢
          obtain ⟨N, hN⟩ : ∃ N, d + mc = N := ⟨_, rfl⟩
          have hwa : IntKind.i64.wrap ((d : Int) + (mc : Int)) = (N : Int) := by rw [IntWalk.i64_in _ ⟨by omega, by omega⟩]; omega
          rw [hN] at HOG HSL HDEC hcg ⊢
          have hnn : (((N : Nat) : Int) != ((N : Nat) : Int)) = false := by simp
          have hnn2 : (N != N) = false := by simp
          have hN15 : N ≤ 1500 := by omega
          have HGR := hide (And.intro hgS1 hgS2)
          have hDr : gD < wr.heap.size := HD.out.lt
          clear hsl hW hmc hN htj HES HII
          go_wp2_with fail
          obtain ⟨Bs, hBs⟩ : ∃ Bs, wr.heap.size = Bs := ⟨_, rfl⟩
          have HVQ := hide (show ∀ q, (Value.slice Av (iv xs).length cv).ownBlock = some q → Bx ≤ q ∧ q < Bs from fun q hq => by have := HO.out.lt hq; omega)
          rw [hBs] at HOG HGR hDr
          have hxB : w1.heap.size < Bs := by have := HX.out.lt; omega
          have hgS1 := HGR.out.1
          have HVD2 := hide (show (Value.slice Av (iv xs).length cv).ownBlock = none ∨ (Value.slice Av (iv xs).length cv).ownBlock ≠ some gD from by
            rcases hq : (Value.slice Av (iv xs).length cv).ownBlock with _ | q
            · exact .inl rfl
            · refine .inr fun e => ?_
              have h1 : q = gD := Option.some.inj e
              have := HVQ.out q hq
              omega)
          have HVS2 := hide (show (Value.slice Av (iv xs).length cv).ownBlock = none ∨ (Value.slice Av (iv xs).length cv).ownBlock ≠ some gS from by
            rcases hq : (Value.slice Av (iv xs).length cv).ownBlock with _ | q
            · exact .inl rfl
            · refine .inr fun e => ?_
              have h1 : q = gS := Option.some.inj e
              have := HVQ.out q hq
              omega)
          clear hBs hwm hwa hnn hnn2 HX HO HD HVD HVX
          go_loopw [15] (fun i wr => FhRel (R := R) w1 p k γ d c m a0 n0 c0 w.heap.size gD z0 gS cg N Bx Bs W E F (.slice Av (iv xs).length cv) xs i wr) (fun i _ => N - (intOf i).toNat)
          case atStart => exact ⟨0, W, Nat.zero_le _, rfl, HSL.out, (fun i hi => absurd rfl hi), HOG.out, HO7.out, HD7.out, HX7.out⟩
          case round =>
            clear HOG HO7 HD7 HX7 HSL b0 b1 b2 b3 b4 b5
            obtain ⟨j, S, hj, rfl, hSL, hSC, hO, hV, hD, hX⟩ := hrel
            have HSL := hide hSL.out
            have HSC := hide hSC.out
            have HO := hide hO
            have HV := hide hV
            have HD := hide hD
            have HX := hide hX
            clear hSL hSC hO hV hD hX
            obtain ⟨b0, b1, b2, b3, b4, b5⟩ := HX.out.cells
            by_cases hlt : j < N
            · have htj : (j : Int) < (N : Int) := by omega
              go_wp2_with fail
              refine (lawHas A1 _ c1 _ (nv F) (j : Int) _ (I1.out.below HX.out.2) (by omega)).mono ?_
              by_cases hF : (j : Int) ∈ nv F
              · rw [decide_eq_true hF]
                have HIN := hide (show j ∈ E ∨ j ∈ F from .inr (nv_in.1 hF))
                clear hF
                rintro e w8 ⟨rfl, rfl⟩
                go_wp2_with fail
                refine (specFieldSize p k γ _).mono ?_
                rw [HFS.out]
                rintro e w9 ⟨rfl, hb7⟩
                have HX9 := hide (HX.out.next hb7)
                have HO9 := hide (HO.out.below hb7 (Nat.le_refl _))
                have HV9 := hide (HV.out.below hb7 (Nat.le_refl _))
                have HD9 := hide (HD.out.below hb7 HD.out.lt)
                clear hb7 b0 b1 b2 b3 b4 b5
                go_wp2_with fail
                refine (below_any _ _ a0 n0 c0 z0 (R.q : Int) w9 HD9.out (by omega) (by omega)).mono ?_
                rintro e wA ⟨y, rfl, hy, hd8, hg8⟩
                have HXA := hide (HX9.out.grow hg8 (fun q hq => by injection hq with hq; omega))
                have HOA := hide (HO9.out.grown hg8 (.inr fun e => by have e2 : gS = gD := Option.some.inj e; omega))
                have HVA := hide (HV9.out.grown hg8 HVD2.out)
                obtain ⟨Y, hY⟩ : ∃ Y : El R, Y.val = y := ⟨⟨y, by omega⟩, rfl⟩
                have hfx := HOA.out.frozenAt j
                have hcx := HOA.out.cellAt (iv_at (ps := S) (i := j) (by rw [HSL.out]; exact hlt))
                obtain ⟨u, hu⟩ : ∃ u : Int, ((cf S j).val : Int) = u := ⟨_, rfl⟩
                rw [hu] at hcx
                have hst := HOA.out.stored j ((Y.val : Nat) : Int)
                rw [iv_set, hY] at hst
                have HOB := hide hst.1
                have HVB := hide (HVA.out.grown hst.2 HVS2.out)
                have HDB := hide (hd8.over hst.2 (by omega) (by omega))
                have HXB := hide (HXA.out.set (b := gS) (by omega) j (.int .i64 (y : Nat)))
                have HSLB := hide (show (S.set j Y).length = N by rw [List.length_set]; exact HSL.out)
                have HSCB := hide (show ∀ i, cf (S.set j Y) i ≠ cf W i → i ∈ E ∨ i ∈ F from fun i hi => by
                  by_cases hix : i = j
                  · rw [hix]; exact HIN.out
                  · rw [cf_set7 _ _ _ _ hix] at hi; exact HSC.out i hi)
                clear hst hu hY hd8 hg8 hy
                go_wp2_with fail
                go_roundw
                case rel => exact ⟨j + 1, S.set j Y, by omega, by go_num, HSLB, HSCB, HOB.out, HVB.out, HDB.out, HXB.out⟩
                case measure => simp [intOf]; omega
              · rw [decide_eq_false hF]
                clear hF
                rintro e w8 ⟨rfl, rfl⟩
                go_wp2_with fail
                refine (lawHas A2 _ c2 _ (nv E) (j : Int) _ (I2.out.below HX.out.2) (by omega)).mono ?_
                by_cases hE : (j : Int) ∈ nv E
                · rw [decide_eq_true hE]
                  have HIN := hide (show j ∈ E ∨ j ∈ F from .inl (nv_in.1 hE))
                  clear hE
                  rintro e w8 ⟨rfl, rfl⟩
                  go_wp2_with fail
                  refine (specFieldSize p k γ _).mono ?_
                  rw [HFS.out]
                  rintro e w9 ⟨rfl, hb7⟩
                  have HX9 := hide (HX.out.next hb7)
                  have HO9 := hide (HO.out.below hb7 (Nat.le_refl _))
                  have HV9 := hide (HV.out.below hb7 (Nat.le_refl _))
                  have HD9 := hide (HD.out.below hb7 HD.out.lt)
                  clear hb7 b0 b1 b2 b3 b4 b5
                  go_wp2_with fail
                  refine (below_any _ _ a0 n0 c0 z0 (R.q : Int) w9 HD9.out (by omega) (by omega)).mono ?_
                  rintro e wA ⟨y, rfl, hy, hd8, hg8⟩
                  have HXA := hide (HX9.out.grow hg8 (fun q hq => by injection hq with hq; omega))
                  have HOA := hide (HO9.out.grown hg8 (.inr fun e => by have e2 : gS = gD := Option.some.inj e; omega))
                  have HVA := hide (HV9.out.grown hg8 HVD2.out)
                  obtain ⟨Y, hY⟩ : ∃ Y : El R, Y.val = y := ⟨⟨y, by omega⟩, rfl⟩
                  have hfx := HOA.out.frozenAt j
                  have hcx := HOA.out.cellAt (iv_at (ps := S) (i := j) (by rw [HSL.out]; exact hlt))
                  obtain ⟨u, hu⟩ : ∃ u : Int, ((cf S j).val : Int) = u := ⟨_, rfl⟩
                  rw [hu] at hcx
                  have hst := HOA.out.stored j ((Y.val : Nat) : Int)
                  rw [iv_set, hY] at hst
                  have HOB := hide hst.1
                  have HVB := hide (HVA.out.grown hst.2 HVS2.out)
                  have HDB := hide (hd8.over hst.2 (by omega) (by omega))
                  have HXB := hide (HXA.out.set (b := gS) (by omega) j (.int .i64 (y : Nat)))
                  have HSLB := hide (show (S.set j Y).length = N by rw [List.length_set]; exact HSL.out)
                  have HSCB := hide (show ∀ i, cf (S.set j Y) i ≠ cf W i → i ∈ E ∨ i ∈ F from fun i hi => by
                    by_cases hix : i = j
                    · rw [hix]; exact HIN.out
                    · rw [cf_set7 _ _ _ _ hix] at hi; exact HSC.out i hi)
                  clear hst hu hY hd8 hg8 hy
                  go_wp2_with fail
                  go_roundw
                  case rel => exact ⟨j + 1, S.set j Y, by omega, by go_num, HSLB, HSCB, HOB.out, HVB.out, HDB.out, HXB.out⟩
                  case measure => simp [intOf]; omega
                · rw [decide_eq_false hE]
                  clear hE
                  rintro e w8 ⟨rfl, rfl⟩
                  go_wp2_with fail
                  go_roundw
                  case rel => exact ⟨j + 1, S, by omega, by go_num, HSL, HSC, HO.out, HV.out, HD.out, HX.out⟩
                  case measure => simp [intOf]; omega
            · have htj : ¬ (j : Int) < (N : Int) := by omega
              obtain ⟨a, hdec⟩ := HDEC.out S HSL.out HSC.out
              have HDE := hide hdec
              have HNC := hide (show (iv S).length ≤ cg by rw [iv_len, HSL.out]; exact hcg)
              have HII := hide (Own.ints HO.out)
              rw [iv_len, HSL.out] at HII
              clear hdec
              go_wp2_with fail
              refine (HDE.out (some ⟨gS, 0, none⟩) N cg A2 _ c2 wr.heap.size wr HII.out ((I2.out.below HX.out.2).more HX.out.2.size) HNC.out hn2 (Nat.le_refl _)).mono ?_
              rintro e w9 ⟨Ad, cD, rfl, hcD, hod, hb9⟩
              have HX9 := hide (HX.out.next hb9)
              have HOD := hide (Own.ints hod)
              have HV9 := hide (Own.ints (HV.out.below hb9 (Nat.le_refl _)))
              rw [HVL.out] at HOD HV9 ⊢
              clear hod hb9 b0 b1 b2 b3 b4 b5
              go_wp2_with fail
              refine (likeSame Ad _ cD _ Av _ cv _ (iv xs) _ HOD.out HV9.out (by rw [HVL.out]; omega)).mono ?_
              rintro e' w10 ⟨rfl, hb10⟩
              have HX10 := hide (HX9.out.next hb10)
              clear hb10
              go_wp2_with fail
              go_ret
              exact ⟨rfl, HB1.out.trans (HX10.out.2.mono HB1.out.size)⟩
end Go.Proofs.YtlphodhecaagbaaGreat
