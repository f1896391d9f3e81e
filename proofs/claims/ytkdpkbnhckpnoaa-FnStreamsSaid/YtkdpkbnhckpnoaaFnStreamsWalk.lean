/-
  The walk of the law FnStreams: it returns true, and nothing that was there before is changed.
  Condition: none.
-/
import Derived.Test.YtkdpkbnhckpnoaaLVal
import Derived.Test.YtkdpkbnhckpnoaaLDraw3
import Derived.Test.YtkdpkbnhckpnoaaLay7
import Derived.Test.YtkdpkbnhckpnoaaCHalf
import Derived.Test.YtkdpkbnhckpnoaaJH
namespace Go.Proofs.Ytkdpkbnhckpnoaa
open Go.RowKit
set_option linter.unusedVariables false
set_option linter.unusedSimpArgs false

def FsRel {R : Fld} (w8 : World) (D C : Nat) (ds : List (El R)) (v i : Value) (wr : World) : Prop :=
  ∃ b : Nat, b ≤ C ∧ i = .int .i64 b ∧ Own wr w8.heap.size 2 .i64 v (iv (ds.take (offB D C b))) ∧ Below w8.heap.size w8 wr
def FiRel (w9 : World) (L : Nat) (i : Value) (wr : World) : Prop := ∃ e : Nat, e ≤ L ∧ i = .int .i64 e ∧ Below w9.heap.size w9 wr

set_option maxRecDepth 100000 in
set_option maxHeartbeats 8000000 in
theorem fnStreamsWalk (a0 : Option Addr) (n0 c0 : Nat) (z0 : List Int) (w : World) (h0 : Came .u8 w a0 n0 c0 z0) :
    Calls Try.prog 3 #[.slice a0 n0 c0] w fun e w' => e = .returned (.bool true) ∧ Below w.heap.size w w' := by
  obtain ⟨hI, hnc, hcm, hwf⟩ := h0
  have HI := hide hI
  have HBY := hide (show ∀ b ∈ z0, 0 ≤ b ∧ b ≤ 255 from fun b hb => bd_u8 (hwf b hb))
  clear hI hwf
  unfold maxLen at hcm
  by_cases hbig : 4096 < n0
  · go_enter Try.func3, Try.ntmps3
    go_wp2_with fail
    refine (big_yes a0 n0 c0 w hbig (by omega)).mono ?_
    rintro e w ⟨rfl, rfl⟩
    go_wp2_with fail
    go_ret
    exact ⟨rfl, Below.refl _ _⟩
  have hn0 : n0 ≤ 4096 := by omega
  go_enter Try.func3, Try.ntmps3
  go_wp2_with fail
  refine (big_no a0 n0 c0 w hn0).mono ?_
  rintro e w ⟨rfl, rfl⟩
  go_wp2_with fail
  refine (drawEncS a0 n0 c0 z0 w HI hn0 HBY).mono ?_
  rintro e w1 ⟨p, k, γ, D, K, C, z1, A1, c1, rfl, hD0, hD1, hK0, hK1, hC0, hC1, hl1, hn1, hI1, hb⟩
  have HB1 := hide hb
  have HX1 := hide (YBox.start w1 p k γ D K C)
  have hDb : -9223372036854775808 ≤ D ∧ D ≤ 9223372036854775807 := by omega
  have hCb : -9223372036854775808 ≤ C ∧ C ≤ 9223372036854775807 := by omega
  have I1_1 := hide ((hI1.below HX1.out.2).more HX1.out.2.size)
  clear hI1 hb HI
  obtain ⟨b0, b1, b2, b3, b4, b5⟩ := HX1.out.cells
  obtain ⟨r, cd, hr, hS, hM, hC⟩ := es_key p k γ D K C z1 (by omega) hDb hCb
  obtain ⟨bl, hLS, hLI⟩ := isLay_both p k γ D K C hDb hCb
  have HS := hide hS
  have HM := hide hM
  have HC := hide hC
  have HLS := hide hLS
  have HLI := hide hLI
  clear hS hM hC hLS hLI
  have hcc : (cd != cd) = false := by simp
  have hbb : (bl != bl) = false := by simp
  go_wp2_with fail
  refine (HM.out A1 _ c1 _ _ I1_1.out hn1 (Nat.le_refl _)).mono ?_
  rintro e w2 ⟨Ag, cg, rfl, hcg, hog, hb⟩
  have HX2 := hide (HX1.out.next hb)
  have I1_2 := hide ((I1_1.out.below hb).more hb.size)
  have Ig_2 := hide (hog.ints)
  clear I1_1 hog hb b0 b1 b2 b3 b4 b5
  obtain ⟨b0, b1, b2, b3, b4, b5⟩ := HX2.out.cells
  go_wp2_with fail
  refine (HS.out A1 _ c1 _ _ I1_2.out hn1 (Nat.le_refl _)).mono ?_
  rintro e w3 ⟨Av, cv, rfl, hcv, hov, hb⟩
  have HX3 := hide (HX2.out.next hb)
  have I1_3 := hide ((I1_2.out.below hb).more hb.size)
  have Ig_3 := hide ((Ig_2.out.below hb).more hb.size)
  have Iv_3 := hide (hov.ints)
  clear I1_2 Ig_2 hov hb hcv b0 b1 b2 b3 b4 b5
  obtain ⟨b0, b1, b2, b3, b4, b5⟩ := HX3.out.cells
  go_wp2_with fail
  go_region_held3 (fun w' => (w'.cell? ⟨w1.heap.size, 0, none⟩ = some (.int .i64 p) ∧ w'.cell? ⟨w1.heap.size, 1, none⟩ = some (.int .i64 k) ∧ w'.cell? ⟨w1.heap.size, 2, none⟩ = some (.int .i64 γ) ∧ w'.cell? ⟨w1.heap.size, 3, none⟩ = some (.int .i64 D) ∧ w'.cell? ⟨w1.heap.size, 4, none⟩ = some (.int .i64 K) ∧ w'.cell? ⟨w1.heap.size, 5, none⟩ = some (.int .i64 C)))
    (first
      | exact HX3.out.drew.cells
      | exact HX4.out.cells
      | exact HX5.out.cells
      | exact HX6.out.cells)
    (first
      | (go_at_call 17; have hm5 := HMK5; refine (HLS.out _).mono ?_; rintro e w6 ⟨rfl, hb⟩; have HX6 := hide (HX5.out.next hb); have I1_6 := hide ((I1_5.out.below hb).more hb.size); have Ig_6 := hide ((Ig_5.out.below hb).more hb.size); have HMK6 : True := trivial; clear hb)
      | (go_at_call 16; have hm4 := HMK4; refine (HLI.out _).mono ?_; rintro e w5 ⟨rfl, hb⟩; have HX5 := hide (HX4.out.next hb); have I1_5 := hide ((I1_4.out.below hb).more hb.size); have Ig_5 := hide ((Ig_4.out.below hb).more hb.size); have HMK5 : True := trivial; clear hb)
      | (go_at_call 15; refine (likeSame Ag _ cg _ Av _ cv _ r _ Ig_3.out.drew Iv_3.out.drew (by omega)).mono ?_; rintro e w4 ⟨rfl, hb⟩; have HX4 := hide (HX3.out.drew.next hb); have I1_4 := hide ((I1_3.out.drew.below hb).more hb.size); have Ig_4 := hide ((Ig_3.out.drew.below hb).more hb.size); have HMK4 : True := trivial; clear hb))
  clear b0 b1 b2 b3 b4 b5
  obtain ⟨b0, b1, b2, b3, b4, b5⟩ := HX6.out.cells
  rcases HC.out with hcd | ⟨hcd, R, γ', d, c, m, ds, hDe, hKe, hCe, hL, hze, hml, hre⟩
  · have e1 : (cd != 0) = true := by simpa using hcd
    clear hcd
    go_wp2_with fail
    go_ret
    exact ⟨rfl, HB1.out.trans (HX6.out.2.mono HB1.out.size)⟩
  · subst hcd hDe hKe hCe hze hre
    clear hcc hbb HS HM HC HLS HLI
    have hzl : (iv ds).length = d := by rw [iv_len]; exact hml
    have hsl : (iv (strL d m c (encB γ' d m c ds))).length = d + m * c := str_lenI γ' ds
    rw [hzl] at I1_6 hn1 hl1 ⊢
    rw [hsl] at Ig_6 hcg hr ⊢
    by_cases h120 : 120 < d
    · have e2 : (120 : Int) < (d : Int) := by omega
      go_wp2_with fail
      go_ret
      exact ⟨rfl, HB1.out.trans (HX6.out.2.mono HB1.out.size)⟩
    · have e2 : ¬ (120 : Int) < (d : Int) := by omega
      have hwb : wordB R.q ((d + m * c : Nat) : Int) (iv (strL d m c (encB γ' d m c ds))) = true := by
        have := word_shut (strL d m c (encB γ' d m c ds))
        rw [show (strL d m c (encB γ' d m c ds)).length = d + m * c from by rw [← iv_len]; exact hsl] at this
        exact this
      have hEr : lErr p k γ d c m (stN d c m) (iv (strL d m c (encB γ' d m c ds))) = 0 := by
        rw [stN_is hL, lErr_is (layB_is hL) hL.fld.kind, if_pos hwb]
      have HSP := hide (ssI_val hL (iv (strL d m c (encB γ' d m c ds))) (by rw [hsl]; omega) (by rw [hsl, stN_is hL]) hEr)
      have HBC := hide (fun w' => implBlockCodes hL w')
      have h1 := hL.c1; have h2 := hL.c16; have h3 := hL.cd; have h4 := hL.tot; have h5 := hL.k1; have h6 := hL.d1500
      have HH := hide hL
      have HML := hide hml
      clear hwb hEr hL hml
      go_wp2_with fail
      refine (HSP.out Ag _ cg _ _ Ig_6.out (by rw [hsl]; exact hcg) (Nat.le_refl _)).mono ?_
      rintro e w7 ⟨vW, vs, rfl, hmt, hb⟩
      have HM7 := hide ((hmt.congr (Y := fun i => iv (encB γ' d m c ds i)) fun i hi => (wrdZ_str hi HML.out).symm).low (base' := w6.heap.size) (Nat.le_refl _))
      have HX7 := hide (HX6.out.next hb)
      have I1_7 := hide ((I1_6.out.below hb).more hb.size)
      have Ig_7 := hide ((Ig_6.out.below hb).more hb.size)
      clear I1_6 Ig_6 hmt hb b0 b1 b2 b3 b4 b5 HSP
      obtain ⟨b0, b1, b2, b3, b4, b5⟩ := HX7.out.cells
      go_wp2_with fail
      refine (HBC.out _).mono ?_
      rintro e w8 ⟨vC, rfl, hoc, hb⟩
      have HOC8 := hide hoc
      have HM8 := hide (HM7.out.next hb)
      have HX8 := hide (HX7.out.next hb)
      have I1_8 := hide ((I1_7.out.below hb).more hb.size)
      have Ig_8 := hide ((Ig_7.out.below hb).more hb.size)
      clear I1_7 Ig_7 hoc hb b0 b1 b2 b3 b4 b5 HBC HX7 HM7
      obtain ⟨b0, b1, b2, b3, b4, b5⟩ := HX8.out.cells
      obtain ⟨gw, cw, rfl, hgw1, hgw2, hgw3⟩ := HM8.out.form h1
      obtain ⟨gc, cc, rfl, hgc1, hgc2, hgc3⟩ := HOC8.out.form h1
      obtain ⟨sb, so, hAg, hsb, hsc⟩ := Ig_8.out.2 (by omega)
      subst hAg
      have HSC := hide hsc
      clear hsc
      have emm : (m != m) = false := by simp
      have emm2 : ((m : Int) != (m : Int)) = false := by simp
      have HO8 := hide (show Own (w8.alloc (.cells #[] 2)) w8.heap.size 2 .i64 (.slice (some ⟨w8.heap.size, 0, none⟩) 0 0) (iv (ds.take (offB d m 0))) from by
        rw [offB_zero, List.take_zero]; exact Own.lit0 w8 _ _)
      go_wp2_with fail
      go_loopw [13, 14] (fun v i wr => FsRel w8 d m ds v i wr) (fun _ i _ => m - (intOf i).toNat)
      case atStart => exact ⟨0, Nat.zero_le _, rfl, HO8.out, (Below.refl _ _).alloc (Nat.le_refl _) _⟩
      case round =>
        clear HO8 emm emm2 b0 b1 b2 b3 b4 b5
        obtain ⟨v, rfl⟩ : ∃ v : Value, v = u13 := ⟨_, rfl⟩
        obtain ⟨b, hb, rfl, ho, hbl⟩ := hrel
        have HO := hide ho
        have HBL := hide hbl
        clear ho hbl
        have HXr := hide (HX8.out.next HBL.out)
        by_cases hlt : b < m
        · have HMr := hide (HM8.out.below HBL.out (Nat.le_refl _))
          have HOCr := hide (HOC8.out.below HBL.out (Nat.le_refl _))
          have hel := encB_len (γ := γ') (K := c) hlt HML.out
          have hls := lsz_le d m b
          have hcode := HH.out.code b hlt
          obtain ⟨Ar, mr, hvs, hrc, hro, hmr⟩ := HMr.out.at_ hlt
          rw [iv_len, hel] at hvs hrc hro hmr
          have hbs := back_snoc (γ := γ') (K := c) hlt HML.out
          obtain ⟨s, hs⟩ : ∃ s, lsz d m b = s := ⟨_, rfl⟩
          have HSZ := hide hs
          rw [hs] at hvs hrc hro hmr hel hcode hbs hls
          obtain ⟨L, hLe⟩ : ∃ L, s + c = L := ⟨_, rfl⟩
          have HLE := hide hLe
          rw [hLe] at hvs hrc hro hmr hel hcode
          have hdd := Nat.div_le_self d m
          have hs15 : s ≤ 1501 := by omega
          have hL16 : L ≤ 1600 := by omega
          obtain ⟨rb, cr, hAr, hrb1, hrb2, _⟩ := hro.some_ (by rw [iv_len, hel]; omega)
          rw [iv_len, hel] at hAr
          simp only [Value.slice.injEq] at hAr
          obtain ⟨rfl, hAl, rfl⟩ := hAr
          have HBS := hide hbs
          have HEL := hide hel
          have HRO := hide hro
          have HVI := hide (isw_valI hcode (encB γ' d m c ds b) (by rw [iv_len, hel]; omega) hel)
          rw [encB_cw γ' ds b] at HVI
          have hgwr : gw < wr.heap.size := Nat.lt_of_lt_of_le hgw2 HBL.out.size
          have hgcr : gc < wr.heap.size := Nat.lt_of_lt_of_le hgc2 HBL.out.size
          obtain ⟨f0, f1, f2, f3, f4⟩ := codN_at p k γ d c m b
          have z0 := HOCr.out.cell (i := b * 5) (by omega)
          have z1 := HOCr.out.cell (i := b * 5 + 1) (by omega)
          have z2 := HOCr.out.cell (i := b * 5 + 2) (by omega)
          have z3 := HOCr.out.cell (i := b * 5 + 3) (by omega)
          have z4 := HOCr.out.cell (i := b * 5 + 4) (by omega)
          rw [f0] at z0
          rw [f1] at z1
          rw [f2] at z2
          rw [f3, hs, hLe] at z3
          rw [f4] at z4
          have eLK : decide ((L : Int) < (c : Int)) = false := by rw [decide_eq_false_iff_not]; omega
          have eLK2 : ¬ (L < c) := by omega
          have eLK3 : decide (L < c) = false := by rw [decide_eq_false_iff_not]; omega
          obtain ⟨b0, b1, b2, b3, b4, b5⟩ := HXr.out.cells
          have hkc := b4
          have hxl := HXr.out.lt
          clear f0 f1 f2 f3 f4 hs hLe hbs hel hro hcode hAl
          go_wp2_with fail
          refine tail_begin (fun w' => w'.cell? ⟨gw, b, none⟩ = some (.slice (some ⟨rb, 0, none⟩) L mr) ∧ w'.cell? ⟨w1.heap.size, 4, none⟩ = some (.int .i64 c) ∧ w'.cell? ⟨gc, b * 5, none⟩ = some (.int .i64 p) ∧ w'.cell? ⟨gc, b * 5 + 1, none⟩ = some (.int .i64 k) ∧ w'.cell? ⟨gc, b * 5 + 2, none⟩ = some (.int .i64 γ) ∧ w'.cell? ⟨gc, b * 5 + 3, none⟩ = some (.int .i64 L) ∧ w'.cell? ⟨gc, b * 5 + 4, none⟩ = some (.int .i64 c)) 20 (by kernel_rfl) ⟨hrc, hkc, z0, z1, z2, z3, z4⟩ (fun hS' => ?_)
          clear hrc hkc z0 z1 z2 z3 z4 b0 b1 b2 b3 b4 b5
          refine tail_take2 0 rfl (by kernel_rfl) (by kernel_rfl) (by kernel_rfl) (by decide) (fun _ _ _ h => h) (by rfl) (v := ?_) ?_ (by assumption) ?_
          rotate_left 1
          · intro w' hS'; obtain ⟨q0, q1, q2, q3, q4, q5, q6⟩ := hS'; go_simp; try with_reducible rfl
          try simp only [Act.put, List.setIfInBounds_toArray, List.set_cons_zero, List.set_cons_succ]
          refine tail_take2 1 rfl (by kernel_rfl) (by kernel_rfl) (by kernel_rfl) (by decide) (fun _ _ _ h => h) (by rfl) (v := ?_) ?_ (by assumption) ?_
          rotate_left 1
          · intro w' hS'; obtain ⟨q0, q1, q2, q3, q4, q5, q6⟩ := hS'; go_simp; try with_reducible rfl
          try simp only [Act.put, List.setIfInBounds_toArray, List.set_cons_zero, List.set_cons_succ]
          refine tail_take2 2 rfl (by kernel_rfl) (by kernel_rfl) (by kernel_rfl) (by decide) (fun _ _ _ h => h) (by rfl) (v := ?_) ?_ (by assumption) ?_
          rotate_left 1
          · intro w' hS'; obtain ⟨q0, q1, q2, q3, q4, q5, q6⟩ := hS'; go_simp; try with_reducible rfl
          try simp only [Act.put, List.setIfInBounds_toArray, List.set_cons_zero, List.set_cons_succ]
          refine tail_take2 3 rfl (by kernel_rfl) (by kernel_rfl) (by kernel_rfl) (by decide) (fun _ _ _ h => h) (by rfl) (v := ?_) ?_ (by assumption) ?_
          rotate_left 1
          · intro w' hS'; obtain ⟨q0, q1, q2, q3, q4, q5, q6⟩ := hS'; go_simp; try with_reducible rfl
          try simp only [Act.put, List.setIfInBounds_toArray, List.set_cons_zero, List.set_cons_succ]
          refine tail_take2 4 rfl (by kernel_rfl) (by kernel_rfl) (by kernel_rfl) (by decide) (fun _ _ _ h => h) (by rfl) (v := ?_) ?_ (by assumption) ?_
          rotate_left 1
          · intro w' hS'; obtain ⟨q0, q1, q2, q3, q4, q5, q6⟩ := hS'; go_simp; try with_reducible rfl
          try simp only [Act.put, List.setIfInBounds_toArray, List.set_cons_zero, List.set_cons_succ]
          refine tail_take2 5 rfl (by kernel_rfl) (by kernel_rfl) (by kernel_rfl) (by decide) (fun _ _ _ h => h) (by rfl) (v := ?_) ?_ (by assumption) ?_
          rotate_left 1
          · intro w' hS'; obtain ⟨q0, q1, q2, q3, q4, q5, q6⟩ := hS'; go_simp; try with_reducible rfl
          try simp only [Act.put, List.setIfInBounds_toArray, List.set_cons_zero, List.set_cons_succ]
          refine tail_take2 6 rfl (by kernel_rfl) (by kernel_rfl) (by kernel_rfl) (by decide) (fun _ _ _ h => h) (by rfl) (v := ?_) ?_ (by assumption) ?_
          rotate_left 1
          · intro w' hS'; obtain ⟨q0, q1, q2, q3, q4, q5, q6⟩ := hS'; go_simp; try with_reducible rfl
          try simp only [Act.put, List.setIfInBounds_toArray, List.set_cons_zero, List.set_cons_succ]
          refine tail_take2 7 rfl (by kernel_rfl) (by kernel_rfl) (by kernel_rfl) (by decide) (fun _ _ _ h => h) (by rfl) (v := ?_) ?_ (by assumption) ?_
          rotate_left 1
          · intro w' hS'; obtain ⟨q0, q1, q2, q3, q4, q5, q6⟩ := hS'; go_simp; try with_reducible rfl
          try simp only [Act.put, List.setIfInBounds_toArray, List.set_cons_zero, List.set_cons_succ]
          refine tail_take2 8 rfl (by kernel_rfl) (by kernel_rfl) (by kernel_rfl) (by decide) (fun _ _ _ h => h) (by rfl) (v := ?_) ?_ (by assumption) ?_
          rotate_left 1
          · intro w' hS'; obtain ⟨q0, q1, q2, q3, q4, q5, q6⟩ := hS'; go_simp; try with_reducible rfl
          try simp only [Act.put, List.setIfInBounds_toArray, List.set_cons_zero, List.set_cons_succ]
          refine tail_take2 9 rfl (by kernel_rfl) (by kernel_rfl) (by kernel_rfl) (by decide) (fun _ _ _ h => h) (by rfl) (v := ?_) ?_ (by assumption) ?_
          rotate_left 1
          · intro w' hS'; obtain ⟨q0, q1, q2, q3, q4, q5, q6⟩ := hS'; go_simp; try with_reducible rfl
          try simp only [Act.put, List.setIfInBounds_toArray, List.set_cons_zero, List.set_cons_succ]
          refine tail_take2 10 rfl (by kernel_rfl) (by kernel_rfl) (by kernel_rfl) (by decide) (fun _ _ _ h => h) (by rfl) (v := ?_) ?_ (by assumption) ?_
          rotate_left 1
          · intro w' hS'; obtain ⟨q0, q1, q2, q3, q4, q5, q6⟩ := hS'; go_simp; try with_reducible rfl
          try simp only [Act.put, List.setIfInBounds_toArray, List.set_cons_zero, List.set_cons_succ]
          refine tail_take2 11 rfl (by kernel_rfl) (by kernel_rfl) (by kernel_rfl) (by decide) (fun _ _ _ h => h) (by rfl) (v := ?_) ?_ (by assumption) ?_
          rotate_left 1
          · intro w' hS'; obtain ⟨q0, q1, q2, q3, q4, q5, q6⟩ := hS'; go_simp; try with_reducible rfl
          try simp only [Act.put, List.setIfInBounds_toArray, List.set_cons_zero, List.set_cons_succ]
          refine tail_take2 12 rfl (by kernel_rfl) (by kernel_rfl) (by kernel_rfl) (by decide) (fun _ _ _ h => h) (by rfl) (v := ?_) ?_ (by assumption) ?_
          rotate_left 1
          · intro w' hS'; obtain ⟨q0, q1, q2, q3, q4, q5, q6⟩ := hS'; go_simp; try with_reducible rfl
          try simp only [Act.put, List.setIfInBounds_toArray, List.set_cons_zero, List.set_cons_succ]
          refine tail_take2 13 rfl (by kernel_rfl) (by kernel_rfl) (by kernel_rfl) (by decide) (fun _ _ _ h => h) (by rfl) (v := ?_) ?_ (by assumption) ?_
          rotate_left 1
          · intro w' hS'; obtain ⟨q0, q1, q2, q3, q4, q5, q6⟩ := hS'; go_simp; try with_reducible rfl
          try simp only [Act.put, List.setIfInBounds_toArray, List.set_cons_zero, List.set_cons_succ]
          refine tail_take2 14 rfl (by kernel_rfl) (by kernel_rfl) (by kernel_rfl) (by decide) (fun _ _ _ h => h) (by rfl) (v := ?_) ?_ (by assumption) ?_
          rotate_left 1
          · intro w' hS'; obtain ⟨q0, q1, q2, q3, q4, q5, q6⟩ := hS'; go_simp; try with_reducible rfl
          try simp only [Act.put, List.setIfInBounds_toArray, List.set_cons_zero, List.set_cons_succ]
          refine tail_take2 15 rfl (by kernel_rfl) (by kernel_rfl) (by kernel_rfl) (by decide) (fun _ _ _ h => h) (by rfl) (v := ?_) ?_ (by assumption) ?_
          rotate_left 1
          · intro w' hS'; obtain ⟨q0, q1, q2, q3, q4, q5, q6⟩ := hS'; go_simp; try with_reducible rfl
          try simp only [Act.put, List.setIfInBounds_toArray, List.set_cons_zero, List.set_cons_succ]
          refine tail_take2 16 rfl (by kernel_rfl) (by kernel_rfl) (by kernel_rfl) (by decide) (fun _ _ _ h => h) (by rfl) (v := ?_) ?_ (by assumption) ?_
          rotate_left 1
          · intro w' hS'; obtain ⟨q0, q1, q2, q3, q4, q5, q6⟩ := hS'; go_simp; try with_reducible rfl
          try simp only [Act.put, List.setIfInBounds_toArray, List.set_cons_zero, List.set_cons_succ]
          refine tail_callG 17 rfl (by kernel_rfl) (by rfl) (fun K' hK => ?_)
          go_simp
          obtain ⟨q0, q1, q2, q3, q4, q5, q6⟩ := hS'; go_at_call 20; refine (HVI.out (some ⟨rb, 0, none⟩) L mr _ _ (by have := Own.ints HRO.out; rw [iv_len, HEL.out] at this; exact this.drew) (by first | exact hmr | (rw [iv_len, HEL.out]; exact hmr)) (Nat.le_refl _)).mono ?_; rintro e w9 ⟨rfl, hb9⟩; have HB9 := hide (show Below wr.heap.size wr w9 from ⟨hb9.os, hb9.tape, hb9.output, hb9.size, hb9.block⟩); clear hb9
          refine hK.out _ _ (by (try dsimp only); exact ⟨(HB9.out.cell (p := ⟨gw, b, none⟩) hgwr).trans q0, (HB9.out.cell (p := ⟨w1.heap.size, 4, none⟩) hxl).trans q1, (HB9.out.cell (p := ⟨gc, b * 5, none⟩) hgcr).trans q2, (HB9.out.cell (p := ⟨gc, b * 5 + 1, none⟩) hgcr).trans q3, (HB9.out.cell (p := ⟨gc, b * 5 + 2, none⟩) hgcr).trans q4, (HB9.out.cell (p := ⟨gc, b * 5 + 3, none⟩) hgcr).trans q5, (HB9.out.cell (p := ⟨gc, b * 5 + 4, none⟩) hgcr).trans q6⟩) (fun hS' => ?_)
          clear hK K'
          try simp only [Act.put, List.setIfInBounds_toArray, List.set_cons_zero, List.set_cons_succ]
          refine tail_take2 18 rfl (by kernel_rfl) (by kernel_rfl) (by kernel_rfl) (by decide) (fun _ _ _ h => h) (by rfl) (v := ?_) ?_ (by assumption) ?_
          rotate_left 1
          · intro w' hS'; obtain ⟨q0, q1, q2, q3, q4, q5, q6⟩ := hS'; go_simp; try with_reducible rfl
          try simp only [Act.put, List.setIfInBounds_toArray, List.set_cons_zero, List.set_cons_succ]
          refine tail_take2 19 rfl (by kernel_rfl) (by kernel_rfl) (by kernel_rfl) (by decide) (fun _ _ _ h => h) (by rfl) (v := ?_) ?_ (by assumption) ?_
          rotate_left 1
          · intro w' hS'; obtain ⟨q0, q1, q2, q3, q4, q5, q6⟩ := hS'; go_simp; try with_reducible rfl
          try simp only [Act.put, List.setIfInBounds_toArray, List.set_cons_zero, List.set_cons_succ]
          refine tail_end (by kernel_rfl) ?_
          have HBL9 := hide (HBL.out.trans (HB9.out.mono HBL.out.size))
          have HO9 := hide (HO.out.below HB9.out (Nat.le_refl _))
          have HRO9 := hide (HRO.out.below HB9.out (Nat.le_refl _))
          obtain ⟨q0, q1, -, -, -, -, -⟩ := hS'
          have HQ0 := hide q0
          have HQ1 := hide q1
          have hgw9 : gw < w9.heap.size := Nat.lt_of_lt_of_le hgwr HB9.out.size
          have hrb9 : rb < w9.heap.size := Nat.lt_of_lt_of_le hrb2 HB9.out.size
          have hx9 : w1.heap.size < w9.heap.size := Nat.lt_of_lt_of_le hxl HB9.out.size
          clear q0 q1 HO HRO HVI HMr HOCr HXr
          go_wp2_with fail
          go_loopw [15] (fun i wr => FiRel w9 L i wr) (fun i _ => L - (intOf i).toNat)
          case atStart => exact ⟨0, Nat.zero_le _, rfl, Below.refl _ _⟩
          case round =>
            obtain ⟨e, he, rfl, hbl⟩ := hrel
            have HBI := hide hbl
            clear hbl
            have q0 := (HBI.out.cell (p := ⟨gw, b, none⟩) hgw9).trans HQ0.out
            have q1 := (HBI.out.cell (p := ⟨w1.heap.size, 4, none⟩) hx9).trans HQ1.out
            have HBL2 := hide (HBL9.out.trans (HBI.out.mono HBL9.out.size))
            have HX2 := hide (HX8.out.next HBL2.out)
            obtain ⟨b0, b1, b2, b3, b4, b5⟩ := HX2.out.cells
            by_cases hel : e < L
            · have heL : e < lsz d m b + c := by rw [HSZ.out, HLE.out]; exact hel
              have HSI := hide (fun w' => implSI_at HH.out hlt heL w')
              have hidx := (sidx_lt (D := d) (K := c) hlt).2 heL
              have hsat := str_at (γ := γ') (ds := ds) hlt heL
              have hq := HRO9.out.cellAt (iv_at (ps := encB γ' d m c ds b) (i := e) (by rw [HEL.out]; exact hel))
              have hq2 := (HBI.out.cell (p := ⟨rb, e, none⟩) hrb9).trans hq
              obtain ⟨x, hx⟩ : ∃ x, sidx d m b e = x := ⟨_, rfl⟩
              rw [hx] at HSI hidx hsat
              have hsx := (HBL2.out.cell (p := ⟨sb, so + x, none⟩) hsb).trans (HSC.out x _ hsat)
              obtain ⟨y, hy⟩ : ∃ y : Int, ((cf (encB γ' d m c ds b) e).val : Int) = y := ⟨_, rfl⟩
              rw [hy] at hq2 hsx
              have HQ2 := hide hq2
              have HSX := hide hsx
              have hN15 : x < 1500 := by omega
              obtain ⟨N, hN⟩ : ∃ N, d + m * c = N := ⟨_, rfl⟩
              rw [hN] at hidx ⊢
              clear hq hq2 hsx hsat hx hy heL
              go_wp2_with fail
              refine (HSI.out _).mono ?_
              rintro e' w10 ⟨rfl, hb10⟩
              have HBI2 := hide (HBI.out.trans (hb10.mono HBI.out.size))
              have hl10 := HBI.out.size
              have p0 := (HBI2.out.cell (p := ⟨gw, b, none⟩) hgw9).trans HQ0.out
              have p1 := (hb10.cell (p := ⟨rb, e, none⟩) (by show rb < _; omega)).trans HQ2.out
              have p2 := (hb10.cell (p := ⟨sb, so + x, none⟩) (by have := HBL2.out.size; show sb < _; omega)).trans HSX.out
              have ez1 : decide ((x : Int) < 0) = false := by rw [decide_eq_false_iff_not]; omega
              have ez2 : decide ((N : Int) ≤ (x : Int)) = false := by rw [decide_eq_false_iff_not]; omega
              have ez3 : (y != y) = false := by simp
              have ez4 : ¬ (N ≤ x) := by omega
              have ez5 : decide (N ≤ x) = false := by rw [decide_eq_false_iff_not]; omega
              clear hb10 q0 q1 b0 b1 b2 b3 b4 b5
              go_wp2_with fail
              refine tail_begin (fun w' => w'.cell? ⟨gw, b, none⟩ = some (.slice (some ⟨rb, 0, none⟩) L mr) ∧ w'.cell? ⟨rb, e, none⟩ = some (.int .i64 y) ∧ w'.cell? ⟨sb, so + x, none⟩ = some (.int .i64 y)) 26 (by kernel_rfl) ⟨p0, p1, p2⟩ (fun hS' => ?_)
              clear p0 p1 p2
              refine tail_take2 0 rfl (by kernel_rfl) (by kernel_rfl) (by kernel_rfl) (by decide) (fun _ _ _ h => h) (by rfl) (v := ?_) ?_ (by assumption) ?_
              rotate_left 1
              · intro w' hS'; obtain ⟨q0, q1, q2⟩ := hS'; go_simp; try with_reducible rfl
              try simp only [Act.put, List.setIfInBounds_toArray, List.set_cons_zero, List.set_cons_succ]
              refine tail_take2 1 rfl (by kernel_rfl) (by kernel_rfl) (by kernel_rfl) (by decide) (fun _ _ _ h => h) (by rfl) (v := ?_) ?_ (by assumption) ?_
              rotate_left 1
              · intro w' hS'; obtain ⟨q0, q1, q2⟩ := hS'; go_simp; try with_reducible rfl
              try simp only [Act.put, List.setIfInBounds_toArray, List.set_cons_zero, List.set_cons_succ]
              refine tail_take2 2 rfl (by kernel_rfl) (by kernel_rfl) (by kernel_rfl) (by decide) (fun _ _ _ h => h) (by rfl) (v := ?_) ?_ (by assumption) ?_
              rotate_left 1
              · intro w' hS'; obtain ⟨q0, q1, q2⟩ := hS'; go_simp; try with_reducible rfl
              try simp only [Act.put, List.setIfInBounds_toArray, List.set_cons_zero, List.set_cons_succ]
              refine tail_take2 3 rfl (by kernel_rfl) (by kernel_rfl) (by kernel_rfl) (by decide) (fun _ _ _ h => h) (by rfl) (v := ?_) ?_ (by assumption) ?_
              rotate_left 1
              · intro w' hS'; obtain ⟨q0, q1, q2⟩ := hS'; go_simp; try with_reducible rfl
              try simp only [Act.put, List.setIfInBounds_toArray, List.set_cons_zero, List.set_cons_succ]
              refine tail_take2 4 rfl (by kernel_rfl) (by kernel_rfl) (by kernel_rfl) (by decide) (fun _ _ _ h => h) (by rfl) (v := ?_) ?_ (by assumption) ?_
              rotate_left 1
              · intro w' hS'; obtain ⟨q0, q1, q2⟩ := hS'; go_simp; try with_reducible rfl
              try simp only [Act.put, List.setIfInBounds_toArray, List.set_cons_zero, List.set_cons_succ]
              refine tail_take2 5 rfl (by kernel_rfl) (by kernel_rfl) (by kernel_rfl) (by decide) (fun _ _ _ h => h) (by rfl) (v := ?_) ?_ (by assumption) ?_
              rotate_left 1
              · intro w' hS'; obtain ⟨q0, q1, q2⟩ := hS'; go_simp; try with_reducible rfl
              try simp only [Act.put, List.setIfInBounds_toArray, List.set_cons_zero, List.set_cons_succ]
              refine tail_take2 6 rfl (by kernel_rfl) (by kernel_rfl) (by kernel_rfl) (by decide) (fun _ _ _ h => h) (by rfl) (v := ?_) ?_ (by assumption) ?_
              rotate_left 1
              · intro w' hS'; obtain ⟨q0, q1, q2⟩ := hS'; go_simp; try with_reducible rfl
              try simp only [Act.put, List.setIfInBounds_toArray, List.set_cons_zero, List.set_cons_succ]
              refine tail_take2 7 rfl (by kernel_rfl) (by kernel_rfl) (by kernel_rfl) (by decide) (fun _ _ _ h => h) (by rfl) (v := ?_) ?_ (by assumption) ?_
              rotate_left 1
              · intro w' hS'; obtain ⟨q0, q1, q2⟩ := hS'; go_simp; try with_reducible rfl
              try simp only [Act.put, List.setIfInBounds_toArray, List.set_cons_zero, List.set_cons_succ]
              refine tail_take2 8 rfl (by kernel_rfl) (by kernel_rfl) (by kernel_rfl) (by decide) (fun _ _ _ h => h) (by rfl) (v := ?_) ?_ (by assumption) ?_
              rotate_left 1
              · intro w' hS'; obtain ⟨q0, q1, q2⟩ := hS'; go_simp; try with_reducible rfl
              try simp only [Act.put, List.setIfInBounds_toArray, List.set_cons_zero, List.set_cons_succ]
              refine tail_take2 9 rfl (by kernel_rfl) (by kernel_rfl) (by kernel_rfl) (by decide) (fun _ _ _ h => h) (by rfl) (v := ?_) ?_ (by assumption) ?_
              rotate_left 1
              · intro w' hS'; obtain ⟨q0, q1, q2⟩ := hS'; go_simp; try with_reducible rfl
              try simp only [Act.put, List.setIfInBounds_toArray, List.set_cons_zero, List.set_cons_succ]
              refine tail_take2 10 rfl (by kernel_rfl) (by kernel_rfl) (by kernel_rfl) (by decide) (fun _ _ _ h => h) (by rfl) (v := ?_) ?_ (by assumption) ?_
              rotate_left 1
              · intro w' hS'; obtain ⟨q0, q1, q2⟩ := hS'; go_simp; try with_reducible rfl
              try simp only [Act.put, List.setIfInBounds_toArray, List.set_cons_zero, List.set_cons_succ]
              refine tail_take2 11 rfl (by kernel_rfl) (by kernel_rfl) (by kernel_rfl) (by decide) (fun _ _ _ h => h) (by rfl) (v := ?_) ?_ (by assumption) ?_
              rotate_left 1
              · intro w' hS'; obtain ⟨q0, q1, q2⟩ := hS'; go_simp; try with_reducible rfl
              try simp only [Act.put, List.setIfInBounds_toArray, List.set_cons_zero, List.set_cons_succ]
              refine tail_take2 12 rfl (by kernel_rfl) (by kernel_rfl) (by kernel_rfl) (by decide) (fun _ _ _ h => h) (by rfl) (v := ?_) ?_ (by assumption) ?_
              rotate_left 1
              · intro w' hS'; obtain ⟨q0, q1, q2⟩ := hS'; go_simp; try with_reducible rfl
              try simp only [Act.put, List.setIfInBounds_toArray, List.set_cons_zero, List.set_cons_succ]
              refine tail_take2 13 rfl (by kernel_rfl) (by kernel_rfl) (by kernel_rfl) (by decide) (fun _ _ _ h => h) (by rfl) (v := ?_) ?_ (by assumption) ?_
              rotate_left 1
              · intro w' hS'; obtain ⟨q0, q1, q2⟩ := hS'; go_simp; try with_reducible rfl
              try simp only [Act.put, List.setIfInBounds_toArray, List.set_cons_zero, List.set_cons_succ]
              refine tail_take2 14 rfl (by kernel_rfl) (by kernel_rfl) (by kernel_rfl) (by decide) (fun _ _ _ h => h) (by rfl) (v := ?_) ?_ (by assumption) ?_
              rotate_left 1
              · intro w' hS'; obtain ⟨q0, q1, q2⟩ := hS'; go_simp; try with_reducible rfl
              try simp only [Act.put, List.setIfInBounds_toArray, List.set_cons_zero, List.set_cons_succ]
              refine tail_take2 15 rfl (by kernel_rfl) (by kernel_rfl) (by kernel_rfl) (by decide) (fun _ _ _ h => h) (by rfl) (v := ?_) ?_ (by assumption) ?_
              rotate_left 1
              · intro w' hS'; obtain ⟨q0, q1, q2⟩ := hS'; go_simp; try with_reducible rfl
              try simp only [Act.put, List.setIfInBounds_toArray, List.set_cons_zero, List.set_cons_succ]
              refine tail_take2 16 rfl (by kernel_rfl) (by kernel_rfl) (by kernel_rfl) (by decide) (fun _ _ _ h => h) (by rfl) (v := ?_) ?_ (by assumption) ?_
              rotate_left 1
              · intro w' hS'; obtain ⟨q0, q1, q2⟩ := hS'; go_simp; try with_reducible rfl
              try simp only [Act.put, List.setIfInBounds_toArray, List.set_cons_zero, List.set_cons_succ]
              refine tail_take2 17 rfl (by kernel_rfl) (by kernel_rfl) (by kernel_rfl) (by decide) (fun _ _ _ h => h) (by rfl) (v := ?_) ?_ (by assumption) ?_
              rotate_left 1
              · intro w' hS'; obtain ⟨q0, q1, q2⟩ := hS'; go_simp; try with_reducible rfl
              try simp only [Act.put, List.setIfInBounds_toArray, List.set_cons_zero, List.set_cons_succ]
              refine tail_take2 18 rfl (by kernel_rfl) (by kernel_rfl) (by kernel_rfl) (by decide) (fun _ _ _ h => h) (by rfl) (v := ?_) ?_ (by assumption) ?_
              rotate_left 1
              · intro w' hS'; obtain ⟨q0, q1, q2⟩ := hS'; go_simp; try with_reducible rfl
              try simp only [Act.put, List.setIfInBounds_toArray, List.set_cons_zero, List.set_cons_succ]
              refine tail_take2 19 rfl (by kernel_rfl) (by kernel_rfl) (by kernel_rfl) (by decide) (fun _ _ _ h => h) (by rfl) (v := ?_) ?_ (by assumption) ?_
              rotate_left 1
              · intro w' hS'; obtain ⟨q0, q1, q2⟩ := hS'; go_simp; try with_reducible rfl
              try simp only [Act.put, List.setIfInBounds_toArray, List.set_cons_zero, List.set_cons_succ]
              refine tail_take2 20 rfl (by kernel_rfl) (by kernel_rfl) (by kernel_rfl) (by decide) (fun _ _ _ h => h) (by rfl) (v := ?_) ?_ (by assumption) ?_
              rotate_left 1
              · intro w' hS'; obtain ⟨q0, q1, q2⟩ := hS'; go_simp; try with_reducible rfl
              try simp only [Act.put, List.setIfInBounds_toArray, List.set_cons_zero, List.set_cons_succ]
              refine tail_take2 21 rfl (by kernel_rfl) (by kernel_rfl) (by kernel_rfl) (by decide) (fun _ _ _ h => h) (by rfl) (v := ?_) ?_ (by assumption) ?_
              rotate_left 1
              · intro w' hS'; obtain ⟨q0, q1, q2⟩ := hS'; go_simp; try with_reducible rfl
              try simp only [Act.put, List.setIfInBounds_toArray, List.set_cons_zero, List.set_cons_succ]
              refine tail_take2 22 rfl (by kernel_rfl) (by kernel_rfl) (by kernel_rfl) (by decide) (fun _ _ _ h => h) (by rfl) (v := ?_) ?_ (by assumption) ?_
              rotate_left 1
              · intro w' hS'; obtain ⟨q0, q1, q2⟩ := hS'; go_simp; try with_reducible rfl
              try simp only [Act.put, List.setIfInBounds_toArray, List.set_cons_zero, List.set_cons_succ]
              refine tail_take2 23 rfl (by kernel_rfl) (by kernel_rfl) (by kernel_rfl) (by decide) (fun _ _ _ h => h) (by rfl) (v := ?_) ?_ (by assumption) ?_
              rotate_left 1
              · intro w' hS'; obtain ⟨q0, q1, q2⟩ := hS'; go_simp; try with_reducible rfl
              try simp only [Act.put, List.setIfInBounds_toArray, List.set_cons_zero, List.set_cons_succ]
              refine tail_take2 24 rfl (by kernel_rfl) (by kernel_rfl) (by kernel_rfl) (by decide) (fun _ _ _ h => h) (by rfl) (v := ?_) ?_ (by assumption) ?_
              rotate_left 1
              · intro w' hS'; obtain ⟨q0, q1, q2⟩ := hS'; go_simp; try with_reducible rfl
              try simp only [Act.put, List.setIfInBounds_toArray, List.set_cons_zero, List.set_cons_succ]
              refine tail_take2 25 rfl (by kernel_rfl) (by kernel_rfl) (by kernel_rfl) (by decide) (fun _ _ _ h => h) (by rfl) (v := ?_) ?_ (by assumption) ?_
              rotate_left 1
              · intro w' hS'; obtain ⟨q0, q1, q2⟩ := hS'; go_simp; try with_reducible rfl
              try simp only [Act.put, List.setIfInBounds_toArray, List.set_cons_zero, List.set_cons_succ]
              refine tail_end (by kernel_rfl) ?_
              go_wp2_with fail
              go_roundw
              case rel => exact ⟨e + 1, by omega, by go_num, HBI2.out.os, HBI2.out.tape, HBI2.out.output, HBI2.out.size, HBI2.out.block⟩
              case measure => simp [intOf]; omega
            · obtain rfl : e = L := by omega
              have hw5 : IntKind.i64.wrap ((e : Int) - (c : Int)) = (s : Int) := by have := HLE.out; rw [IntWalk.i64_in _ ⟨by omega, by omega⟩]; omega
              have hcut := run_cut_h (some ⟨rb, 0, none⟩) e mr s (by have := HLE.out; omega)
              have HO2 := hide (HO9.out.below HBI.out (Nat.le_refl _))
              have HR2 := hide (HRO9.out.below HBI.out (Nat.le_refl _))
              have HNEW := hide (show Ints .i64 wr wr.heap.size (some ⟨rb, 0, none⟩) s ((iv (encB γ' d m c ds b)).take s) from by
                have := Own.ints HR2.out
                rw [iv_len, HEL.out] at this
                exact this.headI (by have := HLE.out; omega))
              have htl : (iv (ds.take (offB d m b))).length ≤ 3000 := by have := HML.out; rw [iv_len, List.length_take]; omega
              clear b0 b1 b2 b3 b4 b5
              go_wp2_with fail
              refine tail_begin (fun w' => w'.cell? ⟨gw, b, none⟩ = some (.slice (some ⟨rb, 0, none⟩) e mr) ∧ w'.cell? ⟨w1.heap.size, 4, none⟩ = some (.int .i64 c)) 16 (by kernel_rfl) ⟨q0, q1⟩ (fun hS' => ?_)
              clear q0 q1
              refine tail_take2 0 rfl (by kernel_rfl) (by kernel_rfl) (by kernel_rfl) (by decide) (fun _ _ _ h => h) (by rfl) (v := ?_) ?_ (by assumption) ?_
              rotate_left 1
              · intro w' hS'; obtain ⟨q0, q1⟩ := hS'; go_simp; try with_reducible rfl
              try simp only [Act.put, List.setIfInBounds_toArray, List.set_cons_zero, List.set_cons_succ]
              refine tail_take2 1 rfl (by kernel_rfl) (by kernel_rfl) (by kernel_rfl) (by decide) (fun _ _ _ h => h) (by rfl) (v := ?_) ?_ (by assumption) ?_
              rotate_left 1
              · intro w' hS'; obtain ⟨q0, q1⟩ := hS'; go_simp; try with_reducible rfl
              try simp only [Act.put, List.setIfInBounds_toArray, List.set_cons_zero, List.set_cons_succ]
              refine tail_take2 2 rfl (by kernel_rfl) (by kernel_rfl) (by kernel_rfl) (by decide) (fun _ _ _ h => h) (by rfl) (v := ?_) ?_ (by assumption) ?_
              rotate_left 1
              · intro w' hS'; obtain ⟨q0, q1⟩ := hS'; go_simp; try with_reducible rfl
              try simp only [Act.put, List.setIfInBounds_toArray, List.set_cons_zero, List.set_cons_succ]
              refine tail_take2 3 rfl (by kernel_rfl) (by kernel_rfl) (by kernel_rfl) (by decide) (fun _ _ _ h => h) (by rfl) (v := ?_) ?_ (by assumption) ?_
              rotate_left 1
              · intro w' hS'; obtain ⟨q0, q1⟩ := hS'; go_simp; try with_reducible rfl
              try simp only [Act.put, List.setIfInBounds_toArray, List.set_cons_zero, List.set_cons_succ]
              refine tail_take2 4 rfl (by kernel_rfl) (by kernel_rfl) (by kernel_rfl) (by decide) (fun _ _ _ h => h) (by rfl) (v := ?_) ?_ (by assumption) ?_
              rotate_left 1
              · intro w' hS'; obtain ⟨q0, q1⟩ := hS'; go_simp; try with_reducible rfl
              try simp only [Act.put, List.setIfInBounds_toArray, List.set_cons_zero, List.set_cons_succ]
              refine tail_take2 5 rfl (by kernel_rfl) (by kernel_rfl) (by kernel_rfl) (by decide) (fun _ _ _ h => h) (by rfl) (v := ?_) ?_ (by assumption) ?_
              rotate_left 1
              · intro w' hS'; obtain ⟨q0, q1⟩ := hS'; go_simp; try with_reducible rfl
              try simp only [Act.put, List.setIfInBounds_toArray, List.set_cons_zero, List.set_cons_succ]
              refine tail_take2 6 rfl (by kernel_rfl) (by kernel_rfl) (by kernel_rfl) (by decide) (fun _ _ _ h => h) (by rfl) (v := ?_) ?_ (by assumption) ?_
              rotate_left 1
              · intro w' hS'; obtain ⟨q0, q1⟩ := hS'; go_simp; try with_reducible rfl
              try simp only [Act.put, List.setIfInBounds_toArray, List.set_cons_zero, List.set_cons_succ]
              refine tail_take2 7 rfl (by kernel_rfl) (by kernel_rfl) (by kernel_rfl) (by decide) (fun _ _ _ h => h) (by rfl) (v := ?_) ?_ (by assumption) ?_
              rotate_left 1
              · intro w' hS'; obtain ⟨q0, q1⟩ := hS'; go_simp; try with_reducible rfl
              try simp only [Act.put, List.setIfInBounds_toArray, List.set_cons_zero, List.set_cons_succ]
              refine tail_take2 8 rfl (by kernel_rfl) (by kernel_rfl) (by kernel_rfl) (by decide) (fun _ _ _ h => h) (by rfl) (v := ?_) ?_ (by assumption) ?_
              rotate_left 1
              · intro w' hS'; obtain ⟨q0, q1⟩ := hS'; go_simp; try with_reducible rfl
              try simp only [Act.put, List.setIfInBounds_toArray, List.set_cons_zero, List.set_cons_succ]
              refine tail_take2 9 rfl (by kernel_rfl) (by kernel_rfl) (by kernel_rfl) (by decide) (fun _ _ _ h => h) (by rfl) (v := ?_) ?_ (by assumption) ?_
              rotate_left 1
              · intro w' hS'; obtain ⟨q0, q1⟩ := hS'; go_simp; try with_reducible rfl
              try simp only [Act.put, List.setIfInBounds_toArray, List.set_cons_zero, List.set_cons_succ]
              refine tail_take2 10 rfl (by kernel_rfl) (by kernel_rfl) (by kernel_rfl) (by decide) (fun _ _ _ h => h) (by rfl) (v := ?_) ?_ (by assumption) ?_
              rotate_left 1
              · intro w' hS'; obtain ⟨q0, q1⟩ := hS'; go_simp; try with_reducible rfl
              try simp only [Act.put, List.setIfInBounds_toArray, List.set_cons_zero, List.set_cons_succ]
              refine tail_take2 11 rfl (by kernel_rfl) (by kernel_rfl) (by kernel_rfl) (by decide) (fun _ _ _ h => h) (by rfl) (v := ?_) ?_ (by assumption) ?_
              rotate_left 1
              · intro w' hS'; obtain ⟨q0, q1⟩ := hS'; go_simp; try with_reducible rfl
              try simp only [Act.put, List.setIfInBounds_toArray, List.set_cons_zero, List.set_cons_succ]
              refine tail_take2 12 rfl (by kernel_rfl) (by kernel_rfl) (by kernel_rfl) (by decide) (fun _ _ _ h => h) (by rfl) (v := ?_) ?_ (by assumption) ?_
              rotate_left 1
              · intro w' hS'; obtain ⟨q0, q1⟩ := hS'; go_simp; try with_reducible rfl
              try simp only [Act.put, List.setIfInBounds_toArray, List.set_cons_zero, List.set_cons_succ]
              refine tail_take2 13 rfl (by kernel_rfl) (by kernel_rfl) (by kernel_rfl) (by decide) (fun _ _ _ h => h) (by rfl) (v := ?_) ?_ (by assumption) ?_
              rotate_left 1
              · intro w' hS'; obtain ⟨q0, q1⟩ := hS'; go_simp; try with_reducible rfl
              try simp only [Act.put, List.setIfInBounds_toArray, List.set_cons_zero, List.set_cons_succ]
              refine tail_call 14 rfl (by kernel_rfl) rfl (fun K' hK => ?_)
              obtain ⟨q0, q1⟩ := hS'
              refine wp_appL wr.drew (.tmp 160) (.tmp 173) 28 rfl elem64 w8.heap.size v (iv (ds.take (offB d m b))) rfl HO2.out.drew wr.heap.size (some ⟨rb, 0, none⟩) s mr ((iv (encB γ' d m c ds b)).take s) rfl HNEW.out.drew (by omega) HBL2.out.size ?_
              intro v' w11 ho11 hg11
              rw [HBS.out] at ho11
              have HO11 := hide ho11
              have HG11 := hide (show wr.grownBy w11 v.ownBlock from ⟨hg11.os, hg11.tape, hg11.output, hg11.size, hg11.block⟩)
              have hvb : ∀ r, v.ownBlock = some r → w8.heap.size ≤ r := fun r hr => (HO2.out.lt hr).1
              have k0 := grown_cell HG11.out (p := ⟨gw, b, none⟩) (Nat.lt_of_lt_of_le hgw9 HBI.out.size) (by intro e1; have := hvb _ e1; have h3 : (⟨gw, b, none⟩ : Addr).block = gw := rfl; omega)
              have k1 := grown_cell HG11.out (p := ⟨w1.heap.size, 4, none⟩) (Nat.lt_of_lt_of_le hx9 HBI.out.size) (by intro e1; have := hvb _ e1; have h3 : (⟨w1.heap.size, 4, none⟩ : Addr).block = w1.heap.size := rfl; have := HX8.out.lt; omega)
              have HB11 := hide (HBL2.out.grown HG11.out HBL2.out.size hvb)
              clear ho11 hg11
              refine hK.out _ _ ⟨k0.trans q0, k1.trans q1⟩ (fun hS' => ?_)
              clear hK K' k0 k1 q0 q1
              try simp only [Act.put, List.setIfInBounds_toArray, List.set_cons_zero, List.set_cons_succ]
              refine tail_take2 15 rfl (by kernel_rfl) (by kernel_rfl) (by kernel_rfl) (by decide) (fun _ _ _ h => h) (by rfl) (v := ?_) ?_ (by assumption) ?_
              rotate_left 1
              · intro w' hS'; obtain ⟨q0, q1⟩ := hS'; go_simp; try with_reducible rfl
              try simp only [Act.put, List.setIfInBounds_toArray, List.set_cons_zero, List.set_cons_succ]
              refine tail_end (by kernel_rfl) ?_
              go_wp2_with fail
              go_roundw
              case rel => exact ⟨b + 1, by omega, by go_num, HO11.out, HB11.out⟩
              case measure => simp [intOf]; omega
        · obtain rfl : b = m := by omega
          have hbk := back_all h1 h3 HML.out
          have ho := HO.out
          rw [hbk] at ho
          obtain ⟨Av', cv', hve, hcv'⟩ := ho.form
          subst hve
          have HOb := hide (Own.ints ho)
          rw [hzl] at HOb
          clear ho
          go_wp2_with fail
          refine (likeSame Av' _ cv' _ A1 _ c1 _ (iv ds) _ HOb.out (I1_8.out.below HBL.out) (by rw [hzl]; omega)).mono ?_
          rintro e' w12 ⟨rfl, hb12⟩
          have HXe := hide (HXr.out.next hb12)
          clear hb12
          go_wp2_with fail
          go_ret
          exact ⟨rfl, HB1.out.trans (HXe.out.2.mono HB1.out.size)⟩
end Go.Proofs.Ytkdpkbnhckpnoaa
