/-
  The walk of the law FnCodeDistance: it returns true, and nothing that was there before is changed.
  Condition: none.
-/
import Derived.Test.YtfbkmbjbjgfenaaJE
import Derived.Test.YtfbkmbjbjgfenaaJH
import Derived.Test.YtfbkmbjbjgfenaaCodeDist
import Derived.Test.YtfbkmbjbjgfenaaCDraw6
import Derived.Test.YtfbkmbjbjgfenaaDice2
import Derived.Test.YtfbkmbjbjgfenaaJG
namespace Go.Proofs.Ytfbkmbjbjgfenaa
open Go.RowKit
set_option linter.unusedVariables false
set_option linter.unusedSimpArgs false

set_option maxRecDepth 100000 in
set_option maxHeartbeats 8000000 in
theorem fnCodeDistanceWalk (a0 : Option Addr) (n0 c0 : Nat) (z0 : List Int) (w : World) (h0 : Came .u8 w a0 n0 c0 z0) :
    Calls Try.prog 5 #[.slice a0 n0 c0] w fun e w' => e = .returned (.bool true) ∧ Below w.heap.size w w' := by
  obtain ⟨hI, hnc, hcm, hwf⟩ := h0
  have HI := hide hI
  have HBY := hide (show ∀ b ∈ z0, 0 ≤ b ∧ b ≤ 255 from fun b hb => bd_u8 (hwf b hb))
  clear hI hwf
  unfold maxLen at hcm
  by_cases hbig : 4096 < n0
  · go_enter Try.func5, Try.ntmps5
    go_wp2_with fail
    refine (big_yes a0 n0 c0 w hbig (by omega)).mono ?_
    rintro e w ⟨rfl, rfl⟩
    go_wp2_with fail
    go_ret
    exact ⟨rfl, Below.refl _ _⟩
  have hn0 : n0 ≤ 4096 := by omega
  go_enter Try.func5, Try.ntmps5
  go_wp2_with fail
  refine (big_no a0 n0 c0 w hn0).mono ?_
  rintro e w ⟨rfl, rfl⟩
  go_wp2_with fail
  refine (drawEnc a0 n0 c0 z0 w HI hn0 HBY).mono ?_
  rintro e w1 ⟨p, k, γ, L, C, z1, A1, c1, rfl, hL0, hL1, hC0, hC1, hl1, hn1, hI1, hb⟩
  have HB1 := hide hb
  have HX1 := hide (CBox.start w1 p k γ L C)
  have hCb : -9223372036854775808 ≤ C ∧ C ≤ 9223372036854775807 := by omega
  have I1_1 := hide ((hI1.below HX1.out.2).more HX1.out.2.size)
  have I0_1 := hide (((HI.out.below hb).more hb.size).below HX1.out.2 |>.more HX1.out.2.size)
  clear hI1 hb HI
  obtain ⟨b0, b1, b2, b3, b4⟩ := HX1.out.cells
  obtain ⟨r, cd, hr, hS, hM, hC⟩ := enc_key p k γ L C z1 (by omega) hCb
  have HS := hide hS
  have HM := hide hM
  have HC := hide hC
  clear hS hM hC
  have hcc : (cd == cd) = true := by simp
  go_wp2_with fail
  refine (HS.out A1 _ c1 _ _ I1_1.out hn1 (Nat.le_refl _)).mono ?_
  rintro e w2 ⟨Ag, cg, rfl, hcg, hog, hb⟩
  have HX2 := hide (HX1.out.next hb)
  have I1_2 := hide ((I1_1.out.below hb).more hb.size)
  have I0_2 := hide ((I0_1.out.below hb).more hb.size)
  clear I1_1
  clear I0_1
  have Ig_2 := hide (hog.ints)
  clear hog
  clear hb b0 b1 b2 b3 b4
  obtain ⟨b0, b1, b2, b3, b4⟩ := HX2.out.cells
  rcases HC.out with hcd | ⟨hcd, R, γ', l, c, ms, hLe, hCe, hc, hze, hml, hre⟩
  · have e1 : (cd != 0) = true := by simpa using hcd
    clear hcd
    go_wp2_with fail
    refine (HM.out A1 _ c1 _ _ I1_2.out hn1 (Nat.le_refl _)).mono ?_
    rintro e w3 ⟨Ah, ch, rfl, hch, hoh, hb⟩
    have HX3 := hide (HX2.out.next hb)
    have I1_3 := hide ((I1_2.out.below hb).more hb.size)
    have I0_3 := hide ((I0_2.out.below hb).more hb.size)
    have Ig_3 := hide ((Ig_2.out.below hb).more hb.size)
    clear I1_2
    clear I0_2
    clear Ig_2
    clear hb b0 b1 b2 b3 b4
    obtain ⟨b0, b1, b2, b3, b4⟩ := HX3.out.cells
    go_wp2_with fail
    go_ret
    exact ⟨rfl, HB1.out.trans (HX3.out.2.mono HB1.out.size)⟩
  · subst hcd hLe hCe hze hre
    have hcl := hc.cl
    have hl255 := hc.l255
    have hc64 := hc.c64
    have hzl : (iv ms).length = l - c := by rw [iv_len]; exact hml
    obtain ⟨m, hm⟩ : ∃ m, m = l - c := ⟨_, rfl⟩
    have hm1 : 1 ≤ m := by omega
    have hm2 : m ≤ 255 := by omega
    rw [← hm] at hzl hml
    rw [hzl] at I1_2 ⊢
    have HMM := hide hm
    have hIl := hide (show (iv ms).length = m from hzl)
    clear hcc HS HM HC hm hzl hn1 hl1
    go_wp2_with (at_builtin; refine wpList_appL _ rfl _ _ _ rfl elem64 w2.heap.size _ [] rfl (Own.lit0 w2 _ _) w2.heap.size A1 m c1 (iv ms) rfl (I1_2.out.below ((Below.refl _ _).alloc (Nat.le_refl _) _)) (by simp; omega) (by simp) ?_; intro v2 w3 hown hgr)
    have HO3 := hide (show Own w3 w2.heap.size 2 .i64 v2 (iv ms) by simpa using hown)
    have hb := ((Below.refl w2.heap.size w2).alloc (Nat.le_refl _) _).grown hgr (by simp) (fun g hg => ((Own.lit0 w2 2 .i64).lt hg).1)
    have HX3 := hide (HX2.out.next hb)
    have I0_3 := hide ((I0_2.out.below hb).more hb.size)
    have Ig_3 := hide (Ig_2.out.below hb)
    have HBS := hide hb.size
    clear hb hown hgr b0 b1 b2 b3 b4 I1_2 I0_2 Ig_2
    obtain ⟨gW, cw, rfl, hg1, hg2, hcw⟩ := HO3.out.some_ (by rw [hIl.out]; omega)
    rw [hIl.out] at HO3 hcw ⊢
    have HG1 := hide hg1
    have HG2 := hide hg2
    have HCW := hide hcw
    clear hg1 hg2 hcw
    obtain ⟨b0, b1, b2, b3, b4⟩ := HX3.out.cells
    go_wp2_with fail
    refine (roll_any a0 n0 c0 z0 401 _ I0_3.out hn0 HBY.out).mono ?_
    rintro e w4 ⟨rfl, hd, hb⟩
    have HX4 := hide (HX3.out.next hb)
    have HO4 := hide (HO3.out.below hb (Nat.le_refl _))
    have Ig_4 := hide (Ig_3.out.below (hb.mono HBS.out))
    have HD4 := hide hd
    have HS4 := hide hb.size
    clear hd hb b0 b1 b2 b3 b4 I0_3 Ig_3 HO3
    go_wp2_with fail
    refine (below_any w3.heap.size w3.heap.size a0 n0 c0 z0 m _ HD4.out (by omega) (by omega)).mono ?_
    rintro e w5 ⟨i, rfl, hi, hd, hg⟩
    have HX5 := hide (HX4.out.grow hg (fun b hb => by injection hb with hb; have := HX3.out.lt; omega))
    have HO5 := hide (HO4.out.grown hg (.inr fun e => by simp only [Value.ownBlock, Option.some.injEq] at e; have := HG2.out; omega))
    have Ig_5 := hide (ints_hi Ig_4.out hg HBS.out (Nat.le_trans HBS.out HS4.out))
    have hbig := Nat.le_trans (Nat.le_trans HBS.out HS4.out) hg.size
    have HS5 := hide hg.size
    have him : i < m := by omega
    clear hd hg Ig_4 HO4 HD4
    obtain ⟨b0, b1, b2, b3, b4⟩ := HX5.out.cells
    obtain ⟨X, hX⟩ : ∃ X, X = cf ms i := ⟨_, rfl⟩
    have hcx := HO5.out.cellAt (j := i) (x := (X.val : Int)) (by rw [hX]; exact iv_at (by omega))
    obtain ⟨Y, hY, hne⟩ := next_el X
    have HFW := hide (far_words hc (a := ms) (b := ms.set i Y) (by rw [← HMM.out]; exact hml) (by rw [List.length_set, ← HMM.out]; exact hml) (set_ne (by omega) (by rw [← hX]; exact hne)))
    have HE2 := hide (enc_val hc (ms.set i Y) (by rw [iv_len, List.length_set]; omega) (by rw [List.length_set, ← HMM.out]; exact hml)).2
    have HFS := hide (show fsize p k γ = R.q by rw [fsize, if_pos hc.ok, hc.fld.kind.size])
    have hq3 := hc.fld.kind.big
    have hXq := X.lt
    have hw1 : IntKind.i64.wrap ((X.val : Int) + 1) = (X.val : Int) + 1 := IntWalk.i64_in _ ⟨by omega, by omega⟩
    have hqn : R.q ≠ 0 := by omega
    have HCX := hide hcx
    have HBW := hide (show gW < w5.heap.size from Nat.lt_of_lt_of_le HG2.out (Nat.le_trans HS4.out HS5.out))
    clear hX hne hcx hXq b0 b1 b2 b3 b4
    go_wp2_with fail
    refine tail_begin (fun w' => w'.cell? ⟨w1.heap.size, 0, none⟩ = some (.int .i64 p) ∧ w'.cell? ⟨w1.heap.size, 1, none⟩ = some (.int .i64 k) ∧ w'.cell? ⟨w1.heap.size, 2, none⟩ = some (.int .i64 γ) ∧ w'.cell? ⟨gW, i, none⟩ = some (.int .i64 (X.val : Int))) 12 (by kernel_rfl) ⟨HX5.out.drew.cells.1, HX5.out.drew.cells.2.1, HX5.out.drew.cells.2.2.1, HCX.out⟩ (fun hS' => ?_)
    refine tail_take 0 rfl (by kernel_rfl) (by kernel_rfl) (by kernel_rfl) (by kernel_rfl) (fun _ _ _ h => h) (by rfl) (v := ?_) ?_ (by assumption) ?_
    rotate_left 1
    · intro w' hS'; (try dsimp only at hS'); go_simp; try with_reducible rfl
    try simp only [Act.put, List.setIfInBounds_toArray, List.set_cons_zero, List.set_cons_succ]
    refine tail_take 1 rfl (by kernel_rfl) (by kernel_rfl) (by kernel_rfl) (by kernel_rfl) (fun _ _ _ h => h) (by rfl) (v := ?_) ?_ (by assumption) ?_
    rotate_left 1
    · intro w' hS'; (try dsimp only at hS'); go_simp; try with_reducible rfl
    try simp only [Act.put, List.setIfInBounds_toArray, List.set_cons_zero, List.set_cons_succ]
    refine tail_take 2 rfl (by kernel_rfl) (by kernel_rfl) (by kernel_rfl) (by kernel_rfl) (fun _ _ _ h => h) (by rfl) (v := ?_) ?_ (by assumption) ?_
    rotate_left 1
    · intro w' hS'; (try dsimp only at hS'); go_simp; try with_reducible rfl
    try simp only [Act.put, List.setIfInBounds_toArray, List.set_cons_zero, List.set_cons_succ]
    refine tail_take 3 rfl (by kernel_rfl) (by kernel_rfl) (by kernel_rfl) (by kernel_rfl) (fun _ _ _ h => h) (by rfl) (v := ?_) ?_ (by assumption) ?_
    rotate_left 1
    · intro w' hS'; (try dsimp only at hS'); go_simp; try with_reducible rfl
    try simp only [Act.put, List.setIfInBounds_toArray, List.set_cons_zero, List.set_cons_succ]
    refine tail_take 4 rfl (by kernel_rfl) (by kernel_rfl) (by kernel_rfl) (by kernel_rfl) (fun _ _ _ h => h) (by rfl) (v := ?_) ?_ (by assumption) ?_
    rotate_left 1
    · intro w' hS'; (try dsimp only at hS'); go_simp; try with_reducible rfl
    try simp only [Act.put, List.setIfInBounds_toArray, List.set_cons_zero, List.set_cons_succ]
    refine tail_take 5 rfl (by kernel_rfl) (by kernel_rfl) (by kernel_rfl) (by kernel_rfl) (fun _ _ _ h => h) (by rfl) (v := ?_) ?_ (by assumption) ?_
    rotate_left 1
    · intro w' hS'; (try dsimp only at hS'); go_simp; try with_reducible rfl
    try simp only [Act.put, List.setIfInBounds_toArray, List.set_cons_zero, List.set_cons_succ]
    refine tail_take 6 rfl (by kernel_rfl) (by kernel_rfl) (by kernel_rfl) (by kernel_rfl) (fun _ _ _ h => h) (by rfl) (v := ?_) ?_ (by assumption) ?_
    rotate_left 1
    · intro w' hS'; (try dsimp only at hS'); go_simp; try with_reducible rfl
    try simp only [Act.put, List.setIfInBounds_toArray, List.set_cons_zero, List.set_cons_succ]
    refine tail_take 7 rfl (by kernel_rfl) (by kernel_rfl) (by kernel_rfl) (by kernel_rfl) (fun _ _ _ h => h) (by rfl) (v := ?_) ?_ (by assumption) ?_
    rotate_left 1
    · intro w' hS'; (try dsimp only at hS'); go_simp; try with_reducible rfl
    try simp only [Act.put, List.setIfInBounds_toArray, List.set_cons_zero, List.set_cons_succ]
    refine tail_take 8 rfl (by kernel_rfl) (by kernel_rfl) (by kernel_rfl) (by kernel_rfl) (fun _ _ _ h => h) (by rfl) (v := ?_) ?_ (by assumption) ?_
    rotate_left 1
    · intro w' hS'; (try dsimp only at hS'); go_simp; try with_reducible rfl
    try simp only [Act.put, List.setIfInBounds_toArray, List.set_cons_zero, List.set_cons_succ]
    refine tail_call 9 rfl (by kernel_rfl) rfl (fun K hK => ?_)
    go_simp
    go_at_call 32; refine (specFieldSize p k γ _).mono ?_; rw [HFS.out]; rintro e w6 ⟨rfl, hb⟩; have HX6 := hide (HX5.out.drew.next hb); have HO6 := hide (HO5.out.drew.below hb (Nat.le_refl _)); have Ig_6 := hide (Ig_5.out.drew.below (hb.mono hbig)); have HS6 := hide hb.size; have HCX6 := hide ((hb.cell (p := ⟨gW, i, none⟩) HBW.out).trans HCX.out); clear hb
    refine hK.out _ _ (by (try dsimp only); exact ⟨HX6.out.cells.1, HX6.out.cells.2.1, HX6.out.cells.2.2.1, HCX6.out⟩) (fun hS' => ?_)
    clear hK K
    try simp only [Act.put, List.setIfInBounds_toArray, List.set_cons_zero, List.set_cons_succ]
    refine tail_take 10 rfl (by kernel_rfl) (by kernel_rfl) (by kernel_rfl) (by kernel_rfl) (fun _ _ _ h => h) (by rfl) (v := ?_) ?_ (by assumption) ?_
    rotate_left 1
    · intro w' hS'; (try dsimp only at hS'); go_simp; try with_reducible rfl
    try simp only [Act.put, List.setIfInBounds_toArray, List.set_cons_zero, List.set_cons_succ]
    refine tail_take 11 rfl (by kernel_rfl) (by kernel_rfl) (by kernel_rfl) (by kernel_rfl) (fun _ _ _ h => h) (by rfl) (v := ?_) ?_ (by assumption) ?_
    rotate_left 1
    · intro w' hS'; (try dsimp only at hS'); go_simp; try with_reducible rfl
    try simp only [Act.put, List.setIfInBounds_toArray, List.set_cons_zero, List.set_cons_succ]
    have hcx6 := HCX6.out
    have hfx6 := HO6.out.frozenAt i
    refine tail_last 12 rfl (by kernel_rfl) (by kernel_rfl) rfl rfl (fun K hK => ?_)
    go_simp
    refine hK.out _ _ ?_
    clear hK K
    try simp only [Act.put, List.setIfInBounds_toArray, List.set_cons_zero, List.set_cons_succ]
    have hlo : w1.heap.size < gW := Nat.lt_of_lt_of_le HX2.out.lt HG1.out
    have HO7 := hide (HO6.out.stored i (Y.val : Int)).1
    rw [iv_set] at HO7
    have HX7 := hide (HX6.out.grow (HO6.out.stored i (Y.val : Int)).2 (fun b hb => by injection hb with hb; omega))
    have Ig_7 := hide (ints_hi Ig_6.out (HO6.out.stored i (Y.val : Int)).2 HG1.out (Nat.le_trans hbig HS6.out))
    have HS7 := hide (Nat.le_trans (Nat.le_trans hbig HS6.out) (HO6.out.stored i (Y.val : Int)).2.size)
    clear hcx6 hfx6 HCX6 HO6 HX6 Ig_6 HS6 HO5 HX5 Ig_5 HBW HCX hbig
    generalize w6.setCell ⟨gW, i, none⟩ (.int .i64 (Y.val : Int)) = w7 at HO7 HX7 Ig_7 HS7 ⊢
    obtain ⟨b0, b1, b2, b3, b4⟩ := HX7.out.cells
    go_wp2_with fail
    refine (HE2.out (some ⟨gW, 0, none⟩) m cw w7.heap.size w7 (by have h := HO7.out.ints; rwa [show (iv (ms.set i Y)).length = m by rw [iv_len, List.length_set]; exact hml] at h) HCW.out (Nat.le_refl _)).mono ?_
    rintro e w8 ⟨Ab, cb, rfl, hcb, hob, hb⟩
    have HX8 := hide (HX7.out.next hb)
    have Ig_8 := hide ((Ig_7.out.below (hb.mono HS7.out)).more (Nat.le_trans HS7.out hb.size))
    have Ib_8 := hide hob.ints
    clear hob hb b0 b1 b2 b3 b4
    obtain ⟨b0, b1, b2, b3, b4⟩ := HX8.out.cells
    obtain ⟨hd0, d, hd, hdc, hdb⟩ := HFW.out
    have HWD := hide (dist_both (iv (encW γ' c ms)) (iv (encW γ' c (ms.set i Y))) (by omega) (by rw [iv_len, enc_len, List.length_set]; omega)).2
    rw [hd0, hd] at HWD
    clear hd0 hd
    go_wp2_with fail
    refine (HWD.out Ag _ cg Ab _ cb w8.heap.size w8 Ig_8.out Ib_8.out hcg hcb (Nat.le_refl _)).mono ?_
    rintro e w9 ⟨rfl, hb⟩
    have HX9 := hide (HX8.out.next hb)
    clear hb b0 b1 b2 b3 b4
    obtain ⟨b0, b1, b2, b3, b4⟩ := HX9.out.cells
    obtain ⟨e', f', hef, hf1, he32⟩ : ∃ e' f' : Nat, c = 2 * e' + f' ∧ f' ≤ 1 ∧ e' ≤ 32 := ⟨c / 2, c % 2, by omega, by omega, by omega⟩
    have hq1 : (c : Int).tdiv 2 = (e' : Int) := by rw [Int.tdiv_eq_ediv_of_nonneg (by omega)]; omega
    have hr1 : (c : Int).tmod 2 = (f' : Int) := by rw [Int.tmod_eq_emod_of_nonneg (by omega)]; omega
    have hdd : decide ((c : Int) < (d : Int)) = true := by rw [decide_eq_true_iff]; omega
    have HW1 := hide (within_both p k γ l c (e' : Int) (f' : Int) hCb (by omega) (by omega)).2
    have HW2 := hide (within_both p k γ l c (e' : Int) ((f' : Int) + 1) hCb (by omega) (by omega)).2
    rw [within_is (codeB_is hc), show decide ((0 : Int) ≤ (e' : Int) ∧ (0 : Int) ≤ (f' : Int) ∧ 2 * (e' : Int) + (f' : Int) ≤ (c : Int)) = true by rw [decide_eq_true_iff]; omega] at HW1
    rw [within_is (codeB_is hc), show decide ((0 : Int) ≤ (e' : Int) ∧ (0 : Int) ≤ (f' : Int) + 1 ∧ 2 * (e' : Int) + ((f' : Int) + 1) ≤ (c : Int)) = false by rw [decide_eq_false_iff_not]; omega] at HW2
    clear hef
    go_wp2_with fail
    refine (HW1.out w9).mono ?_
    rintro e w10 ⟨rfl, hb⟩
    have HX10 := hide (HX9.out.next hb)
    clear hb b0 b1 b2 b3 b4
    obtain ⟨b0, b1, b2, b3, b4⟩ := HX10.out.cells
    go_wp2_with fail
    refine (HW2.out w10).mono ?_
    rintro e w11 ⟨rfl, hb⟩
    have HX11 := hide (HX10.out.next hb)
    clear hb b0 b1 b2 b3 b4
    obtain ⟨b0, b1, b2, b3, b4⟩ := HX11.out.cells
    go_wp2_with fail
    go_ret
    exact ⟨rfl, HB1.out.trans (HX11.out.2.mono HB1.out.size)⟩
end Go.Proofs.Ytfbkmbjbjgfenaa
