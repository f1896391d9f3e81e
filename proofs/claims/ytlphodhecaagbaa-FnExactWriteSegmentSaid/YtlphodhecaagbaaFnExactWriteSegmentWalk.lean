/-
  The walk of the law FnExactWriteSegment: it returns true, and nothing that was there before is changed.
  Condition: none.
-/
import Derived.Test.YtlphodhecaagbaaSgF
import Derived.Test.YtlphodhecaagbaaTail2
import Derived.Test.YtlphodhecaagbaaLawKit
import Derived.Test.YtlphodhecaagbaaSgShell
import Derived.Test.YtlphodhecaagbaaSgLaw
namespace Go.Proofs.Ytlphodhecaagbaa
open Go.RowKit
set_option linter.unusedVariables false

set_option maxRecDepth 100000 in
set_option maxHeartbeats 4000000 in
theorem fnExactWriteSegmentWalk (a0 : Option Addr) (n0 c0 : Nat) (z0 : List Int) (a1x : Int) (a1s : ByteArray) (w : World) (h0 : Came .i64 w a0 n0 c0 z0) (h1x : (Lit.int .i64 a1x).wf = true) (h1s : a1s.size ≤ maxLen) :
    Calls Try.prog 8 #[.slice a0 n0 c0, .agg #[.int .i64 a1x, .string a1s]] w fun e w' => e = .returned (.bool true) ∧ Below w.heap.size w w' := by
  clear h1x
  have HX0 := hide (SBox.start w 37 a1x a1s)
  obtain ⟨hI0, hnc0, hcm0, hwf0⟩ := h0
  have HI0 := hide hI0
  obtain rfl : z0.length = n0 := hI0.len
  clear hI0 hwf0
  unfold maxLen at hcm0
  by_cases hbig0 : 1048576 < z0.length
  · go_enter Try.func8, Try.ntmps8
    go_wp2_with fail
    go_ret
    exact ⟨rfl, HX0.out.2⟩
  have hn0 : z0.length ≤ 1048576 := by omega
  unfold maxLen at h1s
  by_cases hbs : ¬ a1s.size ≤ 1048576
  · obtain ⟨b0, b1⟩ := HX0.out.cells
    go_enter Try.func8, Try.ntmps8
    go_wp2_with fail
    refine (szSeg_no a1x a1s hbs (by omega) _).mono ?_
    rintro e w1 ⟨rfl, hb1⟩
    have HX1 := hide (HX0.out.next hb1)
    clear hb1
    go_wp2_with fail
    go_ret
    exact ⟨rfl, HX1.out.2⟩
  have hs1 : a1s.size ≤ 1048576 := by omega
  have hwz : ¬ (1048576 - (a1s.size : Int)) < 0 := by omega
  obtain ⟨r0, k0, hlr0, HS, HM⟩ := ws_both a1x a1s z0 hn0 (by omega)
  have HSP := hide HS
  have HIM := hide HM
  clear HS HM
  have hnek0 : (k0 != k0) = false := by simp
  go_enter Try.func8, Try.ntmps8
  go_wp2_with fail
  refine (szSeg_ok a1x a1s hs1 _).mono ?_
  rintro e w1 ⟨rfl, hb1⟩
  have HX1 := hide (HX0.out.next hb1)
  clear hb1
  obtain ⟨b0, b1⟩ := HX1.out.cells
  go_wp2_with fail
  have HXd1 := hide HX1.out.drew
  refine tail_begin (fun w' => w'.cell? ⟨w.heap.size, 0, none⟩ = some (.int .i64 a1x) ∧ w'.cell? ⟨w.heap.size, 1, none⟩ = some (.string a1s)) 10 (by kernel_rfl) HXd1.out.cells (fun hS' => ?_)
  clear b0 b1
  refine tail_take2 0 rfl (by kernel_rfl) (by kernel_rfl) (by kernel_rfl) (by decide) (fun _ _ _ h => h) (by rfl) (v := ?_) ?_ (by assumption) ?_
  rotate_left 1
  · intro w' hS'; obtain ⟨d0, d1⟩ := hS'; go_simp; try with_reducible rfl
  try simp only [Act.put, List.setIfInBounds_toArray, List.set_cons_zero, List.set_cons_succ]
  refine tail_take2 2 rfl (by kernel_rfl) (by kernel_rfl) (by kernel_rfl) (by decide) (fun _ _ _ h => h) (by rfl) (v := ?_) ?_ (by assumption) ?_
  rotate_left 1
  · intro w' hS'; obtain ⟨d0, d1⟩ := hS'; go_simp; try with_reducible rfl
  try simp only [Act.put, List.setIfInBounds_toArray, List.set_cons_zero, List.set_cons_succ]
  refine tail_call 1 rfl (by kernel_rfl) rfl (fun K hK => ?_)
  go_simp
  refine (toInts a0 _ c0 z0 _ ((HI0.out.below HXd1.out.2).more HXd1.out.2.size) (by omega)).mono ?_
  rintro e w2 ⟨AP0, cP0, rfl, hcP0, hoP0, hb2⟩
  have HX2 := hide (HXd1.out.next hb2)
  have HOP0_2 := hide hoP0
  clear hoP0
  clear hb2
  refine hK.out _ _ (by (try dsimp only); exact HX2.out.cells) (fun hS' => ?_)
  clear hK K
  try simp only [Act.put, List.setIfInBounds_toArray, List.set_cons_zero, List.set_cons_succ]
  refine tail_call 3 rfl (by kernel_rfl) rfl (fun K hK => ?_)
  go_simp
  refine (toSegment a1x a1s _).mono ?_
  rintro e w3 ⟨rfl, hb3⟩
  have HX3 := hide (HX2.out.next hb3)
  have HOP0_3 := hide (HOP0_2.out.below hb3 (Nat.le_refl _))
  clear HOP0_2
  clear hb3
  refine hK.out _ _ (by (try dsimp only); exact HX3.out.cells) (fun hS' => ?_)
  clear hK K
  try simp only [Act.put, List.setIfInBounds_toArray, List.set_cons_zero, List.set_cons_succ]
  refine tail_call 4 rfl (by kernel_rfl) rfl (fun K hK => ?_)
  go_simp
  refine (HSP.out AP0 _ cP0 _ _ HOP0_3.out.ints (Nat.le_refl _)).mono ?_
  rintro e w4 ⟨AW0, cW0, rfl, hcW0, hoW0, hb4⟩
  have HX4 := hide (HX3.out.next hb4)
  have NP0W0 := hide (HOP0_3.out.ne hoW0 (Nat.le_refl _))
  have NW0P0 := hide (HOP0_3.out.ne' hoW0 (Nat.le_refl _))
  have HOP0_4 := hide (HOP0_3.out.below hb4 (Nat.le_refl _))
  clear HOP0_3
  have HOW0_4 := hide hoW0
  clear hoW0
  clear hb4
  refine hK.out _ _ (by (try dsimp only); exact HX4.out.cells) (fun hS' => ?_)
  clear hK K
  try simp only [Act.put, List.setIfInBounds_toArray, List.set_cons_zero, List.set_cons_succ]
  refine tail_take2 5 rfl (by kernel_rfl) (by kernel_rfl) (by kernel_rfl) (by decide) (fun _ _ _ h => h) (by rfl) (v := ?_) ?_ (by assumption) ?_
  rotate_left 1
  · intro w' hS'; obtain ⟨d0, d1⟩ := hS'; go_simp; try with_reducible rfl
  try simp only [Act.put, List.setIfInBounds_toArray, List.set_cons_zero, List.set_cons_succ]
  refine tail_take2 6 rfl (by kernel_rfl) (by kernel_rfl) (by kernel_rfl) (by decide) (fun _ _ _ h => h) (by rfl) (v := ?_) ?_ (by assumption) ?_
  rotate_left 1
  · intro w' hS'; obtain ⟨d0, d1⟩ := hS'; go_simp; try with_reducible rfl
  try simp only [Act.put, List.setIfInBounds_toArray, List.set_cons_zero, List.set_cons_succ]
  refine tail_take2 7 rfl (by kernel_rfl) (by kernel_rfl) (by kernel_rfl) (by decide) (fun _ _ _ h => h) (by rfl) (v := ?_) ?_ (by assumption) ?_
  rotate_left 1
  · intro w' hS'; obtain ⟨d0, d1⟩ := hS'; go_simp; try with_reducible rfl
  try simp only [Act.put, List.setIfInBounds_toArray, List.set_cons_zero, List.set_cons_succ]
  refine tail_take2 8 rfl (by kernel_rfl) (by kernel_rfl) (by kernel_rfl) (by decide) (fun _ _ _ h => h) (by rfl) (v := ?_) ?_ (by assumption) ?_
  rotate_left 1
  · intro w' hS'; obtain ⟨d0, d1⟩ := hS'; go_simp; try with_reducible rfl
  try simp only [Act.put, List.setIfInBounds_toArray, List.set_cons_zero, List.set_cons_succ]
  refine tail_take2 9 rfl (by kernel_rfl) (by kernel_rfl) (by kernel_rfl) (by decide) (fun _ _ _ h => h) (by rfl) (v := ?_) ?_ (by assumption) ?_
  rotate_left 1
  · intro w' hS'; obtain ⟨d0, d1⟩ := hS'; go_simp; try with_reducible rfl
  try simp only [Act.put, List.setIfInBounds_toArray, List.set_cons_zero, List.set_cons_succ]
  refine tail_end (by kernel_rfl) ?_
  obtain ⟨b0, b1⟩ := HX4.out.cells
  go_wp2_with fail
  refine (toInts a0 _ c0 z0 _ ((HI0.out.below HX4.out.2).more HX4.out.2.size) (by omega)).mono ?_
  rintro e w5 ⟨AX0, cX0, rfl, hcX0, hoX0, hb5⟩
  have HX5 := hide (HX4.out.next hb5)
  have NW0X0 := hide (HOW0_4.out.ne hoX0 (Nat.le_refl _))
  have NX0W0 := hide (HOW0_4.out.ne' hoX0 (Nat.le_refl _))
  have HOW0_5 := hide (HOW0_4.out.below hb5 (Nat.le_refl _))
  clear HOW0_4
  have HOX0_5 := hide hoX0
  clear hoX0
  clear hb5
  clear b0 b1
  obtain ⟨b0, b1⟩ := HX5.out.cells
  go_wp2_with fail
  refine (toSegment a1x a1s _).mono ?_
  rintro e w6 ⟨rfl, hb6⟩
  have HX6 := hide (HX5.out.next hb6)
  have HOW0_6 := hide (HOW0_5.out.below hb6 (Nat.le_refl _))
  clear HOW0_5
  have HOX0_6 := hide (HOX0_5.out.below hb6 (Nat.le_refl _))
  clear HOX0_5
  clear hb6
  clear b0 b1
  obtain ⟨b0, b1⟩ := HX6.out.cells
  go_wp2_with fail
  refine (HIM.out AX0 _ cX0 _ _ HOX0_6.out.ints (Nat.le_refl _)).mono ?_
  rintro e w7 ⟨AG0, cG0, rfl, hcG0, hoG0, hb7⟩
  have HX7 := hide (HX6.out.next hb7)
  have NW0G0 := hide (HOW0_6.out.ne hoG0 (Nat.le_refl _))
  have NG0W0 := hide (HOW0_6.out.ne' hoG0 (Nat.le_refl _))
  have NX0G0 := hide (HOX0_6.out.ne hoG0 (Nat.le_refl _))
  have NG0X0 := hide (HOX0_6.out.ne' hoG0 (Nat.le_refl _))
  have HOW0_7 := hide (HOW0_6.out.below hb7 (Nat.le_refl _))
  clear HOW0_6
  have HOX0_7 := hide (HOX0_6.out.below hb7 (Nat.le_refl _))
  clear HOX0_6
  have HOG0_7 := hide hoG0
  clear hoG0
  clear hb7
  clear b0 b1
  obtain ⟨b0, b1⟩ := HX7.out.cells
  go_wp2_with fail
  refine (eqSame AG0 _ cG0 _ AW0 _ cW0 _ r0 _ HOG0_7.out.ints HOW0_7.out.ints (by omega)).mono ?_
  rintro e w8 ⟨rfl, hb8⟩
  have HX8 := hide (HX7.out.next hb8)
  have HOW0_8 := hide (HOW0_7.out.below hb8 (Nat.le_refl _))
  clear HOW0_7
  have HOX0_8 := hide (HOX0_7.out.below hb8 (Nat.le_refl _))
  clear HOX0_7
  have HOG0_8 := hide (HOG0_7.out.below hb8 (Nat.le_refl _))
  clear HOG0_7
  clear hb8
  clear b0 b1
  obtain ⟨b0, b1⟩ := HX8.out.cells
  go_wp2_with fail
  refine (toInts a0 _ c0 z0 _ ((HI0.out.below HX8.out.2).more HX8.out.2.size) (by omega)).mono ?_
  rintro e w9 ⟨AQ0, cQ0, rfl, hcQ0, hoQ0, hb9⟩
  have HX9 := hide (HX8.out.next hb9)
  have NW0Q0 := hide (HOW0_8.out.ne hoQ0 (Nat.le_refl _))
  have NQ0W0 := hide (HOW0_8.out.ne' hoQ0 (Nat.le_refl _))
  have NX0Q0 := hide (HOX0_8.out.ne hoQ0 (Nat.le_refl _))
  have NQ0X0 := hide (HOX0_8.out.ne' hoQ0 (Nat.le_refl _))
  have NG0Q0 := hide (HOG0_8.out.ne hoQ0 (Nat.le_refl _))
  have NQ0G0 := hide (HOG0_8.out.ne' hoQ0 (Nat.le_refl _))
  have HOW0_9 := hide (HOW0_8.out.below hb9 (Nat.le_refl _))
  clear HOW0_8
  have HOX0_9 := hide (HOX0_8.out.below hb9 (Nat.le_refl _))
  clear HOX0_8
  have HOG0_9 := hide (HOG0_8.out.below hb9 (Nat.le_refl _))
  clear HOG0_8
  have HOQ0_9 := hide hoQ0
  clear hoQ0
  clear hb9
  clear b0 b1
  obtain ⟨b0, b1⟩ := HX9.out.cells
  go_wp2_with fail
  refine (eqSame AX0 _ cX0 _ AQ0 _ cQ0 _ z0 _ HOX0_9.out.ints HOQ0_9.out.ints (by omega)).mono ?_
  rintro e w10 ⟨rfl, hb10⟩
  have HX10 := hide (HX9.out.next hb10)
  have HOW0_10 := hide (HOW0_9.out.below hb10 (Nat.le_refl _))
  clear HOW0_9
  have HOX0_10 := hide (HOX0_9.out.below hb10 (Nat.le_refl _))
  clear HOX0_9
  have HOG0_10 := hide (HOG0_9.out.below hb10 (Nat.le_refl _))
  clear HOG0_9
  have HOQ0_10 := hide (HOQ0_9.out.below hb10 (Nat.le_refl _))
  clear HOQ0_9
  clear hb10
  clear b0 b1
  obtain ⟨b0, b1⟩ := HX10.out.cells
  go_wp2_with fail
  refine (markInts' AX0 _ cX0 _ _ 1 z0 _ HOX0_10.out (by omega) (by omega) (by omega)).mono ?_
  rintro e w11 ⟨rfl, ho11, hg11⟩
  have HX11 := hide (HX10.out.grow' hg11 (fun g hg => Nat.lt_of_lt_of_le HX4.out.lt (HOX0_10.out.lt hg).1))
  have HOW0_11 := hide (HOW0_10.out.grown hg11 NW0X0.out)
  clear HOW0_10
  have HOG0_11 := hide (HOG0_10.out.grown hg11 NG0X0.out)
  clear HOG0_10
  have HOX0_11 := hide ho11
  clear ho11 hg11 HOX0_10
  clear b0 b1
  obtain ⟨b0, b1⟩ := HX11.out.cells
  go_wp2_with fail
  refine (eqSame AG0 _ cG0 _ AW0 _ cW0 _ r0 _ HOG0_11.out.ints HOW0_11.out.ints (by omega)).mono ?_
  rintro e w12 ⟨rfl, hb12⟩
  have HX12 := hide (HX11.out.next hb12)
  have HOW0_12 := hide (HOW0_11.out.below hb12 (Nat.le_refl _))
  clear HOW0_11
  have HOX0_12 := hide (HOX0_11.out.below hb12 (Nat.le_refl _))
  clear HOX0_11
  have HOG0_12 := hide (HOG0_11.out.below hb12 (Nat.le_refl _))
  clear HOG0_11
  clear hb12
  clear b0 b1
  obtain ⟨b0, b1⟩ := HX12.out.cells
  go_wp2_with fail
  refine (markInts' AG0 _ cG0 _ _ 1 r0 _ HOG0_12.out (by omega) (by omega) (by omega)).mono ?_
  rintro e w13 ⟨rfl, ho13, hg13⟩
  have HX13 := hide (HX12.out.grow' hg13 (fun g hg => Nat.lt_of_lt_of_le HX6.out.lt (HOG0_12.out.lt hg).1))
  have HOW0_13 := hide (HOW0_12.out.grown hg13 NW0G0.out)
  clear HOW0_12
  have HOX0_13 := hide (HOX0_12.out.grown hg13 NX0G0.out)
  clear HOX0_12
  have HOG0_13 := hide ho13
  clear ho13 hg13 HOG0_12
  clear b0 b1
  obtain ⟨b0, b1⟩ := HX13.out.cells
  go_wp2_with fail
  refine (heldInts' AG0 _ cG0 _ _ 1 _ (HOG0_13.out.ints' (marks_len _ _)) (by omega) (by omega) (by omega)).mono ?_
  rintro e w13 ⟨rfl, rfl⟩
  go_wp2_with fail
  have HXd13 := hide HX13.out.drew
  have HOW0_d13 := hide HOW0_13.out.drew
  clear HOW0_13
  have HOX0_d13 := hide HOX0_13.out.drew
  clear HOX0_13
  have HOG0_d13 := hide HOG0_13.out.drew
  clear HOG0_13
  refine tail_begin (fun w' => w'.cell? ⟨w.heap.size, 0, none⟩ = some (.int .i64 a1x) ∧ w'.cell? ⟨w.heap.size, 1, none⟩ = some (.string a1s)) 10 (by kernel_rfl) HXd13.out.cells (fun hS' => ?_)
  clear b0 b1
  refine tail_take2 0 rfl (by kernel_rfl) (by kernel_rfl) (by kernel_rfl) (by decide) (fun _ _ _ h => h) (by rfl) (v := ?_) ?_ (by assumption) ?_
  rotate_left 1
  · intro w' hS'; obtain ⟨d0, d1⟩ := hS'; go_simp; try with_reducible rfl
  try simp only [Act.put, List.setIfInBounds_toArray, List.set_cons_zero, List.set_cons_succ]
  refine tail_take2 2 rfl (by kernel_rfl) (by kernel_rfl) (by kernel_rfl) (by decide) (fun _ _ _ h => h) (by rfl) (v := ?_) ?_ (by assumption) ?_
  rotate_left 1
  · intro w' hS'; obtain ⟨d0, d1⟩ := hS'; go_simp; try with_reducible rfl
  try simp only [Act.put, List.setIfInBounds_toArray, List.set_cons_zero, List.set_cons_succ]
  refine tail_call 1 rfl (by kernel_rfl) rfl (fun K hK => ?_)
  go_simp
  refine (toInts a0 _ c0 z0 _ ((HI0.out.below HXd13.out.2).more HXd13.out.2.size) (by omega)).mono ?_
  rintro e w14 ⟨AR0, cR0, rfl, hcR0, hoR0, hb14⟩
  have HX14 := hide (HXd13.out.next hb14)
  have NW0R0 := hide (HOW0_d13.out.ne hoR0 (Nat.le_refl _))
  have NR0W0 := hide (HOW0_d13.out.ne' hoR0 (Nat.le_refl _))
  have NX0R0 := hide (HOX0_d13.out.ne hoR0 (Nat.le_refl _))
  have NR0X0 := hide (HOX0_d13.out.ne' hoR0 (Nat.le_refl _))
  have NG0R0 := hide (HOG0_d13.out.ne hoR0 (Nat.le_refl _))
  have NR0G0 := hide (HOG0_d13.out.ne' hoR0 (Nat.le_refl _))
  have HOW0_14 := hide (HOW0_d13.out.below hb14 (Nat.le_refl _))
  clear HOW0_d13
  have HOX0_14 := hide (HOX0_d13.out.below hb14 (Nat.le_refl _))
  clear HOX0_d13
  have HOG0_14 := hide (HOG0_d13.out.below hb14 (Nat.le_refl _))
  clear HOG0_d13
  have HOR0_14 := hide hoR0
  clear hoR0
  clear hb14
  refine hK.out _ _ (by (try dsimp only); exact HX14.out.cells) (fun hS' => ?_)
  clear hK K
  try simp only [Act.put, List.setIfInBounds_toArray, List.set_cons_zero, List.set_cons_succ]
  refine tail_call 3 rfl (by kernel_rfl) rfl (fun K hK => ?_)
  go_simp
  refine (toSegment a1x a1s _).mono ?_
  rintro e w15 ⟨rfl, hb15⟩
  have HX15 := hide (HX14.out.next hb15)
  have HOW0_15 := hide (HOW0_14.out.below hb15 (Nat.le_refl _))
  clear HOW0_14
  have HOX0_15 := hide (HOX0_14.out.below hb15 (Nat.le_refl _))
  clear HOX0_14
  have HOG0_15 := hide (HOG0_14.out.below hb15 (Nat.le_refl _))
  clear HOG0_14
  have HOR0_15 := hide (HOR0_14.out.below hb15 (Nat.le_refl _))
  clear HOR0_14
  clear hb15
  refine hK.out _ _ (by (try dsimp only); exact HX15.out.cells) (fun hS' => ?_)
  clear hK K
  try simp only [Act.put, List.setIfInBounds_toArray, List.set_cons_zero, List.set_cons_succ]
  refine tail_call 4 rfl (by kernel_rfl) rfl (fun K hK => ?_)
  go_simp
  refine (HIM.out AR0 _ cR0 _ _ HOR0_15.out.ints (Nat.le_refl _)).mono ?_
  rintro e w16 ⟨AH0, cH0, rfl, hcH0, hoH0, hb16⟩
  have HX16 := hide (HX15.out.next hb16)
  have NW0H0 := hide (HOW0_15.out.ne hoH0 (Nat.le_refl _))
  have NH0W0 := hide (HOW0_15.out.ne' hoH0 (Nat.le_refl _))
  have NX0H0 := hide (HOX0_15.out.ne hoH0 (Nat.le_refl _))
  have NH0X0 := hide (HOX0_15.out.ne' hoH0 (Nat.le_refl _))
  have NG0H0 := hide (HOG0_15.out.ne hoH0 (Nat.le_refl _))
  have NH0G0 := hide (HOG0_15.out.ne' hoH0 (Nat.le_refl _))
  have NR0H0 := hide (HOR0_15.out.ne hoH0 (Nat.le_refl _))
  have NH0R0 := hide (HOR0_15.out.ne' hoH0 (Nat.le_refl _))
  have HOW0_16 := hide (HOW0_15.out.below hb16 (Nat.le_refl _))
  clear HOW0_15
  have HOX0_16 := hide (HOX0_15.out.below hb16 (Nat.le_refl _))
  clear HOX0_15
  have HOG0_16 := hide (HOG0_15.out.below hb16 (Nat.le_refl _))
  clear HOG0_15
  have HOR0_16 := hide (HOR0_15.out.below hb16 (Nat.le_refl _))
  clear HOR0_15
  have HOH0_16 := hide hoH0
  clear hoH0
  clear hb16
  refine hK.out _ _ (by (try dsimp only); exact HX16.out.cells) (fun hS' => ?_)
  clear hK K
  try simp only [Act.put, List.setIfInBounds_toArray, List.set_cons_zero, List.set_cons_succ]
  refine tail_take2 5 rfl (by kernel_rfl) (by kernel_rfl) (by kernel_rfl) (by decide) (fun _ _ _ h => h) (by rfl) (v := ?_) ?_ (by assumption) ?_
  rotate_left 1
  · intro w' hS'; obtain ⟨d0, d1⟩ := hS'; go_simp; try with_reducible rfl
  try simp only [Act.put, List.setIfInBounds_toArray, List.set_cons_zero, List.set_cons_succ]
  refine tail_take2 6 rfl (by kernel_rfl) (by kernel_rfl) (by kernel_rfl) (by decide) (fun _ _ _ h => h) (by rfl) (v := ?_) ?_ (by assumption) ?_
  rotate_left 1
  · intro w' hS'; obtain ⟨d0, d1⟩ := hS'; go_simp; try with_reducible rfl
  try simp only [Act.put, List.setIfInBounds_toArray, List.set_cons_zero, List.set_cons_succ]
  refine tail_take2 7 rfl (by kernel_rfl) (by kernel_rfl) (by kernel_rfl) (by decide) (fun _ _ _ h => h) (by rfl) (v := ?_) ?_ (by assumption) ?_
  rotate_left 1
  · intro w' hS'; obtain ⟨d0, d1⟩ := hS'; go_simp; try with_reducible rfl
  try simp only [Act.put, List.setIfInBounds_toArray, List.set_cons_zero, List.set_cons_succ]
  refine tail_take2 8 rfl (by kernel_rfl) (by kernel_rfl) (by kernel_rfl) (by decide) (fun _ _ _ h => h) (by rfl) (v := ?_) ?_ (by assumption) ?_
  rotate_left 1
  · intro w' hS'; obtain ⟨d0, d1⟩ := hS'; go_simp; try with_reducible rfl
  try simp only [Act.put, List.setIfInBounds_toArray, List.set_cons_zero, List.set_cons_succ]
  refine tail_take2 9 rfl (by kernel_rfl) (by kernel_rfl) (by kernel_rfl) (by decide) (fun _ _ _ h => h) (by rfl) (v := ?_) ?_ (by assumption) ?_
  rotate_left 1
  · intro w' hS'; obtain ⟨d0, d1⟩ := hS'; go_simp; try with_reducible rfl
  try simp only [Act.put, List.setIfInBounds_toArray, List.set_cons_zero, List.set_cons_succ]
  refine tail_end (by kernel_rfl) ?_
  obtain ⟨b0, b1⟩ := HX16.out.cells
  go_wp2_with fail
  refine (eqSame AH0 _ cH0 _ AW0 _ cW0 _ r0 _ HOH0_16.out.ints HOW0_16.out.ints (by omega)).mono ?_
  rintro e w17 ⟨rfl, hb17⟩
  have HX17 := hide (HX16.out.next hb17)
  have HOW0_17 := hide (HOW0_16.out.below hb17 (Nat.le_refl _))
  clear HOW0_16
  have HOX0_17 := hide (HOX0_16.out.below hb17 (Nat.le_refl _))
  clear HOX0_16
  have HOG0_17 := hide (HOG0_16.out.below hb17 (Nat.le_refl _))
  clear HOG0_16
  have HOR0_17 := hide (HOR0_16.out.below hb17 (Nat.le_refl _))
  clear HOR0_16
  have HOH0_17 := hide (HOH0_16.out.below hb17 (Nat.le_refl _))
  clear HOH0_16
  clear hb17
  clear b0 b1
  obtain ⟨b0, b1⟩ := HX17.out.cells
  go_wp2_with fail
  refine (heldInts' AG0 _ cG0 _ _ 1 _ (HOG0_17.out.ints' (marks_len _ _)) (by omega) (by omega) (by omega)).mono ?_
  rintro e w17 ⟨rfl, rfl⟩
  go_wp2_with fail
  go_ret
  exact ⟨rfl, HX17.out.2⟩
end Go.Proofs.Ytlphodhecaagbaa
