/-
  The walk of the law FnSegmentsRead: it returns true, and nothing that was there before is changed.
  Condition: none.
-/
import Derived.Test.YthmpfnbcodolcaaSgDraw5
import Derived.Test.YthmpfnbcodolcaaSgF
import Derived.Test.YthmpfnbcodolcaaRdT
import Derived.Test.YthmpfnbcodolcaaRdH
import Derived.Test.YthmpfnbcodolcaaRd4
import Derived.Test.YthmpfnbcodolcaaLike
import Derived.Test.YthmpfnbcodolcaaShell
namespace Go.Proofs.Ythmpfnbcodolcaa
open Go Go.RowKit
set_option linter.unusedVariables false
set_option linter.unusedSimpArgs false

theorem srb_u8 {n : Int} (h : (Lit.int .u8 n).wf = true) : 0 ≤ n ∧ n ≤ 255 := by
  simp [Lit.wf, IntKind.min, IntKind.max, IntKind.signed, IntKind.bits] at h
  omega
/-- What was read, written again. -/
theorem srd_key {zs : List Int} {a : Int} (h : rsK zs a = 0) : ∃ i e : Nat, a = i ∧ rsE zs a = (e : Int) ∧ i ≤ e ∧ e ≤ zs.length ∧ zs.length ≤ 8192 ∧ (rsS zs a).size ≤ 255 ∧
    wsCode (zs.take i) (rsM zs a) (bytesI (rsS zs a)) = 0 ∧ wsOf (zs.take i) (rsM zs a) (bytesI (rsS zs a)) = zs.take e := by
  have h0 := h
  unfold rsK at h
  split at h
  case isFalse => omega
  rename_i hb
  split at h
  case isFalse => omega
  rename_i ha
  split at h
  case isFalse => omega
  rename_i hr
  obtain ⟨i, rfl⟩ : ∃ i : Nat, a = i := ⟨a.toNat, by omega⟩
  rw [Int.toNat_natCast] at hr
  have hbt : ∀ x ∈ zs, x = 0 ∨ x = 1 := fun x hx => by
    obtain ⟨j, hj⟩ := List.getElem?_of_mem hx
    exact isBits_bit hb hj
  have hl := isBits_len hb
  have his : RdIs zs i := by
    unfold rdB at hr
    exact @of_decide_eq_true _ (Classical.propDecidable _) hr
  obtain ⟨g1, g2, g3, g4⟩ := rd_yes his
  have hm : rsM zs (i : Int) = rdM0 zs i := by rw [rsM, if_pos h0, Int.toNat_natCast, g2]
  have hs : rsS zs (i : Int) = strOf (rdT zs (i + 11) (rdM0 zs i) (rdN0 zs i) (gct (gsz (rdM0 zs i)) (rdN0 zs i))) := by rw [rsS, if_pos h0, Int.toNat_natCast, g3]
  have he : rsE zs (i : Int) = ((i + slen (rdM0 zs i) (rdN0 zs i) : Nat) : Int) := by rw [rsE, if_pos h0, Int.toNat_natCast, g4]
  have hmm : 1 ≤ rdM0 zs i ∧ rdM0 zs i ≤ 4 := ⟨his.2.1, his.2.2.1⟩
  have hend := his.2.2.2.2.1
  have hby := fun x hx => rdT_byte (zs := zs) (a := i + 11) hmm (n := rdN0 zs i) (gct (gsz (rdM0 zs i)) (rdN0 zs i)) x hx
  have hbs := bytesI_strOf hby
  obtain ⟨w1, w2, w3⟩ := read_write hbt his rfl rfl rfl
  rw [← hbs] at w1 w2 w3
  rw [← hs] at w1 w2 w3
  rw [hm]
  have hsz : (rsS zs (i : Int)).size = rdN0 zs i := by rw [← bytesI_len]; exact w1
  have hn : (rsS zs (i : Int)).size ≤ 255 := by
    obtain ⟨_, h2, _⟩ := seg_ok w2
    rw [bytesI_len] at h2; exact h2.2
  have htl : (zs.take i).length = i := by rw [List.length_take]; omega
  have hbi : isBits (zs.take i) = true := isBits_of (by rw [htl]; omega) (fun x hx => hbt x (List.mem_of_mem_take hx))
  have hk : wsCode (zs.take i) (rdM0 zs i) (bytesI (rsS zs (i : Int))) = 0 := by
    unfold wsCode
    rw [if_pos hbi, if_pos w2, if_pos (by rw [htl, w1]; omega)]
  refine ⟨i, i + slen (rdM0 zs i) (rdN0 zs i), rfl, he, by omega, hend, hl, hn, hk, ?_⟩
  rw [wsOf_ok hk, w3, List.take_add]

set_option maxRecDepth 100000 in
set_option maxHeartbeats 8000000 in
theorem fnSegmentsReadWalk (a0 : Option Addr) (n0 c0 : Nat) (z0 : List Int) (w : World) (h0 : Came .u8 w a0 n0 c0 z0) :
    Calls Try.prog 4 #[.slice a0 n0 c0] w fun e w' => e = .returned (.bool true) ∧ Below w.heap.size w w' := by
  obtain ⟨hI, hnc, hcm, hwf⟩ := h0
  have HI := hide hI
  have HBY := hide (show ∀ b ∈ z0, 0 ≤ b ∧ b ≤ 255 from fun b hb => srb_u8 (hwf b hb))
  clear hI hwf
  unfold maxLen at hcm
  by_cases hbig : 4096 < n0
  · go_enter Try.func4, Try.ntmps4
    go_wp2_with fail
    refine (big_yes a0 n0 c0 w hbig (by omega)).mono ?_
    rintro e wz ⟨rfl, rfl⟩
    go_wp2_with fail
    go_ret
    exact ⟨rfl, Below.refl _ _⟩
  have hn0 : n0 ≤ 4096 := by omega
  go_enter Try.func4, Try.ntmps4
  go_wp2_with fail
  refine (big_no a0 n0 c0 w hn0).mono ?_
  rintro e wz ⟨rfl, rfl⟩
  go_wp2_with fail
  refine (drawReadSeg a0 n0 c0 z0 w HI.out hn0 HBY.out).mono ?_
  rintro e w1 ⟨zs, A, n, c, a, rfl, hn, hnc1, hcm1, ha0, ha1, hI1, hb1⟩
  have HI1 := hide hI1
  have HL1 := hide hI1.len
  have HB1 := hide hb1
  have HIR := hide (implRs rdTextOf A n c w1.heap.size zs a w1 hI1 (Nat.le_refl _) (by omega) hnc1 hcm1)
  have HSR := hide (fun w hI hB => specRs A n c w1.heap.size zs a w hI hB (by omega))
  unfold RsPost at HIR HSR
  have HKEY := hide (srd_key (zs := zs) (a := a))
  obtain ⟨k, hk⟩ : ∃ k, rsK zs a = k := ⟨_, rfl⟩
  obtain ⟨m, hm⟩ : ∃ m, rsM zs a = m := ⟨_, rfl⟩
  obtain ⟨s, hs⟩ : ∃ s, rsS zs a = s := ⟨_, rfl⟩
  obtain ⟨nx, hnx⟩ : ∃ nx, rsE zs a = nx := ⟨_, rfl⟩
  rw [hk, hm, hs, hnx] at HIR HSR HKEY
  clear hI1 hb1 hk hm hs hnx
  go_wp2_with fail
  refine (HIR.out).mono ?_
  rintro e w2 ⟨rfl, hb2⟩
  have HX2 := hide (SBox.start w2 26 m s)
  have HBw := hide (show Below w1.heap.size w1 (w2.alloc (.cells #[.int .i64 m, .string s] 26)) from hb2.alloc hb2.size _)
  have HI2 := hide (HI1.out.below HBw.out)
  clear hb2 HIR
  go_wp2_with fail
  refine (HSR.out _ HI2.out HBw.out.size).mono ?_
  rintro e w3 ⟨rfl, hb3⟩
  have HX3 := hide (HX2.out.next hb3)
  have HBv := hide (HBw.out.trans (hb3.mono HBw.out.size))
  have HY3 := hide (SBox.start w3 26 m s)
  have HX4 := hide (HX3.out.next HY3.out.2)
  have HB4 := hide (HBv.out.trans (HY3.out.2.mono HBv.out.size))
  obtain ⟨k0, k1⟩ := HX4.out.cells
  obtain ⟨y0, y1⟩ := HY3.out.cells
  have hq1 : (k != k) = false := by simp
  have hq2 : (nx != nx) = false := by simp
  obtain ⟨w4, hw4⟩ : ∃ w4, w3.alloc (.cells #[.int .i64 m, .string s] 26) = w4 := ⟨_, rfl⟩
  rw [hw4] at HX4 HB4 k0 k1 y0 y1
  have HBd := hide ((HB1.out.trans (HB4.out.mono HB1.out.size)).drew)
  have HXd := hide HX4.out.drew
  have HI4 := hide (HI1.out.below HB4.out)
  have hw14 := HB4.out.size
  clear hb3 HX2 HX3 HSR
  by_cases hk0 : k = 0
  case neg =>
    have hk1 : (k != 0) = true := by simpa using hk0
    go_wp2_with fail
    go_ret
    exact ⟨rfl, HB1.out.trans (HB4.out.mono HB1.out.size)⟩
  subst hk0
  obtain ⟨i, e, rfl, rfl, hie, hel, hl8, hs5, hk2, hw2⟩ := HKEY.out rfl
  rw [HL1.out] at hel
  have hin : i ≤ n := by omega
  have hic : (i : Int) ≤ (c : Int) := by omega
  have hec : (e : Int) ≤ (c : Int) := by omega
  have HWS := hide (implWs A i c w1.heap.size (zs.take i) m s (by omega) w4.drew (by
    have h := HI4.out
    refine ⟨by rw [List.length_take, HL1.out]; omega, fun hp => ?_⟩
    obtain ⟨b', off', e', hb, hcl⟩ := h.2 (by omega)
    exact ⟨b', off', e', hb, fun j y hy => hcl j y (by rw [List.getElem?_take] at hy; split at hy; exact hy; cases hy)⟩) hw14 (by omega))
  rw [hk2, hw2] at HWS
  have HTE := hide (show (zs.take e).length = e by rw [List.length_take, HL1.out]; omega)
  have HIE := hide (show Ints .i64 w4 w1.heap.size A e (zs.take e) by
    have h := HI4.out
    refine ⟨HTE.out, fun hp => ?_⟩
    obtain ⟨b', off', e', hb, hcl⟩ := h.2 (by omega)
    exact ⟨b', off', e', hb, fun j y hy => hcl j y (by rw [List.getElem?_take] at hy; split at hy; exact hy; cases hy)⟩)
  have hw4s := hw4
  clear hw4 hk2 hw2 HKEY
  go_wp2_with fail
  refine tail_begin (fun w' => w'.cell? ⟨w2.heap.size, 0, none⟩ = some (.int .i64 m) ∧ w'.cell? ⟨w2.heap.size, 1, none⟩ = some (.string s)) 10 (by kernel_rfl) HXd.out.cells (fun hS' => ?_)
  refine tail_take2 0 rfl (by kernel_rfl) (by kernel_rfl) (by kernel_rfl) (by decide) (fun _ _ _ h => h) (by rfl) (v := ?_) ?_ (by assumption) ?_
  rotate_left 1
  · intro w' hS'; obtain ⟨d0, d1⟩ := hS'; go_simp; try with_reducible rfl
  try simp only [Act.put, List.setIfInBounds_toArray, List.set_cons_zero, List.set_cons_succ]
  refine tail_take2 1 rfl (by kernel_rfl) (by kernel_rfl) (by kernel_rfl) (by decide) (fun _ _ _ h => h) (by rfl) (v := ?_) ?_ (by assumption) ?_
  rotate_left 1
  · intro w' hS'; obtain ⟨d0, d1⟩ := hS'; go_simp; try with_reducible rfl
  try simp only [Act.put, List.setIfInBounds_toArray, List.set_cons_zero, List.set_cons_succ]
  refine tail_take2 2 rfl (by kernel_rfl) (by kernel_rfl) (by kernel_rfl) (by decide) (fun _ _ _ h => h) (by rfl) (v := ?_) ?_ (by assumption) ?_
  rotate_left 1
  · intro w' hS'; obtain ⟨d0, d1⟩ := hS'; go_simp; try with_reducible rfl
  try simp only [Act.put, List.setIfInBounds_toArray, List.set_cons_zero, List.set_cons_succ]
  refine tail_take2 3 rfl (by kernel_rfl) (by kernel_rfl) (by kernel_rfl) (by decide) (fun _ _ _ h => h) (by rfl) (v := ?_) ?_ (by assumption) ?_
  rotate_left 1
  · intro w' hS'; obtain ⟨d0, d1⟩ := hS'; go_simp; try with_reducible rfl
  try simp only [Act.put, List.setIfInBounds_toArray, List.set_cons_zero, List.set_cons_succ]
  refine tail_call 4 rfl (by kernel_rfl) rfl (fun K hK => ?_)
  go_simp
  (go_at_call 14; refine (HWS.out).mono ?_; rintro e w5 ⟨A5, c5, rfl, hc5, ho5, hb5⟩; have HX5 := hide (HXd.out.next hb5); have HB5 := hide (HBd.out.trans (hb5.mono HBd.out.size)); rw [HTE.out]; have HO5 := hide (show Ints .i64 w5 w5.heap.size A5 e (zs.take e) by have h := ho5.ints; rw [HTE.out] at h; exact h); have HI5 := hide (HIE.out.below (show Below w1.heap.size w4 w5 from ⟨hb5.os, hb5.tape, hb5.output, hb5.size, fun q hq => hb5.block q (Nat.lt_of_lt_of_le hq hw14)⟩)); clear hb5 ho5)
  refine hK.out _ _ (by (try dsimp only); exact HX5.out.cells) (fun hS' => ?_)
  clear hK K
  try simp only [Act.put, List.setIfInBounds_toArray, List.set_cons_zero, List.set_cons_succ]
  refine tail_take2 5 rfl (by kernel_rfl) (by kernel_rfl) (by kernel_rfl) (by decide) (fun _ _ _ h => h) (by rfl) (v := ?_) ?_ (by assumption) ?_
  rotate_left 1
  · intro w' hS'; obtain ⟨d0, d1⟩ := hS'; go_simp; try with_reducible rfl
  try simp only [Act.put, List.setIfInBounds_toArray, List.set_cons_zero, List.set_cons_succ]
  refine tail_take2 6 rfl (by kernel_rfl) (by kernel_rfl) (by kernel_rfl) (by decide) (fun _ _ _ h => h) (by rfl) (v := ?_) ?_ (by assumption) ?_
  rotate_left 1
  · intro w' hS'; obtain ⟨d0, d1⟩ := hS'; go_simp; try with_reducible rfl
  try simp only [Act.put, List.setIfInBounds_toArray, List.set_cons_zero, List.set_cons_succ]
  refine tail_take2 7 rfl (by kernel_rfl) (by kernel_rfl) (by kernel_rfl) (by decide) (fun _ _ _ h => h) (by rfl) (v := ?_) ?_ (by assumption) ?_
  rotate_left 1
  · intro w' hS'; obtain ⟨d0, d1⟩ := hS'; go_simp; try with_reducible rfl
  try simp only [Act.put, List.setIfInBounds_toArray, List.set_cons_zero, List.set_cons_succ]
  refine tail_take2 8 rfl (by kernel_rfl) (by kernel_rfl) (by kernel_rfl) (by decide) (fun _ _ _ h => h) (by rfl) (v := ?_) ?_ (by assumption) ?_
  rotate_left 1
  · intro w' hS'; obtain ⟨d0, d1⟩ := hS'; go_simp; try with_reducible rfl
  try simp only [Act.put, List.setIfInBounds_toArray, List.set_cons_zero, List.set_cons_succ]
  refine tail_take2 9 rfl (by kernel_rfl) (by kernel_rfl) (by kernel_rfl) (by decide) (fun _ _ _ h => h) (by rfl) (v := ?_) ?_ (by assumption) ?_
  rotate_left 1
  · intro w' hS'; obtain ⟨d0, d1⟩ := hS'; go_simp; try with_reducible rfl
  try simp only [Act.put, List.setIfInBounds_toArray, List.set_cons_zero, List.set_cons_succ]
  refine tail_end (by kernel_rfl) ?_
  clear hS'
  go_wp2_with fail
  refine (likeSame A5 e c5 _ A e c _ (zs.take e) _ HO5.out HI5.out (by rw [HTE.out]; omega)).mono ?_
  rintro e' w6 ⟨rfl, hb6⟩
  have HB6 := hide (HB5.out.trans (hb6.mono HB5.out.size))
  clear hb6
  go_wp2_with fail
  go_ret
  exact ⟨rfl, HB6.out⟩
end Go.Proofs.Ythmpfnbcodolcaa
