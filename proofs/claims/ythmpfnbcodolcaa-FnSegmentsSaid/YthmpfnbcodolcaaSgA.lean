/-
  What the model writes of a segment: the bits of the list, then those of the segment.
  Condition: as each statement says.
-/
import Derived.Test.YthmpfnbcodolcaaSg9
import Derived.Test.YthmpfnbcodolcaaSgBits
import Derived.Test.YthmpfnbcodolcaaAppend
namespace Go.Proofs.Ythmpfnbcodolcaa
open Go.RowKit
set_option linter.unusedSimpArgs false
set_option linter.unusedVariables false

theorem seg_lens {zs : List Int} {m : Int} {bs : List Int} {j : Nat} (hz : zs.length ≤ 8192) (hj : j ≤ 255) (hd : (headB m bs.length).length = 11) : (zs ++ headB m bs.length ++ txP m bs j).length ≤ 20000 := by
  have h := txP_le m bs j
  rw [List.length_append, List.length_append, hd]; omega

set_option maxRecDepth 100000 in
set_option maxHeartbeats 4000000 in
theorem specWrite (A : Option Addr) (n c B : Nat) (zs : List Int) (m : Int) (s : ByteArray) (w : World) (hI : Ints .i64 w B A n zs) (hB : B ≤ w.heap.size) (hn8 : n ≤ 8192) (hv : segB m (bytesI s) = true) :
    Calls Try.prog 53 #[.slice A n c, .agg #[.int .i64 m, .string s]] w (Longer 2 .i64 w.heap.size (zs ++ segBits m (bytesI s)) w) := by
  have HX := hide (SBox.start w 26 m s)
  obtain ⟨c0, c1⟩ := HX.out.cells
  obtain ⟨hm, hl, hall⟩ := seg_ok hv
  have hlen := bytesI_len s
  rw [hlen] at hl
  have hn : n ≤ 1099511627776 := by omega
  have HL := hide hI.len
  have HI := hide hI
  have HG := hide (specGroup m hm)
  have HWD := hide (fun cc h1 h2 => specWidth m hm cc h1 h2)
  have HALL := hide hall
  have HSB := hide (show (m = 1 → sbase m = 10) ∧ (m = 2 → sbase m = 45) from ⟨fun h => by rw [h]; rfl, fun h => by rw [h]; rfl⟩)
  have HGS := hide (fun j t => gnum_spec (bs := bytesI s) hm (sbase m) HSB.out j t)
  have hsb0 : 0 ≤ sbase m ∧ sbase m ≤ 256 := by unfold sbase; (repeat' split) <;> omega
  have hg1 := gsz_pos m
  have hg3 := gsz_le m
  have HSZ := hide hlen
  have hnz : n ≤ 8192 := hn8
  clear hI hv hall hlen
  go_enter Try.func53, Try.ntmps53
  go_wp2_with fail
  clear c0 c1
  refine tail_begin (fun w' => w'.cell? ⟨w.heap.size, 0, none⟩ = some (.int .i64 m) ∧ w'.cell? ⟨w.heap.size, 1, none⟩ = some (.string s)) 9 (by kernel_rfl) HX.out.drew.cells (fun hS' => ?_)
  refine tail_take2 0 rfl (by kernel_rfl) (by kernel_rfl) (by kernel_rfl) (by decide) (fun _ _ _ h => h) (by rfl) (v := ?_) ?_ (by assumption) ?_
  rotate_left 1
  · intro w' hS'; obtain ⟨d0, d1⟩ := hS'; go_simp; try with_reducible rfl
  try simp only [Act.put, List.setIfInBounds_toArray, List.set_cons_zero, List.set_cons_succ]
  refine tail_take2 1 rfl (by kernel_rfl) (by kernel_rfl) (by kernel_rfl) (by decide) (fun _ _ _ h => h) (by rfl) (v := ?_) ?_ (by assumption) ?_
  rotate_left 1
  · intro w' hS'; obtain ⟨d0, d1⟩ := hS'; go_simp; try with_reducible rfl
  try simp only [Act.put, List.setIfInBounds_toArray, List.set_cons_zero, List.set_cons_succ]
  refine tail_take2 2 rfl (by kernel_rfl) (by kernel_rfl) (by kernel_rfl) (by decide) (fun _ _ _ h => h) (by rfl) (v := ?_) ?_ (by assumption) ?_
  rotate_left 1
  · intro w' hS'; obtain ⟨d0, d1⟩ := hS'; go_simp; try with_reducible rfl
  try simp only [Act.put, List.setIfInBounds_toArray, List.set_cons_zero, List.set_cons_succ]
  refine tail_take2 4 rfl (by kernel_rfl) (by kernel_rfl) (by kernel_rfl) (by decide) (fun _ _ _ h => h) (by rfl) (v := ?_) ?_ (by assumption) ?_
  rotate_left 1
  · intro w' hS'; obtain ⟨d0, d1⟩ := hS'; go_simp; try with_reducible rfl
  try simp only [Act.put, List.setIfInBounds_toArray, List.set_cons_zero, List.set_cons_succ]
  refine tail_take2 5 rfl (by kernel_rfl) (by kernel_rfl) (by kernel_rfl) (by decide) (fun _ _ _ h => h) (by rfl) (v := ?_) ?_ (by assumption) ?_
  rotate_left 1
  · intro w' hS'; obtain ⟨d0, d1⟩ := hS'; go_simp; try with_reducible rfl
  try simp only [Act.put, List.setIfInBounds_toArray, List.set_cons_zero, List.set_cons_succ]
  refine tail_take2 6 rfl (by kernel_rfl) (by kernel_rfl) (by kernel_rfl) (by decide) (fun _ _ _ h => h) (by rfl) (v := ?_) ?_ (by assumption) ?_
  rotate_left 1
  · intro w' hS'; obtain ⟨d0, d1⟩ := hS'; go_simp; try with_reducible rfl
  try simp only [Act.put, List.setIfInBounds_toArray, List.set_cons_zero, List.set_cons_succ]
  refine tail_call 3 rfl (by kernel_rfl) rfl (fun K hK => ?_)
  go_simp
  (go_at_call 74; refine (specAppendL A n c B 3 zs m _ (HI.out.below (HX.out.drew.2.mono hB)) (Nat.le_trans hB (Nat.le_of_lt HX.out.drew.lt)) hn (by omega) (by omega) (by omega)).mono ?_; rintro e w1 ⟨v1, rfl, ho1, hb1⟩; obtain ⟨Z1, hZ1⟩ : ∃ Z1, zs ++ bitsOf m 3 = Z1 := ⟨_, rfl⟩; rw [show bitsOf m 3 = bitsOf m (3 : Nat) from rfl, hZ1] at ho1; have HZ1 := hide hZ1; clear hZ1; have HX1 := hide (HX.out.drew.next hb1); have HO1 := hide (ho1.low (Nat.le_of_lt HX.out.drew.lt)); obtain ⟨A1, c1', rfl, hc1⟩ := HO1.out.form; have HS1 := hide hb1.size; clear ho1 hb1)
  refine hK.out _ _ (by (try dsimp only); exact HX1.out.cells) (fun hS' => ?_)
  clear hK K
  try simp only [Act.put, List.setIfInBounds_toArray, List.set_cons_zero, List.set_cons_succ]
  refine tail_call 7 rfl (by kernel_rfl) rfl (fun K hK => ?_)
  go_simp
  (go_at_call 74; refine (specAppendL A1 _ c1' w1.heap.size 8 _ (s.size : Nat) _ HO1.out.ints (Nat.le_refl _) (by rw [← HZ1.out, List.length_append, bitsOf_len, HL.out]; omega) (by omega) (by omega) (by omega)).mono ?_; rintro e w2 ⟨v2, rfl, ho2, hb2⟩; have HX2 := hide (HX1.out.next hb2); have HO2 := hide (ho2.low (Nat.le_of_lt HX1.out.lt)); clear ho2 hb2)
  refine hK.out _ _ (by (try dsimp only); exact HX2.out.cells) (fun hS' => ?_)
  clear hK K
  try simp only [Act.put, List.setIfInBounds_toArray, List.set_cons_zero, List.set_cons_succ]
  refine tail_take2 8 rfl (by kernel_rfl) (by kernel_rfl) (by kernel_rfl) (by decide) (fun _ _ _ h => h) (by rfl) (v := ?_) ?_ (by assumption) ?_
  rotate_left 1
  · intro w' hS'; obtain ⟨d0, d1⟩ := hS'; go_simp; try with_reducible rfl
  try simp only [Act.put, List.setIfInBounds_toArray, List.set_cons_zero, List.set_cons_succ]
  refine tail_end (by kernel_rfl) ?_
  have HO2 := hide (show Own w2 w.heap.size 2 .i64 v2 (zs ++ headB m (bytesI s).length ++ txP m (bytesI s) 0) by rw [txP_zero, List.append_nil, headB, HSZ.out, ← List.append_assoc, HZ1.out]; exact HO2.out)
  clear HO1 HX1 HX
  obtain ⟨c0, c1⟩ := HX2.out.cells
  go_wp2_with fail
  refine (HG.out _).mono ?_
  rintro e w3 ⟨rfl, hw3⟩
  rw [hw3]
  clear hw3 HG
  obtain ⟨G, hG⟩ : ∃ G, gsz m = G := ⟨_, rfl⟩
  rw [hG] at HGS hg1 hg3 ⊢
  obtain ⟨D, hD⟩ : ∃ D, sbase m = D := ⟨_, rfl⟩
  rw [hD] at HGS hsb0 ⊢
  have HGG := hide hG
  clear hG hD HSB
  go_wp2_with fail
  go_loopw [5, 9] (fun v i wr => ∃ j : Nat, j ≤ gct G s.size ∧ i = .int .i64 (j * G : Nat) ∧ Own wr w.heap.size 2 .i64 v (zs ++ headB m (bytesI s).length ++ txP m (bytesI s) j) ∧ SBox w wr 26 m s) (fun _ i _ => s.size - (intOf i).toNat)
  case atStart => exact ⟨0, by omega, by simp, HO2.out, HX2.out⟩
  case round =>
    clear HO2 HX2 c0 c1
    obtain ⟨v, hvv⟩ : ∃ v, v = u5 := ⟨_, rfl⟩
    subst hvv
    obtain ⟨j, hj, rfl, hO, hX⟩ := hrel
    have HOr := hide hO
    have HXr := hide hX
    clear hO hX
    obtain ⟨c0, c1⟩ := HXr.out.cells
    have hjn := Nat.le_trans hj (gct_le hg1 s.size)
    by_cases hlt : j * G < s.size
    · have hmin : min G (s.size - j * G) = (grp G (bytesI s) j).length := by rw [grp_len, HSZ.out]
      obtain ⟨mm, hmm⟩ : ∃ mm, (grp G (bytesI s) j).length = mm := ⟨_, rfl⟩
      rw [hmm] at hmin
      have hmm1 : 1 ≤ mm := by omega
      have hmmG : mm ≤ G := by omega
      have hmms : j * G + mm ≤ s.size := by omega
      have HMM := hide hmm
      have hws : IntKind.i64.wrap ((s.size : Int) - ((j * G : Nat) : Int)) = ((s.size - j * G : Nat) : Int) := by rw [IntWalk.i64_in _ ⟨by omega, by omega⟩]; omega
      obtain ⟨p, hp⟩ : ∃ p, j * G = p := ⟨_, rfl⟩
      have HP := hide hp
      rw [hp] at hlt hmin hmms hws ⊢
      obtain ⟨r, hr⟩ : ∃ r, s.size - p = r := ⟨_, rfl⟩
      rw [hr] at hmin hws
      have hq2 : IntKind.i64.wrap ((p : Int) + (mm : Int)) = ((p + mm : Nat) : Int) := by rw [IntWalk.i64_in _ ⟨by omega, by omega⟩]; omega
      have HNX := hide (show (j + 1) * G = p + G by rw [Nat.add_mul, Nat.one_mul, hp])
      clear hmm hp hr
      go_wp2_with fail
      · obtain rfl : mm = r := by omega
        go_loopw [11, 12] (fun q k wr' => ∃ (t : Nat) (x : Int), t ≤ mm ∧ k = .int .i64 (p + t : Nat) ∧ q = .int .i64 x ∧ Hid (gnumB D m ((grp G (bytesI s) j).take t) = x) ∧ Own wr' w.heap.size 2 .i64 v (zs ++ headB m (bytesI s).length ++ txP m (bytesI s) j) ∧ SBox w wr' 26 m s) (fun _ k _ => p + mm - (intOf k).toNat)
        case atStart => exact ⟨0, 0, by omega, by simp, rfl, rfl, HOr.out, HXr.out⟩
        case round =>
          clear HOr HXr c0 c1
          obtain ⟨t, x, ht, rfl, rfl, hx, hO, hX⟩ := hrel
          have HOr := hide hO
          have HXr := hide hX
          clear hO hX
          obtain ⟨c0, c1⟩ := HXr.out.cells
          have hxb : 0 ≤ x ∧ x < 16777216 := by
            rw [← hx.out, HGS.out, ← HGG.out]
            exact gnum_bd HALL.out j t
          have HI2 := hide (show p + t = p + t from rfl)
          obtain ⟨i, hi⟩ : ∃ i, p + t = i := ⟨_, rfl⟩
          rw [hi] at HI2 ⊢
          obtain ⟨pm, hpm⟩ : ∃ pm, p + mm = pm := ⟨_, rfl⟩
          have HPM := hide hpm
          have hq3 := hq2
          rw [hpm] at hq3
          by_cases htm : t < mm
          · have hit : i < s.size := by omega
            have z1 : (i : Int) < (pm : Int) := by omega
            obtain ⟨y, hy, hy2, hy0, hy1⟩ := byteAt s hit
            have HST := hide (gnum_step (B := D) (m := m) (G := G) (bs := bytesI s) (j := j) (t := t) (by omega) (by rw [HP.out, hi]; exact hy2))
            have hcc := all_mem HALL.out (List.mem_of_getElem? hy2)
            have hgb := gbase_le m
            obtain ⟨cv, hcv⟩ : ∃ cv, cval m y = cv := ⟨_, rfl⟩
            have HCV := hide hcv
            rw [hcv] at hcc
            obtain ⟨q1, hq1⟩ : ∃ q1, x * D = q1 := ⟨_, rfl⟩
            have hq10 : 0 ≤ q1 := by rw [← hq1]; exact Int.mul_nonneg hxb.1 hsb0.1
            have hq11 : q1 ≤ 16777216 * 256 := by rw [← hq1]; exact Int.mul_le_mul (by omega) hsb0.2 hsb0.1 (by omega)
            have hwm : IntKind.i64.wrap (x * D) = q1 := by rw [hq1]; exact IntWalk.i64_in _ ⟨by omega, by omega⟩
            have hwa : IntKind.i64.wrap (q1 + cv) = q1 + cv := IntWalk.i64_in _ ⟨by omega, by omega⟩
            have hwy : IntKind.i64.wrap y = y := IntWalk.i64_in _ ⟨by omega, by omega⟩
            have HNQ := hide (show gnumB D m ((grp G (bytesI s) j).take (t + 1)) = q1 + cv by rw [HST.out, hx.out, hcv, hq1])
            have HII := hide hi
            clear hi hcv hq1 hpm hq2 hy2 hx HI2 hcc hgb hxb
            go_wp2_with fail
            clear c0 c1
            refine tail_begin (fun w' => w'.cell? ⟨w.heap.size, 0, none⟩ = some (.int .i64 m) ∧ w'.cell? ⟨w.heap.size, 1, none⟩ = some (.string s)) 13 (by kernel_rfl) HXr.out.drew.cells (fun hS' => ?_)
            refine tail_take2 0 rfl (by kernel_rfl) (by kernel_rfl) (by kernel_rfl) (by decide) (fun _ _ _ h => h) (by rfl) (v := ?_) ?_ (by assumption) ?_
            rotate_left 1
            · intro w' hS'; obtain ⟨d0, d1⟩ := hS'; go_simp; try with_reducible rfl
            try simp only [Act.put, List.setIfInBounds_toArray, List.set_cons_zero, List.set_cons_succ]
            refine tail_take2 1 rfl (by kernel_rfl) (by kernel_rfl) (by kernel_rfl) (by decide) (fun _ _ _ h => h) (by rfl) (v := ?_) ?_ (by assumption) ?_
            rotate_left 1
            · intro w' hS'; obtain ⟨d0, d1⟩ := hS'; go_simp; try with_reducible rfl
            try simp only [Act.put, List.setIfInBounds_toArray, List.set_cons_zero, List.set_cons_succ]
            refine tail_take2 2 rfl (by kernel_rfl) (by kernel_rfl) (by kernel_rfl) (by decide) (fun _ _ _ h => h) (by rfl) (v := ?_) ?_ (by assumption) ?_
            rotate_left 1
            · intro w' hS'; obtain ⟨d0, d1⟩ := hS'; go_simp; try with_reducible rfl
            try simp only [Act.put, List.setIfInBounds_toArray, List.set_cons_zero, List.set_cons_succ]
            refine tail_take2 3 rfl (by kernel_rfl) (by kernel_rfl) (by kernel_rfl) (by decide) (fun _ _ _ h => h) (by rfl) (v := ?_) ?_ (by assumption) ?_
            rotate_left 1
            · intro w' hS'; obtain ⟨d0, d1⟩ := hS'; go_simp; try with_reducible rfl
            try simp only [Act.put, List.setIfInBounds_toArray, List.set_cons_zero, List.set_cons_succ]
            refine tail_take2 4 rfl (by kernel_rfl) (by kernel_rfl) (by kernel_rfl) (by decide) (fun _ _ _ h => h) (by rfl) (v := ?_) ?_ (by assumption) ?_
            rotate_left 1
            · intro w' hS'; obtain ⟨d0, d1⟩ := hS'; go_simp; try with_reducible rfl
            try simp only [Act.put, List.setIfInBounds_toArray, List.set_cons_zero, List.set_cons_succ]
            refine tail_take2 5 rfl (by kernel_rfl) (by kernel_rfl) (by kernel_rfl) (by decide) (fun _ _ _ h => h) (by rfl) (v := ?_) ?_ (by assumption) ?_
            rotate_left 1
            · intro w' hS'; obtain ⟨d0, d1⟩ := hS'; go_simp; try with_reducible rfl
            try simp only [Act.put, List.setIfInBounds_toArray, List.set_cons_zero, List.set_cons_succ]
            refine tail_take2 6 rfl (by kernel_rfl) (by kernel_rfl) (by kernel_rfl) (by decide) (fun _ _ _ h => h) (by rfl) (v := ?_) ?_ (by assumption) ?_
            rotate_left 1
            · intro w' hS'; obtain ⟨d0, d1⟩ := hS'; go_simp; try with_reducible rfl
            try simp only [Act.put, List.setIfInBounds_toArray, List.set_cons_zero, List.set_cons_succ]
            refine tail_take2 7 rfl (by kernel_rfl) (by kernel_rfl) (by kernel_rfl) (by decide) (fun _ _ _ h => h) (by rfl) (v := ?_) ?_ (by assumption) ?_
            rotate_left 1
            · intro w' hS'; obtain ⟨d0, d1⟩ := hS'; go_simp; try with_reducible rfl
            try simp only [Act.put, List.setIfInBounds_toArray, List.set_cons_zero, List.set_cons_succ]
            refine tail_take2 8 rfl (by kernel_rfl) (by kernel_rfl) (by kernel_rfl) (by decide) (fun _ _ _ h => h) (by rfl) (v := ?_) ?_ (by assumption) ?_
            rotate_left 1
            · intro w' hS'; obtain ⟨d0, d1⟩ := hS'; go_simp; try with_reducible rfl
            try simp only [Act.put, List.setIfInBounds_toArray, List.set_cons_zero, List.set_cons_succ]
            refine tail_take2 9 rfl (by kernel_rfl) (by kernel_rfl) (by kernel_rfl) (by decide) (fun _ _ _ h => h) (by rfl) (v := ?_) ?_ (by assumption) ?_
            rotate_left 1
            · intro w' hS'; obtain ⟨d0, d1⟩ := hS'; go_simp; try with_reducible rfl
            try simp only [Act.put, List.setIfInBounds_toArray, List.set_cons_zero, List.set_cons_succ]
            refine tail_call 10 rfl (by kernel_rfl) rfl (fun K hK => ?_)
            go_simp
            (go_at_call 88; refine (specValue m y _).mono ?_; rintro e w3 ⟨rfl, hw3⟩; rw [hw3]; clear hw3; rw [HCV.out])
            refine hK.out _ _ (by (try dsimp only); exact HXr.out.drew.cells) (fun hS' => ?_)
            clear hK K
            try simp only [Act.put, List.setIfInBounds_toArray, List.set_cons_zero, List.set_cons_succ]
            refine tail_take2 11 rfl (by kernel_rfl) (by kernel_rfl) (by kernel_rfl) (by decide) (fun _ _ _ h => h) (by rfl) (v := ?_) ?_ (by assumption) ?_
            rotate_left 1
            · intro w' hS'; obtain ⟨d0, d1⟩ := hS'; go_simp; try with_reducible rfl
            try simp only [Act.put, List.setIfInBounds_toArray, List.set_cons_zero, List.set_cons_succ]
            refine tail_take2 12 rfl (by kernel_rfl) (by kernel_rfl) (by kernel_rfl) (by decide) (fun _ _ _ h => h) (by rfl) (v := ?_) ?_ (by assumption) ?_
            rotate_left 1
            · intro w' hS'; obtain ⟨d0, d1⟩ := hS'; go_simp; try with_reducible rfl
            try simp only [Act.put, List.setIfInBounds_toArray, List.set_cons_zero, List.set_cons_succ]
            refine tail_end (by kernel_rfl) ?_
            go_wp2_with fail
            go_roundw
            case rel => exact ⟨t + 1, q1 + cv, by omega, by have := HII.out; go_num, rfl, HNQ, HOr.out.drew, HXr.out.drew⟩
            case measure => have := HII.out; simp [intOf]; omega
          · have htt : t = mm := by omega
            have z1 : ¬ (i : Int) < (pm : Int) := by omega
            have HLEN := hide (seg_lens (zs := zs) (m := m) (bs := bytesI s) (j := j) (by rw [HL.out]; exact hnz) (by omega) (headB_len _ _))
            have HQ := hide (show zs ++ headB m (bytesI s).length ++ txP m (bytesI s) (j + 1) = zs ++ headB m (bytesI s).length ++ txP m (bytesI s) j ++ bitsOf x (wid m mm) by
              have hgx : gnum m (grp G (bytesI s) j) = x := by
                rw [← hx.out, HGS.out, htt, List.take_of_length_le (Nat.le_of_eq HMM.out)]
              rw [txP_succ, HGG.out, HMM.out, hgx, List.append_assoc, List.append_assoc, List.append_assoc])
            have HW := hide (HWD.out mm hmm1 (by rw [HGG.out]; omega))
            have hwd := wid_le m mm
            obtain ⟨W, hW⟩ : ∃ W, wid m mm = W := ⟨_, rfl⟩
            rw [hW] at HW hwd HQ
            have hpg : IntKind.i64.wrap ((p : Int) + (G : Int)) = ((p + G : Nat) : Int) := by rw [IntWalk.i64_in _ ⟨by omega, by omega⟩]; omega
            obtain ⟨Z5, hZ5⟩ : ∃ Z5, zs ++ headB m (bytesI s).length ++ txP m (bytesI s) j = Z5 := ⟨_, rfl⟩
            rw [hZ5] at HOr HLEN HQ
            clear hW hi hpm hq2 htt HI2 hZ5 hx
            go_wp2_with fail
            refine (HW.out _).mono ?_
            rintro e w4 ⟨rfl, hb4⟩
            have HX4 := hide (HXr.out.next hb4)
            have HO4 := hide (HOr.out.below hb4 (Nat.le_refl _))
            clear hb4 HOr HXr c0 c1
            obtain ⟨A5, c5, hv5, hc5⟩ := HO4.out.form
            rw [hv5] at HO4 ⊢
            go_wp2_with fail
            refine (specAppendL A5 Z5.length c5 w4.heap.size W Z5 x w4 HO4.out.ints (Nat.le_refl _) (by have := HLEN.out; omega) (by omega) (by omega) (by omega)).mono ?_
            rintro e w5 ⟨v6, rfl, ho5, hb5⟩
            have HX5 := hide (HX4.out.next hb5)
            have HO5 := hide (ho5.low (Nat.le_of_lt HX4.out.lt))
            clear ho5 hb5
            go_wp2_with fail
            go_roundw
            case rel => exact ⟨j + 1, (gct_lt hg1).2 (by rw [HP.out]; exact hlt), by first | rw [HNX.out, HPM.out] | rw [HNX.out, Int.natCast_add], by rw [HQ.out]; exact HO5.out, HX5.out⟩
            case measure => simp [intOf]; omega
      · obtain rfl : mm = G := by omega
        go_loopw [11, 12] (fun q k wr' => ∃ (t : Nat) (x : Int), t ≤ mm ∧ k = .int .i64 (p + t : Nat) ∧ q = .int .i64 x ∧ Hid (gnumB D m ((grp mm (bytesI s) j).take t) = x) ∧ Own wr' w.heap.size 2 .i64 v (zs ++ headB m (bytesI s).length ++ txP m (bytesI s) j) ∧ SBox w wr' 26 m s) (fun _ k _ => p + mm - (intOf k).toNat)
        case atStart => exact ⟨0, 0, by omega, by simp, rfl, rfl, HOr.out, HXr.out⟩
        case round =>
          clear HOr HXr c0 c1
          obtain ⟨t, x, ht, rfl, rfl, hx, hO, hX⟩ := hrel
          have HOr := hide hO
          have HXr := hide hX
          clear hO hX
          obtain ⟨c0, c1⟩ := HXr.out.cells
          have hxb : 0 ≤ x ∧ x < 16777216 := by
            rw [← hx.out, HGS.out, ← HGG.out]
            exact gnum_bd HALL.out j t
          have HI2 := hide (show p + t = p + t from rfl)
          obtain ⟨i, hi⟩ : ∃ i, p + t = i := ⟨_, rfl⟩
          rw [hi] at HI2 ⊢
          obtain ⟨pm, hpm⟩ : ∃ pm, p + mm = pm := ⟨_, rfl⟩
          have HPM := hide hpm
          have hq3 := hq2
          rw [hpm] at hq3
          by_cases htm : t < mm
          · have hit : i < s.size := by omega
            have z1 : (i : Int) < (pm : Int) := by omega
            obtain ⟨y, hy, hy2, hy0, hy1⟩ := byteAt s hit
            have HST := hide (gnum_step (B := D) (m := m) (G := mm) (bs := bytesI s) (j := j) (t := t) (by omega) (by rw [HP.out, hi]; exact hy2))
            have hcc := all_mem HALL.out (List.mem_of_getElem? hy2)
            have hgb := gbase_le m
            obtain ⟨cv, hcv⟩ : ∃ cv, cval m y = cv := ⟨_, rfl⟩
            have HCV := hide hcv
            rw [hcv] at hcc
            obtain ⟨q1, hq1⟩ : ∃ q1, x * D = q1 := ⟨_, rfl⟩
            have hq10 : 0 ≤ q1 := by rw [← hq1]; exact Int.mul_nonneg hxb.1 hsb0.1
            have hq11 : q1 ≤ 16777216 * 256 := by rw [← hq1]; exact Int.mul_le_mul (by omega) hsb0.2 hsb0.1 (by omega)
            have hwm : IntKind.i64.wrap (x * D) = q1 := by rw [hq1]; exact IntWalk.i64_in _ ⟨by omega, by omega⟩
            have hwa : IntKind.i64.wrap (q1 + cv) = q1 + cv := IntWalk.i64_in _ ⟨by omega, by omega⟩
            have hwy : IntKind.i64.wrap y = y := IntWalk.i64_in _ ⟨by omega, by omega⟩
            have HNQ := hide (show gnumB D m ((grp mm (bytesI s) j).take (t + 1)) = q1 + cv by rw [HST.out, hx.out, hcv, hq1])
            have HII := hide hi
            clear hi hcv hq1 hpm hq2 hy2 hx HI2 hcc hgb hxb
            go_wp2_with fail
            clear c0 c1
            refine tail_begin (fun w' => w'.cell? ⟨w.heap.size, 0, none⟩ = some (.int .i64 m) ∧ w'.cell? ⟨w.heap.size, 1, none⟩ = some (.string s)) 13 (by kernel_rfl) HXr.out.drew.cells (fun hS' => ?_)
            refine tail_take2 0 rfl (by kernel_rfl) (by kernel_rfl) (by kernel_rfl) (by decide) (fun _ _ _ h => h) (by rfl) (v := ?_) ?_ (by assumption) ?_
            rotate_left 1
            · intro w' hS'; obtain ⟨d0, d1⟩ := hS'; go_simp; try with_reducible rfl
            try simp only [Act.put, List.setIfInBounds_toArray, List.set_cons_zero, List.set_cons_succ]
            refine tail_take2 1 rfl (by kernel_rfl) (by kernel_rfl) (by kernel_rfl) (by decide) (fun _ _ _ h => h) (by rfl) (v := ?_) ?_ (by assumption) ?_
            rotate_left 1
            · intro w' hS'; obtain ⟨d0, d1⟩ := hS'; go_simp; try with_reducible rfl
            try simp only [Act.put, List.setIfInBounds_toArray, List.set_cons_zero, List.set_cons_succ]
            refine tail_take2 2 rfl (by kernel_rfl) (by kernel_rfl) (by kernel_rfl) (by decide) (fun _ _ _ h => h) (by rfl) (v := ?_) ?_ (by assumption) ?_
            rotate_left 1
            · intro w' hS'; obtain ⟨d0, d1⟩ := hS'; go_simp; try with_reducible rfl
            try simp only [Act.put, List.setIfInBounds_toArray, List.set_cons_zero, List.set_cons_succ]
            refine tail_take2 3 rfl (by kernel_rfl) (by kernel_rfl) (by kernel_rfl) (by decide) (fun _ _ _ h => h) (by rfl) (v := ?_) ?_ (by assumption) ?_
            rotate_left 1
            · intro w' hS'; obtain ⟨d0, d1⟩ := hS'; go_simp; try with_reducible rfl
            try simp only [Act.put, List.setIfInBounds_toArray, List.set_cons_zero, List.set_cons_succ]
            refine tail_take2 4 rfl (by kernel_rfl) (by kernel_rfl) (by kernel_rfl) (by decide) (fun _ _ _ h => h) (by rfl) (v := ?_) ?_ (by assumption) ?_
            rotate_left 1
            · intro w' hS'; obtain ⟨d0, d1⟩ := hS'; go_simp; try with_reducible rfl
            try simp only [Act.put, List.setIfInBounds_toArray, List.set_cons_zero, List.set_cons_succ]
            refine tail_take2 5 rfl (by kernel_rfl) (by kernel_rfl) (by kernel_rfl) (by decide) (fun _ _ _ h => h) (by rfl) (v := ?_) ?_ (by assumption) ?_
            rotate_left 1
            · intro w' hS'; obtain ⟨d0, d1⟩ := hS'; go_simp; try with_reducible rfl
            try simp only [Act.put, List.setIfInBounds_toArray, List.set_cons_zero, List.set_cons_succ]
            refine tail_take2 6 rfl (by kernel_rfl) (by kernel_rfl) (by kernel_rfl) (by decide) (fun _ _ _ h => h) (by rfl) (v := ?_) ?_ (by assumption) ?_
            rotate_left 1
            · intro w' hS'; obtain ⟨d0, d1⟩ := hS'; go_simp; try with_reducible rfl
            try simp only [Act.put, List.setIfInBounds_toArray, List.set_cons_zero, List.set_cons_succ]
            refine tail_take2 7 rfl (by kernel_rfl) (by kernel_rfl) (by kernel_rfl) (by decide) (fun _ _ _ h => h) (by rfl) (v := ?_) ?_ (by assumption) ?_
            rotate_left 1
            · intro w' hS'; obtain ⟨d0, d1⟩ := hS'; go_simp; try with_reducible rfl
            try simp only [Act.put, List.setIfInBounds_toArray, List.set_cons_zero, List.set_cons_succ]
            refine tail_take2 8 rfl (by kernel_rfl) (by kernel_rfl) (by kernel_rfl) (by decide) (fun _ _ _ h => h) (by rfl) (v := ?_) ?_ (by assumption) ?_
            rotate_left 1
            · intro w' hS'; obtain ⟨d0, d1⟩ := hS'; go_simp; try with_reducible rfl
            try simp only [Act.put, List.setIfInBounds_toArray, List.set_cons_zero, List.set_cons_succ]
            refine tail_take2 9 rfl (by kernel_rfl) (by kernel_rfl) (by kernel_rfl) (by decide) (fun _ _ _ h => h) (by rfl) (v := ?_) ?_ (by assumption) ?_
            rotate_left 1
            · intro w' hS'; obtain ⟨d0, d1⟩ := hS'; go_simp; try with_reducible rfl
            try simp only [Act.put, List.setIfInBounds_toArray, List.set_cons_zero, List.set_cons_succ]
            refine tail_call 10 rfl (by kernel_rfl) rfl (fun K hK => ?_)
            go_simp
            (go_at_call 88; refine (specValue m y _).mono ?_; rintro e w3 ⟨rfl, hw3⟩; rw [hw3]; clear hw3; rw [HCV.out])
            refine hK.out _ _ (by (try dsimp only); exact HXr.out.drew.cells) (fun hS' => ?_)
            clear hK K
            try simp only [Act.put, List.setIfInBounds_toArray, List.set_cons_zero, List.set_cons_succ]
            refine tail_take2 11 rfl (by kernel_rfl) (by kernel_rfl) (by kernel_rfl) (by decide) (fun _ _ _ h => h) (by rfl) (v := ?_) ?_ (by assumption) ?_
            rotate_left 1
            · intro w' hS'; obtain ⟨d0, d1⟩ := hS'; go_simp; try with_reducible rfl
            try simp only [Act.put, List.setIfInBounds_toArray, List.set_cons_zero, List.set_cons_succ]
            refine tail_take2 12 rfl (by kernel_rfl) (by kernel_rfl) (by kernel_rfl) (by decide) (fun _ _ _ h => h) (by rfl) (v := ?_) ?_ (by assumption) ?_
            rotate_left 1
            · intro w' hS'; obtain ⟨d0, d1⟩ := hS'; go_simp; try with_reducible rfl
            try simp only [Act.put, List.setIfInBounds_toArray, List.set_cons_zero, List.set_cons_succ]
            refine tail_end (by kernel_rfl) ?_
            go_wp2_with fail
            go_roundw
            case rel => exact ⟨t + 1, q1 + cv, by omega, by have := HII.out; go_num, rfl, HNQ, HOr.out.drew, HXr.out.drew⟩
            case measure => have := HII.out; simp [intOf]; omega
          · have htt : t = mm := by omega
            have z1 : ¬ (i : Int) < (pm : Int) := by omega
            have HLEN := hide (seg_lens (zs := zs) (m := m) (bs := bytesI s) (j := j) (by rw [HL.out]; exact hnz) (by omega) (headB_len _ _))
            have HQ := hide (show zs ++ headB m (bytesI s).length ++ txP m (bytesI s) (j + 1) = zs ++ headB m (bytesI s).length ++ txP m (bytesI s) j ++ bitsOf x (wid m mm) by
              have hgx : gnum m (grp mm (bytesI s) j) = x := by
                rw [← hx.out, HGS.out, htt, List.take_of_length_le (Nat.le_of_eq HMM.out)]
              rw [txP_succ, HGG.out, HMM.out, hgx, List.append_assoc, List.append_assoc, List.append_assoc])
            have HW := hide (HWD.out mm hmm1 (by rw [HGG.out]; omega))
            have hwd := wid_le m mm
            obtain ⟨W, hW⟩ : ∃ W, wid m mm = W := ⟨_, rfl⟩
            rw [hW] at HW hwd HQ
            have hpg : IntKind.i64.wrap ((p : Int) + (mm : Int)) = ((p + mm : Nat) : Int) := by rw [IntWalk.i64_in _ ⟨by omega, by omega⟩]; omega
            obtain ⟨Z5, hZ5⟩ : ∃ Z5, zs ++ headB m (bytesI s).length ++ txP m (bytesI s) j = Z5 := ⟨_, rfl⟩
            rw [hZ5] at HOr HLEN HQ
            clear hW hi hpm hq2 htt HI2 hZ5 hx
            go_wp2_with fail
            refine (HW.out _).mono ?_
            rintro e w4 ⟨rfl, hb4⟩
            have HX4 := hide (HXr.out.next hb4)
            have HO4 := hide (HOr.out.below hb4 (Nat.le_refl _))
            clear hb4 HOr HXr c0 c1
            obtain ⟨A5, c5, hv5, hc5⟩ := HO4.out.form
            rw [hv5] at HO4 ⊢
            go_wp2_with fail
            refine (specAppendL A5 Z5.length c5 w4.heap.size W Z5 x w4 HO4.out.ints (Nat.le_refl _) (by have := HLEN.out; omega) (by omega) (by omega) (by omega)).mono ?_
            rintro e w5 ⟨v6, rfl, ho5, hb5⟩
            have HX5 := hide (HX4.out.next hb5)
            have HO5 := hide (ho5.low (Nat.le_of_lt HX4.out.lt))
            clear ho5 hb5
            go_wp2_with fail
            go_roundw
            case rel => exact ⟨j + 1, (gct_lt hg1).2 (by rw [HP.out]; exact hlt), by first | rw [HNX.out, HPM.out] | rw [HNX.out, Int.natCast_add], by rw [HQ.out]; exact HO5.out, HX5.out⟩
            case measure => simp [intOf]; omega
    · have hje := gct_end hg1 hj hlt
      have HF := hide (show zs ++ headB m (bytesI s).length ++ txP m (bytesI s) j = zs ++ segBits m (bytesI s) by rw [hje, segBits, HSZ.out, HGG.out, List.append_assoc])
      obtain ⟨p, hp⟩ : ∃ p, j * G = p := ⟨_, rfl⟩
      rw [hp] at hlt ⊢
      clear hp hje
      go_wp2_with fail
      go_ret
      exact ⟨v, rfl, by rw [← HF.out]; exact HOr.out, HXr.out.2⟩
end Go.Proofs.Ythmpfnbcodolcaa
