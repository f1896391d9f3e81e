/-
  What the model writes of a segment: the bits of the list, then those of the segment.
  What the program appends of a segment: its bits, group by group.
  WriteSegment, of the program and of the model.
  Condition: as each statement says.
-/
import Derived.Test.YthmpfnbcodolcaaSg9
import Derived.Test.YthmpfnbcodolcaaSgBits
import Derived.Test.YthmpfnbcodolcaaAppend
import Derived.Test.YthmpfnbcodolcaaSg8
import Derived.Test.YthmpfnbcodolcaaPE
import Derived.Test.YthmpfnbcodolcaaIsBits
namespace Go.Proofs.Ythmpfnbcodolcaa
open Go.RowKit
set_option linter.unusedSimpArgs false
set_option linter.unusedVariables false

theorem seg_lens {zs : List Int} {m : Int} {bs : List Int} {j : Nat} (hz : zs.length ≤ 8192) (hj : j ≤ 255) (hd : (headB m bs.length).length = 11) : (zs ++ headB m bs.length ++ txP m bs j).length ≤ 20000 := by
  have h := txP_le m bs j
  rw [List.length_append, List.length_append, hd]; omega

set_option maxRecDepth 100000 in
set_option maxHeartbeats 4000000 in
theorem specWrite (A : Option Addr) (n c B : Nat) (zs : List Int) (m : Int) (s : ByteArray) (w : World) (hI : Ints .i64 w B A n zs) (hB : B ≤ w.heap.size) (hn8 : n ≤ 8192) (hv : segB m (bytesI s) = true) :
    Calls Try.prog 53 #[.slice A n c, .agg #[.int .i64 m, .string s]] w (Longer 2 .i64 w.heap.size (zs ++ segBits m (bytesI s)) w) := by
  have HX := hide (SBox.start w 26 m s)
  obtain ⟨c0, c1⟩ := HX.out.cells
  obtain ⟨hm, hl, hall⟩ := seg_ok hv
  have hlen := bytesI_len s
  rw [hlen] at hl
  have hn : n ≤ 1099511627776 := by omega
  have HL := hide hI.len
  have HI := hide hI
  have HG := hide (specGroup m hm)
  have HWD := hide (fun cc h1 h2 => specWidth m hm cc h1 h2)
  have HALL := hide hall
  have HSB := hide (show (m = 1 → sbase m = 10) ∧ (m = 2 → sbase m = 45) from ⟨fun h => by rw [h]; rfl, fun h => by rw [h]; rfl⟩)
  have HGS := hide (fun j t => gnum_spec (bs := bytesI s) hm (sbase m) HSB.out j t)
  have hsb0 : 0 ≤ sbase m ∧ sbase m ≤ 256 := by unfold sbase; (repeat' split) <;> omega
  have hg1 := gsz_pos m
  have hg3 := gsz_le m
  have HSZ := hide hlen
  have hnz : n ≤ 8192 := hn8
  clear hI hv hall hlen
  go_enter Try.func53, Try.ntmps53
  go_wp2_with fail
  clear c0 c1
  refine tail_begin (fun w' => w'.cell? ⟨w.heap.size, 0, none⟩ = some (.int .i64 m) ∧ w'.cell? ⟨w.heap.size, 1, none⟩ = some (.string s)) 9 (by kernel_rfl) HX.out.drew.cells (fun hS' => ?_)
  refine tail_take2 0 rfl (by kernel_rfl) (by kernel_rfl) (by kernel_rfl) (by decide) (fun _ _ _ h => h) (by rfl) (v := ?_) ?_ (by assumption) ?_
  rotate_left 1
  · intro w' hS'; obtain ⟨d0, d1⟩ := hS'; go_simp; try with_reducible rfl
  try simp only [Act.put, List.setIfInBounds_toArray, List.set_cons_zero, List.set_cons_succ]
  refine tail_take2 1 rfl (by kernel_rfl) (by kernel_rfl) (by kernel_rfl) (by decide) (fun _ _ _ h => h) (by rfl) (v := ?_) ?_ (by assumption) ?_
  rotate_left 1
  · intro w' hS'; obtain ⟨d0, d1⟩ := hS'; go_simp; try with_reducible rfl
  try simp only [Act.put, List.setIfInBounds_toArray, List.set_cons_zero, List.set_cons_succ]
  refine tail_take2 2 rfl (by kernel_rfl) (by kernel_rfl) (by kernel_rfl) (by decide) (fun _ _ _ h => h) (by rfl) (v := ?_) ?_ (by assumption) ?_
  rotate_left 1
  · intro w' hS'; obtain ⟨d0, d1⟩ := hS'; go_simp; try with_reducible rfl
  try simp only [Act.put, List.setIfInBounds_toArray, List.set_cons_zero, List.set_cons_succ]
  refine tail_take2 4 rfl (by kernel_rfl) (by kernel_rfl) (by kernel_rfl) (by decide) (fun _ _ _ h => h) (by rfl) (v := ?_) ?_ (by assumption) ?_
  rotate_left 1
  · intro w' hS'; obtain ⟨d0, d1⟩ := hS'; go_simp; try with_reducible rfl
  try simp only [Act.put, List.setIfInBounds_toArray, List.set_cons_zero, List.set_cons_succ]
  refine tail_take2 5 rfl (by kernel_rfl) (by kernel_rfl) (by kernel_rfl) (by decide) (fun _ _ _ h => h) (by rfl) (v := ?_) ?_ (by assumption) ?_
  rotate_left 1
  · intro w' hS'; obtain ⟨d0, d1⟩ := hS'; go_simp; try with_reducible rfl
  try simp only [Act.put, List.setIfInBounds_toArray, List.set_cons_zero, List.set_cons_succ]
  refine tail_take2 6 rfl (by kernel_rfl) (by kernel_rfl) (by kernel_rfl) (by decide) (fun _ _ _ h => h) (by rfl) (v := ?_) ?_ (by assumption) ?_
  rotate_left 1
  · intro w' hS'; obtain ⟨d0, d1⟩ := hS'; go_simp; try with_reducible rfl
  try simp only [Act.put, List.setIfInBounds_toArray, List.set_cons_zero, List.set_cons_succ]
  refine tail_call 3 rfl (by kernel_rfl) rfl (fun K hK => ?_)
  go_simp
  (go_at_call 74; refine (specAppendL A n c B 3 zs m _ (HI.out.below (HX.out.drew.2.mono hB)) (Nat.le_trans hB (Nat.le_of_lt HX.out.drew.lt)) hn (by omega) (by omega) (by omega)).mono ?_; rintro e w1 ⟨v1, rfl, ho1, hb1⟩; obtain ⟨Z1, hZ1⟩ : ∃ Z1, zs ++ bitsOf m 3 = Z1 := ⟨_, rfl⟩; rw [show bitsOf m 3 = bitsOf m (3 : Nat) from rfl, hZ1] at ho1; have HZ1 := hide hZ1; clear hZ1; have HX1 := hide (HX.out.drew.next hb1); have HO1 := hide (ho1.low (Nat.le_of_lt HX.out.drew.lt)); obtain ⟨A1, c1', rfl, hc1⟩ := HO1.out.form; have HS1 := hide hb1.size; clear ho1 hb1)
  refine hK.out _ _ (by (try dsimp only); exact HX1.out.cells) (fun hS' => ?_)
  clear hK K
  try simp only [Act.put, List.setIfInBounds_toArray, List.set_cons_zero, List.set_cons_succ]
  refine tail_call 7 rfl (by kernel_rfl) rfl (fun K hK => ?_)
  go_simp
  (go_at_call 74; refine (specAppendL A1 _ c1' w1.heap.size 8 _ (s.size : Nat) _ HO1.out.ints (Nat.le_refl _) (by rw [← HZ1.out, List.length_append, bitsOf_len, HL.out]; omega) (by omega) (by omega) (by omega)).mono ?_; rintro e w2 ⟨v2, rfl, ho2, hb2⟩; have HX2 := hide (HX1.out.next hb2); have HO2 := hide (ho2.low (Nat.le_of_lt HX1.out.lt)); clear ho2 hb2)
  refine hK.out _ _ (by (try dsimp only); exact HX2.out.cells) (fun hS' => ?_)
  clear hK K
  try simp only [Act.put, List.setIfInBounds_toArray, List.set_cons_zero, List.set_cons_succ]
  refine tail_take2 8 rfl (by kernel_rfl) (by kernel_rfl) (by kernel_rfl) (by decide) (fun _ _ _ h => h) (by rfl) (v := ?_) ?_ (by assumption) ?_
  rotate_left 1
  · intro w' hS'; obtain ⟨d0, d1⟩ := hS'; go_simp; try with_reducible rfl
  try simp only [Act.put, List.setIfInBounds_toArray, List.set_cons_zero, List.set_cons_succ]
  refine tail_end (by kernel_rfl) ?_
  have HO2 := hide (show Own w2 w.heap.size 2 .i64 v2 (zs ++ headB m (bytesI s).length ++ txP m (bytesI s) 0) by rw [txP_zero, List.append_nil, headB, HSZ.out, ← List.append_assoc, HZ1.out]; exact HO2.out)
  clear HO1 HX1 HX
  obtain ⟨c0, c1⟩ := HX2.out.cells
  go_wp2_with fail
  refine (HG.out _).mono ?_
  rintro e w3 ⟨rfl, hw3⟩
  rw [hw3]
  clear hw3 HG
  obtain ⟨G, hG⟩ : ∃ G, gsz m = G := ⟨_, rfl⟩
  rw [hG] at HGS hg1 hg3 ⊢
  obtain ⟨D, hD⟩ : ∃ D, sbase m = D := ⟨_, rfl⟩
  rw [hD] at HGS hsb0 ⊢
  have HGG := hide hG
  clear hG hD HSB
  go_wp2_with fail
  go_loopw [5, 9] (fun v i wr => ∃ j : Nat, j ≤ gct G s.size ∧ i = .int .i64 (j * G : Nat) ∧ Own wr w.heap.size 2 .i64 v (zs ++ headB m (bytesI s).length ++ txP m (bytesI s) j) ∧ SBox w wr 26 m s) (fun _ i _ => s.size - (intOf i).toNat)
  case atStart => exact ⟨0, by omega, by simp, HO2.out, HX2.out⟩
  case round =>
    clear HO2 HX2 c0 c1
    obtain ⟨v, hvv⟩ : ∃ v, v = u5 := ⟨_, rfl⟩
    subst hvv
    obtain ⟨j, hj, rfl, hO, hX⟩ := hrel
    have HOr := hide hO
    have HXr := hide hX
    clear hO hX
    obtain ⟨c0, c1⟩ := HXr.out.cells
    have hjn := Nat.le_trans hj (gct_le hg1 s.size)
    by_cases hlt : j * G < s.size
    · have hmin : min G (s.size - j * G) = (grp G (bytesI s) j).length := by rw [grp_len, HSZ.out]
      obtain ⟨mm, hmm⟩ : ∃ mm, (grp G (bytesI s) j).length = mm := ⟨_, rfl⟩
      rw [hmm] at hmin
      have hmm1 : 1 ≤ mm := by omega
      have hmmG : mm ≤ G := by omega
      have hmms : j * G + mm ≤ s.size := by omega
      have HMM := hide hmm
      have hws : IntKind.i64.wrap ((s.size : Int) - ((j * G : Nat) : Int)) = ((s.size - j * G : Nat) : Int) := by rw [IntWalk.i64_in _ ⟨by omega, by omega⟩]; omega
      obtain ⟨p, hp⟩ : ∃ p, j * G = p := ⟨_, rfl⟩
      have HP := hide hp
      rw [hp] at hlt hmin hmms hws ⊢
      obtain ⟨r, hr⟩ : ∃ r, s.size - p = r := ⟨_, rfl⟩
      rw [hr] at hmin hws
      have hq2 : IntKind.i64.wrap ((p : Int) + (mm : Int)) = ((p + mm : Nat) : Int) := by rw [IntWalk.i64_in _ ⟨by omega, by omega⟩]; omega
      have HNX := hide (show (j + 1) * G = p + G by rw [Nat.add_mul, Nat.one_mul, hp])
      clear hmm hp hr
      go_wp2_with fail
      · obtain rfl : mm = r := by omega
        go_loopw [11, 12] (fun q k wr' => ∃ (t : Nat) (x : Int), t ≤ mm ∧ k = .int .i64 (p + t : Nat) ∧ q = .int .i64 x ∧ Hid (gnumB D m ((grp G (bytesI s) j).take t) = x) ∧ Own wr' w.heap.size 2 .i64 v (zs ++ headB m (bytesI s).length ++ txP m (bytesI s) j) ∧ SBox w wr' 26 m s) (fun _ k _ => p + mm - (intOf k).toNat)
        case atStart => exact ⟨0, 0, by omega, by simp, rfl, rfl, HOr.out, HXr.out⟩
        case round =>
          clear HOr HXr c0 c1
          obtain ⟨t, x, ht, rfl, rfl, hx, hO, hX⟩ := hrel
          have HOr := hide hO
          have HXr := hide hX
          clear hO hX
          obtain ⟨c0, c1⟩ := HXr.out.cells
          have hxb : 0 ≤ x ∧ x < 16777216 := by
            rw [← hx.out, HGS.out, ← HGG.out]
            exact gnum_bd HALL.out j t
          have HI2 := hide (show p + t = p + t from rfl)
          obtain ⟨i, hi⟩ : ∃ i, p + t = i := ⟨_, rfl⟩
          rw [hi] at HI2 ⊢
          obtain ⟨pm, hpm⟩ : ∃ pm, p + mm = pm := ⟨_, rfl⟩
          have HPM := hide hpm
          have hq3 := hq2
          rw [hpm] at hq3
          by_cases htm : t < mm
          · have hit : i < s.size := by omega
            have z1 : (i : Int) < (pm : Int) := by omega
            obtain ⟨y, hy, hy2, hy0, hy1⟩ := byteAt s hit
            have HST := hide (gnum_step (B := D) (m := m) (G := G) (bs := bytesI s) (j := j) (t := t) (by omega) (by rw [HP.out, hi]; exact hy2))
            have hcc := all_mem HALL.out (List.mem_of_getElem? hy2)
            have hgb := gbase_le m
            obtain ⟨cv, hcv⟩ : ∃ cv, cval m y = cv := ⟨_, rfl⟩
            have HCV := hide hcv
            rw [hcv] at hcc
            obtain ⟨q1, hq1⟩ : ∃ q1, x * D = q1 := ⟨_, rfl⟩
            have hq10 : 0 ≤ q1 := by rw [← hq1]; exact Int.mul_nonneg hxb.1 hsb0.1
            have hq11 : q1 ≤ 16777216 * 256 := by rw [← hq1]; exact Int.mul_le_mul (by omega) hsb0.2 hsb0.1 (by omega)
            have hwm : IntKind.i64.wrap (x * D) = q1 := by rw [hq1]; exact IntWalk.i64_in _ ⟨by omega, by omega⟩
            have hwa : IntKind.i64.wrap (q1 + cv) = q1 + cv := IntWalk.i64_in _ ⟨by omega, by omega⟩
            have hwy : IntKind.i64.wrap y = y := IntWalk.i64_in _ ⟨by omega, by omega⟩
            have HNQ := hide (show gnumB D m ((grp G (bytesI s) j).take (t + 1)) = q1 + cv by rw [HST.out, hx.out, hcv, hq1])
            have HII := hide hi
            clear hi hcv hq1 hpm hq2 hy2 hx HI2 hcc hgb hxb
            go_wp2_with fail
            clear c0 c1
            refine tail_begin (fun w' => w'.cell? ⟨w.heap.size, 0, none⟩ = some (.int .i64 m) ∧ w'.cell? ⟨w.heap.size, 1, none⟩ = some (.string s)) 13 (by kernel_rfl) HXr.out.drew.cells (fun hS' => ?_)
            refine tail_take2 0 rfl (by kernel_rfl) (by kernel_rfl) (by kernel_rfl) (by decide) (fun _ _ _ h => h) (by rfl) (v := ?_) ?_ (by assumption) ?_
            rotate_left 1
            · intro w' hS'; obtain ⟨d0, d1⟩ := hS'; go_simp; try with_reducible rfl
            try simp only [Act.put, List.setIfInBounds_toArray, List.set_cons_zero, List.set_cons_succ]
            refine tail_take2 1 rfl (by kernel_rfl) (by kernel_rfl) (by kernel_rfl) (by decide) (fun _ _ _ h => h) (by rfl) (v := ?_) ?_ (by assumption) ?_
            rotate_left 1
            · intro w' hS'; obtain ⟨d0, d1⟩ := hS'; go_simp; try with_reducible rfl
            try simp only [Act.put, List.setIfInBounds_toArray, List.set_cons_zero, List.set_cons_succ]
            refine tail_take2 2 rfl (by kernel_rfl) (by kernel_rfl) (by kernel_rfl) (by decide) (fun _ _ _ h => h) (by rfl) (v := ?_) ?_ (by assumption) ?_
            rotate_left 1
            · intro w' hS'; obtain ⟨d0, d1⟩ := hS'; go_simp; try with_reducible rfl
            try simp only [Act.put, List.setIfInBounds_toArray, List.set_cons_zero, List.set_cons_succ]
            refine tail_take2 3 rfl (by kernel_rfl) (by kernel_rfl) (by kernel_rfl) (by decide) (fun _ _ _ h => h) (by rfl) (v := ?_) ?_ (by assumption) ?_
            rotate_left 1
            · intro w' hS'; obtain ⟨d0, d1⟩ := hS'; go_simp; try with_reducible rfl
            try simp only [Act.put, List.setIfInBounds_toArray, List.set_cons_zero, List.set_cons_succ]
            refine tail_take2 4 rfl (by kernel_rfl) (by kernel_rfl) (by kernel_rfl) (by decide) (fun _ _ _ h => h) (by rfl) (v := ?_) ?_ (by assumption) ?_
            rotate_left 1
            · intro w' hS'; obtain ⟨d0, d1⟩ := hS'; go_simp; try with_reducible rfl
            try simp only [Act.put, List.setIfInBounds_toArray, List.set_cons_zero, List.set_cons_succ]
            refine tail_take2 5 rfl (by kernel_rfl) (by kernel_rfl) (by kernel_rfl) (by decide) (fun _ _ _ h => h) (by rfl) (v := ?_) ?_ (by assumption) ?_
            rotate_left 1
            · intro w' hS'; obtain ⟨d0, d1⟩ := hS'; go_simp; try with_reducible rfl
            try simp only [Act.put, List.setIfInBounds_toArray, List.set_cons_zero, List.set_cons_succ]
            refine tail_take2 6 rfl (by kernel_rfl) (by kernel_rfl) (by kernel_rfl) (by decide) (fun _ _ _ h => h) (by rfl) (v := ?_) ?_ (by assumption) ?_
            rotate_left 1
            · intro w' hS'; obtain ⟨d0, d1⟩ := hS'; go_simp; try with_reducible rfl
            try simp only [Act.put, List.setIfInBounds_toArray, List.set_cons_zero, List.set_cons_succ]
            refine tail_take2 7 rfl (by kernel_rfl) (by kernel_rfl) (by kernel_rfl) (by decide) (fun _ _ _ h => h) (by rfl) (v := ?_) ?_ (by assumption) ?_
            rotate_left 1
            · intro w' hS'; obtain ⟨d0, d1⟩ := hS'; go_simp; try with_reducible rfl
            try simp only [Act.put, List.setIfInBounds_toArray, List.set_cons_zero, List.set_cons_succ]
            refine tail_take2 8 rfl (by kernel_rfl) (by kernel_rfl) (by kernel_rfl) (by decide) (fun _ _ _ h => h) (by rfl) (v := ?_) ?_ (by assumption) ?_
            rotate_left 1
            · intro w' hS'; obtain ⟨d0, d1⟩ := hS'; go_simp; try with_reducible rfl
            try simp only [Act.put, List.setIfInBounds_toArray, List.set_cons_zero, List.set_cons_succ]
            refine tail_take2 9 rfl (by kernel_rfl) (by kernel_rfl) (by kernel_rfl) (by decide) (fun _ _ _ h => h) (by rfl) (v := ?_) ?_ (by assumption) ?_
            rotate_left 1
            · intro w' hS'; obtain ⟨d0, d1⟩ := hS'; go_simp; try with_reducible rfl
            try simp only [Act.put, List.setIfInBounds_toArray, List.set_cons_zero, List.set_cons_succ]
            refine tail_call 10 rfl (by kernel_rfl) rfl (fun K hK => ?_)
            go_simp
            (go_at_call 88; refine (specValue m y _).mono ?_; rintro e w3 ⟨rfl, hw3⟩; rw [hw3]; clear hw3; rw [HCV.out])
            refine hK.out _ _ (by (try dsimp only); exact HXr.out.drew.cells) (fun hS' => ?_)
            clear hK K
            try simp only [Act.put, List.setIfInBounds_toArray, List.set_cons_zero, List.set_cons_succ]
            refine tail_take2 11 rfl (by kernel_rfl) (by kernel_rfl) (by kernel_rfl) (by decide) (fun _ _ _ h => h) (by rfl) (v := ?_) ?_ (by assumption) ?_
            rotate_left 1
            · intro w' hS'; obtain ⟨d0, d1⟩ := hS'; go_simp; try with_reducible rfl
            try simp only [Act.put, List.setIfInBounds_toArray, List.set_cons_zero, List.set_cons_succ]
            refine tail_take2 12 rfl (by kernel_rfl) (by kernel_rfl) (by kernel_rfl) (by decide) (fun _ _ _ h => h) (by rfl) (v := ?_) ?_ (by assumption) ?_
            rotate_left 1
            · intro w' hS'; obtain ⟨d0, d1⟩ := hS'; go_simp; try with_reducible rfl
            try simp only [Act.put, List.setIfInBounds_toArray, List.set_cons_zero, List.set_cons_succ]
            refine tail_end (by kernel_rfl) ?_
            go_wp2_with fail
            go_roundw
            case rel => exact ⟨t + 1, q1 + cv, by omega, by have := HII.out; go_num, rfl, HNQ, HOr.out.drew, HXr.out.drew⟩
            case measure => have := HII.out; simp [intOf]; omega
          · have htt : t = mm := by omega
            have z1 : ¬ (i : Int) < (pm : Int) := by omega
            have HLEN := hide (seg_lens (zs := zs) (m := m) (bs := bytesI s) (j := j) (by rw [HL.out]; exact hnz) (by omega) (headB_len _ _))
            have HQ := hide (show zs ++ headB m (bytesI s).length ++ txP m (bytesI s) (j + 1) = zs ++ headB m (bytesI s).length ++ txP m (bytesI s) j ++ bitsOf x (wid m mm) by
              have hgx : gnum m (grp G (bytesI s) j) = x := by
                rw [← hx.out, HGS.out, htt, List.take_of_length_le (Nat.le_of_eq HMM.out)]
              rw [txP_succ, HGG.out, HMM.out, hgx, List.append_assoc, List.append_assoc, List.append_assoc])
            have HW := hide (HWD.out mm hmm1 (by rw [HGG.out]; omega))
            have hwd := wid_le m mm
            obtain ⟨W, hW⟩ : ∃ W, wid m mm = W := ⟨_, rfl⟩
            rw [hW] at HW hwd HQ
            have hpg : IntKind.i64.wrap ((p : Int) + (G : Int)) = ((p + G : Nat) : Int) := by rw [IntWalk.i64_in _ ⟨by omega, by omega⟩]; omega
            obtain ⟨Z5, hZ5⟩ : ∃ Z5, zs ++ headB m (bytesI s).length ++ txP m (bytesI s) j = Z5 := ⟨_, rfl⟩
            rw [hZ5] at HOr HLEN HQ
            clear hW hi hpm hq2 htt HI2 hZ5 hx
            go_wp2_with fail
            refine (HW.out _).mono ?_
            rintro e w4 ⟨rfl, hb4⟩
            have HX4 := hide (HXr.out.next hb4)
            have HO4 := hide (HOr.out.below hb4 (Nat.le_refl _))
            clear hb4 HOr HXr c0 c1
            obtain ⟨A5, c5, hv5, hc5⟩ := HO4.out.form
            rw [hv5] at HO4 ⊢
            go_wp2_with fail
            refine (specAppendL A5 Z5.length c5 w4.heap.size W Z5 x w4 HO4.out.ints (Nat.le_refl _) (by have := HLEN.out; omega) (by omega) (by omega) (by omega)).mono ?_
            rintro e w5 ⟨v6, rfl, ho5, hb5⟩
            have HX5 := hide (HX4.out.next hb5)
            have HO5 := hide (ho5.low (Nat.le_of_lt HX4.out.lt))
            clear ho5 hb5
            go_wp2_with fail
            go_roundw
            case rel => exact ⟨j + 1, (gct_lt hg1).2 (by rw [HP.out]; exact hlt), by first | rw [HNX.out, HPM.out] | rw [HNX.out, Int.natCast_add], by rw [HQ.out]; exact HO5.out, HX5.out⟩
            case measure => simp [intOf]; omega
      · obtain rfl : mm = G := by omega
        go_loopw [11, 12] (fun q k wr' => ∃ (t : Nat) (x : Int), t ≤ mm ∧ k = .int .i64 (p + t : Nat) ∧ q = .int .i64 x ∧ Hid (gnumB D m ((grp mm (bytesI s) j).take t) = x) ∧ Own wr' w.heap.size 2 .i64 v (zs ++ headB m (bytesI s).length ++ txP m (bytesI s) j) ∧ SBox w wr' 26 m s) (fun _ k _ => p + mm - (intOf k).toNat)
        case atStart => exact ⟨0, 0, by omega, by simp, rfl, rfl, HOr.out, HXr.out⟩
        case round =>
          clear HOr HXr c0 c1
          obtain ⟨t, x, ht, rfl, rfl, hx, hO, hX⟩ := hrel
          have HOr := hide hO
          have HXr := hide hX
          clear hO hX
          obtain ⟨c0, c1⟩ := HXr.out.cells
          have hxb : 0 ≤ x ∧ x < 16777216 := by
            rw [← hx.out, HGS.out, ← HGG.out]
            exact gnum_bd HALL.out j t
          have HI2 := hide (show p + t = p + t from rfl)
          obtain ⟨i, hi⟩ : ∃ i, p + t = i := ⟨_, rfl⟩
          rw [hi] at HI2 ⊢
          obtain ⟨pm, hpm⟩ : ∃ pm, p + mm = pm := ⟨_, rfl⟩
          have HPM := hide hpm
          have hq3 := hq2
          rw [hpm] at hq3
          by_cases htm : t < mm
          · have hit : i < s.size := by omega
            have z1 : (i : Int) < (pm : Int) := by omega
            obtain ⟨y, hy, hy2, hy0, hy1⟩ := byteAt s hit
            have HST := hide (gnum_step (B := D) (m := m) (G := mm) (bs := bytesI s) (j := j) (t := t) (by omega) (by rw [HP.out, hi]; exact hy2))
            have hcc := all_mem HALL.out (List.mem_of_getElem? hy2)
            have hgb := gbase_le m
            obtain ⟨cv, hcv⟩ : ∃ cv, cval m y = cv := ⟨_, rfl⟩
            have HCV := hide hcv
            rw [hcv] at hcc
            obtain ⟨q1, hq1⟩ : ∃ q1, x * D = q1 := ⟨_, rfl⟩
            have hq10 : 0 ≤ q1 := by rw [← hq1]; exact Int.mul_nonneg hxb.1 hsb0.1
            have hq11 : q1 ≤ 16777216 * 256 := by rw [← hq1]; exact Int.mul_le_mul (by omega) hsb0.2 hsb0.1 (by omega)
            have hwm : IntKind.i64.wrap (x * D) = q1 := by rw [hq1]; exact IntWalk.i64_in _ ⟨by omega, by omega⟩
            have hwa : IntKind.i64.wrap (q1 + cv) = q1 + cv := IntWalk.i64_in _ ⟨by omega, by omega⟩
            have hwy : IntKind.i64.wrap y = y := IntWalk.i64_in _ ⟨by omega, by omega⟩
            have HNQ := hide (show gnumB D m ((grp mm (bytesI s) j).take (t + 1)) = q1 + cv by rw [HST.out, hx.out, hcv, hq1])
            have HII := hide hi
            clear hi hcv hq1 hpm hq2 hy2 hx HI2 hcc hgb hxb
            go_wp2_with fail
            clear c0 c1
            refine tail_begin (fun w' => w'.cell? ⟨w.heap.size, 0, none⟩ = some (.int .i64 m) ∧ w'.cell? ⟨w.heap.size, 1, none⟩ = some (.string s)) 13 (by kernel_rfl) HXr.out.drew.cells (fun hS' => ?_)
            refine tail_take2 0 rfl (by kernel_rfl) (by kernel_rfl) (by kernel_rfl) (by decide) (fun _ _ _ h => h) (by rfl) (v := ?_) ?_ (by assumption) ?_
            rotate_left 1
            · intro w' hS'; obtain ⟨d0, d1⟩ := hS'; go_simp; try with_reducible rfl
            try simp only [Act.put, List.setIfInBounds_toArray, List.set_cons_zero, List.set_cons_succ]
            refine tail_take2 1 rfl (by kernel_rfl) (by kernel_rfl) (by kernel_rfl) (by decide) (fun _ _ _ h => h) (by rfl) (v := ?_) ?_ (by assumption) ?_
            rotate_left 1
            · intro w' hS'; obtain ⟨d0, d1⟩ := hS'; go_simp; try with_reducible rfl
            try simp only [Act.put, List.setIfInBounds_toArray, List.set_cons_zero, List.set_cons_succ]
            refine tail_take2 2 rfl (by kernel_rfl) (by kernel_rfl) (by kernel_rfl) (by decide) (fun _ _ _ h => h) (by rfl) (v := ?_) ?_ (by assumption) ?_
            rotate_left 1
            · intro w' hS'; obtain ⟨d0, d1⟩ := hS'; go_simp; try with_reducible rfl
            try simp only [Act.put, List.setIfInBounds_toArray, List.set_cons_zero, List.set_cons_succ]
            refine tail_take2 3 rfl (by kernel_rfl) (by kernel_rfl) (by kernel_rfl) (by decide) (fun _ _ _ h => h) (by rfl) (v := ?_) ?_ (by assumption) ?_
            rotate_left 1
            · intro w' hS'; obtain ⟨d0, d1⟩ := hS'; go_simp; try with_reducible rfl
            try simp only [Act.put, List.setIfInBounds_toArray, List.set_cons_zero, List.set_cons_succ]
            refine tail_take2 4 rfl (by kernel_rfl) (by kernel_rfl) (by kernel_rfl) (by decide) (fun _ _ _ h => h) (by rfl) (v := ?_) ?_ (by assumption) ?_
            rotate_left 1
            · intro w' hS'; obtain ⟨d0, d1⟩ := hS'; go_simp; try with_reducible rfl
            try simp only [Act.put, List.setIfInBounds_toArray, List.set_cons_zero, List.set_cons_succ]
            refine tail_take2 5 rfl (by kernel_rfl) (by kernel_rfl) (by kernel_rfl) (by decide) (fun _ _ _ h => h) (by rfl) (v := ?_) ?_ (by assumption) ?_
            rotate_left 1
            · intro w' hS'; obtain ⟨d0, d1⟩ := hS'; go_simp; try with_reducible rfl
            try simp only [Act.put, List.setIfInBounds_toArray, List.set_cons_zero, List.set_cons_succ]
            refine tail_take2 6 rfl (by kernel_rfl) (by kernel_rfl) (by kernel_rfl) (by decide) (fun _ _ _ h => h) (by rfl) (v := ?_) ?_ (by assumption) ?_
            rotate_left 1
            · intro w' hS'; obtain ⟨d0, d1⟩ := hS'; go_simp; try with_reducible rfl
            try simp only [Act.put, List.setIfInBounds_toArray, List.set_cons_zero, List.set_cons_succ]
            refine tail_take2 7 rfl (by kernel_rfl) (by kernel_rfl) (by kernel_rfl) (by decide) (fun _ _ _ h => h) (by rfl) (v := ?_) ?_ (by assumption) ?_
            rotate_left 1
            · intro w' hS'; obtain ⟨d0, d1⟩ := hS'; go_simp; try with_reducible rfl
            try simp only [Act.put, List.setIfInBounds_toArray, List.set_cons_zero, List.set_cons_succ]
            refine tail_take2 8 rfl (by kernel_rfl) (by kernel_rfl) (by kernel_rfl) (by decide) (fun _ _ _ h => h) (by rfl) (v := ?_) ?_ (by assumption) ?_
            rotate_left 1
            · intro w' hS'; obtain ⟨d0, d1⟩ := hS'; go_simp; try with_reducible rfl
            try simp only [Act.put, List.setIfInBounds_toArray, List.set_cons_zero, List.set_cons_succ]
            refine tail_take2 9 rfl (by kernel_rfl) (by kernel_rfl) (by kernel_rfl) (by decide) (fun _ _ _ h => h) (by rfl) (v := ?_) ?_ (by assumption) ?_
            rotate_left 1
            · intro w' hS'; obtain ⟨d0, d1⟩ := hS'; go_simp; try with_reducible rfl
            try simp only [Act.put, List.setIfInBounds_toArray, List.set_cons_zero, List.set_cons_succ]
            refine tail_call 10 rfl (by kernel_rfl) rfl (fun K hK => ?_)
            go_simp
            (go_at_call 88; refine (specValue m y _).mono ?_; rintro e w3 ⟨rfl, hw3⟩; rw [hw3]; clear hw3; rw [HCV.out])
            refine hK.out _ _ (by (try dsimp only); exact HXr.out.drew.cells) (fun hS' => ?_)
            clear hK K
            try simp only [Act.put, List.setIfInBounds_toArray, List.set_cons_zero, List.set_cons_succ]
            refine tail_take2 11 rfl (by kernel_rfl) (by kernel_rfl) (by kernel_rfl) (by decide) (fun _ _ _ h => h) (by rfl) (v := ?_) ?_ (by assumption) ?_
            rotate_left 1
            · intro w' hS'; obtain ⟨d0, d1⟩ := hS'; go_simp; try with_reducible rfl
            try simp only [Act.put, List.setIfInBounds_toArray, List.set_cons_zero, List.set_cons_succ]
            refine tail_take2 12 rfl (by kernel_rfl) (by kernel_rfl) (by kernel_rfl) (by decide) (fun _ _ _ h => h) (by rfl) (v := ?_) ?_ (by assumption) ?_
            rotate_left 1
            · intro w' hS'; obtain ⟨d0, d1⟩ := hS'; go_simp; try with_reducible rfl
            try simp only [Act.put, List.setIfInBounds_toArray, List.set_cons_zero, List.set_cons_succ]
            refine tail_end (by kernel_rfl) ?_
            go_wp2_with fail
            go_roundw
            case rel => exact ⟨t + 1, q1 + cv, by omega, by have := HII.out; go_num, rfl, HNQ, HOr.out.drew, HXr.out.drew⟩
            case measure => have := HII.out; simp [intOf]; omega
          · have htt : t = mm := by omega
            have z1 : ¬ (i : Int) < (pm : Int) := by omega
            have HLEN := hide (seg_lens (zs := zs) (m := m) (bs := bytesI s) (j := j) (by rw [HL.out]; exact hnz) (by omega) (headB_len _ _))
            have HQ := hide (show zs ++ headB m (bytesI s).length ++ txP m (bytesI s) (j + 1) = zs ++ headB m (bytesI s).length ++ txP m (bytesI s) j ++ bitsOf x (wid m mm) by
              have hgx : gnum m (grp mm (bytesI s) j) = x := by
                rw [← hx.out, HGS.out, htt, List.take_of_length_le (Nat.le_of_eq HMM.out)]
              rw [txP_succ, HGG.out, HMM.out, hgx, List.append_assoc, List.append_assoc, List.append_assoc])
            have HW := hide (HWD.out mm hmm1 (by rw [HGG.out]; omega))
            have hwd := wid_le m mm
            obtain ⟨W, hW⟩ : ∃ W, wid m mm = W := ⟨_, rfl⟩
            rw [hW] at HW hwd HQ
            have hpg : IntKind.i64.wrap ((p : Int) + (mm : Int)) = ((p + mm : Nat) : Int) := by rw [IntWalk.i64_in _ ⟨by omega, by omega⟩]; omega
            obtain ⟨Z5, hZ5⟩ : ∃ Z5, zs ++ headB m (bytesI s).length ++ txP m (bytesI s) j = Z5 := ⟨_, rfl⟩
            rw [hZ5] at HOr HLEN HQ
            clear hW hi hpm hq2 htt HI2 hZ5 hx
            go_wp2_with fail
            refine (HW.out _).mono ?_
            rintro e w4 ⟨rfl, hb4⟩
            have HX4 := hide (HXr.out.next hb4)
            have HO4 := hide (HOr.out.below hb4 (Nat.le_refl _))
            clear hb4 HOr HXr c0 c1
            obtain ⟨A5, c5, hv5, hc5⟩ := HO4.out.form
            rw [hv5] at HO4 ⊢
            go_wp2_with fail
            refine (specAppendL A5 Z5.length c5 w4.heap.size W Z5 x w4 HO4.out.ints (Nat.le_refl _) (by have := HLEN.out; omega) (by omega) (by omega) (by omega)).mono ?_
            rintro e w5 ⟨v6, rfl, ho5, hb5⟩
            have HX5 := hide (HX4.out.next hb5)
            have HO5 := hide (ho5.low (Nat.le_of_lt HX4.out.lt))
            clear ho5 hb5
            go_wp2_with fail
            go_roundw
            case rel => exact ⟨j + 1, (gct_lt hg1).2 (by rw [HP.out]; exact hlt), by first | rw [HNX.out, HPM.out] | rw [HNX.out, Int.natCast_add], by rw [HQ.out]; exact HO5.out, HX5.out⟩
            case measure => simp [intOf]; omega
    · have hje := gct_end hg1 hj hlt
      have HF := hide (show zs ++ headB m (bytesI s).length ++ txP m (bytesI s) j = zs ++ segBits m (bytesI s) by rw [hje, segBits, HSZ.out, HGG.out, List.append_assoc])
      obtain ⟨p, hp⟩ : ∃ p, j * G = p := ⟨_, rfl⟩
      rw [hp] at hlt ⊢
      clear hp hje
      go_wp2_with fail
      go_ret
      exact ⟨v, rfl, by rw [← HF.out]; exact HOr.out, HXr.out.2⟩
end Go.Proofs.Ythmpfnbcodolcaa

namespace Go.Proofs.Ythmpfnbcodolcaa
open Go Go.RowKit
set_option linter.unusedSimpArgs false
set_option linter.unusedVariables false
attribute [local go_sem] Oper.semAt_some

set_option maxRecDepth 100000 in
set_option maxHeartbeats 4000000 in
theorem implAppToA (m : Int) (hm : 1 ≤ m ∧ m ≤ 4) (s : ByteArray) (hsv : segB m (bytesI s) = true) (a : ByteArray) (z : Int) (G : Nat) (hGG : gsz m = G) (HM : MV m = .iface 141 (.agg #[.string a, .int .i64 z]))
    (hC : ∀ w, Calls Try.prog 152 #[.agg #[.string a, .int .i64 z]] w (Gives (.int .i64 (gbase m : Nat)) w)) (hV : ∀ b w, Calls Try.prog 154 #[.agg #[.string a, .int .i64 z], .int .i64 b] w (Gives (.int .i64 (cval m b)) w)) (hGS : ∀ w, Calls Try.prog 153 #[.agg #[.string a, .int .i64 z]] w (Gives (.int .i64 (G : Nat)) w))
    (A0 : Option Addr) (n0 c0 base : Nat) (zs : List Int) (w : World) (hO : Own w base 2 .i64 (.slice A0 n0 c0) zs) (hbase : base ≤ w.heap.size) (hl8 : zs.length ≤ 8192) :
    Calls Try.prog 50 #[.agg #[.int .i64 m, .string s], .slice A0 n0 c0] w (LongerB 2 .i64 base (.slice A0 n0 c0) (zs ++ segBits m (bytesI s)) w) := by
  obtain ⟨_, hl, hall⟩ := seg_ok hsv
  have hlen := bytesI_len s
  rw [hlen] at hl
  have HMO := hide (implModeOf m hm)
  rw [HM] at HMO
  have HC := hide hC
  have HV := hide hV
  have HGS := hide hGS
  have HO := hide hO
  have HSZ := hide hlen
  have HALL := hide hall
  have HX := hide HM
  have HGG := hide hGG
  have hg1 : 1 ≤ G := by rw [← hGG]; exact gsz_pos m
  have hg3 : G ≤ 3 := by rw [← hGG]; exact gsz_le m
  have hmdC := mdC_a
  have hmdV := mdW_a
  have hmdG := mdG_a
  have hconv : ∀ w : World, (convert 9 22 (.string s)).run Try.prog w = _ := fun w => run_bytes_of_string w 9 22 5 s Try.underlying9 Try.underlying22 Try.underlying5
  have HCV := hide hconv
  clear hC hV hGS hO hlen hall HM hGG hsv hconv
  refine (callsIn_wide (n := 6)).1 ?_
  refine callsIn_of_wp_marks Try.func50 rfl trivial ?_ rfl
  simp only [Try.ntmps50, List.size_toArray, List.length_cons, List.length_nil, Nat.reduceAdd, Nat.reduceSub, Array.replicate_succ, Array.replicate_zero, List.push_toArray, List.append_toArray, List.nil_append, List.cons_append]
  gi_wp2_with fail
  refine ⟨trivial, (callsIn_wide.2 (HMO.out _)).mono ?_⟩
  rintro e wx ⟨rfl, hwx⟩
  rw [hwx]
  clear hwx
  gi_wp2_with fail
  obtain ⟨Wa, hWa⟩ : ∃ Wa, Wa = (((w.alloc (.cells #[.int .i64 m, .string s] 26)).alloc (.cells #[.slice A0 n0 c0] 24)).alloc (.cells #[.iface 141 (.agg #[.string a, .int .i64 z])] 103)) := ⟨_, rfl⟩
  rw [← hWa]
  have hWs : Wa.heap.size = w.heap.size + 3 := by rw [hWa, alloc_size, alloc_size, alloc_size]
  have HK := hide (show Wa.heap[w.heap.size]? = some (.cells #[.int .i64 m, .string s] 26 (0, 0)) ∧ Wa.heap[w.heap.size + 1]? = some (.cells #[.slice A0 n0 c0] 24 (0, 0)) ∧ Wa.heap[w.heap.size + 1 + 1]? = some (.cells #[.iface 141 (.agg #[.string a, .int .i64 z])] 103 (0, 0)) by
    have q1 := heap_alloc_new (w.alloc (.cells #[.int .i64 m, .string s] 26)) (.cells #[.slice A0 n0 c0] 24)
    have q2 := heap_alloc_new ((w.alloc (.cells #[.int .i64 m, .string s] 26)).alloc (.cells #[.slice A0 n0 c0] 24)) (.cells #[.iface 141 (.agg #[.string a, .int .i64 z])] 103)
    simp only [alloc_size] at q1 q2
    rw [hWa]
    exact ⟨row_keep (row_keep (heap_alloc_new w _) _) _, row_keep q1 _, q2⟩)
  have HL0 := hide (show ∀ i ∈ [w.heap.size, w.heap.size + 1, w.heap.size + 1 + 1], i < Wa.heap.size by
    intro i hi
    rw [hWs]
    simp only [List.mem_cons, List.mem_nil_iff, or_false] at hi
    omega)
  have HA0 := hide (show AppV (.slice A0 n0 c0) w Wa Wa base (w.heap.size + 1) [w.heap.size, w.heap.size + 1, w.heap.size + 1 + 1] (.slice A0 n0 c0) zs from
    ⟨HK.out.2.1, by
      rw [hWa]
      exact ((HO.out.alloc _).alloc _).alloc _, fun g hg hm => by
      have := (HO.out.lt hg).2
      simp only [List.mem_cons, List.mem_nil_iff, or_false] at hm
      omega, fun _ _ _ => rfl, by
      rw [hWa]
      exact (((Below.refl base w).alloc hbase _).alloc (by rw [alloc_size]; omega) _).alloc (by rw [alloc_size, alloc_size]; omega) _, Nat.le_refl _, fun i hi _ => by
      rw [hWa, heap_alloc_old _ _ (by rw [alloc_size, alloc_size]; omega), heap_alloc_old _ _ (by rw [alloc_size]; omega), heap_alloc_old _ _ hi], fun g hg => .inl hg⟩)
  clear hWa HO
  obtain ⟨c0', c1'⟩ := seg_cells HK.out.1
  obtain ⟨c3, _⟩ := cell1 HK.out.2.1
  have hm9 : m ≤ 9223372036854775807 := by omega
  refine ⟨trivial, (callsIn_wide.2 (implAppendNumberM (.slice A0 n0 c0) base 3 zs m _ HA0.out.own (by have := HA0.out.bel.size; omega) (by omega) (by omega) (by omega) (by omega))).mono ?_⟩
  rintro e w1 ⟨v1, rfl, ho1, hg1', hl1⟩
  obtain ⟨Z1, hZ⟩ : ∃ Z, zs ++ bitsOf m (3 : Nat) = Z := ⟨_, rfl⟩
  have HZ1 := hide hZ
  have HZL1 := hide (show Z1.length = zs.length + 3 by rw [← hZ, List.length_append, bitsOf_len])
  rw [hZ] at ho1
  clear hZ
  obtain ⟨A1, c1, rfl, hc1⟩ := ho1.form
  have HA1 := hide (HA0.out.put (by simp) HL0.out (by omega) hbase ho1 hg1' hl1)
  have HR1 := hide (HA0.out.rows HL0.out hg1')
  clear c0' c1' c3
  obtain ⟨q3, f3⟩ := cell1 ((HR1.out (w.heap.size + 1) (by simp)).trans HA0.out.box)
  obtain ⟨c0', c1'⟩ := seg_cells ((HA1.out.keep w.heap.size (by simp) (by omega)).trans HK.out.1)
  obtain ⟨c3, _⟩ := cell1 HA1.out.box
  clear ho1 hg1' hl1
  gi_wp2_with fail
  clear q3 f3
  refine ⟨trivial, (callsIn_wide.2 (implAppendNumberM (.slice A1 Z1.length c1) base 8 Z1 (s.size : Nat) _ HA1.out.own (by have := HA1.out.bel.size; omega) (by have := HZL1.out; omega) (by omega) (by omega) (by omega))).mono ?_⟩
  rintro e w2 ⟨v1, rfl, ho1, hg1', hl1⟩
  obtain ⟨Z2, hZ⟩ : ∃ Z, Z1 ++ bitsOf (s.size : Nat) (8 : Nat) = Z := ⟨_, rfl⟩
  have HZ2 := hide hZ
  have HZL2 := hide (show Z2.length = Z1.length + 8 by rw [← hZ, List.length_append, bitsOf_len])
  rw [hZ] at ho1
  clear hZ
  obtain ⟨A2, c2, rfl, hc2⟩ := ho1.form
  have HA2 := hide (HA1.out.put (by simp) HL0.out (by omega) hbase ho1 hg1' hl1)
  have HR2 := hide (HA1.out.rows HL0.out hg1')
  clear c0' c1' c3
  obtain ⟨q3, f3⟩ := cell1 ((HR2.out (w.heap.size + 1) (by simp)).trans HA1.out.box)
  obtain ⟨c0', c1'⟩ := seg_cells ((HA2.out.keep w.heap.size (by simp) (by omega)).trans HK.out.1)
  obtain ⟨c3, _⟩ := cell1 HA2.out.box
  clear ho1 hg1' hl1
  gi_wp2_with fail
  clear q3 f3 c0' c1' c3
  have HSM := hide (fun (W : World) (v : Value) (zz : List Int) (h : AppV (.slice A0 n0 c0) w Wa W base (w.heap.size + 1) [w.heap.size, w.heap.size + 1, w.heap.size + 1 + 1] v zz) => (⟨(seg_cells ((h.keep w.heap.size (by simp) (by omega)).trans HK.out.1)).2, (cell1 ((h.keep (w.heap.size + 1 + 1) (by simp) (by omega)).trans HK.out.2.2)).1⟩ : W.cell? ⟨w.heap.size, 1, none⟩ = some (.string s) ∧ W.cell? ⟨w.heap.size + 1 + 1, 0, none⟩ = some (.iface 141 (.agg #[.string a, .int .i64 z]))))
  obtain ⟨w3, hw3⟩ : ∃ w3, w2.setCell ⟨w.heap.size + 1, 0, none⟩ (.slice A2 Z2.length c2) = w3 := ⟨_, rfl⟩
  rw [hw3] at HA2 ⊢
  clear hw3 HR1 HR2 HA0 HA1
  refine region_only ?_
  refine tail_begin (fun w' => w'.cell? ⟨w.heap.size, 1, none⟩ = some (.string s) ∧ w'.cell? ⟨w.heap.size + 1 + 1, 0, none⟩ = some (.iface 141 (.agg #[.string a, .int .i64 z]))) 6 (by kernel_rfl) (HSM.out _ _ _ HA2.out.drew) (fun hS' => ?_)
  refine tail_take2 0 rfl (by kernel_rfl) (by kernel_rfl) (by kernel_rfl) (by decide) (fun _ _ _ h => h) (by rfl) (v := ?_) ?_ (by assumption) ?_
  rotate_left 1
  · intro w' hS'; obtain ⟨d0, d1⟩ := hS'; go_simp; try with_reducible rfl
  try simp only [Act.put, List.setIfInBounds_toArray, List.set_cons_zero, List.set_cons_succ]
  refine tail_take2 1 rfl (by kernel_rfl) (by kernel_rfl) (by kernel_rfl) (by decide) (fun _ _ _ h => h) (by rfl) (v := ?_) ?_ (by assumption) ?_
  rotate_left 1
  · intro w' hS'; obtain ⟨d0, d1⟩ := hS'; go_simp; try with_reducible rfl
  try simp only [Act.put, List.setIfInBounds_toArray, List.set_cons_zero, List.set_cons_succ]
  refine tail_take2 3 rfl (by kernel_rfl) (by kernel_rfl) (by kernel_rfl) (by decide) (fun _ _ _ h => h) (by rfl) (v := ?_) ?_ (by assumption) ?_
  rotate_left 1
  · intro w' hS'; obtain ⟨d0, d1⟩ := hS'; go_simp; try with_reducible rfl
  try simp only [Act.put, List.setIfInBounds_toArray, List.set_cons_zero, List.set_cons_succ]
  refine tail_two 2 4 rfl rfl (by kernel_rfl) rfl rfl (fun K hK => ?_) (fun K hK => ?_)
  · skip
    have hcv := HCV.out
    go_simp
    have hcge : s.size ≤ grownCap w3.drew s.size 0 5 := grownCap_ge _ _ _ _
    have hcle : grownCap w3.drew s.size 0 5 ≤ maxLen := grownCap_le_maxLen _ _ _ _ (by unfold maxLen; omega)
    obtain ⟨cap, hcap⟩ : ∃ cap, grownCap w3.drew s.size 0 5 = cap := ⟨_, rfl⟩
    rw [hcap] at hcge hcle ⊢
    have HIc := hide (bytes_row w3 s cap 5 ((bytesRow s cap).size, (bytesRow s cap).size + 1))
    have HAc := hide (((HA2.out.next HL0.out hbase ((Below.refl _ _).alloc (Nat.le_refl _) (.cells (bytesRow s cap) 5 ((bytesRow s cap).size, (bytesRow s cap).size + 1)))).drew).drew)
    obtain ⟨bd, hbd⟩ : ∃ bd, w3.heap.size = bd := ⟨_, rfl⟩
    have HBD := hide (show bd < (w3.alloc (.cells (bytesRow s cap) 5 ((bytesRow s cap).size, (bytesRow s cap).size + 1))).heap.size by rw [alloc_size]; omega)
    rw [hbd] at HIc ⊢
    clear hcv hcap
    have hbds2 : w3.heap.size ≤ bd := by omega
    refine hK.out _ _ (HSM.out _ _ _ HAc.out) (fun hS' => ?_)
    clear hK K
    try simp only [Act.put, List.setIfInBounds_toArray, List.set_cons_zero, List.set_cons_succ]
    obtain ⟨wc, hwc⟩ : ∃ wc, (w3.alloc (.cells (bytesRow s cap) 5 ((bytesRow s cap).size, (bytesRow s cap).size + 1))).drew.drew = wc := ⟨_, rfl⟩
    have hbw : bd < wc.heap.size := by rw [← hwc]; exact HBD.out
    have HIc := hide (show Ints .u8 wc (bd + 1) (some ⟨bd, 0, none⟩) s.size (bytesI s) by rw [← hwc]; exact HIc.out)
    rw [hwc] at HAc hS' ⊢
    clear hwc
    refine tail_call 4 rfl (by kernel_rfl) rfl (fun K hK => ?_)
    go_simp
    (go_at_call 153; refine (HGS.out _).mono ?_; rintro e w4 ⟨rfl, hb4⟩; have HA4 := hide (HAc.out.next HL0.out hbase hb4); have HB4 := hide hb4; clear hb4)
    refine hK.out _ _ (by (try dsimp only); exact HSM.out _ _ _ HA4.out) (fun hS' => ?_)
    clear hK K
    try simp only [Act.put, List.setIfInBounds_toArray, List.set_cons_zero, List.set_cons_succ]
    have HIk := hide (HIc.out.below (HB4.out.mono (by omega)))
    have HAk := hide HA4.out
    have hbw4 : bd < w4.heap.size := by have := HB4.out.size; omega
    obtain ⟨wk, rfl⟩ : ∃ wk, wk = w4 := ⟨_, rfl⟩
    clear hbd HBD HIc HAc
    refine tail_call 5 rfl (by kernel_rfl) rfl (fun K hK => ?_)
    go_simp
    (go_at_call 84; refine (implChunk bd 0 s.size cap G hg1 wk).mono ?_; rintro e w5 ⟨rfl, hw5⟩; have HA5 := hide (show AppV (.slice A0 n0 c0) w Wa w5 base (w.heap.size + 1) [w.heap.size, w.heap.size + 1, w.heap.size + 1 + 1] (.slice A2 Z2.length c2) Z2 by rw [hw5]; exact HAk.out.next HL0.out hbase (((Below.refl _ _).alloc (Nat.le_refl _) _).alloc (by rw [alloc_size]; omega) _)); have HI5 := hide (show Ints .u8 w5 (bd + 1) (some ⟨bd, 0, none⟩) s.size (bytesI s) by rw [hw5]; exact HIk.out.below (((Below.refl _ _).alloc (by omega) _).alloc (by rw [alloc_size]; omega) _)); have HC5 := hide (show CkRow w5 wk.heap.size bd 0 s.size cap G by rw [hw5]; have q := heap_alloc_new (wk.alloc (.cells #[.slice (some ⟨bd, 0, none⟩) s.size cap] 22)) (.cells #[.int .i64 (G : Nat)] 3); rw [alloc_size] at q; exact ⟨row_keep (heap_alloc_new wk _) _, q⟩); clear hw5)
    refine hK.out _ _ (by (try dsimp only); exact HSM.out _ _ _ HA5.out) (fun hS' => ?_)
    clear hK K
    try simp only [Act.put, List.setIfInBounds_toArray, List.set_cons_zero, List.set_cons_succ]
    refine tail_end (by kernel_rfl) ?_
    unfold OnlyN
    have hA2own := HA2.out.own
    have HA6 := hide (show AppV (.slice A0 n0 c0) w w5 w5 base (w.heap.size + 1) [w.heap.size, w.heap.size + 1, w.heap.size + 1 + 1, bd, wk.heap.size, wk.heap.size + 1] (.slice A2 Z2.length c2) Z2 from HA5.out.from fun g hg hm => by
      have h1 := HA5.out.lies g hg
      have h2 := (hA2own.lt hg).2
      simp only [List.mem_cons, List.mem_nil_iff, or_false] at h1 hm
      omega)
    have HL6 := hide (show ∀ i ∈ [w.heap.size, w.heap.size + 1, w.heap.size + 1 + 1, bd, wk.heap.size, wk.heap.size + 1], i < w5.heap.size by
      intro i hi
      have h1 := HC5.out.lt
      have h2 := HA5.out.size
      simp only [List.mem_cons, List.mem_nil_iff, or_false] at hi
      omega)
    have HMC := hide (show w5.heap[w.heap.size + 1 + 1]? = some (.cells #[.iface 141 (.agg #[.string a, .int .i64 z])] 103 (0, 0)) from (HA5.out.keep (w.heap.size + 1 + 1) (by simp) (by omega)).trans HK.out.2.2)
    have HMS := hide (fun (W : World) (v : Value) (zz : List Int) (h : AppV (.slice A0 n0 c0) w w5 W base (w.heap.size + 1) [w.heap.size, w.heap.size + 1, w.heap.size + 1 + 1, bd, wk.heap.size, wk.heap.size + 1] v zz) => (cell1 ((h.keep (w.heap.size + 1 + 1) (by simp) (by omega)).trans HMC.out)).1)
    have hdat : ∀ (j : Nat) (y : Int), (bytesI s)[j]? = some y → w5.cell? ⟨bd, j, none⟩ = some (.int .u8 y) := fun j y hy => by
      obtain ⟨b', o', e', _, hc'⟩ := HI5.out.2 (by omega)
      simp only [Option.some.injEq, Addr.mk.injEq] at e'
      obtain ⟨rfl, rfl, _⟩ := e'
      have := hc' j y hy
      rw [Nat.zero_add] at this
      exact this
    have HDAT := hide hdat
    have hw5 : w.heap.size ≤ w5.heap.size := by have := HA5.out.size; omega
    have hne6 : w.heap.size + 1 + 1 ≠ w.heap.size + 1 ∧ bd ≠ w.heap.size + 1 ∧ wk.heap.size ≠ w.heap.size + 1 ∧ wk.heap.size + 1 ≠ w.heap.size + 1 := by
      have h2 := HA2.out.size
      omega
    have hZ2 : Z2.length ≤ 8203 := by have := HZL1.out; have := HZL2.out; omega
    clear hdat hA2own HI5 HAk HIk hS'
    gi_wp2_with fail
    refine range_chunk hg1 hg3 hl.2 hcge (by unfold maxLen at hcle; omega) HC5.out (by omega) rfl rfl
      (fun pre W => pre.length ≤ gct G s.size ∧ ∃ v, AppV (.slice A0 n0 c0) w w5 W base (w.heap.size + 1) [w.heap.size, w.heap.size + 1, w.heap.size + 1 + 1, bd, wk.heap.size, wk.heap.size + 1] v (Z2 ++ txL m (bytesI s) pre))
      (fun _ _ _ => False) (fun pre W W' h ht => ⟨h.1, h.2.imp fun v hv => hv.turn HL6.out hbase hw5 ht⟩) (fun c pre W W' h ht => h) ⟨Nat.zero_le _, _, by simpa [txL] using HA6.out⟩
      (fun x => { tmps := #[.agg #[.int .i64 m, .string s], .slice A0 n0 c0, .pointer (some ⟨w.heap.size, 0, none⟩), .pointer (some ⟨w.heap.size + 1, 0, none⟩), .slice none 0 0, .pointer (some ⟨w.heap.size + 1 + 1, 0, none⟩), .bool true, .slice (some ⟨bd, x.val * G, none⟩) (min G (s.size - x.val * G)) (min G (s.size - x.val * G)), undef, undef, undef, .tuple #[.iface 141 (.agg #[.string a, .int .i64 z]), .bool true], .pointer (some ⟨w.heap.size, 0, none⟩), .int .i64 m, .tuple #[.iface 141 (.agg #[.string a, .int .i64 z]), .bool true], .iface 141 (.agg #[.string a, .int .i64 z]), .bool true, .slice A0 n0 c0, .pointer (some ⟨w.heap.size, 0, none⟩), .int .i64 m, .slice A1 Z1.length c1, .slice A1 Z1.length c1, .pointer (some ⟨w.heap.size, 1, none⟩), .string s, .int .i64 s.size, .slice A2 Z2.length c2, .pointer (some ⟨w.heap.size, 1, none⟩), .string s, .slice (some ⟨bd, 0, none⟩) s.size cap, .iface 141 (.agg #[.string a, .int .i64 z]), .int .i64 G, .func (.func 113) #[] #[.pointer (some ⟨wk.heap.size, 0, none⟩), .pointer (some ⟨wk.heap.size + 1, 0, none⟩)], .slice (some ⟨bd, x.val * G, none⟩) (min G (s.size - x.val * G)) (min G (s.size - x.val * G)), undef, undef, undef, undef, undef, undef, undef, undef, undef, undef, undef, undef, undef, undef, undef, undef, undef, undef, undef, undef, undef, undef, undef, undef], defers := [] }) ?assign ?body ?done ?stop
    case assign =>
      intro l x W K' hK'
      gi_wp2_with fail
      exact hK'
    case body =>
      rintro l pre x W ⟨hpl, v, hA⟩ hlen
      have HA := hide hA
      clear hA
      have hxG := (gct_lt hg1).1 x.isLt
      have hmm : (grp G (bytesI s) x.val).length = min G (s.size - x.val * G) := by rw [grp_len, HSZ.out]
      obtain ⟨mm, hmq⟩ : ∃ mm, min G (s.size - x.val * G) = mm := ⟨_, rfl⟩
      have hmm1 : 1 ≤ mm := by omega
      have hmmG : mm ≤ G := by omega
      have hmms : x.val * G + mm ≤ s.size := by omega
      simp only [hmq]
      rw [hmq] at hmm
      have HMM := hide hmm
      obtain ⟨p, hp⟩ : ∃ p, x.val * G = p := ⟨_, rfl⟩
      have HP := hide hp
      simp only [hp]
      rw [HP.out] at hmms
      have htl : (txL m (bytesI s) pre).length ≤ 2805 := by have := txL_le m (bytesI s) pre; have := gct_le hg1 s.size; omega
      have hZp : (Z2 ++ txL m (bytesI s) pre).length ≤ 20000 := by rw [List.length_append]; omega
      have HNX := hide (show Z2 ++ txL m (bytesI s) (pre ++ [x]) = (Z2 ++ txL m (bytesI s) pre) ++ bitsOf (gnum m (grp G (bytesI s) x.val)) (wid m mm) by rw [txL_snoc, HGG.out, HMM.out, List.append_assoc])
      obtain ⟨Zp, hzp⟩ : ∃ Zp, Z2 ++ txL m (bytesI s) pre = Zp := ⟨_, rfl⟩
      rw [hzp] at HA HNX hZp
      obtain ⟨Av, cv, hv, hcv⟩ := HA.out.own.form
      subst hv
      have HN : Hid (pre.length + 1 ≤ gct G s.size) := hide (by omega)
      clear hzp hp hmq hmm hxG htl
      gi_wp2_with fail
      gi_loopw [8, 35] (fun q k wr => ∃ (t : Nat) (xv : Int), t ≤ mm ∧ k = .int .i64 (t : Nat) ∧ q = .int .i64 xv ∧ Hid (gnum m ((grp G (bytesI s) x.val).take t) = xv) ∧ AppV (.slice A0 n0 c0) w w5 wr base (w.heap.size + 1) [w.heap.size, w.heap.size + 1, w.heap.size + 1 + 1, bd, wk.heap.size, wk.heap.size + 1] (.slice Av Zp.length cv) Zp ∧ KeepsFrom w5.heap.size W wr) (fun _ k _ => mm - (intOf k).toNat)
      case atStart => exact ⟨0, 0, by omega, rfl, rfl, rfl, HA.out, KeepsFrom.refl _ _⟩
      case round =>
        obtain ⟨t, xv, ht, rfl, rfl, hx, hA, hKp⟩ := hrel
        have HAr := hide hA
        have HKr := hide hKp
        clear hA hKp
        have hxb : 0 ≤ xv ∧ xv < 16777216 := by
          have h := gnum_bd HALL.out x.val t
          rw [HGG.out, hx.out] at h
          exact h
        have hmcr := (HAr.out.keep (w.heap.size + 1 + 1) (by simp) (by omega)).trans HMC.out
        obtain ⟨cM, _⟩ := cell1 hmcr
        by_cases htm : t < mm
        · have hit : p + t < s.size := by omega
          obtain ⟨y, hy, hy2, hy0, hy1⟩ := byteAt s hit
          have hcy : wr.cell? ⟨bd, p + t, none⟩ = some (.int .u8 y) := (World.cell?_of_block (HAr.out.keep bd (by simp) (by omega))).trans (HDAT.out _ _ hy2)
          have HST := hide (gnum_step (B := ((gbase m : Nat) : Int)) (m := m) (G := G) (bs := bytesI s) (j := x.val) (t := t) (by omega) (by rw [HP.out]; exact hy2))
          have hcc := all_mem HALL.out (List.mem_of_getElem? hy2)
          have hgb := gbase_le m
          have hCC := HC.out
          have HVV := hide (HV.out y)
          obtain ⟨gb, hgbe⟩ : ∃ gb, gbase m = gb := ⟨_, rfl⟩
          rw [hgbe] at HST hcc hgb hCC
          have HCC := hide hCC
          obtain ⟨cv', hcve⟩ : ∃ cv', cval m y = cv' := ⟨_, rfl⟩
          rw [hcve] at HST hcc HVV
          obtain ⟨q1, hq1⟩ : ∃ q1, xv * (gb : Int) = q1 := ⟨_, rfl⟩
          have hq10 : 0 ≤ q1 := by rw [← hq1]; exact Int.mul_nonneg hxb.1 (by omega)
          have hq11 : q1 ≤ 16777216 * 256 := by rw [← hq1]; exact Int.mul_le_mul (by omega) (by omega) (by omega) (by omega)
          have hwm : IntKind.i64.wrap (xv * (gb : Int)) = q1 := by rw [hq1]; exact IntWalk.i64_in _ ⟨by omega, by omega⟩
          have hwa : IntKind.i64.wrap (q1 + cv') = q1 + cv' := IntWalk.i64_in _ ⟨by omega, by omega⟩
          have hwy : IntKind.i64.wrap y = y := IntWalk.i64_in _ ⟨by omega, by omega⟩
          have HNQ := hide (show gnum m ((grp G (bytesI s) x.val).take (t + 1)) = q1 + cv' by
            have h := HST.out
            have h2 := hx.out
            unfold gnum at h2 ⊢
            rw [hgbe] at h2 ⊢
            rw [h2, hq1] at h
            exact h)
          clear hcve hgbe hq1 hy2 hx hcc hgb hCC hxb hmcr
          gi_wp2_with fail
          refine round_begin (fun w' => w'.cell? ⟨w.heap.size + 1 + 1, 0, none⟩ = some (.iface 141 (.agg #[.string a, .int .i64 z]))) 10 (by kernel_rfl) (by kernel_rfl) (by rintro ⟨_, _, hq⟩; exact hq) (HMS.out _ _ _ HAr.out.drew) (fun hS' => ?_)
          clear cM hcy
          refine tail_take2 0 rfl (by kernel_rfl) (by kernel_rfl) (by kernel_rfl) (by decide) (fun _ _ _ h => h) (by rfl) (v := ?_) ?_ (by assumption) ?_
          rotate_left 1
          · intro w' hS'; (try dsimp only at hS'); go_simp; try with_reducible rfl
          try simp only [Act.put, List.setIfInBounds_toArray, List.set_cons_zero, List.set_cons_succ]
          refine tail_take2 1 rfl (by kernel_rfl) (by kernel_rfl) (by kernel_rfl) (by decide) (fun _ _ _ h => h) (by rfl) (v := ?_) ?_ (by assumption) ?_
          rotate_left 1
          · intro w' hS'; (try dsimp only at hS'); go_simp; try with_reducible rfl
          try simp only [Act.put, List.setIfInBounds_toArray, List.set_cons_zero, List.set_cons_succ]
          refine tail_take2 4 rfl (by kernel_rfl) (by kernel_rfl) (by kernel_rfl) (by decide) (fun _ _ _ h => h) (by rfl) (v := ?_) ?_ (by assumption) ?_
          rotate_left 1
          · intro w' hS'; (try dsimp only at hS'); go_simp; try with_reducible rfl
          try simp only [Act.put, List.setIfInBounds_toArray, List.set_cons_zero, List.set_cons_succ]
          refine tail_take2 5 rfl (by kernel_rfl) (by kernel_rfl) (by kernel_rfl) (by decide) (fun _ _ _ h => h) (by rfl) (v := ?_) ?_ (by assumption) ?_
          rotate_left 1
          · intro w' hS'; (try dsimp only at hS'); go_simp; try with_reducible rfl
          try simp only [Act.put, List.setIfInBounds_toArray, List.set_cons_zero, List.set_cons_succ]
          refine tail_take2 6 rfl (by kernel_rfl) (by kernel_rfl) (by kernel_rfl) (by decide) (fun _ _ _ h => h) (by rfl) (v := ?_) ?_ (by assumption) ?_
          rotate_left 1
          · intro w' hS'; (try dsimp only at hS'); go_simp; try with_reducible rfl
          try simp only [Act.put, List.setIfInBounds_toArray, List.set_cons_zero, List.set_cons_succ]
          refine tail_call 2 rfl (by kernel_rfl) rfl (fun K hK => ?_)
          go_simp
          (go_at_call 152; refine (HCC.out _).mono ?_; rintro e w7 ⟨rfl, hb7⟩; have HA7 := hide (HAr.out.drew.next HL6.out hbase hb7); have HK7 := hide (HKr.out.trans (((KeepsOthers.drew wr).from _).trans (keeps_below hb7))); clear hb7)
          refine hK.out _ _ (by (try dsimp only); exact HMS.out _ _ _ HA7.out) (fun hS' => ?_)
          clear hK K
          try simp only [Act.put, List.setIfInBounds_toArray, List.set_cons_zero, List.set_cons_succ]
          refine tail_take2 3 rfl (by kernel_rfl) (by kernel_rfl) (by kernel_rfl) (by decide) (fun _ _ _ h => h) (by rfl) (v := ?_) ?_ (by assumption) ?_
          rotate_left 1
          · intro w' hS'; (try dsimp only at hS'); go_simp; try with_reducible rfl
          try simp only [Act.put, List.setIfInBounds_toArray, List.set_cons_zero, List.set_cons_succ]
          refine tail_call 7 rfl (by kernel_rfl) rfl (fun K hK => ?_)
          go_simp
          (go_at_call 154; refine (HVV.out _).mono ?_; rintro e w8 ⟨rfl, hb8⟩; have HA8 := hide (HA7.out.next HL6.out hbase hb8); have HK8 := hide (HK7.out.trans (keeps_below hb8)); clear hb8)
          refine hK.out _ _ (by (try dsimp only); exact HMS.out _ _ _ HA8.out) (fun hS' => ?_)
          clear hK K
          try simp only [Act.put, List.setIfInBounds_toArray, List.set_cons_zero, List.set_cons_succ]
          refine tail_take2 8 rfl (by kernel_rfl) (by kernel_rfl) (by kernel_rfl) (by decide) (fun _ _ _ h => h) (by rfl) (v := ?_) ?_ (by assumption) ?_
          rotate_left 1
          · intro w' hS'; (try dsimp only at hS'); go_simp; try with_reducible rfl
          try simp only [Act.put, List.setIfInBounds_toArray, List.set_cons_zero, List.set_cons_succ]
          refine tail_take2 9 rfl (by kernel_rfl) (by kernel_rfl) (by kernel_rfl) (by decide) (fun _ _ _ h => h) (by rfl) (v := ?_) ?_ (by assumption) ?_
          rotate_left 1
          · intro w' hS'; (try dsimp only at hS'); go_simp; try with_reducible rfl
          try simp only [Act.put, List.setIfInBounds_toArray, List.set_cons_zero, List.set_cons_succ]
          refine tail_end (by kernel_rfl) ?_
          gi_wp2_with fail
          go_roundw
          case rel => exact ⟨t + 1, q1 + cv', by omega, by go_num, rfl, HNQ, HA8.out, HK8.out⟩
          case measure => simp [intOf]; omega
        · have htt : t = mm := by omega
          have HQ := hide (show Zp ++ bitsOf xv (wid m mm) = Z2 ++ txL m (bytesI s) (pre ++ [x]) by
            have h := hx.out
            rw [htt, List.take_of_length_le (Nat.le_of_eq HMM.out)] at h
            rw [HNX.out, h])
          have hGW := implGroupWidth m hm mm (by rw [HGG.out]; exact hmmG)
          rw [HX.out] at hGW
          have hwd := wid_le m mm
          obtain ⟨Wd, hWd⟩ : ∃ Wd, wid m mm = Wd := ⟨_, rfl⟩
          rw [hWd] at hGW hwd HQ
          have HGW := hide hGW
          obtain ⟨cB, _⟩ := cell1 HAr.out.box
          clear hWd hGW hx hmcr
          gi_wp2_with fail
          refine round_begin (fun w' => w'.cell? ⟨w.heap.size + 1, 0, none⟩ = some (.slice Av Zp.length cv) ∧ w'.cell? ⟨w.heap.size + 1 + 1, 0, none⟩ = some (.iface 141 (.agg #[.string a, .int .i64 z]))) 7 (by kernel_rfl) (by kernel_rfl) (by rintro ⟨_, _, hq⟩; exact hq) ⟨cB, cM⟩ (fun hS' => ?_)
          clear cM cB
          refine tail_take 0 rfl (by kernel_rfl) (by kernel_rfl) (by kernel_rfl) (by kernel_rfl) (fun _ _ _ h => h) (by rfl) (v := ?_) ?_ (by assumption) ?_
          rotate_left 1
          · intro w' hS'; obtain ⟨d0, d1⟩ := hS'; go_simp; try with_reducible rfl
          try simp only [Act.put, List.setIfInBounds_toArray, List.set_cons_zero, List.set_cons_succ]
          refine tail_take 1 rfl (by kernel_rfl) (by kernel_rfl) (by kernel_rfl) (by kernel_rfl) (fun _ _ _ h => h) (by rfl) (v := ?_) ?_ (by assumption) ?_
          rotate_left 1
          · intro w' hS'; obtain ⟨d0, d1⟩ := hS'; go_simp; try with_reducible rfl
          try simp only [Act.put, List.setIfInBounds_toArray, List.set_cons_zero, List.set_cons_succ]
          refine tail_take 2 rfl (by kernel_rfl) (by kernel_rfl) (by kernel_rfl) (by kernel_rfl) (fun _ _ _ h => h) (by rfl) (v := ?_) ?_ (by assumption) ?_
          rotate_left 1
          · intro w' hS'; obtain ⟨d0, d1⟩ := hS'; go_simp; try with_reducible rfl
          try simp only [Act.put, List.setIfInBounds_toArray, List.set_cons_zero, List.set_cons_succ]
          refine tail_take 3 rfl (by kernel_rfl) (by kernel_rfl) (by kernel_rfl) (by kernel_rfl) (fun _ _ _ h => h) (by rfl) (v := ?_) ?_ (by assumption) ?_
          rotate_left 1
          · intro w' hS'; obtain ⟨d0, d1⟩ := hS'; go_simp; try with_reducible rfl
          try simp only [Act.put, List.setIfInBounds_toArray, List.set_cons_zero, List.set_cons_succ]
          refine tail_take 4 rfl (by kernel_rfl) (by kernel_rfl) (by kernel_rfl) (by kernel_rfl) (fun _ _ _ h => h) (by rfl) (v := ?_) ?_ (by assumption) ?_
          rotate_left 1
          · intro w' hS'; obtain ⟨d0, d1⟩ := hS'; go_simp; try with_reducible rfl
          try simp only [Act.put, List.setIfInBounds_toArray, List.set_cons_zero, List.set_cons_succ]
          refine tail_call 5 rfl (by kernel_rfl) rfl (fun K hK => ?_)
          go_simp
          (go_at_call 85; refine (HGW.out _).mono ?_; rintro e w9 ⟨rfl, hb9⟩; have HA9 := hide (HAr.out.drew.next HL6.out hbase hb9); have HK9 := hide (HKr.out.trans (((KeepsOthers.drew wr).from _).trans (keeps_below hb9))); clear hb9)
          refine hK.out _ _ (by (try dsimp only); exact ⟨(cell1 HA9.out.box).1, HMS.out _ _ _ HA9.out⟩) (fun hS' => ?_)
          clear hK K
          try simp only [Act.put, List.setIfInBounds_toArray, List.set_cons_zero, List.set_cons_succ]
          refine tail_call 6 rfl (by kernel_rfl) rfl (fun K hK => ?_)
          go_simp
          (go_at_call 77; refine (implAppendNumberM (.slice Av Zp.length cv) base Wd Zp xv w9 HA9.out.own (by have := HA9.out.bel.size; omega) (by omega) (by omega) (by omega) (by omega)).mono ?_; rintro e wv ⟨vv, rfl, ho, hg', hl'⟩; obtain ⟨Zn, hzn⟩ : ∃ Zn, Zp ++ bitsOf xv Wd = Zn := ⟨_, rfl⟩; rw [hzn] at ho; have HZn := hide hzn; clear hzn; have HAF := hide (HA9.out.put (by simp) HL6.out (by omega) hbase ho hg' hl'); have HKF := hide (HK9.out.trans ((HA9.out.keeps hg' vv).from _)); have HRW := hide (HA9.out.rows HL6.out hg'); have HBX := hide ((HRW.out (w.heap.size + 1) (by simp)).trans HA9.out.box); obtain ⟨Av2, cv2, rfl, _⟩ := ho.form; clear ho hg' hl')
          refine hK.out _ _ (by (try dsimp only); exact ⟨(cell1 HBX.out).1, (cell1 ((HRW.out (w.heap.size + 1 + 1) (by simp)).trans ((HA9.out.keep (w.heap.size + 1 + 1) (by simp) (by omega)).trans HMC.out))).1⟩) (fun hS' => ?_)
          clear hK K
          try simp only [Act.put, List.setIfInBounds_toArray, List.set_cons_zero, List.set_cons_succ]
          obtain ⟨d0, d1⟩ := hS'
          obtain ⟨_, fz⟩ := cell1 HBX.out
          refine tail_last 7 rfl (by kernel_rfl) (by kernel_rfl) rfl rfl (fun K hK => ?_)
          go_simp
          refine hK.out _ _ ?_
          clear hK K
          try simp only [Act.put, List.setIfInBounds_toArray, List.set_cons_zero, List.set_cons_succ]
          refine ⟨HKF.out, ?_, by rw [List.length_append]; exact HN.out, .slice Av2 Zn.length cv2, ?_⟩
          · exact ⟨(HAF.out.keep wk.heap.size (by simp) (by omega)).trans (HA.out.keep wk.heap.size (by simp) (by omega)).symm, (HAF.out.keep (wk.heap.size + 1) (by simp) (by omega)).trans (HA.out.keep (wk.heap.size + 1) (by simp) (by omega)).symm⟩
          · rw [← HQ.out, HZn.out]; exact HAF.out
    case done =>
      rintro Dd W hDd ⟨_, v, hA⟩ hKd
      have HFL := hide (show Z2 ++ txL m (bytesI s) (List.finRange (gct G s.size)) = zs ++ segBits m (bytesI s) by
        rw [txL_all, ← HZ2.out, ← HZ1.out, segBits, headB, HSZ.out, HGG.out]
        simp only [List.append_assoc])
      rw [HFL.out] at hA
      obtain ⟨Zf, hzf⟩ : ∃ Zf, zs ++ segBits m (bytesI s) = Zf := ⟨_, rfl⟩
      rw [hzf] at hA
      have HZF := hide hzf
      have HA := hide hA
      obtain ⟨Av, cv, rfl, hcv⟩ := hA.own.form
      obtain ⟨cB, _⟩ := cell1 hA.box
      have HKD := hide hKd
      clear hA hzf hKd
      gi_wp2_with fail
      refine ⟨by simp, .inl ⟨_, _, rfl, run_takeDeferred HKD.out, ?_⟩⟩
      have HAF := hide (HA.out.turn HL6.out hbase hw5 (turn_put (.deferred none) HKD.out rfl hDd))
      refine ⟨.slice Av Zf.length cv, by simp [results, Try.results50, go_sem], ?_⟩
      exact ⟨_, rfl, by rw [HZF.out]; exact HAF.out.own, HAF.out.bel, HAF.out.gro, HAF.out.src⟩
    case stop =>
      rintro Dd c pre W hDd hpre h
      exact h.elim
  · go_simp
    (go_at_call 153; refine (HGS.out _).mono ?_; rintro e w4 ⟨rfl, hb4⟩; have HA4 := hide (HA2.out.drew.next HL0.out hbase hb4); have HB4 := hide hb4; clear hb4)
    refine hK.out _ _ (by (try dsimp only); exact HSM.out _ _ _ HA4.out) (fun hS' => ?_)
    clear hK K
    try simp only [Act.put, List.setIfInBounds_toArray, List.set_cons_zero, List.set_cons_succ]
    have hbds : w3.heap.size ≤ w4.heap.size := HB4.out.size
    refine tail_call 2 rfl (by kernel_rfl) rfl (fun K hK => ?_)
    have hcv := HCV.out
    go_simp
    have hcge : s.size ≤ grownCap w4 s.size 0 5 := grownCap_ge _ _ _ _
    have hcle : grownCap w4 s.size 0 5 ≤ maxLen := grownCap_le_maxLen _ _ _ _ (by unfold maxLen; omega)
    obtain ⟨cap, hcap⟩ : ∃ cap, grownCap w4 s.size 0 5 = cap := ⟨_, rfl⟩
    rw [hcap] at hcge hcle ⊢
    have HIc := hide (bytes_row w4 s cap 5 ((bytesRow s cap).size, (bytesRow s cap).size + 1))
    have HAc := hide ((HA4.out.next HL0.out hbase ((Below.refl _ _).alloc (Nat.le_refl _) (.cells (bytesRow s cap) 5 ((bytesRow s cap).size, (bytesRow s cap).size + 1)))).drew)
    obtain ⟨bd, hbd⟩ : ∃ bd, w4.heap.size = bd := ⟨_, rfl⟩
    have HBD := hide (show bd < (w4.alloc (.cells (bytesRow s cap) 5 ((bytesRow s cap).size, (bytesRow s cap).size + 1))).heap.size by rw [alloc_size]; omega)
    rw [hbd] at HIc ⊢
    clear hcv hcap
    have hbds2 : w3.heap.size ≤ bd := by omega
    refine hK.out _ _ (HSM.out _ _ _ HAc.out) (fun hS' => ?_)
    clear hK K
    try simp only [Act.put, List.setIfInBounds_toArray, List.set_cons_zero, List.set_cons_succ]
    obtain ⟨wk, hwk⟩ : ∃ wk, (w4.alloc (.cells (bytesRow s cap) 5 ((bytesRow s cap).size, (bytesRow s cap).size + 1))).drew = wk := ⟨_, rfl⟩
    have hbw4 : bd < wk.heap.size := by rw [← hwk]; exact HBD.out
    have HIk := hide (show Ints .u8 wk (bd + 1) (some ⟨bd, 0, none⟩) s.size (bytesI s) by rw [← hwk]; exact HIc.out)
    rw [hwk] at HAc hS' ⊢
    have HAk := hide HAc.out
    clear hwk hbd HBD HIc HAc HA4 HB4
    refine tail_call 5 rfl (by kernel_rfl) rfl (fun K hK => ?_)
    go_simp
    (go_at_call 84; refine (implChunk bd 0 s.size cap G hg1 wk).mono ?_; rintro e w5 ⟨rfl, hw5⟩; have HA5 := hide (show AppV (.slice A0 n0 c0) w Wa w5 base (w.heap.size + 1) [w.heap.size, w.heap.size + 1, w.heap.size + 1 + 1] (.slice A2 Z2.length c2) Z2 by rw [hw5]; exact HAk.out.next HL0.out hbase (((Below.refl _ _).alloc (Nat.le_refl _) _).alloc (by rw [alloc_size]; omega) _)); have HI5 := hide (show Ints .u8 w5 (bd + 1) (some ⟨bd, 0, none⟩) s.size (bytesI s) by rw [hw5]; exact HIk.out.below (((Below.refl _ _).alloc (by omega) _).alloc (by rw [alloc_size]; omega) _)); have HC5 := hide (show CkRow w5 wk.heap.size bd 0 s.size cap G by rw [hw5]; have q := heap_alloc_new (wk.alloc (.cells #[.slice (some ⟨bd, 0, none⟩) s.size cap] 22)) (.cells #[.int .i64 (G : Nat)] 3); rw [alloc_size] at q; exact ⟨row_keep (heap_alloc_new wk _) _, q⟩); clear hw5)
    refine hK.out _ _ (by (try dsimp only); exact HSM.out _ _ _ HA5.out) (fun hS' => ?_)
    clear hK K
    try simp only [Act.put, List.setIfInBounds_toArray, List.set_cons_zero, List.set_cons_succ]
    refine tail_end (by kernel_rfl) ?_
    unfold OnlyN
    have hA2own := HA2.out.own
    have HA6 := hide (show AppV (.slice A0 n0 c0) w w5 w5 base (w.heap.size + 1) [w.heap.size, w.heap.size + 1, w.heap.size + 1 + 1, bd, wk.heap.size, wk.heap.size + 1] (.slice A2 Z2.length c2) Z2 from HA5.out.from fun g hg hm => by
      have h1 := HA5.out.lies g hg
      have h2 := (hA2own.lt hg).2
      simp only [List.mem_cons, List.mem_nil_iff, or_false] at h1 hm
      omega)
    have HL6 := hide (show ∀ i ∈ [w.heap.size, w.heap.size + 1, w.heap.size + 1 + 1, bd, wk.heap.size, wk.heap.size + 1], i < w5.heap.size by
      intro i hi
      have h1 := HC5.out.lt
      have h2 := HA5.out.size
      simp only [List.mem_cons, List.mem_nil_iff, or_false] at hi
      omega)
    have HMC := hide (show w5.heap[w.heap.size + 1 + 1]? = some (.cells #[.iface 141 (.agg #[.string a, .int .i64 z])] 103 (0, 0)) from (HA5.out.keep (w.heap.size + 1 + 1) (by simp) (by omega)).trans HK.out.2.2)
    have HMS := hide (fun (W : World) (v : Value) (zz : List Int) (h : AppV (.slice A0 n0 c0) w w5 W base (w.heap.size + 1) [w.heap.size, w.heap.size + 1, w.heap.size + 1 + 1, bd, wk.heap.size, wk.heap.size + 1] v zz) => (cell1 ((h.keep (w.heap.size + 1 + 1) (by simp) (by omega)).trans HMC.out)).1)
    have hdat : ∀ (j : Nat) (y : Int), (bytesI s)[j]? = some y → w5.cell? ⟨bd, j, none⟩ = some (.int .u8 y) := fun j y hy => by
      obtain ⟨b', o', e', _, hc'⟩ := HI5.out.2 (by omega)
      simp only [Option.some.injEq, Addr.mk.injEq] at e'
      obtain ⟨rfl, rfl, _⟩ := e'
      have := hc' j y hy
      rw [Nat.zero_add] at this
      exact this
    have HDAT := hide hdat
    have hw5 : w.heap.size ≤ w5.heap.size := by have := HA5.out.size; omega
    have hne6 : w.heap.size + 1 + 1 ≠ w.heap.size + 1 ∧ bd ≠ w.heap.size + 1 ∧ wk.heap.size ≠ w.heap.size + 1 ∧ wk.heap.size + 1 ≠ w.heap.size + 1 := by
      have h2 := HA2.out.size
      omega
    have hZ2 : Z2.length ≤ 8203 := by have := HZL1.out; have := HZL2.out; omega
    clear hdat hA2own HI5 HAk HIk hS'
    gi_wp2_with fail
    refine range_chunk hg1 hg3 hl.2 hcge (by unfold maxLen at hcle; omega) HC5.out (by omega) rfl rfl
      (fun pre W => pre.length ≤ gct G s.size ∧ ∃ v, AppV (.slice A0 n0 c0) w w5 W base (w.heap.size + 1) [w.heap.size, w.heap.size + 1, w.heap.size + 1 + 1, bd, wk.heap.size, wk.heap.size + 1] v (Z2 ++ txL m (bytesI s) pre))
      (fun _ _ _ => False) (fun pre W W' h ht => ⟨h.1, h.2.imp fun v hv => hv.turn HL6.out hbase hw5 ht⟩) (fun c pre W W' h ht => h) ⟨Nat.zero_le _, _, by simpa [txL] using HA6.out⟩
      (fun x => { tmps := #[.agg #[.int .i64 m, .string s], .slice A0 n0 c0, .pointer (some ⟨w.heap.size, 0, none⟩), .pointer (some ⟨w.heap.size + 1, 0, none⟩), .slice none 0 0, .pointer (some ⟨w.heap.size + 1 + 1, 0, none⟩), .bool true, .slice (some ⟨bd, x.val * G, none⟩) (min G (s.size - x.val * G)) (min G (s.size - x.val * G)), undef, undef, undef, .tuple #[.iface 141 (.agg #[.string a, .int .i64 z]), .bool true], .pointer (some ⟨w.heap.size, 0, none⟩), .int .i64 m, .tuple #[.iface 141 (.agg #[.string a, .int .i64 z]), .bool true], .iface 141 (.agg #[.string a, .int .i64 z]), .bool true, .slice A0 n0 c0, .pointer (some ⟨w.heap.size, 0, none⟩), .int .i64 m, .slice A1 Z1.length c1, .slice A1 Z1.length c1, .pointer (some ⟨w.heap.size, 1, none⟩), .string s, .int .i64 s.size, .slice A2 Z2.length c2, .pointer (some ⟨w.heap.size, 1, none⟩), .string s, .slice (some ⟨bd, 0, none⟩) s.size cap, .iface 141 (.agg #[.string a, .int .i64 z]), .int .i64 G, .func (.func 113) #[] #[.pointer (some ⟨wk.heap.size, 0, none⟩), .pointer (some ⟨wk.heap.size + 1, 0, none⟩)], .slice (some ⟨bd, x.val * G, none⟩) (min G (s.size - x.val * G)) (min G (s.size - x.val * G)), undef, undef, undef, undef, undef, undef, undef, undef, undef, undef, undef, undef, undef, undef, undef, undef, undef, undef, undef, undef, undef, undef, undef, undef], defers := [] }) ?assign ?body ?done ?stop
    case assign =>
      intro l x W K' hK'
      gi_wp2_with fail
      exact hK'
    case body =>
      rintro l pre x W ⟨hpl, v, hA⟩ hlen
      have HA := hide hA
      clear hA
      have hxG := (gct_lt hg1).1 x.isLt
      have hmm : (grp G (bytesI s) x.val).length = min G (s.size - x.val * G) := by rw [grp_len, HSZ.out]
      obtain ⟨mm, hmq⟩ : ∃ mm, min G (s.size - x.val * G) = mm := ⟨_, rfl⟩
      have hmm1 : 1 ≤ mm := by omega
      have hmmG : mm ≤ G := by omega
      have hmms : x.val * G + mm ≤ s.size := by omega
      simp only [hmq]
      rw [hmq] at hmm
      have HMM := hide hmm
      obtain ⟨p, hp⟩ : ∃ p, x.val * G = p := ⟨_, rfl⟩
      have HP := hide hp
      simp only [hp]
      rw [HP.out] at hmms
      have htl : (txL m (bytesI s) pre).length ≤ 2805 := by have := txL_le m (bytesI s) pre; have := gct_le hg1 s.size; omega
      have hZp : (Z2 ++ txL m (bytesI s) pre).length ≤ 20000 := by rw [List.length_append]; omega
      have HNX := hide (show Z2 ++ txL m (bytesI s) (pre ++ [x]) = (Z2 ++ txL m (bytesI s) pre) ++ bitsOf (gnum m (grp G (bytesI s) x.val)) (wid m mm) by rw [txL_snoc, HGG.out, HMM.out, List.append_assoc])
      obtain ⟨Zp, hzp⟩ : ∃ Zp, Z2 ++ txL m (bytesI s) pre = Zp := ⟨_, rfl⟩
      rw [hzp] at HA HNX hZp
      obtain ⟨Av, cv, hv, hcv⟩ := HA.out.own.form
      subst hv
      have HN : Hid (pre.length + 1 ≤ gct G s.size) := hide (by omega)
      clear hzp hp hmq hmm hxG htl
      gi_wp2_with fail
      gi_loopw [8, 35] (fun q k wr => ∃ (t : Nat) (xv : Int), t ≤ mm ∧ k = .int .i64 (t : Nat) ∧ q = .int .i64 xv ∧ Hid (gnum m ((grp G (bytesI s) x.val).take t) = xv) ∧ AppV (.slice A0 n0 c0) w w5 wr base (w.heap.size + 1) [w.heap.size, w.heap.size + 1, w.heap.size + 1 + 1, bd, wk.heap.size, wk.heap.size + 1] (.slice Av Zp.length cv) Zp ∧ KeepsFrom w5.heap.size W wr) (fun _ k _ => mm - (intOf k).toNat)
      case atStart => exact ⟨0, 0, by omega, rfl, rfl, rfl, HA.out, KeepsFrom.refl _ _⟩
      case round =>
        obtain ⟨t, xv, ht, rfl, rfl, hx, hA, hKp⟩ := hrel
        have HAr := hide hA
        have HKr := hide hKp
        clear hA hKp
        have hxb : 0 ≤ xv ∧ xv < 16777216 := by
          have h := gnum_bd HALL.out x.val t
          rw [HGG.out, hx.out] at h
          exact h
        have hmcr := (HAr.out.keep (w.heap.size + 1 + 1) (by simp) (by omega)).trans HMC.out
        obtain ⟨cM, _⟩ := cell1 hmcr
        by_cases htm : t < mm
        · have hit : p + t < s.size := by omega
          obtain ⟨y, hy, hy2, hy0, hy1⟩ := byteAt s hit
          have hcy : wr.cell? ⟨bd, p + t, none⟩ = some (.int .u8 y) := (World.cell?_of_block (HAr.out.keep bd (by simp) (by omega))).trans (HDAT.out _ _ hy2)
          have HST := hide (gnum_step (B := ((gbase m : Nat) : Int)) (m := m) (G := G) (bs := bytesI s) (j := x.val) (t := t) (by omega) (by rw [HP.out]; exact hy2))
          have hcc := all_mem HALL.out (List.mem_of_getElem? hy2)
          have hgb := gbase_le m
          have hCC := HC.out
          have HVV := hide (HV.out y)
          obtain ⟨gb, hgbe⟩ : ∃ gb, gbase m = gb := ⟨_, rfl⟩
          rw [hgbe] at HST hcc hgb hCC
          have HCC := hide hCC
          obtain ⟨cv', hcve⟩ : ∃ cv', cval m y = cv' := ⟨_, rfl⟩
          rw [hcve] at HST hcc HVV
          obtain ⟨q1, hq1⟩ : ∃ q1, xv * (gb : Int) = q1 := ⟨_, rfl⟩
          have hq10 : 0 ≤ q1 := by rw [← hq1]; exact Int.mul_nonneg hxb.1 (by omega)
          have hq11 : q1 ≤ 16777216 * 256 := by rw [← hq1]; exact Int.mul_le_mul (by omega) (by omega) (by omega) (by omega)
          have hwm : IntKind.i64.wrap (xv * (gb : Int)) = q1 := by rw [hq1]; exact IntWalk.i64_in _ ⟨by omega, by omega⟩
          have hwa : IntKind.i64.wrap (q1 + cv') = q1 + cv' := IntWalk.i64_in _ ⟨by omega, by omega⟩
          have hwy : IntKind.i64.wrap y = y := IntWalk.i64_in _ ⟨by omega, by omega⟩
          have HNQ := hide (show gnum m ((grp G (bytesI s) x.val).take (t + 1)) = q1 + cv' by
            have h := HST.out
            have h2 := hx.out
            unfold gnum at h2 ⊢
            rw [hgbe] at h2 ⊢
            rw [h2, hq1] at h
            exact h)
          clear hcve hgbe hq1 hy2 hx hcc hgb hCC hxb hmcr
          gi_wp2_with fail
          refine round_begin (fun w' => w'.cell? ⟨w.heap.size + 1 + 1, 0, none⟩ = some (.iface 141 (.agg #[.string a, .int .i64 z]))) 10 (by kernel_rfl) (by kernel_rfl) (by rintro ⟨_, _, hq⟩; exact hq) (HMS.out _ _ _ HAr.out.drew) (fun hS' => ?_)
          clear cM hcy
          refine tail_take2 0 rfl (by kernel_rfl) (by kernel_rfl) (by kernel_rfl) (by decide) (fun _ _ _ h => h) (by rfl) (v := ?_) ?_ (by assumption) ?_
          rotate_left 1
          · intro w' hS'; (try dsimp only at hS'); go_simp; try with_reducible rfl
          try simp only [Act.put, List.setIfInBounds_toArray, List.set_cons_zero, List.set_cons_succ]
          refine tail_take2 1 rfl (by kernel_rfl) (by kernel_rfl) (by kernel_rfl) (by decide) (fun _ _ _ h => h) (by rfl) (v := ?_) ?_ (by assumption) ?_
          rotate_left 1
          · intro w' hS'; (try dsimp only at hS'); go_simp; try with_reducible rfl
          try simp only [Act.put, List.setIfInBounds_toArray, List.set_cons_zero, List.set_cons_succ]
          refine tail_take2 4 rfl (by kernel_rfl) (by kernel_rfl) (by kernel_rfl) (by decide) (fun _ _ _ h => h) (by rfl) (v := ?_) ?_ (by assumption) ?_
          rotate_left 1
          · intro w' hS'; (try dsimp only at hS'); go_simp; try with_reducible rfl
          try simp only [Act.put, List.setIfInBounds_toArray, List.set_cons_zero, List.set_cons_succ]
          refine tail_take2 5 rfl (by kernel_rfl) (by kernel_rfl) (by kernel_rfl) (by decide) (fun _ _ _ h => h) (by rfl) (v := ?_) ?_ (by assumption) ?_
          rotate_left 1
          · intro w' hS'; (try dsimp only at hS'); go_simp; try with_reducible rfl
          try simp only [Act.put, List.setIfInBounds_toArray, List.set_cons_zero, List.set_cons_succ]
          refine tail_take2 6 rfl (by kernel_rfl) (by kernel_rfl) (by kernel_rfl) (by decide) (fun _ _ _ h => h) (by rfl) (v := ?_) ?_ (by assumption) ?_
          rotate_left 1
          · intro w' hS'; (try dsimp only at hS'); go_simp; try with_reducible rfl
          try simp only [Act.put, List.setIfInBounds_toArray, List.set_cons_zero, List.set_cons_succ]
          refine tail_call 2 rfl (by kernel_rfl) rfl (fun K hK => ?_)
          go_simp
          (go_at_call 152; refine (HCC.out _).mono ?_; rintro e w7 ⟨rfl, hb7⟩; have HA7 := hide (HAr.out.drew.next HL6.out hbase hb7); have HK7 := hide (HKr.out.trans (((KeepsOthers.drew wr).from _).trans (keeps_below hb7))); clear hb7)
          refine hK.out _ _ (by (try dsimp only); exact HMS.out _ _ _ HA7.out) (fun hS' => ?_)
          clear hK K
          try simp only [Act.put, List.setIfInBounds_toArray, List.set_cons_zero, List.set_cons_succ]
          refine tail_take2 3 rfl (by kernel_rfl) (by kernel_rfl) (by kernel_rfl) (by decide) (fun _ _ _ h => h) (by rfl) (v := ?_) ?_ (by assumption) ?_
          rotate_left 1
          · intro w' hS'; (try dsimp only at hS'); go_simp; try with_reducible rfl
          try simp only [Act.put, List.setIfInBounds_toArray, List.set_cons_zero, List.set_cons_succ]
          refine tail_call 7 rfl (by kernel_rfl) rfl (fun K hK => ?_)
          go_simp
          (go_at_call 154; refine (HVV.out _).mono ?_; rintro e w8 ⟨rfl, hb8⟩; have HA8 := hide (HA7.out.next HL6.out hbase hb8); have HK8 := hide (HK7.out.trans (keeps_below hb8)); clear hb8)
          refine hK.out _ _ (by (try dsimp only); exact HMS.out _ _ _ HA8.out) (fun hS' => ?_)
          clear hK K
          try simp only [Act.put, List.setIfInBounds_toArray, List.set_cons_zero, List.set_cons_succ]
          refine tail_take2 8 rfl (by kernel_rfl) (by kernel_rfl) (by kernel_rfl) (by decide) (fun _ _ _ h => h) (by rfl) (v := ?_) ?_ (by assumption) ?_
          rotate_left 1
          · intro w' hS'; (try dsimp only at hS'); go_simp; try with_reducible rfl
          try simp only [Act.put, List.setIfInBounds_toArray, List.set_cons_zero, List.set_cons_succ]
          refine tail_take2 9 rfl (by kernel_rfl) (by kernel_rfl) (by kernel_rfl) (by decide) (fun _ _ _ h => h) (by rfl) (v := ?_) ?_ (by assumption) ?_
          rotate_left 1
          · intro w' hS'; (try dsimp only at hS'); go_simp; try with_reducible rfl
          try simp only [Act.put, List.setIfInBounds_toArray, List.set_cons_zero, List.set_cons_succ]
          refine tail_end (by kernel_rfl) ?_
          gi_wp2_with fail
          go_roundw
          case rel => exact ⟨t + 1, q1 + cv', by omega, by go_num, rfl, HNQ, HA8.out, HK8.out⟩
          case measure => simp [intOf]; omega
        · have htt : t = mm := by omega
          have HQ := hide (show Zp ++ bitsOf xv (wid m mm) = Z2 ++ txL m (bytesI s) (pre ++ [x]) by
            have h := hx.out
            rw [htt, List.take_of_length_le (Nat.le_of_eq HMM.out)] at h
            rw [HNX.out, h])
          have hGW := implGroupWidth m hm mm (by rw [HGG.out]; exact hmmG)
          rw [HX.out] at hGW
          have hwd := wid_le m mm
          obtain ⟨Wd, hWd⟩ : ∃ Wd, wid m mm = Wd := ⟨_, rfl⟩
          rw [hWd] at hGW hwd HQ
          have HGW := hide hGW
          obtain ⟨cB, _⟩ := cell1 HAr.out.box
          clear hWd hGW hx hmcr
          gi_wp2_with fail
          refine round_begin (fun w' => w'.cell? ⟨w.heap.size + 1, 0, none⟩ = some (.slice Av Zp.length cv) ∧ w'.cell? ⟨w.heap.size + 1 + 1, 0, none⟩ = some (.iface 141 (.agg #[.string a, .int .i64 z]))) 7 (by kernel_rfl) (by kernel_rfl) (by rintro ⟨_, _, hq⟩; exact hq) ⟨cB, cM⟩ (fun hS' => ?_)
          clear cM cB
          refine tail_take 0 rfl (by kernel_rfl) (by kernel_rfl) (by kernel_rfl) (by kernel_rfl) (fun _ _ _ h => h) (by rfl) (v := ?_) ?_ (by assumption) ?_
          rotate_left 1
          · intro w' hS'; obtain ⟨d0, d1⟩ := hS'; go_simp; try with_reducible rfl
          try simp only [Act.put, List.setIfInBounds_toArray, List.set_cons_zero, List.set_cons_succ]
          refine tail_take 1 rfl (by kernel_rfl) (by kernel_rfl) (by kernel_rfl) (by kernel_rfl) (fun _ _ _ h => h) (by rfl) (v := ?_) ?_ (by assumption) ?_
          rotate_left 1
          · intro w' hS'; obtain ⟨d0, d1⟩ := hS'; go_simp; try with_reducible rfl
          try simp only [Act.put, List.setIfInBounds_toArray, List.set_cons_zero, List.set_cons_succ]
          refine tail_take 2 rfl (by kernel_rfl) (by kernel_rfl) (by kernel_rfl) (by kernel_rfl) (fun _ _ _ h => h) (by rfl) (v := ?_) ?_ (by assumption) ?_
          rotate_left 1
          · intro w' hS'; obtain ⟨d0, d1⟩ := hS'; go_simp; try with_reducible rfl
          try simp only [Act.put, List.setIfInBounds_toArray, List.set_cons_zero, List.set_cons_succ]
          refine tail_take 3 rfl (by kernel_rfl) (by kernel_rfl) (by kernel_rfl) (by kernel_rfl) (fun _ _ _ h => h) (by rfl) (v := ?_) ?_ (by assumption) ?_
          rotate_left 1
          · intro w' hS'; obtain ⟨d0, d1⟩ := hS'; go_simp; try with_reducible rfl
          try simp only [Act.put, List.setIfInBounds_toArray, List.set_cons_zero, List.set_cons_succ]
          refine tail_take 4 rfl (by kernel_rfl) (by kernel_rfl) (by kernel_rfl) (by kernel_rfl) (fun _ _ _ h => h) (by rfl) (v := ?_) ?_ (by assumption) ?_
          rotate_left 1
          · intro w' hS'; obtain ⟨d0, d1⟩ := hS'; go_simp; try with_reducible rfl
          try simp only [Act.put, List.setIfInBounds_toArray, List.set_cons_zero, List.set_cons_succ]
          refine tail_call 5 rfl (by kernel_rfl) rfl (fun K hK => ?_)
          go_simp
          (go_at_call 85; refine (HGW.out _).mono ?_; rintro e w9 ⟨rfl, hb9⟩; have HA9 := hide (HAr.out.drew.next HL6.out hbase hb9); have HK9 := hide (HKr.out.trans (((KeepsOthers.drew wr).from _).trans (keeps_below hb9))); clear hb9)
          refine hK.out _ _ (by (try dsimp only); exact ⟨(cell1 HA9.out.box).1, HMS.out _ _ _ HA9.out⟩) (fun hS' => ?_)
          clear hK K
          try simp only [Act.put, List.setIfInBounds_toArray, List.set_cons_zero, List.set_cons_succ]
          refine tail_call 6 rfl (by kernel_rfl) rfl (fun K hK => ?_)
          go_simp
          (go_at_call 77; refine (implAppendNumberM (.slice Av Zp.length cv) base Wd Zp xv w9 HA9.out.own (by have := HA9.out.bel.size; omega) (by omega) (by omega) (by omega) (by omega)).mono ?_; rintro e wv ⟨vv, rfl, ho, hg', hl'⟩; obtain ⟨Zn, hzn⟩ : ∃ Zn, Zp ++ bitsOf xv Wd = Zn := ⟨_, rfl⟩; rw [hzn] at ho; have HZn := hide hzn; clear hzn; have HAF := hide (HA9.out.put (by simp) HL6.out (by omega) hbase ho hg' hl'); have HKF := hide (HK9.out.trans ((HA9.out.keeps hg' vv).from _)); have HRW := hide (HA9.out.rows HL6.out hg'); have HBX := hide ((HRW.out (w.heap.size + 1) (by simp)).trans HA9.out.box); obtain ⟨Av2, cv2, rfl, _⟩ := ho.form; clear ho hg' hl')
          refine hK.out _ _ (by (try dsimp only); exact ⟨(cell1 HBX.out).1, (cell1 ((HRW.out (w.heap.size + 1 + 1) (by simp)).trans ((HA9.out.keep (w.heap.size + 1 + 1) (by simp) (by omega)).trans HMC.out))).1⟩) (fun hS' => ?_)
          clear hK K
          try simp only [Act.put, List.setIfInBounds_toArray, List.set_cons_zero, List.set_cons_succ]
          obtain ⟨d0, d1⟩ := hS'
          obtain ⟨_, fz⟩ := cell1 HBX.out
          refine tail_last 7 rfl (by kernel_rfl) (by kernel_rfl) rfl rfl (fun K hK => ?_)
          go_simp
          refine hK.out _ _ ?_
          clear hK K
          try simp only [Act.put, List.setIfInBounds_toArray, List.set_cons_zero, List.set_cons_succ]
          refine ⟨HKF.out, ?_, by rw [List.length_append]; exact HN.out, .slice Av2 Zn.length cv2, ?_⟩
          · exact ⟨(HAF.out.keep wk.heap.size (by simp) (by omega)).trans (HA.out.keep wk.heap.size (by simp) (by omega)).symm, (HAF.out.keep (wk.heap.size + 1) (by simp) (by omega)).trans (HA.out.keep (wk.heap.size + 1) (by simp) (by omega)).symm⟩
          · rw [← HQ.out, HZn.out]; exact HAF.out
    case done =>
      rintro Dd W hDd ⟨_, v, hA⟩ hKd
      have HFL := hide (show Z2 ++ txL m (bytesI s) (List.finRange (gct G s.size)) = zs ++ segBits m (bytesI s) by
        rw [txL_all, ← HZ2.out, ← HZ1.out, segBits, headB, HSZ.out, HGG.out]
        simp only [List.append_assoc])
      rw [HFL.out] at hA
      obtain ⟨Zf, hzf⟩ : ∃ Zf, zs ++ segBits m (bytesI s) = Zf := ⟨_, rfl⟩
      rw [hzf] at hA
      have HZF := hide hzf
      have HA := hide hA
      obtain ⟨Av, cv, rfl, hcv⟩ := hA.own.form
      obtain ⟨cB, _⟩ := cell1 hA.box
      have HKD := hide hKd
      clear hA hzf hKd
      gi_wp2_with fail
      refine ⟨by simp, .inl ⟨_, _, rfl, run_takeDeferred HKD.out, ?_⟩⟩
      have HAF := hide (HA.out.turn HL6.out hbase hw5 (turn_put (.deferred none) HKD.out rfl hDd))
      refine ⟨.slice Av Zf.length cv, by simp [results, Try.results50, go_sem], ?_⟩
      exact ⟨_, rfl, by rw [HZF.out]; exact HAF.out.own, HAF.out.bel, HAF.out.gro, HAF.out.src⟩
    case stop =>
      rintro Dd c pre W hDd hpre h
      exact h.elim

set_option maxRecDepth 100000 in
set_option maxHeartbeats 4000000 in
theorem implAppToB (m : Int) (hm : 1 ≤ m ∧ m ≤ 4) (s : ByteArray) (hsv : segB m (bytesI s) = true) (G : Nat) (hGG : gsz m = G) (HM : MV m = .iface 143 (.agg #[]))
    (hC : ∀ w, Calls Try.prog 156 #[.agg #[]] w (Gives (.int .i64 (gbase m : Nat)) w)) (hV : ∀ b w, Calls Try.prog 158 #[.agg #[], .int .i64 b] w (Gives (.int .i64 (cval m b)) w)) (hGS : ∀ w, Calls Try.prog 157 #[.agg #[]] w (Gives (.int .i64 (G : Nat)) w))
    (A0 : Option Addr) (n0 c0 base : Nat) (zs : List Int) (w : World) (hO : Own w base 2 .i64 (.slice A0 n0 c0) zs) (hbase : base ≤ w.heap.size) (hl8 : zs.length ≤ 8192) :
    Calls Try.prog 50 #[.agg #[.int .i64 m, .string s], .slice A0 n0 c0] w (LongerB 2 .i64 base (.slice A0 n0 c0) (zs ++ segBits m (bytesI s)) w) := by
  obtain ⟨_, hl, hall⟩ := seg_ok hsv
  have hlen := bytesI_len s
  rw [hlen] at hl
  have HMO := hide (implModeOf m hm)
  rw [HM] at HMO
  have HC := hide hC
  have HV := hide hV
  have HGS := hide hGS
  have HO := hide hO
  have HSZ := hide hlen
  have HALL := hide hall
  have HX := hide HM
  have HGG := hide hGG
  have hg1 : 1 ≤ G := by rw [← hGG]; exact gsz_pos m
  have hg3 : G ≤ 3 := by rw [← hGG]; exact gsz_le m
  have hmdC := mdC_b
  have hmdV := mdW_b
  have hmdG := mdG_b
  have hconv : ∀ w : World, (convert 9 22 (.string s)).run Try.prog w = _ := fun w => run_bytes_of_string w 9 22 5 s Try.underlying9 Try.underlying22 Try.underlying5
  have HCV := hide hconv
  clear hC hV hGS hO hlen hall HM hGG hsv hconv
  refine (callsIn_wide (n := 6)).1 ?_
  refine callsIn_of_wp_marks Try.func50 rfl trivial ?_ rfl
  simp only [Try.ntmps50, List.size_toArray, List.length_cons, List.length_nil, Nat.reduceAdd, Nat.reduceSub, Array.replicate_succ, Array.replicate_zero, List.push_toArray, List.append_toArray, List.nil_append, List.cons_append]
  gi_wp2_with fail
  refine ⟨trivial, (callsIn_wide.2 (HMO.out _)).mono ?_⟩
  rintro e wx ⟨rfl, hwx⟩
  rw [hwx]
  clear hwx
  gi_wp2_with fail
  obtain ⟨Wa, hWa⟩ : ∃ Wa, Wa = (((w.alloc (.cells #[.int .i64 m, .string s] 26)).alloc (.cells #[.slice A0 n0 c0] 24)).alloc (.cells #[.iface 143 (.agg #[])] 103)) := ⟨_, rfl⟩
  rw [← hWa]
  have hWs : Wa.heap.size = w.heap.size + 3 := by rw [hWa, alloc_size, alloc_size, alloc_size]
  have HK := hide (show Wa.heap[w.heap.size]? = some (.cells #[.int .i64 m, .string s] 26 (0, 0)) ∧ Wa.heap[w.heap.size + 1]? = some (.cells #[.slice A0 n0 c0] 24 (0, 0)) ∧ Wa.heap[w.heap.size + 1 + 1]? = some (.cells #[.iface 143 (.agg #[])] 103 (0, 0)) by
    have q1 := heap_alloc_new (w.alloc (.cells #[.int .i64 m, .string s] 26)) (.cells #[.slice A0 n0 c0] 24)
    have q2 := heap_alloc_new ((w.alloc (.cells #[.int .i64 m, .string s] 26)).alloc (.cells #[.slice A0 n0 c0] 24)) (.cells #[.iface 143 (.agg #[])] 103)
    simp only [alloc_size] at q1 q2
    rw [hWa]
    exact ⟨row_keep (row_keep (heap_alloc_new w _) _) _, row_keep q1 _, q2⟩)
  have HL0 := hide (show ∀ i ∈ [w.heap.size, w.heap.size + 1, w.heap.size + 1 + 1], i < Wa.heap.size by
    intro i hi
    rw [hWs]
    simp only [List.mem_cons, List.mem_nil_iff, or_false] at hi
    omega)
  have HA0 := hide (show AppV (.slice A0 n0 c0) w Wa Wa base (w.heap.size + 1) [w.heap.size, w.heap.size + 1, w.heap.size + 1 + 1] (.slice A0 n0 c0) zs from
    ⟨HK.out.2.1, by
      rw [hWa]
      exact ((HO.out.alloc _).alloc _).alloc _, fun g hg hm => by
      have := (HO.out.lt hg).2
      simp only [List.mem_cons, List.mem_nil_iff, or_false] at hm
      omega, fun _ _ _ => rfl, by
      rw [hWa]
      exact (((Below.refl base w).alloc hbase _).alloc (by rw [alloc_size]; omega) _).alloc (by rw [alloc_size, alloc_size]; omega) _, Nat.le_refl _, fun i hi _ => by
      rw [hWa, heap_alloc_old _ _ (by rw [alloc_size, alloc_size]; omega), heap_alloc_old _ _ (by rw [alloc_size]; omega), heap_alloc_old _ _ hi], fun g hg => .inl hg⟩)
  clear hWa HO
  obtain ⟨c0', c1'⟩ := seg_cells HK.out.1
  obtain ⟨c3, _⟩ := cell1 HK.out.2.1
  have hm9 : m ≤ 9223372036854775807 := by omega
  refine ⟨trivial, (callsIn_wide.2 (implAppendNumberM (.slice A0 n0 c0) base 3 zs m _ HA0.out.own (by have := HA0.out.bel.size; omega) (by omega) (by omega) (by omega) (by omega))).mono ?_⟩
  rintro e w1 ⟨v1, rfl, ho1, hg1', hl1⟩
  obtain ⟨Z1, hZ⟩ : ∃ Z, zs ++ bitsOf m (3 : Nat) = Z := ⟨_, rfl⟩
  have HZ1 := hide hZ
  have HZL1 := hide (show Z1.length = zs.length + 3 by rw [← hZ, List.length_append, bitsOf_len])
  rw [hZ] at ho1
  clear hZ
  obtain ⟨A1, c1, rfl, hc1⟩ := ho1.form
  have HA1 := hide (HA0.out.put (by simp) HL0.out (by omega) hbase ho1 hg1' hl1)
  have HR1 := hide (HA0.out.rows HL0.out hg1')
  clear c0' c1' c3
  obtain ⟨q3, f3⟩ := cell1 ((HR1.out (w.heap.size + 1) (by simp)).trans HA0.out.box)
  obtain ⟨c0', c1'⟩ := seg_cells ((HA1.out.keep w.heap.size (by simp) (by omega)).trans HK.out.1)
  obtain ⟨c3, _⟩ := cell1 HA1.out.box
  clear ho1 hg1' hl1
  gi_wp2_with fail
  clear q3 f3
  refine ⟨trivial, (callsIn_wide.2 (implAppendNumberM (.slice A1 Z1.length c1) base 8 Z1 (s.size : Nat) _ HA1.out.own (by have := HA1.out.bel.size; omega) (by have := HZL1.out; omega) (by omega) (by omega) (by omega))).mono ?_⟩
  rintro e w2 ⟨v1, rfl, ho1, hg1', hl1⟩
  obtain ⟨Z2, hZ⟩ : ∃ Z, Z1 ++ bitsOf (s.size : Nat) (8 : Nat) = Z := ⟨_, rfl⟩
  have HZ2 := hide hZ
  have HZL2 := hide (show Z2.length = Z1.length + 8 by rw [← hZ, List.length_append, bitsOf_len])
  rw [hZ] at ho1
  clear hZ
  obtain ⟨A2, c2, rfl, hc2⟩ := ho1.form
  have HA2 := hide (HA1.out.put (by simp) HL0.out (by omega) hbase ho1 hg1' hl1)
  have HR2 := hide (HA1.out.rows HL0.out hg1')
  clear c0' c1' c3
  obtain ⟨q3, f3⟩ := cell1 ((HR2.out (w.heap.size + 1) (by simp)).trans HA1.out.box)
  obtain ⟨c0', c1'⟩ := seg_cells ((HA2.out.keep w.heap.size (by simp) (by omega)).trans HK.out.1)
  obtain ⟨c3, _⟩ := cell1 HA2.out.box
  clear ho1 hg1' hl1
  gi_wp2_with fail
  clear q3 f3 c0' c1' c3
  have HSM := hide (fun (W : World) (v : Value) (zz : List Int) (h : AppV (.slice A0 n0 c0) w Wa W base (w.heap.size + 1) [w.heap.size, w.heap.size + 1, w.heap.size + 1 + 1] v zz) => (⟨(seg_cells ((h.keep w.heap.size (by simp) (by omega)).trans HK.out.1)).2, (cell1 ((h.keep (w.heap.size + 1 + 1) (by simp) (by omega)).trans HK.out.2.2)).1⟩ : W.cell? ⟨w.heap.size, 1, none⟩ = some (.string s) ∧ W.cell? ⟨w.heap.size + 1 + 1, 0, none⟩ = some (.iface 143 (.agg #[]))))
  obtain ⟨w3, hw3⟩ : ∃ w3, w2.setCell ⟨w.heap.size + 1, 0, none⟩ (.slice A2 Z2.length c2) = w3 := ⟨_, rfl⟩
  rw [hw3] at HA2 ⊢
  clear hw3 HR1 HR2 HA0 HA1
  refine region_only ?_
  refine tail_begin (fun w' => w'.cell? ⟨w.heap.size, 1, none⟩ = some (.string s) ∧ w'.cell? ⟨w.heap.size + 1 + 1, 0, none⟩ = some (.iface 143 (.agg #[]))) 6 (by kernel_rfl) (HSM.out _ _ _ HA2.out.drew) (fun hS' => ?_)
  refine tail_take2 0 rfl (by kernel_rfl) (by kernel_rfl) (by kernel_rfl) (by decide) (fun _ _ _ h => h) (by rfl) (v := ?_) ?_ (by assumption) ?_
  rotate_left 1
  · intro w' hS'; obtain ⟨d0, d1⟩ := hS'; go_simp; try with_reducible rfl
  try simp only [Act.put, List.setIfInBounds_toArray, List.set_cons_zero, List.set_cons_succ]
  refine tail_take2 1 rfl (by kernel_rfl) (by kernel_rfl) (by kernel_rfl) (by decide) (fun _ _ _ h => h) (by rfl) (v := ?_) ?_ (by assumption) ?_
  rotate_left 1
  · intro w' hS'; obtain ⟨d0, d1⟩ := hS'; go_simp; try with_reducible rfl
  try simp only [Act.put, List.setIfInBounds_toArray, List.set_cons_zero, List.set_cons_succ]
  refine tail_take2 3 rfl (by kernel_rfl) (by kernel_rfl) (by kernel_rfl) (by decide) (fun _ _ _ h => h) (by rfl) (v := ?_) ?_ (by assumption) ?_
  rotate_left 1
  · intro w' hS'; obtain ⟨d0, d1⟩ := hS'; go_simp; try with_reducible rfl
  try simp only [Act.put, List.setIfInBounds_toArray, List.set_cons_zero, List.set_cons_succ]
  refine tail_two 2 4 rfl rfl (by kernel_rfl) rfl rfl (fun K hK => ?_) (fun K hK => ?_)
  · skip
    have hcv := HCV.out
    go_simp
    have hcge : s.size ≤ grownCap w3.drew s.size 0 5 := grownCap_ge _ _ _ _
    have hcle : grownCap w3.drew s.size 0 5 ≤ maxLen := grownCap_le_maxLen _ _ _ _ (by unfold maxLen; omega)
    obtain ⟨cap, hcap⟩ : ∃ cap, grownCap w3.drew s.size 0 5 = cap := ⟨_, rfl⟩
    rw [hcap] at hcge hcle ⊢
    have HIc := hide (bytes_row w3 s cap 5 ((bytesRow s cap).size, (bytesRow s cap).size + 1))
    have HAc := hide (((HA2.out.next HL0.out hbase ((Below.refl _ _).alloc (Nat.le_refl _) (.cells (bytesRow s cap) 5 ((bytesRow s cap).size, (bytesRow s cap).size + 1)))).drew).drew)
    obtain ⟨bd, hbd⟩ : ∃ bd, w3.heap.size = bd := ⟨_, rfl⟩
    have HBD := hide (show bd < (w3.alloc (.cells (bytesRow s cap) 5 ((bytesRow s cap).size, (bytesRow s cap).size + 1))).heap.size by rw [alloc_size]; omega)
    rw [hbd] at HIc ⊢
    clear hcv hcap
    have hbds2 : w3.heap.size ≤ bd := by omega
    refine hK.out _ _ (HSM.out _ _ _ HAc.out) (fun hS' => ?_)
    clear hK K
    try simp only [Act.put, List.setIfInBounds_toArray, List.set_cons_zero, List.set_cons_succ]
    obtain ⟨wc, hwc⟩ : ∃ wc, (w3.alloc (.cells (bytesRow s cap) 5 ((bytesRow s cap).size, (bytesRow s cap).size + 1))).drew.drew = wc := ⟨_, rfl⟩
    have hbw : bd < wc.heap.size := by rw [← hwc]; exact HBD.out
    have HIc := hide (show Ints .u8 wc (bd + 1) (some ⟨bd, 0, none⟩) s.size (bytesI s) by rw [← hwc]; exact HIc.out)
    rw [hwc] at HAc hS' ⊢
    clear hwc
    refine tail_call 4 rfl (by kernel_rfl) rfl (fun K hK => ?_)
    go_simp
    (go_at_call 157; refine (HGS.out _).mono ?_; rintro e w4 ⟨rfl, hb4⟩; have HA4 := hide (HAc.out.next HL0.out hbase hb4); have HB4 := hide hb4; clear hb4)
    refine hK.out _ _ (by (try dsimp only); exact HSM.out _ _ _ HA4.out) (fun hS' => ?_)
    clear hK K
    try simp only [Act.put, List.setIfInBounds_toArray, List.set_cons_zero, List.set_cons_succ]
    have HIk := hide (HIc.out.below (HB4.out.mono (by omega)))
    have HAk := hide HA4.out
    have hbw4 : bd < w4.heap.size := by have := HB4.out.size; omega
    obtain ⟨wk, rfl⟩ : ∃ wk, wk = w4 := ⟨_, rfl⟩
    clear hbd HBD HIc HAc
    refine tail_call 5 rfl (by kernel_rfl) rfl (fun K hK => ?_)
    go_simp
    (go_at_call 84; refine (implChunk bd 0 s.size cap G hg1 wk).mono ?_; rintro e w5 ⟨rfl, hw5⟩; have HA5 := hide (show AppV (.slice A0 n0 c0) w Wa w5 base (w.heap.size + 1) [w.heap.size, w.heap.size + 1, w.heap.size + 1 + 1] (.slice A2 Z2.length c2) Z2 by rw [hw5]; exact HAk.out.next HL0.out hbase (((Below.refl _ _).alloc (Nat.le_refl _) _).alloc (by rw [alloc_size]; omega) _)); have HI5 := hide (show Ints .u8 w5 (bd + 1) (some ⟨bd, 0, none⟩) s.size (bytesI s) by rw [hw5]; exact HIk.out.below (((Below.refl _ _).alloc (by omega) _).alloc (by rw [alloc_size]; omega) _)); have HC5 := hide (show CkRow w5 wk.heap.size bd 0 s.size cap G by rw [hw5]; have q := heap_alloc_new (wk.alloc (.cells #[.slice (some ⟨bd, 0, none⟩) s.size cap] 22)) (.cells #[.int .i64 (G : Nat)] 3); rw [alloc_size] at q; exact ⟨row_keep (heap_alloc_new wk _) _, q⟩); clear hw5)
    refine hK.out _ _ (by (try dsimp only); exact HSM.out _ _ _ HA5.out) (fun hS' => ?_)
    clear hK K
    try simp only [Act.put, List.setIfInBounds_toArray, List.set_cons_zero, List.set_cons_succ]
    refine tail_end (by kernel_rfl) ?_
    unfold OnlyN
    have hA2own := HA2.out.own
    have HA6 := hide (show AppV (.slice A0 n0 c0) w w5 w5 base (w.heap.size + 1) [w.heap.size, w.heap.size + 1, w.heap.size + 1 + 1, bd, wk.heap.size, wk.heap.size + 1] (.slice A2 Z2.length c2) Z2 from HA5.out.from fun g hg hm => by
      have h1 := HA5.out.lies g hg
      have h2 := (hA2own.lt hg).2
      simp only [List.mem_cons, List.mem_nil_iff, or_false] at h1 hm
      omega)
    have HL6 := hide (show ∀ i ∈ [w.heap.size, w.heap.size + 1, w.heap.size + 1 + 1, bd, wk.heap.size, wk.heap.size + 1], i < w5.heap.size by
      intro i hi
      have h1 := HC5.out.lt
      have h2 := HA5.out.size
      simp only [List.mem_cons, List.mem_nil_iff, or_false] at hi
      omega)
    have HMC := hide (show w5.heap[w.heap.size + 1 + 1]? = some (.cells #[.iface 143 (.agg #[])] 103 (0, 0)) from (HA5.out.keep (w.heap.size + 1 + 1) (by simp) (by omega)).trans HK.out.2.2)
    have HMS := hide (fun (W : World) (v : Value) (zz : List Int) (h : AppV (.slice A0 n0 c0) w w5 W base (w.heap.size + 1) [w.heap.size, w.heap.size + 1, w.heap.size + 1 + 1, bd, wk.heap.size, wk.heap.size + 1] v zz) => (cell1 ((h.keep (w.heap.size + 1 + 1) (by simp) (by omega)).trans HMC.out)).1)
    have hdat : ∀ (j : Nat) (y : Int), (bytesI s)[j]? = some y → w5.cell? ⟨bd, j, none⟩ = some (.int .u8 y) := fun j y hy => by
      obtain ⟨b', o', e', _, hc'⟩ := HI5.out.2 (by omega)
      simp only [Option.some.injEq, Addr.mk.injEq] at e'
      obtain ⟨rfl, rfl, _⟩ := e'
      have := hc' j y hy
      rw [Nat.zero_add] at this
      exact this
    have HDAT := hide hdat
    have hw5 : w.heap.size ≤ w5.heap.size := by have := HA5.out.size; omega
    have hne6 : w.heap.size + 1 + 1 ≠ w.heap.size + 1 ∧ bd ≠ w.heap.size + 1 ∧ wk.heap.size ≠ w.heap.size + 1 ∧ wk.heap.size + 1 ≠ w.heap.size + 1 := by
      have h2 := HA2.out.size
      omega
    have hZ2 : Z2.length ≤ 8203 := by have := HZL1.out; have := HZL2.out; omega
    clear hdat hA2own HI5 HAk HIk hS'
    gi_wp2_with fail
    refine range_chunk hg1 hg3 hl.2 hcge (by unfold maxLen at hcle; omega) HC5.out (by omega) rfl rfl
      (fun pre W => pre.length ≤ gct G s.size ∧ ∃ v, AppV (.slice A0 n0 c0) w w5 W base (w.heap.size + 1) [w.heap.size, w.heap.size + 1, w.heap.size + 1 + 1, bd, wk.heap.size, wk.heap.size + 1] v (Z2 ++ txL m (bytesI s) pre))
      (fun _ _ _ => False) (fun pre W W' h ht => ⟨h.1, h.2.imp fun v hv => hv.turn HL6.out hbase hw5 ht⟩) (fun c pre W W' h ht => h) ⟨Nat.zero_le _, _, by simpa [txL] using HA6.out⟩
      (fun x => { tmps := #[.agg #[.int .i64 m, .string s], .slice A0 n0 c0, .pointer (some ⟨w.heap.size, 0, none⟩), .pointer (some ⟨w.heap.size + 1, 0, none⟩), .slice none 0 0, .pointer (some ⟨w.heap.size + 1 + 1, 0, none⟩), .bool true, .slice (some ⟨bd, x.val * G, none⟩) (min G (s.size - x.val * G)) (min G (s.size - x.val * G)), undef, undef, undef, .tuple #[.iface 143 (.agg #[]), .bool true], .pointer (some ⟨w.heap.size, 0, none⟩), .int .i64 m, .tuple #[.iface 143 (.agg #[]), .bool true], .iface 143 (.agg #[]), .bool true, .slice A0 n0 c0, .pointer (some ⟨w.heap.size, 0, none⟩), .int .i64 m, .slice A1 Z1.length c1, .slice A1 Z1.length c1, .pointer (some ⟨w.heap.size, 1, none⟩), .string s, .int .i64 s.size, .slice A2 Z2.length c2, .pointer (some ⟨w.heap.size, 1, none⟩), .string s, .slice (some ⟨bd, 0, none⟩) s.size cap, .iface 143 (.agg #[]), .int .i64 G, .func (.func 113) #[] #[.pointer (some ⟨wk.heap.size, 0, none⟩), .pointer (some ⟨wk.heap.size + 1, 0, none⟩)], .slice (some ⟨bd, x.val * G, none⟩) (min G (s.size - x.val * G)) (min G (s.size - x.val * G)), undef, undef, undef, undef, undef, undef, undef, undef, undef, undef, undef, undef, undef, undef, undef, undef, undef, undef, undef, undef, undef, undef, undef, undef], defers := [] }) ?assign ?body ?done ?stop
    case assign =>
      intro l x W K' hK'
      gi_wp2_with fail
      exact hK'
    case body =>
      rintro l pre x W ⟨hpl, v, hA⟩ hlen
      have HA := hide hA
      clear hA
      have hxG := (gct_lt hg1).1 x.isLt
      have hmm : (grp G (bytesI s) x.val).length = min G (s.size - x.val * G) := by rw [grp_len, HSZ.out]
      obtain ⟨mm, hmq⟩ : ∃ mm, min G (s.size - x.val * G) = mm := ⟨_, rfl⟩
      have hmm1 : 1 ≤ mm := by omega
      have hmmG : mm ≤ G := by omega
      have hmms : x.val * G + mm ≤ s.size := by omega
      simp only [hmq]
      rw [hmq] at hmm
      have HMM := hide hmm
      obtain ⟨p, hp⟩ : ∃ p, x.val * G = p := ⟨_, rfl⟩
      have HP := hide hp
      simp only [hp]
      rw [HP.out] at hmms
      have htl : (txL m (bytesI s) pre).length ≤ 2805 := by have := txL_le m (bytesI s) pre; have := gct_le hg1 s.size; omega
      have hZp : (Z2 ++ txL m (bytesI s) pre).length ≤ 20000 := by rw [List.length_append]; omega
      have HNX := hide (show Z2 ++ txL m (bytesI s) (pre ++ [x]) = (Z2 ++ txL m (bytesI s) pre) ++ bitsOf (gnum m (grp G (bytesI s) x.val)) (wid m mm) by rw [txL_snoc, HGG.out, HMM.out, List.append_assoc])
      obtain ⟨Zp, hzp⟩ : ∃ Zp, Z2 ++ txL m (bytesI s) pre = Zp := ⟨_, rfl⟩
      rw [hzp] at HA HNX hZp
      obtain ⟨Av, cv, hv, hcv⟩ := HA.out.own.form
      subst hv
      have HN : Hid (pre.length + 1 ≤ gct G s.size) := hide (by omega)
      clear hzp hp hmq hmm hxG htl
      gi_wp2_with fail
      gi_loopw [8, 35] (fun q k wr => ∃ (t : Nat) (xv : Int), t ≤ mm ∧ k = .int .i64 (t : Nat) ∧ q = .int .i64 xv ∧ Hid (gnum m ((grp G (bytesI s) x.val).take t) = xv) ∧ AppV (.slice A0 n0 c0) w w5 wr base (w.heap.size + 1) [w.heap.size, w.heap.size + 1, w.heap.size + 1 + 1, bd, wk.heap.size, wk.heap.size + 1] (.slice Av Zp.length cv) Zp ∧ KeepsFrom w5.heap.size W wr) (fun _ k _ => mm - (intOf k).toNat)
      case atStart => exact ⟨0, 0, by omega, rfl, rfl, rfl, HA.out, KeepsFrom.refl _ _⟩
      case round =>
        obtain ⟨t, xv, ht, rfl, rfl, hx, hA, hKp⟩ := hrel
        have HAr := hide hA
        have HKr := hide hKp
        clear hA hKp
        have hxb : 0 ≤ xv ∧ xv < 16777216 := by
          have h := gnum_bd HALL.out x.val t
          rw [HGG.out, hx.out] at h
          exact h
        have hmcr := (HAr.out.keep (w.heap.size + 1 + 1) (by simp) (by omega)).trans HMC.out
        obtain ⟨cM, _⟩ := cell1 hmcr
        by_cases htm : t < mm
        · have hit : p + t < s.size := by omega
          obtain ⟨y, hy, hy2, hy0, hy1⟩ := byteAt s hit
          have hcy : wr.cell? ⟨bd, p + t, none⟩ = some (.int .u8 y) := (World.cell?_of_block (HAr.out.keep bd (by simp) (by omega))).trans (HDAT.out _ _ hy2)
          have HST := hide (gnum_step (B := ((gbase m : Nat) : Int)) (m := m) (G := G) (bs := bytesI s) (j := x.val) (t := t) (by omega) (by rw [HP.out]; exact hy2))
          have hcc := all_mem HALL.out (List.mem_of_getElem? hy2)
          have hgb := gbase_le m
          have hCC := HC.out
          have HVV := hide (HV.out y)
          obtain ⟨gb, hgbe⟩ : ∃ gb, gbase m = gb := ⟨_, rfl⟩
          rw [hgbe] at HST hcc hgb hCC
          have HCC := hide hCC
          obtain ⟨cv', hcve⟩ : ∃ cv', cval m y = cv' := ⟨_, rfl⟩
          rw [hcve] at HST hcc HVV
          obtain ⟨q1, hq1⟩ : ∃ q1, xv * (gb : Int) = q1 := ⟨_, rfl⟩
          have hq10 : 0 ≤ q1 := by rw [← hq1]; exact Int.mul_nonneg hxb.1 (by omega)
          have hq11 : q1 ≤ 16777216 * 256 := by rw [← hq1]; exact Int.mul_le_mul (by omega) (by omega) (by omega) (by omega)
          have hwm : IntKind.i64.wrap (xv * (gb : Int)) = q1 := by rw [hq1]; exact IntWalk.i64_in _ ⟨by omega, by omega⟩
          have hwa : IntKind.i64.wrap (q1 + cv') = q1 + cv' := IntWalk.i64_in _ ⟨by omega, by omega⟩
          have hwy : IntKind.i64.wrap y = y := IntWalk.i64_in _ ⟨by omega, by omega⟩
          have HNQ := hide (show gnum m ((grp G (bytesI s) x.val).take (t + 1)) = q1 + cv' by
            have h := HST.out
            have h2 := hx.out
            unfold gnum at h2 ⊢
            rw [hgbe] at h2 ⊢
            rw [h2, hq1] at h
            exact h)
          clear hcve hgbe hq1 hy2 hx hcc hgb hCC hxb hmcr
          gi_wp2_with fail
          refine round_begin (fun w' => w'.cell? ⟨w.heap.size + 1 + 1, 0, none⟩ = some (.iface 143 (.agg #[]))) 10 (by kernel_rfl) (by kernel_rfl) (by rintro ⟨_, _, hq⟩; exact hq) (HMS.out _ _ _ HAr.out.drew) (fun hS' => ?_)
          clear cM hcy
          refine tail_take2 0 rfl (by kernel_rfl) (by kernel_rfl) (by kernel_rfl) (by decide) (fun _ _ _ h => h) (by rfl) (v := ?_) ?_ (by assumption) ?_
          rotate_left 1
          · intro w' hS'; (try dsimp only at hS'); go_simp; try with_reducible rfl
          try simp only [Act.put, List.setIfInBounds_toArray, List.set_cons_zero, List.set_cons_succ]
          refine tail_take2 1 rfl (by kernel_rfl) (by kernel_rfl) (by kernel_rfl) (by decide) (fun _ _ _ h => h) (by rfl) (v := ?_) ?_ (by assumption) ?_
          rotate_left 1
          · intro w' hS'; (try dsimp only at hS'); go_simp; try with_reducible rfl
          try simp only [Act.put, List.setIfInBounds_toArray, List.set_cons_zero, List.set_cons_succ]
          refine tail_take2 4 rfl (by kernel_rfl) (by kernel_rfl) (by kernel_rfl) (by decide) (fun _ _ _ h => h) (by rfl) (v := ?_) ?_ (by assumption) ?_
          rotate_left 1
          · intro w' hS'; (try dsimp only at hS'); go_simp; try with_reducible rfl
          try simp only [Act.put, List.setIfInBounds_toArray, List.set_cons_zero, List.set_cons_succ]
          refine tail_take2 5 rfl (by kernel_rfl) (by kernel_rfl) (by kernel_rfl) (by decide) (fun _ _ _ h => h) (by rfl) (v := ?_) ?_ (by assumption) ?_
          rotate_left 1
          · intro w' hS'; (try dsimp only at hS'); go_simp; try with_reducible rfl
          try simp only [Act.put, List.setIfInBounds_toArray, List.set_cons_zero, List.set_cons_succ]
          refine tail_take2 6 rfl (by kernel_rfl) (by kernel_rfl) (by kernel_rfl) (by decide) (fun _ _ _ h => h) (by rfl) (v := ?_) ?_ (by assumption) ?_
          rotate_left 1
          · intro w' hS'; (try dsimp only at hS'); go_simp; try with_reducible rfl
          try simp only [Act.put, List.setIfInBounds_toArray, List.set_cons_zero, List.set_cons_succ]
          refine tail_call 2 rfl (by kernel_rfl) rfl (fun K hK => ?_)
          go_simp
          (go_at_call 156; refine (HCC.out _).mono ?_; rintro e w7 ⟨rfl, hb7⟩; have HA7 := hide (HAr.out.drew.next HL6.out hbase hb7); have HK7 := hide (HKr.out.trans (((KeepsOthers.drew wr).from _).trans (keeps_below hb7))); clear hb7)
          refine hK.out _ _ (by (try dsimp only); exact HMS.out _ _ _ HA7.out) (fun hS' => ?_)
          clear hK K
          try simp only [Act.put, List.setIfInBounds_toArray, List.set_cons_zero, List.set_cons_succ]
          refine tail_take2 3 rfl (by kernel_rfl) (by kernel_rfl) (by kernel_rfl) (by decide) (fun _ _ _ h => h) (by rfl) (v := ?_) ?_ (by assumption) ?_
          rotate_left 1
          · intro w' hS'; (try dsimp only at hS'); go_simp; try with_reducible rfl
          try simp only [Act.put, List.setIfInBounds_toArray, List.set_cons_zero, List.set_cons_succ]
          refine tail_call 7 rfl (by kernel_rfl) rfl (fun K hK => ?_)
          go_simp
          (go_at_call 158; refine (HVV.out _).mono ?_; rintro e w8 ⟨rfl, hb8⟩; have HA8 := hide (HA7.out.next HL6.out hbase hb8); have HK8 := hide (HK7.out.trans (keeps_below hb8)); clear hb8)
          refine hK.out _ _ (by (try dsimp only); exact HMS.out _ _ _ HA8.out) (fun hS' => ?_)
          clear hK K
          try simp only [Act.put, List.setIfInBounds_toArray, List.set_cons_zero, List.set_cons_succ]
          refine tail_take2 8 rfl (by kernel_rfl) (by kernel_rfl) (by kernel_rfl) (by decide) (fun _ _ _ h => h) (by rfl) (v := ?_) ?_ (by assumption) ?_
          rotate_left 1
          · intro w' hS'; (try dsimp only at hS'); go_simp; try with_reducible rfl
          try simp only [Act.put, List.setIfInBounds_toArray, List.set_cons_zero, List.set_cons_succ]
          refine tail_take2 9 rfl (by kernel_rfl) (by kernel_rfl) (by kernel_rfl) (by decide) (fun _ _ _ h => h) (by rfl) (v := ?_) ?_ (by assumption) ?_
          rotate_left 1
          · intro w' hS'; (try dsimp only at hS'); go_simp; try with_reducible rfl
          try simp only [Act.put, List.setIfInBounds_toArray, List.set_cons_zero, List.set_cons_succ]
          refine tail_end (by kernel_rfl) ?_
          gi_wp2_with fail
          go_roundw
          case rel => exact ⟨t + 1, q1 + cv', by omega, by go_num, rfl, HNQ, HA8.out, HK8.out⟩
          case measure => simp [intOf]; omega
        · have htt : t = mm := by omega
          have HQ := hide (show Zp ++ bitsOf xv (wid m mm) = Z2 ++ txL m (bytesI s) (pre ++ [x]) by
            have h := hx.out
            rw [htt, List.take_of_length_le (Nat.le_of_eq HMM.out)] at h
            rw [HNX.out, h])
          have hGW := implGroupWidth m hm mm (by rw [HGG.out]; exact hmmG)
          rw [HX.out] at hGW
          have hwd := wid_le m mm
          obtain ⟨Wd, hWd⟩ : ∃ Wd, wid m mm = Wd := ⟨_, rfl⟩
          rw [hWd] at hGW hwd HQ
          have HGW := hide hGW
          obtain ⟨cB, _⟩ := cell1 HAr.out.box
          clear hWd hGW hx hmcr
          gi_wp2_with fail
          refine round_begin (fun w' => w'.cell? ⟨w.heap.size + 1, 0, none⟩ = some (.slice Av Zp.length cv) ∧ w'.cell? ⟨w.heap.size + 1 + 1, 0, none⟩ = some (.iface 143 (.agg #[]))) 7 (by kernel_rfl) (by kernel_rfl) (by rintro ⟨_, _, hq⟩; exact hq) ⟨cB, cM⟩ (fun hS' => ?_)
          clear cM cB
          refine tail_take 0 rfl (by kernel_rfl) (by kernel_rfl) (by kernel_rfl) (by kernel_rfl) (fun _ _ _ h => h) (by rfl) (v := ?_) ?_ (by assumption) ?_
          rotate_left 1
          · intro w' hS'; obtain ⟨d0, d1⟩ := hS'; go_simp; try with_reducible rfl
          try simp only [Act.put, List.setIfInBounds_toArray, List.set_cons_zero, List.set_cons_succ]
          refine tail_take 1 rfl (by kernel_rfl) (by kernel_rfl) (by kernel_rfl) (by kernel_rfl) (fun _ _ _ h => h) (by rfl) (v := ?_) ?_ (by assumption) ?_
          rotate_left 1
          · intro w' hS'; obtain ⟨d0, d1⟩ := hS'; go_simp; try with_reducible rfl
          try simp only [Act.put, List.setIfInBounds_toArray, List.set_cons_zero, List.set_cons_succ]
          refine tail_take 2 rfl (by kernel_rfl) (by kernel_rfl) (by kernel_rfl) (by kernel_rfl) (fun _ _ _ h => h) (by rfl) (v := ?_) ?_ (by assumption) ?_
          rotate_left 1
          · intro w' hS'; obtain ⟨d0, d1⟩ := hS'; go_simp; try with_reducible rfl
          try simp only [Act.put, List.setIfInBounds_toArray, List.set_cons_zero, List.set_cons_succ]
          refine tail_take 3 rfl (by kernel_rfl) (by kernel_rfl) (by kernel_rfl) (by kernel_rfl) (fun _ _ _ h => h) (by rfl) (v := ?_) ?_ (by assumption) ?_
          rotate_left 1
          · intro w' hS'; obtain ⟨d0, d1⟩ := hS'; go_simp; try with_reducible rfl
          try simp only [Act.put, List.setIfInBounds_toArray, List.set_cons_zero, List.set_cons_succ]
          refine tail_take 4 rfl (by kernel_rfl) (by kernel_rfl) (by kernel_rfl) (by kernel_rfl) (fun _ _ _ h => h) (by rfl) (v := ?_) ?_ (by assumption) ?_
          rotate_left 1
          · intro w' hS'; obtain ⟨d0, d1⟩ := hS'; go_simp; try with_reducible rfl
          try simp only [Act.put, List.setIfInBounds_toArray, List.set_cons_zero, List.set_cons_succ]
          refine tail_call 5 rfl (by kernel_rfl) rfl (fun K hK => ?_)
          go_simp
          (go_at_call 85; refine (HGW.out _).mono ?_; rintro e w9 ⟨rfl, hb9⟩; have HA9 := hide (HAr.out.drew.next HL6.out hbase hb9); have HK9 := hide (HKr.out.trans (((KeepsOthers.drew wr).from _).trans (keeps_below hb9))); clear hb9)
          refine hK.out _ _ (by (try dsimp only); exact ⟨(cell1 HA9.out.box).1, HMS.out _ _ _ HA9.out⟩) (fun hS' => ?_)
          clear hK K
          try simp only [Act.put, List.setIfInBounds_toArray, List.set_cons_zero, List.set_cons_succ]
          refine tail_call 6 rfl (by kernel_rfl) rfl (fun K hK => ?_)
          go_simp
          (go_at_call 77; refine (implAppendNumberM (.slice Av Zp.length cv) base Wd Zp xv w9 HA9.out.own (by have := HA9.out.bel.size; omega) (by omega) (by omega) (by omega) (by omega)).mono ?_; rintro e wv ⟨vv, rfl, ho, hg', hl'⟩; obtain ⟨Zn, hzn⟩ : ∃ Zn, Zp ++ bitsOf xv Wd = Zn := ⟨_, rfl⟩; rw [hzn] at ho; have HZn := hide hzn; clear hzn; have HAF := hide (HA9.out.put (by simp) HL6.out (by omega) hbase ho hg' hl'); have HKF := hide (HK9.out.trans ((HA9.out.keeps hg' vv).from _)); have HRW := hide (HA9.out.rows HL6.out hg'); have HBX := hide ((HRW.out (w.heap.size + 1) (by simp)).trans HA9.out.box); obtain ⟨Av2, cv2, rfl, _⟩ := ho.form; clear ho hg' hl')
          refine hK.out _ _ (by (try dsimp only); exact ⟨(cell1 HBX.out).1, (cell1 ((HRW.out (w.heap.size + 1 + 1) (by simp)).trans ((HA9.out.keep (w.heap.size + 1 + 1) (by simp) (by omega)).trans HMC.out))).1⟩) (fun hS' => ?_)
          clear hK K
          try simp only [Act.put, List.setIfInBounds_toArray, List.set_cons_zero, List.set_cons_succ]
          obtain ⟨d0, d1⟩ := hS'
          obtain ⟨_, fz⟩ := cell1 HBX.out
          refine tail_last 7 rfl (by kernel_rfl) (by kernel_rfl) rfl rfl (fun K hK => ?_)
          go_simp
          refine hK.out _ _ ?_
          clear hK K
          try simp only [Act.put, List.setIfInBounds_toArray, List.set_cons_zero, List.set_cons_succ]
          refine ⟨HKF.out, ?_, by rw [List.length_append]; exact HN.out, .slice Av2 Zn.length cv2, ?_⟩
          · exact ⟨(HAF.out.keep wk.heap.size (by simp) (by omega)).trans (HA.out.keep wk.heap.size (by simp) (by omega)).symm, (HAF.out.keep (wk.heap.size + 1) (by simp) (by omega)).trans (HA.out.keep (wk.heap.size + 1) (by simp) (by omega)).symm⟩
          · rw [← HQ.out, HZn.out]; exact HAF.out
    case done =>
      rintro Dd W hDd ⟨_, v, hA⟩ hKd
      have HFL := hide (show Z2 ++ txL m (bytesI s) (List.finRange (gct G s.size)) = zs ++ segBits m (bytesI s) by
        rw [txL_all, ← HZ2.out, ← HZ1.out, segBits, headB, HSZ.out, HGG.out]
        simp only [List.append_assoc])
      rw [HFL.out] at hA
      obtain ⟨Zf, hzf⟩ : ∃ Zf, zs ++ segBits m (bytesI s) = Zf := ⟨_, rfl⟩
      rw [hzf] at hA
      have HZF := hide hzf
      have HA := hide hA
      obtain ⟨Av, cv, rfl, hcv⟩ := hA.own.form
      obtain ⟨cB, _⟩ := cell1 hA.box
      have HKD := hide hKd
      clear hA hzf hKd
      gi_wp2_with fail
      refine ⟨by simp, .inl ⟨_, _, rfl, run_takeDeferred HKD.out, ?_⟩⟩
      have HAF := hide (HA.out.turn HL6.out hbase hw5 (turn_put (.deferred none) HKD.out rfl hDd))
      refine ⟨.slice Av Zf.length cv, by simp [results, Try.results50, go_sem], ?_⟩
      exact ⟨_, rfl, by rw [HZF.out]; exact HAF.out.own, HAF.out.bel, HAF.out.gro, HAF.out.src⟩
    case stop =>
      rintro Dd c pre W hDd hpre h
      exact h.elim
  · go_simp
    (go_at_call 157; refine (HGS.out _).mono ?_; rintro e w4 ⟨rfl, hb4⟩; have HA4 := hide (HA2.out.drew.next HL0.out hbase hb4); have HB4 := hide hb4; clear hb4)
    refine hK.out _ _ (by (try dsimp only); exact HSM.out _ _ _ HA4.out) (fun hS' => ?_)
    clear hK K
    try simp only [Act.put, List.setIfInBounds_toArray, List.set_cons_zero, List.set_cons_succ]
    have hbds : w3.heap.size ≤ w4.heap.size := HB4.out.size
    refine tail_call 2 rfl (by kernel_rfl) rfl (fun K hK => ?_)
    have hcv := HCV.out
    go_simp
    have hcge : s.size ≤ grownCap w4 s.size 0 5 := grownCap_ge _ _ _ _
    have hcle : grownCap w4 s.size 0 5 ≤ maxLen := grownCap_le_maxLen _ _ _ _ (by unfold maxLen; omega)
    obtain ⟨cap, hcap⟩ : ∃ cap, grownCap w4 s.size 0 5 = cap := ⟨_, rfl⟩
    rw [hcap] at hcge hcle ⊢
    have HIc := hide (bytes_row w4 s cap 5 ((bytesRow s cap).size, (bytesRow s cap).size + 1))
    have HAc := hide ((HA4.out.next HL0.out hbase ((Below.refl _ _).alloc (Nat.le_refl _) (.cells (bytesRow s cap) 5 ((bytesRow s cap).size, (bytesRow s cap).size + 1)))).drew)
    obtain ⟨bd, hbd⟩ : ∃ bd, w4.heap.size = bd := ⟨_, rfl⟩
    have HBD := hide (show bd < (w4.alloc (.cells (bytesRow s cap) 5 ((bytesRow s cap).size, (bytesRow s cap).size + 1))).heap.size by rw [alloc_size]; omega)
    rw [hbd] at HIc ⊢
    clear hcv hcap
    have hbds2 : w3.heap.size ≤ bd := by omega
    refine hK.out _ _ (HSM.out _ _ _ HAc.out) (fun hS' => ?_)
    clear hK K
    try simp only [Act.put, List.setIfInBounds_toArray, List.set_cons_zero, List.set_cons_succ]
    obtain ⟨wk, hwk⟩ : ∃ wk, (w4.alloc (.cells (bytesRow s cap) 5 ((bytesRow s cap).size, (bytesRow s cap).size + 1))).drew = wk := ⟨_, rfl⟩
    have hbw4 : bd < wk.heap.size := by rw [← hwk]; exact HBD.out
    have HIk := hide (show Ints .u8 wk (bd + 1) (some ⟨bd, 0, none⟩) s.size (bytesI s) by rw [← hwk]; exact HIc.out)
    rw [hwk] at HAc hS' ⊢
    have HAk := hide HAc.out
    clear hwk hbd HBD HIc HAc HA4 HB4
    refine tail_call 5 rfl (by kernel_rfl) rfl (fun K hK => ?_)
    go_simp
    (go_at_call 84; refine (implChunk bd 0 s.size cap G hg1 wk).mono ?_; rintro e w5 ⟨rfl, hw5⟩; have HA5 := hide (show AppV (.slice A0 n0 c0) w Wa w5 base (w.heap.size + 1) [w.heap.size, w.heap.size + 1, w.heap.size + 1 + 1] (.slice A2 Z2.length c2) Z2 by rw [hw5]; exact HAk.out.next HL0.out hbase (((Below.refl _ _).alloc (Nat.le_refl _) _).alloc (by rw [alloc_size]; omega) _)); have HI5 := hide (show Ints .u8 w5 (bd + 1) (some ⟨bd, 0, none⟩) s.size (bytesI s) by rw [hw5]; exact HIk.out.below (((Below.refl _ _).alloc (by omega) _).alloc (by rw [alloc_size]; omega) _)); have HC5 := hide (show CkRow w5 wk.heap.size bd 0 s.size cap G by rw [hw5]; have q := heap_alloc_new (wk.alloc (.cells #[.slice (some ⟨bd, 0, none⟩) s.size cap] 22)) (.cells #[.int .i64 (G : Nat)] 3); rw [alloc_size] at q; exact ⟨row_keep (heap_alloc_new wk _) _, q⟩); clear hw5)
    refine hK.out _ _ (by (try dsimp only); exact HSM.out _ _ _ HA5.out) (fun hS' => ?_)
    clear hK K
    try simp only [Act.put, List.setIfInBounds_toArray, List.set_cons_zero, List.set_cons_succ]
    refine tail_end (by kernel_rfl) ?_
    unfold OnlyN
    have hA2own := HA2.out.own
    have HA6 := hide (show AppV (.slice A0 n0 c0) w w5 w5 base (w.heap.size + 1) [w.heap.size, w.heap.size + 1, w.heap.size + 1 + 1, bd, wk.heap.size, wk.heap.size + 1] (.slice A2 Z2.length c2) Z2 from HA5.out.from fun g hg hm => by
      have h1 := HA5.out.lies g hg
      have h2 := (hA2own.lt hg).2
      simp only [List.mem_cons, List.mem_nil_iff, or_false] at h1 hm
      omega)
    have HL6 := hide (show ∀ i ∈ [w.heap.size, w.heap.size + 1, w.heap.size + 1 + 1, bd, wk.heap.size, wk.heap.size + 1], i < w5.heap.size by
      intro i hi
      have h1 := HC5.out.lt
      have h2 := HA5.out.size
      simp only [List.mem_cons, List.mem_nil_iff, or_false] at hi
      omega)
    have HMC := hide (show w5.heap[w.heap.size + 1 + 1]? = some (.cells #[.iface 143 (.agg #[])] 103 (0, 0)) from (HA5.out.keep (w.heap.size + 1 + 1) (by simp) (by omega)).trans HK.out.2.2)
    have HMS := hide (fun (W : World) (v : Value) (zz : List Int) (h : AppV (.slice A0 n0 c0) w w5 W base (w.heap.size + 1) [w.heap.size, w.heap.size + 1, w.heap.size + 1 + 1, bd, wk.heap.size, wk.heap.size + 1] v zz) => (cell1 ((h.keep (w.heap.size + 1 + 1) (by simp) (by omega)).trans HMC.out)).1)
    have hdat : ∀ (j : Nat) (y : Int), (bytesI s)[j]? = some y → w5.cell? ⟨bd, j, none⟩ = some (.int .u8 y) := fun j y hy => by
      obtain ⟨b', o', e', _, hc'⟩ := HI5.out.2 (by omega)
      simp only [Option.some.injEq, Addr.mk.injEq] at e'
      obtain ⟨rfl, rfl, _⟩ := e'
      have := hc' j y hy
      rw [Nat.zero_add] at this
      exact this
    have HDAT := hide hdat
    have hw5 : w.heap.size ≤ w5.heap.size := by have := HA5.out.size; omega
    have hne6 : w.heap.size + 1 + 1 ≠ w.heap.size + 1 ∧ bd ≠ w.heap.size + 1 ∧ wk.heap.size ≠ w.heap.size + 1 ∧ wk.heap.size + 1 ≠ w.heap.size + 1 := by
      have h2 := HA2.out.size
      omega
    have hZ2 : Z2.length ≤ 8203 := by have := HZL1.out; have := HZL2.out; omega
    clear hdat hA2own HI5 HAk HIk hS'
    gi_wp2_with fail
    refine range_chunk hg1 hg3 hl.2 hcge (by unfold maxLen at hcle; omega) HC5.out (by omega) rfl rfl
      (fun pre W => pre.length ≤ gct G s.size ∧ ∃ v, AppV (.slice A0 n0 c0) w w5 W base (w.heap.size + 1) [w.heap.size, w.heap.size + 1, w.heap.size + 1 + 1, bd, wk.heap.size, wk.heap.size + 1] v (Z2 ++ txL m (bytesI s) pre))
      (fun _ _ _ => False) (fun pre W W' h ht => ⟨h.1, h.2.imp fun v hv => hv.turn HL6.out hbase hw5 ht⟩) (fun c pre W W' h ht => h) ⟨Nat.zero_le _, _, by simpa [txL] using HA6.out⟩
      (fun x => { tmps := #[.agg #[.int .i64 m, .string s], .slice A0 n0 c0, .pointer (some ⟨w.heap.size, 0, none⟩), .pointer (some ⟨w.heap.size + 1, 0, none⟩), .slice none 0 0, .pointer (some ⟨w.heap.size + 1 + 1, 0, none⟩), .bool true, .slice (some ⟨bd, x.val * G, none⟩) (min G (s.size - x.val * G)) (min G (s.size - x.val * G)), undef, undef, undef, .tuple #[.iface 143 (.agg #[]), .bool true], .pointer (some ⟨w.heap.size, 0, none⟩), .int .i64 m, .tuple #[.iface 143 (.agg #[]), .bool true], .iface 143 (.agg #[]), .bool true, .slice A0 n0 c0, .pointer (some ⟨w.heap.size, 0, none⟩), .int .i64 m, .slice A1 Z1.length c1, .slice A1 Z1.length c1, .pointer (some ⟨w.heap.size, 1, none⟩), .string s, .int .i64 s.size, .slice A2 Z2.length c2, .pointer (some ⟨w.heap.size, 1, none⟩), .string s, .slice (some ⟨bd, 0, none⟩) s.size cap, .iface 143 (.agg #[]), .int .i64 G, .func (.func 113) #[] #[.pointer (some ⟨wk.heap.size, 0, none⟩), .pointer (some ⟨wk.heap.size + 1, 0, none⟩)], .slice (some ⟨bd, x.val * G, none⟩) (min G (s.size - x.val * G)) (min G (s.size - x.val * G)), undef, undef, undef, undef, undef, undef, undef, undef, undef, undef, undef, undef, undef, undef, undef, undef, undef, undef, undef, undef, undef, undef, undef, undef], defers := [] }) ?assign ?body ?done ?stop
    case assign =>
      intro l x W K' hK'
      gi_wp2_with fail
      exact hK'
    case body =>
      rintro l pre x W ⟨hpl, v, hA⟩ hlen
      have HA := hide hA
      clear hA
      have hxG := (gct_lt hg1).1 x.isLt
      have hmm : (grp G (bytesI s) x.val).length = min G (s.size - x.val * G) := by rw [grp_len, HSZ.out]
      obtain ⟨mm, hmq⟩ : ∃ mm, min G (s.size - x.val * G) = mm := ⟨_, rfl⟩
      have hmm1 : 1 ≤ mm := by omega
      have hmmG : mm ≤ G := by omega
      have hmms : x.val * G + mm ≤ s.size := by omega
      simp only [hmq]
      rw [hmq] at hmm
      have HMM := hide hmm
      obtain ⟨p, hp⟩ : ∃ p, x.val * G = p := ⟨_, rfl⟩
      have HP := hide hp
      simp only [hp]
      rw [HP.out] at hmms
      have htl : (txL m (bytesI s) pre).length ≤ 2805 := by have := txL_le m (bytesI s) pre; have := gct_le hg1 s.size; omega
      have hZp : (Z2 ++ txL m (bytesI s) pre).length ≤ 20000 := by rw [List.length_append]; omega
      have HNX := hide (show Z2 ++ txL m (bytesI s) (pre ++ [x]) = (Z2 ++ txL m (bytesI s) pre) ++ bitsOf (gnum m (grp G (bytesI s) x.val)) (wid m mm) by rw [txL_snoc, HGG.out, HMM.out, List.append_assoc])
      obtain ⟨Zp, hzp⟩ : ∃ Zp, Z2 ++ txL m (bytesI s) pre = Zp := ⟨_, rfl⟩
      rw [hzp] at HA HNX hZp
      obtain ⟨Av, cv, hv, hcv⟩ := HA.out.own.form
      subst hv
      have HN : Hid (pre.length + 1 ≤ gct G s.size) := hide (by omega)
      clear hzp hp hmq hmm hxG htl
      gi_wp2_with fail
      gi_loopw [8, 35] (fun q k wr => ∃ (t : Nat) (xv : Int), t ≤ mm ∧ k = .int .i64 (t : Nat) ∧ q = .int .i64 xv ∧ Hid (gnum m ((grp G (bytesI s) x.val).take t) = xv) ∧ AppV (.slice A0 n0 c0) w w5 wr base (w.heap.size + 1) [w.heap.size, w.heap.size + 1, w.heap.size + 1 + 1, bd, wk.heap.size, wk.heap.size + 1] (.slice Av Zp.length cv) Zp ∧ KeepsFrom w5.heap.size W wr) (fun _ k _ => mm - (intOf k).toNat)
      case atStart => exact ⟨0, 0, by omega, rfl, rfl, rfl, HA.out, KeepsFrom.refl _ _⟩
      case round =>
        obtain ⟨t, xv, ht, rfl, rfl, hx, hA, hKp⟩ := hrel
        have HAr := hide hA
        have HKr := hide hKp
        clear hA hKp
        have hxb : 0 ≤ xv ∧ xv < 16777216 := by
          have h := gnum_bd HALL.out x.val t
          rw [HGG.out, hx.out] at h
          exact h
        have hmcr := (HAr.out.keep (w.heap.size + 1 + 1) (by simp) (by omega)).trans HMC.out
        obtain ⟨cM, _⟩ := cell1 hmcr
        by_cases htm : t < mm
        · have hit : p + t < s.size := by omega
          obtain ⟨y, hy, hy2, hy0, hy1⟩ := byteAt s hit
          have hcy : wr.cell? ⟨bd, p + t, none⟩ = some (.int .u8 y) := (World.cell?_of_block (HAr.out.keep bd (by simp) (by omega))).trans (HDAT.out _ _ hy2)
          have HST := hide (gnum_step (B := ((gbase m : Nat) : Int)) (m := m) (G := G) (bs := bytesI s) (j := x.val) (t := t) (by omega) (by rw [HP.out]; exact hy2))
          have hcc := all_mem HALL.out (List.mem_of_getElem? hy2)
          have hgb := gbase_le m
          have hCC := HC.out
          have HVV := hide (HV.out y)
          obtain ⟨gb, hgbe⟩ : ∃ gb, gbase m = gb := ⟨_, rfl⟩
          rw [hgbe] at HST hcc hgb hCC
          have HCC := hide hCC
          obtain ⟨cv', hcve⟩ : ∃ cv', cval m y = cv' := ⟨_, rfl⟩
          rw [hcve] at HST hcc HVV
          obtain ⟨q1, hq1⟩ : ∃ q1, xv * (gb : Int) = q1 := ⟨_, rfl⟩
          have hq10 : 0 ≤ q1 := by rw [← hq1]; exact Int.mul_nonneg hxb.1 (by omega)
          have hq11 : q1 ≤ 16777216 * 256 := by rw [← hq1]; exact Int.mul_le_mul (by omega) (by omega) (by omega) (by omega)
          have hwm : IntKind.i64.wrap (xv * (gb : Int)) = q1 := by rw [hq1]; exact IntWalk.i64_in _ ⟨by omega, by omega⟩
          have hwa : IntKind.i64.wrap (q1 + cv') = q1 + cv' := IntWalk.i64_in _ ⟨by omega, by omega⟩
          have hwy : IntKind.i64.wrap y = y := IntWalk.i64_in _ ⟨by omega, by omega⟩
          have HNQ := hide (show gnum m ((grp G (bytesI s) x.val).take (t + 1)) = q1 + cv' by
            have h := HST.out
            have h2 := hx.out
            unfold gnum at h2 ⊢
            rw [hgbe] at h2 ⊢
            rw [h2, hq1] at h
            exact h)
          clear hcve hgbe hq1 hy2 hx hcc hgb hCC hxb hmcr
          gi_wp2_with fail
          refine round_begin (fun w' => w'.cell? ⟨w.heap.size + 1 + 1, 0, none⟩ = some (.iface 143 (.agg #[]))) 10 (by kernel_rfl) (by kernel_rfl) (by rintro ⟨_, _, hq⟩; exact hq) (HMS.out _ _ _ HAr.out.drew) (fun hS' => ?_)
          clear cM hcy
          refine tail_take2 0 rfl (by kernel_rfl) (by kernel_rfl) (by kernel_rfl) (by decide) (fun _ _ _ h => h) (by rfl) (v := ?_) ?_ (by assumption) ?_
          rotate_left 1
          · intro w' hS'; (try dsimp only at hS'); go_simp; try with_reducible rfl
          try simp only [Act.put, List.setIfInBounds_toArray, List.set_cons_zero, List.set_cons_succ]
          refine tail_take2 1 rfl (by kernel_rfl) (by kernel_rfl) (by kernel_rfl) (by decide) (fun _ _ _ h => h) (by rfl) (v := ?_) ?_ (by assumption) ?_
          rotate_left 1
          · intro w' hS'; (try dsimp only at hS'); go_simp; try with_reducible rfl
          try simp only [Act.put, List.setIfInBounds_toArray, List.set_cons_zero, List.set_cons_succ]
          refine tail_take2 4 rfl (by kernel_rfl) (by kernel_rfl) (by kernel_rfl) (by decide) (fun _ _ _ h => h) (by rfl) (v := ?_) ?_ (by assumption) ?_
          rotate_left 1
          · intro w' hS'; (try dsimp only at hS'); go_simp; try with_reducible rfl
          try simp only [Act.put, List.setIfInBounds_toArray, List.set_cons_zero, List.set_cons_succ]
          refine tail_take2 5 rfl (by kernel_rfl) (by kernel_rfl) (by kernel_rfl) (by decide) (fun _ _ _ h => h) (by rfl) (v := ?_) ?_ (by assumption) ?_
          rotate_left 1
          · intro w' hS'; (try dsimp only at hS'); go_simp; try with_reducible rfl
          try simp only [Act.put, List.setIfInBounds_toArray, List.set_cons_zero, List.set_cons_succ]
          refine tail_take2 6 rfl (by kernel_rfl) (by kernel_rfl) (by kernel_rfl) (by decide) (fun _ _ _ h => h) (by rfl) (v := ?_) ?_ (by assumption) ?_
          rotate_left 1
          · intro w' hS'; (try dsimp only at hS'); go_simp; try with_reducible rfl
          try simp only [Act.put, List.setIfInBounds_toArray, List.set_cons_zero, List.set_cons_succ]
          refine tail_call 2 rfl (by kernel_rfl) rfl (fun K hK => ?_)
          go_simp
          (go_at_call 156; refine (HCC.out _).mono ?_; rintro e w7 ⟨rfl, hb7⟩; have HA7 := hide (HAr.out.drew.next HL6.out hbase hb7); have HK7 := hide (HKr.out.trans (((KeepsOthers.drew wr).from _).trans (keeps_below hb7))); clear hb7)
          refine hK.out _ _ (by (try dsimp only); exact HMS.out _ _ _ HA7.out) (fun hS' => ?_)
          clear hK K
          try simp only [Act.put, List.setIfInBounds_toArray, List.set_cons_zero, List.set_cons_succ]
          refine tail_take2 3 rfl (by kernel_rfl) (by kernel_rfl) (by kernel_rfl) (by decide) (fun _ _ _ h => h) (by rfl) (v := ?_) ?_ (by assumption) ?_
          rotate_left 1
          · intro w' hS'; (try dsimp only at hS'); go_simp; try with_reducible rfl
          try simp only [Act.put, List.setIfInBounds_toArray, List.set_cons_zero, List.set_cons_succ]
          refine tail_call 7 rfl (by kernel_rfl) rfl (fun K hK => ?_)
          go_simp
          (go_at_call 158; refine (HVV.out _).mono ?_; rintro e w8 ⟨rfl, hb8⟩; have HA8 := hide (HA7.out.next HL6.out hbase hb8); have HK8 := hide (HK7.out.trans (keeps_below hb8)); clear hb8)
          refine hK.out _ _ (by (try dsimp only); exact HMS.out _ _ _ HA8.out) (fun hS' => ?_)
          clear hK K
          try simp only [Act.put, List.setIfInBounds_toArray, List.set_cons_zero, List.set_cons_succ]
          refine tail_take2 8 rfl (by kernel_rfl) (by kernel_rfl) (by kernel_rfl) (by decide) (fun _ _ _ h => h) (by rfl) (v := ?_) ?_ (by assumption) ?_
          rotate_left 1
          · intro w' hS'; (try dsimp only at hS'); go_simp; try with_reducible rfl
          try simp only [Act.put, List.setIfInBounds_toArray, List.set_cons_zero, List.set_cons_succ]
          refine tail_take2 9 rfl (by kernel_rfl) (by kernel_rfl) (by kernel_rfl) (by decide) (fun _ _ _ h => h) (by rfl) (v := ?_) ?_ (by assumption) ?_
          rotate_left 1
          · intro w' hS'; (try dsimp only at hS'); go_simp; try with_reducible rfl
          try simp only [Act.put, List.setIfInBounds_toArray, List.set_cons_zero, List.set_cons_succ]
          refine tail_end (by kernel_rfl) ?_
          gi_wp2_with fail
          go_roundw
          case rel => exact ⟨t + 1, q1 + cv', by omega, by go_num, rfl, HNQ, HA8.out, HK8.out⟩
          case measure => simp [intOf]; omega
        · have htt : t = mm := by omega
          have HQ := hide (show Zp ++ bitsOf xv (wid m mm) = Z2 ++ txL m (bytesI s) (pre ++ [x]) by
            have h := hx.out
            rw [htt, List.take_of_length_le (Nat.le_of_eq HMM.out)] at h
            rw [HNX.out, h])
          have hGW := implGroupWidth m hm mm (by rw [HGG.out]; exact hmmG)
          rw [HX.out] at hGW
          have hwd := wid_le m mm
          obtain ⟨Wd, hWd⟩ : ∃ Wd, wid m mm = Wd := ⟨_, rfl⟩
          rw [hWd] at hGW hwd HQ
          have HGW := hide hGW
          obtain ⟨cB, _⟩ := cell1 HAr.out.box
          clear hWd hGW hx hmcr
          gi_wp2_with fail
          refine round_begin (fun w' => w'.cell? ⟨w.heap.size + 1, 0, none⟩ = some (.slice Av Zp.length cv) ∧ w'.cell? ⟨w.heap.size + 1 + 1, 0, none⟩ = some (.iface 143 (.agg #[]))) 7 (by kernel_rfl) (by kernel_rfl) (by rintro ⟨_, _, hq⟩; exact hq) ⟨cB, cM⟩ (fun hS' => ?_)
          clear cM cB
          refine tail_take 0 rfl (by kernel_rfl) (by kernel_rfl) (by kernel_rfl) (by kernel_rfl) (fun _ _ _ h => h) (by rfl) (v := ?_) ?_ (by assumption) ?_
          rotate_left 1
          · intro w' hS'; obtain ⟨d0, d1⟩ := hS'; go_simp; try with_reducible rfl
          try simp only [Act.put, List.setIfInBounds_toArray, List.set_cons_zero, List.set_cons_succ]
          refine tail_take 1 rfl (by kernel_rfl) (by kernel_rfl) (by kernel_rfl) (by kernel_rfl) (fun _ _ _ h => h) (by rfl) (v := ?_) ?_ (by assumption) ?_
          rotate_left 1
          · intro w' hS'; obtain ⟨d0, d1⟩ := hS'; go_simp; try with_reducible rfl
          try simp only [Act.put, List.setIfInBounds_toArray, List.set_cons_zero, List.set_cons_succ]
          refine tail_take 2 rfl (by kernel_rfl) (by kernel_rfl) (by kernel_rfl) (by kernel_rfl) (fun _ _ _ h => h) (by rfl) (v := ?_) ?_ (by assumption) ?_
          rotate_left 1
          · intro w' hS'; obtain ⟨d0, d1⟩ := hS'; go_simp; try with_reducible rfl
          try simp only [Act.put, List.setIfInBounds_toArray, List.set_cons_zero, List.set_cons_succ]
          refine tail_take 3 rfl (by kernel_rfl) (by kernel_rfl) (by kernel_rfl) (by kernel_rfl) (fun _ _ _ h => h) (by rfl) (v := ?_) ?_ (by assumption) ?_
          rotate_left 1
          · intro w' hS'; obtain ⟨d0, d1⟩ := hS'; go_simp; try with_reducible rfl
          try simp only [Act.put, List.setIfInBounds_toArray, List.set_cons_zero, List.set_cons_succ]
          refine tail_take 4 rfl (by kernel_rfl) (by kernel_rfl) (by kernel_rfl) (by kernel_rfl) (fun _ _ _ h => h) (by rfl) (v := ?_) ?_ (by assumption) ?_
          rotate_left 1
          · intro w' hS'; obtain ⟨d0, d1⟩ := hS'; go_simp; try with_reducible rfl
          try simp only [Act.put, List.setIfInBounds_toArray, List.set_cons_zero, List.set_cons_succ]
          refine tail_call 5 rfl (by kernel_rfl) rfl (fun K hK => ?_)
          go_simp
          (go_at_call 85; refine (HGW.out _).mono ?_; rintro e w9 ⟨rfl, hb9⟩; have HA9 := hide (HAr.out.drew.next HL6.out hbase hb9); have HK9 := hide (HKr.out.trans (((KeepsOthers.drew wr).from _).trans (keeps_below hb9))); clear hb9)
          refine hK.out _ _ (by (try dsimp only); exact ⟨(cell1 HA9.out.box).1, HMS.out _ _ _ HA9.out⟩) (fun hS' => ?_)
          clear hK K
          try simp only [Act.put, List.setIfInBounds_toArray, List.set_cons_zero, List.set_cons_succ]
          refine tail_call 6 rfl (by kernel_rfl) rfl (fun K hK => ?_)
          go_simp
          (go_at_call 77; refine (implAppendNumberM (.slice Av Zp.length cv) base Wd Zp xv w9 HA9.out.own (by have := HA9.out.bel.size; omega) (by omega) (by omega) (by omega) (by omega)).mono ?_; rintro e wv ⟨vv, rfl, ho, hg', hl'⟩; obtain ⟨Zn, hzn⟩ : ∃ Zn, Zp ++ bitsOf xv Wd = Zn := ⟨_, rfl⟩; rw [hzn] at ho; have HZn := hide hzn; clear hzn; have HAF := hide (HA9.out.put (by simp) HL6.out (by omega) hbase ho hg' hl'); have HKF := hide (HK9.out.trans ((HA9.out.keeps hg' vv).from _)); have HRW := hide (HA9.out.rows HL6.out hg'); have HBX := hide ((HRW.out (w.heap.size + 1) (by simp)).trans HA9.out.box); obtain ⟨Av2, cv2, rfl, _⟩ := ho.form; clear ho hg' hl')
          refine hK.out _ _ (by (try dsimp only); exact ⟨(cell1 HBX.out).1, (cell1 ((HRW.out (w.heap.size + 1 + 1) (by simp)).trans ((HA9.out.keep (w.heap.size + 1 + 1) (by simp) (by omega)).trans HMC.out))).1⟩) (fun hS' => ?_)
          clear hK K
          try simp only [Act.put, List.setIfInBounds_toArray, List.set_cons_zero, List.set_cons_succ]
          obtain ⟨d0, d1⟩ := hS'
          obtain ⟨_, fz⟩ := cell1 HBX.out
          refine tail_last 7 rfl (by kernel_rfl) (by kernel_rfl) rfl rfl (fun K hK => ?_)
          go_simp
          refine hK.out _ _ ?_
          clear hK K
          try simp only [Act.put, List.setIfInBounds_toArray, List.set_cons_zero, List.set_cons_succ]
          refine ⟨HKF.out, ?_, by rw [List.length_append]; exact HN.out, .slice Av2 Zn.length cv2, ?_⟩
          · exact ⟨(HAF.out.keep wk.heap.size (by simp) (by omega)).trans (HA.out.keep wk.heap.size (by simp) (by omega)).symm, (HAF.out.keep (wk.heap.size + 1) (by simp) (by omega)).trans (HA.out.keep (wk.heap.size + 1) (by simp) (by omega)).symm⟩
          · rw [← HQ.out, HZn.out]; exact HAF.out
    case done =>
      rintro Dd W hDd ⟨_, v, hA⟩ hKd
      have HFL := hide (show Z2 ++ txL m (bytesI s) (List.finRange (gct G s.size)) = zs ++ segBits m (bytesI s) by
        rw [txL_all, ← HZ2.out, ← HZ1.out, segBits, headB, HSZ.out, HGG.out]
        simp only [List.append_assoc])
      rw [HFL.out] at hA
      obtain ⟨Zf, hzf⟩ : ∃ Zf, zs ++ segBits m (bytesI s) = Zf := ⟨_, rfl⟩
      rw [hzf] at hA
      have HZF := hide hzf
      have HA := hide hA
      obtain ⟨Av, cv, rfl, hcv⟩ := hA.own.form
      obtain ⟨cB, _⟩ := cell1 hA.box
      have HKD := hide hKd
      clear hA hzf hKd
      gi_wp2_with fail
      refine ⟨by simp, .inl ⟨_, _, rfl, run_takeDeferred HKD.out, ?_⟩⟩
      have HAF := hide (HA.out.turn HL6.out hbase hw5 (turn_put (.deferred none) HKD.out rfl hDd))
      refine ⟨.slice Av Zf.length cv, by simp [results, Try.results50, go_sem], ?_⟩
      exact ⟨_, rfl, by rw [HZF.out]; exact HAF.out.own, HAF.out.bel, HAF.out.gro, HAF.out.src⟩
    case stop =>
      rintro Dd c pre W hDd hpre h
      exact h.elim

theorem implAppTo (m : Int) (s : ByteArray) (hsv : segB m (bytesI s) = true) (A0 : Option Addr) (n0 c0 base : Nat) (zs : List Int) (w : World) (hO : Own w base 2 .i64 (.slice A0 n0 c0) zs) (hbase : base ≤ w.heap.size) (hl8 : zs.length ≤ 8192) :
    Calls Try.prog 50 #[.agg #[.int .i64 m, .string s], .slice A0 n0 c0] w (LongerB 2 .i64 base (.slice A0 n0 c0) (zs ++ segBits m (bytesI s)) w) := by
  obtain ⟨hm, _, _⟩ := seg_ok hsv
  by_cases h4 : m = 4
  · subst h4
    exact implAppToB 4 hm s hsv 1 rfl MV_b (fun w => implCountB w) (fun b w => implValueB b w) (fun w => implSizeB w) A0 n0 c0 base zs w hO hbase hl8
  · have hm3 : m = 1 ∨ m = 2 ∨ m = 3 := by omega
    have h256 : (stS m).size ≤ 256 := by rw [stS_size hm3]; exact gbase_le m
    refine implAppToA m hm s hsv (stS m) (gsz m : Nat) (gsz m) rfl (MV_a hm3) (fun w => ?_) (fun b w => ?_) (fun w => implSizeA _ _ w) A0 n0 c0 base zs w hO hbase hl8
    · have h := implCountA (stS m) (gsz m : Nat) w
      rw [stS_size hm3] at h; exact h
    · have h := implValueA (stS m) (gsz m : Nat) b (by rw [stS_chars hm3]; exact ch_lt m) h256 w
      rw [stS_chars hm3, ← cval_pos hm3] at h; exact h
end Go.Proofs.Ythmpfnbcodolcaa

namespace Go.Proofs.Ythmpfnbcodolcaa
open Go.RowKit
set_option linter.unusedSimpArgs false
set_option linter.unusedVariables false

theorem new2_of {r : List Int} {c : Int} {w w' : World} {v : Value} {base : Nat} (h : Own w' base 2 .i64 v r) (hb : Below w.heap.size w w') (hB : w.heap.size ≤ base) : NewInts2 2 .i64 r c w (.returned (.tuple #[v, .int .i64 c])) w' := by
  obtain ⟨A, m, rfl, hc⟩ := h.form
  exact ⟨A, m, rfl, hc, h.low hB, hb⟩
theorem new2_nil' {c : Int} {w w' : World} (hb : Below w.heap.size w w') : NewInts2 2 .i64 [] c w (.returned (.tuple #[.slice none 0 0, .int .i64 c])) w' :=
  ⟨none, 0, rfl, Nat.le_refl _, World.ownsRow_nil _ _ _ _, hb⟩

theorem segL_ok {m : Int} {s : ByteArray} (h : segB m (bytesI s) = true) : segL m (bytesI s) = ((slen m s.size : Nat) : Int) := by simp [segL, h, bytesI_len]

-- BOTH
set_option maxRecDepth 100000 in
set_option maxHeartbeats 2000000 in
theorem specWs (A : Option Addr) (n c B : Nat) (zs : List Int) (m : Int) (s : ByteArray) (hs : s.size ≤ 1099511627776) (w : World) (hI : Ints .i64 w B A n zs) (hB : B ≤ w.heap.size) (hn : n ≤ 1048576) :
    Calls Try.prog 15 #[.slice A n c, .agg #[.int .i64 m, .string s]] w (NewInts2 2 .i64 (wsOf zs m (bytesI s)) (wsCode zs m (bytesI s)) w) := by
  have hl := hide hI.len
  have HI := hide hI
  have hn : n ≤ 1099511627776 := by omega
  have HX := hide (SBox.start w 26 m s)
  obtain ⟨c0, c1⟩ := HX.out.cells
  clear hI
  rcases hb : isBits zs with _ | _
  · have HB := hide hb
    have HR := hide (ws_bad hb m (bytesI s))
    clear hb
    rw [HR.out, wsOf_bad HR (by decide)]
    go_enter Try.func15, Try.ntmps15
    go_wp2_with fail
    refine (specIsBits_no A n c B zs _ (HI.out.below (HX.out.2.mono hB)) hn HB).mono ?_
    rintro e wz ⟨rfl, hwz⟩
    rw [← hwz]
    clear hwz
    go_wp2_with fail
    go_ret2
    exact new2_nil' HX.out.2
  · have HB := hide hb
    have hz8 : n ≤ 8192 := by have := isBits_len hb; rw [hl.out] at this; exact this
    have HV := hide (specIsSeg m s hs)
    rcases hv : segB m (bytesI s) with _ | _
    · have HR := hide (ws_seg hb hv)
      rw [hv] at HV
      clear hb hv
      rw [HR.out, wsOf_bad HR (by decide)]
      go_enter Try.func15, Try.ntmps15
      go_wp2_with fail
      refine (specIsBits_yes A n c B zs _ (HI.out.below (HX.out.2.mono hB)) hn HB).mono ?_
      rintro e wz ⟨rfl, hwz⟩
      rw [← hwz]
      clear hwz
      go_wp2_with fail
      refine (HV.out _).mono ?_
      rintro e w1 ⟨rfl, hb1⟩
      have HX1 := hide (HX.out.next hb1)
      clear hb1 c0 c1
      go_wp2_with fail
      go_ret2
      exact new2_nil' HX1.out.2
    · obtain ⟨hm, hlen, _⟩ := seg_ok hv
      rw [bytesI_len] at hlen
      have HSV := hide hv
      have HBL := hide (bytesI_len s)
      have htw := twid_le (m := m) hlen.2
      have HLN := hide (specSegLen m s hs)
      rw [segL_ok hv] at HLN
      obtain ⟨T, hT⟩ : ∃ T, slen m s.size = T := ⟨_, rfl⟩
      have hTb : T ≤ 2827 := by rw [← hT]; unfold slen; omega
      rw [hT] at HLN
      have hw1 : IntKind.i64.wrap ((n : Int) + (T : Int)) = ((n + T : Nat) : Int) := by rw [IntWalk.i64_in _ ⟨by omega, by omega⟩]; omega
      by_cases hbig : 8192 < n + T
      · have HR := hide (ws_long hb hv (by rw [bytesI_len, hT, hl.out]; exact hbig))
        rw [hv] at HV
        rw [HR.out, wsOf_bad HR (by decide)]
        obtain ⟨nT, hnT⟩ : ∃ nT, n + T = nT := ⟨_, rfl⟩
        rw [hnT] at hw1 hbig
        have z1 : (8192 : Int) < (nT : Int) := by omega
        clear hb hv hm hT hnT
        go_enter Try.func15, Try.ntmps15
        go_wp2_with fail
        refine (specIsBits_yes A n c B zs _ (HI.out.below (HX.out.2.mono hB)) hn HB).mono ?_
        rintro e wz ⟨rfl, hwz⟩
        rw [← hwz]
        clear hwz
        go_wp2_with fail
        refine (HV.out _).mono ?_
        rintro e w1 ⟨rfl, hb1⟩
        have HX1 := hide (HX.out.next hb1)
        clear hb1 c0 c1
        obtain ⟨c0, c1⟩ := HX1.out.cells
        go_wp2_with fail
        refine (HLN.out _).mono ?_
        rintro e w2 ⟨rfl, hb2⟩
        have HX2 := hide (HX1.out.next hb2)
        clear hb2 c0 c1
        go_wp2_with fail
        go_ret2
        exact new2_nil' HX2.out.2
      · have HR := hide (ws_ok hb hv (by rw [bytesI_len, hT, hl.out]; omega))
        have HO := hide (wsOf_ok HR.out)
        rw [hv] at HV
        rw [HR.out, HO.out]
        obtain ⟨nT, hnT⟩ : ∃ nT, n + T = nT := ⟨_, rfl⟩
        rw [hnT] at hw1 hbig
        have z1 : ¬ (8192 : Int) < (nT : Int) := by omega
        clear hb hv hm hT hnT
        go_enter Try.func15, Try.ntmps15
        go_wp2_with fail
        refine (specIsBits_yes A n c B zs _ (HI.out.below (HX.out.2.mono hB)) hn HB).mono ?_
        rintro e wz ⟨rfl, hwz⟩
        rw [← hwz]
        clear hwz
        go_wp2_with fail
        refine (HV.out _).mono ?_
        rintro e w1 ⟨rfl, hb1⟩
        have HX1 := hide (HX.out.next hb1)
        clear hb1 c0 c1
        obtain ⟨c0, c1⟩ := HX1.out.cells
        go_wp2_with fail
        refine (HLN.out _).mono ?_
        rintro e w2 ⟨rfl, hb2⟩
        have HX2 := hide (HX1.out.next hb2)
        clear hb2 c0 c1
        obtain ⟨c0, c1⟩ := HX2.out.cells
        go_wp2_with fail
        refine (specWrite A n c B zs m s _ (HI.out.below (HX2.out.2.mono hB)) (Nat.le_trans hB HX2.out.2.size) hz8 HSV.out).mono ?_
        rintro e w3 ⟨v3, rfl, ho3, hb3⟩
        have HX3 := hide (HX2.out.next hb3)
        have HO3 := hide (ho3.low (Nat.le_of_lt HX2.out.lt))
        clear hb3 c0 c1 ho3
        go_wp2_with fail
        go_ret2
        exact new2_of HO3.out HX3.out.2 (Nat.le_refl _)

set_option maxRecDepth 100000 in
set_option maxHeartbeats 2000000 in
theorem implWs (A : Option Addr) (n c B : Nat) (zs : List Int) (m : Int) (s : ByteArray) (hs : s.size ≤ 1099511627776) (w : World) (hI : Ints .i64 w B A n zs) (hB : B ≤ w.heap.size) (hn : n ≤ 1048576) :
    Calls Try.prog 14 #[.slice A n c, .agg #[.int .i64 m, .string s]] w (NewInts2 2 .i64 (wsOf zs m (bytesI s)) (wsCode zs m (bytesI s)) w) := by
  have hl := hide hI.len
  have HI := hide hI
  have hn : n ≤ 1099511627776 := by omega
  have HX := hide (SBox.start w 26 m s)
  obtain ⟨c0, c1⟩ := HX.out.cells
  clear hI
  rcases hb : isBits zs with _ | _
  · have HB := hide hb
    have HR := hide (ws_bad hb m (bytesI s))
    clear hb
    rw [HR.out, wsOf_bad HR (by decide)]
    go_enter Try.func14, Try.ntmps14
    go_wp2_with fail
    refine (implIsBits_no A n c B zs _ (HI.out.below (HX.out.2.mono hB)) hn HB).mono ?_
    rintro e wz ⟨rfl, hwz⟩
    rw [← hwz]
    clear hwz
    go_wp2_with fail
    go_ret2
    exact new2_nil' HX.out.2
  · have HB := hide hb
    have hz8 : n ≤ 8192 := by have := isBits_len hb; rw [hl.out] at this; exact this
    have HV := hide (implSegValid m s hs)
    rcases hv : segB m (bytesI s) with _ | _
    · have HR := hide (ws_seg hb hv)
      rw [hv] at HV
      clear hb hv
      rw [HR.out, wsOf_bad HR (by decide)]
      go_enter Try.func14, Try.ntmps14
      go_wp2_with fail
      refine (implIsBits_yes A n c B zs _ (HI.out.below (HX.out.2.mono hB)) hn HB).mono ?_
      rintro e wz ⟨rfl, hwz⟩
      rw [← hwz]
      clear hwz
      go_wp2_with fail
      refine (HV.out _).mono ?_
      rintro e w1 ⟨rfl, hb1⟩
      have HX1 := hide (HX.out.next hb1)
      clear hb1 c0 c1
      go_wp2_with fail
      go_ret2
      exact new2_nil' HX1.out.2
    · obtain ⟨hm, hlen, _⟩ := seg_ok hv
      rw [bytesI_len] at hlen
      have HSV := hide hv
      have HBL := hide (bytesI_len s)
      have htw := twid_le (m := m) hlen.2
      have HLN := hide (implSegLen0 m s hm hlen.2)
      obtain ⟨T, hT⟩ : ∃ T, slen m s.size = T := ⟨_, rfl⟩
      have hTb : T ≤ 2827 := by rw [← hT]; unfold slen; omega
      rw [hT] at HLN
      have hw1 : IntKind.i64.wrap ((n : Int) + (T : Int)) = ((n + T : Nat) : Int) := by rw [IntWalk.i64_in _ ⟨by omega, by omega⟩]; omega
      by_cases hbig : 8192 < n + T
      · have HR := hide (ws_long hb hv (by rw [bytesI_len, hT, hl.out]; exact hbig))
        rw [hv] at HV
        rw [HR.out, wsOf_bad HR (by decide)]
        obtain ⟨nT, hnT⟩ : ∃ nT, n + T = nT := ⟨_, rfl⟩
        rw [hnT] at hw1 hbig
        have z1 : (8192 : Int) < (nT : Int) := by omega
        clear hb hv hm hT hnT
        go_enter Try.func14, Try.ntmps14
        go_wp2_with fail
        refine (implIsBits_yes A n c B zs _ (HI.out.below (HX.out.2.mono hB)) hn HB).mono ?_
        rintro e wz ⟨rfl, hwz⟩
        rw [← hwz]
        clear hwz
        go_wp2_with fail
        refine (HV.out _).mono ?_
        rintro e w1 ⟨rfl, hb1⟩
        have HX1 := hide (HX.out.next hb1)
        clear hb1 c0 c1
        obtain ⟨c0, c1⟩ := HX1.out.cells
        go_wp2_with fail
        refine (HLN.out _).mono ?_
        rintro e w2 ⟨rfl, hb2⟩
        have HX2 := hide (HX1.out.next hb2)
        clear hb2 c0 c1
        go_wp2_with fail
        go_ret2
        exact new2_nil' HX2.out.2
      · have HR := hide (ws_ok hb hv (by rw [bytesI_len, hT, hl.out]; omega))
        have HO := hide (wsOf_ok HR.out)
        rw [hv] at HV
        rw [HR.out, HO.out]
        obtain ⟨nT, hnT⟩ : ∃ nT, n + T = nT := ⟨_, rfl⟩
        rw [hnT] at hw1 hbig
        have z1 : ¬ (8192 : Int) < (nT : Int) := by omega
        clear hb hv hm hT hnT
        go_enter Try.func14, Try.ntmps14
        go_wp2_with fail
        refine (implIsBits_yes A n c B zs _ (HI.out.below (HX.out.2.mono hB)) hn HB).mono ?_
        rintro e wz ⟨rfl, hwz⟩
        rw [← hwz]
        clear hwz
        go_wp2_with fail
        refine (HV.out _).mono ?_
        rintro e w1 ⟨rfl, hb1⟩
        have HX1 := hide (HX.out.next hb1)
        clear hb1 c0 c1
        obtain ⟨c0, c1⟩ := HX1.out.cells
        go_wp2_with fail
        refine (HLN.out _).mono ?_
        rintro e w2 ⟨rfl, hb2⟩
        have HX2 := hide (HX1.out.next hb2)
        clear hb2 c0 c1
        obtain ⟨c0, c1⟩ := HX2.out.cells
        go_wp2_with (first
          | (at_make; refine wpList_mk0 _ rfl _ _ _ rfl elem64 .i64 .i64 _ nT rfl rfl (by omega) (by omega) ?_; intro w3 hown hbel; have HO3 := hide hown; have HX3 := hide (HX2.out.next hbel); have hs3 := hide hbel.size; clear hown hbel c0 c1)
          | (at_builtin; refine wpList_appL _ rfl _ _ _ rfl elem64 w2.heap.size _ [] rfl HO3.out B A n c zs rfl (HI.out.below (HX3.out.2.mono hB)) (by simp; omega) hs3.out ?_; intro v4 w4 hown hgr; have HO4 := hide (show Own w4 w2.heap.size 2 .i64 v4 zs by simpa using hown); have HX4 := hide (HX3.out.grow' hgr (fun g hg => Nat.lt_of_lt_of_le HX2.out.lt (HO3.out.lt hg).1)); have hs4 := hide (Nat.le_trans hs3.out hgr.size); clear hown hgr; obtain ⟨A4, c4, rfl, hc4⟩ := HO4.out.form; obtain ⟨c0, c1⟩ := HX4.out.cells))
        refine (implAppTo m s HSV.out A4 zs.length c4 w2.heap.size zs w4 HO4.out hs4.out (by rw [hl.out]; exact hz8)).mono ?_
        rintro e w5 ⟨v5, rfl, ho5, hb5, _, _⟩
        have HO5 := hide ho5
        have HB5 := hide (show Below w.heap.size w w5 from HX4.out.2.trans (hb5.mono (Nat.le_of_lt HX2.out.lt)))
        clear ho5 hb5 c0 c1
        go_wp2_with fail
        go_ret2
        exact new2_of HO5.out HB5.out (Nat.le_of_lt HX2.out.lt)

theorem ws_both (m : Int) (s : ByteArray) (zs : List Int) (hz : zs.length ≤ 1048576) (hs : s.size ≤ 1099511627776) :
    ∃ (r : List Int) (k : Int), r.length ≤ 1048576 ∧ (∀ (A : Option Addr) (n c B : Nat) (w : World), Ints .i64 w B A n zs → B ≤ w.heap.size → Calls Try.prog 15 #[.slice A n c, .agg #[.int .i64 m, .string s]] w (NewInts2 2 .i64 r k w)) ∧
      (∀ (A : Option Addr) (n c B : Nat) (w : World), Ints .i64 w B A n zs → B ≤ w.heap.size → Calls Try.prog 14 #[.slice A n c, .agg #[.int .i64 m, .string s]] w (NewInts2 2 .i64 r k w)) := by
  refine ⟨wsOf zs m (bytesI s), wsCode zs m (bytesI s), ?_, fun A n c B w hI hB => specWs A n c B zs m s hs w hI hB (by rw [← hI.len]; exact hz), fun A n c B w hI hB => implWs A n c B zs m s hs w hI hB (by rw [← hI.len]; exact hz)⟩
  unfold wsOf
  split
  · have h1 := txP_le m (bytesI s) (gct (gsz m) (bytesI s).length)
    have h2 := gct_le (gsz_pos m) (bytesI s).length
    rename_i hk
    have h3 : zs.length + slen m (bytesI s).length ≤ 8192 ∧ segB m (bytesI s) = true := by
      unfold wsCode at hk
      split at hk
      · split at hk
        · split at hk
          · exact ⟨by assumption, by assumption⟩
          · simp at hk
        · simp at hk
      · simp at hk
    obtain ⟨_, hl, _⟩ := seg_ok h3.2
    rw [List.length_append, segBits, List.length_append, headB_len]
    omega
  · simp
end Go.Proofs.Ythmpfnbcodolcaa
