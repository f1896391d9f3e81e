/-
  The walk of the law FnSegments: it returns true, and nothing that was there before is changed.
  Condition: none.
-/
import Derived.Test.YthmpfnbcodolcaaSgDraw3
import Derived.Test.YthmpfnbcodolcaaSgF
import Derived.Test.YthmpfnbcodolcaaRdT
import Derived.Test.YthmpfnbcodolcaaRdH
import Derived.Test.YthmpfnbcodolcaaRd4
import Derived.Test.YthmpfnbcodolcaaBitsMath2
import Derived.Test.YthmpfnbcodolcaaLike
import Derived.Test.YthmpfnbcodolcaaShell
namespace Go.Proofs.Ythmpfnbcodolcaa
open Go Go.RowKit
set_option linter.unusedVariables false
set_option linter.unusedSimpArgs false

theorem sgb_u8 {n : Int} (h : (Lit.int .u8 n).wf = true) : 0 ≤ n ∧ n ≤ 255 := by
  simp [Lit.wf, IntKind.min, IntKind.max, IntKind.signed, IntKind.bits] at h
  omega
theorem own_most {w : World} {base : Nat} {e : TypeId} {A : Option Addr} {n c : Nat} {zs : List Int} (h : Own w base e .i64 (.slice A n c) zs) : c ≤ 9223372036854775807 := by
  rcases h.2 with ⟨hv, h0⟩ | ⟨g, cap, cur, hv, hb, hg, hnc, hm, hs, ht⟩
  · simp only [Value.slice.injEq] at hv; omega
  · simp only [Value.slice.injEq] at hv
    unfold maxLen at hm
    obtain ⟨_, _, rfl⟩ := hv
    omega
theorem strOf_bytesI (s : ByteArray) : strOf (bytesI s) = s := by
  have hb : bytesI (strOf (bytesI s)) = bytesI s := bytesI_strOf fun x hx => by
    obtain ⟨b, _, rfl⟩ := List.mem_map.1 hx
    have := b.toNat_lt; omega
  have hd : (strOf (bytesI s)).data.toList = s.data.toList := by
    have hinj : ∀ l l' : List UInt8, l.map (fun b => (b.toNat : Int)) = l'.map (fun b => (b.toNat : Int)) → l = l' := by
      intro l
      induction l with
      | nil => intro l' h; cases l' with | nil => rfl | cons _ _ => simp at h
      | cons a l ih =>
        intro l' h
        cases l' with
        | nil => simp at h
        | cons b l' =>
          simp only [List.map_cons, List.cons.injEq] at h
          rw [ih l' h.2, UInt8.toNat_inj.1 (by omega : a.toNat = b.toNat)]
    exact hinj _ _ hb
  cases hs : strOf (bytesI s) with
  | mk d => 
    cases s with
    | mk d' =>
      rw [hs] at hd
      congr 1
      exact Array.toList_inj.1 hd
/-- What was written reads back. -/
theorem seg_key {zs : List Int} {m : Int} {s : ByteArray} (h : wsCode zs m (bytesI s) = 0) :
    segB m (bytesI s) = true ∧ rsK (zs ++ segBits m (bytesI s)) (zs.length : Int) = 0 ∧ rsM (zs ++ segBits m (bytesI s)) (zs.length : Int) = m ∧ rsS (zs ++ segBits m (bytesI s)) (zs.length : Int) = s ∧
    rsE (zs ++ segBits m (bytesI s)) (zs.length : Int) = ((zs.length + slen m s.size : Nat) : Int) ∧ (zs ++ segBits m (bytesI s)).length = zs.length + slen m s.size := by
  unfold wsCode at h
  split at h
  case isFalse => omega
  rename_i hb
  split at h
  case isFalse => omega
  rename_i hv
  split at h
  case isFalse => omega
  rename_i hle
  obtain ⟨hm, _, _⟩ := seg_ok hv
  have hlen := sgb_len m (bytesI s)
  rw [bytesI_len] at hlen hle
  have hr := read_back (zs := zs) hv []
  rw [List.append_nil] at hr
  obtain ⟨h1, h2, h3, h4⟩ := hr
  obtain ⟨g1, g2, g3, g4⟩ := rd_yes h1
  rw [h2] at g2 g3 g4
  rw [h3] at g3 g4
  rw [h4, strOf_bytesI] at g3
  rw [bytesI_len] at g4
  have hbb : isBits (zs ++ segBits m (bytesI s)) = true := isBits_of (by rw [List.length_append, hlen]; exact hle) (fun x hx => by
    rcases List.mem_append.1 hx with h1 | h1
    · obtain ⟨j, hj⟩ := List.getElem?_of_mem h1
      exact isBits_bit hb hj
    · exact sgb_bit _ _ x h1)
  have hK : rsK (zs ++ segBits m (bytesI s)) (zs.length : Int) = 0 := by
    rw [rsK, if_pos hbb, if_pos ⟨by omega, by rw [List.length_append]; omega⟩, Int.toNat_natCast, if_pos g1]
  refine ⟨hv, hK, ?_, ?_, ?_, by rw [List.length_append, hlen]⟩
  · rw [rsM, if_pos hK, Int.toNat_natCast, g2]
  · rw [rsS, if_pos hK, Int.toNat_natCast, g3]
  · rw [rsE, if_pos hK, Int.toNat_natCast, g4]

set_option maxRecDepth 100000 in
set_option maxHeartbeats 8000000 in
theorem fnSegmentsWalk (a0 : Option Addr) (n0 c0 : Nat) (z0 : List Int) (w : World) (h0 : Came .u8 w a0 n0 c0 z0) :
    Calls Try.prog 3 #[.slice a0 n0 c0] w fun e w' => e = .returned (.bool true) ∧ Below w.heap.size w w' := by
  obtain ⟨hI, hnc, hcm, hwf⟩ := h0
  have HI := hide hI
  have HBY := hide (show ∀ b ∈ z0, 0 ≤ b ∧ b ≤ 255 from fun b hb => sgb_u8 (hwf b hb))
  clear hI hwf
  unfold maxLen at hcm
  by_cases hbig : 4096 < n0
  · go_enter Try.func3, Try.ntmps3
    go_wp2_with fail
    refine (big_yes a0 n0 c0 w hbig (by omega)).mono ?_
    rintro e wz ⟨rfl, rfl⟩
    go_wp2_with fail
    go_ret
    exact ⟨rfl, Below.refl _ _⟩
  have hn0 : n0 ≤ 4096 := by omega
  go_enter Try.func3, Try.ntmps3
  go_wp2_with fail
  refine (big_no a0 n0 c0 w hn0).mono ?_
  rintro e wz ⟨rfl, rfl⟩
  go_wp2_with fail
  refine (drawWriteSeg a0 n0 c0 z0 w HI.out hn0 HBY.out).mono ?_
  rintro e w1 ⟨zs, v, m, s, rfl, hz, hm0, hm1, hs, ho1, hb1⟩
  obtain ⟨A1, c1, rfl, hc1⟩ := ho1.form
  have HB1 := hide hb1
  have HO1 := hide ho1
  have HX1 := hide (SBox.start w1 26 m s)
  have HO1' := hide (ho1.alloc (.cells #[.int .i64 m, .string s] 26))
  obtain ⟨w2, hw2⟩ : ∃ w2, w1.alloc (.cells #[.int .i64 m, .string s] 26) = w2 := ⟨_, rfl⟩
  rw [hw2] at HX1 HO1'
  have HB2 := hide (HB1.out.trans (HX1.out.2.mono HB1.out.size))
  obtain ⟨k0, k1⟩ := HX1.out.cells
  clear ho1 hb1
  go_wp2_with fail
  clear hw2
  refine (implWs A1 zs.length c1 w2.heap.size zs m s (by omega) w2 HO1'.out.ints (Nat.le_refl _) (by omega)).mono ?_
  rintro e w3 ⟨A3, c3, rfl, hc3, ho3, hb3⟩
  have HX3 := hide (HX1.out.next hb3)
  have HL3 := hide (HO1'.out.below hb3 (Nat.le_refl _))
  have HO3 := hide (ho3.low (base' := w.heap.size) HB2.out.size)
  have HB3 := hide (HB2.out.trans (hb3.mono HB2.out.size))
  have HC3 := hide hc3
  have HCM := hide (own_most HO3.out)
  clear ho3 hb3 k0 k1 HX1
  obtain ⟨k0, k1⟩ := HX3.out.cells
  have HRL := hide (show (wsOf zs m (bytesI s)).length ≤ 1048576 from by
    unfold wsOf
    split
    · rename_i h
      have := (seg_key h).2.2.2.2.2
      have h8 : zs.length + slen m s.size ≤ 8192 := by
        have h1 := h
        unfold wsCode at h1
        rw [bytesI_len] at h1
        split at h1
        · split at h1
          · split at h1
            · assumption
            · omega
          · omega
        · omega
      omega
    · simp)
  have HKEY := hide (seg_key (zs := zs) (m := m) (s := s))
  have HOK := hide (fun h => wsOf_ok (zs := zs) (m := m) (bs := bytesI s) h)
  obtain ⟨r, hr⟩ : ∃ r, wsOf zs m (bytesI s) = r := ⟨_, rfl⟩
  obtain ⟨k, hk⟩ : ∃ k, wsCode zs m (bytesI s) = k := ⟨_, rfl⟩
  have HSW := hide (fun w hI hB => specWs A1 zs.length c1 w3.heap.size zs m s (by omega) w hI hB (by omega))
  rw [hr] at HO3 HC3 HRL HOK HSW
  rw [hk] at HKEY HOK HSW
  rw [hr, hk]
  have hrl := HRL.out
  obtain ⟨rn, hrn⟩ : ∃ rn, r.length = rn := ⟨_, rfl⟩
  have HRN := hide hrn
  rw [hrn] at HO3 hrl HC3
  rw [hrn]
  clear hr hk hrn
  go_wp2_with fail
  refine (HSW.out w3 HL3.out.ints (Nat.le_refl _)).mono ?_
  rintro e w4 ⟨A4, c4, rfl, hc4, ho4, hb4⟩
  have HX4 := hide (HX3.out.next hb4)
  have HL4 := hide (HL3.out.below hb4 (Nat.le_refl _))
  have HI3 := hide ((HO3.out.below hb4 (Nat.le_refl _)).ints' HRN.out)
  have HI4 := hide (show Ints .i64 w4 w4.heap.size A4 rn r by rw [← HRN.out]; exact ho4.ints)
  have HB4 := hide (HB3.out.trans (hb4.mono HB3.out.size))
  have HXd := hide HX4.out.drew
  have HBd := hide HB4.out.drew
  have HI3d := hide (show Ints .i64 w4.drew w4.heap.size A3 rn r from HI3.out)
  have HI4d := hide (show Ints .i64 w4.drew w4.heap.size A4 rn r from HI4.out)
  have hq : (k != k) = false := by simp
  rw [HRN.out]
  rw [HRN.out] at hc4
  clear ho4 hb4 k0 k1 HX3 HL3 HO3 HSW
  go_wp2_with fail
  refine tail_begin (fun w' => w'.cell? ⟨w1.heap.size, 0, none⟩ = some (.int .i64 m) ∧ w'.cell? ⟨w1.heap.size, 1, none⟩ = some (.string s)) 16 (by kernel_rfl) HXd.out.cells (fun hS' => ?_)
  refine tail_take2 0 rfl (by kernel_rfl) (by kernel_rfl) (by kernel_rfl) (by decide) (fun _ _ _ h => h) (by rfl) (v := ?_) ?_ (by assumption) ?_
  rotate_left 1
  · intro w' hS'; obtain ⟨d0, d1⟩ := hS'; go_simp; try with_reducible rfl
  try simp only [Act.put, List.setIfInBounds_toArray, List.set_cons_zero, List.set_cons_succ]
  refine tail_take2 1 rfl (by kernel_rfl) (by kernel_rfl) (by kernel_rfl) (by decide) (fun _ _ _ h => h) (by rfl) (v := ?_) ?_ (by assumption) ?_
  rotate_left 1
  · intro w' hS'; obtain ⟨d0, d1⟩ := hS'; go_simp; try with_reducible rfl
  try simp only [Act.put, List.setIfInBounds_toArray, List.set_cons_zero, List.set_cons_succ]
  refine tail_take2 2 rfl (by kernel_rfl) (by kernel_rfl) (by kernel_rfl) (by decide) (fun _ _ _ h => h) (by rfl) (v := ?_) ?_ (by assumption) ?_
  rotate_left 1
  · intro w' hS'; obtain ⟨d0, d1⟩ := hS'; go_simp; try with_reducible rfl
  try simp only [Act.put, List.setIfInBounds_toArray, List.set_cons_zero, List.set_cons_succ]
  refine tail_take2 3 rfl (by kernel_rfl) (by kernel_rfl) (by kernel_rfl) (by decide) (fun _ _ _ h => h) (by rfl) (v := ?_) ?_ (by assumption) ?_
  rotate_left 1
  · intro w' hS'; obtain ⟨d0, d1⟩ := hS'; go_simp; try with_reducible rfl
  try simp only [Act.put, List.setIfInBounds_toArray, List.set_cons_zero, List.set_cons_succ]
  refine tail_take2 4 rfl (by kernel_rfl) (by kernel_rfl) (by kernel_rfl) (by decide) (fun _ _ _ h => h) (by rfl) (v := ?_) ?_ (by assumption) ?_
  rotate_left 1
  · intro w' hS'; obtain ⟨d0, d1⟩ := hS'; go_simp; try with_reducible rfl
  try simp only [Act.put, List.setIfInBounds_toArray, List.set_cons_zero, List.set_cons_succ]
  refine tail_take2 5 rfl (by kernel_rfl) (by kernel_rfl) (by kernel_rfl) (by decide) (fun _ _ _ h => h) (by rfl) (v := ?_) ?_ (by assumption) ?_
  rotate_left 1
  · intro w' hS'; obtain ⟨d0, d1⟩ := hS'; go_simp; try with_reducible rfl
  try simp only [Act.put, List.setIfInBounds_toArray, List.set_cons_zero, List.set_cons_succ]
  refine tail_callG 6 rfl (by kernel_rfl) (by rfl) (fun K hK => ?_)
  go_simp
  (go_at_call 16; refine (likeSame A3 rn c3 _ A4 rn c4 _ r _ HI3d.out HI4d.out (by rw [HRN.out]; omega)).mono ?_; rintro e w5 ⟨rfl, hb5⟩; have HX5 := hide (HXd.out.next hb5); have HB5 := hide (HBd.out.trans (hb5.mono HBd.out.size)); have HB45 := hide (show Below w4.heap.size w4 w5 from ⟨hb5.os, hb5.tape, hb5.output, hb5.size, hb5.block⟩); clear hb5)
  refine hK.out _ _ (by (try dsimp only); exact HX5.out.cells) (fun hS' => ?_)
  clear hK K
  try simp only [Act.put, List.setIfInBounds_toArray, List.set_cons_zero, List.set_cons_succ]
  refine tail_take2 7 rfl (by kernel_rfl) (by kernel_rfl) (by kernel_rfl) (by decide) (fun _ _ _ h => h) (by rfl) (v := ?_) ?_ (by assumption) ?_
  rotate_left 1
  · intro w' hS'; obtain ⟨d0, d1⟩ := hS'; go_simp; try with_reducible rfl
  try simp only [Act.put, List.setIfInBounds_toArray, List.set_cons_zero, List.set_cons_succ]
  refine tail_take2 8 rfl (by kernel_rfl) (by kernel_rfl) (by kernel_rfl) (by decide) (fun _ _ _ h => h) (by rfl) (v := ?_) ?_ (by assumption) ?_
  rotate_left 1
  · intro w' hS'; obtain ⟨d0, d1⟩ := hS'; go_simp; try with_reducible rfl
  try simp only [Act.put, List.setIfInBounds_toArray, List.set_cons_zero, List.set_cons_succ]
  refine tail_take2 9 rfl (by kernel_rfl) (by kernel_rfl) (by kernel_rfl) (by decide) (fun _ _ _ h => h) (by rfl) (v := ?_) ?_ (by assumption) ?_
  rotate_left 1
  · intro w' hS'; obtain ⟨d0, d1⟩ := hS'; go_simp; try with_reducible rfl
  try simp only [Act.put, List.setIfInBounds_toArray, List.set_cons_zero, List.set_cons_succ]
  refine tail_take2 10 rfl (by kernel_rfl) (by kernel_rfl) (by kernel_rfl) (by decide) (fun _ _ _ h => h) (by rfl) (v := ?_) ?_ (by assumption) ?_
  rotate_left 1
  · intro w' hS'; obtain ⟨d0, d1⟩ := hS'; go_simp; try with_reducible rfl
  try simp only [Act.put, List.setIfInBounds_toArray, List.set_cons_zero, List.set_cons_succ]
  refine tail_take2 12 rfl (by kernel_rfl) (by kernel_rfl) (by kernel_rfl) (by decide) (fun _ _ _ h => h) (by rfl) (v := ?_) ?_ (by assumption) ?_
  rotate_left 1
  · intro w' hS'; obtain ⟨d0, d1⟩ := hS'; go_simp; try with_reducible rfl
  try simp only [Act.put, List.setIfInBounds_toArray, List.set_cons_zero, List.set_cons_succ]
  refine tail_callG 11 rfl (by kernel_rfl) (by rfl) (fun K hK => ?_)
  go_simp
  (go_at_call 17; refine (implIsSeg m s (by omega) _).mono ?_; rintro e w6 ⟨rfl, hb6⟩; have HX6 := hide (HX5.out.next hb6); have HB6 := hide (HB5.out.trans (hb6.mono HB5.out.size)); have HB46 := hide (HB45.out.trans (hb6.mono HB45.out.size)); clear hb6)
  refine hK.out _ _ (by (try dsimp only); exact HX6.out.cells) (fun hS' => ?_)
  clear hK K
  try simp only [Act.put, List.setIfInBounds_toArray, List.set_cons_zero, List.set_cons_succ]
  refine tail_callG 13 rfl (by kernel_rfl) (by rfl) (fun K hK => ?_)
  go_simp
  (go_at_call 18; refine (specIsSeg m s (by omega) _).mono ?_; rintro e w7 ⟨rfl, hb7⟩; have HX7 := hide (HX6.out.next hb7); have HB7 := hide (HB6.out.trans (hb7.mono HB6.out.size)); have HB47 := hide (HB46.out.trans (hb7.mono HB46.out.size)); clear hb7)
  refine hK.out _ _ (by (try dsimp only); exact HX7.out.cells) (fun hS' => ?_)
  clear hK K
  try simp only [Act.put, List.setIfInBounds_toArray, List.set_cons_zero, List.set_cons_succ]
  refine tail_take2 14 rfl (by kernel_rfl) (by kernel_rfl) (by kernel_rfl) (by decide) (fun _ _ _ h => h) (by rfl) (v := ?_) ?_ (by assumption) ?_
  rotate_left 1
  · intro w' hS'; obtain ⟨d0, d1⟩ := hS'; go_simp; try with_reducible rfl
  try simp only [Act.put, List.setIfInBounds_toArray, List.set_cons_zero, List.set_cons_succ]
  refine tail_take2 15 rfl (by kernel_rfl) (by kernel_rfl) (by kernel_rfl) (by decide) (fun _ _ _ h => h) (by rfl) (v := ?_) ?_ (by assumption) ?_
  rotate_left 1
  · intro w' hS'; obtain ⟨d0, d1⟩ := hS'; go_simp; try with_reducible rfl
  try simp only [Act.put, List.setIfInBounds_toArray, List.set_cons_zero, List.set_cons_succ]
  refine tail_end (by kernel_rfl) ?_
  clear hS'
  by_cases hk0 : k = 0
  case neg =>
    have hk1 : (k != 0) = true := by simpa using hk0
    go_wp2_with fail
    go_ret
    exact ⟨rfl, HB7.out⟩
  subst hk0
  obtain ⟨q1, q2, q3, q4, q5, q6⟩ := HKEY.out rfl
  rw [← HOK.out rfl] at q2 q3 q4 q5 q6
  rw [HRN.out] at q6
  have hrz : rn ≤ 20000 := by
    obtain ⟨_, h2, _⟩ := seg_ok q1
    have h3 : slen m s.size ≤ 2827 := by
      have h4 := wid_le m (gsz m)
      have h5 := wid_le m (s.size % gsz m)
      have h6 : s.size / gsz m ≤ s.size := Nat.div_le_self _ _
      rw [bytesI_len] at h2
      have h7 : s.size / gsz m * wid m (gsz m) ≤ 255 * 11 := Nat.mul_le_mul (by omega) h4
      unfold slen twid; omega
    omega
  have HI7 := hide (show Ints .i64 w7 w4.heap.size A3 rn r from HI3.out.below (HB47.out))
  have HRS := hide (implRs rdTextOf A3 rn c3 w4.heap.size r (zs.length : Int) w7 HI7.out HB47.out.size (by omega) HC3.out HCM.out)
  unfold RsPost at HRS
  rw [q2, q3, q4, q5] at HRS
  have HSLN := hide (fun w => implSegLen m s (by omega) w)
  rw [segL_ok q1] at HSLN
  obtain ⟨sl, hsl⟩ : ∃ sl, slen m s.size = sl := ⟨_, rfl⟩
  rw [hsl] at q6 HRS HSLN
  have hws : IntKind.i64.wrap (((zs.length + sl : Nat) : Int) - (zs.length : Int)) = (sl : Int) := by rw [IntWalk.i64_in _ ⟨by omega, by omega⟩]; omega
  obtain ⟨zl, hzl⟩ : ∃ zl, zs.length = zl := ⟨_, rfl⟩
  rw [hzl] at HRS hws q6
  rw [hzl]
  clear hzl hsl q1 q2 q3 q4 q5 hq HKEY HOK
  have HQ6 := hide q6
  have HXk := HX7
  clear q6
  go_wp2_with fail
  refine (HRS.out).mono ?_
  rintro e w8 ⟨rfl, hb8⟩
  have HX8 := hide (HX7.out.next hb8)
  have HB8 := hide (HB7.out.trans (hb8.mono HB7.out.size))
  have HY8 := hide (SBox.start w8 26 m s)
  have HXD := hide (HX8.out.next HY8.out.2)
  have HBD := hide (HB8.out.trans (HY8.out.2.mono HB8.out.size))
  have hq6 : ((zl + sl : Nat) : Int) = (rn : Int) := by rw [HQ6.out]
  obtain ⟨k0, k1⟩ := HXD.out.cells
  obtain ⟨y0, y1⟩ := HY8.out.cells
  obtain ⟨nx, hnx⟩ : ∃ nx, zl + sl = nx := ⟨_, rfl⟩
  have hnr : nx = rn := by rw [← hnx]; exact HQ6.out.symm
  subst hnr
  rw [hnx] at hws ⊢
  clear hb8 HRS HX7 HXk hq6 hnx
  go_wp2_with fail
  refine (HSLN.out _).mono ?_
  rintro e w9 ⟨rfl, hb9⟩
  have HB9 := hide (HBD.out.trans (hb9.mono HBD.out.size))
  clear hb9 k0 k1 y0 y1
  go_wp2_with fail
  go_ret
  exact ⟨rfl, HB9.out⟩
end Go.Proofs.Ythmpfnbcodolcaa
