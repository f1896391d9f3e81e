/-
  The walk of the law FnSmallest: it returns true, and nothing that was there before is changed.
  Condition: none.
-/
import Derived.Test.YtncgeoliboidhaaGreatWA
import Derived.Test.YtncgeoliboidhaaGreatWD
import Derived.Test.YtncgeoliboidhaaGreatFmLaw
import Derived.Test.YtncgeoliboidhaaGreatVL
import Derived.Test.YtncgeoliboidhaaGreatLike
import Derived.Test.YtncgeoliboidhaaGreatTail2
namespace Go.Proofs.YtncgeoliboidhaaGreat
open Go.RowKit
set_option linter.unusedVariables false
set_option linter.unusedSimpArgs false

theorem row6S {w : World} {b : Nat} {x0 x1 x2 x3 x4 x5 : Value} {t : TypeId} (h : w.heap[b]? = some (.cells #[x0, x1, x2, x3, x4, x5] t (0, 0))) :
    w.cell? ⟨b, 0, none⟩ = some x0 ∧ w.cell? ⟨b, 1, none⟩ = some x1 ∧ w.cell? ⟨b, 2, none⟩ = some x2 ∧ w.cell? ⟨b, 3, none⟩ = some x3 ∧ w.cell? ⟨b, 4, none⟩ = some x4 ∧ w.cell? ⟨b, 5, none⟩ = some x5 :=
  ⟨(row6F h).1, (row6F h).2.1, (row6F h).2.2.1, (row6F h).2.2.2.1, (row6F h).2.2.2.2.1, (row6F h).2.2.2.2.2.1⟩
/-- While the sizes are looked through. -/
def SzRel (w : World) (B : Nat) (s : ByteArray) (κ p k γ : Int) (P : Option Addr) (l lc : Nat) (C : Int) (P' : Option Addr) (l' lc' : Nat) (zs ls : List Int) (i : Value) (wr : World) : Prop :=
  ∃ j : Nat, j ≤ zs.length ∧ i = .int .i64 j ∧ wr.heap[B]? = some (.cells #[.string s, .int .i64 κ, .int .i64 p, .int .i64 k, .int .i64 γ, .slice P l lc, .int .i64 C, .slice P' l' lc'] 28 (0, 0)) ∧ Below w.heap.size w wr ∧ Ints .i64 wr wr.heap.size P l zs ∧ Ints .i64 wr wr.heap.size P' l' ls
set_option maxRecDepth 100000 in
set_option maxHeartbeats 16000000 in
theorem fnSmallestWalk (a0 : Option Addr) (n0 c0 : Nat) (z0 : List Int) (w : World) (h0 : Came .u8 w a0 n0 c0 z0) :
    Calls Tryz.prog 3 #[.slice a0 n0 c0] w fun e w' => e = .returned (.bool true) ∧ Below w.heap.size w w' := by
  obtain ⟨hI, hnc, hcm, hwf⟩ := h0
  have HI := hide hI
  have HBY := hide (show ∀ b ∈ z0, 0 ≤ b ∧ b ≤ 255 from fun b hb => bd_u8 (hwf b hb))
  clear hI hwf
  unfold maxLen at hcm
  by_cases hbig : 4096 < n0
  · go_enter Tryz.func3, Tryz.ntmps3
    go_wp2_with fail
    refine (big_yes a0 n0 c0 w hbig (by omega)).mono ?_
    rintro e w ⟨rfl, rfl⟩
    go_wp2_with fail
    go_ret
    exact ⟨rfl, Below.refl _ _⟩
  have hn0 : n0 ≤ 4096 := by omega
  go_enter Tryz.func3, Tryz.ntmps3
  go_wp2_with fail
  refine (big_no a0 n0 c0 w hn0).mono ?_
  rintro e w ⟨rfl, rfl⟩
  go_wp2_with fail
  refine (drawSZ a0 n0 c0 z0 w HI.out hn0 HBY.out).mono ?_
  rintro e w1 ⟨s, κ, p, k, γ, P, l, lc, C, P', l', lc', zs, ls, lv, m, rfl, hsz, hmz, hzf, hlf, hb⟩
  have HB1 := hide hb
  have HI1 := hide hzf.ints
  have HJ1 := hide hlf.ints
  have hz8 : l ≤ 8 := hzf.2.1
  have hl8 : l' ≤ 8 := hlf.2.1
  have e1 : zs.length = l := hzf.1
  have e2 : ls.length = l' := hlf.1
  clear hb hzf hlf HI HBY hcm hnc hbig hn0
  subst e1
  subst e2
  obtain ⟨w2, hw2⟩ : ∃ w2, w1.alloc (.cells #[.string s, .int .i64 κ, .int .i64 p, .int .i64 k, .int .i64 γ, .slice P zs.length lc, .int .i64 C, .slice P' ls.length lc'] 28) = w2 := ⟨_, rfl⟩
  have hb2 : Below w1.heap.size w1 w2 := by rw [← hw2]; exact (Below.refl _ _).alloc (Nat.le_refl _) _
  have HF2 := hide (show w2.heap[w1.heap.size]? = some (.cells #[.string s, .int .i64 κ, .int .i64 p, .int .i64 k, .int .i64 γ, .slice P zs.length lc, .int .i64 C, .slice P' ls.length lc'] 28 (0, 0)) by rw [← hw2]; exact heap_alloc_new _ _)
  have HB2 := hide (HB1.out.trans (hb2.mono HB1.out.size))
  have HI2 := hide ((HI1.out.below hb2).more hb2.size)
  have HJ2 := hide ((HJ1.out.below hb2).more hb2.size)
  clear hb2
  rcases fsm_key s κ p k γ C zs ls lv m hsz hz8 hl8 (by omega) with ⟨v, cd, hcd, hsi, hss⟩ | ⟨z, nd, hsi, hss, hps, hkey⟩
  · have HSI := hide hsi
    have HSS := hide hss
    have hcc : (cd != cd) = false := by simp
    have hvv : (v != v) = false := by simp
    clear hsi hss hsz hz8 hl8 hmz
    obtain ⟨⟨t0, t1, t2, t3, t4, t5, t6, t7⟩, _⟩ := row8 HF2.out
    go_wp2_with fail
    clear hw2 t0 t1 t2 t3 t4 t5 t6 t7
    refine (HSI.out _ _ _ _ _ _ _ HI2.out HJ2.out).mono ?_
    rintro e w3 ⟨rfl, hb⟩
    have HF3 := hide (heap_nextG HF2.out hb)
    have HB3 := hide (HB2.out.trans (hb.mono HB2.out.size))
    have HI3 := hide ((HI2.out.below hb).more hb.size)
    have HJ3 := hide ((HJ2.out.below hb).more hb.size)
    clear hb
    obtain ⟨⟨t0, t1, t2, t3, t4, t5, t6, t7⟩, _⟩ := row8 HF3.out
    go_wp2_with fail
    clear t0 t1 t2 t3 t4 t5 t6 t7
    refine (HSS.out _ _ _ _ _ _ _ HI3.out HJ3.out).mono ?_
    rintro e w4 ⟨rfl, hb⟩
    have HF4 := hide (heap_nextG HF3.out hb)
    have HB4 := hide (HB3.out.trans (hb.mono HB3.out.size))
    have HI4 := hide ((HI3.out.below hb).more hb.size)
    have HJ4 := hide ((HJ3.out.below hb).more hb.size)
    clear hb
    obtain ⟨⟨t0, t1, t2, t3, t4, t5, t6, t7⟩, _⟩ := row8 HF4.out
    go_wp2_with fail
    go_ret
    exact ⟨rfl, HB4.out⟩
  · have HSI := hide hsi
    have HSS := hide hss
    have HPS := hide hps
    have HKEY := hide hkey
    have hvv : (z != z) = false := by simp
    have HZ8 := hide hz8
    clear hsi hss hps hkey hsz hz8 hl8 hmz
    obtain ⟨⟨t0, t1, t2, t3, t4, t5, t6, t7⟩, _⟩ := row8 HF2.out
    go_wp2_with fail
    clear hw2 t0 t1 t2 t3 t4 t5 t6 t7
    refine (HSI.out _ _ _ _ _ _ _ HI2.out HJ2.out).mono ?_
    rintro e w3 ⟨rfl, hb⟩
    have HF3 := hide (heap_nextG HF2.out hb)
    have HB3 := hide (HB2.out.trans (hb.mono HB2.out.size))
    have HI3 := hide ((HI2.out.below hb).more hb.size)
    have HJ3 := hide ((HJ2.out.below hb).more hb.size)
    clear hb
    obtain ⟨⟨t0, t1, t2, t3, t4, t5, t6, t7⟩, _⟩ := row8 HF3.out
    go_wp2_with fail
    clear t0 t1 t2 t3 t4 t5 t6 t7
    refine (HSS.out _ _ _ _ _ _ _ HI3.out HJ3.out).mono ?_
    rintro e w4 ⟨rfl, hb⟩
    have HF4 := hide (heap_nextG HF3.out hb)
    have HB4 := hide (HB3.out.trans (hb.mono HB3.out.size))
    have HI4 := hide ((HI3.out.below hb).more hb.size)
    have HJ4 := hide ((HJ3.out.below hb).more hb.size)
    clear hb
    obtain ⟨⟨t0, t1, t2, t3, t4, t5, t6, t7⟩, _⟩ := row8 HF4.out
    go_wp2_with fail
    clear hvv t0 t1 t2 t3 t4 t5 t6 t7
    refine (HPS.out _).mono ?_
    rintro e w5 ⟨rfl, hb⟩
    have HF5 := hide (heap_nextG HF4.out hb)
    have HB5 := hide (HB4.out.trans (hb.mono HB4.out.size))
    have HI5 := hide ((HI4.out.below hb).more hb.size)
    have HJ5 := hide ((HJ4.out.below hb).more hb.size)
    clear hb
    obtain ⟨BF, hBF⟩ : ∃ B, w1.heap.size = B := ⟨_, rfl⟩
    rw [hBF] at HF5 ⊢
    clear hBF HF2 HF3 HF4 HB1 HB2 HB3 HB4 HI1 HI2 HI3 HI4 HJ1 HJ2 HJ3 HJ4
    go_wp2_with fail
    go_loopw [12] (fun i wr => SzRel w BF s κ p k γ P zs.length lc C P' ls.length lc' zs ls i wr) (fun i _ => zs.length - (intOf i).toNat)
    case atStart => exact ⟨0, by omega, rfl, HF5.out, HB5.out, HI5.out, HJ5.out⟩
    case round =>
      clear HF5 HB5 HI5 HJ5
      obtain ⟨j, hj, rfl, hF6, hB6, hI6, hJ6⟩ := hrel
      have HF6 := hide hF6
      have HB6 := hide hB6
      have HI6 := hide hI6
      have HJ6 := hide hJ6
      clear hF6 hB6 hI6 hJ6
      obtain ⟨w6, rfl⟩ : ∃ w6 : World, w6 = wr := ⟨_, rfl⟩
      obtain ⟨⟨t0, t1, t2, t3, t4, t5, t6, t7⟩, _⟩ := row8 HF6.out
      by_cases hlt : j < zs.length
      · obtain ⟨b, off, x, rfl, hbl, hx, hc⟩ := HI6.out.at_ hlt
        by_cases hle : x ≤ z
        · have hled : decide (x ≤ z) = true := decide_eq_true hle
          obtain ⟨v0, v1, v2, v3, v4, v5, cd, hk, hlo⟩ := HKEY.out j x hx hle
          have HLO := hide hlo
          have HK := hide hk
          have HC := hide hc
          have HBL := hide hbl
          clear hlo hk hx hle hbl
          have HWd := hide (Below.refl w6.heap.size w6).drew
          go_wp2_with fail
          clear hc hled t0 t1 t2 t3 t4 t5 t6 t7
          refine tail_begin (fun w' => (w'.cell? ⟨BF, 0, none⟩ = some (.string s) ∧ w'.cell? ⟨BF, 1, none⟩ = some (.int .i64 κ) ∧ w'.cell? ⟨BF, 2, none⟩ = some (.int .i64 p) ∧ w'.cell? ⟨BF, 3, none⟩ = some (.int .i64 k) ∧ w'.cell? ⟨BF, 4, none⟩ = some (.int .i64 γ) ∧ w'.cell? ⟨BF, 5, none⟩ = some (.slice (some ⟨b, off, none⟩) zs.length lc) ∧ w'.cell? ⟨BF, 6, none⟩ = some (.int .i64 C) ∧ w'.cell? ⟨BF, 7, none⟩ = some (.slice P' ls.length lc')) ∧ w'.cell? ⟨b, off + j, none⟩ = some (.int .i64 x)) 14 (by kernel_rfl) ⟨(row8 (heap_nextG HF6.out HWd.out)).1, (HWd.out.cell (p := ⟨b, off + j, none⟩) HBL.out).trans HC.out⟩ (fun hS' => ?_)
          obtain ⟨wd, hwd⟩ : ∃ q, w6.drew = q := ⟨_, rfl⟩
          rw [hwd] at hS' HWd ⊢
          clear hwd
          refine tail_take2 0 rfl (by kernel_rfl) (by kernel_rfl) (by kernel_rfl) (by decide) (fun _ _ _ h => h) (by rfl) (v := ?_) ?_ (by assumption) ?_
          rotate_left 1
          · intro w' hS'; obtain ⟨⟨d0, d1, d2, d3, d4, d5, d6, d7⟩, cL⟩ := hS'; go_simp; try with_reducible rfl
          try simp only [Act.put, List.setIfInBounds_toArray, List.set_cons_zero, List.set_cons_succ]
          refine tail_take2 1 rfl (by kernel_rfl) (by kernel_rfl) (by kernel_rfl) (by decide) (fun _ _ _ h => h) (by rfl) (v := ?_) ?_ (by assumption) ?_
          rotate_left 1
          · intro w' hS'; obtain ⟨⟨d0, d1, d2, d3, d4, d5, d6, d7⟩, cL⟩ := hS'; go_simp; try with_reducible rfl
          try simp only [Act.put, List.setIfInBounds_toArray, List.set_cons_zero, List.set_cons_succ]
          refine tail_take2 2 rfl (by kernel_rfl) (by kernel_rfl) (by kernel_rfl) (by decide) (fun _ _ _ h => h) (by rfl) (v := ?_) ?_ (by assumption) ?_
          rotate_left 1
          · intro w' hS'; obtain ⟨⟨d0, d1, d2, d3, d4, d5, d6, d7⟩, cL⟩ := hS'; go_simp; try with_reducible rfl
          try simp only [Act.put, List.setIfInBounds_toArray, List.set_cons_zero, List.set_cons_succ]
          refine tail_take2 3 rfl (by kernel_rfl) (by kernel_rfl) (by kernel_rfl) (by decide) (fun _ _ _ h => h) (by rfl) (v := ?_) ?_ (by assumption) ?_
          rotate_left 1
          · intro w' hS'; obtain ⟨⟨d0, d1, d2, d3, d4, d5, d6, d7⟩, cL⟩ := hS'; go_simp; try with_reducible rfl
          try simp only [Act.put, List.setIfInBounds_toArray, List.set_cons_zero, List.set_cons_succ]
          refine tail_take2 4 rfl (by kernel_rfl) (by kernel_rfl) (by kernel_rfl) (by decide) (fun _ _ _ h => h) (by rfl) (v := ?_) ?_ (by assumption) ?_
          rotate_left 1
          · intro w' hS'; obtain ⟨⟨d0, d1, d2, d3, d4, d5, d6, d7⟩, cL⟩ := hS'; go_simp; try with_reducible rfl
          try simp only [Act.put, List.setIfInBounds_toArray, List.set_cons_zero, List.set_cons_succ]
          refine tail_take2 5 rfl (by kernel_rfl) (by kernel_rfl) (by kernel_rfl) (by decide) (fun _ _ _ h => h) (by rfl) (v := ?_) ?_ (by assumption) ?_
          rotate_left 1
          · intro w' hS'; obtain ⟨⟨d0, d1, d2, d3, d4, d5, d6, d7⟩, cL⟩ := hS'; go_simp; try with_reducible rfl
          try simp only [Act.put, List.setIfInBounds_toArray, List.set_cons_zero, List.set_cons_succ]
          refine tail_take2 6 rfl (by kernel_rfl) (by kernel_rfl) (by kernel_rfl) (by decide) (fun _ _ _ h => h) (by rfl) (v := ?_) ?_ (by assumption) ?_
          rotate_left 1
          · intro w' hS'; obtain ⟨⟨d0, d1, d2, d3, d4, d5, d6, d7⟩, cL⟩ := hS'; go_simp; try with_reducible rfl
          try simp only [Act.put, List.setIfInBounds_toArray, List.set_cons_zero, List.set_cons_succ]
          refine tail_two 7 11 rfl rfl (by kernel_rfl) rfl rfl (fun K' hK => ?_) (fun K' hK => ?_)
          · go_simp
            go_at_call 10; refine (HLO.out _ _ _ _ _ _ _ ((HI6.out.below HWd.out).more HWd.out.size) ((HJ6.out.below HWd.out).more HWd.out.size)).mono ?_; rintro e w7 ⟨rfl, hb⟩
            have HW7 := hide (HWd.out.trans (hb.mono HWd.out.size))
            clear hb
            refine hK.out _ _ (by (try dsimp only); exact ⟨(row8 (heap_nextG HF6.out HW7.out)).1, (HW7.out.cell (p := ⟨b, off + j, none⟩) HBL.out).trans HC.out⟩) (fun hS' => ?_)
            clear hK K'
            try simp only [Act.put, List.setIfInBounds_toArray, List.set_cons_zero, List.set_cons_succ]
            refine tail_take2 8 rfl (by kernel_rfl) (by kernel_rfl) (by kernel_rfl) (by decide) (fun _ _ _ h => h) (by rfl) (v := ?_) ?_ (by assumption) ?_
            rotate_left 1
            · intro w' hS'; obtain ⟨⟨d0, d1, d2, d3, d4, d5, d6, d7⟩, cL⟩ := hS'; go_simp; try with_reducible rfl
            try simp only [Act.put, List.setIfInBounds_toArray, List.set_cons_zero, List.set_cons_succ]
            refine tail_take2 9 rfl (by kernel_rfl) (by kernel_rfl) (by kernel_rfl) (by decide) (fun _ _ _ h => h) (by rfl) (v := ?_) ?_ (by assumption) ?_
            rotate_left 1
            · intro w' hS'; obtain ⟨⟨d0, d1, d2, d3, d4, d5, d6, d7⟩, cL⟩ := hS'; go_simp; try with_reducible rfl
            try simp only [Act.put, List.setIfInBounds_toArray, List.set_cons_zero, List.set_cons_succ]
            refine tail_take2 10 rfl (by kernel_rfl) (by kernel_rfl) (by kernel_rfl) (by decide) (fun _ _ _ h => h) (by rfl) (v := ?_) ?_ (by assumption) ?_
            rotate_left 1
            · intro w' hS'; obtain ⟨⟨d0, d1, d2, d3, d4, d5, d6, d7⟩, cL⟩ := hS'; go_simp; try with_reducible rfl
            try simp only [Act.put, List.setIfInBounds_toArray, List.set_cons_zero, List.set_cons_succ]
            refine tail_call 11 rfl (by kernel_rfl) rfl (fun K' hK => ?_)
            go_simp
            have hbz : Below w7.heap.size w7 (w7.alloc (.cells #[.int .i64 0, .int .i64 0, .int .i64 0, .int .i64 0, .int .i64 0, .int .i64 0] 35)) := (Below.refl _ _).alloc (Nat.le_refl _) _
            have HW8 := hide (HW7.out.trans (hbz.mono HW7.out.size))
            have HZ := hide (heap_alloc_new w7 (.cells #[.int .i64 0, .int .i64 0, .int .i64 0, .int .i64 0, .int .i64 0, .int .i64 0] 35))
            have HN := hide (show w6.heap.size ≤ w7.heap.size from HW7.out.size)
            refine hK.out _ _ (by (try dsimp only); exact ⟨(row8 (heap_nextG HF6.out HW8.out)).1, (HW8.out.cell (p := ⟨b, off + j, none⟩) HBL.out).trans HC.out⟩) (fun hS' => ?_)
            clear hK K'
            try simp only [Act.put, List.setIfInBounds_toArray, List.set_cons_zero, List.set_cons_succ]
            obtain ⟨w8, hwz⟩ : ∃ q, w7.alloc (.cells #[.int .i64 0, .int .i64 0, .int .i64 0, .int .i64 0, .int .i64 0, .int .i64 0] 35) = q := ⟨_, rfl⟩
            rw [hwz] at hS' HW8 HZ ⊢
            clear hwz hbz
            obtain ⟨N, hN⟩ : ∃ N, w7.heap.size = N := ⟨_, rfl⟩
            rw [hN] at HZ HN ⊢
            clear hN
            obtain ⟨y0, y1, y2, y3, y4, y5, g0, g1, g2, g3, g4, g5⟩ := row6F HZ.out
            have HZ9 := hide (row_set6F HZ.out (.int .i64 v0) (.int .i64 v1) (.int .i64 v2) (.int .i64 v3) (.int .i64 v4) (.int .i64 v5))
            have HW9 := hide (below_set6 HW8.out HN.out (.int .i64 v0) (.int .i64 v1) (.int .i64 v2) (.int .i64 v3) (.int .i64 v4) (.int .i64 v5))
            obtain ⟨w9, hw9⟩ : ∃ w9, set6F w8 N (.int .i64 v0) (.int .i64 v1) (.int .i64 v2) (.int .i64 v3) (.int .i64 v4) (.int .i64 v5) = w9 := ⟨_, rfl⟩
            rw [hw9] at HZ9 HW9
            unfold set6F at hw9
            refine tail_call 12 rfl (by kernel_rfl) rfl (fun K' hK => ?_)
            go_simp
            try rw [hw9]
            clear hw9 y0 y1 y2 y3 y4 y5 g0 g1 g2 g3 g4 g5
            refine hK.out _ _ (by (try dsimp only); exact ⟨(row8 (heap_nextG HF6.out HW9.out)).1, (HW9.out.cell (p := ⟨b, off + j, none⟩) HBL.out).trans HC.out⟩) (fun hS' => ?_)
            clear hK K'
            try simp only [Act.put, List.setIfInBounds_toArray, List.set_cons_zero, List.set_cons_succ]
            refine tail_take2 13 rfl (by kernel_rfl) (by kernel_rfl) (by kernel_rfl) (by decide) (fun _ _ _ h => h) (by rfl) (v := ?_) ?_ (by assumption) ?_
            rotate_left 1
            · intro w' hS'; obtain ⟨⟨d0, d1, d2, d3, d4, d5, d6, d7⟩, cL⟩ := hS'; go_simp; try with_reducible rfl
            try simp only [Act.put, List.setIfInBounds_toArray, List.set_cons_zero, List.set_cons_succ]
            refine tail_end (by kernel_rfl) ?_
            clear hS'
            have HWe := hide (HW9.out.trans ((Below.refl w9.heap.size w9).drew.mono HW9.out.size))
            have HZe := hide (heap_nextG HZ9.out (Below.refl w9.heap.size w9).drew)
            rcases hcd : (cd == 0) with _ | _
            · have hxz : (x == z) = false := by have h := HK.out; rw [hcd] at h; exact h.symm
              go_wp2_with fail
              refine tail_begin (fun w' => (w'.cell? ⟨BF, 0, none⟩ = some (.string s) ∧ w'.cell? ⟨BF, 1, none⟩ = some (.int .i64 κ) ∧ w'.cell? ⟨BF, 2, none⟩ = some (.int .i64 p) ∧ w'.cell? ⟨BF, 3, none⟩ = some (.int .i64 k) ∧ w'.cell? ⟨BF, 4, none⟩ = some (.int .i64 γ) ∧ w'.cell? ⟨BF, 5, none⟩ = some (.slice (some ⟨b, off, none⟩) zs.length lc) ∧ w'.cell? ⟨BF, 6, none⟩ = some (.int .i64 C) ∧ w'.cell? ⟨BF, 7, none⟩ = some (.slice P' ls.length lc')) ∧ w'.cell? ⟨b, off + j, none⟩ = some (.int .i64 x) ∧ w'.cell? ⟨N, 0, none⟩ = some (.int .i64 v0) ∧ w'.cell? ⟨N, 1, none⟩ = some (.int .i64 v1) ∧ w'.cell? ⟨N, 2, none⟩ = some (.int .i64 v2) ∧ w'.cell? ⟨N, 3, none⟩ = some (.int .i64 v3) ∧ w'.cell? ⟨N, 4, none⟩ = some (.int .i64 v4) ∧ w'.cell? ⟨N, 5, none⟩ = some (.int .i64 v5)) 16 (by kernel_rfl) ⟨(row8 (heap_nextG HF6.out HWe.out)).1, (HWe.out.cell (p := ⟨b, off + j, none⟩) HBL.out).trans HC.out, row6S HZe.out⟩ (fun hS' => ?_)
              obtain ⟨wx, hwx⟩ : ∃ q, w9.drew = q := ⟨_, rfl⟩
              rw [hwx] at hS' HWe ⊢
              clear hwx
              refine tail_take2 0 rfl (by kernel_rfl) (by kernel_rfl) (by kernel_rfl) (by decide) (fun _ _ _ h => h) (by rfl) (v := ?_) ?_ (by assumption) ?_
              rotate_left 1
              · intro w' hS'; obtain ⟨⟨d0, d1, d2, d3, d4, d5, d6, d7⟩, cL, y0, y1, y2, y3, y4, y5⟩ := hS'; go_simp; try with_reducible rfl
              try simp only [Act.put, List.setIfInBounds_toArray, List.set_cons_zero, List.set_cons_succ]
              refine tail_take2 1 rfl (by kernel_rfl) (by kernel_rfl) (by kernel_rfl) (by decide) (fun _ _ _ h => h) (by rfl) (v := ?_) ?_ (by assumption) ?_
              rotate_left 1
              · intro w' hS'; obtain ⟨⟨d0, d1, d2, d3, d4, d5, d6, d7⟩, cL, y0, y1, y2, y3, y4, y5⟩ := hS'; go_simp; try with_reducible rfl
              try simp only [Act.put, List.setIfInBounds_toArray, List.set_cons_zero, List.set_cons_succ]
              refine tail_take2 2 rfl (by kernel_rfl) (by kernel_rfl) (by kernel_rfl) (by decide) (fun _ _ _ h => h) (by rfl) (v := ?_) ?_ (by assumption) ?_
              rotate_left 1
              · intro w' hS'; obtain ⟨⟨d0, d1, d2, d3, d4, d5, d6, d7⟩, cL, y0, y1, y2, y3, y4, y5⟩ := hS'; go_simp; try with_reducible rfl
              try simp only [Act.put, List.setIfInBounds_toArray, List.set_cons_zero, List.set_cons_succ]
              refine tail_skip 3 rfl (by kernel_rfl) (by kernel_rfl) (by kernel_rfl) (by decide) (fun _ _ _ h => h) (by rfl) (by assumption) ?_
              try simp only [Act.put, List.setIfInBounds_toArray, List.set_cons_zero, List.set_cons_succ]
              refine tail_skip 4 rfl (by kernel_rfl) (by kernel_rfl) (by kernel_rfl) (by decide) (fun _ _ _ h => h) (by rfl) (by assumption) ?_
              try simp only [Act.put, List.setIfInBounds_toArray, List.set_cons_zero, List.set_cons_succ]
              refine tail_skip 5 rfl (by kernel_rfl) (by kernel_rfl) (by kernel_rfl) (by decide) (fun _ _ _ h => h) (by rfl) (by assumption) ?_
              try simp only [Act.put, List.setIfInBounds_toArray, List.set_cons_zero, List.set_cons_succ]
              refine tail_skip 6 rfl (by kernel_rfl) (by kernel_rfl) (by kernel_rfl) (by decide) (fun _ _ _ h => h) (by rfl) (by assumption) ?_
              try simp only [Act.put, List.setIfInBounds_toArray, List.set_cons_zero, List.set_cons_succ]
              refine tail_take2 7 rfl (by kernel_rfl) (by kernel_rfl) (by kernel_rfl) (by decide) (fun _ _ _ h => h) (by rfl) (v := ?_) ?_ (by assumption) ?_
              rotate_left 1
              · intro w' hS'; obtain ⟨⟨d0, d1, d2, d3, d4, d5, d6, d7⟩, cL, y0, y1, y2, y3, y4, y5⟩ := hS'; go_simp; try with_reducible rfl
              try simp only [Act.put, List.setIfInBounds_toArray, List.set_cons_zero, List.set_cons_succ]
              refine tail_take2 8 rfl (by kernel_rfl) (by kernel_rfl) (by kernel_rfl) (by decide) (fun _ _ _ h => h) (by rfl) (v := ?_) ?_ (by assumption) ?_
              rotate_left 1
              · intro w' hS'; obtain ⟨⟨d0, d1, d2, d3, d4, d5, d6, d7⟩, cL, y0, y1, y2, y3, y4, y5⟩ := hS'; go_simp; try with_reducible rfl
              try simp only [Act.put, List.setIfInBounds_toArray, List.set_cons_zero, List.set_cons_succ]
              refine tail_take2 9 rfl (by kernel_rfl) (by kernel_rfl) (by kernel_rfl) (by decide) (fun _ _ _ h => h) (by rfl) (v := ?_) ?_ (by assumption) ?_
              rotate_left 1
              · intro w' hS'; obtain ⟨⟨d0, d1, d2, d3, d4, d5, d6, d7⟩, cL, y0, y1, y2, y3, y4, y5⟩ := hS'; go_simp; try with_reducible rfl
              try simp only [Act.put, List.setIfInBounds_toArray, List.set_cons_zero, List.set_cons_succ]
              refine tail_take2 10 rfl (by kernel_rfl) (by kernel_rfl) (by kernel_rfl) (by decide) (fun _ _ _ h => h) (by rfl) (v := ?_) ?_ (by assumption) ?_
              rotate_left 1
              · intro w' hS'; obtain ⟨⟨d0, d1, d2, d3, d4, d5, d6, d7⟩, cL, y0, y1, y2, y3, y4, y5⟩ := hS'; go_simp; try with_reducible rfl
              try simp only [Act.put, List.setIfInBounds_toArray, List.set_cons_zero, List.set_cons_succ]
              refine tail_take2 11 rfl (by kernel_rfl) (by kernel_rfl) (by kernel_rfl) (by decide) (fun _ _ _ h => h) (by rfl) (v := ?_) ?_ (by assumption) ?_
              rotate_left 1
              · intro w' hS'; obtain ⟨⟨d0, d1, d2, d3, d4, d5, d6, d7⟩, cL, y0, y1, y2, y3, y4, y5⟩ := hS'; go_simp; try with_reducible rfl
              try simp only [Act.put, List.setIfInBounds_toArray, List.set_cons_zero, List.set_cons_succ]
              refine tail_take2 12 rfl (by kernel_rfl) (by kernel_rfl) (by kernel_rfl) (by decide) (fun _ _ _ h => h) (by rfl) (v := ?_) ?_ (by assumption) ?_
              rotate_left 1
              · intro w' hS'; obtain ⟨⟨d0, d1, d2, d3, d4, d5, d6, d7⟩, cL, y0, y1, y2, y3, y4, y5⟩ := hS'; go_simp; try with_reducible rfl
              try simp only [Act.put, List.setIfInBounds_toArray, List.set_cons_zero, List.set_cons_succ]
              refine tail_take2 13 rfl (by kernel_rfl) (by kernel_rfl) (by kernel_rfl) (by decide) (fun _ _ _ h => h) (by rfl) (v := ?_) ?_ (by assumption) ?_
              rotate_left 1
              · intro w' hS'; obtain ⟨⟨d0, d1, d2, d3, d4, d5, d6, d7⟩, cL, y0, y1, y2, y3, y4, y5⟩ := hS'; go_simp; try with_reducible rfl
              try simp only [Act.put, List.setIfInBounds_toArray, List.set_cons_zero, List.set_cons_succ]
              refine tail_take2 14 rfl (by kernel_rfl) (by kernel_rfl) (by kernel_rfl) (by decide) (fun _ _ _ h => h) (by rfl) (v := ?_) ?_ (by assumption) ?_
              rotate_left 1
              · intro w' hS'; obtain ⟨⟨d0, d1, d2, d3, d4, d5, d6, d7⟩, cL, y0, y1, y2, y3, y4, y5⟩ := hS'; go_simp; try with_reducible rfl
              try simp only [Act.put, List.setIfInBounds_toArray, List.set_cons_zero, List.set_cons_succ]
              refine tail_take2 15 rfl (by kernel_rfl) (by kernel_rfl) (by kernel_rfl) (by decide) (fun _ _ _ h => h) (by rfl) (v := ?_) ?_ (by assumption) ?_
              rotate_left 1
              · intro w' hS'; obtain ⟨⟨d0, d1, d2, d3, d4, d5, d6, d7⟩, cL, y0, y1, y2, y3, y4, y5⟩ := hS'; go_simp; try with_reducible rfl
              try simp only [Act.put, List.setIfInBounds_toArray, List.set_cons_zero, List.set_cons_succ]
              refine tail_end (by kernel_rfl) ?_
              have hzl := HZ8.out
              go_wp2_with fail
              go_roundw
              case rel => exact ⟨j + 1, by omega, by go_num, heap_nextG HF6.out HWe.out, HB6.out.trans (HWe.out.mono HB6.out.size), (HI6.out.below HWe.out).more HWe.out.size, (HJ6.out.below HWe.out).more HWe.out.size⟩
              case measure => simp [intOf]; omega
            · rcases hnd : decide ((nd : Int) ≤ v3) with _ | _
              · have hxz : (x == z) = false := by have h := HK.out; rw [hcd, hnd] at h; exact h.symm
                go_wp2_with fail
                refine tail_begin (fun w' => (w'.cell? ⟨BF, 0, none⟩ = some (.string s) ∧ w'.cell? ⟨BF, 1, none⟩ = some (.int .i64 κ) ∧ w'.cell? ⟨BF, 2, none⟩ = some (.int .i64 p) ∧ w'.cell? ⟨BF, 3, none⟩ = some (.int .i64 k) ∧ w'.cell? ⟨BF, 4, none⟩ = some (.int .i64 γ) ∧ w'.cell? ⟨BF, 5, none⟩ = some (.slice (some ⟨b, off, none⟩) zs.length lc) ∧ w'.cell? ⟨BF, 6, none⟩ = some (.int .i64 C) ∧ w'.cell? ⟨BF, 7, none⟩ = some (.slice P' ls.length lc')) ∧ w'.cell? ⟨b, off + j, none⟩ = some (.int .i64 x) ∧ w'.cell? ⟨N, 0, none⟩ = some (.int .i64 v0) ∧ w'.cell? ⟨N, 1, none⟩ = some (.int .i64 v1) ∧ w'.cell? ⟨N, 2, none⟩ = some (.int .i64 v2) ∧ w'.cell? ⟨N, 3, none⟩ = some (.int .i64 v3) ∧ w'.cell? ⟨N, 4, none⟩ = some (.int .i64 v4) ∧ w'.cell? ⟨N, 5, none⟩ = some (.int .i64 v5)) 16 (by kernel_rfl) ⟨(row8 (heap_nextG HF6.out HWe.out)).1, (HWe.out.cell (p := ⟨b, off + j, none⟩) HBL.out).trans HC.out, row6S HZe.out⟩ (fun hS' => ?_)
                obtain ⟨wx, hwx⟩ : ∃ q, w9.drew = q := ⟨_, rfl⟩
                rw [hwx] at hS' HWe ⊢
                clear hwx
                refine tail_take2 0 rfl (by kernel_rfl) (by kernel_rfl) (by kernel_rfl) (by decide) (fun _ _ _ h => h) (by rfl) (v := ?_) ?_ (by assumption) ?_
                rotate_left 1
                · intro w' hS'; obtain ⟨⟨d0, d1, d2, d3, d4, d5, d6, d7⟩, cL, y0, y1, y2, y3, y4, y5⟩ := hS'; go_simp; try with_reducible rfl
                try simp only [Act.put, List.setIfInBounds_toArray, List.set_cons_zero, List.set_cons_succ]
                refine tail_take2 1 rfl (by kernel_rfl) (by kernel_rfl) (by kernel_rfl) (by decide) (fun _ _ _ h => h) (by rfl) (v := ?_) ?_ (by assumption) ?_
                rotate_left 1
                · intro w' hS'; obtain ⟨⟨d0, d1, d2, d3, d4, d5, d6, d7⟩, cL, y0, y1, y2, y3, y4, y5⟩ := hS'; go_simp; try with_reducible rfl
                try simp only [Act.put, List.setIfInBounds_toArray, List.set_cons_zero, List.set_cons_succ]
                refine tail_take2 2 rfl (by kernel_rfl) (by kernel_rfl) (by kernel_rfl) (by decide) (fun _ _ _ h => h) (by rfl) (v := ?_) ?_ (by assumption) ?_
                rotate_left 1
                · intro w' hS'; obtain ⟨⟨d0, d1, d2, d3, d4, d5, d6, d7⟩, cL, y0, y1, y2, y3, y4, y5⟩ := hS'; go_simp; try with_reducible rfl
                try simp only [Act.put, List.setIfInBounds_toArray, List.set_cons_zero, List.set_cons_succ]
                refine tail_take2 3 rfl (by kernel_rfl) (by kernel_rfl) (by kernel_rfl) (by decide) (fun _ _ _ h => h) (by rfl) (v := ?_) ?_ (by assumption) ?_
                rotate_left 1
                · intro w' hS'; obtain ⟨⟨d0, d1, d2, d3, d4, d5, d6, d7⟩, cL, y0, y1, y2, y3, y4, y5⟩ := hS'; go_simp; try with_reducible rfl
                try simp only [Act.put, List.setIfInBounds_toArray, List.set_cons_zero, List.set_cons_succ]
                refine tail_take2 4 rfl (by kernel_rfl) (by kernel_rfl) (by kernel_rfl) (by decide) (fun _ _ _ h => h) (by rfl) (v := ?_) ?_ (by assumption) ?_
                rotate_left 1
                · intro w' hS'; obtain ⟨⟨d0, d1, d2, d3, d4, d5, d6, d7⟩, cL, y0, y1, y2, y3, y4, y5⟩ := hS'; go_simp; try with_reducible rfl
                try simp only [Act.put, List.setIfInBounds_toArray, List.set_cons_zero, List.set_cons_succ]
                refine tail_take2 5 rfl (by kernel_rfl) (by kernel_rfl) (by kernel_rfl) (by decide) (fun _ _ _ h => h) (by rfl) (v := ?_) ?_ (by assumption) ?_
                rotate_left 1
                · intro w' hS'; obtain ⟨⟨d0, d1, d2, d3, d4, d5, d6, d7⟩, cL, y0, y1, y2, y3, y4, y5⟩ := hS'; go_simp; try with_reducible rfl
                try simp only [Act.put, List.setIfInBounds_toArray, List.set_cons_zero, List.set_cons_succ]
                refine tail_take2 6 rfl (by kernel_rfl) (by kernel_rfl) (by kernel_rfl) (by decide) (fun _ _ _ h => h) (by rfl) (v := ?_) ?_ (by assumption) ?_
                rotate_left 1
                · intro w' hS'; obtain ⟨⟨d0, d1, d2, d3, d4, d5, d6, d7⟩, cL, y0, y1, y2, y3, y4, y5⟩ := hS'; go_simp; try with_reducible rfl
                try simp only [Act.put, List.setIfInBounds_toArray, List.set_cons_zero, List.set_cons_succ]
                refine tail_take2 7 rfl (by kernel_rfl) (by kernel_rfl) (by kernel_rfl) (by decide) (fun _ _ _ h => h) (by rfl) (v := ?_) ?_ (by assumption) ?_
                rotate_left 1
                · intro w' hS'; obtain ⟨⟨d0, d1, d2, d3, d4, d5, d6, d7⟩, cL, y0, y1, y2, y3, y4, y5⟩ := hS'; go_simp; try with_reducible rfl
                try simp only [Act.put, List.setIfInBounds_toArray, List.set_cons_zero, List.set_cons_succ]
                refine tail_take2 8 rfl (by kernel_rfl) (by kernel_rfl) (by kernel_rfl) (by decide) (fun _ _ _ h => h) (by rfl) (v := ?_) ?_ (by assumption) ?_
                rotate_left 1
                · intro w' hS'; obtain ⟨⟨d0, d1, d2, d3, d4, d5, d6, d7⟩, cL, y0, y1, y2, y3, y4, y5⟩ := hS'; go_simp; try with_reducible rfl
                try simp only [Act.put, List.setIfInBounds_toArray, List.set_cons_zero, List.set_cons_succ]
                refine tail_take2 9 rfl (by kernel_rfl) (by kernel_rfl) (by kernel_rfl) (by decide) (fun _ _ _ h => h) (by rfl) (v := ?_) ?_ (by assumption) ?_
                rotate_left 1
                · intro w' hS'; obtain ⟨⟨d0, d1, d2, d3, d4, d5, d6, d7⟩, cL, y0, y1, y2, y3, y4, y5⟩ := hS'; go_simp; try with_reducible rfl
                try simp only [Act.put, List.setIfInBounds_toArray, List.set_cons_zero, List.set_cons_succ]
                refine tail_take2 10 rfl (by kernel_rfl) (by kernel_rfl) (by kernel_rfl) (by decide) (fun _ _ _ h => h) (by rfl) (v := ?_) ?_ (by assumption) ?_
                rotate_left 1
                · intro w' hS'; obtain ⟨⟨d0, d1, d2, d3, d4, d5, d6, d7⟩, cL, y0, y1, y2, y3, y4, y5⟩ := hS'; go_simp; try with_reducible rfl
                try simp only [Act.put, List.setIfInBounds_toArray, List.set_cons_zero, List.set_cons_succ]
                refine tail_take2 11 rfl (by kernel_rfl) (by kernel_rfl) (by kernel_rfl) (by decide) (fun _ _ _ h => h) (by rfl) (v := ?_) ?_ (by assumption) ?_
                rotate_left 1
                · intro w' hS'; obtain ⟨⟨d0, d1, d2, d3, d4, d5, d6, d7⟩, cL, y0, y1, y2, y3, y4, y5⟩ := hS'; go_simp; try with_reducible rfl
                try simp only [Act.put, List.setIfInBounds_toArray, List.set_cons_zero, List.set_cons_succ]
                refine tail_take2 12 rfl (by kernel_rfl) (by kernel_rfl) (by kernel_rfl) (by decide) (fun _ _ _ h => h) (by rfl) (v := ?_) ?_ (by assumption) ?_
                rotate_left 1
                · intro w' hS'; obtain ⟨⟨d0, d1, d2, d3, d4, d5, d6, d7⟩, cL, y0, y1, y2, y3, y4, y5⟩ := hS'; go_simp; try with_reducible rfl
                try simp only [Act.put, List.setIfInBounds_toArray, List.set_cons_zero, List.set_cons_succ]
                refine tail_take2 13 rfl (by kernel_rfl) (by kernel_rfl) (by kernel_rfl) (by decide) (fun _ _ _ h => h) (by rfl) (v := ?_) ?_ (by assumption) ?_
                rotate_left 1
                · intro w' hS'; obtain ⟨⟨d0, d1, d2, d3, d4, d5, d6, d7⟩, cL, y0, y1, y2, y3, y4, y5⟩ := hS'; go_simp; try with_reducible rfl
                try simp only [Act.put, List.setIfInBounds_toArray, List.set_cons_zero, List.set_cons_succ]
                refine tail_take2 14 rfl (by kernel_rfl) (by kernel_rfl) (by kernel_rfl) (by decide) (fun _ _ _ h => h) (by rfl) (v := ?_) ?_ (by assumption) ?_
                rotate_left 1
                · intro w' hS'; obtain ⟨⟨d0, d1, d2, d3, d4, d5, d6, d7⟩, cL, y0, y1, y2, y3, y4, y5⟩ := hS'; go_simp; try with_reducible rfl
                try simp only [Act.put, List.setIfInBounds_toArray, List.set_cons_zero, List.set_cons_succ]
                refine tail_take2 15 rfl (by kernel_rfl) (by kernel_rfl) (by kernel_rfl) (by decide) (fun _ _ _ h => h) (by rfl) (v := ?_) ?_ (by assumption) ?_
                rotate_left 1
                · intro w' hS'; obtain ⟨⟨d0, d1, d2, d3, d4, d5, d6, d7⟩, cL, y0, y1, y2, y3, y4, y5⟩ := hS'; go_simp; try with_reducible rfl
                try simp only [Act.put, List.setIfInBounds_toArray, List.set_cons_zero, List.set_cons_succ]
                refine tail_end (by kernel_rfl) ?_
                have hzl := HZ8.out
                go_wp2_with fail
                go_roundw
                case rel => exact ⟨j + 1, by omega, by go_num, heap_nextG HF6.out HWe.out, HB6.out.trans (HWe.out.mono HB6.out.size), (HI6.out.below HWe.out).more HWe.out.size, (HJ6.out.below HWe.out).more HWe.out.size⟩
                case measure => simp [intOf]; omega
              · have hxz : (x == z) = true := by have h := HK.out; rw [hcd, hnd] at h; exact h.symm
                go_wp2_with fail
                refine tail_begin (fun w' => (w'.cell? ⟨BF, 0, none⟩ = some (.string s) ∧ w'.cell? ⟨BF, 1, none⟩ = some (.int .i64 κ) ∧ w'.cell? ⟨BF, 2, none⟩ = some (.int .i64 p) ∧ w'.cell? ⟨BF, 3, none⟩ = some (.int .i64 k) ∧ w'.cell? ⟨BF, 4, none⟩ = some (.int .i64 γ) ∧ w'.cell? ⟨BF, 5, none⟩ = some (.slice (some ⟨b, off, none⟩) zs.length lc) ∧ w'.cell? ⟨BF, 6, none⟩ = some (.int .i64 C) ∧ w'.cell? ⟨BF, 7, none⟩ = some (.slice P' ls.length lc')) ∧ w'.cell? ⟨b, off + j, none⟩ = some (.int .i64 x) ∧ w'.cell? ⟨N, 0, none⟩ = some (.int .i64 v0) ∧ w'.cell? ⟨N, 1, none⟩ = some (.int .i64 v1) ∧ w'.cell? ⟨N, 2, none⟩ = some (.int .i64 v2) ∧ w'.cell? ⟨N, 3, none⟩ = some (.int .i64 v3) ∧ w'.cell? ⟨N, 4, none⟩ = some (.int .i64 v4) ∧ w'.cell? ⟨N, 5, none⟩ = some (.int .i64 v5)) 16 (by kernel_rfl) ⟨(row8 (heap_nextG HF6.out HWe.out)).1, (HWe.out.cell (p := ⟨b, off + j, none⟩) HBL.out).trans HC.out, row6S HZe.out⟩ (fun hS' => ?_)
                obtain ⟨wx, hwx⟩ : ∃ q, w9.drew = q := ⟨_, rfl⟩
                rw [hwx] at hS' HWe ⊢
                clear hwx
                refine tail_take2 0 rfl (by kernel_rfl) (by kernel_rfl) (by kernel_rfl) (by decide) (fun _ _ _ h => h) (by rfl) (v := ?_) ?_ (by assumption) ?_
                rotate_left 1
                · intro w' hS'; obtain ⟨⟨d0, d1, d2, d3, d4, d5, d6, d7⟩, cL, y0, y1, y2, y3, y4, y5⟩ := hS'; go_simp; try with_reducible rfl
                try simp only [Act.put, List.setIfInBounds_toArray, List.set_cons_zero, List.set_cons_succ]
                refine tail_take2 1 rfl (by kernel_rfl) (by kernel_rfl) (by kernel_rfl) (by decide) (fun _ _ _ h => h) (by rfl) (v := ?_) ?_ (by assumption) ?_
                rotate_left 1
                · intro w' hS'; obtain ⟨⟨d0, d1, d2, d3, d4, d5, d6, d7⟩, cL, y0, y1, y2, y3, y4, y5⟩ := hS'; go_simp; try with_reducible rfl
                try simp only [Act.put, List.setIfInBounds_toArray, List.set_cons_zero, List.set_cons_succ]
                refine tail_take2 2 rfl (by kernel_rfl) (by kernel_rfl) (by kernel_rfl) (by decide) (fun _ _ _ h => h) (by rfl) (v := ?_) ?_ (by assumption) ?_
                rotate_left 1
                · intro w' hS'; obtain ⟨⟨d0, d1, d2, d3, d4, d5, d6, d7⟩, cL, y0, y1, y2, y3, y4, y5⟩ := hS'; go_simp; try with_reducible rfl
                try simp only [Act.put, List.setIfInBounds_toArray, List.set_cons_zero, List.set_cons_succ]
                refine tail_take2 3 rfl (by kernel_rfl) (by kernel_rfl) (by kernel_rfl) (by decide) (fun _ _ _ h => h) (by rfl) (v := ?_) ?_ (by assumption) ?_
                rotate_left 1
                · intro w' hS'; obtain ⟨⟨d0, d1, d2, d3, d4, d5, d6, d7⟩, cL, y0, y1, y2, y3, y4, y5⟩ := hS'; go_simp; try with_reducible rfl
                try simp only [Act.put, List.setIfInBounds_toArray, List.set_cons_zero, List.set_cons_succ]
                refine tail_take2 4 rfl (by kernel_rfl) (by kernel_rfl) (by kernel_rfl) (by decide) (fun _ _ _ h => h) (by rfl) (v := ?_) ?_ (by assumption) ?_
                rotate_left 1
                · intro w' hS'; obtain ⟨⟨d0, d1, d2, d3, d4, d5, d6, d7⟩, cL, y0, y1, y2, y3, y4, y5⟩ := hS'; go_simp; try with_reducible rfl
                try simp only [Act.put, List.setIfInBounds_toArray, List.set_cons_zero, List.set_cons_succ]
                refine tail_take2 5 rfl (by kernel_rfl) (by kernel_rfl) (by kernel_rfl) (by decide) (fun _ _ _ h => h) (by rfl) (v := ?_) ?_ (by assumption) ?_
                rotate_left 1
                · intro w' hS'; obtain ⟨⟨d0, d1, d2, d3, d4, d5, d6, d7⟩, cL, y0, y1, y2, y3, y4, y5⟩ := hS'; go_simp; try with_reducible rfl
                try simp only [Act.put, List.setIfInBounds_toArray, List.set_cons_zero, List.set_cons_succ]
                refine tail_take2 6 rfl (by kernel_rfl) (by kernel_rfl) (by kernel_rfl) (by decide) (fun _ _ _ h => h) (by rfl) (v := ?_) ?_ (by assumption) ?_
                rotate_left 1
                · intro w' hS'; obtain ⟨⟨d0, d1, d2, d3, d4, d5, d6, d7⟩, cL, y0, y1, y2, y3, y4, y5⟩ := hS'; go_simp; try with_reducible rfl
                try simp only [Act.put, List.setIfInBounds_toArray, List.set_cons_zero, List.set_cons_succ]
                refine tail_take2 7 rfl (by kernel_rfl) (by kernel_rfl) (by kernel_rfl) (by decide) (fun _ _ _ h => h) (by rfl) (v := ?_) ?_ (by assumption) ?_
                rotate_left 1
                · intro w' hS'; obtain ⟨⟨d0, d1, d2, d3, d4, d5, d6, d7⟩, cL, y0, y1, y2, y3, y4, y5⟩ := hS'; go_simp; try with_reducible rfl
                try simp only [Act.put, List.setIfInBounds_toArray, List.set_cons_zero, List.set_cons_succ]
                refine tail_take2 8 rfl (by kernel_rfl) (by kernel_rfl) (by kernel_rfl) (by decide) (fun _ _ _ h => h) (by rfl) (v := ?_) ?_ (by assumption) ?_
                rotate_left 1
                · intro w' hS'; obtain ⟨⟨d0, d1, d2, d3, d4, d5, d6, d7⟩, cL, y0, y1, y2, y3, y4, y5⟩ := hS'; go_simp; try with_reducible rfl
                try simp only [Act.put, List.setIfInBounds_toArray, List.set_cons_zero, List.set_cons_succ]
                refine tail_take2 9 rfl (by kernel_rfl) (by kernel_rfl) (by kernel_rfl) (by decide) (fun _ _ _ h => h) (by rfl) (v := ?_) ?_ (by assumption) ?_
                rotate_left 1
                · intro w' hS'; obtain ⟨⟨d0, d1, d2, d3, d4, d5, d6, d7⟩, cL, y0, y1, y2, y3, y4, y5⟩ := hS'; go_simp; try with_reducible rfl
                try simp only [Act.put, List.setIfInBounds_toArray, List.set_cons_zero, List.set_cons_succ]
                refine tail_take2 10 rfl (by kernel_rfl) (by kernel_rfl) (by kernel_rfl) (by decide) (fun _ _ _ h => h) (by rfl) (v := ?_) ?_ (by assumption) ?_
                rotate_left 1
                · intro w' hS'; obtain ⟨⟨d0, d1, d2, d3, d4, d5, d6, d7⟩, cL, y0, y1, y2, y3, y4, y5⟩ := hS'; go_simp; try with_reducible rfl
                try simp only [Act.put, List.setIfInBounds_toArray, List.set_cons_zero, List.set_cons_succ]
                refine tail_take2 11 rfl (by kernel_rfl) (by kernel_rfl) (by kernel_rfl) (by decide) (fun _ _ _ h => h) (by rfl) (v := ?_) ?_ (by assumption) ?_
                rotate_left 1
                · intro w' hS'; obtain ⟨⟨d0, d1, d2, d3, d4, d5, d6, d7⟩, cL, y0, y1, y2, y3, y4, y5⟩ := hS'; go_simp; try with_reducible rfl
                try simp only [Act.put, List.setIfInBounds_toArray, List.set_cons_zero, List.set_cons_succ]
                refine tail_take2 12 rfl (by kernel_rfl) (by kernel_rfl) (by kernel_rfl) (by decide) (fun _ _ _ h => h) (by rfl) (v := ?_) ?_ (by assumption) ?_
                rotate_left 1
                · intro w' hS'; obtain ⟨⟨d0, d1, d2, d3, d4, d5, d6, d7⟩, cL, y0, y1, y2, y3, y4, y5⟩ := hS'; go_simp; try with_reducible rfl
                try simp only [Act.put, List.setIfInBounds_toArray, List.set_cons_zero, List.set_cons_succ]
                refine tail_take2 13 rfl (by kernel_rfl) (by kernel_rfl) (by kernel_rfl) (by decide) (fun _ _ _ h => h) (by rfl) (v := ?_) ?_ (by assumption) ?_
                rotate_left 1
                · intro w' hS'; obtain ⟨⟨d0, d1, d2, d3, d4, d5, d6, d7⟩, cL, y0, y1, y2, y3, y4, y5⟩ := hS'; go_simp; try with_reducible rfl
                try simp only [Act.put, List.setIfInBounds_toArray, List.set_cons_zero, List.set_cons_succ]
                refine tail_take2 14 rfl (by kernel_rfl) (by kernel_rfl) (by kernel_rfl) (by decide) (fun _ _ _ h => h) (by rfl) (v := ?_) ?_ (by assumption) ?_
                rotate_left 1
                · intro w' hS'; obtain ⟨⟨d0, d1, d2, d3, d4, d5, d6, d7⟩, cL, y0, y1, y2, y3, y4, y5⟩ := hS'; go_simp; try with_reducible rfl
                try simp only [Act.put, List.setIfInBounds_toArray, List.set_cons_zero, List.set_cons_succ]
                refine tail_take2 15 rfl (by kernel_rfl) (by kernel_rfl) (by kernel_rfl) (by decide) (fun _ _ _ h => h) (by rfl) (v := ?_) ?_ (by assumption) ?_
                rotate_left 1
                · intro w' hS'; obtain ⟨⟨d0, d1, d2, d3, d4, d5, d6, d7⟩, cL, y0, y1, y2, y3, y4, y5⟩ := hS'; go_simp; try with_reducible rfl
                try simp only [Act.put, List.setIfInBounds_toArray, List.set_cons_zero, List.set_cons_succ]
                refine tail_end (by kernel_rfl) ?_
                have hzl := HZ8.out
                go_wp2_with fail
                go_roundw
                case rel => exact ⟨j + 1, by omega, by go_num, heap_nextG HF6.out HWe.out, HB6.out.trans (HWe.out.mono HB6.out.size), (HI6.out.below HWe.out).more HWe.out.size, (HJ6.out.below HWe.out).more HWe.out.size⟩
                case measure => simp [intOf]; omega
          · go_simp
            have hbz : Below wd.heap.size wd (wd.alloc (.cells #[.int .i64 0, .int .i64 0, .int .i64 0, .int .i64 0, .int .i64 0, .int .i64 0] 35)) := (Below.refl _ _).alloc (Nat.le_refl _) _
            have HW7 := hide (HWd.out.trans (hbz.mono HWd.out.size))
            have HZ := hide (heap_alloc_new wd (.cells #[.int .i64 0, .int .i64 0, .int .i64 0, .int .i64 0, .int .i64 0, .int .i64 0] 35))
            have HN := hide (show w6.heap.size ≤ wd.heap.size from HWd.out.size)
            refine hK.out _ _ (by (try dsimp only); exact ⟨(row8 (heap_nextG HF6.out HW7.out)).1, (HW7.out.cell (p := ⟨b, off + j, none⟩) HBL.out).trans HC.out⟩) (fun hS' => ?_)
            clear hK K'
            try simp only [Act.put, List.setIfInBounds_toArray, List.set_cons_zero, List.set_cons_succ]
            obtain ⟨w7, hwz⟩ : ∃ q, wd.alloc (.cells #[.int .i64 0, .int .i64 0, .int .i64 0, .int .i64 0, .int .i64 0, .int .i64 0] 35) = q := ⟨_, rfl⟩
            rw [hwz] at hS' HW7 HZ ⊢
            clear hwz hbz
            obtain ⟨N, hN⟩ : ∃ N, wd.heap.size = N := ⟨_, rfl⟩
            rw [hN] at HZ HN ⊢
            clear hN
            refine tail_call 7 rfl (by kernel_rfl) rfl (fun K' hK => ?_)
            go_simp
            go_at_call 10; refine (HLO.out _ _ _ _ _ _ _ ((HI6.out.below HW7.out).more HW7.out.size) ((HJ6.out.below HW7.out).more HW7.out.size)).mono ?_; rintro e w8 ⟨rfl, hb⟩
            have HW8 := hide (HW7.out.trans (hb.mono HW7.out.size))
            have HZ' := hide (heap_nextG HZ.out hb)
            clear HZ hb
            have HZ := HZ'
            clear HZ'
            refine hK.out _ _ (by (try dsimp only); exact ⟨(row8 (heap_nextG HF6.out HW8.out)).1, (HW8.out.cell (p := ⟨b, off + j, none⟩) HBL.out).trans HC.out⟩) (fun hS' => ?_)
            clear hK K'
            try simp only [Act.put, List.setIfInBounds_toArray, List.set_cons_zero, List.set_cons_succ]
            refine tail_take2 8 rfl (by kernel_rfl) (by kernel_rfl) (by kernel_rfl) (by decide) (fun _ _ _ h => h) (by rfl) (v := ?_) ?_ (by assumption) ?_
            rotate_left 1
            · intro w' hS'; obtain ⟨⟨d0, d1, d2, d3, d4, d5, d6, d7⟩, cL⟩ := hS'; go_simp; try with_reducible rfl
            try simp only [Act.put, List.setIfInBounds_toArray, List.set_cons_zero, List.set_cons_succ]
            refine tail_take2 9 rfl (by kernel_rfl) (by kernel_rfl) (by kernel_rfl) (by decide) (fun _ _ _ h => h) (by rfl) (v := ?_) ?_ (by assumption) ?_
            rotate_left 1
            · intro w' hS'; obtain ⟨⟨d0, d1, d2, d3, d4, d5, d6, d7⟩, cL⟩ := hS'; go_simp; try with_reducible rfl
            try simp only [Act.put, List.setIfInBounds_toArray, List.set_cons_zero, List.set_cons_succ]
            refine tail_take2 10 rfl (by kernel_rfl) (by kernel_rfl) (by kernel_rfl) (by decide) (fun _ _ _ h => h) (by rfl) (v := ?_) ?_ (by assumption) ?_
            rotate_left 1
            · intro w' hS'; obtain ⟨⟨d0, d1, d2, d3, d4, d5, d6, d7⟩, cL⟩ := hS'; go_simp; try with_reducible rfl
            try simp only [Act.put, List.setIfInBounds_toArray, List.set_cons_zero, List.set_cons_succ]
            obtain ⟨y0, y1, y2, y3, y4, y5, g0, g1, g2, g3, g4, g5⟩ := row6F HZ.out
            have HZ9 := hide (row_set6F HZ.out (.int .i64 v0) (.int .i64 v1) (.int .i64 v2) (.int .i64 v3) (.int .i64 v4) (.int .i64 v5))
            have HW9 := hide (below_set6 HW8.out HN.out (.int .i64 v0) (.int .i64 v1) (.int .i64 v2) (.int .i64 v3) (.int .i64 v4) (.int .i64 v5))
            obtain ⟨w9, hw9⟩ : ∃ w9, set6F w8 N (.int .i64 v0) (.int .i64 v1) (.int .i64 v2) (.int .i64 v3) (.int .i64 v4) (.int .i64 v5) = w9 := ⟨_, rfl⟩
            rw [hw9] at HZ9 HW9
            unfold set6F at hw9
            refine tail_call 12 rfl (by kernel_rfl) rfl (fun K' hK => ?_)
            go_simp
            try rw [hw9]
            clear hw9 y0 y1 y2 y3 y4 y5 g0 g1 g2 g3 g4 g5
            refine hK.out _ _ (by (try dsimp only); exact ⟨(row8 (heap_nextG HF6.out HW9.out)).1, (HW9.out.cell (p := ⟨b, off + j, none⟩) HBL.out).trans HC.out⟩) (fun hS' => ?_)
            clear hK K'
            try simp only [Act.put, List.setIfInBounds_toArray, List.set_cons_zero, List.set_cons_succ]
            refine tail_take2 13 rfl (by kernel_rfl) (by kernel_rfl) (by kernel_rfl) (by decide) (fun _ _ _ h => h) (by rfl) (v := ?_) ?_ (by assumption) ?_
            rotate_left 1
            · intro w' hS'; obtain ⟨⟨d0, d1, d2, d3, d4, d5, d6, d7⟩, cL⟩ := hS'; go_simp; try with_reducible rfl
            try simp only [Act.put, List.setIfInBounds_toArray, List.set_cons_zero, List.set_cons_succ]
            refine tail_end (by kernel_rfl) ?_
            clear hS'
            have HWe := hide (HW9.out.trans ((Below.refl w9.heap.size w9).drew.mono HW9.out.size))
            have HZe := hide (heap_nextG HZ9.out (Below.refl w9.heap.size w9).drew)
            rcases hcd : (cd == 0) with _ | _
            · have hxz : (x == z) = false := by have h := HK.out; rw [hcd] at h; exact h.symm
              go_wp2_with fail
              refine tail_begin (fun w' => (w'.cell? ⟨BF, 0, none⟩ = some (.string s) ∧ w'.cell? ⟨BF, 1, none⟩ = some (.int .i64 κ) ∧ w'.cell? ⟨BF, 2, none⟩ = some (.int .i64 p) ∧ w'.cell? ⟨BF, 3, none⟩ = some (.int .i64 k) ∧ w'.cell? ⟨BF, 4, none⟩ = some (.int .i64 γ) ∧ w'.cell? ⟨BF, 5, none⟩ = some (.slice (some ⟨b, off, none⟩) zs.length lc) ∧ w'.cell? ⟨BF, 6, none⟩ = some (.int .i64 C) ∧ w'.cell? ⟨BF, 7, none⟩ = some (.slice P' ls.length lc')) ∧ w'.cell? ⟨b, off + j, none⟩ = some (.int .i64 x) ∧ w'.cell? ⟨N, 0, none⟩ = some (.int .i64 v0) ∧ w'.cell? ⟨N, 1, none⟩ = some (.int .i64 v1) ∧ w'.cell? ⟨N, 2, none⟩ = some (.int .i64 v2) ∧ w'.cell? ⟨N, 3, none⟩ = some (.int .i64 v3) ∧ w'.cell? ⟨N, 4, none⟩ = some (.int .i64 v4) ∧ w'.cell? ⟨N, 5, none⟩ = some (.int .i64 v5)) 16 (by kernel_rfl) ⟨(row8 (heap_nextG HF6.out HWe.out)).1, (HWe.out.cell (p := ⟨b, off + j, none⟩) HBL.out).trans HC.out, row6S HZe.out⟩ (fun hS' => ?_)
              obtain ⟨wx, hwx⟩ : ∃ q, w9.drew = q := ⟨_, rfl⟩
              rw [hwx] at hS' HWe ⊢
              clear hwx
              refine tail_take2 0 rfl (by kernel_rfl) (by kernel_rfl) (by kernel_rfl) (by decide) (fun _ _ _ h => h) (by rfl) (v := ?_) ?_ (by assumption) ?_
              rotate_left 1
              · intro w' hS'; obtain ⟨⟨d0, d1, d2, d3, d4, d5, d6, d7⟩, cL, y0, y1, y2, y3, y4, y5⟩ := hS'; go_simp; try with_reducible rfl
              try simp only [Act.put, List.setIfInBounds_toArray, List.set_cons_zero, List.set_cons_succ]
              refine tail_take2 1 rfl (by kernel_rfl) (by kernel_rfl) (by kernel_rfl) (by decide) (fun _ _ _ h => h) (by rfl) (v := ?_) ?_ (by assumption) ?_
              rotate_left 1
              · intro w' hS'; obtain ⟨⟨d0, d1, d2, d3, d4, d5, d6, d7⟩, cL, y0, y1, y2, y3, y4, y5⟩ := hS'; go_simp; try with_reducible rfl
              try simp only [Act.put, List.setIfInBounds_toArray, List.set_cons_zero, List.set_cons_succ]
              refine tail_take2 2 rfl (by kernel_rfl) (by kernel_rfl) (by kernel_rfl) (by decide) (fun _ _ _ h => h) (by rfl) (v := ?_) ?_ (by assumption) ?_
              rotate_left 1
              · intro w' hS'; obtain ⟨⟨d0, d1, d2, d3, d4, d5, d6, d7⟩, cL, y0, y1, y2, y3, y4, y5⟩ := hS'; go_simp; try with_reducible rfl
              try simp only [Act.put, List.setIfInBounds_toArray, List.set_cons_zero, List.set_cons_succ]
              refine tail_skip 3 rfl (by kernel_rfl) (by kernel_rfl) (by kernel_rfl) (by decide) (fun _ _ _ h => h) (by rfl) (by assumption) ?_
              try simp only [Act.put, List.setIfInBounds_toArray, List.set_cons_zero, List.set_cons_succ]
              refine tail_skip 4 rfl (by kernel_rfl) (by kernel_rfl) (by kernel_rfl) (by decide) (fun _ _ _ h => h) (by rfl) (by assumption) ?_
              try simp only [Act.put, List.setIfInBounds_toArray, List.set_cons_zero, List.set_cons_succ]
              refine tail_skip 5 rfl (by kernel_rfl) (by kernel_rfl) (by kernel_rfl) (by decide) (fun _ _ _ h => h) (by rfl) (by assumption) ?_
              try simp only [Act.put, List.setIfInBounds_toArray, List.set_cons_zero, List.set_cons_succ]
              refine tail_skip 6 rfl (by kernel_rfl) (by kernel_rfl) (by kernel_rfl) (by decide) (fun _ _ _ h => h) (by rfl) (by assumption) ?_
              try simp only [Act.put, List.setIfInBounds_toArray, List.set_cons_zero, List.set_cons_succ]
              refine tail_take2 7 rfl (by kernel_rfl) (by kernel_rfl) (by kernel_rfl) (by decide) (fun _ _ _ h => h) (by rfl) (v := ?_) ?_ (by assumption) ?_
              rotate_left 1
              · intro w' hS'; obtain ⟨⟨d0, d1, d2, d3, d4, d5, d6, d7⟩, cL, y0, y1, y2, y3, y4, y5⟩ := hS'; go_simp; try with_reducible rfl
              try simp only [Act.put, List.setIfInBounds_toArray, List.set_cons_zero, List.set_cons_succ]
              refine tail_take2 8 rfl (by kernel_rfl) (by kernel_rfl) (by kernel_rfl) (by decide) (fun _ _ _ h => h) (by rfl) (v := ?_) ?_ (by assumption) ?_
              rotate_left 1
              · intro w' hS'; obtain ⟨⟨d0, d1, d2, d3, d4, d5, d6, d7⟩, cL, y0, y1, y2, y3, y4, y5⟩ := hS'; go_simp; try with_reducible rfl
              try simp only [Act.put, List.setIfInBounds_toArray, List.set_cons_zero, List.set_cons_succ]
              refine tail_take2 9 rfl (by kernel_rfl) (by kernel_rfl) (by kernel_rfl) (by decide) (fun _ _ _ h => h) (by rfl) (v := ?_) ?_ (by assumption) ?_
              rotate_left 1
              · intro w' hS'; obtain ⟨⟨d0, d1, d2, d3, d4, d5, d6, d7⟩, cL, y0, y1, y2, y3, y4, y5⟩ := hS'; go_simp; try with_reducible rfl
              try simp only [Act.put, List.setIfInBounds_toArray, List.set_cons_zero, List.set_cons_succ]
              refine tail_take2 10 rfl (by kernel_rfl) (by kernel_rfl) (by kernel_rfl) (by decide) (fun _ _ _ h => h) (by rfl) (v := ?_) ?_ (by assumption) ?_
              rotate_left 1
              · intro w' hS'; obtain ⟨⟨d0, d1, d2, d3, d4, d5, d6, d7⟩, cL, y0, y1, y2, y3, y4, y5⟩ := hS'; go_simp; try with_reducible rfl
              try simp only [Act.put, List.setIfInBounds_toArray, List.set_cons_zero, List.set_cons_succ]
              refine tail_take2 11 rfl (by kernel_rfl) (by kernel_rfl) (by kernel_rfl) (by decide) (fun _ _ _ h => h) (by rfl) (v := ?_) ?_ (by assumption) ?_
              rotate_left 1
              · intro w' hS'; obtain ⟨⟨d0, d1, d2, d3, d4, d5, d6, d7⟩, cL, y0, y1, y2, y3, y4, y5⟩ := hS'; go_simp; try with_reducible rfl
              try simp only [Act.put, List.setIfInBounds_toArray, List.set_cons_zero, List.set_cons_succ]
              refine tail_take2 12 rfl (by kernel_rfl) (by kernel_rfl) (by kernel_rfl) (by decide) (fun _ _ _ h => h) (by rfl) (v := ?_) ?_ (by assumption) ?_
              rotate_left 1
              · intro w' hS'; obtain ⟨⟨d0, d1, d2, d3, d4, d5, d6, d7⟩, cL, y0, y1, y2, y3, y4, y5⟩ := hS'; go_simp; try with_reducible rfl
              try simp only [Act.put, List.setIfInBounds_toArray, List.set_cons_zero, List.set_cons_succ]
              refine tail_take2 13 rfl (by kernel_rfl) (by kernel_rfl) (by kernel_rfl) (by decide) (fun _ _ _ h => h) (by rfl) (v := ?_) ?_ (by assumption) ?_
              rotate_left 1
              · intro w' hS'; obtain ⟨⟨d0, d1, d2, d3, d4, d5, d6, d7⟩, cL, y0, y1, y2, y3, y4, y5⟩ := hS'; go_simp; try with_reducible rfl
              try simp only [Act.put, List.setIfInBounds_toArray, List.set_cons_zero, List.set_cons_succ]
              refine tail_take2 14 rfl (by kernel_rfl) (by kernel_rfl) (by kernel_rfl) (by decide) (fun _ _ _ h => h) (by rfl) (v := ?_) ?_ (by assumption) ?_
              rotate_left 1
              · intro w' hS'; obtain ⟨⟨d0, d1, d2, d3, d4, d5, d6, d7⟩, cL, y0, y1, y2, y3, y4, y5⟩ := hS'; go_simp; try with_reducible rfl
              try simp only [Act.put, List.setIfInBounds_toArray, List.set_cons_zero, List.set_cons_succ]
              refine tail_take2 15 rfl (by kernel_rfl) (by kernel_rfl) (by kernel_rfl) (by decide) (fun _ _ _ h => h) (by rfl) (v := ?_) ?_ (by assumption) ?_
              rotate_left 1
              · intro w' hS'; obtain ⟨⟨d0, d1, d2, d3, d4, d5, d6, d7⟩, cL, y0, y1, y2, y3, y4, y5⟩ := hS'; go_simp; try with_reducible rfl
              try simp only [Act.put, List.setIfInBounds_toArray, List.set_cons_zero, List.set_cons_succ]
              refine tail_end (by kernel_rfl) ?_
              have hzl := HZ8.out
              go_wp2_with fail
              go_roundw
              case rel => exact ⟨j + 1, by omega, by go_num, heap_nextG HF6.out HWe.out, HB6.out.trans (HWe.out.mono HB6.out.size), (HI6.out.below HWe.out).more HWe.out.size, (HJ6.out.below HWe.out).more HWe.out.size⟩
              case measure => simp [intOf]; omega
            · rcases hnd : decide ((nd : Int) ≤ v3) with _ | _
              · have hxz : (x == z) = false := by have h := HK.out; rw [hcd, hnd] at h; exact h.symm
                go_wp2_with fail
                refine tail_begin (fun w' => (w'.cell? ⟨BF, 0, none⟩ = some (.string s) ∧ w'.cell? ⟨BF, 1, none⟩ = some (.int .i64 κ) ∧ w'.cell? ⟨BF, 2, none⟩ = some (.int .i64 p) ∧ w'.cell? ⟨BF, 3, none⟩ = some (.int .i64 k) ∧ w'.cell? ⟨BF, 4, none⟩ = some (.int .i64 γ) ∧ w'.cell? ⟨BF, 5, none⟩ = some (.slice (some ⟨b, off, none⟩) zs.length lc) ∧ w'.cell? ⟨BF, 6, none⟩ = some (.int .i64 C) ∧ w'.cell? ⟨BF, 7, none⟩ = some (.slice P' ls.length lc')) ∧ w'.cell? ⟨b, off + j, none⟩ = some (.int .i64 x) ∧ w'.cell? ⟨N, 0, none⟩ = some (.int .i64 v0) ∧ w'.cell? ⟨N, 1, none⟩ = some (.int .i64 v1) ∧ w'.cell? ⟨N, 2, none⟩ = some (.int .i64 v2) ∧ w'.cell? ⟨N, 3, none⟩ = some (.int .i64 v3) ∧ w'.cell? ⟨N, 4, none⟩ = some (.int .i64 v4) ∧ w'.cell? ⟨N, 5, none⟩ = some (.int .i64 v5)) 16 (by kernel_rfl) ⟨(row8 (heap_nextG HF6.out HWe.out)).1, (HWe.out.cell (p := ⟨b, off + j, none⟩) HBL.out).trans HC.out, row6S HZe.out⟩ (fun hS' => ?_)
                obtain ⟨wx, hwx⟩ : ∃ q, w9.drew = q := ⟨_, rfl⟩
                rw [hwx] at hS' HWe ⊢
                clear hwx
                refine tail_take2 0 rfl (by kernel_rfl) (by kernel_rfl) (by kernel_rfl) (by decide) (fun _ _ _ h => h) (by rfl) (v := ?_) ?_ (by assumption) ?_
                rotate_left 1
                · intro w' hS'; obtain ⟨⟨d0, d1, d2, d3, d4, d5, d6, d7⟩, cL, y0, y1, y2, y3, y4, y5⟩ := hS'; go_simp; try with_reducible rfl
                try simp only [Act.put, List.setIfInBounds_toArray, List.set_cons_zero, List.set_cons_succ]
                refine tail_take2 1 rfl (by kernel_rfl) (by kernel_rfl) (by kernel_rfl) (by decide) (fun _ _ _ h => h) (by rfl) (v := ?_) ?_ (by assumption) ?_
                rotate_left 1
                · intro w' hS'; obtain ⟨⟨d0, d1, d2, d3, d4, d5, d6, d7⟩, cL, y0, y1, y2, y3, y4, y5⟩ := hS'; go_simp; try with_reducible rfl
                try simp only [Act.put, List.setIfInBounds_toArray, List.set_cons_zero, List.set_cons_succ]
                refine tail_take2 2 rfl (by kernel_rfl) (by kernel_rfl) (by kernel_rfl) (by decide) (fun _ _ _ h => h) (by rfl) (v := ?_) ?_ (by assumption) ?_
                rotate_left 1
                · intro w' hS'; obtain ⟨⟨d0, d1, d2, d3, d4, d5, d6, d7⟩, cL, y0, y1, y2, y3, y4, y5⟩ := hS'; go_simp; try with_reducible rfl
                try simp only [Act.put, List.setIfInBounds_toArray, List.set_cons_zero, List.set_cons_succ]
                refine tail_take2 3 rfl (by kernel_rfl) (by kernel_rfl) (by kernel_rfl) (by decide) (fun _ _ _ h => h) (by rfl) (v := ?_) ?_ (by assumption) ?_
                rotate_left 1
                · intro w' hS'; obtain ⟨⟨d0, d1, d2, d3, d4, d5, d6, d7⟩, cL, y0, y1, y2, y3, y4, y5⟩ := hS'; go_simp; try with_reducible rfl
                try simp only [Act.put, List.setIfInBounds_toArray, List.set_cons_zero, List.set_cons_succ]
                refine tail_take2 4 rfl (by kernel_rfl) (by kernel_rfl) (by kernel_rfl) (by decide) (fun _ _ _ h => h) (by rfl) (v := ?_) ?_ (by assumption) ?_
                rotate_left 1
                · intro w' hS'; obtain ⟨⟨d0, d1, d2, d3, d4, d5, d6, d7⟩, cL, y0, y1, y2, y3, y4, y5⟩ := hS'; go_simp; try with_reducible rfl
                try simp only [Act.put, List.setIfInBounds_toArray, List.set_cons_zero, List.set_cons_succ]
                refine tail_take2 5 rfl (by kernel_rfl) (by kernel_rfl) (by kernel_rfl) (by decide) (fun _ _ _ h => h) (by rfl) (v := ?_) ?_ (by assumption) ?_
                rotate_left 1
                · intro w' hS'; obtain ⟨⟨d0, d1, d2, d3, d4, d5, d6, d7⟩, cL, y0, y1, y2, y3, y4, y5⟩ := hS'; go_simp; try with_reducible rfl
                try simp only [Act.put, List.setIfInBounds_toArray, List.set_cons_zero, List.set_cons_succ]
                refine tail_take2 6 rfl (by kernel_rfl) (by kernel_rfl) (by kernel_rfl) (by decide) (fun _ _ _ h => h) (by rfl) (v := ?_) ?_ (by assumption) ?_
                rotate_left 1
                · intro w' hS'; obtain ⟨⟨d0, d1, d2, d3, d4, d5, d6, d7⟩, cL, y0, y1, y2, y3, y4, y5⟩ := hS'; go_simp; try with_reducible rfl
                try simp only [Act.put, List.setIfInBounds_toArray, List.set_cons_zero, List.set_cons_succ]
                refine tail_take2 7 rfl (by kernel_rfl) (by kernel_rfl) (by kernel_rfl) (by decide) (fun _ _ _ h => h) (by rfl) (v := ?_) ?_ (by assumption) ?_
                rotate_left 1
                · intro w' hS'; obtain ⟨⟨d0, d1, d2, d3, d4, d5, d6, d7⟩, cL, y0, y1, y2, y3, y4, y5⟩ := hS'; go_simp; try with_reducible rfl
                try simp only [Act.put, List.setIfInBounds_toArray, List.set_cons_zero, List.set_cons_succ]
                refine tail_take2 8 rfl (by kernel_rfl) (by kernel_rfl) (by kernel_rfl) (by decide) (fun _ _ _ h => h) (by rfl) (v := ?_) ?_ (by assumption) ?_
                rotate_left 1
                · intro w' hS'; obtain ⟨⟨d0, d1, d2, d3, d4, d5, d6, d7⟩, cL, y0, y1, y2, y3, y4, y5⟩ := hS'; go_simp; try with_reducible rfl
                try simp only [Act.put, List.setIfInBounds_toArray, List.set_cons_zero, List.set_cons_succ]
                refine tail_take2 9 rfl (by kernel_rfl) (by kernel_rfl) (by kernel_rfl) (by decide) (fun _ _ _ h => h) (by rfl) (v := ?_) ?_ (by assumption) ?_
                rotate_left 1
                · intro w' hS'; obtain ⟨⟨d0, d1, d2, d3, d4, d5, d6, d7⟩, cL, y0, y1, y2, y3, y4, y5⟩ := hS'; go_simp; try with_reducible rfl
                try simp only [Act.put, List.setIfInBounds_toArray, List.set_cons_zero, List.set_cons_succ]
                refine tail_take2 10 rfl (by kernel_rfl) (by kernel_rfl) (by kernel_rfl) (by decide) (fun _ _ _ h => h) (by rfl) (v := ?_) ?_ (by assumption) ?_
                rotate_left 1
                · intro w' hS'; obtain ⟨⟨d0, d1, d2, d3, d4, d5, d6, d7⟩, cL, y0, y1, y2, y3, y4, y5⟩ := hS'; go_simp; try with_reducible rfl
                try simp only [Act.put, List.setIfInBounds_toArray, List.set_cons_zero, List.set_cons_succ]
                refine tail_take2 11 rfl (by kernel_rfl) (by kernel_rfl) (by kernel_rfl) (by decide) (fun _ _ _ h => h) (by rfl) (v := ?_) ?_ (by assumption) ?_
                rotate_left 1
                · intro w' hS'; obtain ⟨⟨d0, d1, d2, d3, d4, d5, d6, d7⟩, cL, y0, y1, y2, y3, y4, y5⟩ := hS'; go_simp; try with_reducible rfl
                try simp only [Act.put, List.setIfInBounds_toArray, List.set_cons_zero, List.set_cons_succ]
                refine tail_take2 12 rfl (by kernel_rfl) (by kernel_rfl) (by kernel_rfl) (by decide) (fun _ _ _ h => h) (by rfl) (v := ?_) ?_ (by assumption) ?_
                rotate_left 1
                · intro w' hS'; obtain ⟨⟨d0, d1, d2, d3, d4, d5, d6, d7⟩, cL, y0, y1, y2, y3, y4, y5⟩ := hS'; go_simp; try with_reducible rfl
                try simp only [Act.put, List.setIfInBounds_toArray, List.set_cons_zero, List.set_cons_succ]
                refine tail_take2 13 rfl (by kernel_rfl) (by kernel_rfl) (by kernel_rfl) (by decide) (fun _ _ _ h => h) (by rfl) (v := ?_) ?_ (by assumption) ?_
                rotate_left 1
                · intro w' hS'; obtain ⟨⟨d0, d1, d2, d3, d4, d5, d6, d7⟩, cL, y0, y1, y2, y3, y4, y5⟩ := hS'; go_simp; try with_reducible rfl
                try simp only [Act.put, List.setIfInBounds_toArray, List.set_cons_zero, List.set_cons_succ]
                refine tail_take2 14 rfl (by kernel_rfl) (by kernel_rfl) (by kernel_rfl) (by decide) (fun _ _ _ h => h) (by rfl) (v := ?_) ?_ (by assumption) ?_
                rotate_left 1
                · intro w' hS'; obtain ⟨⟨d0, d1, d2, d3, d4, d5, d6, d7⟩, cL, y0, y1, y2, y3, y4, y5⟩ := hS'; go_simp; try with_reducible rfl
                try simp only [Act.put, List.setIfInBounds_toArray, List.set_cons_zero, List.set_cons_succ]
                refine tail_take2 15 rfl (by kernel_rfl) (by kernel_rfl) (by kernel_rfl) (by decide) (fun _ _ _ h => h) (by rfl) (v := ?_) ?_ (by assumption) ?_
                rotate_left 1
                · intro w' hS'; obtain ⟨⟨d0, d1, d2, d3, d4, d5, d6, d7⟩, cL, y0, y1, y2, y3, y4, y5⟩ := hS'; go_simp; try with_reducible rfl
                try simp only [Act.put, List.setIfInBounds_toArray, List.set_cons_zero, List.set_cons_succ]
                refine tail_end (by kernel_rfl) ?_
                have hzl := HZ8.out
                go_wp2_with fail
                go_roundw
                case rel => exact ⟨j + 1, by omega, by go_num, heap_nextG HF6.out HWe.out, HB6.out.trans (HWe.out.mono HB6.out.size), (HI6.out.below HWe.out).more HWe.out.size, (HJ6.out.below HWe.out).more HWe.out.size⟩
                case measure => simp [intOf]; omega
              · have hxz : (x == z) = true := by have h := HK.out; rw [hcd, hnd] at h; exact h.symm
                go_wp2_with fail
                refine tail_begin (fun w' => (w'.cell? ⟨BF, 0, none⟩ = some (.string s) ∧ w'.cell? ⟨BF, 1, none⟩ = some (.int .i64 κ) ∧ w'.cell? ⟨BF, 2, none⟩ = some (.int .i64 p) ∧ w'.cell? ⟨BF, 3, none⟩ = some (.int .i64 k) ∧ w'.cell? ⟨BF, 4, none⟩ = some (.int .i64 γ) ∧ w'.cell? ⟨BF, 5, none⟩ = some (.slice (some ⟨b, off, none⟩) zs.length lc) ∧ w'.cell? ⟨BF, 6, none⟩ = some (.int .i64 C) ∧ w'.cell? ⟨BF, 7, none⟩ = some (.slice P' ls.length lc')) ∧ w'.cell? ⟨b, off + j, none⟩ = some (.int .i64 x) ∧ w'.cell? ⟨N, 0, none⟩ = some (.int .i64 v0) ∧ w'.cell? ⟨N, 1, none⟩ = some (.int .i64 v1) ∧ w'.cell? ⟨N, 2, none⟩ = some (.int .i64 v2) ∧ w'.cell? ⟨N, 3, none⟩ = some (.int .i64 v3) ∧ w'.cell? ⟨N, 4, none⟩ = some (.int .i64 v4) ∧ w'.cell? ⟨N, 5, none⟩ = some (.int .i64 v5)) 16 (by kernel_rfl) ⟨(row8 (heap_nextG HF6.out HWe.out)).1, (HWe.out.cell (p := ⟨b, off + j, none⟩) HBL.out).trans HC.out, row6S HZe.out⟩ (fun hS' => ?_)
                obtain ⟨wx, hwx⟩ : ∃ q, w9.drew = q := ⟨_, rfl⟩
                rw [hwx] at hS' HWe ⊢
                clear hwx
                refine tail_take2 0 rfl (by kernel_rfl) (by kernel_rfl) (by kernel_rfl) (by decide) (fun _ _ _ h => h) (by rfl) (v := ?_) ?_ (by assumption) ?_
                rotate_left 1
                · intro w' hS'; obtain ⟨⟨d0, d1, d2, d3, d4, d5, d6, d7⟩, cL, y0, y1, y2, y3, y4, y5⟩ := hS'; go_simp; try with_reducible rfl
                try simp only [Act.put, List.setIfInBounds_toArray, List.set_cons_zero, List.set_cons_succ]
                refine tail_take2 1 rfl (by kernel_rfl) (by kernel_rfl) (by kernel_rfl) (by decide) (fun _ _ _ h => h) (by rfl) (v := ?_) ?_ (by assumption) ?_
                rotate_left 1
                · intro w' hS'; obtain ⟨⟨d0, d1, d2, d3, d4, d5, d6, d7⟩, cL, y0, y1, y2, y3, y4, y5⟩ := hS'; go_simp; try with_reducible rfl
                try simp only [Act.put, List.setIfInBounds_toArray, List.set_cons_zero, List.set_cons_succ]
                refine tail_take2 2 rfl (by kernel_rfl) (by kernel_rfl) (by kernel_rfl) (by decide) (fun _ _ _ h => h) (by rfl) (v := ?_) ?_ (by assumption) ?_
                rotate_left 1
                · intro w' hS'; obtain ⟨⟨d0, d1, d2, d3, d4, d5, d6, d7⟩, cL, y0, y1, y2, y3, y4, y5⟩ := hS'; go_simp; try with_reducible rfl
                try simp only [Act.put, List.setIfInBounds_toArray, List.set_cons_zero, List.set_cons_succ]
                refine tail_take2 3 rfl (by kernel_rfl) (by kernel_rfl) (by kernel_rfl) (by decide) (fun _ _ _ h => h) (by rfl) (v := ?_) ?_ (by assumption) ?_
                rotate_left 1
                · intro w' hS'; obtain ⟨⟨d0, d1, d2, d3, d4, d5, d6, d7⟩, cL, y0, y1, y2, y3, y4, y5⟩ := hS'; go_simp; try with_reducible rfl
                try simp only [Act.put, List.setIfInBounds_toArray, List.set_cons_zero, List.set_cons_succ]
                refine tail_take2 4 rfl (by kernel_rfl) (by kernel_rfl) (by kernel_rfl) (by decide) (fun _ _ _ h => h) (by rfl) (v := ?_) ?_ (by assumption) ?_
                rotate_left 1
                · intro w' hS'; obtain ⟨⟨d0, d1, d2, d3, d4, d5, d6, d7⟩, cL, y0, y1, y2, y3, y4, y5⟩ := hS'; go_simp; try with_reducible rfl
                try simp only [Act.put, List.setIfInBounds_toArray, List.set_cons_zero, List.set_cons_succ]
                refine tail_take2 5 rfl (by kernel_rfl) (by kernel_rfl) (by kernel_rfl) (by decide) (fun _ _ _ h => h) (by rfl) (v := ?_) ?_ (by assumption) ?_
                rotate_left 1
                · intro w' hS'; obtain ⟨⟨d0, d1, d2, d3, d4, d5, d6, d7⟩, cL, y0, y1, y2, y3, y4, y5⟩ := hS'; go_simp; try with_reducible rfl
                try simp only [Act.put, List.setIfInBounds_toArray, List.set_cons_zero, List.set_cons_succ]
                refine tail_take2 6 rfl (by kernel_rfl) (by kernel_rfl) (by kernel_rfl) (by decide) (fun _ _ _ h => h) (by rfl) (v := ?_) ?_ (by assumption) ?_
                rotate_left 1
                · intro w' hS'; obtain ⟨⟨d0, d1, d2, d3, d4, d5, d6, d7⟩, cL, y0, y1, y2, y3, y4, y5⟩ := hS'; go_simp; try with_reducible rfl
                try simp only [Act.put, List.setIfInBounds_toArray, List.set_cons_zero, List.set_cons_succ]
                refine tail_take2 7 rfl (by kernel_rfl) (by kernel_rfl) (by kernel_rfl) (by decide) (fun _ _ _ h => h) (by rfl) (v := ?_) ?_ (by assumption) ?_
                rotate_left 1
                · intro w' hS'; obtain ⟨⟨d0, d1, d2, d3, d4, d5, d6, d7⟩, cL, y0, y1, y2, y3, y4, y5⟩ := hS'; go_simp; try with_reducible rfl
                try simp only [Act.put, List.setIfInBounds_toArray, List.set_cons_zero, List.set_cons_succ]
                refine tail_take2 8 rfl (by kernel_rfl) (by kernel_rfl) (by kernel_rfl) (by decide) (fun _ _ _ h => h) (by rfl) (v := ?_) ?_ (by assumption) ?_
                rotate_left 1
                · intro w' hS'; obtain ⟨⟨d0, d1, d2, d3, d4, d5, d6, d7⟩, cL, y0, y1, y2, y3, y4, y5⟩ := hS'; go_simp; try with_reducible rfl
                try simp only [Act.put, List.setIfInBounds_toArray, List.set_cons_zero, List.set_cons_succ]
                refine tail_take2 9 rfl (by kernel_rfl) (by kernel_rfl) (by kernel_rfl) (by decide) (fun _ _ _ h => h) (by rfl) (v := ?_) ?_ (by assumption) ?_
                rotate_left 1
                · intro w' hS'; obtain ⟨⟨d0, d1, d2, d3, d4, d5, d6, d7⟩, cL, y0, y1, y2, y3, y4, y5⟩ := hS'; go_simp; try with_reducible rfl
                try simp only [Act.put, List.setIfInBounds_toArray, List.set_cons_zero, List.set_cons_succ]
                refine tail_take2 10 rfl (by kernel_rfl) (by kernel_rfl) (by kernel_rfl) (by decide) (fun _ _ _ h => h) (by rfl) (v := ?_) ?_ (by assumption) ?_
                rotate_left 1
                · intro w' hS'; obtain ⟨⟨d0, d1, d2, d3, d4, d5, d6, d7⟩, cL, y0, y1, y2, y3, y4, y5⟩ := hS'; go_simp; try with_reducible rfl
                try simp only [Act.put, List.setIfInBounds_toArray, List.set_cons_zero, List.set_cons_succ]
                refine tail_take2 11 rfl (by kernel_rfl) (by kernel_rfl) (by kernel_rfl) (by decide) (fun _ _ _ h => h) (by rfl) (v := ?_) ?_ (by assumption) ?_
                rotate_left 1
                · intro w' hS'; obtain ⟨⟨d0, d1, d2, d3, d4, d5, d6, d7⟩, cL, y0, y1, y2, y3, y4, y5⟩ := hS'; go_simp; try with_reducible rfl
                try simp only [Act.put, List.setIfInBounds_toArray, List.set_cons_zero, List.set_cons_succ]
                refine tail_take2 12 rfl (by kernel_rfl) (by kernel_rfl) (by kernel_rfl) (by decide) (fun _ _ _ h => h) (by rfl) (v := ?_) ?_ (by assumption) ?_
                rotate_left 1
                · intro w' hS'; obtain ⟨⟨d0, d1, d2, d3, d4, d5, d6, d7⟩, cL, y0, y1, y2, y3, y4, y5⟩ := hS'; go_simp; try with_reducible rfl
                try simp only [Act.put, List.setIfInBounds_toArray, List.set_cons_zero, List.set_cons_succ]
                refine tail_take2 13 rfl (by kernel_rfl) (by kernel_rfl) (by kernel_rfl) (by decide) (fun _ _ _ h => h) (by rfl) (v := ?_) ?_ (by assumption) ?_
                rotate_left 1
                · intro w' hS'; obtain ⟨⟨d0, d1, d2, d3, d4, d5, d6, d7⟩, cL, y0, y1, y2, y3, y4, y5⟩ := hS'; go_simp; try with_reducible rfl
                try simp only [Act.put, List.setIfInBounds_toArray, List.set_cons_zero, List.set_cons_succ]
                refine tail_take2 14 rfl (by kernel_rfl) (by kernel_rfl) (by kernel_rfl) (by decide) (fun _ _ _ h => h) (by rfl) (v := ?_) ?_ (by assumption) ?_
                rotate_left 1
                · intro w' hS'; obtain ⟨⟨d0, d1, d2, d3, d4, d5, d6, d7⟩, cL, y0, y1, y2, y3, y4, y5⟩ := hS'; go_simp; try with_reducible rfl
                try simp only [Act.put, List.setIfInBounds_toArray, List.set_cons_zero, List.set_cons_succ]
                refine tail_take2 15 rfl (by kernel_rfl) (by kernel_rfl) (by kernel_rfl) (by decide) (fun _ _ _ h => h) (by rfl) (v := ?_) ?_ (by assumption) ?_
                rotate_left 1
                · intro w' hS'; obtain ⟨⟨d0, d1, d2, d3, d4, d5, d6, d7⟩, cL, y0, y1, y2, y3, y4, y5⟩ := hS'; go_simp; try with_reducible rfl
                try simp only [Act.put, List.setIfInBounds_toArray, List.set_cons_zero, List.set_cons_succ]
                refine tail_end (by kernel_rfl) ?_
                have hzl := HZ8.out
                go_wp2_with fail
                go_roundw
                case rel => exact ⟨j + 1, by omega, by go_num, heap_nextG HF6.out HWe.out, HB6.out.trans (HWe.out.mono HB6.out.size), (HI6.out.below HWe.out).more HWe.out.size, (HJ6.out.below HWe.out).more HWe.out.size⟩
                case measure => simp [intOf]; omega
        · have hled : decide (x ≤ z) = false := decide_eq_false hle
          go_wp2_with fail
          go_ret
          exact ⟨rfl, HB6.out⟩
      · go_wp2_with fail
        go_ret
        exact ⟨rfl, HB6.out⟩
end Go.Proofs.YtncgeoliboidhaaGreat
