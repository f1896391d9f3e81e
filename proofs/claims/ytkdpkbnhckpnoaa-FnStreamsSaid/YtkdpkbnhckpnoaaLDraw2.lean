/-
  The contract of the draw of any layout: what is drawn lies in bounds; only the source's own block changes.
  Condition: the code has at most 4096 bytes.
-/
import Derived.Test.YtkdpkbnhckpnoaaLDraw1
namespace Go.Proofs.Ytkdpkbnhckpnoaa
open Go.RowKit
set_option linter.unusedVariables false
set_option linter.unusedSimpArgs false

theorem row_grownN {w w' : World} {N : Nat} {row : Option Nat} {o : Obj} (h : w.heap[N]? = some o) (hg : w.grownBy w' row) (hne : row ≠ some N) : w'.heap[N]? = some o :=
  (hg.block N (Array.getElem?_eq_some_iff.1 h).1 (Ne.symm hne)).trans h
set_option maxRecDepth 100000 in
set_option maxHeartbeats 8000000 in
theorem drawLayAny (g Bc : Nat) (A : Option Addr) (n c : Nat) (code : List Int) (w : World) (hS : Src w g Bc A n c code) :
    Calls Try.prog 41 #[.pointer (some ⟨g, 0, none⟩)] w (DrawnY g Bc A n c code w) := by
  have hgl := hS.lt
  have HS := hide ((hS.still (World.grownBy_alloc w (.cells #[.int .i64 0, .int .i64 0, .int .i64 0, .int .i64 0, .int .i64 0, .int .i64 0] 27) none) (by simp)))
  have HZ := hide (show YRow (w.alloc (.cells #[.int .i64 0, .int .i64 0, .int .i64 0, .int .i64 0, .int .i64 0, .int .i64 0] 27)) w.heap.size 0 0 0 0 0 0 from heap_alloc_new w _)
  clear hS
  go_enter Try.func41, Try.ntmps41
  go_wp2_with fail
  refine (drawLay g Bc A n c code _ HS.out).mono ?_
  rintro e w1 ⟨p, k, γ, D, K, C, rfl, hD0, hD1, hK0, hK1, hC0, hC1, hs, hg⟩
  have HS1 := hide (hs.still (World.grownBy_alloc w1 (.cells #[.int .i64 p, .int .i64 k, .int .i64 γ, .int .i64 D, .int .i64 K, .int .i64 C] 27) none) (by simp))
  have hz1 := row_grown HZ.out hg (show g ≠ w.heap.size by omega)
  have HZ1 := hide (show YRow (w1.alloc (.cells #[.int .i64 p, .int .i64 k, .int .i64 γ, .int .i64 D, .int .i64 K, .int .i64 C] 27)) w.heap.size 0 0 0 0 0 0 from row_old hz1 _)
  have HG1 := hide (grown_alloc (grown_trans (World.grownBy_alloc w _ (some g)) hg) (.cells #[.int .i64 p, .int .i64 k, .int .i64 γ, .int .i64 D, .int .i64 K, .int .i64 C] 27))
  have HF1 := hide (show YRow (w1.alloc (.cells #[.int .i64 p, .int .i64 k, .int .i64 γ, .int .i64 D, .int .i64 K, .int .i64 C] 27)) w1.heap.size p k γ D K C from heap_alloc_new w1 _)
  have hl1 : w.heap.size < w1.heap.size := (Array.getElem?_eq_some_iff.1 hz1).1
  clear hs hg hz1
  go_wp2_with fail
  refine (next_any g Bc A n c code 30 _ HS1.out (by omega)).mono ?_
  rintro e w2 ⟨y, rfl, hy0, hy1, hs, hg⟩
  obtain ⟨N, hN⟩ : ∃ N, N = w1.heap.size := ⟨_, rfl⟩
  rw [← hN] at HF1 hl1 ⊢
  have hgN : g < N := by omega
  have HS2 := hide hs
  have HZ2 := hide (show YRow w2 w.heap.size 0 0 0 0 0 0 from row_grown HZ1.out hg (by omega))
  have HF2 := hide (show YRow w2 N p k γ D K C from row_grown HF1.out hg (by omega))
  have HG2 := hide (grown_trans HG1.out hg)
  clear hs hg hN HS1 HZ1 HF1 HG1 HS HZ
  obtain ⟨z0, z1, z2, z3, z4, z5, f0, f1, f2, f3, f4, f5⟩ := row6c HZ2.out
  obtain ⟨d0, d1, d2, d3, d4, d5, e0, e1, e2, e3, e4, e5⟩ := row6c HF2.out
  have hwN : w.heap.size < N := hl1
  by_cases hc0 : y = 0
  · subst hc0
    have hw1 : IntKind.i64.wrap (D + 1) = D + 1 := IntWalk.i64_in _ ⟨by omega, by omega⟩
    go_wp2_with fail
    clear z0 z1 z2 z3 z4 z5 f0 f1 f2 f3 f4 f5 d0 d1 d2 d3 d4 d5 e0 e1 e2 e3 e4 e5
    refine tail_begin (fun w' => w'.cell? ⟨N, 3, none⟩ = some (.int .i64 D)) 11 (by kernel_rfl) (row6c (show w2.drew.heap[N]? = _ from HF2.out)).2.2.2.1 (fun hS' => ?_)
    have HSd := hide (HS2.out.drew')
    have HZd := hide (show YRow w2.drew w.heap.size 0 0 0 0 0 0 from HZ2.out)
    have HFd := hide (show YRow w2.drew N p k γ D K C from HF2.out)
    have HGd := hide (grown_drew HG2.out)
    obtain ⟨wd, hwd⟩ : ∃ wd, wd = w2.drew := ⟨_, rfl⟩
    rw [← hwd] at hS' HSd HZd HFd HGd ⊢
    clear hwd HS2 HZ2 HF2 HG2
    refine tail_take 0 rfl (by kernel_rfl) (by kernel_rfl) (by kernel_rfl) (by kernel_rfl) (fun _ _ _ h => h) (by rfl) (v := ?_) ?_ (by assumption) ?_
    rotate_left 1
    · intro w' hS'; (try dsimp only at hS'); go_simp; try with_reducible rfl
    try simp only [Act.put, List.setIfInBounds_toArray, List.set_cons_zero, List.set_cons_succ]
    refine tail_take 1 rfl (by kernel_rfl) (by kernel_rfl) (by kernel_rfl) (by kernel_rfl) (fun _ _ _ h => h) (by rfl) (v := ?_) ?_ (by assumption) ?_
    rotate_left 1
    · intro w' hS'; (try dsimp only at hS'); go_simp; try with_reducible rfl
    try simp only [Act.put, List.setIfInBounds_toArray, List.set_cons_zero, List.set_cons_succ]
    refine tail_take 2 rfl (by kernel_rfl) (by kernel_rfl) (by kernel_rfl) (by kernel_rfl) (fun _ _ _ h => h) (by rfl) (v := ?_) ?_ (by assumption) ?_
    rotate_left 1
    · intro w' hS'; (try dsimp only at hS'); go_simp; try with_reducible rfl
    try simp only [Act.put, List.setIfInBounds_toArray, List.set_cons_zero, List.set_cons_succ]
    refine tail_take 3 rfl (by kernel_rfl) (by kernel_rfl) (by kernel_rfl) (by kernel_rfl) (fun _ _ _ h => h) (by rfl) (v := ?_) ?_ (by assumption) ?_
    rotate_left 1
    · intro w' hS'; (try dsimp only at hS'); go_simp; try with_reducible rfl
    try simp only [Act.put, List.setIfInBounds_toArray, List.set_cons_zero, List.set_cons_succ]
    refine tail_take 4 rfl (by kernel_rfl) (by kernel_rfl) (by kernel_rfl) (by kernel_rfl) (fun _ _ _ h => h) (by rfl) (v := ?_) ?_ (by assumption) ?_
    rotate_left 1
    · intro w' hS'; (try dsimp only at hS'); go_simp; try with_reducible rfl
    try simp only [Act.put, List.setIfInBounds_toArray, List.set_cons_zero, List.set_cons_succ]
    refine tail_take 6 rfl (by kernel_rfl) (by kernel_rfl) (by kernel_rfl) (by kernel_rfl) (fun _ _ _ h => h) (by rfl) (v := ?_) ?_ (by assumption) ?_
    rotate_left 1
    · intro w' hS'; (try dsimp only at hS'); go_simp; try with_reducible rfl
    try simp only [Act.put, List.setIfInBounds_toArray, List.set_cons_zero, List.set_cons_succ]
    refine tail_two 5 7 rfl rfl (by kernel_rfl) rfl rfl (fun K' hK => ?_) (fun K' hK => ?_)
    · go_simp
      refine hK.out _ _ (by (try dsimp only); exact (row6c (row_old HFd.out (.cells #[.int .i64 0, .int .i64 D, .int .i64 (D + 1), .int .i64 17] 2))).2.2.2.1) (fun hS' => ?_)
      clear hK K'
      try simp only [Act.put, List.setIfInBounds_toArray, List.set_cons_zero, List.set_cons_succ]
      refine tail_call 7 rfl (by kernel_rfl) rfl (fun K' hK => ?_)
      go_simp
      (go_at_call 70; refine (next_any g Bc A n c code 4 _ (HSd.out.still (World.grownBy_alloc wd (.cells #[.int .i64 0, .int .i64 D, .int .i64 (D + 1), .int .i64 17] 2) none) (by simp)) (by omega)).mono ?_; rintro e w3 ⟨r, rfl, hr0, hr1, hs, hg⟩; obtain ⟨r, rfl⟩ : ∃ m : Nat, r = m := ⟨r.toNat, by omega⟩; have hr2 : (r : Int) < 4 := (by omega); have HS3 := hide hs; have HZ3 := hide (show YRow w3 w.heap.size 0 0 0 0 0 0 from row_grown (row_old HZd.out (.cells #[.int .i64 0, .int .i64 D, .int .i64 (D + 1), .int .i64 17] 2)) hg (by omega)); have HF3 := hide (show YRow w3 N p k γ D K C from row_grown (row_old HFd.out (.cells #[.int .i64 0, .int .i64 D, .int .i64 (D + 1), .int .i64 17] 2)) hg (by omega)); have HG3 := hide (grown_trans (grown_alloc HGd.out (.cells #[.int .i64 0, .int .i64 D, .int .i64 (D + 1), .int .i64 17] 2)) hg))
      refine hK.out _ _ (by (try dsimp only); exact (row6c HF3.out).2.2.2.1) (fun hS' => ?_)
      clear hK K'
      try simp only [Act.put, List.setIfInBounds_toArray, List.set_cons_zero, List.set_cons_succ]
      obtain ⟨x, hx, hxb⟩ : ∃ x, w3.cell? ⟨wd.heap.size, r, none⟩ = some (.int .i64 x) ∧ 0 ≤ x ∧ x ≤ 4000 := by
        have hwd : g < wd.heap.size := HSd.out.lt
        rw [grown_cell hg (by simp) (fun h => by simp at h; omega), World.cell?_alloc_at _ _ _ _ rfl]
        rcases (show r = 0 ∨ r = 1 ∨ r = 2 ∨ r = 3 by omega) with rfl | rfl | rfl | rfl
        · exact ⟨0, rfl, by omega⟩
        · exact ⟨D, rfl, by omega⟩
        · exact ⟨D + 1, rfl, by omega⟩
        · exact ⟨17, rfl, by omega⟩
      clear hs hg
      refine tail_take 8 rfl (by kernel_rfl) (by kernel_rfl) (by kernel_rfl) (by kernel_rfl) (fun _ _ _ h => h) (by rfl) (v := ?_) ?_ (by assumption) ?_
      rotate_left 1
      · intro w' hS'; (try dsimp only at hS'); go_simp; try with_reducible rfl
      try simp only [Act.put, List.setIfInBounds_toArray, List.set_cons_zero, List.set_cons_succ]
      refine tail_call 9 rfl (by kernel_rfl) rfl (fun K' hK => ?_)
      go_simp
      refine hK.out _ _ (by (try dsimp only); exact (row6c HF3.out).2.2.2.1) (fun hS' => ?_)
      clear hK K'
      try simp only [Act.put, List.setIfInBounds_toArray, List.set_cons_zero, List.set_cons_succ]
      obtain ⟨d0, d1, d2, d3, d4, d5, e0, e1, e2, e3, e4, e5⟩ := row6c HF3.out
      refine tail_take 10 rfl (by kernel_rfl) (by kernel_rfl) (by kernel_rfl) (by kernel_rfl) (fun _ _ _ h => h) (by rfl) (v := ?_) ?_ (by assumption) ?_
      rotate_left 1
      · intro w' hS'; (try dsimp only at hS'); go_simp; try with_reducible rfl
      try simp only [Act.put, List.setIfInBounds_toArray, List.set_cons_zero, List.set_cons_succ]
      refine tail_last 11 rfl (by kernel_rfl) (by kernel_rfl) rfl rfl (fun K' hK => ?_)
      go_simp
      refine hK.out _ _ ?_
      clear hK K'
      try simp only [Act.put, List.setIfInBounds_toArray, List.set_cons_zero, List.set_cons_succ]
      have HS9 := hide (set1_src HS3.out hgN 5 (.int .i64 x))
      have HZ9 := hide (show YRow (w3.setCell ⟨N, 5, none⟩ (.int .i64 x)) w.heap.size 0 0 0 0 0 0 from row_set HZ3.out (by omega))
      have HF9 := hide (show YRow (w3.setCell ⟨N, 5, none⟩ (.int .i64 x)) N p k γ D K x from heap_setCell_same _ N 5 _ _ _ HF3.out)
      have HG9 := hide (grown_set2 HG3.out N 5 (.int .i64 x) (by omega))
      clear d0 d1 d2 d3 d4 d5 e0 e1 e2 e3 e4 e5
      obtain ⟨z0, z1, z2, z3, z4, z5, f0, f1, f2, f3, f4, f5⟩ := row6c HZ9.out
      obtain ⟨d0, d1, d2, d3, d4, d5, e0, e1, e2, e3, e4, e5⟩ := row6c HF9.out
      have hz9 := row_set6 HZ9.out (.int .i64 p) (.int .i64 k) (.int .i64 γ) (.int .i64 D) (.int .i64 K) (.int .i64 x)
      unfold set6 at hz9
      obtain ⟨y0, y1, y2, y3, y4, y5, -, -, -, -, -, -⟩ := row6c hz9
      clear hz9
      go_wp2_with fail
      refine bodyPost_ret (v := .agg #[.int .i64 p, .int .i64 k, .int .i64 γ, .int .i64 D, .int .i64 K, .int .i64 x]) (by simp [results, Try.results41, go_sem, y0, y1, y2, y3, y4, y5]) rfl ⟨p, k, γ, D, K, x, rfl, by omega, by omega, by omega, by omega, by omega, by omega, src_set6 HS9.out hgl _ _ _ _ _ _, grown_set6 HG9.out _ (Nat.le_refl _) _ _ _ _ _ _⟩
    · go_simp
      (go_at_call 70; refine (next_any g Bc A n c code 4 _ HSd.out (by omega)).mono ?_; rintro e w4 ⟨r, rfl, hr0, hr1, hs, hg⟩; obtain ⟨r, rfl⟩ : ∃ m : Nat, r = m := ⟨r.toNat, by omega⟩; have hr2 : (r : Int) < 4 := (by omega); have HS4 := hide hs; have HZ4 := hide (show YRow w4 w.heap.size 0 0 0 0 0 0 from row_grown HZd.out hg (by omega)); have HF4 := hide (show YRow w4 N p k γ D K C from row_grown HFd.out hg (by omega)); have HG4 := hide (grown_trans HGd.out hg); clear hs hg)
      refine hK.out _ _ (by (try dsimp only); exact (row6c HF4.out).2.2.2.1) (fun hS' => ?_)
      clear hK K'
      try simp only [Act.put, List.setIfInBounds_toArray, List.set_cons_zero, List.set_cons_succ]
      refine tail_call 5 rfl (by kernel_rfl) rfl (fun K' hK => ?_)
      go_simp
      refine hK.out _ _ (by (try dsimp only); exact (row6c (row_old HF4.out (.cells #[.int .i64 0, .int .i64 D, .int .i64 (D + 1), .int .i64 17] 2))).2.2.2.1) (fun hS' => ?_)
      clear hK K'
      try simp only [Act.put, List.setIfInBounds_toArray, List.set_cons_zero, List.set_cons_succ]
      obtain ⟨x, hx, hxb⟩ : ∃ x, (w4.alloc (.cells #[.int .i64 0, .int .i64 D, .int .i64 (D + 1), .int .i64 17] 2)).cell? ⟨w4.heap.size, r, none⟩ = some (.int .i64 x) ∧ 0 ≤ x ∧ x ≤ 4000 := by
        rw [World.cell?_alloc_at _ _ _ _ rfl]
        rcases (show r = 0 ∨ r = 1 ∨ r = 2 ∨ r = 3 by omega) with rfl | rfl | rfl | rfl
        · exact ⟨0, rfl, by omega⟩
        · exact ⟨D, rfl, by omega⟩
        · exact ⟨D + 1, rfl, by omega⟩
        · exact ⟨17, rfl, by omega⟩
      refine tail_take 8 rfl (by kernel_rfl) (by kernel_rfl) (by kernel_rfl) (by kernel_rfl) (fun _ _ _ h => h) (by rfl) (v := ?_) ?_ (by assumption) ?_
      rotate_left 1
      · intro w' hS'; (try dsimp only at hS'); go_simp; try with_reducible rfl
      try simp only [Act.put, List.setIfInBounds_toArray, List.set_cons_zero, List.set_cons_succ]
      refine tail_call 9 rfl (by kernel_rfl) rfl (fun K' hK => ?_)
      go_simp
      refine hK.out _ _ (by (try dsimp only); exact (row6c (row_old HF4.out (.cells #[.int .i64 0, .int .i64 D, .int .i64 (D + 1), .int .i64 17] 2))).2.2.2.1) (fun hS' => ?_)
      clear hK K'
      try simp only [Act.put, List.setIfInBounds_toArray, List.set_cons_zero, List.set_cons_succ]
      have HS3 := hide (HS4.out.still (World.grownBy_alloc w4 (.cells #[.int .i64 0, .int .i64 D, .int .i64 (D + 1), .int .i64 17] 2) none) (by simp))
      have HZ3 := hide (show YRow (w4.alloc (.cells #[.int .i64 0, .int .i64 D, .int .i64 (D + 1), .int .i64 17] 2)) w.heap.size 0 0 0 0 0 0 from row_old HZ4.out _)
      have HF3 := hide (show YRow (w4.alloc (.cells #[.int .i64 0, .int .i64 D, .int .i64 (D + 1), .int .i64 17] 2)) N p k γ D K C from row_old HF4.out _)
      have HG3 := hide (grown_alloc HG4.out (.cells #[.int .i64 0, .int .i64 D, .int .i64 (D + 1), .int .i64 17] 2))
      generalize w4.alloc (.cells #[.int .i64 0, .int .i64 D, .int .i64 (D + 1), .int .i64 17] 2) = w3 at HS3 HZ3 HF3 HG3 hx hS' ⊢
      clear HS4 HZ4 HF4 HG4
      obtain ⟨d0, d1, d2, d3, d4, d5, e0, e1, e2, e3, e4, e5⟩ := row6c HF3.out
      refine tail_take 10 rfl (by kernel_rfl) (by kernel_rfl) (by kernel_rfl) (by kernel_rfl) (fun _ _ _ h => h) (by rfl) (v := ?_) ?_ (by assumption) ?_
      rotate_left 1
      · intro w' hS'; (try dsimp only at hS'); go_simp; try with_reducible rfl
      try simp only [Act.put, List.setIfInBounds_toArray, List.set_cons_zero, List.set_cons_succ]
      refine tail_last 11 rfl (by kernel_rfl) (by kernel_rfl) rfl rfl (fun K' hK => ?_)
      go_simp
      refine hK.out _ _ ?_
      clear hK K'
      try simp only [Act.put, List.setIfInBounds_toArray, List.set_cons_zero, List.set_cons_succ]
      have HS9 := hide (set1_src HS3.out hgN 5 (.int .i64 x))
      have HZ9 := hide (show YRow (w3.setCell ⟨N, 5, none⟩ (.int .i64 x)) w.heap.size 0 0 0 0 0 0 from row_set HZ3.out (by omega))
      have HF9 := hide (show YRow (w3.setCell ⟨N, 5, none⟩ (.int .i64 x)) N p k γ D K x from heap_setCell_same _ N 5 _ _ _ HF3.out)
      have HG9 := hide (grown_set2 HG3.out N 5 (.int .i64 x) (by omega))
      clear d0 d1 d2 d3 d4 d5 e0 e1 e2 e3 e4 e5
      obtain ⟨z0, z1, z2, z3, z4, z5, f0, f1, f2, f3, f4, f5⟩ := row6c HZ9.out
      obtain ⟨d0, d1, d2, d3, d4, d5, e0, e1, e2, e3, e4, e5⟩ := row6c HF9.out
      have hz9 := row_set6 HZ9.out (.int .i64 p) (.int .i64 k) (.int .i64 γ) (.int .i64 D) (.int .i64 K) (.int .i64 x)
      unfold set6 at hz9
      obtain ⟨y0, y1, y2, y3, y4, y5, -, -, -, -, -, -⟩ := row6c hz9
      clear hz9
      go_wp2_with fail
      refine bodyPost_ret (v := .agg #[.int .i64 p, .int .i64 k, .int .i64 γ, .int .i64 D, .int .i64 K, .int .i64 x]) (by simp [results, Try.results41, go_sem, y0, y1, y2, y3, y4, y5]) rfl ⟨p, k, γ, D, K, x, rfl, by omega, by omega, by omega, by omega, by omega, by omega, src_set6 HS9.out hgl _ _ _ _ _ _, grown_set6 HG9.out _ (Nat.le_refl _) _ _ _ _ _ _⟩
  by_cases hc1 : y = 1
  · subst hc1
    go_wp2_with fail
    refine (next_any g Bc A n c code 3 _ (HS2.out.still (World.grownBy_alloc w2 (.cells #[.int .i64 0, .int .i64 64, .int .i64 65] 2) none) (by simp)) (by omega)).mono ?_
    rintro e w3 ⟨r, rfl, hr0, hr1, hs, hg⟩
    obtain ⟨r, rfl⟩ : ∃ m : Nat, r = m := ⟨r.toNat, by omega⟩
    have hr2 : (r : Int) < 3 := by omega
    have HS3 := hide hs
    have HZ3 := hide (show YRow w3 w.heap.size 0 0 0 0 0 0 from row_grown (row_old HZ2.out (.cells #[.int .i64 0, .int .i64 64, .int .i64 65] 2)) hg (by omega))
    have HF3 := hide (show YRow w3 N p k γ D K C from row_grown (row_old HF2.out (.cells #[.int .i64 0, .int .i64 64, .int .i64 65] 2)) hg (by omega))
    have HG3 := hide (grown_trans (grown_alloc HG2.out (.cells #[.int .i64 0, .int .i64 64, .int .i64 65] 2)) hg)
    obtain ⟨x, hx, hxb⟩ : ∃ x, w3.cell? ⟨w2.heap.size, r, none⟩ = some (.int .i64 x) ∧ 0 ≤ x ∧ x ≤ 3000 := by
      have hwd : g < w2.heap.size := HS2.out.lt
      rw [grown_cell hg (by simp) (fun h => by simp at h; omega), World.cell?_alloc_at _ _ _ _ rfl]
      rcases (show r = 0 ∨ r = 1 ∨ r = 2 by omega) with rfl | rfl | rfl
      · exact ⟨0, rfl, by omega⟩
      · exact ⟨64, rfl, by omega⟩
      · exact ⟨65, rfl, by omega⟩
    clear hs hg z0 z1 z2 z3 z4 z5 f0 f1 f2 f3 f4 f5 d0 d1 d2 d3 d4 d5 e0 e1 e2 e3 e4 e5
    obtain ⟨z0, z1, z2, z3, z4, z5, f0, f1, f2, f3, f4, f5⟩ := row6c HZ3.out
    obtain ⟨d0, d1, d2, d3, d4, d5, e0, e1, e2, e3, e4, e5⟩ := row6c HF3.out
    have HS9 := hide (set1_src HS3.out hgN 4 (.int .i64 x))
    have HZ9 := hide (show YRow (w3.setCell ⟨N, 4, none⟩ (.int .i64 x)) w.heap.size 0 0 0 0 0 0 from row_set HZ3.out (by omega))
    have HF9 := hide (show YRow (w3.setCell ⟨N, 4, none⟩ (.int .i64 x)) N p k γ D x C from heap_setCell_same _ N 4 _ _ _ HF3.out)
    have HG9 := hide (grown_set2 HG3.out N 4 (.int .i64 x) (by omega))
    clear hy0
    obtain ⟨z0, z1, z2, z3, z4, z5, f0, f1, f2, f3, f4, f5⟩ := row6c HZ9.out
    obtain ⟨d0, d1, d2, d3, d4, d5, e0, e1, e2, e3, e4, e5⟩ := row6c HF9.out
    have hz9 := row_set6 HZ9.out (.int .i64 p) (.int .i64 k) (.int .i64 γ) (.int .i64 D) (.int .i64 x) (.int .i64 C)
    unfold set6 at hz9
    obtain ⟨y0, y1, y2, y3, y4, y5, -, -, -, -, -, -⟩ := row6c hz9
    clear hz9
    go_wp2_with fail
    refine bodyPost_ret (v := .agg #[.int .i64 p, .int .i64 k, .int .i64 γ, .int .i64 D, .int .i64 x, .int .i64 C]) (by simp [results, Try.results41, go_sem, y0, y1, y2, y3, y4, y5]) rfl ⟨p, k, γ, D, x, C, rfl, by omega, by omega, by omega, by omega, by omega, by omega, src_set6 HS9.out hgl _ _ _ _ _ _, grown_set6 HG9.out _ (Nat.le_refl _) _ _ _ _ _ _⟩
  by_cases hc2 : y = 2
  · subst hc2
    go_wp2_with fail
    refine (drawAny g Bc A n c code _ HS2.out).mono ?_
    rintro e w3 ⟨p', k', γ', rfl, hs, hg⟩
    have HS3 := hide hs
    have HZ3 := hide (show YRow w3 w.heap.size 0 0 0 0 0 0 from row_grown HZ2.out hg (by omega))
    have HF3 := hide (show YRow w3 N p k γ D K C from row_grown HF2.out hg (by omega))
    have HG3 := hide (grown_trans HG2.out hg)
    clear hs hg z0 z1 z2 z3 z4 z5 f0 f1 f2 f3 f4 f5 d0 d1 d2 d3 d4 d5 e0 e1 e2 e3 e4 e5
    obtain ⟨z0, z1, z2, z3, z4, z5, f0, f1, f2, f3, f4, f5⟩ := row6c HZ3.out
    obtain ⟨d0, d1, d2, d3, d4, d5, e0, e1, e2, e3, e4, e5⟩ := row6c HF3.out
    have HS9 := hide (set1_src (set1_src (set1_src HS3.out hgN 0 (.int .i64 p')) hgN 1 (.int .i64 k')) hgN 2 (.int .i64 γ'))
    have HZ9 := hide (show YRow (((w3.setCell ⟨N, 0, none⟩ (.int .i64 p')).setCell ⟨N, 1, none⟩ (.int .i64 k')).setCell ⟨N, 2, none⟩ (.int .i64 γ')) w.heap.size 0 0 0 0 0 0 from row_set (row_set (row_set HZ3.out (by omega)) (by omega)) (by omega))
    have HF9 := hide (show YRow (((w3.setCell ⟨N, 0, none⟩ (.int .i64 p')).setCell ⟨N, 1, none⟩ (.int .i64 k')).setCell ⟨N, 2, none⟩ (.int .i64 γ')) N p' k' γ' D K C from heap_setCell_same _ N 2 _ _ _ (heap_setCell_same _ N 1 _ _ _ (heap_setCell_same _ N 0 _ _ _ HF3.out)))
    have HG9 := hide (grown_set2 (grown_set2 (grown_set2 HG3.out N 0 (.int .i64 p') (by omega)) N 1 (.int .i64 k') (by omega)) N 2 (.int .i64 γ') (by omega))
    clear hy0
    obtain ⟨z0, z1, z2, z3, z4, z5, f0, f1, f2, f3, f4, f5⟩ := row6c HZ9.out
    obtain ⟨d0, d1, d2, d3, d4, d5, e0, e1, e2, e3, e4, e5⟩ := row6c HF9.out
    have hz9 := row_set6 HZ9.out (.int .i64 p') (.int .i64 k') (.int .i64 γ') (.int .i64 D) (.int .i64 K) (.int .i64 C)
    unfold set6 at hz9
    obtain ⟨y0, y1, y2, y3, y4, y5, -, -, -, -, -, -⟩ := row6c hz9
    clear hz9
    go_wp2_with fail
    refine bodyPost_ret (v := .agg #[.int .i64 p', .int .i64 k', .int .i64 γ', .int .i64 D, .int .i64 K, .int .i64 C]) (by simp [results, Try.results41, go_sem, y0, y1, y2, y3, y4, y5]) rfl ⟨p', k', γ', D, K, C, rfl, by omega, by omega, by omega, by omega, by omega, by omega, src_set6 HS9.out hgl _ _ _ _ _ _, grown_set6 HG9.out _ (Nat.le_refl _) _ _ _ _ _ _⟩
  by_cases hc3 : y = 3
  · subst hc3
    go_wp2_with fail
    refine (specFieldOf 256 _).mono ?_
    rintro e w3 ⟨rfl, hb⟩
    have HS3 := hide (HS2.out.below hb HS2.out.lt)
    have HZ3 := hide (show YRow w3 w.heap.size 0 0 0 0 0 0 from HZ2.out.next hb)
    have HF3 := hide (show YRow w3 N p k γ D K C from HF2.out.next hb)
    have HG3 := hide (grown_below HG2.out hb HG2.out.size)
    clear hb z0 z1 z2 z3 z4 z5 f0 f1 f2 f3 f4 f5 d0 d1 d2 d3 d4 d5 e0 e1 e2 e3 e4 e5
    generalize foP 256 = p'
    generalize foK 256 = k'
    generalize foG 256 = γ'
    generalize foC 256 = cc
    have hN3 : N < w3.heap.size := (Array.getElem?_eq_some_iff.1 HF3.out).1
    go_wp2_with fail
    have HF4 := hide (heap_alloc_new w3 (.cells #[.int .i64 p', .int .i64 k', .int .i64 γ'] 25 (0, 0)))
    have HS4 := hide (HS3.out.still (World.grownBy_alloc w3 (.cells #[.int .i64 p', .int .i64 k', .int .i64 γ'] 25) none) (by simp))
    have HZ4 := hide (show YRow (w3.alloc (.cells #[.int .i64 p', .int .i64 k', .int .i64 γ'] 25)) w.heap.size 0 0 0 0 0 0 from row_old HZ3.out _)
    have HL4 := hide (show YRow (w3.alloc (.cells #[.int .i64 p', .int .i64 k', .int .i64 γ'] 25)) N p k γ D K C from row_old HF3.out _)
    have HG4 := hide (grown_alloc HG3.out (.cells #[.int .i64 p', .int .i64 k', .int .i64 γ'] 25))
    obtain ⟨w4, hw4⟩ : ∃ w4, w4 = w3.alloc (.cells #[.int .i64 p', .int .i64 k', .int .i64 γ'] 25) := ⟨_, rfl⟩
    rw [← hw4] at HF4 HS4 HZ4 HL4 HG4 ⊢
    obtain ⟨M, hM⟩ : ∃ M, M = w3.heap.size := ⟨_, rfl⟩
    rw [← hM] at HF4 hN3 ⊢
    clear hw4 hM HS3 HZ3 HF3 HG3
    refine tail_begin (fun w' => w'.cell? ⟨M, 0, none⟩ = some (.int .i64 p') ∧ w'.cell? ⟨M, 1, none⟩ = some (.int .i64 k') ∧ w'.cell? ⟨M, 2, none⟩ = some (.int .i64 γ')) 5 (by kernel_rfl) (cells3 HF4.out) (fun hS' => ?_)
    refine tail_take 0 rfl (by kernel_rfl) (by kernel_rfl) (by kernel_rfl) (by kernel_rfl) (fun _ _ _ h => h) (by rfl) (v := ?_) ?_ (by assumption) ?_
    rotate_left 1
    · intro w' hS'; obtain ⟨q0, q1, q2⟩ := hS'; go_simp; try with_reducible rfl
    try simp only [Act.put, List.setIfInBounds_toArray, List.set_cons_zero, List.set_cons_succ]
    refine tail_take 1 rfl (by kernel_rfl) (by kernel_rfl) (by kernel_rfl) (by kernel_rfl) (fun _ _ _ h => h) (by rfl) (v := ?_) ?_ (by assumption) ?_
    rotate_left 1
    · intro w' hS'; obtain ⟨q0, q1, q2⟩ := hS'; go_simp; try with_reducible rfl
    try simp only [Act.put, List.setIfInBounds_toArray, List.set_cons_zero, List.set_cons_succ]
    refine tail_call 2 rfl (by kernel_rfl) rfl (fun K' hK => ?_)
    go_simp
    go_at_call 70; refine (next_any g Bc A n c code 40 _ HS4.out.drew' (by omega)).mono ?_; rintro e w5 ⟨v, rfl, hv0, hv1, hs, hg⟩; have hv6 : v ≤ 40 := (by omega); have HF5 := hide (row_grown (w := w4.drew) HF4.out hg (by omega)); have HS5 := hide hs; have HZ5 := hide (show YRow w5 w.heap.size 0 0 0 0 0 0 from row_grown (w := w4.drew) HZ4.out hg (by omega)); have HL5 := hide (show YRow w5 N p k γ D K C from row_grown (w := w4.drew) HL4.out hg (by omega)); have HG5 := hide (grown_trans (grown_drew HG4.out) hg); clear hs hg hv1
    refine hK.out _ _ (by (try dsimp only); exact cells3 HF5.out) (fun hS' => ?_)
    clear hK K'
    try simp only [Act.put, List.setIfInBounds_toArray, List.set_cons_zero, List.set_cons_succ]
    have hwv : IntKind.i64.wrap (1470 + v) = 1470 + v := IntWalk.i64_in _ ⟨by omega, by omega⟩
    refine tail_take 3 rfl (by kernel_rfl) (by kernel_rfl) (by kernel_rfl) (by kernel_rfl) (fun _ _ _ h => h) (by rfl) (v := ?_) ?_ (by assumption) ?_
    rotate_left 1
    · intro w' hS'; obtain ⟨q0, q1, q2⟩ := hS'; go_simp; try with_reducible rfl
    try simp only [Act.put, List.setIfInBounds_toArray, List.set_cons_zero, List.set_cons_succ]
    refine tail_take 4 rfl (by kernel_rfl) (by kernel_rfl) (by kernel_rfl) (by kernel_rfl) (fun _ _ _ h => h) (by rfl) (v := ?_) ?_ (by assumption) ?_
    rotate_left 1
    · intro w' hS'; obtain ⟨q0, q1, q2⟩ := hS'; go_simp; try with_reducible rfl
    try simp only [Act.put, List.setIfInBounds_toArray, List.set_cons_zero, List.set_cons_succ]
    obtain ⟨d0, d1, d2, d3, d4, d5, e0, e1, e2, e3, e4, e5⟩ := row6c HL5.out
    refine tail_last 5 rfl (by kernel_rfl) (by kernel_rfl) rfl rfl (fun K' hK => ?_)
    go_simp
    refine hK.out _ _ ?_
    clear hK K'
    try simp only [Act.put, List.setIfInBounds_toArray, List.set_cons_zero, List.set_cons_succ]
    have HF9 := hide (row_set6 HL5.out (.int .i64 p') (.int .i64 k') (.int .i64 γ') (.int .i64 (1470 + v)) (.int .i64 2) (.int .i64 10))
    have HS9 := hide (src_set6 HS5.out hgN (.int .i64 p') (.int .i64 k') (.int .i64 γ') (.int .i64 (1470 + v)) (.int .i64 2) (.int .i64 10))
    have HG9 := hide (grown_set6 HG5.out N (by omega) (.int .i64 p') (.int .i64 k') (.int .i64 γ') (.int .i64 (1470 + v)) (.int .i64 2) (.int .i64 10))
    have HZ9 := hide (show YRow (set6 w5 N (.int .i64 p') (.int .i64 k') (.int .i64 γ') (.int .i64 (1470 + v)) (.int .i64 2) (.int .i64 10)) w.heap.size 0 0 0 0 0 0 by
      unfold set6
      exact row_set (row_set (row_set (row_set (row_set (row_set HZ5.out (by omega)) (by omega)) (by omega)) (by omega)) (by omega)) (by omega))
    have hfold : ((((((w5.setCell ⟨N, 0, none⟩ (.int .i64 p')).setCell ⟨N, 1, none⟩ (.int .i64 k')).setCell ⟨N, 2, none⟩ (.int .i64 γ')).setCell ⟨N, 3, none⟩ (.int .i64 (1470 + v))).setCell ⟨N, 4, none⟩ (.int .i64 2)).setCell ⟨N, 5, none⟩ (.int .i64 10)) = set6 w5 N (.int .i64 p') (.int .i64 k') (.int .i64 γ') (.int .i64 (1470 + v)) (.int .i64 2) (.int .i64 10) := rfl
    rw [hfold]
    generalize set6 w5 N (.int .i64 p') (.int .i64 k') (.int .i64 γ') (.int .i64 (1470 + v)) (.int .i64 2) (.int .i64 10) = w9 at HF9 HS9 HG9 HZ9 ⊢
    clear hfold
    clear d0 d1 d2 d3 d4 d5 e0 e1 e2 e3 e4 e5
    obtain ⟨z0, z1, z2, z3, z4, z5, f0, f1, f2, f3, f4, f5⟩ := row6c HZ9.out
    obtain ⟨d0, d1, d2, d3, d4, d5, e0, e1, e2, e3, e4, e5⟩ := row6c HF9.out
    have hz9 := row_set6 HZ9.out (.int .i64 p') (.int .i64 k') (.int .i64 γ') (.int .i64 (1470 + v)) (.int .i64 2) (.int .i64 10)
    unfold set6 at hz9
    obtain ⟨y0, y1, y2, y3, y4, y5, -, -, -, -, -, -⟩ := row6c hz9
    clear hz9
    go_wp2_with fail
    refine bodyPost_ret (v := .agg #[.int .i64 p', .int .i64 k', .int .i64 γ', .int .i64 (1470 + v), .int .i64 2, .int .i64 10]) (by simp [results, Try.results41, go_sem, y0, y1, y2, y3, y4, y5]) rfl ⟨p', k', γ', 1470 + v, 2, 10, rfl, by omega, by omega, by omega, by omega, by omega, by omega, src_set6 HS9.out hgl _ _ _ _ _ _, grown_set6 HG9.out _ (Nat.le_refl _) _ _ _ _ _ _⟩
  · have e1' : (y == 0) = false := by simpa using hc0
    have e2' : (y == 1) = false := by simpa using hc1
    have e3' : (y == 2) = false := by simpa using hc2
    have e4' : (y == 3) = false := by simpa using hc3
    clear hc0 hc1 hc2 hc3
    obtain ⟨z0, z1, z2, z3, z4, z5, f0, f1, f2, f3, f4, f5⟩ := row6c HZ2.out
    obtain ⟨d0, d1, d2, d3, d4, d5, e0, e1, e2, e3, e4, e5⟩ := row6c HF2.out
    have hz9 := row_set6 HZ2.out (.int .i64 p) (.int .i64 k) (.int .i64 γ) (.int .i64 D) (.int .i64 K) (.int .i64 C)
    unfold set6 at hz9
    obtain ⟨y0, y1, y2, y3, y4, y5, -, -, -, -, -, -⟩ := row6c hz9
    clear hz9
    go_wp2_with fail
    refine bodyPost_ret (v := .agg #[.int .i64 p, .int .i64 k, .int .i64 γ, .int .i64 D, .int .i64 K, .int .i64 C]) (by simp [results, Try.results41, go_sem, y0, y1, y2, y3, y4, y5]) rfl ⟨p, k, γ, D, K, C, rfl, by omega, by omega, by omega, by omega, by omega, by omega, src_set6 HS2.out hgl _ _ _ _ _ _, grown_set6 HG2.out _ (Nat.le_refl _) _ _ _ _ _ _⟩

end Go.Proofs.Ytkdpkbnhckpnoaa
