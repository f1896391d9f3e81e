/-
  The contract of the draw of any code: what is drawn lies in bounds; only the source's own block changes.
  Condition: the code has at most 4096 bytes.
-/
import Derived.Test.YtdniocdmncldjaaGreatJR
import Derived.Test.YtdniocdmncldjaaGreatTail2
namespace Go.Proofs.YtdniocdmncldjaaGreat
open Go.RowKit
set_option linter.unusedVariables false
set_option linter.unusedSimpArgs false

set_option maxRecDepth 100000 in
set_option maxHeartbeats 8000000 in
theorem drawCodeAny (g Bc : Nat) (A : Option Addr) (n c : Nat) (code : List Int) (w : World) (hS : Src w g Bc A n c code) :
    Calls Tryz.prog 34 #[.pointer (some ⟨g, 0, none⟩)] w (DrawnC false g Bc A n c code w) := by
  have hgl := hS.lt
  have HS := hide ((hS.still (World.grownBy_alloc w (.cells #[.int .i64 0, .int .i64 0, .int .i64 0, .int .i64 0, .int .i64 0] 27) none) (by simp)))
  have HZ := hide (Row5.start w 0 0 0 0 0)
  clear hS
  go_enter Tryz.func34, Tryz.ntmps34
  go_wp2_with fail
  refine (drawCodeV g Bc A n c code _ HS.out).mono ?_
  rintro e w1 ⟨p, k, γ, L, C, rfl, hv, hL0, hL1, hC0, hC1, hs, hg⟩
  obtain ⟨hfv, hL2, _⟩ := hv rfl
  have HV := hide hfv
  have HS1 := hide (hs.still (World.grownBy_alloc w1 (.cells #[.int .i64 p, .int .i64 k, .int .i64 γ, .int .i64 L, .int .i64 C] 27) none) (by simp))
  have HZ1 := hide ((HZ.out.src hg (by omega)).alloc (.cells #[.int .i64 p, .int .i64 k, .int .i64 γ, .int .i64 L, .int .i64 C] 27))
  have HG1 := hide (grown_alloc (grown_trans (World.grownBy_alloc w _ (some g)) hg) (.cells #[.int .i64 p, .int .i64 k, .int .i64 γ, .int .i64 L, .int .i64 C] 27))
  have HF1 := hide (Row5.start w1 p k γ L C)
  have hl1 : w.heap.size < w1.heap.size := (HZ.out.src hg (by omega)).lt
  clear hs hg hv hfv
  go_wp2_with fail
  refine (next_any g Bc A n c code 30 _ HS1.out (by omega)).mono ?_
  rintro e w2 ⟨y, rfl, hy0, hy1, hs, hg⟩
  obtain ⟨N, hN⟩ : ∃ N, N = w1.heap.size := ⟨_, rfl⟩
  rw [← hN] at HF1 hl1 ⊢
  have hgN : g < N := by omega
  have HS2 := hide hs
  have HZ2 := hide (HZ1.out.src hg (by omega))
  have HF2 := hide (HF1.out.src hg (by omega))
  have HG2 := hide (grown_trans HG1.out hg)
  clear hs hg hN HS1 HZ1 HF1 HG1 HS HZ
  obtain ⟨z0, z1, z2, z3, z4, f0, f1, f2, f3, f4⟩ := row5 HZ2.out
  obtain ⟨d0, d1, d2, d3, d4, e0, e1, e2, e3, e4⟩ := row5 HF2.out
  have hwN : w.heap.size < N := hl1
  by_cases hz0 : y = 0
  · subst hz0
    go_wp2_with fail
    refine (drawAny g Bc A n c code _ HS2.out).mono ?_
    rintro e w3 ⟨p', k', γ', rfl, hs, hg⟩
    have HS3 := hide hs
    have HZ3 := hide (HZ2.out.src hg (by omega))
    have HF3 := hide (HF2.out.src hg (by omega))
    have HG3 := hide (grown_trans HG2.out hg)
    clear hs hg z0 z1 z2 z3 z4 f0 f1 f2 f3 f4 d0 d1 d2 d3 d4 e0 e1 e2 e3 e4
    obtain ⟨z0, z1, z2, z3, z4, f0, f1, f2, f3, f4⟩ := row5 HZ3.out
    obtain ⟨d0, d1, d2, d3, d4, e0, e1, e2, e3, e4⟩ := row5 HF3.out
    go_wp2_with fail
    refine bodyPost_ret (v := .agg #[.int .i64 p', .int .i64 k', .int .i64 γ', .int .i64 L, .int .i64 C]) (by simp [results, Tryz.results34, go_sem, z0, z1, z2, z3, z4]) rfl ⟨p', k', γ', L, C, rfl, (fun h => by cases h), by omega, by omega, by omega, by omega, src_sets (set3_src HS3.out hgN _ _ _) hgl _ _ _ _ _, grown_sets (set3_grown HG3.out N (by omega) _ _ _) _ (Nat.le_refl _) _ _ _ _ _⟩
  by_cases hz1 : y = 1
  · subst hz1
    have hw1 : IntKind.i64.wrap (L - 1) = L - 1 := IntWalk.i64_in _ ⟨by omega, by omega⟩
    go_wp2_with fail
    clear z0 z1 z2 z3 z4 f0 f1 f2 f3 f4 d0 d1 d2 d3 d4 e0 e1 e2 e3 e4
    refine tail_begin (fun w' => w'.cell? ⟨N, 3, none⟩ = some (.int .i64 L)) 11 (by kernel_rfl) (row5 HF2.out.drew).2.2.2.1 (fun hS' => ?_)
    have HSd := hide (HS2.out.drew')
    have HZd := hide HZ2.out.drew
    have HFd := hide HF2.out.drew
    have HGd := hide (grown_drew HG2.out)
    obtain ⟨wd, hwd⟩ : ∃ wd, wd = w2.drew := ⟨_, rfl⟩
    rw [← hwd] at hS' HSd HZd HFd HGd ⊢
    clear hwd HS2 HZ2 HF2 HG2
    refine tail_take 0 rfl (by kernel_rfl) (by kernel_rfl) (by kernel_rfl) (by kernel_rfl) (fun _ _ _ h => h) (by rfl) (v := ?_) ?_ (by assumption) ?_
    rotate_left 1
    · intro w' hS'; (try dsimp only at hS'); go_simp; try with_reducible rfl
    try simp only [Act.put, List.setIfInBounds_toArray, List.set_cons_zero, List.set_cons_succ]
    refine tail_take 1 rfl (by kernel_rfl) (by kernel_rfl) (by kernel_rfl) (by kernel_rfl) (fun _ _ _ h => h) (by rfl) (v := ?_) ?_ (by assumption) ?_
    rotate_left 1
    · intro w' hS'; (try dsimp only at hS'); go_simp; try with_reducible rfl
    try simp only [Act.put, List.setIfInBounds_toArray, List.set_cons_zero, List.set_cons_succ]
    refine tail_take 2 rfl (by kernel_rfl) (by kernel_rfl) (by kernel_rfl) (by kernel_rfl) (fun _ _ _ h => h) (by rfl) (v := ?_) ?_ (by assumption) ?_
    rotate_left 1
    · intro w' hS'; (try dsimp only at hS'); go_simp; try with_reducible rfl
    try simp only [Act.put, List.setIfInBounds_toArray, List.set_cons_zero, List.set_cons_succ]
    refine tail_take 3 rfl (by kernel_rfl) (by kernel_rfl) (by kernel_rfl) (by kernel_rfl) (fun _ _ _ h => h) (by rfl) (v := ?_) ?_ (by assumption) ?_
    rotate_left 1
    · intro w' hS'; (try dsimp only at hS'); go_simp; try with_reducible rfl
    try simp only [Act.put, List.setIfInBounds_toArray, List.set_cons_zero, List.set_cons_succ]
    refine tail_take 4 rfl (by kernel_rfl) (by kernel_rfl) (by kernel_rfl) (by kernel_rfl) (fun _ _ _ h => h) (by rfl) (v := ?_) ?_ (by assumption) ?_
    rotate_left 1
    · intro w' hS'; (try dsimp only at hS'); go_simp; try with_reducible rfl
    try simp only [Act.put, List.setIfInBounds_toArray, List.set_cons_zero, List.set_cons_succ]
    refine tail_take 6 rfl (by kernel_rfl) (by kernel_rfl) (by kernel_rfl) (by kernel_rfl) (fun _ _ _ h => h) (by rfl) (v := ?_) ?_ (by assumption) ?_
    rotate_left 1
    · intro w' hS'; (try dsimp only at hS'); go_simp; try with_reducible rfl
    try simp only [Act.put, List.setIfInBounds_toArray, List.set_cons_zero, List.set_cons_succ]
    refine tail_two 5 7 rfl rfl (by kernel_rfl) rfl rfl (fun K hK => ?_) (fun K hK => ?_)
    · go_simp
      refine hK.out _ _ (by (try dsimp only); exact (row5 (HFd.out.alloc _)).2.2.2.1) (fun hS' => ?_)
      clear hK K
      try simp only [Act.put, List.setIfInBounds_toArray, List.set_cons_zero, List.set_cons_succ]
      refine tail_call 7 rfl (by kernel_rfl) rfl (fun K hK => ?_)
      go_simp
      (go_at_call 37; refine (next_any g Bc A n c code 4 _ (HSd.out.still (World.grownBy_alloc wd (.cells #[.int .i64 0, .int .i64 L, .int .i64 (L - 1), .int .i64 65] 2) none) (by simp)) (by omega)).mono ?_; rintro e w3 ⟨r, rfl, hr0, hr1, hs, hg⟩; obtain ⟨r, rfl⟩ : ∃ m : Nat, r = m := ⟨r.toNat, by omega⟩; have hr2 : (r : Int) < 4 := (by omega); have HS3 := hide hs; have HZ3 := hide ((HZd.out.alloc (.cells #[.int .i64 0, .int .i64 L, .int .i64 (L - 1), .int .i64 65] 2)).src hg (by omega)); have HF3 := hide ((HFd.out.alloc (.cells #[.int .i64 0, .int .i64 L, .int .i64 (L - 1), .int .i64 65] 2)).src hg (by omega)); have HG3 := hide (grown_trans (grown_alloc HGd.out (.cells #[.int .i64 0, .int .i64 L, .int .i64 (L - 1), .int .i64 65] 2)) hg))
      refine hK.out _ _ (by (try dsimp only); exact (row5 HF3.out).2.2.2.1) (fun hS' => ?_)
      clear hK K
      try simp only [Act.put, List.setIfInBounds_toArray, List.set_cons_zero, List.set_cons_succ]
      obtain ⟨x, hx, hxb⟩ : ∃ x, w3.cell? ⟨wd.heap.size, r, none⟩ = some (.int .i64 x) ∧ 0 ≤ x ∧ x ≤ 3000 := by
        rw [grown_cell hg (by simp) (fun h => by simp at h; have := HSd.out.lt; omega), World.cell?_alloc_at _ _ _ _ rfl]
        rcases (show r = 0 ∨ r = 1 ∨ r = 2 ∨ r = 3 by omega) with rfl | rfl | rfl | rfl <;> exact ⟨_, rfl, by omega⟩
      clear hs hg
      refine tail_take 8 rfl (by kernel_rfl) (by kernel_rfl) (by kernel_rfl) (by kernel_rfl) (fun _ _ _ h => h) (by rfl) (v := ?_) ?_ (by assumption) ?_
      rotate_left 1
      · intro w' hS'; (try dsimp only at hS'); go_simp; try with_reducible rfl
      try simp only [Act.put, List.setIfInBounds_toArray, List.set_cons_zero, List.set_cons_succ]
      refine tail_call 9 rfl (by kernel_rfl) rfl (fun K hK => ?_)
      go_simp
      refine hK.out _ _ (by (try dsimp only); exact (row5 HF3.out).2.2.2.1) (fun hS' => ?_)
      clear hK K
      try simp only [Act.put, List.setIfInBounds_toArray, List.set_cons_zero, List.set_cons_succ]
      obtain ⟨d0, d1, d2, d3, d4, e0, e1, e2, e3, e4⟩ := row5 HF3.out
      refine tail_take 10 rfl (by kernel_rfl) (by kernel_rfl) (by kernel_rfl) (by kernel_rfl) (fun _ _ _ h => h) (by rfl) (v := ?_) ?_ (by assumption) ?_
      rotate_left 1
      · intro w' hS'; (try dsimp only at hS'); go_simp; try with_reducible rfl
      try simp only [Act.put, List.setIfInBounds_toArray, List.set_cons_zero, List.set_cons_succ]
      refine tail_last 11 rfl (by kernel_rfl) (by kernel_rfl) rfl rfl (fun K hK => ?_)
      go_simp
      refine hK.out _ _ ?_
      clear hK K
      try simp only [Act.put, List.setIfInBounds_toArray, List.set_cons_zero, List.set_cons_succ]
      have HSe := hide (set1_src HS3.out hgN 4 (.int .i64 x))
      have HZe := hide (HZ3.out.own (grown_set (World.grownBy.refl w3 (some N)) 4 (.int .i64 x)) (fun b hb => by injection hb with hb; omega))
      have HFe := hide (show Row5 (w3.setCell ⟨N, 4, none⟩ (.int .i64 x)) N p k γ L x from heap_setCell_same _ N 4 _ _ _ HF3.out)
      have HGe := hide (grown_set2 HG3.out N 4 (.int .i64 x) (by omega))
      clear d0 d1 d2 d3 d4 e0 e1 e2 e3 e4
      obtain ⟨z0, z1, z2, z3, z4, f0, f1, f2, f3, f4⟩ := row5 HZe.out
      obtain ⟨d0, d1, d2, d3, d4, e0, e1, e2, e3, e4⟩ := row5 HFe.out
      go_wp2_with fail
      refine bodyPost_ret (v := .agg #[.int .i64 p, .int .i64 k, .int .i64 γ, .int .i64 L, .int .i64 x]) (by simp [results, Tryz.results34, go_sem, z0, z1, z2, z3, z4]) rfl ⟨p, k, γ, L, x, rfl, (fun h => by cases h), by omega, by omega, by omega, by omega, src_sets HSe.out hgl _ _ _ _ _, grown_sets HGe.out _ (Nat.le_refl _) _ _ _ _ _⟩
    · go_simp
      (go_at_call 37; refine (next_any g Bc A n c code 4 _ HSd.out (by omega)).mono ?_; rintro e w3 ⟨r, rfl, hr0, hr1, hs, hg⟩; obtain ⟨r, rfl⟩ : ∃ m : Nat, r = m := ⟨r.toNat, by omega⟩; have hr2 : (r : Int) < 4 := (by omega); have HS3 := hide hs; have HZ3 := hide (HZd.out.src hg (by omega)); have HF3 := hide (HFd.out.src hg (by omega)); have HG3 := hide (grown_trans HGd.out hg); clear hs hg)
      refine hK.out _ _ (by (try dsimp only); exact (row5 HF3.out).2.2.2.1) (fun hS' => ?_)
      clear hK K
      try simp only [Act.put, List.setIfInBounds_toArray, List.set_cons_zero, List.set_cons_succ]
      refine tail_call 5 rfl (by kernel_rfl) rfl (fun K hK => ?_)
      go_simp
      refine hK.out _ _ (by (try dsimp only); exact (row5 (HF3.out.alloc _)).2.2.2.1) (fun hS' => ?_)
      clear hK K
      try simp only [Act.put, List.setIfInBounds_toArray, List.set_cons_zero, List.set_cons_succ]
      obtain ⟨x, hx, hxb⟩ : ∃ x, (w3.alloc (.cells #[.int .i64 0, .int .i64 L, .int .i64 (L - 1), .int .i64 65] 2)).cell? ⟨w3.heap.size, r, none⟩ = some (.int .i64 x) ∧ 0 ≤ x ∧ x ≤ 3000 := by
        rw [World.cell?_alloc_at _ _ _ _ rfl]
        rcases (show r = 0 ∨ r = 1 ∨ r = 2 ∨ r = 3 by omega) with rfl | rfl | rfl | rfl <;> exact ⟨_, rfl, by omega⟩
      refine tail_take 8 rfl (by kernel_rfl) (by kernel_rfl) (by kernel_rfl) (by kernel_rfl) (fun _ _ _ h => h) (by rfl) (v := ?_) ?_ (by assumption) ?_
      rotate_left 1
      · intro w' hS'; (try dsimp only at hS'); go_simp; try with_reducible rfl
      try simp only [Act.put, List.setIfInBounds_toArray, List.set_cons_zero, List.set_cons_succ]
      refine tail_call 9 rfl (by kernel_rfl) rfl (fun K hK => ?_)
      go_simp
      refine hK.out _ _ (by (try dsimp only); exact (row5 (HF3.out.alloc _)).2.2.2.1) (fun hS' => ?_)
      clear hK K
      try simp only [Act.put, List.setIfInBounds_toArray, List.set_cons_zero, List.set_cons_succ]
      have HS4 := hide (HS3.out.still (World.grownBy_alloc w3 (.cells #[.int .i64 0, .int .i64 L, .int .i64 (L - 1), .int .i64 65] 2) none) (by simp))
      have HZ4 := hide (HZ3.out.alloc (.cells #[.int .i64 0, .int .i64 L, .int .i64 (L - 1), .int .i64 65] 2))
      have HF4 := hide (HF3.out.alloc (.cells #[.int .i64 0, .int .i64 L, .int .i64 (L - 1), .int .i64 65] 2))
      have HG4 := hide (grown_alloc HG3.out (.cells #[.int .i64 0, .int .i64 L, .int .i64 (L - 1), .int .i64 65] 2))
      generalize w3.alloc (.cells #[.int .i64 0, .int .i64 L, .int .i64 (L - 1), .int .i64 65] 2) = w4 at HS4 HZ4 HF4 HG4 hx hS' ⊢
      obtain ⟨d0, d1, d2, d3, d4, e0, e1, e2, e3, e4⟩ := row5 HF4.out
      refine tail_take 10 rfl (by kernel_rfl) (by kernel_rfl) (by kernel_rfl) (by kernel_rfl) (fun _ _ _ h => h) (by rfl) (v := ?_) ?_ (by assumption) ?_
      rotate_left 1
      · intro w' hS'; (try dsimp only at hS'); go_simp; try with_reducible rfl
      try simp only [Act.put, List.setIfInBounds_toArray, List.set_cons_zero, List.set_cons_succ]
      refine tail_last 11 rfl (by kernel_rfl) (by kernel_rfl) rfl rfl (fun K hK => ?_)
      go_simp
      refine hK.out _ _ ?_
      clear hK K
      try simp only [Act.put, List.setIfInBounds_toArray, List.set_cons_zero, List.set_cons_succ]
      have HSe := hide (set1_src HS4.out hgN 4 (.int .i64 x))
      have HZe := hide (HZ4.out.own (grown_set (World.grownBy.refl w4 (some N)) 4 (.int .i64 x)) (fun b hb => by injection hb with hb; omega))
      have HFe := hide (show Row5 (w4.setCell ⟨N, 4, none⟩ (.int .i64 x)) N p k γ L x from heap_setCell_same _ N 4 _ _ _ HF4.out)
      have HGe := hide (grown_set2 HG4.out N 4 (.int .i64 x) (by omega))
      clear d0 d1 d2 d3 d4 e0 e1 e2 e3 e4
      obtain ⟨z0, z1, z2, z3, z4, f0, f1, f2, f3, f4⟩ := row5 HZe.out
      obtain ⟨d0, d1, d2, d3, d4, e0, e1, e2, e3, e4⟩ := row5 HFe.out
      go_wp2_with fail
      refine bodyPost_ret (v := .agg #[.int .i64 p, .int .i64 k, .int .i64 γ, .int .i64 L, .int .i64 x]) (by simp [results, Tryz.results34, go_sem, z0, z1, z2, z3, z4]) rfl ⟨p, k, γ, L, x, rfl, (fun h => by cases h), by omega, by omega, by omega, by omega, src_sets HSe.out hgl _ _ _ _ _, grown_sets HGe.out _ (Nat.le_refl _) _ _ _ _ _⟩
  by_cases hz2 : y = 2
  · subst hz2
    obtain ⟨q, mul, γ0, hKd, _⟩ := fieldB_open HV.out
    have hqb := hKd.big
    have hw1 : IntKind.i64.wrap ((q : Int) - 1) = (q : Int) - 1 := IntWalk.i64_in _ ⟨by omega, by omega⟩
    go_wp2_with fail
    clear z0 z1 z2 z3 z4 f0 f1 f2 f3 f4 d0 d1 d2 d3 d4 e0 e1 e2 e3 e4
    refine tail_begin (fun w' => w'.cell? ⟨N, 0, none⟩ = some (.int .i64 p) ∧ w'.cell? ⟨N, 1, none⟩ = some (.int .i64 k) ∧ w'.cell? ⟨N, 2, none⟩ = some (.int .i64 γ) ∧ w'.cell? ⟨N, 4, none⟩ = some (.int .i64 C)) 15 (by kernel_rfl) ⟨(row5 HF2.out.drew).1, (row5 HF2.out.drew).2.1, (row5 HF2.out.drew).2.2.1, (row5 HF2.out.drew).2.2.2.2.1⟩ (fun hS' => ?_)
    have HSd := hide (HS2.out.drew')
    have HZd := hide HZ2.out.drew
    have HFd := hide HF2.out.drew
    have HGd := hide (grown_drew HG2.out)
    obtain ⟨wd, hwd⟩ : ∃ wd, wd = w2.drew := ⟨_, rfl⟩
    rw [← hwd] at hS' HSd HZd HFd HGd ⊢
    clear hwd HS2 HZ2 HF2 HG2
    refine tail_take 0 rfl (by kernel_rfl) (by kernel_rfl) (by kernel_rfl) (by kernel_rfl) (fun _ _ _ h => h) (by rfl) (v := ?_) ?_ (by assumption) ?_
    rotate_left 1
    · intro w' hS'; (try dsimp only at hS'); go_simp; try with_reducible rfl
    try simp only [Act.put, List.setIfInBounds_toArray, List.set_cons_zero, List.set_cons_succ]
    refine tail_take 1 rfl (by kernel_rfl) (by kernel_rfl) (by kernel_rfl) (by kernel_rfl) (fun _ _ _ h => h) (by rfl) (v := ?_) ?_ (by assumption) ?_
    rotate_left 1
    · intro w' hS'; (try dsimp only at hS'); go_simp; try with_reducible rfl
    try simp only [Act.put, List.setIfInBounds_toArray, List.set_cons_zero, List.set_cons_succ]
    refine tail_take 3 rfl (by kernel_rfl) (by kernel_rfl) (by kernel_rfl) (by kernel_rfl) (fun _ _ _ h => h) (by rfl) (v := ?_) ?_ (by assumption) ?_
    rotate_left 1
    · intro w' hS'; (try dsimp only at hS'); go_simp; try with_reducible rfl
    try simp only [Act.put, List.setIfInBounds_toArray, List.set_cons_zero, List.set_cons_succ]
    refine tail_take 4 rfl (by kernel_rfl) (by kernel_rfl) (by kernel_rfl) (by kernel_rfl) (fun _ _ _ h => h) (by rfl) (v := ?_) ?_ (by assumption) ?_
    rotate_left 1
    · intro w' hS'; (try dsimp only at hS'); go_simp; try with_reducible rfl
    try simp only [Act.put, List.setIfInBounds_toArray, List.set_cons_zero, List.set_cons_succ]
    refine tail_take 7 rfl (by kernel_rfl) (by kernel_rfl) (by kernel_rfl) (by kernel_rfl) (fun _ _ _ h => h) (by rfl) (v := ?_) ?_ (by assumption) ?_
    rotate_left 1
    · intro w' hS'; (try dsimp only at hS'); go_simp; try with_reducible rfl
    try simp only [Act.put, List.setIfInBounds_toArray, List.set_cons_zero, List.set_cons_succ]
    refine tail_take 8 rfl (by kernel_rfl) (by kernel_rfl) (by kernel_rfl) (by kernel_rfl) (fun _ _ _ h => h) (by rfl) (v := ?_) ?_ (by assumption) ?_
    rotate_left 1
    · intro w' hS'; (try dsimp only at hS'); go_simp; try with_reducible rfl
    try simp only [Act.put, List.setIfInBounds_toArray, List.set_cons_zero, List.set_cons_succ]
    refine tail_take 10 rfl (by kernel_rfl) (by kernel_rfl) (by kernel_rfl) (by kernel_rfl) (fun _ _ _ h => h) (by rfl) (v := ?_) ?_ (by assumption) ?_
    rotate_left 1
    · intro w' hS'; (try dsimp only at hS'); go_simp; try with_reducible rfl
    try simp only [Act.put, List.setIfInBounds_toArray, List.set_cons_zero, List.set_cons_succ]
    refine tail_call 2 rfl (by kernel_rfl) rfl (fun K hK => ?_)
    go_simp
    (go_at_call 40; refine (specSize hKd _).mono ?_; rintro e w5 ⟨rfl, hb⟩; have HS5 := hide (HSd.out.below hb HSd.out.lt); have HZ5 := hide (HZd.out.below hb); have HF5 := hide (HFd.out.below hb); have HG5 := hide (grown_below HGd.out hb HGd.out.size); clear hb)
    refine hK.out _ _ (by (try dsimp only); exact ⟨(row5 HF5.out).1, (row5 HF5.out).2.1, (row5 HF5.out).2.2.1, (row5 HF5.out).2.2.2.2.1⟩) (fun hS' => ?_)
    clear hK K
    try simp only [Act.put, List.setIfInBounds_toArray, List.set_cons_zero, List.set_cons_succ]
    refine tail_call 5 rfl (by kernel_rfl) rfl (fun K hK => ?_)
    go_simp
    (go_at_call 40; refine (specSize hKd _).mono ?_; rintro e w6 ⟨rfl, hb⟩; have HS6 := hide (HS5.out.below hb HS5.out.lt); have HZ6 := hide (HZ5.out.below hb); have HF6 := hide (HF5.out.below hb); have HG6 := hide (grown_below HG5.out hb HG5.out.size); clear hb)
    refine hK.out _ _ (by (try dsimp only); exact ⟨(row5 HF6.out).1, (row5 HF6.out).2.1, (row5 HF6.out).2.2.1, (row5 HF6.out).2.2.2.2.1⟩) (fun hS' => ?_)
    clear hK K
    try simp only [Act.put, List.setIfInBounds_toArray, List.set_cons_zero, List.set_cons_succ]
    refine tail_take 6 rfl (by kernel_rfl) (by kernel_rfl) (by kernel_rfl) (by kernel_rfl) (fun _ _ _ h => h) (by rfl) (v := ?_) ?_ (by assumption) ?_
    rotate_left 1
    · intro w' hS'; (try dsimp only at hS'); go_simp; try with_reducible rfl
    try simp only [Act.put, List.setIfInBounds_toArray, List.set_cons_zero, List.set_cons_succ]
    refine tail_two 9 11 rfl rfl (by kernel_rfl) rfl rfl (fun K hK => ?_) (fun K hK => ?_)
    · go_simp
      refine hK.out _ _ (by (try dsimp only); exact ⟨(row5 (HF6.out.alloc _)).1, (row5 (HF6.out.alloc _)).2.1, (row5 (HF6.out.alloc _)).2.2.1, (row5 (HF6.out.alloc _)).2.2.2.2.1⟩) (fun hS' => ?_)
      clear hK K
      try simp only [Act.put, List.setIfInBounds_toArray, List.set_cons_zero, List.set_cons_succ]
      refine tail_call 11 rfl (by kernel_rfl) rfl (fun K hK => ?_)
      go_simp
      (go_at_call 37; refine (next_any g Bc A n c code 3 _ (HS6.out.still (World.grownBy_alloc w6 (.cells #[.int .i64 (q : Int), .int .i64 ((q : Int) - 1), .int .i64 C] 2) none) (by simp)) (by omega)).mono ?_; rintro e w3 ⟨r, rfl, hr0, hr1, hs, hg⟩; obtain ⟨r, rfl⟩ : ∃ m : Nat, r = m := ⟨r.toNat, by omega⟩; have hr2 : (r : Int) < 3 := (by omega); have HS3 := hide hs; have HZ3 := hide ((HZ6.out.alloc (.cells #[.int .i64 (q : Int), .int .i64 ((q : Int) - 1), .int .i64 C] 2)).src hg (by omega)); have HF3 := hide ((HF6.out.alloc (.cells #[.int .i64 (q : Int), .int .i64 ((q : Int) - 1), .int .i64 C] 2)).src hg (by omega)); have HG3 := hide (grown_trans (grown_alloc HG6.out (.cells #[.int .i64 (q : Int), .int .i64 ((q : Int) - 1), .int .i64 C] 2)) hg))
      refine hK.out _ _ (by (try dsimp only); exact ⟨(row5 HF3.out).1, (row5 HF3.out).2.1, (row5 HF3.out).2.2.1, (row5 HF3.out).2.2.2.2.1⟩) (fun hS' => ?_)
      clear hK K
      try simp only [Act.put, List.setIfInBounds_toArray, List.set_cons_zero, List.set_cons_succ]
      obtain ⟨x, hx, hxb⟩ : ∃ x, w3.cell? ⟨w6.heap.size, r, none⟩ = some (.int .i64 x) ∧ 0 ≤ x ∧ x ≤ 3000 := by
        rw [grown_cell hg (by simp) (fun h => by simp at h; have := HS6.out.lt; omega), World.cell?_alloc_at _ _ _ _ rfl]
        rcases (show r = 0 ∨ r = 1 ∨ r = 2 by omega) with rfl | rfl | rfl <;> exact ⟨_, rfl, by omega⟩
      clear hs hg
      refine tail_take 12 rfl (by kernel_rfl) (by kernel_rfl) (by kernel_rfl) (by kernel_rfl) (fun _ _ _ h => h) (by rfl) (v := ?_) ?_ (by assumption) ?_
      rotate_left 1
      · intro w' hS'; (try dsimp only at hS'); go_simp; try with_reducible rfl
      try simp only [Act.put, List.setIfInBounds_toArray, List.set_cons_zero, List.set_cons_succ]
      refine tail_call 13 rfl (by kernel_rfl) rfl (fun K hK => ?_)
      go_simp
      refine hK.out _ _ (by (try dsimp only); exact ⟨(row5 HF3.out).1, (row5 HF3.out).2.1, (row5 HF3.out).2.2.1, (row5 HF3.out).2.2.2.2.1⟩) (fun hS' => ?_)
      clear hK K
      try simp only [Act.put, List.setIfInBounds_toArray, List.set_cons_zero, List.set_cons_succ]
      obtain ⟨d0, d1, d2, d3, d4, e0, e1, e2, e3, e4⟩ := row5 HF3.out
      refine tail_take 14 rfl (by kernel_rfl) (by kernel_rfl) (by kernel_rfl) (by kernel_rfl) (fun _ _ _ h => h) (by rfl) (v := ?_) ?_ (by assumption) ?_
      rotate_left 1
      · intro w' hS'; (try dsimp only at hS'); go_simp; try with_reducible rfl
      try simp only [Act.put, List.setIfInBounds_toArray, List.set_cons_zero, List.set_cons_succ]
      refine tail_last 15 rfl (by kernel_rfl) (by kernel_rfl) rfl rfl (fun K hK => ?_)
      go_simp
      refine hK.out _ _ ?_
      clear hK K
      try simp only [Act.put, List.setIfInBounds_toArray, List.set_cons_zero, List.set_cons_succ]
      have HSe := hide (set1_src HS3.out hgN 3 (.int .i64 x))
      have HZe := hide (HZ3.out.own (grown_set (World.grownBy.refl w3 (some N)) 3 (.int .i64 x)) (fun b hb => by injection hb with hb; omega))
      have HFe := hide (show Row5 (w3.setCell ⟨N, 3, none⟩ (.int .i64 x)) N p k γ x C from heap_setCell_same _ N 3 _ _ _ HF3.out)
      have HGe := hide (grown_set2 HG3.out N 3 (.int .i64 x) (by omega))
      clear d0 d1 d2 d3 d4 e0 e1 e2 e3 e4
      obtain ⟨z0, z1, z2, z3, z4, f0, f1, f2, f3, f4⟩ := row5 HZe.out
      obtain ⟨d0, d1, d2, d3, d4, e0, e1, e2, e3, e4⟩ := row5 HFe.out
      go_wp2_with fail
      refine bodyPost_ret (v := .agg #[.int .i64 p, .int .i64 k, .int .i64 γ, .int .i64 x, .int .i64 C]) (by simp [results, Tryz.results34, go_sem, z0, z1, z2, z3, z4]) rfl ⟨p, k, γ, x, C, rfl, (fun h => by cases h), by omega, by omega, by omega, by omega, src_sets HSe.out hgl _ _ _ _ _, grown_sets HGe.out _ (Nat.le_refl _) _ _ _ _ _⟩
    · go_simp
      (go_at_call 37; refine (next_any g Bc A n c code 3 _ HS6.out (by omega)).mono ?_; rintro e w3 ⟨r, rfl, hr0, hr1, hs, hg⟩; obtain ⟨r, rfl⟩ : ∃ m : Nat, r = m := ⟨r.toNat, by omega⟩; have hr2 : (r : Int) < 3 := (by omega); have HS3 := hide hs; have HZ3 := hide (HZ6.out.src hg (by omega)); have HF3 := hide (HF6.out.src hg (by omega)); have HG3 := hide (grown_trans HG6.out hg); clear hs hg)
      refine hK.out _ _ (by (try dsimp only); exact ⟨(row5 HF3.out).1, (row5 HF3.out).2.1, (row5 HF3.out).2.2.1, (row5 HF3.out).2.2.2.2.1⟩) (fun hS' => ?_)
      clear hK K
      try simp only [Act.put, List.setIfInBounds_toArray, List.set_cons_zero, List.set_cons_succ]
      refine tail_call 9 rfl (by kernel_rfl) rfl (fun K hK => ?_)
      go_simp
      refine hK.out _ _ (by (try dsimp only); exact ⟨(row5 (HF3.out.alloc _)).1, (row5 (HF3.out.alloc _)).2.1, (row5 (HF3.out.alloc _)).2.2.1, (row5 (HF3.out.alloc _)).2.2.2.2.1⟩) (fun hS' => ?_)
      clear hK K
      try simp only [Act.put, List.setIfInBounds_toArray, List.set_cons_zero, List.set_cons_succ]
      obtain ⟨x, hx, hxb⟩ : ∃ x, (w3.alloc (.cells #[.int .i64 (q : Int), .int .i64 ((q : Int) - 1), .int .i64 C] 2)).cell? ⟨w3.heap.size, r, none⟩ = some (.int .i64 x) ∧ 0 ≤ x ∧ x ≤ 3000 := by
        rw [World.cell?_alloc_at _ _ _ _ rfl]
        rcases (show r = 0 ∨ r = 1 ∨ r = 2 by omega) with rfl | rfl | rfl <;> exact ⟨_, rfl, by omega⟩
      refine tail_take 12 rfl (by kernel_rfl) (by kernel_rfl) (by kernel_rfl) (by kernel_rfl) (fun _ _ _ h => h) (by rfl) (v := ?_) ?_ (by assumption) ?_
      rotate_left 1
      · intro w' hS'; (try dsimp only at hS'); go_simp; try with_reducible rfl
      try simp only [Act.put, List.setIfInBounds_toArray, List.set_cons_zero, List.set_cons_succ]
      refine tail_call 13 rfl (by kernel_rfl) rfl (fun K hK => ?_)
      go_simp
      refine hK.out _ _ (by (try dsimp only); exact ⟨(row5 (HF3.out.alloc _)).1, (row5 (HF3.out.alloc _)).2.1, (row5 (HF3.out.alloc _)).2.2.1, (row5 (HF3.out.alloc _)).2.2.2.2.1⟩) (fun hS' => ?_)
      clear hK K
      try simp only [Act.put, List.setIfInBounds_toArray, List.set_cons_zero, List.set_cons_succ]
      have HS4 := hide (HS3.out.still (World.grownBy_alloc w3 (.cells #[.int .i64 (q : Int), .int .i64 ((q : Int) - 1), .int .i64 C] 2) none) (by simp))
      have HZ4 := hide (HZ3.out.alloc (.cells #[.int .i64 (q : Int), .int .i64 ((q : Int) - 1), .int .i64 C] 2))
      have HF4 := hide (HF3.out.alloc (.cells #[.int .i64 (q : Int), .int .i64 ((q : Int) - 1), .int .i64 C] 2))
      have HG4 := hide (grown_alloc HG3.out (.cells #[.int .i64 (q : Int), .int .i64 ((q : Int) - 1), .int .i64 C] 2))
      generalize w3.alloc (.cells #[.int .i64 (q : Int), .int .i64 ((q : Int) - 1), .int .i64 C] 2) = w4 at HS4 HZ4 HF4 HG4 hx hS' ⊢
      obtain ⟨d0, d1, d2, d3, d4, e0, e1, e2, e3, e4⟩ := row5 HF4.out
      refine tail_take 14 rfl (by kernel_rfl) (by kernel_rfl) (by kernel_rfl) (by kernel_rfl) (fun _ _ _ h => h) (by rfl) (v := ?_) ?_ (by assumption) ?_
      rotate_left 1
      · intro w' hS'; (try dsimp only at hS'); go_simp; try with_reducible rfl
      try simp only [Act.put, List.setIfInBounds_toArray, List.set_cons_zero, List.set_cons_succ]
      refine tail_last 15 rfl (by kernel_rfl) (by kernel_rfl) rfl rfl (fun K hK => ?_)
      go_simp
      refine hK.out _ _ ?_
      clear hK K
      try simp only [Act.put, List.setIfInBounds_toArray, List.set_cons_zero, List.set_cons_succ]
      have HSe := hide (set1_src HS4.out hgN 3 (.int .i64 x))
      have HZe := hide (HZ4.out.own (grown_set (World.grownBy.refl w4 (some N)) 3 (.int .i64 x)) (fun b hb => by injection hb with hb; omega))
      have HFe := hide (show Row5 (w4.setCell ⟨N, 3, none⟩ (.int .i64 x)) N p k γ x C from heap_setCell_same _ N 3 _ _ _ HF4.out)
      have HGe := hide (grown_set2 HG4.out N 3 (.int .i64 x) (by omega))
      clear d0 d1 d2 d3 d4 e0 e1 e2 e3 e4
      obtain ⟨z0, z1, z2, z3, z4, f0, f1, f2, f3, f4⟩ := row5 HZe.out
      obtain ⟨d0, d1, d2, d3, d4, e0, e1, e2, e3, e4⟩ := row5 HFe.out
      go_wp2_with fail
      refine bodyPost_ret (v := .agg #[.int .i64 p, .int .i64 k, .int .i64 γ, .int .i64 x, .int .i64 C]) (by simp [results, Tryz.results34, go_sem, z0, z1, z2, z3, z4]) rfl ⟨p, k, γ, x, C, rfl, (fun h => by cases h), by omega, by omega, by omega, by omega, src_sets HSe.out hgl _ _ _ _ _, grown_sets HGe.out _ (Nat.le_refl _) _ _ _ _ _⟩
  · have b0 : (y == 0) = false := by simpa using hz0
    have b1 : (y == 1) = false := by simpa using hz1
    have b2 : (y == 2) = false := by simpa using hz2
    clear hz0 hz1 hz2
    go_wp2_with fail
    refine bodyPost_ret (v := .agg #[.int .i64 p, .int .i64 k, .int .i64 γ, .int .i64 L, .int .i64 C]) (by simp [results, Tryz.results34, go_sem, z0, z1, z2, z3, z4]) rfl ⟨p, k, γ, L, C, rfl, (fun h => by cases h), by omega, by omega, by omega, by omega, src_sets HS2.out hgl _ _ _ _ _, grown_sets HG2.out _ (Nat.le_refl _) _ _ _ _ _⟩
end Go.Proofs.YtdniocdmncldjaaGreat
