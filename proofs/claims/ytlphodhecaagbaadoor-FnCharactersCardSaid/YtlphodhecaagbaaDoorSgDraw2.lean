/-
  The model's draw of a mode and a byte: anything may come, within bounds.
  Condition: the code has at most 4096 bytes.
-/
import Derived.Test.YtlphodhecaagbaaDoorSgDraw
namespace Go.Proofs.YtlphodhecaagbaaDoor
open Go.RowKit
set_option linter.unusedSimpArgs false
set_option linter.unusedVariables false

set_option maxRecDepth 100000 in
set_option maxHeartbeats 2000000 in
theorem drawCharVal (A : Option Addr) (n c : Nat) (code : List Int) (w : World) (hI : Ints .u8 w w.heap.size A n code) (hn : n ≤ 4096) (hby : ∀ b ∈ code, 0 ≤ b ∧ b ≤ 255) :
    Calls Tryd.prog 6 #[.slice A n c] w fun x w' => ∃ m b : Int, x = .returned (.tuple #[.int .i64 m, .int .i64 b]) ∧ -1 ≤ m ∧ m ≤ 10 ∧ -1 ≤ b ∧ b ≤ 256 ∧ Below w.heap.size w w' := by
  have HI := hide hI
  have HBY := hide hby
  clear hI hby
  go_enter Tryd.func6, Tryd.ntmps6
  go_wp2_with fail
  refine (from_any A n c code w HI.out hn HBY.out).mono ?_
  rintro e w1 ⟨rfl, hs1, hb1⟩
  have HD1 := hide (show Dn w A n c code w1 from ⟨hs1, hb1⟩)
  clear hs1 hb1
  go_wp2_with fail
  refine (next_any _ _ A n c code 6 w1 HD1.out.1 (by omega)).mono ?_
  rintro e w2 ⟨y, rfl, hy0, hy1, hs, hg⟩
  have HD2 := hide (show Dn w A n c code w2 from ⟨hs, dn_below HD1.out hg⟩)
  clear hs hg
  by_cases hz : y = 0
  · have ez : (y == 0) = true := by simpa using hz
    clear hz
    go_wp2_with fail
    refine tail_begin (fun _ => True) 10 (by kernel_rfl) trivial (fun hS' => ?_)
    have HDd := hide (dn_drew HD2.out)
    obtain ⟨wd, hwd⟩ : ∃ wd, w2.drew = wd := ⟨_, rfl⟩
    rw [hwd] at HDd ⊢
    clear hwd HD2
    refine tail_take2 0 rfl (by kernel_rfl) (by kernel_rfl) (by kernel_rfl) (by decide) (fun _ _ _ h => h) (by rfl) (v := ?_) ?_ (by assumption) ?_
    rotate_left 1
    · intro w' hS'; (try dsimp only at hS'); go_simp; try with_reducible rfl
    try simp only [Act.put, List.setIfInBounds_toArray, List.set_cons_zero, List.set_cons_succ]
    refine tail_take2 4 rfl (by kernel_rfl) (by kernel_rfl) (by kernel_rfl) (by decide) (fun _ _ _ h => h) (by rfl) (v := ?_) ?_ (by assumption) ?_
    rotate_left 1
    · intro w' hS'; (try dsimp only at hS'); go_simp; try with_reducible rfl
    try simp only [Act.put, List.setIfInBounds_toArray, List.set_cons_zero, List.set_cons_succ]
    refine tail_two 1 3 rfl rfl (by kernel_rfl) rfl rfl (fun K hK => ?_) (fun K hK => ?_)
    · go_simp
      (go_at_call 17; refine (next_any _ _ A n c code 7 _ HDd.out.1 (by omega)).mono ?_; rintro e wa ⟨ya, rfl, hya0, hya1, hs, hg⟩; have HDa := hide (show Dn w A n c code wa from ⟨hs, dn_below HDd.out hg⟩); clear hs hg)
      refine hK.out _ _ (by (try dsimp only); all_goals trivial) (fun hS' => ?_)
      clear hK K
      try simp only [Act.put, List.setIfInBounds_toArray, List.set_cons_zero, List.set_cons_succ]
      have hsub : IntKind.i64.wrap (ya - 1) = ya - 1 := IntWalk.i64_in _ ⟨by omega, by omega⟩
      refine tail_take2 2 rfl (by kernel_rfl) (by kernel_rfl) (by kernel_rfl) (by decide) (fun _ _ _ h => h) (by rfl) (v := ?_) ?_ (by assumption) ?_
      rotate_left 1
      · intro w' hS'; (try dsimp only at hS'); go_simp; try with_reducible rfl
      try simp only [Act.put, List.setIfInBounds_toArray, List.set_cons_zero, List.set_cons_succ]
      refine tail_two 3 5 rfl rfl (by kernel_rfl) rfl rfl (fun K hK => ?_) (fun K hK => ?_)
      · go_simp
        obtain ⟨wm, hwm⟩ : ∃ wm, wa.alloc (.cells #[.int .i64 (-1), .int .i64 0, .int .i64 255, .int .i64 256] 2) = wm := ⟨_, rfl⟩
        have HDm := hide (show Dn w A n c code wm by rw [← hwm]; exact dn_alloc HDa.out _)
        have HRm := hide (show wm.heap[wa.heap.size]? = some (.cells #[.int .i64 (-1), .int .i64 0, .int .i64 255, .int .i64 256] 2 (0, 0)) by rw [← hwm]; exact heap_alloc_new _ _)
        have hbl : w.heap.size < wa.heap.size := HDa.out.1.lt
        obtain ⟨bl, hbq⟩ : ∃ bl, wa.heap.size = bl := ⟨_, rfl⟩
        rw [hbq] at HRm hbl ⊢
        rw [hwm]
        clear hwm hbq
        refine hK.out _ _ (by (try dsimp only); all_goals trivial) (fun hS' => ?_)
        clear hK K
        try simp only [Act.put, List.setIfInBounds_toArray, List.set_cons_zero, List.set_cons_succ]
        refine tail_call 5 rfl (by kernel_rfl) rfl (fun K hK => ?_)
        go_simp
        (go_at_call 17; refine (next_any _ _ A n c code 4 _ HDm.out.1 (by omega)).mono ?_; rintro e wb ⟨yb, rfl, hyb0, hyb1, hs, hg⟩; have HDb := hide (show Dn w A n c code wb from ⟨hs, dn_below HDm.out hg⟩); have HRb := hide (show wb.heap[bl]? = some (.cells #[.int .i64 (-1), .int .i64 0, .int .i64 255, .int .i64 256] 2 (0, 0)) from (hg.block bl (Array.getElem?_eq_some_iff.1 HRm.out).1 (fun e => by injection e with e; omega)).trans HRm.out); clear hs hg)
        refine hK.out _ _ (by (try dsimp only); all_goals trivial) (fun hS' => ?_)
        clear hK K
        try simp only [Act.put, List.setIfInBounds_toArray, List.set_cons_zero, List.set_cons_succ]
        refine tail_take2 8 rfl (by kernel_rfl) (by kernel_rfl) (by kernel_rfl) (by decide) (fun _ _ _ h => h) (by rfl) (v := ?_) ?_ (by assumption) ?_
        rotate_left 1
        · intro w' hS'; (try dsimp only at hS'); go_simp; try with_reducible rfl
        try simp only [Act.put, List.setIfInBounds_toArray, List.set_cons_zero, List.set_cons_succ]
        obtain ⟨yb, rfl⟩ : ∃ q : Nat, yb = q := ⟨yb.toNat, by omega⟩
        have hi4 : (yb : Int) < 4 := by omega
        refine tail_take2 6 rfl (by kernel_rfl) (by kernel_rfl) (by kernel_rfl) (by decide) (fun _ _ _ h => h) (by rfl) (v := ?_) ?_ (by assumption) ?_
        rotate_left 1
        · intro w' hS'; (try dsimp only at hS'); go_simp; try with_reducible rfl
        try simp only [Act.put, List.setIfInBounds_toArray, List.set_cons_zero, List.set_cons_succ]
        obtain ⟨v, hv, hv0, hv1⟩ := four_cells HRb.out yb (by omega)
        refine tail_call 7 rfl (by kernel_rfl) rfl (fun K hK => ?_)
        go_simp
        refine hK.out _ _ (by (try dsimp only); all_goals trivial) (fun hS' => ?_)
        clear hK K
        try simp only [Act.put, List.setIfInBounds_toArray, List.set_cons_zero, List.set_cons_succ]
        refine tail_take2 9 rfl (by kernel_rfl) (by kernel_rfl) (by kernel_rfl) (by decide) (fun _ _ _ h => h) (by rfl) (v := ?_) ?_ (by assumption) ?_
        rotate_left 1
        · intro w' hS'; (try dsimp only at hS'); go_simp; try with_reducible rfl
        try simp only [Act.put, List.setIfInBounds_toArray, List.set_cons_zero, List.set_cons_succ]
        refine tail_end (by kernel_rfl) ?_
        go_wp2_with fail
        go_ret2
        exact ⟨_, v, rfl, by omega, by omega, by omega, by omega, HDb.out.2⟩
      · go_simp
        (go_at_call 17; refine (next_any _ _ A n c code 4 _ HDa.out.1 (by omega)).mono ?_; rintro e wb ⟨yb, rfl, hyb0, hyb1, hs, hg⟩; have HDb := hide (show Dn w A n c code wb from ⟨hs, dn_below HDa.out hg⟩); clear hs hg)
        refine hK.out _ _ (by (try dsimp only); all_goals trivial) (fun hS' => ?_)
        clear hK K
        try simp only [Act.put, List.setIfInBounds_toArray, List.set_cons_zero, List.set_cons_succ]
        refine tail_take2 8 rfl (by kernel_rfl) (by kernel_rfl) (by kernel_rfl) (by decide) (fun _ _ _ h => h) (by rfl) (v := ?_) ?_ (by assumption) ?_
        rotate_left 1
        · intro w' hS'; (try dsimp only at hS'); go_simp; try with_reducible rfl
        try simp only [Act.put, List.setIfInBounds_toArray, List.set_cons_zero, List.set_cons_succ]
        refine tail_call 3 rfl (by kernel_rfl) rfl (fun K hK => ?_)
        go_simp
        obtain ⟨wm, hwm⟩ : ∃ wm, wb.alloc (.cells #[.int .i64 (-1), .int .i64 0, .int .i64 255, .int .i64 256] 2) = wm := ⟨_, rfl⟩
        have HDm := hide (show Dn w A n c code wm by rw [← hwm]; exact dn_alloc HDb.out _)
        have HRm := hide (show wm.heap[wb.heap.size]? = some (.cells #[.int .i64 (-1), .int .i64 0, .int .i64 255, .int .i64 256] 2 (0, 0)) by rw [← hwm]; exact heap_alloc_new _ _)
        have hbl : w.heap.size < wb.heap.size := HDb.out.1.lt
        obtain ⟨bl, hbq⟩ : ∃ bl, wb.heap.size = bl := ⟨_, rfl⟩
        rw [hbq] at HRm hbl ⊢
        rw [hwm]
        clear hwm hbq
        refine hK.out _ _ (by (try dsimp only); all_goals trivial) (fun hS' => ?_)
        clear hK K
        try simp only [Act.put, List.setIfInBounds_toArray, List.set_cons_zero, List.set_cons_succ]
        obtain ⟨yb, rfl⟩ : ∃ q : Nat, yb = q := ⟨yb.toNat, by omega⟩
        have hi4 : (yb : Int) < 4 := by omega
        refine tail_take2 6 rfl (by kernel_rfl) (by kernel_rfl) (by kernel_rfl) (by decide) (fun _ _ _ h => h) (by rfl) (v := ?_) ?_ (by assumption) ?_
        rotate_left 1
        · intro w' hS'; (try dsimp only at hS'); go_simp; try with_reducible rfl
        try simp only [Act.put, List.setIfInBounds_toArray, List.set_cons_zero, List.set_cons_succ]
        obtain ⟨v, hv, hv0, hv1⟩ := four_cells HRm.out yb (by omega)
        refine tail_call 7 rfl (by kernel_rfl) rfl (fun K hK => ?_)
        go_simp
        refine hK.out _ _ (by (try dsimp only); all_goals trivial) (fun hS' => ?_)
        clear hK K
        try simp only [Act.put, List.setIfInBounds_toArray, List.set_cons_zero, List.set_cons_succ]
        refine tail_take2 9 rfl (by kernel_rfl) (by kernel_rfl) (by kernel_rfl) (by decide) (fun _ _ _ h => h) (by rfl) (v := ?_) ?_ (by assumption) ?_
        rotate_left 1
        · intro w' hS'; (try dsimp only at hS'); go_simp; try with_reducible rfl
        try simp only [Act.put, List.setIfInBounds_toArray, List.set_cons_zero, List.set_cons_succ]
        refine tail_end (by kernel_rfl) ?_
        go_wp2_with fail
        go_ret2
        exact ⟨_, v, rfl, by omega, by omega, by omega, by omega, HDm.out.2⟩
    · go_simp
      obtain ⟨wm, hwm⟩ : ∃ wm, wd.alloc (.cells #[.int .i64 (-1), .int .i64 0, .int .i64 255, .int .i64 256] 2) = wm := ⟨_, rfl⟩
      have HDm := hide (show Dn w A n c code wm by rw [← hwm]; exact dn_alloc HDd.out _)
      have HRm := hide (show wm.heap[wd.heap.size]? = some (.cells #[.int .i64 (-1), .int .i64 0, .int .i64 255, .int .i64 256] 2 (0, 0)) by rw [← hwm]; exact heap_alloc_new _ _)
      have hbl : w.heap.size < wd.heap.size := HDd.out.1.lt
      obtain ⟨bl, hbq⟩ : ∃ bl, wd.heap.size = bl := ⟨_, rfl⟩
      rw [hbq] at HRm hbl ⊢
      rw [hwm]
      clear hwm hbq
      refine hK.out _ _ (by (try dsimp only); all_goals trivial) (fun hS' => ?_)
      clear hK K
      try simp only [Act.put, List.setIfInBounds_toArray, List.set_cons_zero, List.set_cons_succ]
      refine tail_call 1 rfl (by kernel_rfl) rfl (fun K hK => ?_)
      go_simp
      (go_at_call 17; refine (next_any _ _ A n c code 7 _ HDm.out.1 (by omega)).mono ?_; rintro e wa ⟨ya, rfl, hya0, hya1, hs, hg⟩; have HDa := hide (show Dn w A n c code wa from ⟨hs, dn_below HDm.out hg⟩); have HRa := hide (show wa.heap[bl]? = some (.cells #[.int .i64 (-1), .int .i64 0, .int .i64 255, .int .i64 256] 2 (0, 0)) from (hg.block bl (Array.getElem?_eq_some_iff.1 HRm.out).1 (fun e => by injection e with e; omega)).trans HRm.out); clear hs hg)
      refine hK.out _ _ (by (try dsimp only); all_goals trivial) (fun hS' => ?_)
      clear hK K
      try simp only [Act.put, List.setIfInBounds_toArray, List.set_cons_zero, List.set_cons_succ]
      have hsub : IntKind.i64.wrap (ya - 1) = ya - 1 := IntWalk.i64_in _ ⟨by omega, by omega⟩
      refine tail_take2 2 rfl (by kernel_rfl) (by kernel_rfl) (by kernel_rfl) (by decide) (fun _ _ _ h => h) (by rfl) (v := ?_) ?_ (by assumption) ?_
      rotate_left 1
      · intro w' hS'; (try dsimp only at hS'); go_simp; try with_reducible rfl
      try simp only [Act.put, List.setIfInBounds_toArray, List.set_cons_zero, List.set_cons_succ]
      refine tail_call 5 rfl (by kernel_rfl) rfl (fun K hK => ?_)
      go_simp
      (go_at_call 17; refine (next_any _ _ A n c code 4 _ HDa.out.1 (by omega)).mono ?_; rintro e wb ⟨yb, rfl, hyb0, hyb1, hs, hg⟩; have HDb := hide (show Dn w A n c code wb from ⟨hs, dn_below HDa.out hg⟩); have HRb := hide (show wb.heap[bl]? = some (.cells #[.int .i64 (-1), .int .i64 0, .int .i64 255, .int .i64 256] 2 (0, 0)) from (hg.block bl (Array.getElem?_eq_some_iff.1 HRa.out).1 (fun e => by injection e with e; omega)).trans HRa.out); clear hs hg)
      refine hK.out _ _ (by (try dsimp only); all_goals trivial) (fun hS' => ?_)
      clear hK K
      try simp only [Act.put, List.setIfInBounds_toArray, List.set_cons_zero, List.set_cons_succ]
      refine tail_take2 8 rfl (by kernel_rfl) (by kernel_rfl) (by kernel_rfl) (by decide) (fun _ _ _ h => h) (by rfl) (v := ?_) ?_ (by assumption) ?_
      rotate_left 1
      · intro w' hS'; (try dsimp only at hS'); go_simp; try with_reducible rfl
      try simp only [Act.put, List.setIfInBounds_toArray, List.set_cons_zero, List.set_cons_succ]
      obtain ⟨yb, rfl⟩ : ∃ q : Nat, yb = q := ⟨yb.toNat, by omega⟩
      have hi4 : (yb : Int) < 4 := by omega
      refine tail_take2 6 rfl (by kernel_rfl) (by kernel_rfl) (by kernel_rfl) (by decide) (fun _ _ _ h => h) (by rfl) (v := ?_) ?_ (by assumption) ?_
      rotate_left 1
      · intro w' hS'; (try dsimp only at hS'); go_simp; try with_reducible rfl
      try simp only [Act.put, List.setIfInBounds_toArray, List.set_cons_zero, List.set_cons_succ]
      obtain ⟨v, hv, hv0, hv1⟩ := four_cells HRb.out yb (by omega)
      refine tail_call 7 rfl (by kernel_rfl) rfl (fun K hK => ?_)
      go_simp
      refine hK.out _ _ (by (try dsimp only); all_goals trivial) (fun hS' => ?_)
      clear hK K
      try simp only [Act.put, List.setIfInBounds_toArray, List.set_cons_zero, List.set_cons_succ]
      refine tail_take2 9 rfl (by kernel_rfl) (by kernel_rfl) (by kernel_rfl) (by decide) (fun _ _ _ h => h) (by rfl) (v := ?_) ?_ (by assumption) ?_
      rotate_left 1
      · intro w' hS'; (try dsimp only at hS'); go_simp; try with_reducible rfl
      try simp only [Act.put, List.setIfInBounds_toArray, List.set_cons_zero, List.set_cons_succ]
      refine tail_end (by kernel_rfl) ?_
      go_wp2_with fail
      go_ret2
      exact ⟨_, v, rfl, by omega, by omega, by omega, by omega, HDb.out.2⟩
  · have ez : (y == 0) = false := by simpa using hz
    clear hz
    go_wp2_with fail
    refine (next_any _ _ A n c code 6 w2 HD2.out.1 (by omega)).mono ?_
    rintro e w3 ⟨y3, rfl, hy30, hy31, hs, hg⟩
    have HD3 := hide (show Dn w A n c code w3 from ⟨hs, dn_below HD2.out hg⟩)
    clear hs hg
    go_wp2_with fail
    refine (next_any _ _ A n c code 95 w3 HD3.out.1 (by omega)).mono ?_
    rintro e w4 ⟨y4, rfl, hy40, hy41, hs, hg⟩
    have HD4 := hide (show Dn w A n c code w4 from ⟨hs, dn_below HD3.out hg⟩)
    have hw2 : IntKind.i64.wrap (30 + y4) = 30 + y4 := IntWalk.i64_in _ ⟨by omega, by omega⟩
    clear hs hg
    go_wp2_with fail
    go_ret2
    exact ⟨y3, 30 + y4, rfl, by omega, by omega, by omega, by omega, HD4.out.2⟩
end Go.Proofs.YtlphodhecaagbaaDoor
