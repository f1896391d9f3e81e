/-
  The model's draw of a field, a message and a capacity: anything may come, the message is short.
  Condition: the code has at most 4096 bytes.
-/
import Derived.Test.YthbmfaogjaahoaaFDrawA
import Derived.Test.YthbmfaogjaahoaaSwDraw
import Derived.Test.YthbmfaogjaahoaaTail2
namespace Go.Proofs.Ythbmfaogjaahoaa
open Go Go.RowKit
set_option linter.unusedSimpArgs false
set_option linter.unusedVariables false

/-- What the draw leaves. -/
def DrawnSp (w : World) (x : Ending) (w' : World) : Prop :=
  ∃ (p k γ : Int) (t : ByteArray) (cap : Int), x = .returned (.tuple #[.agg #[.int .i64 p, .int .i64 k, .int .i64 γ], .string t, .int .i64 cap]) ∧ t.size ≤ 60 ∧ Below w.heap.size w w'
/-- When the field has been laid as the result. -/
structure Fd (w W : World) (b : Nat) (p k γ : Int) : Prop where
  bl : Below w.heap.size w W
  res : W.heap[w.heap.size]? = some (.cells #[.int .i64 p, .int .i64 k, .int .i64 γ] 36 (0, 0))
  box : W.heap[b]? = some (.cells #[.int .i64 p, .int .i64 k, .int .i64 γ] 36 (0, 0))
theorem Fd.alloc {w W : World} {b : Nat} {p k γ : Int} (h : Fd w W b p k γ) (o : Obj) : Fd w (W.alloc o) b p k γ :=
  ⟨h.bl.alloc h.bl.size o, by rw [heap_alloc_old W o (Array.getElem?_eq_some_iff.1 h.res).1]; exact h.res, by rw [heap_alloc_old W o (Array.getElem?_eq_some_iff.1 h.box).1]; exact h.box⟩
theorem Fd.cells {w W : World} {b : Nat} {p k γ : Int} (h : Fd w W b p k γ) : W.cell? ⟨b, 0, none⟩ = some (.int .i64 p) ∧ W.cell? ⟨b, 1, none⟩ = some (.int .i64 k) ∧ W.cell? ⟨b, 2, none⟩ = some (.int .i64 γ) := cells3 h.box
theorem Fd.rcells {w W : World} {b : Nat} {p k γ : Int} (h : Fd w W b p k γ) : W.cell? ⟨w.heap.size, 0, none⟩ = some (.int .i64 p) ∧ W.cell? ⟨w.heap.size, 1, none⟩ = some (.int .i64 k) ∧ W.cell? ⟨w.heap.size, 2, none⟩ = some (.int .i64 γ) := cells3 h.res
theorem Fd.lt {w W : World} {b : Nat} {p k γ : Int} (h : Fd w W b p k γ) : w.heap.size < W.heap.size := (Array.getElem?_eq_some_iff.1 h.res).1
/-- While it is drawn. -/
structure Fm (A : Option Addr) (n c : Nat) (code : List Int) (w W : World) (g B0 b : Nat) (p k γ : Int) : Prop where
  src : Src W g B0 A n c code
  bl : Below w.heap.size w W
  zr : Zero3 W w.heap.size
  box : W.heap[b]? = some (.cells #[.int .i64 p, .int .i64 k, .int .i64 γ] 36 (0, 0))
  lo : w.heap.size < g ∧ g < b
section
variable {A : Option Addr} {n c : Nat} {code : List Int} {w W W' : World} {g B0 b : Nat} {p k γ : Int}
theorem Fm.next (h : Fm A n c code w W g B0 b p k γ) (hs : Src W' g B0 A n c code) (hg : W.grownBy W' (some g)) : Fm A n c code w W' g B0 b p k γ := by
  have hl := h.lo
  exact ⟨hs, h.bl.grown hg h.bl.size (fun r hr => by cases hr; omega), h.zr.grown hg (by omega), row_grown h.box hg (by omega), h.lo⟩
theorem Fm.below (h : Fm A n c code w W g B0 b p k γ) (hb : Below W.heap.size W W') : Fm A n c code w W' g B0 b p k γ :=
  ⟨h.src.below hb h.src.lt, h.bl.trans (hb.mono h.bl.size), h.zr.below hb, heap_belowF h.box hb, h.lo⟩
theorem Fm.alloc (h : Fm A n c code w W g B0 b p k γ) (o : Obj) : Fm A n c code w (W.alloc o) g B0 b p k γ := h.below ((Below.refl _ _).alloc (Nat.le_refl _) o)
theorem Fm.drew (h : Fm A n c code w W g B0 b p k γ) : Fm A n c code w W.drew g B0 b p k γ := h.below (Below.refl _ _).drew
theorem Fm.cells (h : Fm A n c code w W g B0 b p k γ) : W.cell? ⟨b, 0, none⟩ = some (.int .i64 p) ∧ W.cell? ⟨b, 1, none⟩ = some (.int .i64 k) ∧ W.cell? ⟨b, 2, none⟩ = some (.int .i64 γ) := cells3 h.box
theorem Fm.put (h : Fm A n c code w W g B0 b p k γ) : Fd w (((W.setCell ⟨w.heap.size, 0, none⟩ (.int .i64 p)).setCell ⟨w.heap.size, 1, none⟩ (.int .i64 k)).setCell ⟨w.heap.size, 2, none⟩ (.int .i64 γ)) b p k γ := by
  have hl := h.lo
  refine ⟨((h.bl.setCell (p := ⟨w.heap.size, 0, none⟩) (Nat.le_refl _) _).setCell (p := ⟨w.heap.size, 1, none⟩) (Nat.le_refl _) _).setCell (p := ⟨w.heap.size, 2, none⟩) (Nat.le_refl _) _, ?_, ?_⟩
  · exact heap_setCell_same _ w.heap.size 2 _ _ _ (heap_setCell_same _ w.heap.size 1 _ _ _ (heap_setCell_same W w.heap.size 0 _ _ _ h.zr))
  · rw [heap_setCell_other _ _ _ _ (by show b ≠ w.heap.size; omega), heap_setCell_other _ _ _ _ (by show b ≠ w.heap.size; omega), heap_setCell_other _ _ _ _ (by show b ≠ w.heap.size; omega)]
    exact h.box
theorem Fm.fcells (h : Fm A n c code w W g B0 b p k γ) {u0 u1 u2 : Value} : (((W.setCell ⟨w.heap.size, 0, none⟩ u0).setCell ⟨w.heap.size, 1, none⟩ u1).setCell ⟨w.heap.size, 2, none⟩ u2).cell? ⟨b, 0, none⟩ = some (.int .i64 p) ∧
    (((W.setCell ⟨w.heap.size, 0, none⟩ u0).setCell ⟨w.heap.size, 1, none⟩ u1).setCell ⟨w.heap.size, 2, none⟩ u2).cell? ⟨b, 1, none⟩ = some (.int .i64 k) ∧
    (((W.setCell ⟨w.heap.size, 0, none⟩ u0).setCell ⟨w.heap.size, 1, none⟩ u1).setCell ⟨w.heap.size, 2, none⟩ u2).cell? ⟨b, 2, none⟩ = some (.int .i64 γ) := by
  have hl := h.lo
  have e : (((W.setCell ⟨w.heap.size, 0, none⟩ u0).setCell ⟨w.heap.size, 1, none⟩ u1).setCell ⟨w.heap.size, 2, none⟩ u2).heap[b]? = some (.cells #[.int .i64 p, .int .i64 k, .int .i64 γ] 36 (0, 0)) := by
    rw [heap_setCell_other _ _ _ _ (by show b ≠ w.heap.size; omega), heap_setCell_other _ _ _ _ (by show b ≠ w.heap.size; omega), heap_setCell_other _ _ _ _ (by show b ≠ w.heap.size; omega)]
    exact h.box
  exact cells3 e
theorem Fm.fin (h : Fm A n c code w W g B0 b p k γ) {u0 u1 u2 : Value} : Below w.heap.size w (((W.setCell ⟨w.heap.size, 0, none⟩ u0).setCell ⟨w.heap.size, 1, none⟩ u1).setCell ⟨w.heap.size, 2, none⟩ u2) :=
  ((h.bl.setCell (p := ⟨w.heap.size, 0, none⟩) (Nat.le_refl _) _).setCell (p := ⟨w.heap.size, 1, none⟩) (Nat.le_refl _) _).setCell (p := ⟨w.heap.size, 2, none⟩) (Nat.le_refl _) _
end

set_option maxRecDepth 100000 in
set_option maxHeartbeats 4000000 in
theorem drawSplit (A : Option Addr) (n c : Nat) (code : List Int) (w : World) (hI : Ints .u8 w w.heap.size A n code) (hn : n ≤ 4096) (hby : ∀ b ∈ code, 0 ≤ b ∧ b ≤ 255) :
    Calls Try.prog 36 #[.slice A n c] w (DrawnSp w) := by
  have HI := hide hI
  have HBY := hide hby
  have HZ := hide (Zero3.start w)
  have HB0 := hide ((Below.refl w.heap.size w).alloc (Nat.le_refl _) (.cells #[.int .i64 0, .int .i64 0, .int .i64 0] 36))
  obtain ⟨w0, hw0⟩ : ∃ w0, w.alloc (.cells #[.int .i64 0, .int .i64 0, .int .i64 0] 36) = w0 := ⟨_, rfl⟩
  rw [hw0] at HZ HB0
  have HI0 := hide (show Ints .u8 w0 w0.heap.size A n code from (HI.out.below HB0.out).more HB0.out.size)
  clear hI hby
  go_enter Try.func36, Try.ntmps36
  go_wp2_with fail
  refine (from_any A n c code w0 HI0.out hn HBY.out).mono ?_
  rintro e w1 ⟨rfl, hs1, hb1⟩
  have HS1 := hide hs1
  have HZ1 := hide (HZ.out.below hb1)
  have HB1 := hide (HB0.out.trans (hb1.mono HB0.out.size))
  clear hs1 hb1
  have HLE := hide HZ.out.lt
  obtain ⟨g, hg0⟩ : ∃ g, w0.heap.size = g := ⟨_, rfl⟩
  rw [hg0] at HS1 HLE HI0
  rw [hg0]
  obtain ⟨B0, hB0⟩ : ∃ B0, g = B0 := ⟨_, rfl⟩
  have HSB := hide (show Src w1 g B0 A n c code by rw [← hB0]; exact HS1.out)
  clear HS1 HB0 hg0 HI0 hB0
  go_wp2_with fail
  refine (drawAny g B0 A n c code w1 HSB.out).mono ?_
  rintro e w2 ⟨p, k, γ, rfl, hs, hg⟩
  have HP2 := hide (show Fm A n c code w (w2.alloc (.cells #[.int .i64 p, .int .i64 k, .int .i64 γ] 36)) g B0 w2.heap.size p k γ from
    ⟨hs.still (World.grownBy_alloc w2 _ none) (by simp), (HB1.out.grown hg HB1.out.size (fun r hr => by cases hr; exact Nat.le_of_lt HLE.out)).alloc (Nat.le_trans HB1.out.size hg.size) _, (HZ1.out.grown hg (by have := HLE.out; omega)).alloc _, heap_alloc_new w2 _, HLE.out, hs.lt⟩)
  clear hs hg HSB HZ1 HB1
  obtain ⟨b, hb⟩ : ∃ b, w2.heap.size = b := ⟨_, rfl⟩
  rw [hb] at HP2
  go_wp2_with fail
  clear hb
  refine (drawMsg g B0 A n c code _ HP2.out.src).mono ?_
  rintro e w3 ⟨s, rfl, hsz, hs, hg⟩
  have HP3 := hide (HP2.out.next hs hg)
  clear hs hg HP2 HZ HI
  by_cases h60 : 60 < s.size
  · obtain ⟨t, ht⟩ : ∃ t, s.extract 0 60 = t := ⟨_, rfl⟩
    have HSZ := hide (show t.size ≤ 60 by rw [← ht]; simp; omega)
    have hd60 : decide (60 < (s.size : Int)) = true := decide_eq_true (by omega)
    go_wp2_with fail
    refine (next_any g B0 A n c code 20 _ HP3.out.src (by omega)).mono ?_
    rintro e w4 ⟨y4, rfl, hy40, hy41, hs, hg⟩
    have HP4 := hide (HP3.out.next hs hg)
    clear hs hg
    by_cases hy : y4 = 0
    · subst hy
      go_wp2_with fail
      have HPd := hide HP4.out.drew
      refine tail_begin (fun w' => w'.cell? ⟨b, 0, none⟩ = some (.int .i64 p) ∧ w'.cell? ⟨b, 1, none⟩ = some (.int .i64 k) ∧ w'.cell? ⟨b, 2, none⟩ = some (.int .i64 γ)) 10 (by kernel_rfl) HPd.out.cells (fun hS' => ?_)
      obtain ⟨wd, hwd⟩ : ∃ wd, w4.drew = wd := ⟨_, rfl⟩
      rw [hwd] at hS' HPd ⊢
      clear hwd
      refine tail_take2 0 rfl (by kernel_rfl) (by kernel_rfl) (by kernel_rfl) (by decide) (fun _ _ _ h => h) (by rfl) (v := ?_) ?_ (by assumption) ?_
      rotate_left 1
      · intro w' hS'; obtain ⟨d0, d1, d2⟩ := hS'; go_simp; try with_reducible rfl
      try simp only [Act.put, List.setIfInBounds_toArray, List.set_cons_zero, List.set_cons_succ]
      refine tail_take2 1 rfl (by kernel_rfl) (by kernel_rfl) (by kernel_rfl) (by decide) (fun _ _ _ h => h) (by rfl) (v := ?_) ?_ (by assumption) ?_
      rotate_left 1
      · intro w' hS'; obtain ⟨d0, d1, d2⟩ := hS'; go_simp; try with_reducible rfl
      try simp only [Act.put, List.setIfInBounds_toArray, List.set_cons_zero, List.set_cons_succ]
      refine tail_take2 3 rfl (by kernel_rfl) (by kernel_rfl) (by kernel_rfl) (by decide) (fun _ _ _ h => h) (by rfl) (v := ?_) ?_ (by assumption) ?_
      rotate_left 1
      · intro w' hS'; obtain ⟨d0, d1, d2⟩ := hS'; go_simp; try with_reducible rfl
      try simp only [Act.put, List.setIfInBounds_toArray, List.set_cons_zero, List.set_cons_succ]
      refine tail_two 2 4 rfl rfl (by kernel_rfl) rfl rfl (fun K hK => ?_) (fun K hK => ?_)
      · go_simp
        have HP8l := hide (HPd.out.alloc (.cells #[.int .i64 0, .int .i64 1, .int .i64 1500, .int .i64 1501] 2))
        refine hK.out _ _ (by (try dsimp only); exact HP8l.out.cells) (fun hS' => ?_)
        clear hK K
        try simp only [Act.put, List.setIfInBounds_toArray, List.set_cons_zero, List.set_cons_succ]
        have hx : ∀ r : Nat, r < 4 → ∃ x, (wd.alloc (.cells #[.int .i64 0, .int .i64 1, .int .i64 1500, .int .i64 1501] 2)).cell? ⟨wd.heap.size, r, none⟩ = some (.int .i64 x) := fun r hr => by
          rw [World.cell?_alloc_at _ _ _ _ rfl]
          rcases (show r = 0 ∨ r = 1 ∨ r = 2 ∨ r = 3 by omega) with rfl | rfl | rfl | rfl <;> exact ⟨_, rfl⟩
        have hbl : wd.heap.size < (wd.alloc (.cells #[.int .i64 0, .int .i64 1, .int .i64 1500, .int .i64 1501] 2)).heap.size := by rw [alloc_size]; omega
        obtain ⟨wa, hwa⟩ : ∃ wa, wd.alloc (.cells #[.int .i64 0, .int .i64 1, .int .i64 1500, .int .i64 1501] 2) = wa := ⟨_, rfl⟩
        rw [hwa] at hx hbl HP8l hS' ⊢
        clear hwa
        refine tail_call 4 rfl (by kernel_rfl) rfl (fun K hK => ?_)
        go_simp
        (go_at_call 68; refine (next_any g B0 A n c code 4 _ HP8l.out.src (by omega)).mono ?_; rintro e w9 ⟨y9, rfl, hy90, hy91, hs, hg⟩; have HP9 := hide (HP8l.out.next hs hg))
        refine hK.out _ _ (by (try dsimp only); exact HP9.out.cells) (fun hS' => ?_)
        clear hK K
        try simp only [Act.put, List.setIfInBounds_toArray, List.set_cons_zero, List.set_cons_succ]
        obtain ⟨r, rfl⟩ : ∃ m : Nat, y9 = m := ⟨y9.toNat, by omega⟩
        have hr4 : (r : Int) < 4 := by omega
        obtain ⟨x, hx⟩ := hx r (by omega)
        have hgb : g ≠ wd.heap.size := by have := HPd.out.src.lt; omega
        have hx : w9.cell? ⟨wd.heap.size, r, none⟩ = some (.int .i64 x) := (grown_cell hg hbl (fun h => by simp at h; omega)).trans hx
        clear hs hg
        have hne : w.heap.size < wd.heap.size := HPd.out.zr.lt
        refine tail_take2 5 rfl (by kernel_rfl) (by kernel_rfl) (by kernel_rfl) (by decide) (fun _ _ _ h => h) (by rfl) (v := ?_) ?_ (by assumption) ?_
        rotate_left 1
        · intro w' hS'; obtain ⟨d0, d1, d2⟩ := hS'; go_simp; try with_reducible rfl
        try simp only [Act.put, List.setIfInBounds_toArray, List.set_cons_zero, List.set_cons_succ]
        obtain ⟨z0, z1, z2⟩ := HP9.out.zr.cells
        obtain ⟨f0, f1, f2⟩ := HP9.out.zr.frozen
        have hzl := HP9.out.zr.lt
        have HD := hide HP9.out.put
        refine tail_two 6 7 rfl rfl (by kernel_rfl) rfl rfl (fun K hK => ?_) (fun K hK => ?_)
        · go_simp
          refine hK.out _ _ (by (try dsimp only); exact HP9.out.cells) (fun hS' => ?_)
          clear hK K
          try simp only [Act.put, List.setIfInBounds_toArray, List.set_cons_zero, List.set_cons_succ]
          refine tail_call 7 rfl (by kernel_rfl) rfl (fun K hK => ?_)
          go_simp
          skip
          refine hK.out _ _ (by (try dsimp only); exact HD.out.cells) (fun hS' => ?_)
          clear hK K
          try simp only [Act.put, List.setIfInBounds_toArray, List.set_cons_zero, List.set_cons_succ]
          obtain ⟨W3, hW3⟩ : ∃ W3, (((w9.setCell ⟨w.heap.size, 0, none⟩ (.int .i64 p)).setCell ⟨w.heap.size, 1, none⟩ (.int .i64 k)).setCell ⟨w.heap.size, 2, none⟩ (.int .i64 γ)) = W3 := ⟨_, rfl⟩
          rw [hW3] at HD hS' ⊢
          clear z0 z1 z2 f0 f1 f2 hzl
          refine tail_take2 8 rfl (by kernel_rfl) (by kernel_rfl) (by kernel_rfl) (by decide) (fun _ _ _ h => h) (by rfl) (v := ?_) ?_ (by assumption) ?_
          rotate_left 1
          · intro w' hS'; obtain ⟨d0, d1, d2⟩ := hS'; go_simp; try with_reducible rfl
          try simp only [Act.put, List.setIfInBounds_toArray, List.set_cons_zero, List.set_cons_succ]
          refine tail_take2 9 rfl (by kernel_rfl) (by kernel_rfl) (by kernel_rfl) (by decide) (fun _ _ _ h => h) (by rfl) (v := ?_) ?_ (by assumption) ?_
          rotate_left 1
          · intro w' hS'; obtain ⟨d0, d1, d2⟩ := hS'; go_simp; try with_reducible rfl
          try simp only [Act.put, List.setIfInBounds_toArray, List.set_cons_zero, List.set_cons_succ]
          refine tail_end (by kernel_rfl) ?_
          clear hS'
          obtain ⟨r0, r1, r2⟩ := HD.out.rcells
          have hzl := HD.out.lt
          go_wp2_with fail
          exact bodyPost_ret (v := .tuple #[.agg #[.int .i64 p, .int .i64 k, .int .i64 γ], .string t, .int .i64 x]) (by simp [results, Try.results36, go_sem, r0, r1, r2, hzl]) rfl ⟨p, k, γ, _, _, rfl, HSZ.out, HD.out.bl⟩
        · go_simp
          refine hK.out _ _ (by (try dsimp only); exact HD.out.cells) (fun hS' => ?_)
          clear hK K
          try simp only [Act.put, List.setIfInBounds_toArray, List.set_cons_zero, List.set_cons_succ]
          have hx : (((w9.setCell ⟨w.heap.size, 0, none⟩ (.int .i64 p)).setCell ⟨w.heap.size, 1, none⟩ (.int .i64 k)).setCell ⟨w.heap.size, 2, none⟩ (.int .i64 γ)).cell? ⟨wd.heap.size, r, none⟩ = some (.int .i64 x) := by
            rw [World.cell?_setCell_other _ _ _ _ (by intro e; injection e with e1; omega), World.cell?_setCell_other _ _ _ _ (by intro e; injection e with e1; omega), World.cell?_setCell_other _ _ _ _ (by intro e; injection e with e1; omega)]
            exact hx
          obtain ⟨W3, hW3⟩ : ∃ W3, (((w9.setCell ⟨w.heap.size, 0, none⟩ (.int .i64 p)).setCell ⟨w.heap.size, 1, none⟩ (.int .i64 k)).setCell ⟨w.heap.size, 2, none⟩ (.int .i64 γ)) = W3 := ⟨_, rfl⟩
          rw [hW3] at HD hS' hx ⊢
          clear z0 z1 z2 f0 f1 f2 hzl
          refine tail_take2 8 rfl (by kernel_rfl) (by kernel_rfl) (by kernel_rfl) (by decide) (fun _ _ _ h => h) (by rfl) (v := ?_) ?_ (by assumption) ?_
          rotate_left 1
          · intro w' hS'; obtain ⟨d0, d1, d2⟩ := hS'; go_simp; try with_reducible rfl
          try simp only [Act.put, List.setIfInBounds_toArray, List.set_cons_zero, List.set_cons_succ]
          refine tail_call 6 rfl (by kernel_rfl) rfl (fun K hK => ?_)
          go_simp
          skip
          refine hK.out _ _ (by (try dsimp only); exact HD.out.cells) (fun hS' => ?_)
          clear hK K
          try simp only [Act.put, List.setIfInBounds_toArray, List.set_cons_zero, List.set_cons_succ]
          refine tail_take2 9 rfl (by kernel_rfl) (by kernel_rfl) (by kernel_rfl) (by decide) (fun _ _ _ h => h) (by rfl) (v := ?_) ?_ (by assumption) ?_
          rotate_left 1
          · intro w' hS'; obtain ⟨d0, d1, d2⟩ := hS'; go_simp; try with_reducible rfl
          try simp only [Act.put, List.setIfInBounds_toArray, List.set_cons_zero, List.set_cons_succ]
          refine tail_end (by kernel_rfl) ?_
          clear hS'
          obtain ⟨r0, r1, r2⟩ := HD.out.rcells
          have hzl := HD.out.lt
          go_wp2_with fail
          exact bodyPost_ret (v := .tuple #[.agg #[.int .i64 p, .int .i64 k, .int .i64 γ], .string t, .int .i64 x]) (by simp [results, Try.results36, go_sem, r0, r1, r2, hzl]) rfl ⟨p, k, γ, _, _, rfl, HSZ.out, HD.out.bl⟩
      · go_simp
        (go_at_call 68; refine (next_any g B0 A n c code 4 _ HPd.out.src (by omega)).mono ?_; rintro e w9 ⟨y9, rfl, hy90, hy91, hs, hg⟩; have HP9 := hide (HPd.out.next hs hg); clear hs hg)
        refine hK.out _ _ (by (try dsimp only); exact HP9.out.cells) (fun hS' => ?_)
        clear hK K
        try simp only [Act.put, List.setIfInBounds_toArray, List.set_cons_zero, List.set_cons_succ]
        obtain ⟨r, rfl⟩ : ∃ m : Nat, y9 = m := ⟨y9.toNat, by omega⟩
        have hr4 : (r : Int) < 4 := by omega
        obtain ⟨z0, z1, z2⟩ := HP9.out.zr.cells
        obtain ⟨f0, f1, f2⟩ := HP9.out.zr.frozen
        have hzl := HP9.out.zr.lt
        have HD := hide HP9.out.put
        refine tail_two 2 7 rfl rfl (by kernel_rfl) rfl rfl (fun K hK => ?_) (fun K hK => ?_)
        · go_simp
          clear z0 z1 z2 f0 f1 f2 hzl HD
          have hne : w.heap.size < w9.heap.size := HP9.out.zr.lt
          obtain ⟨x, hx⟩ : ∃ x, (w9.alloc (.cells #[.int .i64 0, .int .i64 1, .int .i64 1500, .int .i64 1501] 2)).cell? ⟨w9.heap.size, r, none⟩ = some (.int .i64 x) := by
            rw [World.cell?_alloc_at _ _ _ _ rfl]
            rcases (show r = 0 ∨ r = 1 ∨ r = 2 ∨ r = 3 by omega) with rfl | rfl | rfl | rfl <;> exact ⟨_, rfl⟩
          have HP9l := hide (HP9.out.alloc (.cells #[.int .i64 0, .int .i64 1, .int .i64 1500, .int .i64 1501] 2))
          refine hK.out _ _ (by (try dsimp only); exact HP9l.out.cells) (fun hS' => ?_)
          clear hK K
          try simp only [Act.put, List.setIfInBounds_toArray, List.set_cons_zero, List.set_cons_succ]
          obtain ⟨wa, hwa⟩ : ∃ wa, w9.alloc (.cells #[.int .i64 0, .int .i64 1, .int .i64 1500, .int .i64 1501] 2) = wa := ⟨_, rfl⟩
          rw [hwa] at hx HP9l hS' ⊢
          clear hwa
          refine tail_take2 5 rfl (by kernel_rfl) (by kernel_rfl) (by kernel_rfl) (by decide) (fun _ _ _ h => h) (by rfl) (v := ?_) ?_ (by assumption) ?_
          rotate_left 1
          · intro w' hS'; obtain ⟨d0, d1, d2⟩ := hS'; go_simp; try with_reducible rfl
          try simp only [Act.put, List.setIfInBounds_toArray, List.set_cons_zero, List.set_cons_succ]
          obtain ⟨z0, z1, z2⟩ := HP9l.out.zr.cells
          obtain ⟨f0, f1, f2⟩ := HP9l.out.zr.frozen
          have hzl := HP9l.out.zr.lt
          have HD := hide HP9l.out.put
          refine tail_two 6 7 rfl rfl (by kernel_rfl) rfl rfl (fun K hK => ?_) (fun K hK => ?_)
          · go_simp
            refine hK.out _ _ (by (try dsimp only); exact HP9l.out.cells) (fun hS' => ?_)
            clear hK K
            try simp only [Act.put, List.setIfInBounds_toArray, List.set_cons_zero, List.set_cons_succ]
            refine tail_call 7 rfl (by kernel_rfl) rfl (fun K hK => ?_)
            go_simp
            skip
            refine hK.out _ _ (by (try dsimp only); exact HD.out.cells) (fun hS' => ?_)
            clear hK K
            try simp only [Act.put, List.setIfInBounds_toArray, List.set_cons_zero, List.set_cons_succ]
            obtain ⟨W3, hW3⟩ : ∃ W3, (((wa.setCell ⟨w.heap.size, 0, none⟩ (.int .i64 p)).setCell ⟨w.heap.size, 1, none⟩ (.int .i64 k)).setCell ⟨w.heap.size, 2, none⟩ (.int .i64 γ)) = W3 := ⟨_, rfl⟩
            rw [hW3] at HD hS' ⊢
            clear z0 z1 z2 f0 f1 f2 hzl
            refine tail_take2 8 rfl (by kernel_rfl) (by kernel_rfl) (by kernel_rfl) (by decide) (fun _ _ _ h => h) (by rfl) (v := ?_) ?_ (by assumption) ?_
            rotate_left 1
            · intro w' hS'; obtain ⟨d0, d1, d2⟩ := hS'; go_simp; try with_reducible rfl
            try simp only [Act.put, List.setIfInBounds_toArray, List.set_cons_zero, List.set_cons_succ]
            refine tail_take2 9 rfl (by kernel_rfl) (by kernel_rfl) (by kernel_rfl) (by decide) (fun _ _ _ h => h) (by rfl) (v := ?_) ?_ (by assumption) ?_
            rotate_left 1
            · intro w' hS'; obtain ⟨d0, d1, d2⟩ := hS'; go_simp; try with_reducible rfl
            try simp only [Act.put, List.setIfInBounds_toArray, List.set_cons_zero, List.set_cons_succ]
            refine tail_end (by kernel_rfl) ?_
            clear hS'
            obtain ⟨r0, r1, r2⟩ := HD.out.rcells
            have hzl := HD.out.lt
            go_wp2_with fail
            exact bodyPost_ret (v := .tuple #[.agg #[.int .i64 p, .int .i64 k, .int .i64 γ], .string t, .int .i64 x]) (by simp [results, Try.results36, go_sem, r0, r1, r2, hzl]) rfl ⟨p, k, γ, _, _, rfl, HSZ.out, HD.out.bl⟩
          · go_simp
            refine hK.out _ _ (by (try dsimp only); exact HD.out.cells) (fun hS' => ?_)
            clear hK K
            try simp only [Act.put, List.setIfInBounds_toArray, List.set_cons_zero, List.set_cons_succ]
            have hx : (((wa.setCell ⟨w.heap.size, 0, none⟩ (.int .i64 p)).setCell ⟨w.heap.size, 1, none⟩ (.int .i64 k)).setCell ⟨w.heap.size, 2, none⟩ (.int .i64 γ)).cell? ⟨w9.heap.size, r, none⟩ = some (.int .i64 x) := by
              rw [World.cell?_setCell_other _ _ _ _ (by intro e; injection e with e1; omega), World.cell?_setCell_other _ _ _ _ (by intro e; injection e with e1; omega), World.cell?_setCell_other _ _ _ _ (by intro e; injection e with e1; omega)]
              exact hx
            obtain ⟨W3, hW3⟩ : ∃ W3, (((wa.setCell ⟨w.heap.size, 0, none⟩ (.int .i64 p)).setCell ⟨w.heap.size, 1, none⟩ (.int .i64 k)).setCell ⟨w.heap.size, 2, none⟩ (.int .i64 γ)) = W3 := ⟨_, rfl⟩
            rw [hW3] at HD hS' hx ⊢
            clear z0 z1 z2 f0 f1 f2 hzl
            refine tail_take2 8 rfl (by kernel_rfl) (by kernel_rfl) (by kernel_rfl) (by decide) (fun _ _ _ h => h) (by rfl) (v := ?_) ?_ (by assumption) ?_
            rotate_left 1
            · intro w' hS'; obtain ⟨d0, d1, d2⟩ := hS'; go_simp; try with_reducible rfl
            try simp only [Act.put, List.setIfInBounds_toArray, List.set_cons_zero, List.set_cons_succ]
            refine tail_call 6 rfl (by kernel_rfl) rfl (fun K hK => ?_)
            go_simp
            skip
            refine hK.out _ _ (by (try dsimp only); exact HD.out.cells) (fun hS' => ?_)
            clear hK K
            try simp only [Act.put, List.setIfInBounds_toArray, List.set_cons_zero, List.set_cons_succ]
            refine tail_take2 9 rfl (by kernel_rfl) (by kernel_rfl) (by kernel_rfl) (by decide) (fun _ _ _ h => h) (by rfl) (v := ?_) ?_ (by assumption) ?_
            rotate_left 1
            · intro w' hS'; obtain ⟨d0, d1, d2⟩ := hS'; go_simp; try with_reducible rfl
            try simp only [Act.put, List.setIfInBounds_toArray, List.set_cons_zero, List.set_cons_succ]
            refine tail_end (by kernel_rfl) ?_
            clear hS'
            obtain ⟨r0, r1, r2⟩ := HD.out.rcells
            have hzl := HD.out.lt
            go_wp2_with fail
            exact bodyPost_ret (v := .tuple #[.agg #[.int .i64 p, .int .i64 k, .int .i64 γ], .string t, .int .i64 x]) (by simp [results, Try.results36, go_sem, r0, r1, r2, hzl]) rfl ⟨p, k, γ, _, _, rfl, HSZ.out, HD.out.bl⟩
        · go_simp
          refine hK.out _ _ (by (try dsimp only); exact HD.out.cells) (fun hS' => ?_)
          clear hK K
          try simp only [Act.put, List.setIfInBounds_toArray, List.set_cons_zero, List.set_cons_succ]
          obtain ⟨W3, hW3⟩ : ∃ W3, (((w9.setCell ⟨w.heap.size, 0, none⟩ (.int .i64 p)).setCell ⟨w.heap.size, 1, none⟩ (.int .i64 k)).setCell ⟨w.heap.size, 2, none⟩ (.int .i64 γ)) = W3 := ⟨_, rfl⟩
          rw [hW3] at HD hS' ⊢
          clear z0 z1 z2 f0 f1 f2 hzl
          refine tail_take2 8 rfl (by kernel_rfl) (by kernel_rfl) (by kernel_rfl) (by decide) (fun _ _ _ h => h) (by rfl) (v := ?_) ?_ (by assumption) ?_
          rotate_left 1
          · intro w' hS'; obtain ⟨d0, d1, d2⟩ := hS'; go_simp; try with_reducible rfl
          try simp only [Act.put, List.setIfInBounds_toArray, List.set_cons_zero, List.set_cons_succ]
          obtain ⟨x, hx⟩ : ∃ x, (W3.alloc (.cells #[.int .i64 0, .int .i64 1, .int .i64 1500, .int .i64 1501] 2)).cell? ⟨W3.heap.size, r, none⟩ = some (.int .i64 x) := by
            rw [World.cell?_alloc_at _ _ _ _ rfl]
            rcases (show r = 0 ∨ r = 1 ∨ r = 2 ∨ r = 3 by omega) with rfl | rfl | rfl | rfl <;> exact ⟨_, rfl⟩
          have HDl := hide (HD.out.alloc (.cells #[.int .i64 0, .int .i64 1, .int .i64 1500, .int .i64 1501] 2))
          refine tail_call 2 rfl (by kernel_rfl) rfl (fun K hK => ?_)
          go_simp
          skip
          refine hK.out _ _ (by (try dsimp only); exact HDl.out.cells) (fun hS' => ?_)
          clear hK K
          try simp only [Act.put, List.setIfInBounds_toArray, List.set_cons_zero, List.set_cons_succ]
          obtain ⟨wa, hwa⟩ : ∃ wa, W3.alloc (.cells #[.int .i64 0, .int .i64 1, .int .i64 1500, .int .i64 1501] 2) = wa := ⟨_, rfl⟩
          rw [hwa] at hx HDl hS' ⊢
          clear hwa
          refine tail_take2 5 rfl (by kernel_rfl) (by kernel_rfl) (by kernel_rfl) (by decide) (fun _ _ _ h => h) (by rfl) (v := ?_) ?_ (by assumption) ?_
          rotate_left 1
          · intro w' hS'; obtain ⟨d0, d1, d2⟩ := hS'; go_simp; try with_reducible rfl
          try simp only [Act.put, List.setIfInBounds_toArray, List.set_cons_zero, List.set_cons_succ]
          refine tail_call 6 rfl (by kernel_rfl) rfl (fun K hK => ?_)
          go_simp
          skip
          refine hK.out _ _ (by (try dsimp only); exact HDl.out.cells) (fun hS' => ?_)
          clear hK K
          try simp only [Act.put, List.setIfInBounds_toArray, List.set_cons_zero, List.set_cons_succ]
          refine tail_take2 9 rfl (by kernel_rfl) (by kernel_rfl) (by kernel_rfl) (by decide) (fun _ _ _ h => h) (by rfl) (v := ?_) ?_ (by assumption) ?_
          rotate_left 1
          · intro w' hS'; obtain ⟨d0, d1, d2⟩ := hS'; go_simp; try with_reducible rfl
          try simp only [Act.put, List.setIfInBounds_toArray, List.set_cons_zero, List.set_cons_succ]
          refine tail_end (by kernel_rfl) ?_
          clear hS'
          obtain ⟨r0, r1, r2⟩ := HDl.out.rcells
          have hzl := HDl.out.lt
          go_wp2_with fail
          exact bodyPost_ret (v := .tuple #[.agg #[.int .i64 p, .int .i64 k, .int .i64 γ], .string t, .int .i64 x]) (by simp [results, Try.results36, go_sem, r0, r1, r2, hzl]) rfl ⟨p, k, γ, _, _, rfl, HSZ.out, HDl.out.bl⟩
    · have hyb : (y4 == 0) = false := by rw [beq_eq_false_iff_ne]; exact hy
      go_wp2_with fail
      have HPd := hide HP4.out.drew
      refine tail_begin (fun w' => w'.cell? ⟨b, 0, none⟩ = some (.int .i64 p) ∧ w'.cell? ⟨b, 1, none⟩ = some (.int .i64 k) ∧ w'.cell? ⟨b, 2, none⟩ = some (.int .i64 γ)) 8 (by kernel_rfl) HPd.out.cells (fun hS' => ?_)
      obtain ⟨wd, hwd⟩ : ∃ wd, w4.drew = wd := ⟨_, rfl⟩
      rw [hwd] at hS' HPd ⊢
      clear hwd
      refine tail_take2 0 rfl (by kernel_rfl) (by kernel_rfl) (by kernel_rfl) (by decide) (fun _ _ _ h => h) (by rfl) (v := ?_) ?_ (by assumption) ?_
      rotate_left 1
      · intro w' hS'; obtain ⟨d0, d1, d2⟩ := hS'; go_simp; try with_reducible rfl
      try simp only [Act.put, List.setIfInBounds_toArray, List.set_cons_zero, List.set_cons_succ]
      refine tail_take2 1 rfl (by kernel_rfl) (by kernel_rfl) (by kernel_rfl) (by decide) (fun _ _ _ h => h) (by rfl) (v := ?_) ?_ (by assumption) ?_
      rotate_left 1
      · intro w' hS'; obtain ⟨d0, d1, d2⟩ := hS'; go_simp; try with_reducible rfl
      try simp only [Act.put, List.setIfInBounds_toArray, List.set_cons_zero, List.set_cons_succ]
      refine tail_take2 2 rfl (by kernel_rfl) (by kernel_rfl) (by kernel_rfl) (by decide) (fun _ _ _ h => h) (by rfl) (v := ?_) ?_ (by assumption) ?_
      rotate_left 1
      · intro w' hS'; obtain ⟨d0, d1, d2⟩ := hS'; go_simp; try with_reducible rfl
      try simp only [Act.put, List.setIfInBounds_toArray, List.set_cons_zero, List.set_cons_succ]
      refine tail_call 3 rfl (by kernel_rfl) rfl (fun K hK => ?_)
      go_simp
      (go_at_call 68; refine (next_any g B0 A n c code 30 _ HPd.out.src (by omega)).mono ?_; rintro e w9 ⟨y9, rfl, hy90, hy91, hs, hg⟩; have HP9 := hide (HPd.out.next hs hg); clear hs hg)
      refine hK.out _ _ (by (try dsimp only); exact HP9.out.cells) (fun hS' => ?_)
      clear hK K
      try simp only [Act.put, List.setIfInBounds_toArray, List.set_cons_zero, List.set_cons_succ]
      refine tail_take2 4 rfl (by kernel_rfl) (by kernel_rfl) (by kernel_rfl) (by decide) (fun _ _ _ h => h) (by rfl) (v := ?_) ?_ (by assumption) ?_
      rotate_left 1
      · intro w' hS'; obtain ⟨d0, d1, d2⟩ := hS'; go_simp; try with_reducible rfl
      try simp only [Act.put, List.setIfInBounds_toArray, List.set_cons_zero, List.set_cons_succ]
      obtain ⟨z0, z1, z2⟩ := HP9.out.zr.cells
      obtain ⟨f0, f1, f2⟩ := HP9.out.zr.frozen
      have hzl := HP9.out.zr.lt
      have HD := hide HP9.out.put
      refine tail_call 5 rfl (by kernel_rfl) rfl (fun K hK => ?_)
      go_simp
      skip
      refine hK.out _ _ (by (try dsimp only); exact HD.out.cells) (fun hS' => ?_)
      clear hK K
      try simp only [Act.put, List.setIfInBounds_toArray, List.set_cons_zero, List.set_cons_succ]
      obtain ⟨W3, hW3⟩ : ∃ W3, (((w9.setCell ⟨w.heap.size, 0, none⟩ (.int .i64 p)).setCell ⟨w.heap.size, 1, none⟩ (.int .i64 k)).setCell ⟨w.heap.size, 2, none⟩ (.int .i64 γ)) = W3 := ⟨_, rfl⟩
      rw [hW3] at HD hS' ⊢
      clear z0 z1 z2 f0 f1 f2 hzl
      refine tail_take2 6 rfl (by kernel_rfl) (by kernel_rfl) (by kernel_rfl) (by decide) (fun _ _ _ h => h) (by rfl) (v := ?_) ?_ (by assumption) ?_
      rotate_left 1
      · intro w' hS'; obtain ⟨d0, d1, d2⟩ := hS'; go_simp; try with_reducible rfl
      try simp only [Act.put, List.setIfInBounds_toArray, List.set_cons_zero, List.set_cons_succ]
      refine tail_take2 7 rfl (by kernel_rfl) (by kernel_rfl) (by kernel_rfl) (by decide) (fun _ _ _ h => h) (by rfl) (v := ?_) ?_ (by assumption) ?_
      rotate_left 1
      · intro w' hS'; obtain ⟨d0, d1, d2⟩ := hS'; go_simp; try with_reducible rfl
      try simp only [Act.put, List.setIfInBounds_toArray, List.set_cons_zero, List.set_cons_succ]
      refine tail_end (by kernel_rfl) ?_
      clear hS'
      obtain ⟨r0, r1, r2⟩ := HD.out.rcells
      have hzl := HD.out.lt
      go_wp2_with fail
      exact bodyPost_ret (v := .tuple #[.agg #[.int .i64 p, .int .i64 k, .int .i64 γ], .string t, .int .i64 (IntKind.i64.wrap (4 + y9))]) (by simp [results, Try.results36, go_sem, r0, r1, r2, hzl]) rfl ⟨p, k, γ, _, _, rfl, HSZ.out, HD.out.bl⟩
  · have HSZ := hide (show s.size ≤ 60 by omega)
    have hd60 : decide (60 < (s.size : Int)) = false := decide_eq_false (by omega)
    go_wp2_with fail
    refine (next_any g B0 A n c code 20 _ HP3.out.src (by omega)).mono ?_
    rintro e w4 ⟨y4, rfl, hy40, hy41, hs, hg⟩
    have HP4 := hide (HP3.out.next hs hg)
    clear hs hg
    by_cases hy : y4 = 0
    · subst hy
      go_wp2_with fail
      have HPd := hide HP4.out.drew
      refine tail_begin (fun w' => w'.cell? ⟨b, 0, none⟩ = some (.int .i64 p) ∧ w'.cell? ⟨b, 1, none⟩ = some (.int .i64 k) ∧ w'.cell? ⟨b, 2, none⟩ = some (.int .i64 γ)) 10 (by kernel_rfl) HPd.out.cells (fun hS' => ?_)
      obtain ⟨wd, hwd⟩ : ∃ wd, w4.drew = wd := ⟨_, rfl⟩
      rw [hwd] at hS' HPd ⊢
      clear hwd
      refine tail_take2 0 rfl (by kernel_rfl) (by kernel_rfl) (by kernel_rfl) (by decide) (fun _ _ _ h => h) (by rfl) (v := ?_) ?_ (by assumption) ?_
      rotate_left 1
      · intro w' hS'; obtain ⟨d0, d1, d2⟩ := hS'; go_simp; try with_reducible rfl
      try simp only [Act.put, List.setIfInBounds_toArray, List.set_cons_zero, List.set_cons_succ]
      refine tail_take2 1 rfl (by kernel_rfl) (by kernel_rfl) (by kernel_rfl) (by decide) (fun _ _ _ h => h) (by rfl) (v := ?_) ?_ (by assumption) ?_
      rotate_left 1
      · intro w' hS'; obtain ⟨d0, d1, d2⟩ := hS'; go_simp; try with_reducible rfl
      try simp only [Act.put, List.setIfInBounds_toArray, List.set_cons_zero, List.set_cons_succ]
      refine tail_take2 3 rfl (by kernel_rfl) (by kernel_rfl) (by kernel_rfl) (by decide) (fun _ _ _ h => h) (by rfl) (v := ?_) ?_ (by assumption) ?_
      rotate_left 1
      · intro w' hS'; obtain ⟨d0, d1, d2⟩ := hS'; go_simp; try with_reducible rfl
      try simp only [Act.put, List.setIfInBounds_toArray, List.set_cons_zero, List.set_cons_succ]
      refine tail_two 2 4 rfl rfl (by kernel_rfl) rfl rfl (fun K hK => ?_) (fun K hK => ?_)
      · go_simp
        have HP8l := hide (HPd.out.alloc (.cells #[.int .i64 0, .int .i64 1, .int .i64 1500, .int .i64 1501] 2))
        refine hK.out _ _ (by (try dsimp only); exact HP8l.out.cells) (fun hS' => ?_)
        clear hK K
        try simp only [Act.put, List.setIfInBounds_toArray, List.set_cons_zero, List.set_cons_succ]
        have hx : ∀ r : Nat, r < 4 → ∃ x, (wd.alloc (.cells #[.int .i64 0, .int .i64 1, .int .i64 1500, .int .i64 1501] 2)).cell? ⟨wd.heap.size, r, none⟩ = some (.int .i64 x) := fun r hr => by
          rw [World.cell?_alloc_at _ _ _ _ rfl]
          rcases (show r = 0 ∨ r = 1 ∨ r = 2 ∨ r = 3 by omega) with rfl | rfl | rfl | rfl <;> exact ⟨_, rfl⟩
        have hbl : wd.heap.size < (wd.alloc (.cells #[.int .i64 0, .int .i64 1, .int .i64 1500, .int .i64 1501] 2)).heap.size := by rw [alloc_size]; omega
        obtain ⟨wa, hwa⟩ : ∃ wa, wd.alloc (.cells #[.int .i64 0, .int .i64 1, .int .i64 1500, .int .i64 1501] 2) = wa := ⟨_, rfl⟩
        rw [hwa] at hx hbl HP8l hS' ⊢
        clear hwa
        refine tail_call 4 rfl (by kernel_rfl) rfl (fun K hK => ?_)
        go_simp
        (go_at_call 68; refine (next_any g B0 A n c code 4 _ HP8l.out.src (by omega)).mono ?_; rintro e w9 ⟨y9, rfl, hy90, hy91, hs, hg⟩; have HP9 := hide (HP8l.out.next hs hg))
        refine hK.out _ _ (by (try dsimp only); exact HP9.out.cells) (fun hS' => ?_)
        clear hK K
        try simp only [Act.put, List.setIfInBounds_toArray, List.set_cons_zero, List.set_cons_succ]
        obtain ⟨r, rfl⟩ : ∃ m : Nat, y9 = m := ⟨y9.toNat, by omega⟩
        have hr4 : (r : Int) < 4 := by omega
        obtain ⟨x, hx⟩ := hx r (by omega)
        have hgb : g ≠ wd.heap.size := by have := HPd.out.src.lt; omega
        have hx : w9.cell? ⟨wd.heap.size, r, none⟩ = some (.int .i64 x) := (grown_cell hg hbl (fun h => by simp at h; omega)).trans hx
        clear hs hg
        have hne : w.heap.size < wd.heap.size := HPd.out.zr.lt
        refine tail_take2 5 rfl (by kernel_rfl) (by kernel_rfl) (by kernel_rfl) (by decide) (fun _ _ _ h => h) (by rfl) (v := ?_) ?_ (by assumption) ?_
        rotate_left 1
        · intro w' hS'; obtain ⟨d0, d1, d2⟩ := hS'; go_simp; try with_reducible rfl
        try simp only [Act.put, List.setIfInBounds_toArray, List.set_cons_zero, List.set_cons_succ]
        obtain ⟨z0, z1, z2⟩ := HP9.out.zr.cells
        obtain ⟨f0, f1, f2⟩ := HP9.out.zr.frozen
        have hzl := HP9.out.zr.lt
        have HD := hide HP9.out.put
        refine tail_two 6 7 rfl rfl (by kernel_rfl) rfl rfl (fun K hK => ?_) (fun K hK => ?_)
        · go_simp
          refine hK.out _ _ (by (try dsimp only); exact HP9.out.cells) (fun hS' => ?_)
          clear hK K
          try simp only [Act.put, List.setIfInBounds_toArray, List.set_cons_zero, List.set_cons_succ]
          refine tail_call 7 rfl (by kernel_rfl) rfl (fun K hK => ?_)
          go_simp
          skip
          refine hK.out _ _ (by (try dsimp only); exact HD.out.cells) (fun hS' => ?_)
          clear hK K
          try simp only [Act.put, List.setIfInBounds_toArray, List.set_cons_zero, List.set_cons_succ]
          obtain ⟨W3, hW3⟩ : ∃ W3, (((w9.setCell ⟨w.heap.size, 0, none⟩ (.int .i64 p)).setCell ⟨w.heap.size, 1, none⟩ (.int .i64 k)).setCell ⟨w.heap.size, 2, none⟩ (.int .i64 γ)) = W3 := ⟨_, rfl⟩
          rw [hW3] at HD hS' ⊢
          clear z0 z1 z2 f0 f1 f2 hzl
          refine tail_take2 8 rfl (by kernel_rfl) (by kernel_rfl) (by kernel_rfl) (by decide) (fun _ _ _ h => h) (by rfl) (v := ?_) ?_ (by assumption) ?_
          rotate_left 1
          · intro w' hS'; obtain ⟨d0, d1, d2⟩ := hS'; go_simp; try with_reducible rfl
          try simp only [Act.put, List.setIfInBounds_toArray, List.set_cons_zero, List.set_cons_succ]
          refine tail_take2 9 rfl (by kernel_rfl) (by kernel_rfl) (by kernel_rfl) (by decide) (fun _ _ _ h => h) (by rfl) (v := ?_) ?_ (by assumption) ?_
          rotate_left 1
          · intro w' hS'; obtain ⟨d0, d1, d2⟩ := hS'; go_simp; try with_reducible rfl
          try simp only [Act.put, List.setIfInBounds_toArray, List.set_cons_zero, List.set_cons_succ]
          refine tail_end (by kernel_rfl) ?_
          clear hS'
          obtain ⟨r0, r1, r2⟩ := HD.out.rcells
          have hzl := HD.out.lt
          go_wp2_with fail
          exact bodyPost_ret (v := .tuple #[.agg #[.int .i64 p, .int .i64 k, .int .i64 γ], .string s, .int .i64 x]) (by simp [results, Try.results36, go_sem, r0, r1, r2, hzl]) rfl ⟨p, k, γ, _, _, rfl, HSZ.out, HD.out.bl⟩
        · go_simp
          refine hK.out _ _ (by (try dsimp only); exact HD.out.cells) (fun hS' => ?_)
          clear hK K
          try simp only [Act.put, List.setIfInBounds_toArray, List.set_cons_zero, List.set_cons_succ]
          have hx : (((w9.setCell ⟨w.heap.size, 0, none⟩ (.int .i64 p)).setCell ⟨w.heap.size, 1, none⟩ (.int .i64 k)).setCell ⟨w.heap.size, 2, none⟩ (.int .i64 γ)).cell? ⟨wd.heap.size, r, none⟩ = some (.int .i64 x) := by
            rw [World.cell?_setCell_other _ _ _ _ (by intro e; injection e with e1; omega), World.cell?_setCell_other _ _ _ _ (by intro e; injection e with e1; omega), World.cell?_setCell_other _ _ _ _ (by intro e; injection e with e1; omega)]
            exact hx
          obtain ⟨W3, hW3⟩ : ∃ W3, (((w9.setCell ⟨w.heap.size, 0, none⟩ (.int .i64 p)).setCell ⟨w.heap.size, 1, none⟩ (.int .i64 k)).setCell ⟨w.heap.size, 2, none⟩ (.int .i64 γ)) = W3 := ⟨_, rfl⟩
          rw [hW3] at HD hS' hx ⊢
          clear z0 z1 z2 f0 f1 f2 hzl
          refine tail_take2 8 rfl (by kernel_rfl) (by kernel_rfl) (by kernel_rfl) (by decide) (fun _ _ _ h => h) (by rfl) (v := ?_) ?_ (by assumption) ?_
          rotate_left 1
          · intro w' hS'; obtain ⟨d0, d1, d2⟩ := hS'; go_simp; try with_reducible rfl
          try simp only [Act.put, List.setIfInBounds_toArray, List.set_cons_zero, List.set_cons_succ]
          refine tail_call 6 rfl (by kernel_rfl) rfl (fun K hK => ?_)
          go_simp
          skip
          refine hK.out _ _ (by (try dsimp only); exact HD.out.cells) (fun hS' => ?_)
          clear hK K
          try simp only [Act.put, List.setIfInBounds_toArray, List.set_cons_zero, List.set_cons_succ]
          refine tail_take2 9 rfl (by kernel_rfl) (by kernel_rfl) (by kernel_rfl) (by decide) (fun _ _ _ h => h) (by rfl) (v := ?_) ?_ (by assumption) ?_
          rotate_left 1
          · intro w' hS'; obtain ⟨d0, d1, d2⟩ := hS'; go_simp; try with_reducible rfl
          try simp only [Act.put, List.setIfInBounds_toArray, List.set_cons_zero, List.set_cons_succ]
          refine tail_end (by kernel_rfl) ?_
          clear hS'
          obtain ⟨r0, r1, r2⟩ := HD.out.rcells
          have hzl := HD.out.lt
          go_wp2_with fail
          exact bodyPost_ret (v := .tuple #[.agg #[.int .i64 p, .int .i64 k, .int .i64 γ], .string s, .int .i64 x]) (by simp [results, Try.results36, go_sem, r0, r1, r2, hzl]) rfl ⟨p, k, γ, _, _, rfl, HSZ.out, HD.out.bl⟩
      · go_simp
        (go_at_call 68; refine (next_any g B0 A n c code 4 _ HPd.out.src (by omega)).mono ?_; rintro e w9 ⟨y9, rfl, hy90, hy91, hs, hg⟩; have HP9 := hide (HPd.out.next hs hg); clear hs hg)
        refine hK.out _ _ (by (try dsimp only); exact HP9.out.cells) (fun hS' => ?_)
        clear hK K
        try simp only [Act.put, List.setIfInBounds_toArray, List.set_cons_zero, List.set_cons_succ]
        obtain ⟨r, rfl⟩ : ∃ m : Nat, y9 = m := ⟨y9.toNat, by omega⟩
        have hr4 : (r : Int) < 4 := by omega
        obtain ⟨z0, z1, z2⟩ := HP9.out.zr.cells
        obtain ⟨f0, f1, f2⟩ := HP9.out.zr.frozen
        have hzl := HP9.out.zr.lt
        have HD := hide HP9.out.put
        refine tail_two 2 7 rfl rfl (by kernel_rfl) rfl rfl (fun K hK => ?_) (fun K hK => ?_)
        · go_simp
          clear z0 z1 z2 f0 f1 f2 hzl HD
          have hne : w.heap.size < w9.heap.size := HP9.out.zr.lt
          obtain ⟨x, hx⟩ : ∃ x, (w9.alloc (.cells #[.int .i64 0, .int .i64 1, .int .i64 1500, .int .i64 1501] 2)).cell? ⟨w9.heap.size, r, none⟩ = some (.int .i64 x) := by
            rw [World.cell?_alloc_at _ _ _ _ rfl]
            rcases (show r = 0 ∨ r = 1 ∨ r = 2 ∨ r = 3 by omega) with rfl | rfl | rfl | rfl <;> exact ⟨_, rfl⟩
          have HP9l := hide (HP9.out.alloc (.cells #[.int .i64 0, .int .i64 1, .int .i64 1500, .int .i64 1501] 2))
          refine hK.out _ _ (by (try dsimp only); exact HP9l.out.cells) (fun hS' => ?_)
          clear hK K
          try simp only [Act.put, List.setIfInBounds_toArray, List.set_cons_zero, List.set_cons_succ]
          obtain ⟨wa, hwa⟩ : ∃ wa, w9.alloc (.cells #[.int .i64 0, .int .i64 1, .int .i64 1500, .int .i64 1501] 2) = wa := ⟨_, rfl⟩
          rw [hwa] at hx HP9l hS' ⊢
          clear hwa
          refine tail_take2 5 rfl (by kernel_rfl) (by kernel_rfl) (by kernel_rfl) (by decide) (fun _ _ _ h => h) (by rfl) (v := ?_) ?_ (by assumption) ?_
          rotate_left 1
          · intro w' hS'; obtain ⟨d0, d1, d2⟩ := hS'; go_simp; try with_reducible rfl
          try simp only [Act.put, List.setIfInBounds_toArray, List.set_cons_zero, List.set_cons_succ]
          obtain ⟨z0, z1, z2⟩ := HP9l.out.zr.cells
          obtain ⟨f0, f1, f2⟩ := HP9l.out.zr.frozen
          have hzl := HP9l.out.zr.lt
          have HD := hide HP9l.out.put
          refine tail_two 6 7 rfl rfl (by kernel_rfl) rfl rfl (fun K hK => ?_) (fun K hK => ?_)
          · go_simp
            refine hK.out _ _ (by (try dsimp only); exact HP9l.out.cells) (fun hS' => ?_)
            clear hK K
            try simp only [Act.put, List.setIfInBounds_toArray, List.set_cons_zero, List.set_cons_succ]
            refine tail_call 7 rfl (by kernel_rfl) rfl (fun K hK => ?_)
            go_simp
            skip
            refine hK.out _ _ (by (try dsimp only); exact HD.out.cells) (fun hS' => ?_)
            clear hK K
            try simp only [Act.put, List.setIfInBounds_toArray, List.set_cons_zero, List.set_cons_succ]
            obtain ⟨W3, hW3⟩ : ∃ W3, (((wa.setCell ⟨w.heap.size, 0, none⟩ (.int .i64 p)).setCell ⟨w.heap.size, 1, none⟩ (.int .i64 k)).setCell ⟨w.heap.size, 2, none⟩ (.int .i64 γ)) = W3 := ⟨_, rfl⟩
            rw [hW3] at HD hS' ⊢
            clear z0 z1 z2 f0 f1 f2 hzl
            refine tail_take2 8 rfl (by kernel_rfl) (by kernel_rfl) (by kernel_rfl) (by decide) (fun _ _ _ h => h) (by rfl) (v := ?_) ?_ (by assumption) ?_
            rotate_left 1
            · intro w' hS'; obtain ⟨d0, d1, d2⟩ := hS'; go_simp; try with_reducible rfl
            try simp only [Act.put, List.setIfInBounds_toArray, List.set_cons_zero, List.set_cons_succ]
            refine tail_take2 9 rfl (by kernel_rfl) (by kernel_rfl) (by kernel_rfl) (by decide) (fun _ _ _ h => h) (by rfl) (v := ?_) ?_ (by assumption) ?_
            rotate_left 1
            · intro w' hS'; obtain ⟨d0, d1, d2⟩ := hS'; go_simp; try with_reducible rfl
            try simp only [Act.put, List.setIfInBounds_toArray, List.set_cons_zero, List.set_cons_succ]
            refine tail_end (by kernel_rfl) ?_
            clear hS'
            obtain ⟨r0, r1, r2⟩ := HD.out.rcells
            have hzl := HD.out.lt
            go_wp2_with fail
            exact bodyPost_ret (v := .tuple #[.agg #[.int .i64 p, .int .i64 k, .int .i64 γ], .string s, .int .i64 x]) (by simp [results, Try.results36, go_sem, r0, r1, r2, hzl]) rfl ⟨p, k, γ, _, _, rfl, HSZ.out, HD.out.bl⟩
          · go_simp
            refine hK.out _ _ (by (try dsimp only); exact HD.out.cells) (fun hS' => ?_)
            clear hK K
            try simp only [Act.put, List.setIfInBounds_toArray, List.set_cons_zero, List.set_cons_succ]
            have hx : (((wa.setCell ⟨w.heap.size, 0, none⟩ (.int .i64 p)).setCell ⟨w.heap.size, 1, none⟩ (.int .i64 k)).setCell ⟨w.heap.size, 2, none⟩ (.int .i64 γ)).cell? ⟨w9.heap.size, r, none⟩ = some (.int .i64 x) := by
              rw [World.cell?_setCell_other _ _ _ _ (by intro e; injection e with e1; omega), World.cell?_setCell_other _ _ _ _ (by intro e; injection e with e1; omega), World.cell?_setCell_other _ _ _ _ (by intro e; injection e with e1; omega)]
              exact hx
            obtain ⟨W3, hW3⟩ : ∃ W3, (((wa.setCell ⟨w.heap.size, 0, none⟩ (.int .i64 p)).setCell ⟨w.heap.size, 1, none⟩ (.int .i64 k)).setCell ⟨w.heap.size, 2, none⟩ (.int .i64 γ)) = W3 := ⟨_, rfl⟩
            rw [hW3] at HD hS' hx ⊢
            clear z0 z1 z2 f0 f1 f2 hzl
            refine tail_take2 8 rfl (by kernel_rfl) (by kernel_rfl) (by kernel_rfl) (by decide) (fun _ _ _ h => h) (by rfl) (v := ?_) ?_ (by assumption) ?_
            rotate_left 1
            · intro w' hS'; obtain ⟨d0, d1, d2⟩ := hS'; go_simp; try with_reducible rfl
            try simp only [Act.put, List.setIfInBounds_toArray, List.set_cons_zero, List.set_cons_succ]
            refine tail_call 6 rfl (by kernel_rfl) rfl (fun K hK => ?_)
            go_simp
            skip
            refine hK.out _ _ (by (try dsimp only); exact HD.out.cells) (fun hS' => ?_)
            clear hK K
            try simp only [Act.put, List.setIfInBounds_toArray, List.set_cons_zero, List.set_cons_succ]
            refine tail_take2 9 rfl (by kernel_rfl) (by kernel_rfl) (by kernel_rfl) (by decide) (fun _ _ _ h => h) (by rfl) (v := ?_) ?_ (by assumption) ?_
            rotate_left 1
            · intro w' hS'; obtain ⟨d0, d1, d2⟩ := hS'; go_simp; try with_reducible rfl
            try simp only [Act.put, List.setIfInBounds_toArray, List.set_cons_zero, List.set_cons_succ]
            refine tail_end (by kernel_rfl) ?_
            clear hS'
            obtain ⟨r0, r1, r2⟩ := HD.out.rcells
            have hzl := HD.out.lt
            go_wp2_with fail
            exact bodyPost_ret (v := .tuple #[.agg #[.int .i64 p, .int .i64 k, .int .i64 γ], .string s, .int .i64 x]) (by simp [results, Try.results36, go_sem, r0, r1, r2, hzl]) rfl ⟨p, k, γ, _, _, rfl, HSZ.out, HD.out.bl⟩
        · go_simp
          refine hK.out _ _ (by (try dsimp only); exact HD.out.cells) (fun hS' => ?_)
          clear hK K
          try simp only [Act.put, List.setIfInBounds_toArray, List.set_cons_zero, List.set_cons_succ]
          obtain ⟨W3, hW3⟩ : ∃ W3, (((w9.setCell ⟨w.heap.size, 0, none⟩ (.int .i64 p)).setCell ⟨w.heap.size, 1, none⟩ (.int .i64 k)).setCell ⟨w.heap.size, 2, none⟩ (.int .i64 γ)) = W3 := ⟨_, rfl⟩
          rw [hW3] at HD hS' ⊢
          clear z0 z1 z2 f0 f1 f2 hzl
          refine tail_take2 8 rfl (by kernel_rfl) (by kernel_rfl) (by kernel_rfl) (by decide) (fun _ _ _ h => h) (by rfl) (v := ?_) ?_ (by assumption) ?_
          rotate_left 1
          · intro w' hS'; obtain ⟨d0, d1, d2⟩ := hS'; go_simp; try with_reducible rfl
          try simp only [Act.put, List.setIfInBounds_toArray, List.set_cons_zero, List.set_cons_succ]
          obtain ⟨x, hx⟩ : ∃ x, (W3.alloc (.cells #[.int .i64 0, .int .i64 1, .int .i64 1500, .int .i64 1501] 2)).cell? ⟨W3.heap.size, r, none⟩ = some (.int .i64 x) := by
            rw [World.cell?_alloc_at _ _ _ _ rfl]
            rcases (show r = 0 ∨ r = 1 ∨ r = 2 ∨ r = 3 by omega) with rfl | rfl | rfl | rfl <;> exact ⟨_, rfl⟩
          have HDl := hide (HD.out.alloc (.cells #[.int .i64 0, .int .i64 1, .int .i64 1500, .int .i64 1501] 2))
          refine tail_call 2 rfl (by kernel_rfl) rfl (fun K hK => ?_)
          go_simp
          skip
          refine hK.out _ _ (by (try dsimp only); exact HDl.out.cells) (fun hS' => ?_)
          clear hK K
          try simp only [Act.put, List.setIfInBounds_toArray, List.set_cons_zero, List.set_cons_succ]
          obtain ⟨wa, hwa⟩ : ∃ wa, W3.alloc (.cells #[.int .i64 0, .int .i64 1, .int .i64 1500, .int .i64 1501] 2) = wa := ⟨_, rfl⟩
          rw [hwa] at hx HDl hS' ⊢
          clear hwa
          refine tail_take2 5 rfl (by kernel_rfl) (by kernel_rfl) (by kernel_rfl) (by decide) (fun _ _ _ h => h) (by rfl) (v := ?_) ?_ (by assumption) ?_
          rotate_left 1
          · intro w' hS'; obtain ⟨d0, d1, d2⟩ := hS'; go_simp; try with_reducible rfl
          try simp only [Act.put, List.setIfInBounds_toArray, List.set_cons_zero, List.set_cons_succ]
          refine tail_call 6 rfl (by kernel_rfl) rfl (fun K hK => ?_)
          go_simp
          skip
          refine hK.out _ _ (by (try dsimp only); exact HDl.out.cells) (fun hS' => ?_)
          clear hK K
          try simp only [Act.put, List.setIfInBounds_toArray, List.set_cons_zero, List.set_cons_succ]
          refine tail_take2 9 rfl (by kernel_rfl) (by kernel_rfl) (by kernel_rfl) (by decide) (fun _ _ _ h => h) (by rfl) (v := ?_) ?_ (by assumption) ?_
          rotate_left 1
          · intro w' hS'; obtain ⟨d0, d1, d2⟩ := hS'; go_simp; try with_reducible rfl
          try simp only [Act.put, List.setIfInBounds_toArray, List.set_cons_zero, List.set_cons_succ]
          refine tail_end (by kernel_rfl) ?_
          clear hS'
          obtain ⟨r0, r1, r2⟩ := HDl.out.rcells
          have hzl := HDl.out.lt
          go_wp2_with fail
          exact bodyPost_ret (v := .tuple #[.agg #[.int .i64 p, .int .i64 k, .int .i64 γ], .string s, .int .i64 x]) (by simp [results, Try.results36, go_sem, r0, r1, r2, hzl]) rfl ⟨p, k, γ, _, _, rfl, HSZ.out, HDl.out.bl⟩
    · have hyb : (y4 == 0) = false := by rw [beq_eq_false_iff_ne]; exact hy
      go_wp2_with fail
      have HPd := hide HP4.out.drew
      refine tail_begin (fun w' => w'.cell? ⟨b, 0, none⟩ = some (.int .i64 p) ∧ w'.cell? ⟨b, 1, none⟩ = some (.int .i64 k) ∧ w'.cell? ⟨b, 2, none⟩ = some (.int .i64 γ)) 8 (by kernel_rfl) HPd.out.cells (fun hS' => ?_)
      obtain ⟨wd, hwd⟩ : ∃ wd, w4.drew = wd := ⟨_, rfl⟩
      rw [hwd] at hS' HPd ⊢
      clear hwd
      refine tail_take2 0 rfl (by kernel_rfl) (by kernel_rfl) (by kernel_rfl) (by decide) (fun _ _ _ h => h) (by rfl) (v := ?_) ?_ (by assumption) ?_
      rotate_left 1
      · intro w' hS'; obtain ⟨d0, d1, d2⟩ := hS'; go_simp; try with_reducible rfl
      try simp only [Act.put, List.setIfInBounds_toArray, List.set_cons_zero, List.set_cons_succ]
      refine tail_take2 1 rfl (by kernel_rfl) (by kernel_rfl) (by kernel_rfl) (by decide) (fun _ _ _ h => h) (by rfl) (v := ?_) ?_ (by assumption) ?_
      rotate_left 1
      · intro w' hS'; obtain ⟨d0, d1, d2⟩ := hS'; go_simp; try with_reducible rfl
      try simp only [Act.put, List.setIfInBounds_toArray, List.set_cons_zero, List.set_cons_succ]
      refine tail_take2 2 rfl (by kernel_rfl) (by kernel_rfl) (by kernel_rfl) (by decide) (fun _ _ _ h => h) (by rfl) (v := ?_) ?_ (by assumption) ?_
      rotate_left 1
      · intro w' hS'; obtain ⟨d0, d1, d2⟩ := hS'; go_simp; try with_reducible rfl
      try simp only [Act.put, List.setIfInBounds_toArray, List.set_cons_zero, List.set_cons_succ]
      refine tail_call 3 rfl (by kernel_rfl) rfl (fun K hK => ?_)
      go_simp
      (go_at_call 68; refine (next_any g B0 A n c code 30 _ HPd.out.src (by omega)).mono ?_; rintro e w9 ⟨y9, rfl, hy90, hy91, hs, hg⟩; have HP9 := hide (HPd.out.next hs hg); clear hs hg)
      refine hK.out _ _ (by (try dsimp only); exact HP9.out.cells) (fun hS' => ?_)
      clear hK K
      try simp only [Act.put, List.setIfInBounds_toArray, List.set_cons_zero, List.set_cons_succ]
      refine tail_take2 4 rfl (by kernel_rfl) (by kernel_rfl) (by kernel_rfl) (by decide) (fun _ _ _ h => h) (by rfl) (v := ?_) ?_ (by assumption) ?_
      rotate_left 1
      · intro w' hS'; obtain ⟨d0, d1, d2⟩ := hS'; go_simp; try with_reducible rfl
      try simp only [Act.put, List.setIfInBounds_toArray, List.set_cons_zero, List.set_cons_succ]
      obtain ⟨z0, z1, z2⟩ := HP9.out.zr.cells
      obtain ⟨f0, f1, f2⟩ := HP9.out.zr.frozen
      have hzl := HP9.out.zr.lt
      have HD := hide HP9.out.put
      refine tail_call 5 rfl (by kernel_rfl) rfl (fun K hK => ?_)
      go_simp
      skip
      refine hK.out _ _ (by (try dsimp only); exact HD.out.cells) (fun hS' => ?_)
      clear hK K
      try simp only [Act.put, List.setIfInBounds_toArray, List.set_cons_zero, List.set_cons_succ]
      obtain ⟨W3, hW3⟩ : ∃ W3, (((w9.setCell ⟨w.heap.size, 0, none⟩ (.int .i64 p)).setCell ⟨w.heap.size, 1, none⟩ (.int .i64 k)).setCell ⟨w.heap.size, 2, none⟩ (.int .i64 γ)) = W3 := ⟨_, rfl⟩
      rw [hW3] at HD hS' ⊢
      clear z0 z1 z2 f0 f1 f2 hzl
      refine tail_take2 6 rfl (by kernel_rfl) (by kernel_rfl) (by kernel_rfl) (by decide) (fun _ _ _ h => h) (by rfl) (v := ?_) ?_ (by assumption) ?_
      rotate_left 1
      · intro w' hS'; obtain ⟨d0, d1, d2⟩ := hS'; go_simp; try with_reducible rfl
      try simp only [Act.put, List.setIfInBounds_toArray, List.set_cons_zero, List.set_cons_succ]
      refine tail_take2 7 rfl (by kernel_rfl) (by kernel_rfl) (by kernel_rfl) (by decide) (fun _ _ _ h => h) (by rfl) (v := ?_) ?_ (by assumption) ?_
      rotate_left 1
      · intro w' hS'; obtain ⟨d0, d1, d2⟩ := hS'; go_simp; try with_reducible rfl
      try simp only [Act.put, List.setIfInBounds_toArray, List.set_cons_zero, List.set_cons_succ]
      refine tail_end (by kernel_rfl) ?_
      clear hS'
      obtain ⟨r0, r1, r2⟩ := HD.out.rcells
      have hzl := HD.out.lt
      go_wp2_with fail
      exact bodyPost_ret (v := .tuple #[.agg #[.int .i64 p, .int .i64 k, .int .i64 γ], .string s, .int .i64 (IntKind.i64.wrap (4 + y9))]) (by simp [results, Try.results36, go_sem, r0, r1, r2, hzl]) rfl ⟨p, k, γ, _, _, rfl, HSZ.out, HD.out.bl⟩
end Go.Proofs.Ythbmfaogjaahoaa
