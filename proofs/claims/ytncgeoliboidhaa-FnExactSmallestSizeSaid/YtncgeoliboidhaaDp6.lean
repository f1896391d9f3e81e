/-
  The program's table of best cells: all sizes of one mode at an index.
  Condition: as each statement says.
-/
import Derived.Test.YtncgeoliboidhaaVQ
namespace Go.Proofs.Ytncgeoliboidhaa
open Go Go.RowKit
set_option linter.unusedSimpArgs false
set_option linter.unusedVariables false

theorem eqz_run (l c s m : Nat) (hs : s ≠ 0) (w : World) : (binOp .eql 111 (.agg #[.int .i64 l, .int .i64 c, .int .i64 s, .int .i64 m]) (.agg #[.int .i64 0, .int .i64 0, .int .i64 0, .int .i64 0])).run Try.prog w = .ok (.bool false) w := by
  have e3 : ((s : Int) == 0) = false := by simpa using hs
  by_cases h1 : l = 0
  · subst h1
    by_cases h2 : c = 0
    · subst h2
      go_simp
    · go_simp
  · go_simp
/-- What improve leaves. -/
def ImpPost (b p m R : Nat) (t : Nat → Cel) (a0 : Cel) (w : World) (e : Ending) (w' : World) : Prop :=
  e = .returned (.tuple #[]) ∧ RowQ w' b 113 401 (upd t p (fsiz t m p R a0)) ∧ w.grownBy w' (some b)
def ImpRel (b p m R : Nat) (t : Nat → Cel) (a0 : Cel) (w : World) (r0 r1 r2 r3 : Value) (sz : Value) (wr : World) : Prop :=
  ∃ k z : Nat, k ≤ R ∧ Hid (z = k + 1) ∧ 1 ≤ z ∧ z ≤ 256 ∧ sz = .int .i64 z ∧ RowQ wr b 113 401 (upd t p (fsiz t m p k a0)) ∧ w.grownBy wr (some b) ∧ wr.heap[w.heap.size]? = some (.cells #[r0, r1, r2, r3] 126 (0, 0))
theorem growAlloc {w wr : World} {row : Option Nat} (h : w.grownBy wr row) (o : Obj) : w.grownBy (wr.alloc o) row := grown_trans h (World.grownBy_alloc wr o row)
theorem growBelow {w wr wx : World} {row : Option Nat} (h : w.grownBy wr row) (hb : Below wr.heap.size wr wx) : w.grownBy wx row :=
  grown_trans h ⟨hb.os, hb.tape, hb.output, hb.size, fun i hi _ => hb.block i hi⟩
theorem two_cells {w : World} {b : Nat} {x0 x1 : Value} {t : TypeId} (h : w.heap[b]? = some (.cells #[x0, x1] t (0, 0))) : w.cell? ⟨b, 0, none⟩ = some x0 ∧ w.cell? ⟨b, 1, none⟩ = some x1 :=
  ⟨cell_of_row w b 0 _ _ _ h, cell_of_row w b 1 _ _ _ h⟩
theorem cell_keep {w : World} {p : Addr} {v : Value} (h : w.cell? p = some v) (o : Obj) : (w.alloc o).cell? p = some v := by
  exact (World.cell?_alloc_some w p o (by rw [h]; rfl)).trans h
theorem heap_next {w w' : World} {i : Nat} {o : Obj} (h : w.heap[i]? = some o) (hb : Below w.heap.size w w') : w'.heap[i]? = some o := by
  rw [hb.block i (Array.getElem?_eq_some_iff.1 h).1]; exact h

set_option maxRecDepth 100000 in
set_option maxHeartbeats 8000000 in
theorem implImprove (b p m R N gl nl cl : Nat) (Mv : Value) (t : Nat → Cel) (a0 : Cel) (w : World) (hrow : RowQ w b 113 401 (upd t p a0))
    (hgl : gl < w.heap.size) (hgb : gl ≠ b) (hL : ∀ k, k < nl → w.cell? ⟨gl, k, none⟩ = some (.int .i64 (slen m k : Nat))) (hR : R < nl) (hR2 : R ≤ 255) (hN : N ≤ 400) (hpR : p + R ≤ N) (hm : m ≤ 4) (hok : ∀ j, Ok N j (t j)) (hoa : Ok N p a0) :
    Calls Try.prog 111 #[.pointer (some ⟨b, 0, none⟩), .int .i64 p, .agg #[.int .i64 m, Mv, .slice (some ⟨gl, 0, none⟩) nl cl, .int .i64 R]] w (ImpPost b p m R t a0 w) := by
  have hbw := hrow.lt
  have HROW0 := hide (hrow.alloc (.cells #[.int .i64 m, Mv, .slice (some ⟨gl, 0, none⟩) nl cl, .int .i64 R] 126))
  have HG0 := hide (World.grownBy_alloc w (.cells #[.int .i64 m, Mv, .slice (some ⟨gl, 0, none⟩) nl cl, .int .i64 R] 126) (some b))
  have HX0 := hide (heap_alloc_new w (.cells #[.int .i64 m, Mv, .slice (some ⟨gl, 0, none⟩) nl cl, .int .i64 R] 126))
  have HL := hide hL
  have HOK := hide hok
  have HOA := hide hoa
  clear hrow hL hok hoa
  go_enter Try.func111, Try.ntmps111
  go_wp2_with fail
  go_loopw [6] (fun sz wr => ImpRel b p m R t a0 w (.int .i64 m) Mv (.slice (some ⟨gl, 0, none⟩) nl cl) (.int .i64 R) sz wr) (fun sz _ => (256 - intOf sz).toNat)
  case atStart => exact ⟨0, 1, Nat.zero_le _, rfl, by omega, by omega, rfl, HROW0.out, HG0.out, HX0.out⟩
  case round =>
    clear HROW0 HG0 HX0
    obtain ⟨k, z, hkR, hz, hz1, hz2, rfl, hrw, hg, hx⟩ := hrel
    have HKZ := hz
    have HROW := hide hrw
    have HG := hide hg
    have HX := hide hx
    clear hz hrw hg hx
    obtain ⟨a, ha⟩ : ∃ a, fsiz t m p k a0 = a := ⟨_, rfl⟩
    have HA := hide ha
    rw [ha] at HROW
    clear ha
    obtain ⟨_, _, _, c3⟩ := row4 HX.out
    by_cases hlast : z ≤ R
    · obtain ⟨xz, hxz⟩ : ∃ xz, p + z = xz := ⟨_, rfl⟩
      have hxzI : (p : Int) + (z : Int) = (xz : Int) := by omega
      have HXZ := hide hxz
      have hxz1 : xz < 401 := by omega
      have hps1 : p < 401 := by omega
      have hps1I : (p : Int) < 401 := by omega
      have hps0I : 0 ≤ (p : Int) := by omega
      have hzl : z < nl := by omega
      have hzR : (z : Int) ≤ (R : Int) := by omega
      obtain ⟨r, hr⟩ : ∃ r, t xz = r := ⟨_, rfl⟩
      have hokr := HOK.out xz
      have hC := HROW.out.cells (i := xz) hxz1
      rw [upd_ne t a (by omega), hr] at hC
      rw [hr] at hokr
      obtain ⟨l1, c1, s1, m1⟩ := r
      obtain ⟨hc1, hl1, _⟩ := hokr
      simp only at hC hc1 hl1
      obtain ⟨d0, d1, _, _⟩ := hC
      obtain ⟨sl, hsl⟩ : ∃ sl, slen (m : Int) z = sl := ⟨_, rfl⟩
      have hsl2 : sl ≤ 2827 := by rw [← hsl]; exact slen_le (by omega)
      have hcl := HL.out z hzl
      rw [hsl] at hcl
      obtain ⟨lx, hlx⟩ : ∃ lx, sl + l1 = lx := ⟨_, rfl⟩
      obtain ⟨cx, hcx⟩ : ∃ cx, c1 + 1 = cx := ⟨_, rfl⟩
      have hw5 : IntKind.i64.wrap ((sl : Int) + (l1 : Int)) = (lx : Int) := by rw [IntWalk.i64_in _ ⟨by omega, by omega⟩]; omega
      have hw8 : IntKind.i64.wrap (1 + (c1 : Int)) = (cx : Int) := by rw [IntWalk.i64_in _ ⟨by omega, by omega⟩]; omega
      have HFS := hide (show fsiz t m p (k + 1) a0 = cput a ⟨lx, cx, z, m⟩ by
        rw [fsiz, HA.out]
        unfold cnd
        rw [show k + 1 = z from HKZ.out.symm, HXZ.out, hr, hsl, ← hlx, ← hcx])
      have HKR := hide (show k + 1 ≤ R by have := HKZ.out; omega)
      have HAK := hide (show Ok N p a by rw [← HA.out]; exact ok_fsiz HOK.out hm HOA.out k (by omega) (by omega))
      have HEND2 := hide (fun (a' : Cel) (wx : World) (h1 : cput a ⟨lx, cx, z, m⟩ = a') (h2 : RowQ wx b 113 401 (upd t p a')) (h3 : w.grownBy wx (some b)) (h4 : wx.heap[w.heap.size]? = some (.cells #[.int .i64 m, Mv, .slice (some ⟨gl, 0, none⟩) nl cl, .int .i64 R] 126 (0, 0))) => show ImpRel b p m R t a0 w (.int .i64 m) Mv (.slice (some ⟨gl, 0, none⟩) nl cl) (.int .i64 R) (.int .i64 ((z + 1 : Nat) : Int)) wx from ⟨k + 1, z + 1, HKR.out, hide (by have := HKZ.out; omega), by omega, by omega, rfl, by rw [HFS.out, h1]; exact h2, h3, h4⟩)
      have hclr : wr.cell? ⟨gl, z, none⟩ = some (.int .i64 (sl : Nat)) := (grown_cell (p := ⟨gl, z, none⟩) HG.out hgl (by simp; omega)).trans hcl
      have HCLR := hide hclr
      have hwl : w.heap.size < wr.heap.size := (Array.getElem?_eq_some_iff.1 HX.out).1
      have hglr : gl < wr.heap.size := by omega
      clear hsl hlx hcx hr hc1 hl1 hsl2 hcl hxz hclr
      go_upto_region 5 with fail
      obtain ⟨wq, hwq⟩ : ∃ wq, wr.alloc (.cells #[.int .i64 l1, .int .i64 c1] 109) = wq := ⟨_, rfl⟩
      have hbq : Below wr.heap.size wr wq := by rw [← hwq]; exact (Below.refl _ _).alloc (Nat.le_refl _) _
      have HROWq := hide (HROW.out.next hbq)
      have HGq := hide (growBelow HG.out hbq)
      have HXq := hide (heap_next HX.out hbq)
      have HLq := hide (show wq.cell? ⟨gl, z, none⟩ = some (.int .i64 (sl : Nat)) from (hbq.cell (p := ⟨gl, z, none⟩) hglr).trans HCLR.out)
      have HRq := hide (show wq.heap[wr.heap.size]? = some (.cells #[.int .i64 l1, .int .i64 c1] 109 (0, 0)) by rw [← hwq]; exact heap_alloc_new wr _)
      rw [hwq]
      clear hwq hbq d0 d1 c3
      go_cut [8] from 23 to 38 (fun s8 wx => NewCel 111 wq lx cx z m s8 wx)
      case first =>
        refine tail_begin (fun w' => (w'.cell? ⟨w.heap.size, 0, none⟩ = some (.int .i64 m) ∧ w'.cell? ⟨w.heap.size, 1, none⟩ = some Mv ∧ w'.cell? ⟨w.heap.size, 2, none⟩ = some (.slice (some ⟨gl, 0, none⟩) nl cl) ∧ w'.cell? ⟨w.heap.size, 3, none⟩ = some (.int .i64 R)) ∧ (w'.cell? ⟨wr.heap.size, 0, none⟩ = some (.int .i64 l1) ∧ w'.cell? ⟨wr.heap.size, 1, none⟩ = some (.int .i64 c1)) ∧ w'.cell? ⟨gl, z, none⟩ = some (.int .i64 (sl : Nat))) 17 (by kernel_rfl) ⟨row4 HXq.out, two_cells HRq.out, HLq.out⟩ (fun hS' => ?_)
        refine tail_take 0 rfl (by kernel_rfl) (by kernel_rfl) (by kernel_rfl) (by kernel_rfl) (fun _ _ _ h => h) (by rfl) (v := ?_) ?_ (by assumption) ?_
        rotate_left 1
        · intro w' hS'; obtain ⟨⟨c0, c1, c2, c3⟩, ⟨e0, e1⟩, e2⟩ := hS'; go_simp; try with_reducible rfl
        try simp only [Act.put, List.setIfInBounds_toArray, List.set_cons_zero, List.set_cons_succ]
        refine tail_take 1 rfl (by kernel_rfl) (by kernel_rfl) (by kernel_rfl) (by kernel_rfl) (fun _ _ _ h => h) (by rfl) (v := ?_) ?_ (by assumption) ?_
        rotate_left 1
        · intro w' hS'; obtain ⟨⟨c0, c1, c2, c3⟩, ⟨e0, e1⟩, e2⟩ := hS'; go_simp; try with_reducible rfl
        try simp only [Act.put, List.setIfInBounds_toArray, List.set_cons_zero, List.set_cons_succ]
        refine tail_take 2 rfl (by kernel_rfl) (by kernel_rfl) (by kernel_rfl) (by kernel_rfl) (fun _ _ _ h => h) (by rfl) (v := ?_) ?_ (by assumption) ?_
        rotate_left 1
        · intro w' hS'; obtain ⟨⟨c0, c1, c2, c3⟩, ⟨e0, e1⟩, e2⟩ := hS'; go_simp; try with_reducible rfl
        try simp only [Act.put, List.setIfInBounds_toArray, List.set_cons_zero, List.set_cons_succ]
        refine tail_take 3 rfl (by kernel_rfl) (by kernel_rfl) (by kernel_rfl) (by kernel_rfl) (fun _ _ _ h => h) (by rfl) (v := ?_) ?_ (by assumption) ?_
        rotate_left 1
        · intro w' hS'; obtain ⟨⟨c0, c1, c2, c3⟩, ⟨e0, e1⟩, e2⟩ := hS'; go_simp; try with_reducible rfl
        try simp only [Act.put, List.setIfInBounds_toArray, List.set_cons_zero, List.set_cons_succ]
        refine tail_take 4 rfl (by kernel_rfl) (by kernel_rfl) (by kernel_rfl) (by kernel_rfl) (fun _ _ _ h => h) (by rfl) (v := ?_) ?_ (by assumption) ?_
        rotate_left 1
        · intro w' hS'; obtain ⟨⟨c0, c1, c2, c3⟩, ⟨e0, e1⟩, e2⟩ := hS'; go_simp; try with_reducible rfl
        try simp only [Act.put, List.setIfInBounds_toArray, List.set_cons_zero, List.set_cons_succ]
        refine tail_take 5 rfl (by kernel_rfl) (by kernel_rfl) (by kernel_rfl) (by kernel_rfl) (fun _ _ _ h => h) (by rfl) (v := ?_) ?_ (by assumption) ?_
        rotate_left 1
        · intro w' hS'; obtain ⟨⟨c0, c1, c2, c3⟩, ⟨e0, e1⟩, e2⟩ := hS'; go_simp; try with_reducible rfl
        try simp only [Act.put, List.setIfInBounds_toArray, List.set_cons_zero, List.set_cons_succ]
        refine tail_take 6 rfl (by kernel_rfl) (by kernel_rfl) (by kernel_rfl) (by kernel_rfl) (fun _ _ _ h => h) (by rfl) (v := ?_) ?_ (by assumption) ?_
        rotate_left 1
        · intro w' hS'; obtain ⟨⟨c0, c1, c2, c3⟩, ⟨e0, e1⟩, e2⟩ := hS'; go_simp; try with_reducible rfl
        try simp only [Act.put, List.setIfInBounds_toArray, List.set_cons_zero, List.set_cons_succ]
        refine tail_take 7 rfl (by kernel_rfl) (by kernel_rfl) (by kernel_rfl) (by kernel_rfl) (fun _ _ _ h => h) (by rfl) (v := ?_) ?_ (by assumption) ?_
        rotate_left 1
        · intro w' hS'; obtain ⟨⟨c0, c1, c2, c3⟩, ⟨e0, e1⟩, e2⟩ := hS'; go_simp; try with_reducible rfl
        try simp only [Act.put, List.setIfInBounds_toArray, List.set_cons_zero, List.set_cons_succ]
        refine tail_take 8 rfl (by kernel_rfl) (by kernel_rfl) (by kernel_rfl) (by kernel_rfl) (fun _ _ _ h => h) (by rfl) (v := ?_) ?_ (by assumption) ?_
        rotate_left 1
        · intro w' hS'; obtain ⟨⟨c0, c1, c2, c3⟩, ⟨e0, e1⟩, e2⟩ := hS'; go_simp; try with_reducible rfl
        try simp only [Act.put, List.setIfInBounds_toArray, List.set_cons_zero, List.set_cons_succ]
        refine tail_take 9 rfl (by kernel_rfl) (by kernel_rfl) (by kernel_rfl) (by kernel_rfl) (fun _ _ _ h => h) (by rfl) (v := ?_) ?_ (by assumption) ?_
        rotate_left 1
        · intro w' hS'; obtain ⟨⟨c0, c1, c2, c3⟩, ⟨e0, e1⟩, e2⟩ := hS'; go_simp; try with_reducible rfl
        try simp only [Act.put, List.setIfInBounds_toArray, List.set_cons_zero, List.set_cons_succ]
        refine tail_take 10 rfl (by kernel_rfl) (by kernel_rfl) (by kernel_rfl) (by kernel_rfl) (fun _ _ _ h => h) (by rfl) (v := ?_) ?_ (by assumption) ?_
        rotate_left 1
        · intro w' hS'; obtain ⟨⟨c0, c1, c2, c3⟩, ⟨e0, e1⟩, e2⟩ := hS'; go_simp; try with_reducible rfl
        try simp only [Act.put, List.setIfInBounds_toArray, List.set_cons_zero, List.set_cons_succ]
        refine tail_take 11 rfl (by kernel_rfl) (by kernel_rfl) (by kernel_rfl) (by kernel_rfl) (fun _ _ _ h => h) (by rfl) (v := ?_) ?_ (by assumption) ?_
        rotate_left 1
        · intro w' hS'; obtain ⟨⟨c0, c1, c2, c3⟩, ⟨e0, e1⟩, e2⟩ := hS'; go_simp; try with_reducible rfl
        try simp only [Act.put, List.setIfInBounds_toArray, List.set_cons_zero, List.set_cons_succ]
        refine tail_take 12 rfl (by kernel_rfl) (by kernel_rfl) (by kernel_rfl) (by kernel_rfl) (fun _ _ _ h => h) (by rfl) (v := ?_) ?_ (by assumption) ?_
        rotate_left 1
        · intro w' hS'; obtain ⟨⟨c0, c1, c2, c3⟩, ⟨e0, e1⟩, e2⟩ := hS'; go_simp; try with_reducible rfl
        try simp only [Act.put, List.setIfInBounds_toArray, List.set_cons_zero, List.set_cons_succ]
        refine tail_take 13 rfl (by kernel_rfl) (by kernel_rfl) (by kernel_rfl) (by kernel_rfl) (fun _ _ _ h => h) (by rfl) (v := ?_) ?_ (by assumption) ?_
        rotate_left 1
        · intro w' hS'; obtain ⟨⟨c0, c1, c2, c3⟩, ⟨e0, e1⟩, e2⟩ := hS'; go_simp; try with_reducible rfl
        try simp only [Act.put, List.setIfInBounds_toArray, List.set_cons_zero, List.set_cons_succ]
        refine tail_take 14 rfl (by kernel_rfl) (by kernel_rfl) (by kernel_rfl) (by kernel_rfl) (fun _ _ _ h => h) (by rfl) (v := ?_) ?_ (by assumption) ?_
        rotate_left 1
        · intro w' hS'; obtain ⟨⟨c0, c1, c2, c3⟩, ⟨e0, e1⟩, e2⟩ := hS'; go_simp; try with_reducible rfl
        try simp only [Act.put, List.setIfInBounds_toArray, List.set_cons_zero, List.set_cons_succ]
        refine tail_take 15 rfl (by kernel_rfl) (by kernel_rfl) (by kernel_rfl) (by kernel_rfl) (fun _ _ _ h => h) (by rfl) (v := ?_) ?_ (by assumption) ?_
        rotate_left 1
        · intro w' hS'; obtain ⟨⟨c0, c1, c2, c3⟩, ⟨e0, e1⟩, e2⟩ := hS'; go_simp; try with_reducible rfl
        try simp only [Act.put, List.setIfInBounds_toArray, List.set_cons_zero, List.set_cons_succ]
        have HBd := hide (Below.refl wq.heap.size wq).drew
        have hsd : wq.drew.heap.size = wq.heap.size := rfl
        have HSD := hide hsd
        obtain ⟨wd, hwd⟩ : ∃ q, wq.drew = q := ⟨_, rfl⟩
        rw [hwd] at hS' HBd HSD ⊢
        clear hwd hsd
        refine tail_call 16 rfl (by kernel_rfl) rfl (fun K' hK => ?_)
        go_simp
        refine hK.out _ _ (by (try dsimp only); obtain ⟨⟨q0, q1, q2, q3⟩, ⟨q4, q5⟩, q6⟩ := hS'; exact ⟨⟨cell_keep q0 _, cell_keep q1 _, cell_keep q2 _, cell_keep q3 _⟩, ⟨cell_keep q4 _, cell_keep q5 _⟩, cell_keep q6 _⟩) (fun hS' => ?_)
        clear hK K'
        try simp only [Act.put, List.setIfInBounds_toArray, List.set_cons_zero, List.set_cons_succ]
        refine tail_last 17 rfl (by kernel_rfl) (by kernel_rfl) rfl rfl (fun K' hK => ?_)
        refine wp_store_row 111 (.tmp 8) (.tmp 38) rfl wd.heap.size #[.int .i64 lx, .int .i64 cx, .int .i64 z, .int .i64 m] rfl rfl 111 _ (heap_alloc_new wd _) (by kernel_rfl) rfl (one4 _ _ _ _) ?_
        refine hK.out _ _ ?_
        clear hK K'
        try simp only [Act.put, List.setIfInBounds_toArray, List.set_cons_zero, List.set_cons_succ]
        have HF := hide (newcel_fin (l := lx) (c := cx) (s := z) (m := m) (HBd.out.alloc HBd.out.size (.cells #[.int .i64 0, .int .i64 0, .int .i64 0, .int .i64 0] 111)) (heap_alloc_new wd _) HBd.out.size)
        clear hS'
        (try go_wp2_with fail)
        go_meet
        exact HF.out
      case rest =>
        obtain ⟨bx, hbx, hbx1, hbx2, hbx3⟩ := hcut
        subst hbx
        have HRX := hide hbx2
        have HROWc := hide (HROWq.out.next hbx3)
        have HGc := hide (growBelow HGq.out hbx3)
        have HXc := hide (heap_next HXq.out hbx3)
        have hbq1 : b < wq.heap.size := HROWq.out.lt
        have hne : b ≠ bx := by omega
        clear hbx2 hbx3 HROWq HGq HXq HRq HLq
        have HEP := hide (fun (wy : World) (h0 : cput a ⟨lx, cx, z, m⟩ = ⟨lx, cx, z, m⟩) (h1 : RowQ wy b 113 401 (upd t p a)) (h2 : w.grownBy wy (some b)) (h4 : wy.heap[w.heap.size]? = some (.cells #[.int .i64 m, Mv, .slice (some ⟨gl, 0, none⟩) nl cl, .int .i64 R] 126 (0, 0))) => show ImpRel b p m R t a0 w (.int .i64 m) Mv (.slice (some ⟨gl, 0, none⟩) nl cl) (.int .i64 R) (.int .i64 ((z + 1 : Nat) : Int)) (set4 wy b p ⟨lx, cx, z, m⟩) from
          HEND2.out ⟨lx, cx, z, m⟩ _ h0 (by have h := h1.put (i := p) (by omega) ⟨lx, cx, z, m⟩; rw [upd_upd] at h; exact h) (grown_trans h2 (set4_grown _ _ _ _)) (by rw [(set4_grown wy b p ⟨lx, cx, z, m⟩).block w.heap.size (Array.getElem?_eq_some_iff.1 h4).1 (by simp; omega)]; exact h4))
        by_cases hs0 : a.s = 0
        · obtain rfl : a = zc := HAK.out.2.2.2.2.1 hs0
          have HCP := hide (show cput zc ⟨lx, cx, z, m⟩ = ⟨lx, cx, z, m⟩ by unfold cput; rw [if_pos (show zc.s = 0 from rfl)])
          clear hs0
          have hS0 : (wc.drew.cell? ⟨bx, 0, none⟩ = some (.int .i64 lx) ∧ wc.drew.cell? ⟨bx, 1, none⟩ = some (.int .i64 cx) ∧ wc.drew.cell? ⟨bx, 2, none⟩ = some (.int .i64 z) ∧ wc.drew.cell? ⟨bx, 3, none⟩ = some (.int .i64 m)) ∧ (wc.drew.cell? ⟨b, p * 4, none⟩ = some (.int .i64 0) ∧ wc.drew.cell? ⟨b, p * 4 + 1, none⟩ = some (.int .i64 0) ∧ wc.drew.cell? ⟨b, p * 4 + 2, none⟩ = some (.int .i64 0) ∧ wc.drew.cell? ⟨b, p * 4 + 3, none⟩ = some (.int .i64 0)) := ⟨row4 HRX.out, by have q := HROWc.out.drew.cells (i := p) (by omega); rw [upd_at] at q; exact q⟩
          go_wp2_with fail
          refine tail_begin (fun w' => (w'.cell? ⟨bx, 0, none⟩ = some (.int .i64 lx) ∧ w'.cell? ⟨bx, 1, none⟩ = some (.int .i64 cx) ∧ w'.cell? ⟨bx, 2, none⟩ = some (.int .i64 z) ∧ w'.cell? ⟨bx, 3, none⟩ = some (.int .i64 m)) ∧ (w'.cell? ⟨b, p * 4, none⟩ = some (.int .i64 0) ∧ w'.cell? ⟨b, p * 4 + 1, none⟩ = some (.int .i64 0) ∧ w'.cell? ⟨b, p * 4 + 2, none⟩ = some (.int .i64 0) ∧ w'.cell? ⟨b, p * 4 + 3, none⟩ = some (.int .i64 0))) 16 (by kernel_rfl) hS0 (fun hS' => ?_)
          clear hS0
          refine tail_take2 0 rfl (by kernel_rfl) (by kernel_rfl) (by kernel_rfl) (by decide) (fun _ _ _ h => h) (by rfl) (v := ?_) ?_ (by assumption) ?_
          rotate_left 1
          · intro w' hS'; obtain ⟨⟨c0, c1, c2, c3⟩, ⟨e0, e1, e2, e3⟩⟩ := hS'; go_simp; try with_reducible rfl
          try simp only [Act.put, List.setIfInBounds_toArray, List.set_cons_zero, List.set_cons_succ]
          refine tail_take2 1 rfl (by kernel_rfl) (by kernel_rfl) (by kernel_rfl) (by decide) (fun _ _ _ h => h) (by rfl) (v := ?_) ?_ (by assumption) ?_
          rotate_left 1
          · intro w' hS'; obtain ⟨⟨c0, c1, c2, c3⟩, ⟨e0, e1, e2, e3⟩⟩ := hS'; go_simp; try with_reducible rfl
          try simp only [Act.put, List.setIfInBounds_toArray, List.set_cons_zero, List.set_cons_succ]
          refine tail_take2 2 rfl (by kernel_rfl) (by kernel_rfl) (by kernel_rfl) (by decide) (fun _ _ _ h => h) (by rfl) (v := ?_) ?_ (by assumption) ?_
          rotate_left 1
          · intro w' hS'; obtain ⟨⟨c0, c1, c2, c3⟩, ⟨e0, e1, e2, e3⟩⟩ := hS'; go_simp; try with_reducible rfl
          try simp only [Act.put, List.setIfInBounds_toArray, List.set_cons_zero, List.set_cons_succ]
          refine tail_take2 3 rfl (by kernel_rfl) (by kernel_rfl) (by kernel_rfl) (by decide) (fun _ _ _ h => h) (by rfl) (v := ?_) ?_ (by assumption) ?_
          rotate_left 1
          · intro w' hS'; obtain ⟨⟨c0, c1, c2, c3⟩, ⟨e0, e1, e2, e3⟩⟩ := hS'; go_simp; try with_reducible rfl
          try simp only [Act.put, List.setIfInBounds_toArray, List.set_cons_zero, List.set_cons_succ]
          refine tail_take2 4 rfl (by kernel_rfl) (by kernel_rfl) (by kernel_rfl) (by decide) (fun _ _ _ h => h) (by rfl) (v := ?_) ?_ (by assumption) ?_
          rotate_left 1
          · intro w' hS'; obtain ⟨⟨c0, c1, c2, c3⟩, ⟨e0, e1, e2, e3⟩⟩ := hS'; go_simp; try with_reducible rfl
          try simp only [Act.put, List.setIfInBounds_toArray, List.set_cons_zero, List.set_cons_succ]
          refine tail_take2 5 rfl (by kernel_rfl) (by kernel_rfl) (by kernel_rfl) (by decide) (fun _ _ _ h => h) (by rfl) (v := ?_) ?_ (by assumption) ?_
          rotate_left 1
          · intro w' hS'; obtain ⟨⟨c0, c1, c2, c3⟩, ⟨e0, e1, e2, e3⟩⟩ := hS'; go_simp; try with_reducible rfl
          try simp only [Act.put, List.setIfInBounds_toArray, List.set_cons_zero, List.set_cons_succ]
          refine tail_take2 6 rfl (by kernel_rfl) (by kernel_rfl) (by kernel_rfl) (by decide) (fun _ _ _ h => h) (by rfl) (v := ?_) ?_ (by assumption) ?_
          rotate_left 1
          · intro w' hS'; obtain ⟨⟨c0, c1, c2, c3⟩, ⟨e0, e1, e2, e3⟩⟩ := hS'; go_simp; try with_reducible rfl
          try simp only [Act.put, List.setIfInBounds_toArray, List.set_cons_zero, List.set_cons_succ]
          refine tail_take2 7 rfl (by kernel_rfl) (by kernel_rfl) (by kernel_rfl) (by decide) (fun _ _ _ h => h) (by rfl) (v := ?_) ?_ (by assumption) ?_
          rotate_left 1
          · intro w' hS'; obtain ⟨⟨c0, c1, c2, c3⟩, ⟨e0, e1, e2, e3⟩⟩ := hS'; go_simp; try with_reducible rfl
          try simp only [Act.put, List.setIfInBounds_toArray, List.set_cons_zero, List.set_cons_succ]
          refine tail_skip 8 rfl (by kernel_rfl) (by kernel_rfl) (by kernel_rfl) (by decide) (fun _ _ _ h => h) (by rfl) (by assumption) ?_
          try simp only [Act.put, List.setIfInBounds_toArray, List.set_cons_zero, List.set_cons_succ]
          refine tail_skip 9 rfl (by kernel_rfl) (by kernel_rfl) (by kernel_rfl) (by decide) (fun _ _ _ h => h) (by rfl) (by assumption) ?_
          try simp only [Act.put, List.setIfInBounds_toArray, List.set_cons_zero, List.set_cons_succ]
          refine tail_skip 10 rfl (by kernel_rfl) (by kernel_rfl) (by kernel_rfl) (by decide) (fun _ _ _ h => h) (by rfl) (by assumption) ?_
          try simp only [Act.put, List.setIfInBounds_toArray, List.set_cons_zero, List.set_cons_succ]
          refine tail_skip 11 rfl (by kernel_rfl) (by kernel_rfl) (by kernel_rfl) (by decide) (fun _ _ _ h => h) (by rfl) (by assumption) ?_
          try simp only [Act.put, List.setIfInBounds_toArray, List.set_cons_zero, List.set_cons_succ]
          refine tail_skip 12 rfl (by kernel_rfl) (by kernel_rfl) (by kernel_rfl) (by decide) (fun _ _ _ h => h) (by rfl) (by assumption) ?_
          try simp only [Act.put, List.setIfInBounds_toArray, List.set_cons_zero, List.set_cons_succ]
          refine tail_skip 13 rfl (by kernel_rfl) (by kernel_rfl) (by kernel_rfl) (by decide) (fun _ _ _ h => h) (by rfl) (by assumption) ?_
          try simp only [Act.put, List.setIfInBounds_toArray, List.set_cons_zero, List.set_cons_succ]
          refine tail_skip 14 rfl (by kernel_rfl) (by kernel_rfl) (by kernel_rfl) (by decide) (fun _ _ _ h => h) (by rfl) (by assumption) ?_
          try simp only [Act.put, List.setIfInBounds_toArray, List.set_cons_zero, List.set_cons_succ]
          refine tail_take2 15 rfl (by kernel_rfl) (by kernel_rfl) (by kernel_rfl) (by decide) (fun _ _ _ h => h) (by rfl) (v := ?_) ?_ (by assumption) ?_
          rotate_left 1
          · intro w' hS'; obtain ⟨⟨c0, c1, c2, c3⟩, ⟨e0, e1, e2, e3⟩⟩ := hS'; go_simp; try with_reducible rfl
          try simp only [Act.put, List.setIfInBounds_toArray, List.set_cons_zero, List.set_cons_succ]
          refine tail_end (by kernel_rfl) ?_
          have HROWd := hide HROWc.out.drew
          have HGd := hide (show w.grownBy wc.drew (some b) from growBelow HGc.out (Below.refl _ _).drew)
          have HXd := hide (show wc.drew.heap[w.heap.size]? = _ from HXc.out)
          have HRXd := hide (show wc.drew.heap[bx]? = _ from HRX.out)
          obtain ⟨wy, hwy⟩ : ∃ wy, wc.drew = wy := ⟨_, rfl⟩
          rw [hwy] at HROWd HGd HXd HRXd ⊢
          clear hwy
          go_wp2_with fail
          refine tail_begin (fun w' => (w'.cell? ⟨bx, 0, none⟩ = some (.int .i64 lx) ∧ w'.cell? ⟨bx, 1, none⟩ = some (.int .i64 cx) ∧ w'.cell? ⟨bx, 2, none⟩ = some (.int .i64 z) ∧ w'.cell? ⟨bx, 3, none⟩ = some (.int .i64 m))) 6 (by kernel_rfl) (row4 HRXd.out) (fun hS' => ?_)
          have HROWe := hide HROWd.out.drew
          have HGe := hide (show w.grownBy wy.drew (some b) from growBelow HGd.out (Below.refl _ _).drew)
          have HXe := hide (show wy.drew.heap[w.heap.size]? = _ from HXd.out)
          have HRXe := hide (show wy.drew.heap[bx]? = _ from HRXd.out)
          refine tail_take2 0 rfl (by kernel_rfl) (by kernel_rfl) (by kernel_rfl) (by decide) (fun _ _ _ h => h) (by rfl) (v := ?_) ?_ (by assumption) ?_
          rotate_left 1
          · intro w' hS'; obtain ⟨c0, c1, c2, c3⟩ := hS'; go_simp; try with_reducible rfl
          try simp only [Act.put, List.setIfInBounds_toArray, List.set_cons_zero, List.set_cons_succ]
          refine tail_take2 1 rfl (by kernel_rfl) (by kernel_rfl) (by kernel_rfl) (by decide) (fun _ _ _ h => h) (by rfl) (v := ?_) ?_ (by assumption) ?_
          rotate_left 1
          · intro w' hS'; obtain ⟨c0, c1, c2, c3⟩ := hS'; go_simp; try with_reducible rfl
          try simp only [Act.put, List.setIfInBounds_toArray, List.set_cons_zero, List.set_cons_succ]
          refine tail_take2 2 rfl (by kernel_rfl) (by kernel_rfl) (by kernel_rfl) (by decide) (fun _ _ _ h => h) (by rfl) (v := ?_) ?_ (by assumption) ?_
          rotate_left 1
          · intro w' hS'; obtain ⟨c0, c1, c2, c3⟩ := hS'; go_simp; try with_reducible rfl
          try simp only [Act.put, List.setIfInBounds_toArray, List.set_cons_zero, List.set_cons_succ]
          refine tail_take2 3 rfl (by kernel_rfl) (by kernel_rfl) (by kernel_rfl) (by decide) (fun _ _ _ h => h) (by rfl) (v := ?_) ?_ (by assumption) ?_
          rotate_left 1
          · intro w' hS'; obtain ⟨c0, c1, c2, c3⟩ := hS'; go_simp; try with_reducible rfl
          try simp only [Act.put, List.setIfInBounds_toArray, List.set_cons_zero, List.set_cons_succ]
          refine tail_take2 4 rfl (by kernel_rfl) (by kernel_rfl) (by kernel_rfl) (by decide) (fun _ _ _ h => h) (by rfl) (v := ?_) ?_ (by assumption) ?_
          rotate_left 1
          · intro w' hS'; obtain ⟨c0, c1, c2, c3⟩ := hS'; go_simp; try with_reducible rfl
          try simp only [Act.put, List.setIfInBounds_toArray, List.set_cons_zero, List.set_cons_succ]
          obtain ⟨wz, hwz⟩ : ∃ wz, wy.drew = wz := ⟨_, rfl⟩
          rw [hwz] at HROWe HGe HXe HRXe hS' ⊢
          clear hwz
          obtain ⟨a0', a1', a2', a3'⟩ := HROWe.out.cells (i := p) (by omega)
          have f0 := HROWe.out.frozen (p * 4)
          have f1 := HROWe.out.frozen (p * 4 + 1)
          have f2 := HROWe.out.frozen (p * 4 + 2)
          have f3 := HROWe.out.frozen (p * 4 + 3)
          have HEPd := hide (HEP.out wz HCP.out HROWe.out HGe.out HXe.out)
          have HRXs := hide (show (set4 wz b p ⟨lx, cx, z, m⟩).heap[bx]? = some (.cells #[.int .i64 lx, .int .i64 cx, .int .i64 z, .int .i64 m] 111 (0, 0)) by rw [(set4_grown wz b p ⟨lx, cx, z, m⟩).block bx (Array.getElem?_eq_some_iff.1 HRXe.out).1 (by simp; omega)]; exact HRXe.out)
          refine tail_call 5 rfl (by kernel_rfl) rfl (fun K' hK => ?_)
          go_simp
          refine hK.out _ _ (by (try dsimp only); exact row4 HRXs.out) (fun hS' => ?_)
          clear hK K'
          try simp only [Act.put, List.setIfInBounds_toArray, List.set_cons_zero, List.set_cons_succ]
          refine tail_end (by kernel_rfl) ?_
          clear a0' a1' a2' a3' f0 f1 f2 f3
          go_wp2_with fail
          go_roundw
          case rel => exact HEPd.out
          case measure => simp [intOf]; omega
        · have HCP0 := hide (show cput a ⟨lx, cx, z, m⟩ = if btr ⟨lx, cx, z, m⟩ a then ⟨lx, cx, z, m⟩ else a by unfold cput; rw [if_neg hs0])
          obtain ⟨qal, qac, qas, qam⟩ := a
          have hs0' : qas ≠ 0 := hs0
          have e3 : ((qas : Int) == 0) = false := by simpa using hs0'
          have HSn := hide (fun (wy : World) (h : Below wc.heap.size wc wy) => show (wy.cell? ⟨bx, 0, none⟩ = some (.int .i64 lx) ∧ wy.cell? ⟨bx, 1, none⟩ = some (.int .i64 cx) ∧ wy.cell? ⟨bx, 2, none⟩ = some (.int .i64 z) ∧ wy.cell? ⟨bx, 3, none⟩ = some (.int .i64 m)) ∧ (wy.cell? ⟨b, p * 4, none⟩ = some (.int .i64 qal) ∧ wy.cell? ⟨b, p * 4 + 1, none⟩ = some (.int .i64 qac) ∧ wy.cell? ⟨b, p * 4 + 2, none⟩ = some (.int .i64 qas) ∧ wy.cell? ⟨b, p * 4 + 3, none⟩ = some (.int .i64 qam)) from ⟨row4 (heap_next HRX.out h), by have q := (HROWc.out.next h).cells (i := p) (by omega); rw [upd_at] at q; exact q⟩)
          have HD := hide ((Below.refl wc.heap.size wc).drew)
          clear hs0
          go_wp2_with fail
          refine tail_begin (fun w' => (w'.cell? ⟨bx, 0, none⟩ = some (.int .i64 lx) ∧ w'.cell? ⟨bx, 1, none⟩ = some (.int .i64 cx) ∧ w'.cell? ⟨bx, 2, none⟩ = some (.int .i64 z) ∧ w'.cell? ⟨bx, 3, none⟩ = some (.int .i64 m)) ∧ (w'.cell? ⟨b, p * 4, none⟩ = some (.int .i64 qal) ∧ w'.cell? ⟨b, p * 4 + 1, none⟩ = some (.int .i64 qac) ∧ w'.cell? ⟨b, p * 4 + 2, none⟩ = some (.int .i64 qas) ∧ w'.cell? ⟨b, p * 4 + 3, none⟩ = some (.int .i64 qam))) 16 (by kernel_rfl) (HSn.out _ HD.out) (fun hS' => ?_)
          refine tail_take2 0 rfl (by kernel_rfl) (by kernel_rfl) (by kernel_rfl) (by decide) (fun _ _ _ h => h) (by rfl) (v := ?_) ?_ (by assumption) ?_
          rotate_left 1
          · intro w' hS'; obtain ⟨⟨c0, c1, c2, c3⟩, ⟨e0, e1, e2, e3⟩⟩ := hS'; go_simp; try with_reducible rfl
          try simp only [Act.put, List.setIfInBounds_toArray, List.set_cons_zero, List.set_cons_succ]
          refine tail_take2 1 rfl (by kernel_rfl) (by kernel_rfl) (by kernel_rfl) (by decide) (fun _ _ _ h => h) (by rfl) (v := ?_) ?_ (by assumption) ?_
          rotate_left 1
          · intro w' hS'; obtain ⟨⟨c0, c1, c2, c3⟩, ⟨e0, e1, e2, e3⟩⟩ := hS'; go_simp; try with_reducible rfl
          try simp only [Act.put, List.setIfInBounds_toArray, List.set_cons_zero, List.set_cons_succ]
          refine tail_take2 2 rfl (by kernel_rfl) (by kernel_rfl) (by kernel_rfl) (by decide) (fun _ _ _ h => h) (by rfl) (v := ?_) ?_ (by assumption) ?_
          rotate_left 1
          · intro w' hS'; obtain ⟨⟨c0, c1, c2, c3⟩, ⟨e0, e1, e2, e3⟩⟩ := hS'; go_simp; try with_reducible rfl
          try simp only [Act.put, List.setIfInBounds_toArray, List.set_cons_zero, List.set_cons_succ]
          refine tail_take2 3 rfl (by kernel_rfl) (by kernel_rfl) (by kernel_rfl) (by decide) (fun _ _ _ h => h) (by rfl) (v := ?_) ?_ (by assumption) ?_
          rotate_left 1
          · intro w' hS'; obtain ⟨⟨c0, c1, c2, c3⟩, ⟨e0, e1, e2, e3⟩⟩ := hS'; go_simp; try with_reducible rfl
          try simp only [Act.put, List.setIfInBounds_toArray, List.set_cons_zero, List.set_cons_succ]
          refine tail_take2 4 rfl (by kernel_rfl) (by kernel_rfl) (by kernel_rfl) (by decide) (fun _ _ _ h => h) (by rfl) (v := ?_) ?_ (by assumption) ?_
          rotate_left 1
          · intro w' hS'; obtain ⟨⟨c0, c1, c2, c3⟩, ⟨e0, e1, e2, e3⟩⟩ := hS'; go_simp; try with_reducible rfl
          try simp only [Act.put, List.setIfInBounds_toArray, List.set_cons_zero, List.set_cons_succ]
          refine tail_take2 5 rfl (by kernel_rfl) (by kernel_rfl) (by kernel_rfl) (by decide) (fun _ _ _ h => h) (by rfl) (v := ?_) ?_ (by assumption) ?_
          rotate_left 1
          · intro w' hS'; obtain ⟨⟨c0, c1, c2, c3⟩, ⟨e0, e1, e2, e3⟩⟩ := hS'; go_simp; try with_reducible rfl
          try simp only [Act.put, List.setIfInBounds_toArray, List.set_cons_zero, List.set_cons_succ]
          refine tail_take2 6 rfl (by kernel_rfl) (by kernel_rfl) (by kernel_rfl) (by decide) (fun _ _ _ h => h) (by rfl) (v := .bool false) ?_ (by assumption) ?_
          skip
          · intro w' hS'; skip; by_cases h1 : qal = 0 <;> by_cases h2 : qac = 0 <;> (try subst h1) <;> (try subst h2) <;> go_simp
          try simp only [Act.put, List.setIfInBounds_toArray, List.set_cons_zero, List.set_cons_succ]
          refine tail_take2 7 rfl (by kernel_rfl) (by kernel_rfl) (by kernel_rfl) (by decide) (fun _ _ _ h => h) (by rfl) (v := ?_) ?_ (by assumption) ?_
          rotate_left 1
          · intro w' hS'; obtain ⟨⟨c0, c1, c2, c3⟩, ⟨e0, e1, e2, e3⟩⟩ := hS'; go_simp; try with_reducible rfl
          try simp only [Act.put, List.setIfInBounds_toArray, List.set_cons_zero, List.set_cons_succ]
          refine tail_take2 8 rfl (by kernel_rfl) (by kernel_rfl) (by kernel_rfl) (by decide) (fun _ _ _ h => h) (by rfl) (v := ?_) ?_ (by assumption) ?_
          rotate_left 1
          · intro w' hS'; obtain ⟨⟨c0, c1, c2, c3⟩, ⟨e0, e1, e2, e3⟩⟩ := hS'; go_simp; try with_reducible rfl
          try simp only [Act.put, List.setIfInBounds_toArray, List.set_cons_zero, List.set_cons_succ]
          refine tail_take2 9 rfl (by kernel_rfl) (by kernel_rfl) (by kernel_rfl) (by decide) (fun _ _ _ h => h) (by rfl) (v := ?_) ?_ (by assumption) ?_
          rotate_left 1
          · intro w' hS'; obtain ⟨⟨c0, c1, c2, c3⟩, ⟨e0, e1, e2, e3⟩⟩ := hS'; go_simp; try with_reducible rfl
          try simp only [Act.put, List.setIfInBounds_toArray, List.set_cons_zero, List.set_cons_succ]
          refine tail_take2 10 rfl (by kernel_rfl) (by kernel_rfl) (by kernel_rfl) (by decide) (fun _ _ _ h => h) (by rfl) (v := ?_) ?_ (by assumption) ?_
          rotate_left 1
          · intro w' hS'; obtain ⟨⟨c0, c1, c2, c3⟩, ⟨e0, e1, e2, e3⟩⟩ := hS'; go_simp; try with_reducible rfl
          try simp only [Act.put, List.setIfInBounds_toArray, List.set_cons_zero, List.set_cons_succ]
          refine tail_take2 11 rfl (by kernel_rfl) (by kernel_rfl) (by kernel_rfl) (by decide) (fun _ _ _ h => h) (by rfl) (v := ?_) ?_ (by assumption) ?_
          rotate_left 1
          · intro w' hS'; obtain ⟨⟨c0, c1, c2, c3⟩, ⟨e0, e1, e2, e3⟩⟩ := hS'; go_simp; try with_reducible rfl
          try simp only [Act.put, List.setIfInBounds_toArray, List.set_cons_zero, List.set_cons_succ]
          refine tail_take2 12 rfl (by kernel_rfl) (by kernel_rfl) (by kernel_rfl) (by decide) (fun _ _ _ h => h) (by rfl) (v := ?_) ?_ (by assumption) ?_
          rotate_left 1
          · intro w' hS'; obtain ⟨⟨c0, c1, c2, c3⟩, ⟨e0, e1, e2, e3⟩⟩ := hS'; go_simp; try with_reducible rfl
          try simp only [Act.put, List.setIfInBounds_toArray, List.set_cons_zero, List.set_cons_succ]
          refine tail_take2 13 rfl (by kernel_rfl) (by kernel_rfl) (by kernel_rfl) (by decide) (fun _ _ _ h => h) (by rfl) (v := ?_) ?_ (by assumption) ?_
          rotate_left 1
          · intro w' hS'; obtain ⟨⟨c0, c1, c2, c3⟩, ⟨e0, e1, e2, e3⟩⟩ := hS'; go_simp; try with_reducible rfl
          try simp only [Act.put, List.setIfInBounds_toArray, List.set_cons_zero, List.set_cons_succ]
          refine tail_callG 14 rfl (by kernel_rfl) (by rfl) (fun K hK => ?_)
          go_simp
          (go_at_call 119; refine (implBetter ⟨lx, cx, z, m⟩ ⟨qal, qac, qas, qam⟩ _).mono ?_; rintro e w2 ⟨rfl, hb2⟩; have HD2 := hide (HD.out.trans (hb2.mono HD.out.size)); clear hb2)
          refine hK.out _ _ (by (try dsimp only); exact HSn.out _ HD2.out) (fun hS' => ?_)
          clear hK K
          try simp only [Act.put, List.setIfInBounds_toArray, List.set_cons_zero, List.set_cons_succ]
          refine tail_take2 15 rfl (by kernel_rfl) (by kernel_rfl) (by kernel_rfl) (by decide) (fun _ _ _ h => h) (by rfl) (v := ?_) ?_ (by assumption) ?_
          rotate_left 1
          · intro w' hS'; obtain ⟨⟨c0, c1, c2, c3⟩, ⟨e0, e1, e2, e3⟩⟩ := hS'; go_simp; try with_reducible rfl
          try simp only [Act.put, List.setIfInBounds_toArray, List.set_cons_zero, List.set_cons_succ]
          refine tail_end (by kernel_rfl) ?_
          have HROWd := hide (HROWc.out.next HD2.out)
          have HGd := hide (growBelow HGc.out HD2.out)
          have HXd := hide (heap_next HXc.out HD2.out)
          have HRXd := hide (heap_next HRX.out HD2.out)
          obtain ⟨wy, rfl⟩ : ∃ wy, wy = w2 := ⟨_, rfl⟩
          by_cases hbt : btr ⟨lx, cx, z, m⟩ ⟨qal, qac, qas, qam⟩ = true
          · have HCP := hide (HCP0.out.trans (if_pos hbt))
            rw [hbt]
            clear hbt e3
            go_wp2_with fail
            refine tail_begin (fun w' => (w'.cell? ⟨bx, 0, none⟩ = some (.int .i64 lx) ∧ w'.cell? ⟨bx, 1, none⟩ = some (.int .i64 cx) ∧ w'.cell? ⟨bx, 2, none⟩ = some (.int .i64 z) ∧ w'.cell? ⟨bx, 3, none⟩ = some (.int .i64 m))) 6 (by kernel_rfl) (row4 HRXd.out) (fun hS' => ?_)
            have HROWe := hide HROWd.out.drew
            have HGe := hide (show w.grownBy wy.drew (some b) from growBelow HGd.out (Below.refl _ _).drew)
            have HXe := hide (show wy.drew.heap[w.heap.size]? = _ from HXd.out)
            have HRXe := hide (show wy.drew.heap[bx]? = _ from HRXd.out)
            refine tail_take2 0 rfl (by kernel_rfl) (by kernel_rfl) (by kernel_rfl) (by decide) (fun _ _ _ h => h) (by rfl) (v := ?_) ?_ (by assumption) ?_
            rotate_left 1
            · intro w' hS'; obtain ⟨c0, c1, c2, c3⟩ := hS'; go_simp; try with_reducible rfl
            try simp only [Act.put, List.setIfInBounds_toArray, List.set_cons_zero, List.set_cons_succ]
            refine tail_take2 1 rfl (by kernel_rfl) (by kernel_rfl) (by kernel_rfl) (by decide) (fun _ _ _ h => h) (by rfl) (v := ?_) ?_ (by assumption) ?_
            rotate_left 1
            · intro w' hS'; obtain ⟨c0, c1, c2, c3⟩ := hS'; go_simp; try with_reducible rfl
            try simp only [Act.put, List.setIfInBounds_toArray, List.set_cons_zero, List.set_cons_succ]
            refine tail_take2 2 rfl (by kernel_rfl) (by kernel_rfl) (by kernel_rfl) (by decide) (fun _ _ _ h => h) (by rfl) (v := ?_) ?_ (by assumption) ?_
            rotate_left 1
            · intro w' hS'; obtain ⟨c0, c1, c2, c3⟩ := hS'; go_simp; try with_reducible rfl
            try simp only [Act.put, List.setIfInBounds_toArray, List.set_cons_zero, List.set_cons_succ]
            refine tail_take2 3 rfl (by kernel_rfl) (by kernel_rfl) (by kernel_rfl) (by decide) (fun _ _ _ h => h) (by rfl) (v := ?_) ?_ (by assumption) ?_
            rotate_left 1
            · intro w' hS'; obtain ⟨c0, c1, c2, c3⟩ := hS'; go_simp; try with_reducible rfl
            try simp only [Act.put, List.setIfInBounds_toArray, List.set_cons_zero, List.set_cons_succ]
            refine tail_take2 4 rfl (by kernel_rfl) (by kernel_rfl) (by kernel_rfl) (by decide) (fun _ _ _ h => h) (by rfl) (v := ?_) ?_ (by assumption) ?_
            rotate_left 1
            · intro w' hS'; obtain ⟨c0, c1, c2, c3⟩ := hS'; go_simp; try with_reducible rfl
            try simp only [Act.put, List.setIfInBounds_toArray, List.set_cons_zero, List.set_cons_succ]
            obtain ⟨wz, hwz⟩ : ∃ wz, wy.drew = wz := ⟨_, rfl⟩
            rw [hwz] at HROWe HGe HXe HRXe hS' ⊢
            clear hwz
            obtain ⟨a0', a1', a2', a3'⟩ := HROWe.out.cells (i := p) (by omega)
            have f0 := HROWe.out.frozen (p * 4)
            have f1 := HROWe.out.frozen (p * 4 + 1)
            have f2 := HROWe.out.frozen (p * 4 + 2)
            have f3 := HROWe.out.frozen (p * 4 + 3)
            have HEPd := hide (HEP.out wz HCP.out HROWe.out HGe.out HXe.out)
            have HRXs := hide (show (set4 wz b p ⟨lx, cx, z, m⟩).heap[bx]? = some (.cells #[.int .i64 lx, .int .i64 cx, .int .i64 z, .int .i64 m] 111 (0, 0)) by rw [(set4_grown wz b p ⟨lx, cx, z, m⟩).block bx (Array.getElem?_eq_some_iff.1 HRXe.out).1 (by simp; omega)]; exact HRXe.out)
            refine tail_call 5 rfl (by kernel_rfl) rfl (fun K' hK => ?_)
            go_simp
            refine hK.out _ _ (by (try dsimp only); exact row4 HRXs.out) (fun hS' => ?_)
            clear hK K'
            try simp only [Act.put, List.setIfInBounds_toArray, List.set_cons_zero, List.set_cons_succ]
            refine tail_end (by kernel_rfl) ?_
            clear a0' a1' a2' a3' f0 f1 f2 f3
            go_wp2_with fail
            go_roundw
            case rel => exact HEPd.out
            case measure => simp [intOf]; omega
          · have hbf : btr ⟨lx, cx, z, m⟩ ⟨qal, qac, qas, qam⟩ = false := by simpa using hbt
            have HE2 := hide (HEND2.out ⟨qal, qac, qas, qam⟩ wy (HCP0.out.trans (if_neg hbt)) HROWd.out HGd.out HXd.out)
            rw [hbf]
            clear hbt hbf e3
            go_wp2_with fail
            go_roundw
            case rel => exact HE2.out
            case measure => simp [intOf]; omega
    · have HKE := hide (show k = R by have := HKZ.out; omega)
      have hlast' : ¬ (z : Int) ≤ (R : Int) := by omega
      have HF := hide (show ImpPost b p m R t a0 w (.returned (.tuple #[])) wr from ⟨rfl, by have h := HROW.out; rw [← HA.out, HKE.out] at h; exact h, HG.out⟩)
      clear hlast
      go_wp2_with fail
      first | (refine bodyPost_ret (results_none rfl _ _ _) rfl ?_) | go_end0
      exact HF.out
end Go.Proofs.Ytncgeoliboidhaa
