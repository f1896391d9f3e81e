/-
  The program's table of best cells: all sizes of one mode at an index.
  The program's reaches of all modes, at the end of a message.
  The program's table of best cells, filled from the back.
  Condition: as each statement says.
-/
import Derived.Test.YtncgeoliboidhaaGreatVP
import Derived.Test.YtncgeoliboidhaaGreatAppend
import Derived.Deep.AppendLies
import Derived.Deep.Slices
namespace Go.Proofs.YtncgeoliboidhaaGreat
open Go Go.RowKit
set_option linter.unusedSimpArgs false
set_option linter.unusedVariables false

theorem eqz_run (l c s m : Nat) (hs : s ≠ 0) (w : World) : (binOp .eql 101 (.agg #[.int .i64 l, .int .i64 c, .int .i64 s, .int .i64 m]) (.agg #[.int .i64 0, .int .i64 0, .int .i64 0, .int .i64 0])).run Tryz.prog w = .ok (.bool false) w := by
  have e3 : ((s : Int) == 0) = false := by simpa using hs
  by_cases h1 : l = 0
  · subst h1
    by_cases h2 : c = 0
    · subst h2
      go_simp
    · go_simp
  · go_simp
/-- What improve leaves. -/
def ImpPost (b p m R : Nat) (t : Nat → Cel) (a0 : Cel) (w : World) (e : Ending) (w' : World) : Prop :=
  e = .returned (.tuple #[]) ∧ RowQ w' b 103 401 (upd t p (fsiz t m p R a0)) ∧ w.grownBy w' (some b)
def ImpRel (b p m R : Nat) (t : Nat → Cel) (a0 : Cel) (w : World) (r0 r1 r2 r3 : Value) (sz : Value) (wr : World) : Prop :=
  ∃ k z : Nat, k ≤ R ∧ Hid (z = k + 1) ∧ 1 ≤ z ∧ z ≤ 256 ∧ sz = .int .i64 z ∧ RowQ wr b 103 401 (upd t p (fsiz t m p k a0)) ∧ w.grownBy wr (some b) ∧ wr.heap[w.heap.size]? = some (.cells #[r0, r1, r2, r3] 149 (0, 0))
theorem growAlloc {w wr : World} {row : Option Nat} (h : w.grownBy wr row) (o : Obj) : w.grownBy (wr.alloc o) row := grown_trans h (World.grownBy_alloc wr o row)
theorem growBelow {w wr wx : World} {row : Option Nat} (h : w.grownBy wr row) (hb : Below wr.heap.size wr wx) : w.grownBy wx row :=
  grown_trans h ⟨hb.os, hb.tape, hb.output, hb.size, fun i hi _ => hb.block i hi⟩
theorem two_cells {w : World} {b : Nat} {x0 x1 : Value} {t : TypeId} (h : w.heap[b]? = some (.cells #[x0, x1] t (0, 0))) : w.cell? ⟨b, 0, none⟩ = some x0 ∧ w.cell? ⟨b, 1, none⟩ = some x1 :=
  ⟨cell_of_row w b 0 _ _ _ h, cell_of_row w b 1 _ _ _ h⟩
theorem cell_keep {w : World} {p : Addr} {v : Value} (h : w.cell? p = some v) (o : Obj) : (w.alloc o).cell? p = some v := by
  exact (World.cell?_alloc_some w p o (by rw [h]; rfl)).trans h
theorem heap_next {w w' : World} {i : Nat} {o : Obj} (h : w.heap[i]? = some o) (hb : Below w.heap.size w w') : w'.heap[i]? = some o := by
  rw [hb.block i (Array.getElem?_eq_some_iff.1 h).1]; exact h

set_option maxRecDepth 100000 in
set_option maxHeartbeats 8000000 in
theorem implImprove (b p m R N gl nl cl : Nat) (Mv : Value) (t : Nat → Cel) (a0 : Cel) (w : World) (hrow : RowQ w b 103 401 (upd t p a0))
    (hgl : gl < w.heap.size) (hgb : gl ≠ b) (hL : ∀ k, k < nl → w.cell? ⟨gl, k, none⟩ = some (.int .i64 (slen m k : Nat))) (hR : R < nl) (hR2 : R ≤ 255) (hN : N ≤ 400) (hpR : p + R ≤ N) (hm : m ≤ 4) (hok : ∀ j, Ok N j (t j)) (hoa : Ok N p a0) :
    Calls Tryz.prog 118 #[.pointer (some ⟨b, 0, none⟩), .int .i64 p, .agg #[.int .i64 m, Mv, .slice (some ⟨gl, 0, none⟩) nl cl, .int .i64 R]] w (ImpPost b p m R t a0 w) := by
  have hbw := hrow.lt
  have HROW0 := hide (hrow.alloc (.cells #[.int .i64 m, Mv, .slice (some ⟨gl, 0, none⟩) nl cl, .int .i64 R] 149))
  have HG0 := hide (World.grownBy_alloc w (.cells #[.int .i64 m, Mv, .slice (some ⟨gl, 0, none⟩) nl cl, .int .i64 R] 149) (some b))
  have HX0 := hide (heap_alloc_new w (.cells #[.int .i64 m, Mv, .slice (some ⟨gl, 0, none⟩) nl cl, .int .i64 R] 149))
  have HL := hide hL
  have HOK := hide hok
  have HOA := hide hoa
  clear hrow hL hok hoa
  go_enter Tryz.func118, Tryz.ntmps118
  go_wp2_with fail
  go_loopw [6] (fun sz wr => ImpRel b p m R t a0 w (.int .i64 m) Mv (.slice (some ⟨gl, 0, none⟩) nl cl) (.int .i64 R) sz wr) (fun sz _ => (256 - intOf sz).toNat)
  case atStart => exact ⟨0, 1, Nat.zero_le _, rfl, by omega, by omega, rfl, HROW0.out, HG0.out, HX0.out⟩
  case round =>
    clear HROW0 HG0 HX0
    obtain ⟨k, z, hkR, hz, hz1, hz2, rfl, hrw, hg, hx⟩ := hrel
    have HKZ := hz
    have HROW := hide hrw
    have HG := hide hg
    have HX := hide hx
    clear hz hrw hg hx
    obtain ⟨a, ha⟩ : ∃ a, fsiz t m p k a0 = a := ⟨_, rfl⟩
    have HA := hide ha
    rw [ha] at HROW
    clear ha
    obtain ⟨_, _, _, c3⟩ := row4 HX.out
    by_cases hlast : z ≤ R
    · obtain ⟨xz, hxz⟩ : ∃ xz, p + z = xz := ⟨_, rfl⟩
      have hxzI : (p : Int) + (z : Int) = (xz : Int) := by omega
      have HXZ := hide hxz
      have hxz1 : xz < 401 := by omega
      have hps1 : p < 401 := by omega
      have hps1I : (p : Int) < 401 := by omega
      have hps0I : 0 ≤ (p : Int) := by omega
      have hzl : z < nl := by omega
      have hzR : (z : Int) ≤ (R : Int) := by omega
      obtain ⟨r, hr⟩ : ∃ r, t xz = r := ⟨_, rfl⟩
      have hokr := HOK.out xz
      have hC := HROW.out.cells (i := xz) hxz1
      rw [upd_ne t a (by omega), hr] at hC
      rw [hr] at hokr
      obtain ⟨l1, c1, s1, m1⟩ := r
      obtain ⟨hc1, hl1, _⟩ := hokr
      simp only at hC hc1 hl1
      obtain ⟨d0, d1, _, _⟩ := hC
      obtain ⟨sl, hsl⟩ : ∃ sl, slen (m : Int) z = sl := ⟨_, rfl⟩
      have hsl2 : sl ≤ 2827 := by rw [← hsl]; exact slen_le (by omega)
      have hcl := HL.out z hzl
      rw [hsl] at hcl
      obtain ⟨lx, hlx⟩ : ∃ lx, sl + l1 = lx := ⟨_, rfl⟩
      obtain ⟨cx, hcx⟩ : ∃ cx, c1 + 1 = cx := ⟨_, rfl⟩
      have hw5 : IntKind.i64.wrap ((sl : Int) + (l1 : Int)) = (lx : Int) := by rw [IntWalk.i64_in _ ⟨by omega, by omega⟩]; omega
      have hw8 : IntKind.i64.wrap (1 + (c1 : Int)) = (cx : Int) := by rw [IntWalk.i64_in _ ⟨by omega, by omega⟩]; omega
      have HFS := hide (show fsiz t m p (k + 1) a0 = cput a ⟨lx, cx, z, m⟩ by
        rw [fsiz, HA.out]
        unfold cnd
        rw [show k + 1 = z from HKZ.out.symm, HXZ.out, hr, hsl, ← hlx, ← hcx])
      have HKR := hide (show k + 1 ≤ R by have := HKZ.out; omega)
      have HAK := hide (show Ok N p a by rw [← HA.out]; exact ok_fsiz HOK.out hm HOA.out k (by omega) (by omega))
      have HEND2 := hide (fun (a' : Cel) (wx : World) (h1 : cput a ⟨lx, cx, z, m⟩ = a') (h2 : RowQ wx b 103 401 (upd t p a')) (h3 : w.grownBy wx (some b)) (h4 : wx.heap[w.heap.size]? = some (.cells #[.int .i64 m, Mv, .slice (some ⟨gl, 0, none⟩) nl cl, .int .i64 R] 149 (0, 0))) => show ImpRel b p m R t a0 w (.int .i64 m) Mv (.slice (some ⟨gl, 0, none⟩) nl cl) (.int .i64 R) (.int .i64 ((z + 1 : Nat) : Int)) wx from ⟨k + 1, z + 1, HKR.out, hide (by have := HKZ.out; omega), by omega, by omega, rfl, by rw [HFS.out, h1]; exact h2, h3, h4⟩)
      have hclr : wr.cell? ⟨gl, z, none⟩ = some (.int .i64 (sl : Nat)) := (grown_cell (p := ⟨gl, z, none⟩) HG.out hgl (by simp; omega)).trans hcl
      have HCLR := hide hclr
      have hwl : w.heap.size < wr.heap.size := (Array.getElem?_eq_some_iff.1 HX.out).1
      have hglr : gl < wr.heap.size := by omega
      clear hsl hlx hcx hr hc1 hl1 hsl2 hcl hxz hclr
      go_upto_region 5 with fail
      obtain ⟨wq, hwq⟩ : ∃ wq, wr.alloc (.cells #[.int .i64 l1, .int .i64 c1] 99) = wq := ⟨_, rfl⟩
      have hbq : Below wr.heap.size wr wq := by rw [← hwq]; exact (Below.refl _ _).alloc (Nat.le_refl _) _
      have HROWq := hide (HROW.out.next hbq)
      have HGq := hide (growBelow HG.out hbq)
      have HXq := hide (heap_next HX.out hbq)
      have HLq := hide (show wq.cell? ⟨gl, z, none⟩ = some (.int .i64 (sl : Nat)) from (hbq.cell (p := ⟨gl, z, none⟩) hglr).trans HCLR.out)
      have HRq := hide (show wq.heap[wr.heap.size]? = some (.cells #[.int .i64 l1, .int .i64 c1] 99 (0, 0)) by rw [← hwq]; exact heap_alloc_new wr _)
      rw [hwq]
      clear hwq hbq d0 d1 c3
      go_cut [8] from 23 to 38 (fun s8 wx => NewCel 101 wq lx cx z m s8 wx)
      case first =>
        refine tail_begin (fun w' => (w'.cell? ⟨w.heap.size, 0, none⟩ = some (.int .i64 m) ∧ w'.cell? ⟨w.heap.size, 1, none⟩ = some Mv ∧ w'.cell? ⟨w.heap.size, 2, none⟩ = some (.slice (some ⟨gl, 0, none⟩) nl cl) ∧ w'.cell? ⟨w.heap.size, 3, none⟩ = some (.int .i64 R)) ∧ (w'.cell? ⟨wr.heap.size, 0, none⟩ = some (.int .i64 l1) ∧ w'.cell? ⟨wr.heap.size, 1, none⟩ = some (.int .i64 c1)) ∧ w'.cell? ⟨gl, z, none⟩ = some (.int .i64 (sl : Nat))) 17 (by kernel_rfl) ⟨row4 HXq.out, two_cells HRq.out, HLq.out⟩ (fun hS' => ?_)
        refine tail_take 0 rfl (by kernel_rfl) (by kernel_rfl) (by kernel_rfl) (by kernel_rfl) (fun _ _ _ h => h) (by rfl) (v := ?_) ?_ (by assumption) ?_
        rotate_left 1
        · intro w' hS'; obtain ⟨⟨c0, c1, c2, c3⟩, ⟨e0, e1⟩, e2⟩ := hS'; go_simp; try with_reducible rfl
        try simp only [Act.put, List.setIfInBounds_toArray, List.set_cons_zero, List.set_cons_succ]
        refine tail_take 1 rfl (by kernel_rfl) (by kernel_rfl) (by kernel_rfl) (by kernel_rfl) (fun _ _ _ h => h) (by rfl) (v := ?_) ?_ (by assumption) ?_
        rotate_left 1
        · intro w' hS'; obtain ⟨⟨c0, c1, c2, c3⟩, ⟨e0, e1⟩, e2⟩ := hS'; go_simp; try with_reducible rfl
        try simp only [Act.put, List.setIfInBounds_toArray, List.set_cons_zero, List.set_cons_succ]
        refine tail_take 2 rfl (by kernel_rfl) (by kernel_rfl) (by kernel_rfl) (by kernel_rfl) (fun _ _ _ h => h) (by rfl) (v := ?_) ?_ (by assumption) ?_
        rotate_left 1
        · intro w' hS'; obtain ⟨⟨c0, c1, c2, c3⟩, ⟨e0, e1⟩, e2⟩ := hS'; go_simp; try with_reducible rfl
        try simp only [Act.put, List.setIfInBounds_toArray, List.set_cons_zero, List.set_cons_succ]
        refine tail_take 3 rfl (by kernel_rfl) (by kernel_rfl) (by kernel_rfl) (by kernel_rfl) (fun _ _ _ h => h) (by rfl) (v := ?_) ?_ (by assumption) ?_
        rotate_left 1
        · intro w' hS'; obtain ⟨⟨c0, c1, c2, c3⟩, ⟨e0, e1⟩, e2⟩ := hS'; go_simp; try with_reducible rfl
        try simp only [Act.put, List.setIfInBounds_toArray, List.set_cons_zero, List.set_cons_succ]
        refine tail_take 4 rfl (by kernel_rfl) (by kernel_rfl) (by kernel_rfl) (by kernel_rfl) (fun _ _ _ h => h) (by rfl) (v := ?_) ?_ (by assumption) ?_
        rotate_left 1
        · intro w' hS'; obtain ⟨⟨c0, c1, c2, c3⟩, ⟨e0, e1⟩, e2⟩ := hS'; go_simp; try with_reducible rfl
        try simp only [Act.put, List.setIfInBounds_toArray, List.set_cons_zero, List.set_cons_succ]
        refine tail_take 5 rfl (by kernel_rfl) (by kernel_rfl) (by kernel_rfl) (by kernel_rfl) (fun _ _ _ h => h) (by rfl) (v := ?_) ?_ (by assumption) ?_
        rotate_left 1
        · intro w' hS'; obtain ⟨⟨c0, c1, c2, c3⟩, ⟨e0, e1⟩, e2⟩ := hS'; go_simp; try with_reducible rfl
        try simp only [Act.put, List.setIfInBounds_toArray, List.set_cons_zero, List.set_cons_succ]
        refine tail_take 6 rfl (by kernel_rfl) (by kernel_rfl) (by kernel_rfl) (by kernel_rfl) (fun _ _ _ h => h) (by rfl) (v := ?_) ?_ (by assumption) ?_
        rotate_left 1
        · intro w' hS'; obtain ⟨⟨c0, c1, c2, c3⟩, ⟨e0, e1⟩, e2⟩ := hS'; go_simp; try with_reducible rfl
        try simp only [Act.put, List.setIfInBounds_toArray, List.set_cons_zero, List.set_cons_succ]
        refine tail_take 7 rfl (by kernel_rfl) (by kernel_rfl) (by kernel_rfl) (by kernel_rfl) (fun _ _ _ h => h) (by rfl) (v := ?_) ?_ (by assumption) ?_
        rotate_left 1
        · intro w' hS'; obtain ⟨⟨c0, c1, c2, c3⟩, ⟨e0, e1⟩, e2⟩ := hS'; go_simp; try with_reducible rfl
        try simp only [Act.put, List.setIfInBounds_toArray, List.set_cons_zero, List.set_cons_succ]
        refine tail_take 8 rfl (by kernel_rfl) (by kernel_rfl) (by kernel_rfl) (by kernel_rfl) (fun _ _ _ h => h) (by rfl) (v := ?_) ?_ (by assumption) ?_
        rotate_left 1
        · intro w' hS'; obtain ⟨⟨c0, c1, c2, c3⟩, ⟨e0, e1⟩, e2⟩ := hS'; go_simp; try with_reducible rfl
        try simp only [Act.put, List.setIfInBounds_toArray, List.set_cons_zero, List.set_cons_succ]
        refine tail_take 9 rfl (by kernel_rfl) (by kernel_rfl) (by kernel_rfl) (by kernel_rfl) (fun _ _ _ h => h) (by rfl) (v := ?_) ?_ (by assumption) ?_
        rotate_left 1
        · intro w' hS'; obtain ⟨⟨c0, c1, c2, c3⟩, ⟨e0, e1⟩, e2⟩ := hS'; go_simp; try with_reducible rfl
        try simp only [Act.put, List.setIfInBounds_toArray, List.set_cons_zero, List.set_cons_succ]
        refine tail_take 10 rfl (by kernel_rfl) (by kernel_rfl) (by kernel_rfl) (by kernel_rfl) (fun _ _ _ h => h) (by rfl) (v := ?_) ?_ (by assumption) ?_
        rotate_left 1
        · intro w' hS'; obtain ⟨⟨c0, c1, c2, c3⟩, ⟨e0, e1⟩, e2⟩ := hS'; go_simp; try with_reducible rfl
        try simp only [Act.put, List.setIfInBounds_toArray, List.set_cons_zero, List.set_cons_succ]
        refine tail_take 11 rfl (by kernel_rfl) (by kernel_rfl) (by kernel_rfl) (by kernel_rfl) (fun _ _ _ h => h) (by rfl) (v := ?_) ?_ (by assumption) ?_
        rotate_left 1
        · intro w' hS'; obtain ⟨⟨c0, c1, c2, c3⟩, ⟨e0, e1⟩, e2⟩ := hS'; go_simp; try with_reducible rfl
        try simp only [Act.put, List.setIfInBounds_toArray, List.set_cons_zero, List.set_cons_succ]
        refine tail_take 12 rfl (by kernel_rfl) (by kernel_rfl) (by kernel_rfl) (by kernel_rfl) (fun _ _ _ h => h) (by rfl) (v := ?_) ?_ (by assumption) ?_
        rotate_left 1
        · intro w' hS'; obtain ⟨⟨c0, c1, c2, c3⟩, ⟨e0, e1⟩, e2⟩ := hS'; go_simp; try with_reducible rfl
        try simp only [Act.put, List.setIfInBounds_toArray, List.set_cons_zero, List.set_cons_succ]
        refine tail_take 13 rfl (by kernel_rfl) (by kernel_rfl) (by kernel_rfl) (by kernel_rfl) (fun _ _ _ h => h) (by rfl) (v := ?_) ?_ (by assumption) ?_
        rotate_left 1
        · intro w' hS'; obtain ⟨⟨c0, c1, c2, c3⟩, ⟨e0, e1⟩, e2⟩ := hS'; go_simp; try with_reducible rfl
        try simp only [Act.put, List.setIfInBounds_toArray, List.set_cons_zero, List.set_cons_succ]
        refine tail_take 14 rfl (by kernel_rfl) (by kernel_rfl) (by kernel_rfl) (by kernel_rfl) (fun _ _ _ h => h) (by rfl) (v := ?_) ?_ (by assumption) ?_
        rotate_left 1
        · intro w' hS'; obtain ⟨⟨c0, c1, c2, c3⟩, ⟨e0, e1⟩, e2⟩ := hS'; go_simp; try with_reducible rfl
        try simp only [Act.put, List.setIfInBounds_toArray, List.set_cons_zero, List.set_cons_succ]
        refine tail_take 15 rfl (by kernel_rfl) (by kernel_rfl) (by kernel_rfl) (by kernel_rfl) (fun _ _ _ h => h) (by rfl) (v := ?_) ?_ (by assumption) ?_
        rotate_left 1
        · intro w' hS'; obtain ⟨⟨c0, c1, c2, c3⟩, ⟨e0, e1⟩, e2⟩ := hS'; go_simp; try with_reducible rfl
        try simp only [Act.put, List.setIfInBounds_toArray, List.set_cons_zero, List.set_cons_succ]
        have HBd := hide (Below.refl wq.heap.size wq).drew
        have hsd : wq.drew.heap.size = wq.heap.size := rfl
        have HSD := hide hsd
        obtain ⟨wd, hwd⟩ : ∃ q, wq.drew = q := ⟨_, rfl⟩
        rw [hwd] at hS' HBd HSD ⊢
        clear hwd hsd
        refine tail_call 16 rfl (by kernel_rfl) rfl (fun K' hK => ?_)
        go_simp
        refine hK.out _ _ (by (try dsimp only); obtain ⟨⟨q0, q1, q2, q3⟩, ⟨q4, q5⟩, q6⟩ := hS'; exact ⟨⟨cell_keep q0 _, cell_keep q1 _, cell_keep q2 _, cell_keep q3 _⟩, ⟨cell_keep q4 _, cell_keep q5 _⟩, cell_keep q6 _⟩) (fun hS' => ?_)
        clear hK K'
        try simp only [Act.put, List.setIfInBounds_toArray, List.set_cons_zero, List.set_cons_succ]
        refine tail_last 17 rfl (by kernel_rfl) (by kernel_rfl) rfl rfl (fun K' hK => ?_)
        refine wp_store_row 101 (.tmp 8) (.tmp 38) rfl wd.heap.size #[.int .i64 lx, .int .i64 cx, .int .i64 z, .int .i64 m] rfl rfl 101 _ (heap_alloc_new wd _) (by kernel_rfl) rfl (one4 _ _ _ _) ?_
        refine hK.out _ _ ?_
        clear hK K'
        try simp only [Act.put, List.setIfInBounds_toArray, List.set_cons_zero, List.set_cons_succ]
        have HF := hide (newcel_fin (l := lx) (c := cx) (s := z) (m := m) (HBd.out.alloc HBd.out.size (.cells #[.int .i64 0, .int .i64 0, .int .i64 0, .int .i64 0] 101)) (heap_alloc_new wd _) HBd.out.size)
        clear hS'
        (try go_wp2_with fail)
        go_meet
        exact HF.out
      case rest =>
        obtain ⟨bx, hbx, hbx1, hbx2, hbx3⟩ := hcut
        subst hbx
        have HRX := hide hbx2
        have HROWc := hide (HROWq.out.next hbx3)
        have HGc := hide (growBelow HGq.out hbx3)
        have HXc := hide (heap_next HXq.out hbx3)
        have hbq1 : b < wq.heap.size := HROWq.out.lt
        have hne : b ≠ bx := by omega
        clear hbx2 hbx3 HROWq HGq HXq HRq HLq
        have HEP := hide (fun (wy : World) (h0 : cput a ⟨lx, cx, z, m⟩ = ⟨lx, cx, z, m⟩) (h1 : RowQ wy b 103 401 (upd t p a)) (h2 : w.grownBy wy (some b)) (h4 : wy.heap[w.heap.size]? = some (.cells #[.int .i64 m, Mv, .slice (some ⟨gl, 0, none⟩) nl cl, .int .i64 R] 149 (0, 0))) => show ImpRel b p m R t a0 w (.int .i64 m) Mv (.slice (some ⟨gl, 0, none⟩) nl cl) (.int .i64 R) (.int .i64 ((z + 1 : Nat) : Int)) (set4 wy b p ⟨lx, cx, z, m⟩) from
          HEND2.out ⟨lx, cx, z, m⟩ _ h0 (by have h := h1.put (i := p) (by omega) ⟨lx, cx, z, m⟩; rw [upd_upd] at h; exact h) (grown_trans h2 (set4_grown _ _ _ _)) (by rw [(set4_grown wy b p ⟨lx, cx, z, m⟩).block w.heap.size (Array.getElem?_eq_some_iff.1 h4).1 (by simp; omega)]; exact h4))
        by_cases hs0 : a.s = 0
        · obtain rfl : a = zc := HAK.out.2.2.2.2.1 hs0
          have HCP := hide (show cput zc ⟨lx, cx, z, m⟩ = ⟨lx, cx, z, m⟩ by unfold cput; rw [if_pos (show zc.s = 0 from rfl)])
          clear hs0
          have hS0 : (wc.drew.cell? ⟨bx, 0, none⟩ = some (.int .i64 lx) ∧ wc.drew.cell? ⟨bx, 1, none⟩ = some (.int .i64 cx) ∧ wc.drew.cell? ⟨bx, 2, none⟩ = some (.int .i64 z) ∧ wc.drew.cell? ⟨bx, 3, none⟩ = some (.int .i64 m)) ∧ (wc.drew.cell? ⟨b, p * 4, none⟩ = some (.int .i64 0) ∧ wc.drew.cell? ⟨b, p * 4 + 1, none⟩ = some (.int .i64 0) ∧ wc.drew.cell? ⟨b, p * 4 + 2, none⟩ = some (.int .i64 0) ∧ wc.drew.cell? ⟨b, p * 4 + 3, none⟩ = some (.int .i64 0)) := ⟨row4 HRX.out, by have q := HROWc.out.drew.cells (i := p) (by omega); rw [upd_at] at q; exact q⟩
          go_wp2_with fail
          refine tail_begin (fun w' => (w'.cell? ⟨bx, 0, none⟩ = some (.int .i64 lx) ∧ w'.cell? ⟨bx, 1, none⟩ = some (.int .i64 cx) ∧ w'.cell? ⟨bx, 2, none⟩ = some (.int .i64 z) ∧ w'.cell? ⟨bx, 3, none⟩ = some (.int .i64 m)) ∧ (w'.cell? ⟨b, p * 4, none⟩ = some (.int .i64 0) ∧ w'.cell? ⟨b, p * 4 + 1, none⟩ = some (.int .i64 0) ∧ w'.cell? ⟨b, p * 4 + 2, none⟩ = some (.int .i64 0) ∧ w'.cell? ⟨b, p * 4 + 3, none⟩ = some (.int .i64 0))) 16 (by kernel_rfl) hS0 (fun hS' => ?_)
          clear hS0
          refine tail_take2 0 rfl (by kernel_rfl) (by kernel_rfl) (by kernel_rfl) (by decide) (fun _ _ _ h => h) (by rfl) (v := ?_) ?_ (by assumption) ?_
          rotate_left 1
          · intro w' hS'; obtain ⟨⟨c0, c1, c2, c3⟩, ⟨e0, e1, e2, e3⟩⟩ := hS'; go_simp; try with_reducible rfl
          try simp only [Act.put, List.setIfInBounds_toArray, List.set_cons_zero, List.set_cons_succ]
          refine tail_take2 1 rfl (by kernel_rfl) (by kernel_rfl) (by kernel_rfl) (by decide) (fun _ _ _ h => h) (by rfl) (v := ?_) ?_ (by assumption) ?_
          rotate_left 1
          · intro w' hS'; obtain ⟨⟨c0, c1, c2, c3⟩, ⟨e0, e1, e2, e3⟩⟩ := hS'; go_simp; try with_reducible rfl
          try simp only [Act.put, List.setIfInBounds_toArray, List.set_cons_zero, List.set_cons_succ]
          refine tail_take2 2 rfl (by kernel_rfl) (by kernel_rfl) (by kernel_rfl) (by decide) (fun _ _ _ h => h) (by rfl) (v := ?_) ?_ (by assumption) ?_
          rotate_left 1
          · intro w' hS'; obtain ⟨⟨c0, c1, c2, c3⟩, ⟨e0, e1, e2, e3⟩⟩ := hS'; go_simp; try with_reducible rfl
          try simp only [Act.put, List.setIfInBounds_toArray, List.set_cons_zero, List.set_cons_succ]
          refine tail_take2 3 rfl (by kernel_rfl) (by kernel_rfl) (by kernel_rfl) (by decide) (fun _ _ _ h => h) (by rfl) (v := ?_) ?_ (by assumption) ?_
          rotate_left 1
          · intro w' hS'; obtain ⟨⟨c0, c1, c2, c3⟩, ⟨e0, e1, e2, e3⟩⟩ := hS'; go_simp; try with_reducible rfl
          try simp only [Act.put, List.setIfInBounds_toArray, List.set_cons_zero, List.set_cons_succ]
          refine tail_take2 4 rfl (by kernel_rfl) (by kernel_rfl) (by kernel_rfl) (by decide) (fun _ _ _ h => h) (by rfl) (v := ?_) ?_ (by assumption) ?_
          rotate_left 1
          · intro w' hS'; obtain ⟨⟨c0, c1, c2, c3⟩, ⟨e0, e1, e2, e3⟩⟩ := hS'; go_simp; try with_reducible rfl
          try simp only [Act.put, List.setIfInBounds_toArray, List.set_cons_zero, List.set_cons_succ]
          refine tail_take2 5 rfl (by kernel_rfl) (by kernel_rfl) (by kernel_rfl) (by decide) (fun _ _ _ h => h) (by rfl) (v := ?_) ?_ (by assumption) ?_
          rotate_left 1
          · intro w' hS'; obtain ⟨⟨c0, c1, c2, c3⟩, ⟨e0, e1, e2, e3⟩⟩ := hS'; go_simp; try with_reducible rfl
          try simp only [Act.put, List.setIfInBounds_toArray, List.set_cons_zero, List.set_cons_succ]
          refine tail_take2 6 rfl (by kernel_rfl) (by kernel_rfl) (by kernel_rfl) (by decide) (fun _ _ _ h => h) (by rfl) (v := ?_) ?_ (by assumption) ?_
          rotate_left 1
          · intro w' hS'; obtain ⟨⟨c0, c1, c2, c3⟩, ⟨e0, e1, e2, e3⟩⟩ := hS'; go_simp; try with_reducible rfl
          try simp only [Act.put, List.setIfInBounds_toArray, List.set_cons_zero, List.set_cons_succ]
          refine tail_take2 7 rfl (by kernel_rfl) (by kernel_rfl) (by kernel_rfl) (by decide) (fun _ _ _ h => h) (by rfl) (v := ?_) ?_ (by assumption) ?_
          rotate_left 1
          · intro w' hS'; obtain ⟨⟨c0, c1, c2, c3⟩, ⟨e0, e1, e2, e3⟩⟩ := hS'; go_simp; try with_reducible rfl
          try simp only [Act.put, List.setIfInBounds_toArray, List.set_cons_zero, List.set_cons_succ]
          refine tail_skip 8 rfl (by kernel_rfl) (by kernel_rfl) (by kernel_rfl) (by decide) (fun _ _ _ h => h) (by rfl) (by assumption) ?_
          try simp only [Act.put, List.setIfInBounds_toArray, List.set_cons_zero, List.set_cons_succ]
          refine tail_skip 9 rfl (by kernel_rfl) (by kernel_rfl) (by kernel_rfl) (by decide) (fun _ _ _ h => h) (by rfl) (by assumption) ?_
          try simp only [Act.put, List.setIfInBounds_toArray, List.set_cons_zero, List.set_cons_succ]
          refine tail_skip 10 rfl (by kernel_rfl) (by kernel_rfl) (by kernel_rfl) (by decide) (fun _ _ _ h => h) (by rfl) (by assumption) ?_
          try simp only [Act.put, List.setIfInBounds_toArray, List.set_cons_zero, List.set_cons_succ]
          refine tail_skip 11 rfl (by kernel_rfl) (by kernel_rfl) (by kernel_rfl) (by decide) (fun _ _ _ h => h) (by rfl) (by assumption) ?_
          try simp only [Act.put, List.setIfInBounds_toArray, List.set_cons_zero, List.set_cons_succ]
          refine tail_skip 12 rfl (by kernel_rfl) (by kernel_rfl) (by kernel_rfl) (by decide) (fun _ _ _ h => h) (by rfl) (by assumption) ?_
          try simp only [Act.put, List.setIfInBounds_toArray, List.set_cons_zero, List.set_cons_succ]
          refine tail_skip 13 rfl (by kernel_rfl) (by kernel_rfl) (by kernel_rfl) (by decide) (fun _ _ _ h => h) (by rfl) (by assumption) ?_
          try simp only [Act.put, List.setIfInBounds_toArray, List.set_cons_zero, List.set_cons_succ]
          refine tail_skip 14 rfl (by kernel_rfl) (by kernel_rfl) (by kernel_rfl) (by decide) (fun _ _ _ h => h) (by rfl) (by assumption) ?_
          try simp only [Act.put, List.setIfInBounds_toArray, List.set_cons_zero, List.set_cons_succ]
          refine tail_take2 15 rfl (by kernel_rfl) (by kernel_rfl) (by kernel_rfl) (by decide) (fun _ _ _ h => h) (by rfl) (v := ?_) ?_ (by assumption) ?_
          rotate_left 1
          · intro w' hS'; obtain ⟨⟨c0, c1, c2, c3⟩, ⟨e0, e1, e2, e3⟩⟩ := hS'; go_simp; try with_reducible rfl
          try simp only [Act.put, List.setIfInBounds_toArray, List.set_cons_zero, List.set_cons_succ]
          refine tail_end (by kernel_rfl) ?_
          have HROWd := hide HROWc.out.drew
          have HGd := hide (show w.grownBy wc.drew (some b) from growBelow HGc.out (Below.refl _ _).drew)
          have HXd := hide (show wc.drew.heap[w.heap.size]? = _ from HXc.out)
          have HRXd := hide (show wc.drew.heap[bx]? = _ from HRX.out)
          obtain ⟨wy, hwy⟩ : ∃ wy, wc.drew = wy := ⟨_, rfl⟩
          rw [hwy] at HROWd HGd HXd HRXd ⊢
          clear hwy
          go_wp2_with fail
          refine tail_begin (fun w' => (w'.cell? ⟨bx, 0, none⟩ = some (.int .i64 lx) ∧ w'.cell? ⟨bx, 1, none⟩ = some (.int .i64 cx) ∧ w'.cell? ⟨bx, 2, none⟩ = some (.int .i64 z) ∧ w'.cell? ⟨bx, 3, none⟩ = some (.int .i64 m))) 6 (by kernel_rfl) (row4 HRXd.out) (fun hS' => ?_)
          have HROWe := hide HROWd.out.drew
          have HGe := hide (show w.grownBy wy.drew (some b) from growBelow HGd.out (Below.refl _ _).drew)
          have HXe := hide (show wy.drew.heap[w.heap.size]? = _ from HXd.out)
          have HRXe := hide (show wy.drew.heap[bx]? = _ from HRXd.out)
          refine tail_take2 0 rfl (by kernel_rfl) (by kernel_rfl) (by kernel_rfl) (by decide) (fun _ _ _ h => h) (by rfl) (v := ?_) ?_ (by assumption) ?_
          rotate_left 1
          · intro w' hS'; obtain ⟨c0, c1, c2, c3⟩ := hS'; go_simp; try with_reducible rfl
          try simp only [Act.put, List.setIfInBounds_toArray, List.set_cons_zero, List.set_cons_succ]
          refine tail_take2 1 rfl (by kernel_rfl) (by kernel_rfl) (by kernel_rfl) (by decide) (fun _ _ _ h => h) (by rfl) (v := ?_) ?_ (by assumption) ?_
          rotate_left 1
          · intro w' hS'; obtain ⟨c0, c1, c2, c3⟩ := hS'; go_simp; try with_reducible rfl
          try simp only [Act.put, List.setIfInBounds_toArray, List.set_cons_zero, List.set_cons_succ]
          refine tail_take2 2 rfl (by kernel_rfl) (by kernel_rfl) (by kernel_rfl) (by decide) (fun _ _ _ h => h) (by rfl) (v := ?_) ?_ (by assumption) ?_
          rotate_left 1
          · intro w' hS'; obtain ⟨c0, c1, c2, c3⟩ := hS'; go_simp; try with_reducible rfl
          try simp only [Act.put, List.setIfInBounds_toArray, List.set_cons_zero, List.set_cons_succ]
          refine tail_take2 3 rfl (by kernel_rfl) (by kernel_rfl) (by kernel_rfl) (by decide) (fun _ _ _ h => h) (by rfl) (v := ?_) ?_ (by assumption) ?_
          rotate_left 1
          · intro w' hS'; obtain ⟨c0, c1, c2, c3⟩ := hS'; go_simp; try with_reducible rfl
          try simp only [Act.put, List.setIfInBounds_toArray, List.set_cons_zero, List.set_cons_succ]
          refine tail_take2 4 rfl (by kernel_rfl) (by kernel_rfl) (by kernel_rfl) (by decide) (fun _ _ _ h => h) (by rfl) (v := ?_) ?_ (by assumption) ?_
          rotate_left 1
          · intro w' hS'; obtain ⟨c0, c1, c2, c3⟩ := hS'; go_simp; try with_reducible rfl
          try simp only [Act.put, List.setIfInBounds_toArray, List.set_cons_zero, List.set_cons_succ]
          obtain ⟨wz, hwz⟩ : ∃ wz, wy.drew = wz := ⟨_, rfl⟩
          rw [hwz] at HROWe HGe HXe HRXe hS' ⊢
          clear hwz
          obtain ⟨a0', a1', a2', a3'⟩ := HROWe.out.cells (i := p) (by omega)
          have f0 := HROWe.out.frozen (p * 4)
          have f1 := HROWe.out.frozen (p * 4 + 1)
          have f2 := HROWe.out.frozen (p * 4 + 2)
          have f3 := HROWe.out.frozen (p * 4 + 3)
          have HEPd := hide (HEP.out wz HCP.out HROWe.out HGe.out HXe.out)
          have HRXs := hide (show (set4 wz b p ⟨lx, cx, z, m⟩).heap[bx]? = some (.cells #[.int .i64 lx, .int .i64 cx, .int .i64 z, .int .i64 m] 101 (0, 0)) by rw [(set4_grown wz b p ⟨lx, cx, z, m⟩).block bx (Array.getElem?_eq_some_iff.1 HRXe.out).1 (by simp; omega)]; exact HRXe.out)
          refine tail_call 5 rfl (by kernel_rfl) rfl (fun K' hK => ?_)
          go_simp
          refine hK.out _ _ (by (try dsimp only); exact row4 HRXs.out) (fun hS' => ?_)
          clear hK K'
          try simp only [Act.put, List.setIfInBounds_toArray, List.set_cons_zero, List.set_cons_succ]
          refine tail_end (by kernel_rfl) ?_
          clear a0' a1' a2' a3' f0 f1 f2 f3
          go_wp2_with fail
          go_roundw
          case rel => exact HEPd.out
          case measure => simp [intOf]; omega
        · have HCP0 := hide (show cput a ⟨lx, cx, z, m⟩ = if btr ⟨lx, cx, z, m⟩ a then ⟨lx, cx, z, m⟩ else a by unfold cput; rw [if_neg hs0])
          obtain ⟨qal, qac, qas, qam⟩ := a
          have hs0' : qas ≠ 0 := hs0
          have e3 : ((qas : Int) == 0) = false := by simpa using hs0'
          have HSn := hide (fun (wy : World) (h : Below wc.heap.size wc wy) => show (wy.cell? ⟨bx, 0, none⟩ = some (.int .i64 lx) ∧ wy.cell? ⟨bx, 1, none⟩ = some (.int .i64 cx) ∧ wy.cell? ⟨bx, 2, none⟩ = some (.int .i64 z) ∧ wy.cell? ⟨bx, 3, none⟩ = some (.int .i64 m)) ∧ (wy.cell? ⟨b, p * 4, none⟩ = some (.int .i64 qal) ∧ wy.cell? ⟨b, p * 4 + 1, none⟩ = some (.int .i64 qac) ∧ wy.cell? ⟨b, p * 4 + 2, none⟩ = some (.int .i64 qas) ∧ wy.cell? ⟨b, p * 4 + 3, none⟩ = some (.int .i64 qam)) from ⟨row4 (heap_next HRX.out h), by have q := (HROWc.out.next h).cells (i := p) (by omega); rw [upd_at] at q; exact q⟩)
          have HD := hide ((Below.refl wc.heap.size wc).drew)
          clear hs0
          go_wp2_with fail
          refine tail_begin (fun w' => (w'.cell? ⟨bx, 0, none⟩ = some (.int .i64 lx) ∧ w'.cell? ⟨bx, 1, none⟩ = some (.int .i64 cx) ∧ w'.cell? ⟨bx, 2, none⟩ = some (.int .i64 z) ∧ w'.cell? ⟨bx, 3, none⟩ = some (.int .i64 m)) ∧ (w'.cell? ⟨b, p * 4, none⟩ = some (.int .i64 qal) ∧ w'.cell? ⟨b, p * 4 + 1, none⟩ = some (.int .i64 qac) ∧ w'.cell? ⟨b, p * 4 + 2, none⟩ = some (.int .i64 qas) ∧ w'.cell? ⟨b, p * 4 + 3, none⟩ = some (.int .i64 qam))) 16 (by kernel_rfl) (HSn.out _ HD.out) (fun hS' => ?_)
          refine tail_take2 0 rfl (by kernel_rfl) (by kernel_rfl) (by kernel_rfl) (by decide) (fun _ _ _ h => h) (by rfl) (v := ?_) ?_ (by assumption) ?_
          rotate_left 1
          · intro w' hS'; obtain ⟨⟨c0, c1, c2, c3⟩, ⟨e0, e1, e2, e3⟩⟩ := hS'; go_simp; try with_reducible rfl
          try simp only [Act.put, List.setIfInBounds_toArray, List.set_cons_zero, List.set_cons_succ]
          refine tail_take2 1 rfl (by kernel_rfl) (by kernel_rfl) (by kernel_rfl) (by decide) (fun _ _ _ h => h) (by rfl) (v := ?_) ?_ (by assumption) ?_
          rotate_left 1
          · intro w' hS'; obtain ⟨⟨c0, c1, c2, c3⟩, ⟨e0, e1, e2, e3⟩⟩ := hS'; go_simp; try with_reducible rfl
          try simp only [Act.put, List.setIfInBounds_toArray, List.set_cons_zero, List.set_cons_succ]
          refine tail_take2 2 rfl (by kernel_rfl) (by kernel_rfl) (by kernel_rfl) (by decide) (fun _ _ _ h => h) (by rfl) (v := ?_) ?_ (by assumption) ?_
          rotate_left 1
          · intro w' hS'; obtain ⟨⟨c0, c1, c2, c3⟩, ⟨e0, e1, e2, e3⟩⟩ := hS'; go_simp; try with_reducible rfl
          try simp only [Act.put, List.setIfInBounds_toArray, List.set_cons_zero, List.set_cons_succ]
          refine tail_take2 3 rfl (by kernel_rfl) (by kernel_rfl) (by kernel_rfl) (by decide) (fun _ _ _ h => h) (by rfl) (v := ?_) ?_ (by assumption) ?_
          rotate_left 1
          · intro w' hS'; obtain ⟨⟨c0, c1, c2, c3⟩, ⟨e0, e1, e2, e3⟩⟩ := hS'; go_simp; try with_reducible rfl
          try simp only [Act.put, List.setIfInBounds_toArray, List.set_cons_zero, List.set_cons_succ]
          refine tail_take2 4 rfl (by kernel_rfl) (by kernel_rfl) (by kernel_rfl) (by decide) (fun _ _ _ h => h) (by rfl) (v := ?_) ?_ (by assumption) ?_
          rotate_left 1
          · intro w' hS'; obtain ⟨⟨c0, c1, c2, c3⟩, ⟨e0, e1, e2, e3⟩⟩ := hS'; go_simp; try with_reducible rfl
          try simp only [Act.put, List.setIfInBounds_toArray, List.set_cons_zero, List.set_cons_succ]
          refine tail_take2 5 rfl (by kernel_rfl) (by kernel_rfl) (by kernel_rfl) (by decide) (fun _ _ _ h => h) (by rfl) (v := ?_) ?_ (by assumption) ?_
          rotate_left 1
          · intro w' hS'; obtain ⟨⟨c0, c1, c2, c3⟩, ⟨e0, e1, e2, e3⟩⟩ := hS'; go_simp; try with_reducible rfl
          try simp only [Act.put, List.setIfInBounds_toArray, List.set_cons_zero, List.set_cons_succ]
          refine tail_take2 6 rfl (by kernel_rfl) (by kernel_rfl) (by kernel_rfl) (by decide) (fun _ _ _ h => h) (by rfl) (v := .bool false) ?_ (by assumption) ?_
          skip
          · intro w' hS'; skip; by_cases h1 : qal = 0 <;> by_cases h2 : qac = 0 <;> (try subst h1) <;> (try subst h2) <;> go_simp
          try simp only [Act.put, List.setIfInBounds_toArray, List.set_cons_zero, List.set_cons_succ]
          refine tail_take2 7 rfl (by kernel_rfl) (by kernel_rfl) (by kernel_rfl) (by decide) (fun _ _ _ h => h) (by rfl) (v := ?_) ?_ (by assumption) ?_
          rotate_left 1
          · intro w' hS'; obtain ⟨⟨c0, c1, c2, c3⟩, ⟨e0, e1, e2, e3⟩⟩ := hS'; go_simp; try with_reducible rfl
          try simp only [Act.put, List.setIfInBounds_toArray, List.set_cons_zero, List.set_cons_succ]
          refine tail_take2 8 rfl (by kernel_rfl) (by kernel_rfl) (by kernel_rfl) (by decide) (fun _ _ _ h => h) (by rfl) (v := ?_) ?_ (by assumption) ?_
          rotate_left 1
          · intro w' hS'; obtain ⟨⟨c0, c1, c2, c3⟩, ⟨e0, e1, e2, e3⟩⟩ := hS'; go_simp; try with_reducible rfl
          try simp only [Act.put, List.setIfInBounds_toArray, List.set_cons_zero, List.set_cons_succ]
          refine tail_take2 9 rfl (by kernel_rfl) (by kernel_rfl) (by kernel_rfl) (by decide) (fun _ _ _ h => h) (by rfl) (v := ?_) ?_ (by assumption) ?_
          rotate_left 1
          · intro w' hS'; obtain ⟨⟨c0, c1, c2, c3⟩, ⟨e0, e1, e2, e3⟩⟩ := hS'; go_simp; try with_reducible rfl
          try simp only [Act.put, List.setIfInBounds_toArray, List.set_cons_zero, List.set_cons_succ]
          refine tail_take2 10 rfl (by kernel_rfl) (by kernel_rfl) (by kernel_rfl) (by decide) (fun _ _ _ h => h) (by rfl) (v := ?_) ?_ (by assumption) ?_
          rotate_left 1
          · intro w' hS'; obtain ⟨⟨c0, c1, c2, c3⟩, ⟨e0, e1, e2, e3⟩⟩ := hS'; go_simp; try with_reducible rfl
          try simp only [Act.put, List.setIfInBounds_toArray, List.set_cons_zero, List.set_cons_succ]
          refine tail_take2 11 rfl (by kernel_rfl) (by kernel_rfl) (by kernel_rfl) (by decide) (fun _ _ _ h => h) (by rfl) (v := ?_) ?_ (by assumption) ?_
          rotate_left 1
          · intro w' hS'; obtain ⟨⟨c0, c1, c2, c3⟩, ⟨e0, e1, e2, e3⟩⟩ := hS'; go_simp; try with_reducible rfl
          try simp only [Act.put, List.setIfInBounds_toArray, List.set_cons_zero, List.set_cons_succ]
          refine tail_take2 12 rfl (by kernel_rfl) (by kernel_rfl) (by kernel_rfl) (by decide) (fun _ _ _ h => h) (by rfl) (v := ?_) ?_ (by assumption) ?_
          rotate_left 1
          · intro w' hS'; obtain ⟨⟨c0, c1, c2, c3⟩, ⟨e0, e1, e2, e3⟩⟩ := hS'; go_simp; try with_reducible rfl
          try simp only [Act.put, List.setIfInBounds_toArray, List.set_cons_zero, List.set_cons_succ]
          refine tail_take2 13 rfl (by kernel_rfl) (by kernel_rfl) (by kernel_rfl) (by decide) (fun _ _ _ h => h) (by rfl) (v := ?_) ?_ (by assumption) ?_
          rotate_left 1
          · intro w' hS'; obtain ⟨⟨c0, c1, c2, c3⟩, ⟨e0, e1, e2, e3⟩⟩ := hS'; go_simp; try with_reducible rfl
          try simp only [Act.put, List.setIfInBounds_toArray, List.set_cons_zero, List.set_cons_succ]
          refine tail_callG 14 rfl (by kernel_rfl) (by rfl) (fun K hK => ?_)
          go_simp
          (go_at_call 143; refine (implBetter ⟨lx, cx, z, m⟩ ⟨qal, qac, qas, qam⟩ _).mono ?_; rintro e w2 ⟨rfl, hb2⟩; have HD2 := hide (HD.out.trans (hb2.mono HD.out.size)); clear hb2)
          refine hK.out _ _ (by (try dsimp only); exact HSn.out _ HD2.out) (fun hS' => ?_)
          clear hK K
          try simp only [Act.put, List.setIfInBounds_toArray, List.set_cons_zero, List.set_cons_succ]
          refine tail_take2 15 rfl (by kernel_rfl) (by kernel_rfl) (by kernel_rfl) (by decide) (fun _ _ _ h => h) (by rfl) (v := ?_) ?_ (by assumption) ?_
          rotate_left 1
          · intro w' hS'; obtain ⟨⟨c0, c1, c2, c3⟩, ⟨e0, e1, e2, e3⟩⟩ := hS'; go_simp; try with_reducible rfl
          try simp only [Act.put, List.setIfInBounds_toArray, List.set_cons_zero, List.set_cons_succ]
          refine tail_end (by kernel_rfl) ?_
          have HROWd := hide (HROWc.out.next HD2.out)
          have HGd := hide (growBelow HGc.out HD2.out)
          have HXd := hide (heap_next HXc.out HD2.out)
          have HRXd := hide (heap_next HRX.out HD2.out)
          obtain ⟨wy, rfl⟩ : ∃ wy, wy = w2 := ⟨_, rfl⟩
          by_cases hbt : btr ⟨lx, cx, z, m⟩ ⟨qal, qac, qas, qam⟩ = true
          · have HCP := hide (HCP0.out.trans (if_pos hbt))
            rw [hbt]
            clear hbt e3
            go_wp2_with fail
            refine tail_begin (fun w' => (w'.cell? ⟨bx, 0, none⟩ = some (.int .i64 lx) ∧ w'.cell? ⟨bx, 1, none⟩ = some (.int .i64 cx) ∧ w'.cell? ⟨bx, 2, none⟩ = some (.int .i64 z) ∧ w'.cell? ⟨bx, 3, none⟩ = some (.int .i64 m))) 6 (by kernel_rfl) (row4 HRXd.out) (fun hS' => ?_)
            have HROWe := hide HROWd.out.drew
            have HGe := hide (show w.grownBy wy.drew (some b) from growBelow HGd.out (Below.refl _ _).drew)
            have HXe := hide (show wy.drew.heap[w.heap.size]? = _ from HXd.out)
            have HRXe := hide (show wy.drew.heap[bx]? = _ from HRXd.out)
            refine tail_take2 0 rfl (by kernel_rfl) (by kernel_rfl) (by kernel_rfl) (by decide) (fun _ _ _ h => h) (by rfl) (v := ?_) ?_ (by assumption) ?_
            rotate_left 1
            · intro w' hS'; obtain ⟨c0, c1, c2, c3⟩ := hS'; go_simp; try with_reducible rfl
            try simp only [Act.put, List.setIfInBounds_toArray, List.set_cons_zero, List.set_cons_succ]
            refine tail_take2 1 rfl (by kernel_rfl) (by kernel_rfl) (by kernel_rfl) (by decide) (fun _ _ _ h => h) (by rfl) (v := ?_) ?_ (by assumption) ?_
            rotate_left 1
            · intro w' hS'; obtain ⟨c0, c1, c2, c3⟩ := hS'; go_simp; try with_reducible rfl
            try simp only [Act.put, List.setIfInBounds_toArray, List.set_cons_zero, List.set_cons_succ]
            refine tail_take2 2 rfl (by kernel_rfl) (by kernel_rfl) (by kernel_rfl) (by decide) (fun _ _ _ h => h) (by rfl) (v := ?_) ?_ (by assumption) ?_
            rotate_left 1
            · intro w' hS'; obtain ⟨c0, c1, c2, c3⟩ := hS'; go_simp; try with_reducible rfl
            try simp only [Act.put, List.setIfInBounds_toArray, List.set_cons_zero, List.set_cons_succ]
            refine tail_take2 3 rfl (by kernel_rfl) (by kernel_rfl) (by kernel_rfl) (by decide) (fun _ _ _ h => h) (by rfl) (v := ?_) ?_ (by assumption) ?_
            rotate_left 1
            · intro w' hS'; obtain ⟨c0, c1, c2, c3⟩ := hS'; go_simp; try with_reducible rfl
            try simp only [Act.put, List.setIfInBounds_toArray, List.set_cons_zero, List.set_cons_succ]
            refine tail_take2 4 rfl (by kernel_rfl) (by kernel_rfl) (by kernel_rfl) (by decide) (fun _ _ _ h => h) (by rfl) (v := ?_) ?_ (by assumption) ?_
            rotate_left 1
            · intro w' hS'; obtain ⟨c0, c1, c2, c3⟩ := hS'; go_simp; try with_reducible rfl
            try simp only [Act.put, List.setIfInBounds_toArray, List.set_cons_zero, List.set_cons_succ]
            obtain ⟨wz, hwz⟩ : ∃ wz, wy.drew = wz := ⟨_, rfl⟩
            rw [hwz] at HROWe HGe HXe HRXe hS' ⊢
            clear hwz
            obtain ⟨a0', a1', a2', a3'⟩ := HROWe.out.cells (i := p) (by omega)
            have f0 := HROWe.out.frozen (p * 4)
            have f1 := HROWe.out.frozen (p * 4 + 1)
            have f2 := HROWe.out.frozen (p * 4 + 2)
            have f3 := HROWe.out.frozen (p * 4 + 3)
            have HEPd := hide (HEP.out wz HCP.out HROWe.out HGe.out HXe.out)
            have HRXs := hide (show (set4 wz b p ⟨lx, cx, z, m⟩).heap[bx]? = some (.cells #[.int .i64 lx, .int .i64 cx, .int .i64 z, .int .i64 m] 101 (0, 0)) by rw [(set4_grown wz b p ⟨lx, cx, z, m⟩).block bx (Array.getElem?_eq_some_iff.1 HRXe.out).1 (by simp; omega)]; exact HRXe.out)
            refine tail_call 5 rfl (by kernel_rfl) rfl (fun K' hK => ?_)
            go_simp
            refine hK.out _ _ (by (try dsimp only); exact row4 HRXs.out) (fun hS' => ?_)
            clear hK K'
            try simp only [Act.put, List.setIfInBounds_toArray, List.set_cons_zero, List.set_cons_succ]
            refine tail_end (by kernel_rfl) ?_
            clear a0' a1' a2' a3' f0 f1 f2 f3
            go_wp2_with fail
            go_roundw
            case rel => exact HEPd.out
            case measure => simp [intOf]; omega
          · have hbf : btr ⟨lx, cx, z, m⟩ ⟨qal, qac, qas, qam⟩ = false := by simpa using hbt
            have HE2 := hide (HEND2.out ⟨qal, qac, qas, qam⟩ wy (HCP0.out.trans (if_neg hbt)) HROWd.out HGd.out HXd.out)
            rw [hbf]
            clear hbt hbf e3
            go_wp2_with fail
            go_roundw
            case rel => exact HE2.out
            case measure => simp [intOf]; omega
    · have HKE := hide (show k = R by have := HKZ.out; omega)
      have hlast' : ¬ (z : Int) ≤ (R : Int) := by omega
      have HF := hide (show ImpPost b p m R t a0 w (.returned (.tuple #[])) wr from ⟨rfl, by have h := HROW.out; rw [← HA.out, HKE.out] at h; exact h, HG.out⟩)
      clear hlast
      go_wp2_with fail
      first | (refine bodyPost_ret (results_none rfl _ _ _) rfl ?_) | go_end0
      exact HF.out
end Go.Proofs.YtncgeoliboidhaaGreat

namespace Go.Proofs.YtncgeoliboidhaaGreat
open Go Go.RowKit
set_option linter.unusedSimpArgs false
set_option linter.unusedVariables false

/-- A slice of n reaches whose cells are f 0, f 1, ..: it is owned. -/
def OwnQ (w : World) (base : Nat) (v : Value) (n : Nat) (f : Nat → Value) : Prop := w.ownsRow base 149 4 v n ((List.range (n * 4)).map f)
section
variable {w w' : World} {base n : Nat} {v : Value} {f : Nat → Value}
theorem OwnQ.next (h : OwnQ w base v n f) (hb : Below w.heap.size w w') : OwnQ w' base v n f := by
  refine World.ownsRow.kept h (row := none) ⟨hb.os, hb.tape, hb.output, hb.size, fun i hi _ => hb.block i hi⟩ ?_
  rcases v.ownBlock with _ | g <;> simp
theorem OwnQ.grown {row : Option Nat} (h : OwnQ w base v n f) (hg : w.grownBy w' row) (hne : v.ownBlock = none ∨ v.ownBlock ≠ row) : OwnQ w' base v n f := World.ownsRow.kept h hg hne
theorem OwnQ.congr {f' : Nat → Value} (h : OwnQ w base v n f) (he : ∀ i, i < n * 4 → f' i = f i) : OwnQ w base v n f' := by
  unfold OwnQ
  rw [show ((List.range (n * 4)).map f') = ((List.range (n * 4)).map f) from List.map_congr_left fun i hi => he i (List.mem_range.1 hi)]
  exact h
theorem OwnQ.nil (w : World) (base : Nat) (f : Nat → Value) : OwnQ w base (.slice none 0 0) 0 f := World.ownsRow_nil _ _ _ _
theorem OwnQ.form (h : OwnQ w base v n f) (hn : 0 < n) : ∃ g c cur, v = .slice (some ⟨g, 0, none⟩) n c ∧ base ≤ g ∧ w.heap[g]? = some (.cells cur 149 (0, 0)) ∧ n ≤ c := by
  rcases h.2 with ⟨_, h0⟩ | ⟨g, cap, cur, hv, hb, hg, hnc, _⟩
  · omega
  · exact ⟨g, cap, cur, hv, hb, hg, hnc⟩
theorem OwnQ.cell {g c i : Nat} (h : OwnQ w base (.slice (some ⟨g, 0, none⟩) n c) n f) (hi : i < n * 4) : w.cell? ⟨g, i, none⟩ = some (f i) := by
  rw [World.ownsRow.cellAt h i hi, List.getElem?_map, List.getElem?_range hi]; rfl
theorem OwnQ.frozen {g c : Nat} (h : OwnQ w base (.slice (some ⟨g, 0, none⟩) n c) n f) (i : Nat) : w.frozen? ⟨g, i, none⟩ = false := World.ownsRow.frozenAt h i
theorem OwnQ.put {g c : Nat} (h : OwnQ w base (.slice (some ⟨g, 0, none⟩) n c) n f) (i : Nat) (x : Value) :
    OwnQ (w.setCell ⟨g, i, none⟩ x) base (.slice (some ⟨g, 0, none⟩) n c) n (fun j => if j = i then x else f j) ∧ w.grownBy (w.setCell ⟨g, i, none⟩ x) (some g) := by
  obtain ⟨h1, h2⟩ := World.ownsRow.stored h i x
  refine ⟨?_, h2⟩
  unfold OwnQ
  rw [show ((List.range (n * 4)).map fun j => if j = i then x else f j) = ((List.range (n * 4)).map f).set i x from ?_]
  · exact h1
  · apply List.ext_getElem?
    intro j
    by_cases hj : j < n * 4
    · by_cases hji : j = i
      · subst hji
        rw [List.getElem?_set_self (by simpa using hj), List.getElem?_map, List.getElem?_range hj]
        simp
      · rw [List.getElem?_set_ne (Ne.symm hji), List.getElem?_map, List.getElem?_map, List.getElem?_range hj]
        simp [hji]
    · rw [List.getElem?_eq_none (by simp; omega), List.getElem?_eq_none (by simp; omega)]
/-- An owned row of integers lies in another block. -/
theorem OwnQ.apart {k : IntKind} {base' : Nat} {u : Value} {zs : List Int} (h : OwnQ w base v n f) (h' : Go.Proofs.YtncgeoliboidhaaGreat.Own w base' 2 k u zs) : (v.ownBlock = none ∨ v.ownBlock ≠ u.ownBlock) ∧ (u.ownBlock = none ∨ u.ownBlock ≠ v.ownBlock) := by
  rcases h.2 with ⟨rfl, _⟩ | ⟨g, cap, cur, rfl, _, hg, _⟩
  · refine ⟨.inl rfl, ?_⟩
    rcases hu : u.ownBlock with _ | q
    · exact .inl rfl
    · exact .inr (by simp [Value.ownBlock])
  · rcases h'.2 with ⟨rfl, _⟩ | ⟨g', cap', cur', rfl, _, hg', _⟩
    · exact ⟨.inr (by simp [Value.ownBlock]), .inl rfl⟩
    · have hne : g ≠ g' := by
        intro e; subst e; rw [hg] at hg'; cases hg'
      exact ⟨.inr (by simpa [Value.ownBlock] using hne), .inr (by simpa [Value.ownBlock] using hne.symm)⟩
end
theorem elemR : (Tryz.prog.info? 149).map (fun i => (i.zero, i.size, i.bytes)) = some (some (.agg #[.int .i64 0, .nilIface, .slice none 0 0, .int .i64 0]), 4, 56) := by kernel_rfl
/-- append(reaches, r). -/
theorem wpList_appReach {base : Nat} {v : Value} {n : Nat} {f : Nat → Value} (w : World) {ops : Array Oper} {rest : List Oper} {o : Oper} {a : Act} {Q : Exit → Act → World → Prop} (hgd : o.guard = none) (s x : Operand)
    (ho : o.op = .call { callee := .builtin .append, args := #[s, x], argTypes := #[144, 144] })
    (hs : a.eval s = v) (h : OwnQ w base v n f) (x0 x1 x2 x3 : Value) (h1 : ∀ u ∈ [x0, x1, x2, x3], u.oneCell' = true) (hf : f (n * 4) = x0 ∧ f (n * 4 + 1) = x1 ∧ f (n * 4 + 2) = x2 ∧ f (n * 4 + 3) = x3)
    (hx : a.eval x = .slice (some ⟨w.heap.size, 0, none⟩) 1 1) (hlen : n ≤ 10000) (hbase : base ≤ w.heap.size)
    (hk : ∀ v' w', OwnQ w' base v' (n + 1) f → w.grownBy w' v.ownBlock → wpList Tryz.prog ops Q rest (a.put o.dst v') w') :
    wpList Tryz.prog ops Q (o :: rest) a (w.alloc (.cells #[x0, x1, x2, x3] 149)) := by
  obtain ⟨i, hi, hz0, hz1, hz2⟩ := info_parts elemR
  refine wpList_append_own (w := w.alloc (.cells #[x0, x1, x2, x3] 149)) hgd s x 144 ho base 149 i _ 4 56 Tryz.underlying144 hi hz0 hz1 hz2 rfl (by decide) v n _ hs (World.ownsRow.alloc h _) ⟨w.heap.size, 0, none⟩ 1 1 [x0, x1, x2, x3] hx rfl
    (World.news_of_block (heap_alloc_new w (.cells #[x0, x1, x2, x3] 149))) h1 (by simp only [maxLen]; omega) (by omega) (by rw [alloc_size]; omega) fun v' w' h2 h3 _ => ?_
  refine hk v' w' ?_ (grown_trans (World.grownBy_alloc w _ _) h3)
  unfold OwnQ
  obtain ⟨f0, f1, f2, f3⟩ := hf
  rw [show (n + 1) * 4 = n * 4 + 4 by omega, show (List.range (n * 4 + 4)) = List.range (n * 4) ++ [n * 4, n * 4 + 1, n * 4 + 2, n * 4 + 3] by simp [List.range_succ], List.map_append]
  simp only [List.map_cons, List.map_nil, f0, f1, f2, f3]
  exact h2
/-- The cells of the reaches: mode, characters, lengths, size. -/
def rcv (gs : Nat → Nat) (nl : Nat) (sz : Nat → Nat) (i : Nat) : Value :=
  if i % 4 = 0 then .int .i64 ((i / 4 + 1 : Nat) : Int) else if i % 4 = 1 then MV ((i / 4 + 1 : Nat) : Int) else if i % 4 = 2 then .slice (some ⟨gs (i / 4), 0, none⟩) nl nl else .int .i64 (sz (i / 4) : Nat)
theorem rcv_at (gs : Nat → Nat) (nl : Nat) (sz : Nat → Nat) (j : Nat) : rcv gs nl sz (j * 4) = .int .i64 ((j + 1 : Nat) : Int) ∧ rcv gs nl sz (j * 4 + 1) = MV ((j + 1 : Nat) : Int) ∧ rcv gs nl sz (j * 4 + 2) = .slice (some ⟨gs j, 0, none⟩) nl nl ∧ rcv gs nl sz (j * 4 + 3) = .int .i64 (sz j : Nat) := by
  refine ⟨?_, ?_, ?_, ?_⟩
  · unfold rcv; rw [if_pos (by omega), show j * 4 / 4 = j by omega]
  · unfold rcv; rw [if_neg (by omega), if_pos (by omega), show (j * 4 + 1) / 4 = j by omega]
  · unfold rcv; rw [if_neg (by omega), if_neg (by omega), if_pos (by omega), show (j * 4 + 2) / 4 = j by omega]
  · unfold rcv; rw [if_neg (by omega), if_neg (by omega), if_neg (by omega), show (j * 4 + 3) / 4 = j by omega]
theorem rcv_gs {gs gs' : Nat → Nat} {nl : Nat} {sz : Nat → Nat} {n i : Nat} (h : ∀ j, j < n → gs' j = gs j) (hi : i < n * 4) : rcv gs' nl sz i = rcv gs nl sz i := by
  unfold rcv; rw [h (i / 4) (by omega)]
theorem rcv_sz (gs : Nat → Nat) (nl : Nat) (sz : Nat → Nat) (q x : Nat) : (fun j => if j = q * 4 + 3 then Value.int .i64 (x : Int) else rcv gs nl sz j) = rcv gs nl (fun j => if j = q then x else sz j) := by
  funext j
  by_cases e : j = q * 4 + 3
  · subst e; rw [if_pos rfl, (rcv_at gs nl _ q).2.2.2, if_pos rfl]
  · rw [if_neg e]
    unfold rcv
    by_cases h3 : j % 4 = 3
    · rw [if_neg (by omega), if_neg (by omega), if_neg (by omega), if_neg (by omega), if_neg (by omega), if_neg (by omega)]
      show _ = Value.int .i64 ((if j / 4 = q then x else sz (j / 4) : Nat) : Int)
      rw [if_neg (show ¬ j / 4 = q by omega)]
    · rcases (show j % 4 = 0 ∨ j % 4 = 1 ∨ j % 4 = 2 by omega) with h | h | h
      · rw [if_pos h, if_pos h]
      · rw [if_neg (by omega), if_pos h, if_neg (by omega), if_pos h]
      · rw [if_neg (by omega), if_neg (by omega), if_pos h, if_neg (by omega), if_neg (by omega), if_pos h]
theorem MV_iface (m : Int) : ∃ ty dv, MV m = .iface ty dv := by unfold MV; split <;> exact ⟨_, _, rfl⟩
theorem MV_one (m : Int) : (MV m).oneCell' = true := by unfold MV; split <;> rfl
def lenL (m nl : Nat) : List Int := (List.range nl).map fun k => ((slen (m : Int) k : Nat) : Int)
theorem lenL_len (m nl : Nat) : (lenL m nl).length = nl := by simp [lenL]
theorem lenL_at {m nl k : Nat} (h : k < nl) : (lenL m nl)[k]? = some ((slen (m : Int) k : Nat) : Int) := by simp [lenL, h]
theorem index_modes (q : Nat) (hq : q < 4) (w : World) : (Instr.index 169 (.agg #[.int .i64 1, .int .i64 2, .int .i64 3, .int .i64 4]) (.int .i64 (q : Int))).run Tryz.prog w = .ok (.int .i64 ((q + 1 : Nat) : Int)) w := by
  rcases (show q = 0 ∨ q = 1 ∨ q = 2 ∨ q = 3 by omega) with rfl | rfl | rfl | rfl <;> kernel_rfl

/-- What reachesUpTo leaves. -/
def ReachPost (nl : Nat) (w : World) (e : Ending) (w' : World) : Prop :=
  ∃ (v : Value) (gs : Nat → Nat), e = .returned v ∧ OwnQ w' w.heap.size v 4 (rcv gs nl (fun _ => 0)) ∧ (∀ j, j < 4 → Go.Proofs.YtncgeoliboidhaaGreat.Own w' w.heap.size 2 .i64 (.slice (some ⟨gs j, 0, none⟩) nl nl) (lenL (j + 1) nl)) ∧ Below w.heap.size w w'
def RuRel (w : World) (nl : Nat) (v i : Value) (wr : World) : Prop :=
  ∃ (q : Nat) (gs : Nat → Nat), q ≤ 4 ∧ i = .int .i64 q ∧ OwnQ wr w.heap.size v q (rcv gs nl (fun _ => 0)) ∧ (∀ j, j < q → Go.Proofs.YtncgeoliboidhaaGreat.Own wr w.heap.size 2 .i64 (.slice (some ⟨gs j, 0, none⟩) nl nl) (lenL (j + 1) nl)) ∧ Below w.heap.size w wr
def RiRel (wx : World) (gl nl m : Nat) (i : Value) (wr : World) : Prop :=
  ∃ k : Nat, k ≤ nl ∧ i = .int .i64 k ∧ Go.Proofs.YtncgeoliboidhaaGreat.Own wr gl 2 .i64 (.slice (some ⟨gl, 0, none⟩) nl nl) ((lenL m nl).take k ++ List.replicate (nl - k) 0) ∧ wx.grownBy wr (some gl)

set_option maxRecDepth 100000 in
set_option maxHeartbeats 4000000 in
theorem implReaches (L nl : Nat) (hL : L ≤ 255) (hnl : L + 1 = nl) (w : World) :
    Calls Tryz.prog 116 #[.int .i64 L] w (ReachPost nl w) := by
  have HNL := hide hnl
  have hnl2 : nl ≤ 256 := by omega
  have hnlI : (L : Int) + 1 = (nl : Int) := by omega
  have HQ0 := hide (OwnQ.nil w w.heap.size (rcv (fun _ => 0) nl (fun _ => 0)))
  clear hnl
  go_enter Tryz.func116, Tryz.ntmps116
  go_wp2_with fail
  go_loopw [3, 9] (fun v i wr => RuRel w nl v i wr) (fun _ i _ => 4 - (intOf i).toNat)
  case atStart => exact ⟨0, fun _ => 0, by omega, rfl, HQ0.out, fun j hj => absurd hj (by omega), Below.refl _ _⟩
  case round =>
    clear HQ0
    obtain ⟨q, gs, hq4, rfl, hov, hol, hb⟩ := hrel
    have HOV := hide hov
    have HOL := hide hol
    have HB := hide hb
    clear hov hol hb
    obtain ⟨v, rfl⟩ : ∃ v : Value, v = u3 := ⟨_, rfl⟩
    by_cases hlt : q < 4
    · have hix := index_modes q hlt
      obtain ⟨mq, hmq⟩ : ∃ mq, q + 1 = mq := ⟨_, rfl⟩
      rw [hmq] at hix
      have HMQ := hide hmq
      have hm1 : 1 ≤ mq := by omega
      have hm4 : mq ≤ 4 := by omega
      clear hmq
      go_wp2_with (at_make; refine wpList_mkN _ rfl _ _ _ rfl elem64 .i64 .i64 _ _ nl rfl rfl (by omega) (by omega) (by omega) ?_; intro w1 hown hbel)
      have HO1 := hide hown
      have HB1 := hide hbel
      have HOV1 := hide (HOV.out.next hbel)
      have HOL1 := hide (fun j hj => (HOL.out j hj).below hbel (Nat.le_refl _))
      have hgl : wr.heap.size < w1.heap.size := (hown.lt rfl).2
      have HGS := hide (fun j hj => ((HOL.out j hj).lt (g := gs j) rfl).2)
      have HMO := hide (implModeOf (mq : Int) ⟨by omega, by omega⟩)
      have HTW0 := hide (fun k hk => implTextWidth (mq : Int) ⟨by omega, by omega⟩ k hk)
      have hMV1 := MV_one (mq : Int)
      obtain ⟨ity, idv, hMv⟩ := MV_iface (mq : Int)
      have HMV := hide hMv
      rw [hMv] at HMO HTW0 hMV1
      clear hown hbel hMv HOV HOL hix
      refine (HMO.out _).mono ?_
      rintro e wm ⟨rfl, hwm⟩
      rw [hwm]
      clear hwm wm
      go_wp2_with fail
      obtain ⟨wx, hwx⟩ : ∃ wx, w1.alloc (.cells #[.int .i64 mq, (.iface ity idv), .slice (some ⟨wr.heap.size, 0, none⟩) nl nl, .int .i64 0] 149) = wx := ⟨_, rfl⟩
      have hbx : Below w1.heap.size w1 wx := by rw [← hwx]; exact (Below.refl _ _).alloc (Nat.le_refl _) _
      have HOx := hide (HO1.out.below hbx (Nat.le_refl _))
      have HOVx := hide (HOV1.out.next hbx)
      have HOLx := hide (fun j hj => (HOL1.out j hj).below hbx (Nat.le_refl _))
      have HBx := hide (HB.out.trans ((HB1.out.trans (hbx.mono HB1.out.size)).mono HB.out.size))
      have HRx := hide (show wx.heap[w1.heap.size]? = some (.cells #[.int .i64 mq, (.iface ity idv), .slice (some ⟨wr.heap.size, 0, none⟩) nl nl, .int .i64 0] 149 (0, 0)) by rw [← hwx]; exact heap_alloc_new w1 _)
      have hgx : wr.heap.size < wx.heap.size := by have := hbx.size; omega
      rw [hwx]
      clear hwx hbx HO1 HB1 HOV1 HOL1 HMO
      obtain ⟨c0, c1, c2, c3⟩ := row4 HRx.out
      go_wp2_with fail
      clear c0 c1 c2 c3
      obtain ⟨gl, hgle⟩ : ∃ gl, wr.heap.size = gl := ⟨_, rfl⟩
      obtain ⟨br, hbre⟩ : ∃ br, w1.heap.size = br := ⟨_, rfl⟩
      have hwgl : w.heap.size ≤ gl := by have := HB.out.size; omega
      rw [hgle] at HOx HRx hgl hgx HGS
      rw [hbre] at HRx hgl
      rw [hgle, hbre]
      clear hgle hbre HB
      have HVG := hide (show v.ownBlock = none ∨ v.ownBlock ≠ some gl from (HOVx.out.apart HOx.out).1)
      go_loopw [26] (fun i wr => RiRel wx gl nl mq i wr) (fun i _ => nl - (intOf i).toNat)
      case atStart => exact ⟨0, Nat.zero_le _, rfl, by simpa using HOx.out, World.grownBy.refl _ _⟩
      case round =>
        clear HOx
        obtain ⟨k, hk, rfl, ho, hg⟩ := hrel
        have HO := hide ho
        have HG := hide hg
        clear ho hg
        have HR := hide (show wr.heap[br]? = some (.cells #[.int .i64 mq, (.iface ity idv), .slice (some ⟨gl, 0, none⟩) nl nl, .int .i64 0] 149 (0, 0)) by rw [HG.out.block br (Array.getElem?_eq_some_iff.1 HRx.out).1 (by simp; omega)]; exact HRx.out)
        by_cases hlt2 : k < nl
        · have HTW := hide (HTW0.out k (by omega))
          obtain ⟨tw, htw⟩ : ∃ tw, twid (mq : Int) k = tw := ⟨_, rfl⟩
          have htl := twid_le (m := (mq : Int)) (n := k) (by omega)
          rw [htw] at HTW htl
          obtain ⟨sl, hsl⟩ : ∃ sl, slen (mq : Int) k = sl := ⟨_, rfl⟩
          have hws : IntKind.i64.wrap (11 + (tw : Int)) = (sl : Int) := by
            have : sl = 11 + tw := by rw [← hsl, slen, htw]
            rw [IntWalk.i64_in _ ⟨by omega, by omega⟩]; omega
          have HAT := hide (show (lenL mq nl)[k]? = some (sl : Int) by rw [lenL_at hlt2, hsl])
          have HSB := hide (fun (wy : World) (h : Below wr.heap.size wr wy) => row4 (heap_next HR.out h))
          have HDr := hide ((Below.refl wr.heap.size wr).drew)
          have HOn := hide (fun (wy : World) (h : Below wr.heap.size wr wy) => HO.out.below h (Nat.le_refl _))
          clear htw hsl
          go_wp2_with fail
          refine tail_begin (fun w' => w'.cell? ⟨br, 0, none⟩ = some (.int .i64 mq) ∧ w'.cell? ⟨br, 1, none⟩ = some (.iface ity idv) ∧ w'.cell? ⟨br, 2, none⟩ = some (.slice (some ⟨gl, 0, none⟩) nl nl) ∧ w'.cell? ⟨br, 3, none⟩ = some (.int .i64 0)) 10 (by kernel_rfl) (HSB.out _ HDr.out) (fun hS' => ?_)
          refine tail_take2 0 rfl (by kernel_rfl) (by kernel_rfl) (by kernel_rfl) (by decide) (fun _ _ _ h => h) (by rfl) (v := ?_) ?_ (by assumption) ?_
          rotate_left 1
          · intro w' hS'; obtain ⟨c0, c1, c2, c3⟩ := hS'; go_simp; try with_reducible rfl
          try simp only [Act.put, List.setIfInBounds_toArray, List.set_cons_zero, List.set_cons_succ]
          refine tail_take2 1 rfl (by kernel_rfl) (by kernel_rfl) (by kernel_rfl) (by decide) (fun _ _ _ h => h) (by rfl) (v := ?_) ?_ (by assumption) ?_
          rotate_left 1
          · intro w' hS'; obtain ⟨c0, c1, c2, c3⟩ := hS'; go_simp; try with_reducible rfl
          try simp only [Act.put, List.setIfInBounds_toArray, List.set_cons_zero, List.set_cons_succ]
          refine tail_take2 2 rfl (by kernel_rfl) (by kernel_rfl) (by kernel_rfl) (by decide) (fun _ _ _ h => h) (by rfl) (v := ?_) ?_ (by assumption) ?_
          rotate_left 1
          · intro w' hS'; obtain ⟨c0, c1, c2, c3⟩ := hS'; go_simp; try with_reducible rfl
          try simp only [Act.put, List.setIfInBounds_toArray, List.set_cons_zero, List.set_cons_succ]
          refine tail_take2 3 rfl (by kernel_rfl) (by kernel_rfl) (by kernel_rfl) (by decide) (fun _ _ _ h => h) (by rfl) (v := ?_) ?_ (by assumption) ?_
          rotate_left 1
          · intro w' hS'; obtain ⟨c0, c1, c2, c3⟩ := hS'; go_simp; try with_reducible rfl
          try simp only [Act.put, List.setIfInBounds_toArray, List.set_cons_zero, List.set_cons_succ]
          refine tail_take2 4 rfl (by kernel_rfl) (by kernel_rfl) (by kernel_rfl) (by decide) (fun _ _ _ h => h) (by rfl) (v := ?_) ?_ (by assumption) ?_
          rotate_left 1
          · intro w' hS'; obtain ⟨c0, c1, c2, c3⟩ := hS'; go_simp; try with_reducible rfl
          try simp only [Act.put, List.setIfInBounds_toArray, List.set_cons_zero, List.set_cons_succ]
          refine tail_take2 5 rfl (by kernel_rfl) (by kernel_rfl) (by kernel_rfl) (by decide) (fun _ _ _ h => h) (by rfl) (v := ?_) ?_ (by assumption) ?_
          rotate_left 1
          · intro w' hS'; obtain ⟨c0, c1, c2, c3⟩ := hS'; go_simp; try with_reducible rfl
          try simp only [Act.put, List.setIfInBounds_toArray, List.set_cons_zero, List.set_cons_succ]
          refine tail_call 6 rfl (by kernel_rfl) rfl (fun K hK => ?_)
          go_simp
          (go_at_call 142; refine (HTW.out _).mono ?_; rintro e w2 ⟨rfl, hb2⟩; have HD2 := hide (HDr.out.trans (hb2.mono HDr.out.size)); clear hb2)
          refine hK.out _ _ (by (try dsimp only); exact HSB.out _ HD2.out) (fun hS' => ?_)
          clear hK K
          try simp only [Act.put, List.setIfInBounds_toArray, List.set_cons_zero, List.set_cons_succ]
          refine tail_take2 7 rfl (by kernel_rfl) (by kernel_rfl) (by kernel_rfl) (by decide) (fun _ _ _ h => h) (by rfl) (v := ?_) ?_ (by assumption) ?_
          rotate_left 1
          · intro w' hS'; obtain ⟨c0, c1, c2, c3⟩ := hS'; go_simp; try with_reducible rfl
          try simp only [Act.put, List.setIfInBounds_toArray, List.set_cons_zero, List.set_cons_succ]
          refine tail_take2 8 rfl (by kernel_rfl) (by kernel_rfl) (by kernel_rfl) (by decide) (fun _ _ _ h => h) (by rfl) (v := ?_) ?_ (by assumption) ?_
          rotate_left 1
          · intro w' hS'; obtain ⟨c0, c1, c2, c3⟩ := hS'; go_simp; try with_reducible rfl
          try simp only [Act.put, List.setIfInBounds_toArray, List.set_cons_zero, List.set_cons_succ]
          have HO2 := hide (HOn.out _ HD2.out)
          have HZ := hide (show (((lenL mq nl).take k) ++ List.replicate (nl - k) 0)[k]? = some (0 : Int) by
            rw [List.getElem?_append_right (by rw [List.length_take, lenL_len]; omega), List.length_take, lenL_len, show k - min k nl = 0 by omega, List.getElem?_replicate, if_pos (by omega)])
          have zc0 := HO2.out.cellAt HZ.out
          have zf0 := HO2.out.frozenAt k
          obtain ⟨q1, q2⟩ := HO2.out.stored k (sl : Int)
          rw [show (((lenL mq nl).take k) ++ List.replicate (nl - k) (0 : Int)) = (lenL mq nl).take k ++ 0 :: List.replicate (nl - (k + 1)) 0 by rw [show nl - k = (nl - (k + 1)) + 1 by omega, List.replicate_succ], set_snoc HAT.out] at q1
          have Q1 := hide q1
          have HGw := hide (show wx.grownBy (w2.setCell ⟨gl, k, none⟩ (.int .i64 (sl : Int))) (some gl) from grown_trans (growBelow HG.out HD2.out) q2)
          have HRw := hide (show (w2.setCell ⟨gl, k, none⟩ (.int .i64 (sl : Int))).heap[br]? = some (.cells #[.int .i64 mq, (.iface ity idv), .slice (some ⟨gl, 0, none⟩) nl nl, .int .i64 0] 149 (0, 0)) by rw [heap_setCell_other w2 ⟨gl, k, none⟩ br _ (by simp; omega)]; exact heap_next HR.out HD2.out)
          clear q1 q2
          refine tail_call 9 rfl (by kernel_rfl) rfl (fun K' hK => ?_)
          go_simp
          refine hK.out _ _ (by (try dsimp only); exact row4 HRw.out) (fun hS' => ?_)
          clear hK K'
          try simp only [Act.put, List.setIfInBounds_toArray, List.set_cons_zero, List.set_cons_succ]
          refine tail_end (by kernel_rfl) ?_
          clear zc0 zf0
          go_wp2_with fail
          go_roundw
          case rel => exact ⟨k + 1, by omega, by go_num, Q1.out, HGw.out⟩
          case measure => simp [intOf]; omega
        · have hkn : k = nl := by omega
          have HOe := hide (show Go.Proofs.YtncgeoliboidhaaGreat.Own wr gl 2 .i64 (.slice (some ⟨gl, 0, none⟩) nl nl) (lenL mq nl) by
            have h := HO.out
            rw [hkn, List.take_of_length_le (by rw [lenL_len]; omega), Nat.sub_self, List.replicate_zero, List.append_nil] at h; exact h)
          have HOVe := hide ((HOVx.out.grown HG.out HVG.out).congr (f' := rcv (fun j => if j = q then gl else gs j) nl (fun _ => 0)) (fun i hi => rcv_gs (fun j hj => by rw [if_neg (by omega)]) hi))
          have HOLe := hide (fun j hj => show Go.Proofs.YtncgeoliboidhaaGreat.Own wr w.heap.size 2 .i64 (.slice (some ⟨gs j, 0, none⟩) nl nl) (lenL (j + 1) nl) from (HOLx.out j hj).grown HG.out (.inr (by have := HGS.out j hj; simp [Value.ownBlock]; omega)))
          have HBe := hide (HBx.out.grown HG.out HBx.out.size (fun g hg => by cases hg; exact hwgl))
          have HON := hide (show ∀ u ∈ [(.int .i64 mq : Value), .iface ity idv, .slice (some ⟨gl, 0, none⟩) nl nl, .int .i64 0], u.oneCell' = true from fun u hu => by
            simp only [List.mem_cons, List.mem_nil_iff, or_false] at hu
            rcases hu with rfl | rfl | rfl | rfl <;> rfl)
          have HFF := hide (show rcv (fun j => if j = q then gl else gs j) nl (fun _ => 0) (q * 4) = .int .i64 mq ∧ rcv (fun j => if j = q then gl else gs j) nl (fun _ => 0) (q * 4 + 1) = .iface ity idv ∧ rcv (fun j => if j = q then gl else gs j) nl (fun _ => 0) (q * 4 + 2) = .slice (some ⟨gl, 0, none⟩) nl nl ∧ rcv (fun j => if j = q then gl else gs j) nl (fun _ => 0) (q * 4 + 3) = .int .i64 0 from by
            obtain ⟨h0, h1, h2, h3⟩ := rcv_at (fun j => if j = q then gl else gs j) nl (fun _ => 0) q
            rw [HMQ.out] at h0 h1
            rw [HMV.out] at h1
            rw [if_pos rfl] at h2
            exact ⟨h0, h1, h2, h3⟩)
          have hwb : w.heap.size ≤ wr.heap.size := HBe.out.size
          obtain ⟨c0, c1, c2, c3⟩ := row4 HR.out
          clear hkn
          go_wp2_with (at_builtin; refine wpList_appReach wr rfl _ _ rfl rfl HOVe.out (.int .i64 mq) (.iface ity idv) (.slice (some ⟨gl, 0, none⟩) nl nl) (.int .i64 0) HON.out HFF.out rfl (by omega) hwb ?_; intro v3 w3 ho3 hg3)
          have HO3 := hide ho3
          have HL3 := hide (fun j (hj : j < q + 1) => show Go.Proofs.YtncgeoliboidhaaGreat.Own w3 w.heap.size 2 .i64 (.slice (some ⟨if j = q then gl else gs j, 0, none⟩) nl nl) (lenL (j + 1) nl) from by
            by_cases e : j = q
            · subst e
              rw [if_pos rfl, HMQ.out]
              exact (HOe.out.low hwgl).grown hg3 (HOVe.out.apart HOe.out).2
            · rw [if_neg e]
              exact (HOLe.out j (by omega)).grown hg3 (HOVe.out.apart (HOLe.out j (by omega))).2)
          have HB3 := hide (HBe.out.grown hg3 HBe.out.size (fun g hg => ((World.ownsRow.lt HOVe.out) g hg).1))
          clear ho3 hg3
          go_wp2_with fail
          go_roundw
          case rel => exact ⟨q + 1, _, by omega, by go_num, HO3.out, HL3.out, HB3.out⟩
          case measure => simp [intOf]; omega
    · have HF := hide (show ReachPost nl w (.returned v) wr from ⟨v, gs, rfl, by have h := HOV.out; rw [show q = 4 by omega] at h; exact h, fun j hj => HOL.out j (by omega), HB.out⟩)
      go_wp2_with fail
      go_ret
      exact HF.out
end Go.Proofs.YtncgeoliboidhaaGreat

namespace Go.Proofs.YtncgeoliboidhaaGreat
open Go Go.RowKit
set_option linter.unusedSimpArgs false
set_option linter.unusedVariables false

theorem apartQ {w : World} {b N base n : Nat} {t : Nat → Cel} {v : Value} {f : Nat → Value} (h : RowQ w b 103 N t) (h' : OwnQ w base v n f) : v.ownBlock = none ∨ v.ownBlock ≠ some b := by
  obtain ⟨cs, hb, _⟩ := h
  rcases h'.2 with ⟨rfl, _⟩ | ⟨g, cap, cur, rfl, _, hg, _⟩
  · exact .inl rfl
  · refine .inr fun e => ?_
    simp only [Value.ownBlock, Option.some.injEq] at e
    subst e; rw [hb] at hg; cases hg
theorem apartI {w : World} {b N base : Nat} {t : Nat → Cel} {v : Value} {zs : List Int} (h : RowQ w b 103 N t) (h' : Go.Proofs.YtncgeoliboidhaaGreat.Own w base 2 .i64 v zs) : v.ownBlock = none ∨ v.ownBlock ≠ some b := by
  obtain ⟨cs, hb, _⟩ := h
  rcases h'.2 with ⟨rfl, _⟩ | ⟨g, cap, cur, rfl, _, hg, _⟩
  · exact .inl rfl
  · refine .inr fun e => ?_
    simp only [Value.ownBlock, Option.some.injEq] at e
    subst e; rw [hb] at hg; cases hg
theorem OwnQ.low {w : World} {base base' n : Nat} {v : Value} {f : Nat → Value} (h : OwnQ w base v n f) (hb : base' ≤ base) : OwnQ w base' v n f := by
  refine ⟨h.1, ?_⟩
  rcases h.2 with h0 | ⟨g, cap, cur, h1, h2, h3⟩
  · exact .inl h0
  · exact .inr ⟨g, cap, cur, h1, Nat.le_trans hb h2, h3⟩
/-- What lies beside the table: the reaches and their lengths, and the result. -/
structure Beside (w : World) (b nl : Nat) (gs : Nat → Nat) (v : Value) (Z : Array Value) (sz : Nat → Nat) (t : Nat → Cel) (wr : World) : Prop where
  row : RowQ wr b 103 401 t
  own : OwnQ wr w.heap.size v 4 (rcv gs nl sz)
  len : ∀ j, j < 4 → Go.Proofs.YtncgeoliboidhaaGreat.Own wr w.heap.size 2 .i64 (.slice (some ⟨gs j, 0, none⟩) nl nl) (lenL (j + 1) nl)
  res : wr.heap[w.heap.size]? = some (.cells Z 103 (0, 0))
  bel : Below w.heap.size w wr
theorem Beside.next {w wr wx : World} {b nl : Nat} {gs : Nat → Nat} {v : Value} {Z : Array Value} {sz : Nat → Nat} {t : Nat → Cel} (h : Beside w b nl gs v Z sz t wr) (hb : Below wr.heap.size wr wx) : Beside w b nl gs v Z sz t wx :=
  ⟨h.row.next hb, h.own.next hb, fun j hj => (h.len j hj).below hb (Nat.le_refl _), heap_next h.res hb, h.bel.trans (hb.mono h.bel.size)⟩
/-- The table has changed. -/
theorem Beside.tab {w wr wx : World} {b nl : Nat} {gs : Nat → Nat} {v : Value} {Z : Array Value} {sz : Nat → Nat} {t t' : Nat → Cel} (h : Beside w b nl gs v Z sz t wr) (hr : RowQ wx b 103 401 t') (hg : wr.grownBy wx (some b)) (hb : w.heap.size < b) : Beside w b nl gs v Z sz t' wx :=
  ⟨hr, h.own.grown hg (apartQ h.row h.own), fun j hj => (h.len j hj).grown hg (apartI h.row (h.len j hj)), by rw [hg.block _ (Array.getElem?_eq_some_iff.1 h.res).1 (by simp; omega)]; exact h.res, h.bel.grown hg h.bel.size (fun g e => by cases e; omega)⟩
/-- A size has changed. -/
theorem Beside.size {w wr : World} {b nl gv c : Nat} {gs : Nat → Nat} {Z : Array Value} {sz : Nat → Nat} {t : Nat → Cel} (h : Beside w b nl gs (.slice (some ⟨gv, 0, none⟩) 4 c) Z sz t wr) (q x : Nat) : Beside w b nl gs (.slice (some ⟨gv, 0, none⟩) 4 c) Z (fun j => if j = q then x else sz j) t (wr.setCell ⟨gv, q * 4 + 3, none⟩ (.int .i64 (x : Nat))) := by
  obtain ⟨p1, p2⟩ := h.own.put (q * 4 + 3) (.int .i64 (x : Nat))
  rw [rcv_sz] at p1
  have hgw : w.heap.size ≤ gv := (World.ownsRow.lt h.own gv rfl).1
  have hres : w.heap.size ≠ gv := by
    rintro e
    rcases h.own.2 with ⟨h0, _⟩ | ⟨g, cap, cur, h1, _, hg, _⟩
    · cases h0
    · simp only [Value.slice.injEq, Option.some.injEq, Addr.mk.injEq] at h1
      have := h.res
      rw [e, h1.1.1, hg] at this; cases this
  refine ⟨h.row.grown p2 ?_, p1, fun j hj => (h.len j hj).grown p2 (h.own.apart (h.len j hj)).2, ?_, h.bel.grown p2 h.bel.size (fun g e => by cases e; exact hgw)⟩
  · have := apartQ h.row h.own
    simpa [Value.ownBlock] using this
  · rw [p2.block _ (Array.getElem?_eq_some_iff.1 h.res).1 (by simp; exact hres)]; exact h.res

theorem rcv_congr {gs : Nat → Nat} {nl i : Nat} {sz sz' : Nat → Nat} (h : sz' (i / 4) = sz (i / 4)) : rcv gs nl sz' i = rcv gs nl sz i := by unfold rcv; rw [h]
theorem stb_rch {bs : List Int} {p : Nat} {y m : Int} (h : bs[p]? = some y) : stb m y (rch m (bs.drop (p + 1))) = rch m (bs.drop p) := by
  obtain ⟨hi, hx⟩ := List.getElem?_eq_some_iff.1 h
  rw [List.drop_eq_getElem_cons hi, hx, rch_cons]; rfl

def TcPost (n : Nat) (bs : List Int) (w : World) (e : Ending) (w' : World) : Prop := ∃ cs, e = .returned (.agg cs) ∧ TabQ cs 401 (tabN bs n) ∧ Below w.heap.size w w'
def Ch1 (w : World) (n nl : Nat) (bs : List Int) (gs : Nat → Nat) (v : Value) (Z : Array Value) (i : Value) (wr : World) : Prop :=
  ∃ (x : Int) (q : Nat), i = .int .i64 x ∧ x = (q : Int) - 1 ∧ q ≤ n ∧ Beside w (w.heap.size + 1) nl gs v Z (fun j => rch ((j + 1 : Nat) : Int) (bs.drop q)) (tabN bs (n - q)) wr
def Ch2 (w : World) (nl p : Nat) (bs : List Int) (gs : Nat → Nat) (v : Value) (Z : Array Value) (t : Nat → Cel) (i : Value) (wr : World) : Prop :=
  ∃ q : Nat, q ≤ 4 ∧ i = .int .i64 q ∧ Beside w (w.heap.size + 1) nl gs v Z (fun j => if j < q then rch ((j + 1 : Nat) : Int) (bs.drop p) else rch ((j + 1 : Nat) : Int) (bs.drop (p + 1))) (upd t p (fmd t bs p q)) wr

set_option maxRecDepth 100000 in
set_option maxHeartbeats 8000000 in
theorem implChoices (s : ByteArray) (hs : s.size ≤ 400) (w : World) :
    Calls Tryz.prog 80 #[.string s] w (TcPost s.size (bytesI s) w) := by
  obtain ⟨Z, hZ, hz⟩ := zero_table
  have HZ := hide hZ
  have HT0 := hide (show (fun _ => zc) = tabN (bytesI s) (s.size - s.size) by rw [Nat.sub_self]; funext i; rfl)
  obtain ⟨w0, hw0⟩ : ∃ w0, (w.alloc (.cells Z 103)).alloc (.cells Z 103) = w0 := ⟨_, rfl⟩
  have HRow := hide (show RowQ w0 (w.heap.size + 1) 103 401 (fun _ => zc) by
    have h := RowQ.new (w.alloc (.cells Z 103)) 103 hZ
    rw [alloc_size] at h; rw [← hw0]; exact h)
  have HRes := hide (show w0.heap[w.heap.size]? = some (.cells Z 103 (0, 0)) by rw [← hw0]; exact row_keep4 (heap_alloc_new w _) _)
  have HB0 := hide (show Below w.heap.size w w0 by rw [← hw0]; exact ((Below.refl _ _).alloc (Nat.le_refl _) _).alloc (by rw [alloc_size]; omega) _)
  have HSZ0 := hide (show w0.heap.size = w.heap.size + 2 by rw [← hw0, alloc_size, alloc_size])
  clear hZ
  have HBS := hide (fun (L nl : Nat) (h : (L = 255 ∧ 255 < s.size) ∨ (L = s.size ∧ s.size ≤ 255)) (hn : L + 1 = nl) => show L ≤ 255 ∧ (∀ R, R ≤ 255 → R ≤ s.size → R < nl) from ⟨by omega, fun R h1 h2 => by omega⟩)
  go_enter Tryz.func80, Tryz.ntmps80
  go_wp2_with fail
  case' inl =>
    obtain ⟨L, hL, hLe⟩ : ∃ L : Nat, ((L = 255 ∧ 255 < s.size) ∨ (L = s.size ∧ s.size ≤ 255)) ∧ (255 : Int) = (L : Int) := ⟨255, .inl ⟨rfl, by omega⟩, rfl⟩
    rw [hLe]
  case' inr =>
    obtain ⟨L, hL, hLe⟩ : ∃ L : Nat, ((L = 255 ∧ 255 < s.size) ∨ (L = s.size ∧ s.size ≤ 255)) ∧ (s.size : Int) = (L : Int) := ⟨s.size, .inr ⟨rfl, by omega⟩, rfl⟩
    rw [hLe]
  all_goals
    obtain ⟨nl, hnl⟩ : ∃ nl, L + 1 = nl := ⟨_, rfl⟩
    obtain ⟨hL255, hLR⟩ := HBS.out L nl hL hnl
    have HRE := hide (implReaches L nl hL255 hnl w0)
    have HLR := hide hLR
    clear HBS hLR hL255 hnl hL hLe
    refine HRE.out.mono ?_
    rintro e w1 ⟨v, gs, rfl, hov, hol, hb1⟩
    have HBe := hide (show Beside w (w.heap.size + 1) nl gs v Z (fun j => rch ((j + 1 : Nat) : Int) ((bytesI s).drop s.size)) (tabN (bytesI s) (s.size - s.size)) w1 from
      ⟨by rw [← HT0.out]; exact HRow.out.next hb1, by
        rw [show (fun j : Nat => rch ((j + 1 : Nat) : Int) ((bytesI s).drop s.size)) = fun _ => 0 from by funext j; rw [List.drop_of_length_le (by rw [bytesI_len]; omega)]; rfl]
        exact hov.low (by rw [HSZ0.out]; omega), fun j hj => (hol j hj).low (by rw [HSZ0.out]; omega), heap_next HRes.out hb1, HB0.out.trans (hb1.mono HB0.out.size)⟩)
    clear hov hol hb1 HRE HRow HRes HB0 HSZ0 HT0
    go_wp2_with fail
    go_loopw [5] (fun i wr => Ch1 w s.size nl (bytesI s) gs v Z i wr) (fun i _ => (intOf i + 1).toNat)
    case atStart => exact ⟨_, s.size, rfl, rfl, Nat.le_refl _, HBe.out⟩
    case round =>
      clear HBe
      obtain ⟨x1, q1, rfl, hx1, hq1, hbe⟩ := hrel
      have HBe := hide hbe
      clear hbe
      by_cases hq : q1 = 0
      · have hx0 : x1 < 0 := by omega
        have HB5 := hide (show Beside w (w.heap.size + 1) nl gs v Z (fun j => rch ((j + 1 : Nat) : Int) ((bytesI s).drop q1)) (tabN (bytesI s) s.size) wr by
          have h := HBe.out
          rw [show s.size - q1 = s.size by omega] at h; exact h)
        obtain ⟨cs, hcs, htab⟩ := HB5.out.row
        have HCS := hide hcs
        have HTAB := hide htab
        have HS := hide (show (Tryz.prog.info? 103).map (·.size) = some cs.size by rw [htab.1]; exact size_table)
        have HZS := hide (show Z.size = cs.size by rw [htab.1, HZ.out.1])
        clear hcs htab HBe hx1 hq hz
        go_wp2_with (first
          | (with_reducible refine wpList_load_row rfl 103 (.tmp 3) rfl (w.heap.size + 1) rfl 103 cs (0, 0) _ HCS.out Tryz.underlying103 rfl HS.out ?_)
          | (with_reducible refine wpList_store_row rfl 103 (.tmp 2) (.tmp 37) rfl w.heap.size cs rfl rfl 103 Z HB5.out.res HS.out HZS.out HTAB.out.one ?_))
        have HR := hide (setRow_heap wr w.heap.size Z cs 103 _ HB5.out.res)
        refine bodyPost_ret (v := .agg cs) (results_cell_row Tryz.results80 _ _ w.heap.size 103 cs _ _ rfl HR.out Tryz.underlying103 rfl HS.out) rfl ⟨cs, rfl, HTAB.out, ?_⟩
        have hbe := HB5.out.bel
        exact ⟨hbe.os, hbe.tape, hbe.output, by simp; exact hbe.size, fun i hi => (setRow_other wr w.heap.size i cs (by omega)).trans (hbe.block i hi)⟩
      · obtain ⟨p, hp⟩ : ∃ p, q1 = p + 1 := ⟨q1 - 1, by omega⟩
        obtain rfl : x1 = (p : Int) := by omega
        have hps : p < s.size := by omega
        obtain ⟨t, ht⟩ : ∃ t, tabN (bytesI s) (s.size - q1) = t := ⟨_, rfl⟩
        have hlen : (bytesI s).length = s.size := bytesI_len s
        have HOK := hide (show ∀ j, Ok s.size j (t j) from fun j => by have h := ok_tab (bytesI s) (s.size - q1) j; rw [hlen, ht] at h; exact h)
        have HZp := hide (show t p = zc by rw [← ht]; exact tabN_zero (.inl (by rw [hlen]; omega)))
        have HSTEP := hide (show upd t p (fmd t (bytesI s) p 4) = tabN (bytesI s) (s.size - p) by
          have h := tabN_step (bs := bytesI s) (j := s.size - q1) (i := p) (by rw [hlen]; omega)
          rw [ht] at h
          rw [show s.size - p = s.size - q1 + 1 by omega]; exact h)
        have HFO := hide (show ∀ q, q ≤ 4 → Ok s.size p (fmd t (bytesI s) p q) from fun q hq' => by have h := ok_fmd (bs := bytesI s) (i := p) (t := t) (by rw [hlen]; exact HOK.out) (by rw [hlen]; omega) q hq'; rw [hlen] at h; exact h)
        have HRL := hide (show ∀ m, rch m ((bytesI s).drop p) ≤ s.size - p ∧ rch m ((bytesI s).drop p) ≤ 255 from fun m => by have h := rch_le m ((bytesI s).drop p); rw [List.length_drop, hlen] at h; exact h)
        rw [ht] at HBe
        obtain ⟨y, hy, hy2, hy0, hy1⟩ := byteAt s hps
        have HY := hide hy2
        have HBe2 := hide (show Beside w (w.heap.size + 1) nl gs v Z (fun j => if j < 0 then rch ((j + 1 : Nat) : Int) ((bytesI s).drop p) else rch ((j + 1 : Nat) : Int) ((bytesI s).drop (p + 1))) (upd t p (fmd t (bytesI s) p 0)) wr by
          rw [show fmd t (bytesI s) p 0 = t p by rw [HZp.out]; rfl, upd_self]
          have h := HBe.out
          rw [hp] at h; exact h)
        obtain ⟨gv, cv, cur, hvv, _, _, _⟩ := HBe.out.own.form (by omega)
        subst hvv
        clear hp hx1 hq ht hq1 HBe hlen hy2
        go_wp2_with fail
        obtain ⟨wo, rfl⟩ : ∃ wo : World, wo = wr := ⟨_, rfl⟩
        go_loopw [20] (fun i wr => Ch2 w nl p (bytesI s) gs (.slice (some ⟨gv, 0, none⟩) 4 cv) Z t i wr) (fun i _ => 4 - (intOf i).toNat)
        case atStart => exact ⟨0, by omega, rfl, HBe2.out⟩
        case round =>
          clear HBe2
          obtain ⟨q, hq4, rfl, hbe⟩ := hrel
          have HBe := hide hbe
          clear hbe
          by_cases hlt : q < 4
          · obtain ⟨mq, hmq⟩ : ∃ mq, q + 1 = mq := ⟨_, rfl⟩
            obtain ⟨h0, h1, h2, h3⟩ := rcv_at gs nl (fun j => if j < q then rch ((j + 1 : Nat) : Int) ((bytesI s).drop p) else rch ((j + 1 : Nat) : Int) ((bytesI s).drop (p + 1))) q
            rw [if_neg (by omega)] at h3
            rw [hmq] at h0 h1 h3
            have C1 := HBe.out.own.cell (i := q * 4 + 1) (by omega)
            have C3 := HBe.out.own.cell (i := q * 4 + 3) (by omega)
            rw [h1] at C1
            rw [h3] at C3
            have hr255 := (rch_le (mq : Int) ((bytesI s).drop (p + 1))).2
            have HST := hide (implStep (mq : Int) ⟨by omega, by omega⟩ gv (q * 4) _ y wr.drew hy0 hy1 hr255 (World.ownsRow.lt HBe.out.own gv rfl).2 C1 C3 (HBe.out.own.frozen (q * 4 + 3)))
            rw [stb_rch HY.out] at HST
            have HMQ := hide hmq
            clear h0 h1 h2 h3 C1 C3 hr255 hmq
            go_wp2_with fail
            refine tail_begin (fun w' => True) 7 (by kernel_rfl) trivial (fun hS' => ?_)
            refine tail_take2 0 rfl (by kernel_rfl) (by kernel_rfl) (by kernel_rfl) (by decide) (fun _ _ _ h => h) (by rfl) (v := ?_) ?_ (by assumption) ?_
            rotate_left 1
            · intro w' hS'; skip; go_simp; try with_reducible rfl
            try simp only [Act.put, List.setIfInBounds_toArray, List.set_cons_zero, List.set_cons_succ]
            refine tail_take2 1 rfl (by kernel_rfl) (by kernel_rfl) (by kernel_rfl) (by decide) (fun _ _ _ h => h) (by rfl) (v := ?_) ?_ (by assumption) ?_
            rotate_left 1
            · intro w' hS'; skip; go_simp; try with_reducible rfl
            try simp only [Act.put, List.setIfInBounds_toArray, List.set_cons_zero, List.set_cons_succ]
            refine tail_take2 2 rfl (by kernel_rfl) (by kernel_rfl) (by kernel_rfl) (by decide) (fun _ _ _ h => h) (by rfl) (v := ?_) ?_ (by assumption) ?_
            rotate_left 1
            · intro w' hS'; skip; go_simp; try with_reducible rfl
            try simp only [Act.put, List.setIfInBounds_toArray, List.set_cons_zero, List.set_cons_succ]
            refine tail_take2 3 rfl (by kernel_rfl) (by kernel_rfl) (by kernel_rfl) (by decide) (fun _ _ _ h => h) (by rfl) (v := ?_) ?_ (by assumption) ?_
            rotate_left 1
            · intro w' hS'; skip; go_simp; try with_reducible rfl
            try simp only [Act.put, List.setIfInBounds_toArray, List.set_cons_zero, List.set_cons_succ]
            refine tail_take2 4 rfl (by kernel_rfl) (by kernel_rfl) (by kernel_rfl) (by decide) (fun _ _ _ h => h) (by rfl) (v := ?_) ?_ (by assumption) ?_
            rotate_left 1
            · intro w' hS'; skip; go_simp; try with_reducible rfl
            try simp only [Act.put, List.setIfInBounds_toArray, List.set_cons_zero, List.set_cons_succ]
            refine tail_take2 5 rfl (by kernel_rfl) (by kernel_rfl) (by kernel_rfl) (by decide) (fun _ _ _ h => h) (by rfl) (v := ?_) ?_ (by assumption) ?_
            rotate_left 1
            · intro w' hS'; skip; go_simp; try with_reducible rfl
            try simp only [Act.put, List.setIfInBounds_toArray, List.set_cons_zero, List.set_cons_succ]
            refine tail_call 6 rfl (by kernel_rfl) rfl (fun K' hK => ?_)
            go_simp
            go_at_call 117
            refine HST.out.mono ?_
            rintro e w2 ⟨rfl, w1', hb1', hw2⟩
            have HB2 := hide (show Beside w (w.heap.size + 1) nl gs (.slice (some ⟨gv, 0, none⟩) 4 cv) Z (fun j => if j < q + 1 then rch ((j + 1 : Nat) : Int) ((bytesI s).drop p) else rch ((j + 1 : Nat) : Int) ((bytesI s).drop (p + 1))) (upd t p (fmd t (bytesI s) p q)) w2 by
              have h := (HBe.out.next ((Below.refl wr.heap.size wr).drew.trans hb1')).size q (rch (mq : Int) ((bytesI s).drop p))
              rw [← hw2] at h
              rw [show (fun j => if j < q + 1 then rch ((j + 1 : Nat) : Int) ((bytesI s).drop p) else rch ((j + 1 : Nat) : Int) ((bytesI s).drop (p + 1))) = (fun j => if j = q then rch (mq : Int) ((bytesI s).drop p) else if j < q then rch ((j + 1 : Nat) : Int) ((bytesI s).drop p) else rch ((j + 1 : Nat) : Int) ((bytesI s).drop (p + 1))) from by
                funext j
                by_cases e : j = q
                · subst e; rw [if_pos (by omega), if_pos rfl, HMQ.out]
                · rw [if_neg e]
                  by_cases e2 : j < q
                  · rw [if_pos (by omega), if_pos e2]
                  · rw [if_neg (by omega), if_neg e2]]
              exact h)
            clear hw2 hb1' HBe HST
            refine hK.out _ _ trivial (fun hS' => ?_)
            clear hK K' hS'
            try simp only [Act.put, List.setIfInBounds_toArray, List.set_cons_zero, List.set_cons_succ]
            refine tail_end (by kernel_rfl) ?_
            obtain ⟨sz2, hsz2⟩ : ∃ sz2, (fun j => if j < q + 1 then rch ((j + 1 : Nat) : Int) ((bytesI s).drop p) else rch ((j + 1 : Nat) : Int) ((bytesI s).drop (p + 1))) = sz2 := ⟨_, rfl⟩
            have hsq : sz2 q = rch (mq : Int) ((bytesI s).drop p) := by rw [← hsz2, ← HMQ.out]; show (if q < q + 1 then _ else _) = _; rw [if_pos (by omega)]
            have HSZ2 := hide hsz2
            rw [hsz2] at HB2
            obtain ⟨h0, h1, h2, h3⟩ := rcv_at gs nl sz2 q
            rw [hsq] at h3
            rw [HMQ.out] at h0 h1
            clear hsz2 hsq
            have C0 := HB2.out.own.cell (i := q * 4) (by omega)
            have C1 := HB2.out.own.cell (i := q * 4 + 1) (by omega)
            have C2 := HB2.out.own.cell (i := q * 4 + 2) (by omega)
            have C3 := HB2.out.own.cell (i := q * 4 + 3) (by omega)
            rw [h0] at C0
            rw [h1] at C1
            rw [h2] at C2
            rw [h3] at C3
            obtain ⟨Mv, hMv⟩ : ∃ Mv, MV (mq : Int) = Mv := ⟨_, rfl⟩
            obtain ⟨R, hR⟩ : ∃ R, rch (mq : Int) ((bytesI s).drop p) = R := ⟨_, rfl⟩
            rw [hMv] at C1
            rw [hR] at C3
            have hRR := HRL.out (mq : Int)
            rw [hR] at hRR
            have HFM := hide (show fmd t (bytesI s) p (q + 1) = fsiz t mq p R (fmd t (bytesI s) p q) by rw [fmd, ← hR, HMQ.out])
            have HFOq := hide (HFO.out q (by omega))
            have HLq := hide (HB2.out.len q hlt)
            rw [HMQ.out] at HLq
            have hgb : gs q ≠ w.heap.size + 1 := by
              rcases apartI HB2.out.row HLq.out with h | h
              · cases h
              · simpa [Value.ownBlock] using h
            have hRnl := HLR.out R (by omega) (by omega)
            have hmq4 : mq ≤ 4 := by have := HMQ.out; omega
            have HIM := hide (implImprove (w.heap.size + 1) p mq R s.size (gs q) nl nl Mv t (fmd t (bytesI s) p q) w2 HB2.out.row (HLq.out.lt (g := gs q) rfl).2 hgb (fun k hk => HLq.out.cellAt (lenL_at hk)) hRnl hRR.2 hs (by omega) (by omega) HOK.out HFOq.out)
            clear h0 h1 h2 h3 hMv hR hRR HFOq HLq hgb hRnl
            go_wp2_with fail
            refine HIM.out.mono ?_
            rintro e w4 ⟨rfl, hr4, hg4⟩
            have HB4 := hide (HB2.out.tab (t' := upd t p (fmd t (bytesI s) p (q + 1))) (by rw [HFM.out]; exact hr4) hg4 (by omega))
            clear hr4 hg4 C0 C1 C2 C3 HIM HB2
            go_wp2_with fail
            go_roundw
            case rel => exact ⟨q + 1, by omega, by go_num, by have h := HB4.out; rw [← HSZ2.out] at h; exact h⟩
            case measure => simp [intOf]; omega
          · have HB5 := hide (show Beside w (w.heap.size + 1) nl gs (.slice (some ⟨gv, 0, none⟩) 4 cv) Z (fun j => rch ((j + 1 : Nat) : Int) ((bytesI s).drop p)) (tabN (bytesI s) (s.size - p)) wr by
              have hq5 : q = 4 := by omega
              have h := HBe.out
              rw [hq5, HSTEP.out] at h
              refine ⟨h.row, h.own.congr (fun i hi => ?_), h.len, h.res, h.bel⟩
              exact rcv_congr (show rch ((i / 4 + 1 : Nat) : Int) ((bytesI s).drop p) = if i / 4 < 4 then rch ((i / 4 + 1 : Nat) : Int) ((bytesI s).drop p) else rch ((i / 4 + 1 : Nat) : Int) ((bytesI s).drop (p + 1)) by rw [if_pos (by omega)]))
            clear HBe
            go_wp2_with fail
            go_roundw
            case rel => exact ⟨_, p, rfl, rfl, by omega, HB5.out⟩
            case measure => simp [intOf]
end Go.Proofs.YtncgeoliboidhaaGreat
