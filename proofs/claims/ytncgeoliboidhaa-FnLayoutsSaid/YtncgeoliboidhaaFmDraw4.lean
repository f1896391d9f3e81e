/-
  The model's draw of a family, a size and a level.
  Condition: the code has at most 4096 bytes.
-/
import Derived.Test.YtncgeoliboidhaaFmDraw3
namespace Go.Proofs.Ytncgeoliboidhaa
open Go.RowKit
set_option linter.unusedSimpArgs false
set_option linter.unusedVariables false

theorem below_set8 {B : Nat} {a w : World} (h : Below B a w) {N : Nat} (hN : B ≤ N) (x0 x1 x2 x3 x4 x5 x6 x7 : Value) : Below B a (set8F w N x0 x1 x2 x3 x4 x5 x6 x7) :=
  (((((((h.setCell hN _).setCell hN _).setCell hN _).setCell hN _).setCell hN _).setCell hN _).setCell hN _).setCell hN _
theorem src_set8 {w : World} {g Bc b : Nat} {A : Option Addr} {n c : Nat} {code : List Int} (h : Src w g Bc A n c code) (hb : b < g) (hBc : Bc ≤ b) (x0 x1 x2 x3 x4 x5 x6 x7 : Value) : Src (set8F w b x0 x1 x2 x3 x4 x5 x6 x7) g Bc A n c code := by
  obtain ⟨h1, h2, h3, h4, p, sd, h5, h6, h7, h8⟩ := h
  exact ⟨h1.below (below_set8 (Below.refl Bc w) hBc x0 x1 x2 x3 x4 x5 x6 x7), h2, h3, h4, p, sd, h5, h6, h7, row8_other h8 (by omega) x0 x1 x2 x3 x4 x5 x6 x7⟩
/-- What the draw leaves. -/
def DrawnLO (w : World) (x : Ending) (w' : World) : Prop :=
  ∃ (s : ByteArray) (κ p k γ : Int) (P : Option Addr) (l lc : Nat) (C : Int) (P' : Option Addr) (l' lc' : Nat) (zs ls : List Int) (z lv : Int), x = .returned (.tuple #[.agg #[.string s, .int .i64 κ, .int .i64 p, .int .i64 k, .int .i64 γ, .slice P l lc, .int .i64 C, .slice P' l' lc'], .int .i64 z, .int .i64 lv]) ∧ s.size ≤ 9 ∧ FixI w' w.heap.size P l zs ∧ FixI w' w.heap.size P' l' ls ∧ Below w.heap.size w w'
set_option maxRecDepth 100000 in
set_option maxHeartbeats 16000000 in
theorem drawLO (A : Option Addr) (n c : Nat) (code : List Int) (w : World) (hI : Ints .u8 w w.heap.size A n code) (hn : n ≤ 4096) (hby : ∀ b ∈ code, 0 ≤ b ∧ b ≤ 255) :
    Calls Try.prog 27 #[.slice A n c] w (DrawnLO w) := by
  have HBY := hide hby
  obtain ⟨w0, hw0⟩ : ∃ w0, w.alloc (.cells #[.string ⟨#[]⟩, .int .i64 0, .int .i64 0, .int .i64 0, .int .i64 0, .slice none 0 0, .int .i64 0, .slice none 0 0] 31) = w0 := ⟨_, rfl⟩
  have hb0 : Below w.heap.size w w0 := by rw [← hw0]; exact (Below.refl _ _).alloc (Nat.le_refl _) _
  have HR0 := hide (show w0.heap[w.heap.size]? = some (.cells #[.string ⟨#[]⟩, .int .i64 0, .int .i64 0, .int .i64 0, .int .i64 0, .slice none 0 0, .int .i64 0, .slice none 0 0] 31 (0, 0)) by rw [← hw0]; exact heap_alloc_new _ _)
  have HB0 := hide hb0
  have HI0 := hide (show Ints .u8 w0 w0.heap.size A n code from (hI.below hb0).more hb0.size)
  have HLE := hide (show w.heap.size < w0.heap.size from (Array.getElem?_eq_some_iff.1 HR0.out).1)
  clear hby hb0
  go_enter Try.func27, Try.ntmps27
  go_wp2_with fail
  refine (from_any A n c code w0 HI0.out hn HBY.out).mono ?_
  rintro e w1 ⟨rfl, hs1, hb1⟩
  have HR1 := hide (heap_nextG HR0.out hb1)
  have HB1 := hide (HB0.out.trans (hb1.mono HB0.out.size))
  have HS1 := hide (show Src w1 w0.heap.size w.heap.size A n c code from ⟨hI.below HB1.out, Nat.le_of_lt HLE.out, hs1.2.2.1, hs1.2.2.2.1, hs1.2.2.2.2⟩)
  clear hs1 hb1 HB0 HR0 HI0 hw0 hI
  obtain ⟨g, hg0⟩ : ∃ g, w0.heap.size = g := ⟨_, rfl⟩
  rw [hg0] at HS1 HLE ⊢
  clear hg0
  go_wp2_with fail
  refine (drawFmAny g w.heap.size A n c code w1 HS1.out).mono ?_
  rintro e w2 ⟨s, κ, p, k, γ, P, l, lc, C, P', l', lc', zs, ls, rfl, hsz, hz, hl, hs2, hg2⟩
  have HR2 := hide (row_grownF HR1.out hg2 (by have := HLE.out; omega))
  have HB2 := hide (HB1.out.grown hg2 HB1.out.size (fun r hr => by cases hr; exact Nat.le_of_lt HLE.out))
  have HS2 := hide hs2
  have HLO := hide (show g < w1.heap.size ∧ w.heap.size < w1.heap.size from ⟨HS1.out.lt, by have := HLE.out; have := HS1.out.lt; omega⟩)
  have HSZ := hide hsz
  have HZ2 := hide hz
  have HL2 := hide hl
  clear hg2 hs2 hsz hz hl HS1 HR1 HB1
  obtain ⟨lo, hlo⟩ : ∃ lo, w1.heap.size = lo := ⟨_, rfl⟩
  rw [hlo] at HLO HZ2 HL2
  clear hlo
  obtain ⟨w3, hw3⟩ : ∃ w3, w2.alloc (.cells #[.string s, .int .i64 κ, .int .i64 p, .int .i64 k, .int .i64 γ, .slice P l lc, .int .i64 C, .slice P' l' lc'] 31) = w3 := ⟨_, rfl⟩
  have hb3 : Below w2.heap.size w2 w3 := by rw [← hw3]; exact (Below.refl _ _).alloc (Nat.le_refl _) _
  have HF3 := hide (show w3.heap[w2.heap.size]? = some (.cells #[.string s, .int .i64 κ, .int .i64 p, .int .i64 k, .int .i64 γ, .slice P l lc, .int .i64 C, .slice P' l' lc'] 31 (0, 0)) by rw [← hw3]; exact heap_alloc_new _ _)
  have HLB := hide (show g < w2.heap.size from HS2.out.lt)
  have HR3 := hide (heap_nextG HR2.out hb3)
  have HS3 := hide (HS2.out.below hb3 HS2.out.lt)
  have HB3 := hide (HB2.out.trans (hb3.mono HB2.out.size))
  have HZ3 := hide (HZ2.out.below hb3 (Nat.le_refl _))
  have HL3 := hide (HL2.out.below hb3 (Nat.le_refl _))
  clear hb3
  obtain ⟨⟨t0, t1, t2, t3, t4, t5, t6, t7⟩, _⟩ := row8 HF3.out
  go_wp2_with fail
  clear hw3 t0 t1 t2 t3 t4 t5 t6 t7
  obtain ⟨b, hb⟩ : ∃ b, w2.heap.size = b := ⟨_, rfl⟩
  rw [hb] at HF3 HLB ⊢
  clear hb HS2 HR2 HB2 HZ2 HL2
  refine (drawSize g w.heap.size A n c code s κ p k γ P l lc C P' l' lc' zs lo w3 HS3.out HZ3.out HLO.out.1).mono ?_
  rintro e w4 ⟨z, rfl, hs4, hg4⟩
  have HS4 := hide hs4
  have HR4 := hide (row_grownF HR3.out hg4 (by have := HLE.out; omega))
  have HF4 := hide (row_grownF HF3.out hg4 (by have := HLE.out; have := HLB.out; omega))
  have HB4 := hide (HB3.out.grown hg4 HB3.out.size (fun r hr => by cases hr; exact Nat.le_of_lt HLE.out))
  have HZ4 := hide (HZ3.out.grown hg4 HLO.out.1)
  have HL4 := hide (HL3.out.grown hg4 HLO.out.1)
  clear hs4 hg4 HS3 HR3 HB3 HZ3 HL3 HF3
  have hbd := (Below.refl w4.heap.size w4).drew
  have HRd := hide (heap_nextG HR4.out hbd)
  have HFd := hide (heap_nextG HF4.out hbd)
  have HSd := hide (HS4.out.below hbd HS4.out.lt)
  have HBd := hide (HB4.out.trans (hbd.mono HB4.out.size))
  have HZd := hide (HZ4.out.below hbd (Nat.le_refl _))
  have HLd := hide (HL4.out.below hbd (Nat.le_refl _))
  clear hbd
  obtain ⟨⟨t0, t1, t2, t3, t4, t5, t6, t7⟩, _⟩ := row8 HF4.out
  go_wp2_with fail
  clear t0 t1 t2 t3 t4 t5 t6 t7
  refine tail_begin (fun w' => w'.cell? ⟨b, 0, none⟩ = some (.string s) ∧ w'.cell? ⟨b, 1, none⟩ = some (.int .i64 κ) ∧ w'.cell? ⟨b, 2, none⟩ = some (.int .i64 p) ∧ w'.cell? ⟨b, 3, none⟩ = some (.int .i64 k) ∧ w'.cell? ⟨b, 4, none⟩ = some (.int .i64 γ) ∧ w'.cell? ⟨b, 5, none⟩ = some (.slice P l lc) ∧ w'.cell? ⟨b, 6, none⟩ = some (.int .i64 C) ∧ w'.cell? ⟨b, 7, none⟩ = some (.slice P' l' lc')) 8 (by kernel_rfl) (row8 HFd.out).1 (fun hS' => ?_)
  obtain ⟨wd, hwd⟩ : ∃ q, w4.drew = q := ⟨_, rfl⟩
  rw [hwd] at hS' HFd HRd HSd HBd HZd HLd ⊢
  clear hwd HF4 HR4 HS4 HB4 HZ4 HL4
  refine tail_take2 0 rfl (by kernel_rfl) (by kernel_rfl) (by kernel_rfl) (by decide) (fun _ _ _ h => h) (by rfl) (v := ?_) ?_ (by assumption) ?_
  rotate_left 1
  · intro w' hS'; obtain ⟨d0, d1, d2, d3, d4, d5, d6, d7⟩ := hS'; go_simp; try with_reducible rfl
  try simp only [Act.put, List.setIfInBounds_toArray, List.set_cons_zero, List.set_cons_succ]
  refine tail_take2 1 rfl (by kernel_rfl) (by kernel_rfl) (by kernel_rfl) (by decide) (fun _ _ _ h => h) (by rfl) (v := ?_) ?_ (by assumption) ?_
  rotate_left 1
  · intro w' hS'; obtain ⟨d0, d1, d2, d3, d4, d5, d6, d7⟩ := hS'; go_simp; try with_reducible rfl
  try simp only [Act.put, List.setIfInBounds_toArray, List.set_cons_zero, List.set_cons_succ]
  refine tail_take2 2 rfl (by kernel_rfl) (by kernel_rfl) (by kernel_rfl) (by decide) (fun _ _ _ h => h) (by rfl) (v := ?_) ?_ (by assumption) ?_
  rotate_left 1
  · intro w' hS'; obtain ⟨d0, d1, d2, d3, d4, d5, d6, d7⟩ := hS'; go_simp; try with_reducible rfl
  try simp only [Act.put, List.setIfInBounds_toArray, List.set_cons_zero, List.set_cons_succ]
  refine tail_take2 3 rfl (by kernel_rfl) (by kernel_rfl) (by kernel_rfl) (by decide) (fun _ _ _ h => h) (by rfl) (v := ?_) ?_ (by assumption) ?_
  rotate_left 1
  · intro w' hS'; obtain ⟨d0, d1, d2, d3, d4, d5, d6, d7⟩ := hS'; go_simp; try with_reducible rfl
  try simp only [Act.put, List.setIfInBounds_toArray, List.set_cons_zero, List.set_cons_succ]
  refine tail_call 4 rfl (by kernel_rfl) rfl (fun K' hK => ?_)
  go_simp
  go_at_call 57; refine (drawLevel g w.heap.size A n c code s κ p k γ P l lc C P' l' lc' _ HSd.out HLd.out.2.1).mono ?_; rintro e we ⟨y, rfl, hs5, hg5⟩
  have HSe := hide hs5
  have HRe := hide (row_grownF HRd.out hg5 (by have := HLE.out; omega))
  have HFe := hide (row_grownF HFd.out hg5 (by have := HLE.out; have := HLB.out; omega))
  have HBe := hide (HBd.out.grown hg5 HBd.out.size (fun r hr => by cases hr; exact Nat.le_of_lt HLE.out))
  have HZe := hide (HZd.out.grown hg5 HLO.out.1)
  have HLe := hide (HLd.out.grown hg5 HLO.out.1)
  clear hs5 hg5
  refine hK.out _ _ (by (try dsimp only); exact (row8 HFe.out).1) (fun hS' => ?_)
  clear hK K'
  try simp only [Act.put, List.setIfInBounds_toArray, List.set_cons_zero, List.set_cons_succ]
  obtain ⟨⟨z0, z1, z2, z3, z4, z5, z6, z7⟩, f0, f1, f2, f3, f4, f5, f6, f7⟩ := row8 HRe.out
  have HRs := hide (row8_set HRe.out (.string s) (.int .i64 κ) (.int .i64 p) (.int .i64 k) (.int .i64 γ) (.slice P l lc) (.int .i64 C) (.slice P' l' lc'))
  have HFs := hide (row8_other HFe.out (show b ≠ w.heap.size by have := HLE.out; have := HLB.out; omega) (.string s) (.int .i64 κ) (.int .i64 p) (.int .i64 k) (.int .i64 γ) (.slice P l lc) (.int .i64 C) (.slice P' l' lc'))
  have HSs := hide (src_set8 HSe.out (b := w.heap.size) (by have := HLE.out; omega) (Nat.le_refl _) (.string s) (.int .i64 κ) (.int .i64 p) (.int .i64 k) (.int .i64 γ) (.slice P l lc) (.int .i64 C) (.slice P' l' lc'))
  have HBs := hide (below_set8 HBe.out (Nat.le_refl _) (.string s) (.int .i64 κ) (.int .i64 p) (.int .i64 k) (.int .i64 γ) (.slice P l lc) (.int .i64 C) (.slice P' l' lc'))
  have HZs := hide (HZe.out.set8 HLO.out.2 (.string s) (.int .i64 κ) (.int .i64 p) (.int .i64 k) (.int .i64 γ) (.slice P l lc) (.int .i64 C) (.slice P' l' lc'))
  have HLs := hide (HLe.out.set8 HLO.out.2 (.string s) (.int .i64 κ) (.int .i64 p) (.int .i64 k) (.int .i64 γ) (.slice P l lc) (.int .i64 C) (.slice P' l' lc'))
  obtain ⟨ws, hws⟩ : ∃ q, set8F we w.heap.size (.string s) (.int .i64 κ) (.int .i64 p) (.int .i64 k) (.int .i64 γ) (.slice P l lc) (.int .i64 C) (.slice P' l' lc') = q := ⟨_, rfl⟩
  rw [hws] at HRs HFs HSs HBs HZs HLs
  unfold set8F at hws
  refine tail_call 5 rfl (by kernel_rfl) rfl (fun K' hK => ?_)
  go_simp
  try rw [hws]
  clear hws z0 z1 z2 z3 z4 z5 z6 z7 f0 f1 f2 f3 f4 f5 f6 f7
  refine hK.out _ _ (by (try dsimp only); exact (row8 HFs.out).1) (fun hS' => ?_)
  clear hK K'
  try simp only [Act.put, List.setIfInBounds_toArray, List.set_cons_zero, List.set_cons_succ]
  refine tail_take2 6 rfl (by kernel_rfl) (by kernel_rfl) (by kernel_rfl) (by decide) (fun _ _ _ h => h) (by rfl) (v := ?_) ?_ (by assumption) ?_
  rotate_left 1
  · intro w' hS'; obtain ⟨d0, d1, d2, d3, d4, d5, d6, d7⟩ := hS'; go_simp; try with_reducible rfl
  try simp only [Act.put, List.setIfInBounds_toArray, List.set_cons_zero, List.set_cons_succ]
  refine tail_take2 7 rfl (by kernel_rfl) (by kernel_rfl) (by kernel_rfl) (by decide) (fun _ _ _ h => h) (by rfl) (v := ?_) ?_ (by assumption) ?_
  rotate_left 1
  · intro w' hS'; obtain ⟨d0, d1, d2, d3, d4, d5, d6, d7⟩ := hS'; go_simp; try with_reducible rfl
  try simp only [Act.put, List.setIfInBounds_toArray, List.set_cons_zero, List.set_cons_succ]
  refine tail_end (by kernel_rfl) ?_
  obtain ⟨⟨r0, r1, r2, r3, r4, r5, r6, r7⟩, _⟩ := row8 HRs.out
  go_wp2_with fail
  exact bodyPost_ret (v := .tuple #[.agg #[.string s, .int .i64 κ, .int .i64 p, .int .i64 k, .int .i64 γ, .slice P l lc, .int .i64 C, .slice P' l' lc'], .int .i64 z, .int .i64 y]) (by simp [results, Try.results27, go_sem, r0, r1, r2, r3, r4, r5, r6, r7]) rfl ⟨_, _, _, _, _, _, _, _, _, _, _, _, zs, ls, z, y, rfl, HSZ.out, HZs.out.low (Nat.le_of_lt HLO.out.2), HLs.out.low (Nat.le_of_lt HLO.out.2), HBs.out⟩
end Go.Proofs.Ytncgeoliboidhaa
