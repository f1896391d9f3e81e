/-
  The model's draws of a segment, and of a list and a segment: anything may come, within bounds.
  Condition: the code has at most 4096 bytes.
-/
import Derived.Test.YthmpfnbcodolcaaSgDraw
import Derived.Test.YthmpfnbcodolcaaSgSt
import Derived.Test.YthmpfnbcodolcaaLawKit
import Derived.Test.YthmpfnbcodolcaaDrawBits
import Derived.Test.YthmpfnbcodolcaaSg5
import Derived.Laws.IdiomStrings
namespace Go.Proofs.Ythmpfnbcodolcaa
open Go.RowKit
set_option linter.unusedSimpArgs false
set_option linter.unusedVariables false

/-- What a draw of a segment leaves. -/
def DrawnG (g Bc : Nat) (A : Option Addr) (n c : Nat) (code : List Int) (w : World) (x : Ending) (w' : World) : Prop :=
  ∃ (m : Int) (s : ByteArray), x = .returned (.agg #[.int .i64 m, .string s]) ∧ -1 ≤ m ∧ m ≤ 5 ∧ s.size ≤ 1002 ∧ Src w' g Bc A n c code ∧ w.grownBy w' (some g)
/-- The variables of such a draw. -/
structure DsR (g Bc : Nat) (A : Option Addr) (n c : Nat) (code : List Int) (w W : World) (b4 : Nat) (m : Int) (s : ByteArray) : Prop where
  r2 : W.heap[w.heap.size]? = some (.cells #[.int .i64 0, .string ⟨#[]⟩] 26 (0, 0))
  r4 : W.heap[b4]? = some (.cells #[.int .i64 m, .string s] 26 (0, 0))
  src : Src W g Bc A n c code
  gr : w.grownBy W (some g)
  lt : g < w.heap.size ∧ w.heap.size < b4
section
variable {g Bc : Nat} {A : Option Addr} {n c : Nat} {code : List Int} {w W W' : World} {b4 : Nat} {m : Int} {s : ByteArray}
theorem DsR.next (h : DsR g Bc A n c code w W b4 m s) (hs : Src W' g Bc A n c code) (hg : W.grownBy W' (some g)) : DsR g Bc A n c code w W' b4 m s := by
  have h0 := h.lt
  exact ⟨by rw [hg.block _ (Array.getElem?_eq_some_iff.1 h.r2).1 (by simp; omega)]; exact h.r2, by rw [hg.block _ (Array.getElem?_eq_some_iff.1 h.r4).1 (by simp; omega)]; exact h.r4, hs, grown_trans h.gr hg, h0⟩
theorem DsR.below (h : DsR g Bc A n c code w W b4 m s) (hb : Below W.heap.size W W') : DsR g Bc A n c code w W' b4 m s := by
  have h0 := h.lt
  exact ⟨by rw [hb.block _ (Array.getElem?_eq_some_iff.1 h.r2).1]; exact h.r2, by rw [hb.block _ (Array.getElem?_eq_some_iff.1 h.r4).1]; exact h.r4, h.src.below hb h.src.lt, grown_below h.gr (hb.mono h.gr.size), h0⟩
theorem DsR.put0 (h : DsR g Bc A n c code w W b4 m s) (m' : Int) : DsR g Bc A n c code w (W.setCell ⟨b4, 0, none⟩ (.int .i64 m')) b4 m' s := by
  have h0 := h.lt
  exact ⟨row_put h.r2 (by omega), heap_setCell_same W b4 0 _ _ _ h.r4, h.src.still (grownBy_setCell' W b4 _) (fun r e => by cases e; omega), grown_more h.gr (grownBy_setCell' W b4 _) (fun r e => by cases e; omega), h0⟩
end
theorem DsR.put1 {g Bc : Nat} {A : Option Addr} {n c : Nat} {code : List Int} {w W : World} {b4 : Nat} {m : Int} {s : ByteArray} (h : DsR g Bc A n c code w W b4 m s) (s' : ByteArray) : DsR g Bc A n c code w (W.setCell ⟨b4, 1, none⟩ (.string s')) b4 m s' := by
  have h0 := h.lt
  have hg : W.grownBy (W.setCell ⟨b4, 1, none⟩ (.string s')) (some b4) := ⟨rfl, rfl, rfl, by simp [World.setCell], fun i _ hne => Below.heap_setCell W ⟨b4, 1, none⟩ _ i (fun e => hne (by simp [e]))⟩
  exact ⟨row_put h.r2 (by omega), heap_setCell_same W b4 1 _ _ _ h.r4, h.src.still hg (fun r e => by cases e; omega), grown_more h.gr hg (fun r e => by cases e; omega), h0⟩
theorem DsR.fin {g Bc : Nat} {A : Option Addr} {n c : Nat} {code : List Int} {w W : World} {b4 : Nat} {m : Int} {s : ByteArray} (h : DsR g Bc A n c code w W b4 m s) (hm0 : -1 ≤ m) (hm1 : m ≤ 5) (hs : s.size ≤ 1002) :
    DrawnG g Bc A n c code w (.returned (.agg #[.int .i64 m, .string s])) ((W.setCell ⟨w.heap.size, 0, none⟩ (.int .i64 m)).setCell ⟨w.heap.size, 1, none⟩ (.string s)) := by
  have h0 := h.lt
  have hg : W.grownBy ((W.setCell ⟨w.heap.size, 0, none⟩ (.int .i64 m)).setCell ⟨w.heap.size, 1, none⟩ (.string s)) (some w.heap.size) :=
    ⟨rfl, rfl, rfl, by simp [World.setCell], fun i _ hne => (Below.heap_setCell _ ⟨w.heap.size, 1, none⟩ _ i (fun e => hne (by simp [e]))).trans (Below.heap_setCell W ⟨w.heap.size, 0, none⟩ _ i (fun e => hne (by simp [e])))⟩
  exact ⟨m, s, rfl, hm0, hm1, hs, h.src.still hg (fun r e => by cases e; omega), grown_more h.gr hg (fun r e => by cases e; omega)⟩
theorem DsR.out {g Bc : Nat} {A : Option Addr} {n c : Nat} {code : List Int} {w W : World} {b4 : Nat} {m : Int} {s : ByteArray} (h : DsR g Bc A n c code w W b4 m s) :
    ((W.setCell ⟨w.heap.size, 0, none⟩ (.int .i64 m)).setCell ⟨w.heap.size, 1, none⟩ (.string s)).cell? ⟨w.heap.size, 0, none⟩ = some (.int .i64 m) ∧ ((W.setCell ⟨w.heap.size, 0, none⟩ (.int .i64 m)).setCell ⟨w.heap.size, 1, none⟩ (.string s)).cell? ⟨w.heap.size, 1, none⟩ = some (.string s) := by
  have h1 := heap_setCell_same W w.heap.size 0 _ _ (.int .i64 m) h.r2
  have h2 := heap_setCell_same _ w.heap.size 1 _ _ (.string s) h1
  exact ⟨cell_of_row _ w.heap.size 0 _ _ _ h2, cell_of_row _ w.heap.size 1 _ _ _ h2⟩
theorem DsR.see {g Bc : Nat} {A : Option Addr} {n c : Nat} {code : List Int} {w W : World} {b4 : Nat} {m : Int} {s : ByteArray} (h : DsR g Bc A n c code w W b4 m s) :
    W.cell? ⟨b4, 0, none⟩ = some (.int .i64 m) ∧ W.cell? ⟨b4, 1, none⟩ = some (.string s) ∧ W.cell? ⟨w.heap.size, 0, none⟩ = some (.int .i64 0) ∧ W.cell? ⟨w.heap.size, 1, none⟩ = some (.string ⟨#[]⟩) ∧
    W.frozen? ⟨b4, 0, none⟩ = false ∧ W.frozen? ⟨b4, 1, none⟩ = false ∧ W.frozen? ⟨w.heap.size, 0, none⟩ = false ∧ W.frozen? ⟨w.heap.size, 1, none⟩ = false :=
  ⟨cell_of_row _ b4 0 _ _ _ h.r4, cell_of_row _ b4 1 _ _ _ h.r4, cell_of_row _ w.heap.size 0 _ _ _ h.r2, cell_of_row _ w.heap.size 1 _ _ _ h.r2, frozen_of_row _ b4 0 _ _ h.r4, frozen_of_row _ b4 1 _ _ h.r4, frozen_of_row _ w.heap.size 0 _ _ h.r2, frozen_of_row _ w.heap.size 1 _ _ h.r2⟩
theorem three_cells {W : World} {b : Nat} (h : W.heap[b]? = some (.cells #[.int .i64 0, .int .i64 5, .int .i64 (-1)] 2 (0, 0))) (y : Nat) (hy : y < 3) : ∃ v : Int, W.cell? ⟨b, y, none⟩ = some (.int .i64 v) ∧ -1 ≤ v ∧ v ≤ 5 := by
  rcases (show y = 0 ∨ y = 1 ∨ y = 2 by omega) with rfl | rfl | rfl
  · exact ⟨0, cell_of_row W b 0 _ _ _ h, by omega, by omega⟩
  · exact ⟨5, cell_of_row W b 1 _ _ _ h, by omega, by omega⟩
  · exact ⟨-1, cell_of_row W b 2 _ _ _ h, by omega, by omega⟩

set_option maxRecDepth 100000 in
set_option maxHeartbeats 2000000 in
theorem drawSeg (g Bc : Nat) (A : Option Addr) (n c : Nat) (code : List Int) (w : World) (hS : Src w g Bc A n c code) :
    Calls Try.prog 46 #[.pointer (some ⟨g, 0, none⟩)] w (DrawnG g Bc A n c code w) := by
  have HS := hide hS
  have hg := hS.lt
  clear hS
  have HX := hide (SBox.start w 26 0 ⟨#[]⟩)
  go_enter Try.func46, Try.ntmps46
  go_wp2_with fail
  refine (next_any g Bc A n c code _ _ (HS.out.still (World.grownBy_alloc w _ none) (by simp)) (by omega)).mono ?_
  rintro e w1 ⟨y, rfl, hy0, hy1, hs1, hg1⟩
  have HS1 := hide hs1
  have HG1 := hide (grown_trans (World.grownBy_alloc w _ (some g)) hg1)
  have HR1 := hide ((hg1.block w.heap.size (by rw [alloc_size]; omega) (by simp; omega)).trans HX.out.1)
  clear hs1 hg1
  obtain ⟨m, hm⟩ : ∃ m, 1 + y = m := ⟨_, rfl⟩
  have hw1 : IntKind.i64.wrap (1 + y) = m := by rw [hm]; exact IntWalk.i64_in _ ⟨by omega, by omega⟩
  have hm1 : 1 ≤ m ∧ m ≤ 4 := by omega
  clear hm hy0 hy1
  go_wp2_with fail
  refine (drawText g Bc A n c code m 7 w1 HS1.out hm1 (by omega) (by omega)).mono ?_
  rintro e w2 ⟨s, rfl, hsz, hs2, hg2⟩
  obtain ⟨b4, hb4⟩ : ∃ b4, w2.heap.size = b4 := ⟨_, rfl⟩
  have HD := hide (show DsR g Bc A n c code w (w2.alloc (.cells #[.int .i64 m, .string s] 26)) b4 m s from
    ⟨by rw [heap_alloc_old _ _ (Nat.lt_of_lt_of_le (Array.getElem?_eq_some_iff.1 HR1.out).1 hg2.size)]; exact (hg2.block _ (Array.getElem?_eq_some_iff.1 HR1.out).1 (by simp; omega)).trans HR1.out, by rw [← hb4]; exact heap_alloc_new w2 _,
     hs2.still (World.grownBy_alloc w2 _ none) (by simp), grown_trans (grown_trans HG1.out hg2) (World.grownBy_alloc w2 _ _), hg, by
      have := (Array.getElem?_eq_some_iff.1 HR1.out).1; have := hg2.size; omega⟩)
  clear hs2 hg2 HX
  go_wp2_with fail
  refine (next_any g Bc A n c code _ _ HD.out.src (by omega)).mono ?_
  rintro e w3 ⟨k, rfl, hk0, hk1, hs3, hg3⟩
  have HD3 := hide (HD.out.next hs3 hg3)
  have HSZ := hide hsz
  have hgb := HD.out.lt
  clear hs3 hg3 HD hb4 hsz hw1
  by_cases e0 : k = 0
  · subst e0
    go_wp2_with fail
    have HL := hide (heap_alloc_new w3 (.cells #[.int .i64 0, .int .i64 5, .int .i64 (-1)] 2))
    obtain ⟨wl, hwl⟩ : ∃ wl, w3.alloc (.cells #[.int .i64 0, .int .i64 5, .int .i64 (-1)] 2) = wl := ⟨_, rfl⟩
    have HDl := hide (show DsR g Bc A n c code w wl b4 m s by rw [← hwl]; exact HD3.out.below ((Below.refl _ _).alloc (Nat.le_refl _) _))
    rw [hwl] at HL ⊢
    have hbl : g < w3.heap.size := HD3.out.src.lt
    obtain ⟨bl, hbl2⟩ : ∃ bl, w3.heap.size = bl := ⟨_, rfl⟩
    rw [hbl2] at HL hbl ⊢
    clear hwl HD3
    refine (next_any g Bc A n c code _ _ HDl.out.src (by omega)).mono ?_
    rintro e w4 ⟨y3, rfl, hy30, hy31, hs4, hg4⟩
    obtain ⟨y3, rfl⟩ : ∃ q : Nat, y3 = q := ⟨y3.toNat, by omega⟩
    have HD4 := hide (HDl.out.next hs4 hg4)
    have HL4 := hide ((hg4.block bl (Array.getElem?_eq_some_iff.1 HL.out).1 (by simp; omega)).trans HL.out)
    obtain ⟨v, hv, hv0, hv1⟩ := three_cells HL4.out y3 (by omega)
    have hy3b : y3 < 3 := by omega
    clear hs4 hg4 HL HDl hy30 hy31 hbl2
    obtain ⟨c0, c1, c2, c3, f0, f1, f2, f3⟩ := HD4.out.see
    go_wp2_with fail
    have HDp := hide (HD4.out.put0 v)
    obtain ⟨q0, q1⟩ := HDp.out.out
    exact bodyPost_ret (v := .agg #[.int .i64 v, .string s]) (by simp [results, Try.results46, go_sem, q0, q1]) rfl (HDp.out.fin hv0 hv1 (by have := HSZ.out; omega))
  have k0 : (k == 0) = false := by simpa using e0
  by_cases e1 : k = 1
  · subst e1
    clear k0 e0
    obtain ⟨c0, c1, c2, c3, f0, f1, f2, f3⟩ := HD3.out.see
    obtain ⟨s2, hs2⟩ : ∃ s2, s ++ (⟨#[126]⟩ : ByteArray) = s2 := ⟨_, rfl⟩
    have HS2 := hide (show s2.size ≤ 1002 by rw [← hs2, ByteArray.size_append]; have := HSZ.out; show s.size + 1 ≤ 1002; omega)
    have HDp := hide (HD3.out.put1 s2)
    obtain ⟨d0, d1, d2, d3, g0, g1, g2, g3⟩ := HDp.out.see
    obtain ⟨q0, q1⟩ := HDp.out.out
    clear f2 f3 c2 c3
    have hz0 : ¬ 9223372036854775807 < s.size + 1 := by have := HSZ.out; omega
    go_wp2_with fail
    exact bodyPost_ret (v := .agg #[.int .i64 m, .string s2]) (by simp [results, Try.results46, go_sem, q0, q1]) rfl (HDp.out.fin (by omega) (by omega) HS2.out)
  have k1 : (k == 1) = false := by simpa using e1
  by_cases e2 : k = 2
  · subst e2
    clear k0 k1 e0 e1
    go_wp2_with fail
    refine (next_any g Bc A n c code _ _ HD3.out.src (by omega)).mono ?_
    rintro e w4 ⟨x, rfl, hx0, hx1, hs4, hg4⟩
    obtain ⟨x, rfl⟩ : ∃ q : Nat, x = q := ⟨x.toNat, by omega⟩
    have HD4 := hide (HD3.out.next hs4 hg4)
    have hx2 : x ≤ 1 := by omega
    have hwx : IntKind.i64.wrap (255 + (x : Int)) = ((255 + x : Nat) : Int) := by rw [IntWalk.i64_in _ ⟨by omega, by omega⟩]; omega
    obtain ⟨N, hN⟩ : ∃ N, 255 + x = N := ⟨_, rfl⟩
    rw [hN] at hwx
    have hN2 : N ≤ 256 := by omega
    clear hs4 hg4 HD3 hx0 hx1 hN hx2
    go_wp2_with (at_make; go_loud (refine wpList_mkN _ rfl _ _ _ rfl elem8 .i64 .i64 _ _ N rfl rfl rfl rfl (by omega) ?_; intro w5 hown hbel; have HD5 := hide (HD4.out.below hbel); have hconv := run_str w5 elem8 Try.underlying5 Try.underlying9 N (hown.ints' (by simp)); obtain ⟨s2, hs2⟩ : ∃ s2, strOf (List.replicate N 0) = s2 := ⟨_, rfl⟩; rw [hs2] at hconv; have HS2 := hide (show s2.size ≤ 1002 by rw [← hs2, strOf_size]; simp; omega); have HDp := hide (HD5.out.put1 s2); have HDq := hide (HDp.out.put0 4); obtain ⟨c0, c1, c2, c3, f0, f1, f2, f3⟩ := HD5.out.see; obtain ⟨d0, d1, d2, d3, g0, g1, g2, g3⟩ := HDp.out.see; obtain ⟨q0, q1⟩ := HDq.out.out; clear hown hbel hs2 HD4))
    exact bodyPost_ret (v := .agg #[.int .i64 4, .string s2]) (by simp [results, Try.results46, go_sem, q0, q1]) rfl (HDq.out.fin (by omega) (by omega) HS2.out)
  have k2 : (k == 2) = false := by simpa using e2
  obtain ⟨c0, c1, c2, c3, f0, f1, f2, f3⟩ := HD3.out.see
  obtain ⟨q0, q1⟩ := HD3.out.out
  go_wp2_with fail
  exact bodyPost_ret (v := .agg #[.int .i64 m, .string s]) (by simp [results, Try.results46, go_sem, q0, q1]) rfl (HD3.out.fin (by omega) (by omega) (by have := HSZ.out; omega))

def DrawnLG (w : World) (x : Ending) (w' : World) : Prop :=
  ∃ (zs : List Int) (v : Value) (m : Int) (s : ByteArray), x = .returned (.tuple #[v, .agg #[.int .i64 m, .string s]]) ∧ zs.length ≤ 10000 ∧ -1 ≤ m ∧ m ≤ 5 ∧ s.size ≤ 1002 ∧ Own w' w.heap.size 2 .i64 v zs ∧ Below w.heap.size w w'

set_option maxRecDepth 100000 in
set_option maxHeartbeats 2000000 in
theorem drawWriteSeg (A : Option Addr) (n c : Nat) (code : List Int) (w : World) (hI : Ints .u8 w w.heap.size A n code) (hn : n ≤ 4096) (hby : ∀ b ∈ code, 0 ≤ b ∧ b ≤ 255) :
    Calls Try.prog 13 #[.slice A n c] w (DrawnLG w) := by
  have HI := hide hI
  have HBY := hide hby
  have HX := hide (SBox.start w 26 0 ⟨#[]⟩)
  clear hI hby
  go_enter Try.func13, Try.ntmps13
  go_wp2_with fail
  obtain ⟨wa, hwa⟩ : ∃ wa, w.alloc (.cells #[.int .i64 0, .string ⟨#[]⟩] 26) = wa := ⟨_, rfl⟩
  rw [hwa] at HX ⊢
  have HBa := hide (show Below w.heap.size w wa by rw [← hwa]; exact (Below.refl _ _).alloc (Nat.le_refl _) _)
  have hla := HX.out.lt
  clear hwa
  refine (from_any A n c code wa ((HI.out.below HBa.out).more (by omega)) hn HBY.out).mono ?_
  rintro e w1 ⟨rfl, hs1, hb1⟩
  obtain ⟨g, hg⟩ : ∃ g, wa.heap.size = g := ⟨_, rfl⟩
  rw [hg] at hs1 hb1 ⊢
  have HS1 := hide hs1
  have HX1 := hide (HX.out.next (by rw [hg]; exact hb1))
  clear hs1 hb1 HX
  go_wp2_with fail
  refine (drawBits g g A n c code 12 w1 HS1.out (by omega) (by omega)).mono ?_
  rintro e w2 ⟨zs, v, rfl, hz, _, ho2, hs2, hg2⟩
  have hg1s := HS1.out.lt
  have HS2 := hide hs2
  have HX2 := hide (HX1.out.grow' hg2 (fun b hb => by cases hb; omega))
  have HO2 := hide ho2
  clear ho2 hs2 hg2
  go_wp2_with fail
  refine (drawSeg g g A n c code w2 HS2.out).mono ?_
  rintro e w3 ⟨m, s, rfl, hm0, hm1, hs, hs3, hg3⟩
  have HX3 := hide (HX2.out.grow' hg3 (fun b hb => by cases hb; omega))
  have HO3 := hide (HO2.out.grown hg3 (own_src HO2.out hg1s))
  have hlt1 := HX1.out.lt
  clear hs3 hg3 HX1 HX2 HO2
  obtain ⟨c0, c1⟩ := HX3.out.cells
  have f0 := frozen_of_row w3 w.heap.size 0 _ _ HX3.out.1
  have f1 := frozen_of_row w3 w.heap.size 1 _ _ HX3.out.1
  have h1 := heap_setCell_same w3 w.heap.size 0 _ _ (.int .i64 m) HX3.out.1
  have h2 := heap_setCell_same _ w.heap.size 1 _ _ (.string s) h1
  have q0 := cell_of_row _ w.heap.size 0 _ _ _ h2
  have q1 := cell_of_row _ w.heap.size 1 _ _ _ h2
  have HW := hide ((HX3.out.2.setCell (p := ⟨w.heap.size, 0, none⟩) (Nat.le_refl _) (.int .i64 m)).setCell (p := ⟨w.heap.size, 1, none⟩) (Nat.le_refl _) (.string s))
  have hgr : w3.grownBy ((w3.setCell ⟨w.heap.size, 0, none⟩ (.int .i64 m)).setCell ⟨w.heap.size, 1, none⟩ (.string s)) (some w.heap.size) :=
    ⟨rfl, rfl, rfl, by simp [World.setCell], fun i _ hne => (Below.heap_setCell _ ⟨w.heap.size, 1, none⟩ _ i (fun e => hne (by simp [e]))).trans (Below.heap_setCell w3 ⟨w.heap.size, 0, none⟩ _ i (fun e => hne (by simp [e])))⟩
  have HO4 := hide ((HO3.out.grown hgr (own_src HO3.out hlt1)).low (base' := w.heap.size) (by omega))
  clear h1 h2 hgr HO3
  go_wp2_with fail
  exact bodyPost_ret (v := .tuple #[v, .agg #[.int .i64 m, .string s]]) (by simp [results, Try.results13, go_sem, q0, q1]) rfl ⟨zs, v, m, s, rfl, hz, hm0, hm1, hs, HO4.out, HW.out⟩
end Go.Proofs.Ythmpfnbcodolcaa
