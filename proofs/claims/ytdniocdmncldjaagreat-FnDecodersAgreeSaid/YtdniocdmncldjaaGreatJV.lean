/-
  The contract of the draw of indices: a new list; of the old memory only the source's own block changes.
  The contract of the draw of a code with a word and erasures: a new word and new indices; of the old memory only the source's own block changes.
  The contract of the draw of CorrectWord: some code, a word and erasures, no old memory changed.
  The contracts of the draws of CorrectByRegister and ErrorLocator: some code, a word and erasures, no old memory changed.
  Condition: as each statement says.
-/
import Derived.Test.YtdniocdmncldjaaGreatCDraw4
import Derived.Test.YtdniocdmncldjaaGreatCDraw6
namespace Go.Proofs.YtdniocdmncldjaaGreat
open Go.RowKit
set_option linter.unusedVariables false
set_option linter.unusedSimpArgs false

def IdRel (w : World) (p k γ L C : Int) (g Bc : Nat) (A : Option Addr) (n c : Nat) (code : List Int) (v a i : Value) (wr : World) : Prop :=
  ∃ (m : Nat) (x : Int) (zs : List Int), i = .int .i64 m ∧ a = .int .i64 x ∧ 0 ≤ x ∧ x ≤ 3010 ∧ m ≤ 100 ∧ Hid (zs.length + m ≤ 100) ∧ Own wr (w.heap.size + 1) 2 .i64 v zs ∧ Src wr g Bc A n c code ∧ CBs w wr p k γ L C g

set_option maxRecDepth 100000 in
set_option maxHeartbeats 8000000 in
theorem drawIndices (p k γ L C most : Int) (g Bc : Nat) (A : Option Addr) (n c : Nat) (code : List Int) (w : World) (hS : Src w g Bc A n c code) (hL0 : 0 ≤ L) (hL1 : L ≤ 3000) (hC0 : 0 ≤ C) (hC1 : C ≤ 3000) (hm0 : 0 ≤ most) (hm1 : most ≤ 100) :
    Calls Tryz.prog 35 #[.pointer (some ⟨g, 0, none⟩), .agg #[.int .i64 p, .int .i64 k, .int .i64 γ, .int .i64 L, .int .i64 C], .int .i64 most] w (DrawnL g Bc A n c code 101 w) := by
  have hgl := hS.lt
  have hne : g ≠ w.heap.size := by omega
  have HNE := hide hne
  have HX0 := hide (CBs.start w p k γ L C g)
  have HX := hide (HX0.out.alloc (.cells #[] 2))
  have HS := hide ((hS.still (World.grownBy_alloc w (.cells #[.int .i64 p, .int .i64 k, .int .i64 γ, .int .i64 L, .int .i64 C] 27) none) (by simp)).still (World.grownBy_alloc _ (.cells #[] 2) none) (by simp))
  have HO := hide (Own.lit0 (w.alloc (.cells #[.int .i64 p, .int .i64 k, .int .i64 γ, .int .i64 L, .int .i64 C] 27)) 2 .i64)
  rw [alloc_size] at HO
  clear hS hne HX0
  go_enter Tryz.func35, Tryz.ntmps35
  go_wp2_with fail
  refine (next_any g Bc A n c code 4 _ HS.out (by omega)).mono ?_
  rintro e w1 ⟨x, rfl, hx0, hx1, hs, hg⟩
  have HS1 := hide hs
  have HX1 := hide (HX.out.src hg HNE.out)
  have HO1 := hide (HO.out.grown hg (own_gap HO.out (by omega)))
  clear hs hg HS HX HO
  go_wp2_with fail
  refine (next_any g Bc A n c code (most + 1) _ HS1.out (by omega)).mono ?_
  rintro e w2 ⟨y, rfl, hy0, hy1, hs, hg⟩
  obtain ⟨y, rfl⟩ : ∃ m : Nat, y = m := ⟨y.toNat, by omega⟩
  have HS2 := hide hs
  have HX2 := hide (HX1.out.src hg HNE.out)
  have HO2 := hide (HO1.out.grown hg (own_gap HO1.out (by omega)))
  clear hs hg HS1 HX1 HO1
  go_wp2_with fail
  go_loopw [7, 8, 9] (fun v a i wr => IdRel w p k γ L C g Bc A n c code v a i wr) (fun _ _ i _ => (intOf i).toNat)
  case atStart => exact ⟨y, x, [], rfl, rfl, hx0, by omega, by omega, hide (by simp; omega), HO2.out, HS2.out, HX2.out⟩
  case round =>
    clear HX2 HS2 HO2 hx0 hx1 hy0 hy1
    obtain ⟨v, rfl⟩ : ∃ v : Value, v = u7 := ⟨_, rfl⟩
    obtain ⟨m, x, zs, rfl, rfl, hx0, hx1, hm100, HL, HO, HS, HX⟩ := hrel
    have HX := hide HX
    have HO := hide HO
    have HS := hide HS
    have HVG := hide (own_gap HO.out (B := g) (by omega))
    have HVB := hide (show ∀ b, v.ownBlock = some b → w.heap.size < b from fun b hb => (HO.out.lt hb).1)
    obtain ⟨c0, c1, c2, c3, c4⟩ := HX.out.cells
    rcases (show (0 < m ∧ x < L) ∨ ((decide (0 < m) = false ∨ (0 < m ∧ decide (x < L) = false)) ∧ ¬ (0 < m ∧ x < L)) by simp only [decide_eq_false_iff_not]; omega) with ⟨h1, h2⟩ | ⟨h1, h2⟩
    · have hlen : zs.length + 1 ≤ 1000 := by have := HL.out; omega
      have hwl : w.heap.size + 1 ≤ wr.heap.size := HX.out.lt
      have hw1 : IntKind.i64.wrap (x + 1) = x + 1 := IntWalk.i64_in _ ⟨by omega, by omega⟩
      go_wp2_with (at_builtin; refine wpList_app1 wr rfl _ _ _ rfl elem64 (w.heap.size + 1) v _ rfl HO.out x rfl (by omega) hwl ?_; intro v4 w4 hown hgrow)
      have HO4 := hide hown
      have HX4 := hide (HX.out.own hgrow HVB.out)
      have HS4 := hide (HS.out.still hgrow (fun r hr => Nat.lt_trans hgl (HVB.out r hr)))
      clear hown hgrow
      go_wp2_with fail
      refine (next_any g Bc A n c code 4 _ HS4.out (by omega)).mono ?_
      rintro e w5 ⟨z, rfl, hz0, hz1, hs, hg⟩
      have hw2 : IntKind.i64.wrap (x + 1 + z) = x + 1 + z := IntWalk.i64_in _ ⟨by omega, by omega⟩
      have HS5 := hide hs
      have HX5 := hide (HX4.out.src hg HNE.out)
      have HO5 := hide (HO4.out.grown hg (own_gap HO4.out (by omega)))
      clear hs hg
      go_wp2_with fail
      go_roundw
      case rel => exact ⟨m - 1, x + 1 + z, zs ++ [x], by simp; omega, rfl, by omega, by omega, by omega, hide (by have := HL.out; simp; omega), HO5.out, HS5.out, HX5.out⟩
      case measure => simp [intOf]; omega
    · obtain ⟨Av, cv, rfl, hcv⟩ := HO.out.form
      have hlz : zs.length ≤ 100 := by have := HL.out; omega
      clear HL h2
      all_goals
        rcases h1 with h1 | ⟨h1, h1'⟩
        all_goals
          go_wp2_with fail
          refine (next_any g Bc A n c code 40 _ HS.out (by omega)).mono ?_
          rintro e w3 ⟨y, rfl, hy0, hy1, hs, hg⟩
          have HS3 := hide hs
          have HX3 := hide (HX.out.src hg HNE.out)
          have HO3 := hide (HO.out.grown hg HVG.out)
          have hlen : zs.length + 1 ≤ 1000 := by omega
          have hwl : w.heap.size + 1 ≤ w3.heap.size := HX3.out.lt
          clear hs hg hy1 c0 c1 c2 c3 c4
          obtain ⟨c0, c1, c2, c3, c4⟩ := HX3.out.cells
          by_cases hy : y = 0
          · subst hy
            go_wp2_with (at_builtin; refine wpList_app1 w3 rfl _ _ _ rfl elem64 (w.heap.size + 1) (.slice Av zs.length cv) _ rfl HO3.out L rfl (by omega) hwl ?_; intro v4 w4 hown hgrow)
            have HO4 := hide hown
            have HX4 := hide (HX3.out.own hgrow HVB.out)
            have HS4 := hide (HS3.out.still hgrow (fun r hr => Nat.lt_trans hgl (HVB.out r hr)))
            have HLL := hide (show (zs ++ [L]).length ≤ 101 by simp; omega)
            clear hown hgrow
            go_wp2_with fail
            go_ret
            exact drawnL_of HO4.out HLL.out (Nat.le_succ _) HS4.out HX4.out.2
          · by_cases hy' : y = 1
            · subst hy'
              go_wp2_with (at_builtin; refine wpList_app1 w3 rfl _ _ _ rfl elem64 (w.heap.size + 1) (.slice Av zs.length cv) _ rfl HO3.out 0 rfl (by omega) hwl ?_; intro v4 w4 hown hgrow)
              have HO4 := hide hown
              have HX4 := hide (HX3.out.own hgrow HVB.out)
              have HS4 := hide (HS3.out.still hgrow (fun r hr => Nat.lt_trans hgl (HVB.out r hr)))
              have HLL := hide (show (zs ++ [(0 : Int)]).length ≤ 101 by simp; omega)
              clear hown hgrow
              go_wp2_with fail
              go_ret
              exact drawnL_of HO4.out HLL.out (Nat.le_succ _) HS4.out HX4.out.2
            · have e0 : (y == 0) = false := by simpa using hy
              have e1 : (y == 1) = false := by simpa using hy'
              clear hy hy'
              go_wp2_with fail
              go_ret
              exact drawnL_of HO3.out (by omega) (Nat.le_succ _) HS3.out HX3.out.2
end Go.Proofs.YtdniocdmncldjaaGreat

namespace Go.Proofs.YtdniocdmncldjaaGreat
open Go.RowKit
set_option linter.unusedSimpArgs false
set_option linter.unusedVariables false

/-- In a draw that was given its source: the source, the block of the result that is still 0, the block of the code. -/
def Wst (w : World) (g Bc : Nat) (A : Option Addr) (n c : Nat) (code : List Int) (N : Nat) (p k γ L C : Int) (wr : World) : Prop :=
  Src wr g Bc A n c code ∧ Row5 wr w.heap.size 0 0 0 0 0 ∧ Row5 wr N p k γ L C ∧ w.grownBy wr (some g) ∧ g < w.heap.size ∧ w.heap.size < N
section
variable {w wr wr' : World} {g Bc n c N : Nat} {A : Option Addr} {code : List Int} {p k γ L C : Int}
theorem Wst.lt (h : Wst w g Bc A n c code N p k γ L C wr) : N < wr.heap.size := h.2.2.1.lt
theorem Wst.src (h : Wst w g Bc A n c code N p k γ L C wr) (hs : Src wr' g Bc A n c code) (hg : wr.grownBy wr' (some g)) : Wst w g Bc A n c code N p k γ L C wr' :=
  ⟨hs, h.2.1.src hg (by have := h.2.2.2.2; omega), h.2.2.1.src hg (by have := h.2.2.2.2; omega), grown_trans h.2.2.2.1 hg, h.2.2.2.2⟩
theorem Wst.next (h : Wst w g Bc A n c code N p k γ L C wr) (hb : Below wr.heap.size wr wr') : Wst w g Bc A n c code N p k γ L C wr' :=
  ⟨h.1.below hb h.1.lt, h.2.1.below hb, h.2.2.1.below hb, grown_below h.2.2.2.1 hb h.2.2.2.1.size, h.2.2.2.2⟩
theorem Wst.drew (h : Wst w g Bc A n c code N p k γ L C wr) : Wst w g Bc A n c code N p k γ L C wr.drew := ⟨h.1, h.2.1, h.2.2.1, grown_drew h.2.2.2.1, h.2.2.2.2⟩
theorem Wst.own {row : Option Nat} (h : Wst w g Bc A n c code N p k γ L C wr) (hg : wr.grownBy wr' row) (hr : ∀ b, row = some b → N < b) : Wst w g Bc A n c code N p k γ L C wr' :=
  ⟨h.1.still hg (fun r hr' => by have := hr r hr'; have := h.2.2.2.2; omega), h.2.1.own hg (fun b hb => by have := hr b hb; have := h.2.2.2.2; omega), h.2.2.1.own hg hr,
   ⟨hg.os.trans h.2.2.2.1.os, hg.tape.trans h.2.2.2.1.tape, hg.output.trans h.2.2.2.1.output, Nat.le_trans h.2.2.2.1.size hg.size, fun i hi hne => (hg.block i (Nat.lt_of_lt_of_le hi h.2.2.2.1.size) (fun e => by have := hr _ e.symm; have := h.2.2.2.2; omega)).trans (h.2.2.2.1.block i hi hne)⟩, h.2.2.2.2⟩
theorem Wst.cells (h : Wst w g Bc A n c code N p k γ L C wr) : wr.cell? ⟨N, 0, none⟩ = some (.int .i64 p) ∧ wr.cell? ⟨N, 1, none⟩ = some (.int .i64 k) ∧ wr.cell? ⟨N, 2, none⟩ = some (.int .i64 γ) ∧ wr.cell? ⟨N, 3, none⟩ = some (.int .i64 L) ∧ wr.cell? ⟨N, 4, none⟩ = some (.int .i64 C) :=
  ⟨(row5 h.2.2.1).1, (row5 h.2.2.1).2.1, (row5 h.2.2.1).2.2.1, (row5 h.2.2.1).2.2.2.1, (row5 h.2.2.1).2.2.2.2.1⟩
end
/-- What a draw of a code, a word and erasures leaves. -/
def DrawnW (g Bc : Nat) (A : Option Addr) (n c : Nat) (code : List Int) (w : World) (x : Ending) (w' : World) : Prop :=
  ∃ (p k γ L C : Int) (zs : List Int) (A1 : Option Addr) (c1 : Nat) (es : List Int) (A2 : Option Addr) (c2 : Nat), x = .returned (.tuple #[.agg #[.int .i64 p, .int .i64 k, .int .i64 γ, .int .i64 L, .int .i64 C], .slice A1 zs.length c1, .slice A2 es.length c2]) ∧
    InB L C ∧ zs.length ≤ 400 ∧ es.length ≤ 400 ∧ Own w' w.heap.size 2 .i64 (.slice A1 zs.length c1) zs ∧ Own w' w.heap.size 2 .i64 (.slice A2 es.length c2) es ∧ Src w' g Bc A n c code ∧ w.grownBy w' (some g)

theorem quoI {x a : Int} (h0 : -3800 ≤ x) (h1 : x ≤ 3800) : ∃ y : Int, -1900 ≤ y ∧ y ≤ 1900 ∧ IntKind.i64.wrap (x.tdiv 2) = y := by
  have h2 : x.tdiv 2 ≤ 1900 := by rcases Int.le_total 0 x with h | h; rw [Int.tdiv_eq_ediv_of_nonneg h]; omega; have := Int.neg_tdiv (a := x) (b := 2); have h3 := Int.tdiv_eq_ediv_of_nonneg (a := -x) (b := 2) (by omega); omega
  have h3 : -1900 ≤ x.tdiv 2 := by rcases Int.le_total 0 x with h | h; rw [Int.tdiv_eq_ediv_of_nonneg h]; omega; have := Int.neg_tdiv (a := x) (b := 2); have h3 := Int.tdiv_eq_ediv_of_nonneg (a := -x) (b := 2) (by omega); omega
  exact ⟨_, h3, h2, IntWalk.i64_in _ ⟨by omega, by omega⟩⟩
theorem quo4 {x : Int} (h0 : 0 ≤ x) (h1 : x < 5) : ∃ y : Int, 0 ≤ y ∧ y ≤ 1 ∧ IntKind.i64.wrap (x.tdiv 4) = y :=
  ⟨x / 4, by omega, by omega, by rw [Int.tdiv_eq_ediv_of_nonneg h0, IntWalk.i64_in _ ⟨by omega, by omega⟩]⟩

def DwdRel (w : World) (g Bc : Nat) (A : Option Addr) (n c : Nat) (code : List Int) (N B3 : Nat) (p k γ L C : Int) (A3 : Option Addr) (lw c3 : Nat) (A2 : Option Addr) (c2 : Nat) (es : List Int) (i : Value) (wr : World) : Prop :=
  ∃ (j : Nat) (zs : List Int), j ≤ es.length ∧ i = .int .i64 j ∧ Hid (zs.length = lw) ∧ Own wr B3 2 .i64 (.slice A3 lw c3) zs ∧ Own wr N 2 .i64 (.slice A2 es.length c2) es ∧ Wst w g Bc A n c code N p k γ L C wr

set_option maxRecDepth 100000 in
set_option maxHeartbeats 8000000 in
theorem drawWd (g Bc : Nat) (A : Option Addr) (n c : Nat) (code : List Int) (w : World) (hS : Src w g Bc A n c code) :
    Calls Tryz.prog 17 #[.pointer (some ⟨g, 0, none⟩)] w (DrawnW g Bc A n c code w) := by
  have hgl := hS.lt
  have HS := hide ((hS.still (World.grownBy_alloc w (.cells #[.int .i64 0, .int .i64 0, .int .i64 0, .int .i64 0, .int .i64 0] 27) none) (by simp)))
  have HZ := hide (Row5.start w 0 0 0 0 0)
  clear hS
  go_enter Tryz.func17, Tryz.ntmps17
  go_wp2_with fail
  refine (drawCodeAny g Bc A n c code _ HS.out).mono ?_
  rintro e w1 ⟨p, k, γ, L, C, rfl, hv, hL0, hL1, hC0, hC1, hs, hg⟩
  have HW1 := hide (show Wst w g Bc A n c code w1.heap.size p k γ L C (w1.alloc (.cells #[.int .i64 p, .int .i64 k, .int .i64 γ, .int .i64 L, .int .i64 C] 27)) from
    ⟨hs.still (World.grownBy_alloc w1 _ none) (by simp), (HZ.out.src hg (by omega)).alloc _, Row5.start w1 p k γ L C, grown_alloc (grown_trans (World.grownBy_alloc w _ (some g)) hg) _, hgl, (HZ.out.src hg (by omega)).lt⟩)
  have HIB := hide (show InB L C from ⟨hL0, hL1, hC0, hC1⟩)
  have hCb : -9223372036854775808 ≤ C ∧ C ≤ 9223372036854775807 := by omega
  clear hs hg HS HZ hv
  go_wp2_with fail
  generalize w1.alloc (.cells #[.int .i64 p, .int .i64 k, .int .i64 γ, .int .i64 L, .int .i64 C] 27) = ws at HW1 ⊢
  generalize w1.heap.size = N at HW1 ⊢
  have hgN : g < N := by have := HW1.out.2.2.2.2; omega
  obtain ⟨d0, d1, d2, d3, d4⟩ := HW1.out.cells
  go_wp2_with fail
  refine (drawIndices p k γ L C (min C 5) g Bc A n c code _ HW1.out.1 hL0 hL1 hC0 hC1 (by omega) (by omega)).mono ?_
  rintro e w2 ⟨es, A2, c2, rfl, hel, ho, hs, hg⟩
  have HW2 := hide (HW1.out.src hs hg)
  have HE2 := hide (ho.low (base' := N) (Nat.le_of_lt HW1.out.lt))
  have HEG := hide (show (Value.slice A2 es.length c2).ownBlock = none ∨ (Value.slice A2 es.length c2).ownBlock ≠ some g from own_gap HE2.out hgN)
  have HEB := hide (show ∀ b, (Value.slice A2 es.length c2).ownBlock = some b → b < w2.heap.size from fun b hb => (ho.lt hb).2)
  clear ho hs hg d0 d1 d2 d3 d4 HW1
  obtain ⟨d0, d1, d2, d3, d4⟩ := HW2.out.cells
  have hwA : IntKind.i64.wrap (C - (es.length : Int)) = C - (es.length : Int) := IntWalk.i64_in _ ⟨by omega, by omega⟩
  obtain ⟨q, hq0, hq1, hqw⟩ := quoI (x := C - (es.length : Int)) (a := 0) (by omega) (by omega)
  go_wp2_with fail
  go_region_held3 (fun w' => w'.cell? ⟨N, 0, none⟩ = some (.int .i64 p) ∧ w'.cell? ⟨N, 1, none⟩ = some (.int .i64 k) ∧ w'.cell? ⟨N, 2, none⟩ = some (.int .i64 γ) ∧ w'.cell? ⟨N, 3, none⟩ = some (.int .i64 L) ∧ w'.cell? ⟨N, 4, none⟩ = some (.int .i64 C))
    (first
      | exact HW2.out.drew.cells
      | exact HWa.out.cells
      | exact HWb.out.cells
      | go_keep)
    (first
      | (go_at_call 36; have hm1 := HMa; refine (drawWord p k γ L C (max 0 q + y4) g Bc A n c code _ HWa.out.1 hL0 hL1 hC0 hC1 (by omega) (by omega)).mono ?_; rintro e wb ⟨zs, A3, c3, rfl, hzl, ho, hs, hg⟩; have HWb := hide (HWa.out.src hs hg); have HOb := hide ho; have HEb := hide (HEa.out.grown hg HEG.out); clear ho hs hg)
      | (go_at_call 37; refine (next_any g Bc A n c code 5 _ HW2.out.drew.1 (by omega)).mono ?_; rintro e wa ⟨r, rfl, hr0, hr1, hs, hg⟩; obtain ⟨y4, hy40, hy41, hyw⟩ := quo4 hr0 (by omega); have hw5 : IntKind.i64.wrap (max 0 q + y4) = max 0 q + y4 := IntWalk.i64_in _ ⟨by omega, by omega⟩; have HWa := hide (HW2.out.drew.src hs hg); have HEa := hide (HE2.out.drew.grown hg HEG.out); have HSa := hide hg.size; have HMa : True := trivial; clear hs hg))
  all_goals
    have HB3 := hide (show ∀ b, (Value.slice A2 es.length c2).ownBlock = some b → b < wa.heap.size from fun b hb => Nat.lt_of_lt_of_le (HEB.out b hb) HSa.out)
    have HN3 := hide (show N < wa.heap.size from HWa.out.lt)
    have hlw : zs.length ≤ 400 := hzl
    obtain ⟨lw, hlz⟩ : ∃ lw, lw = zs.length := ⟨_, rfl⟩
    have HOz := hide HOb.out
    have HLZ := hide hlz.symm
    rw [← hlz] at HOz hlw ⊢
    clear HEB HSa HWa HEa HMa hm1 HOb hlz hzl HW2 HE2 d0 d1 d2 d3 d4 hwA hq0 hq1 hqw hr0 hr1 hy40 hy41 hyw hw5
    generalize wa.heap.size = B3 at HB3 HN3 HOz
    go_wp2_with fail
    go_loopw [8] (fun i wr => DwdRel w g Bc A n c code N B3 p k γ L C A3 lw c3 A2 c2 es i wr) (fun i _ => es.length - (intOf i).toNat)
    case atStart => exact ⟨0, zs, Nat.zero_le _, rfl, HLZ, HOz.out, HEb.out, HWb.out⟩
    case round =>
      clear HWb HOz HEb HLZ
      obtain ⟨j, vs, hj, rfl, HL, HO, HE, HW⟩ := hrel
      have HO := hide HO
      have HE := hide HE
      have HW := hide HW
      have HLV := hide HL.out
      obtain ⟨d0, d1, d2, d3, d4⟩ := HW.out.cells
      by_cases hlt : j < es.length
      · obtain ⟨gE, cE, he, hE1, hE2, hcE⟩ := HE.out.some_ (by omega)
        simp only [Value.slice.injEq] at he
        obtain ⟨rfl, -, rfl⟩ := he
        obtain ⟨x, hx⟩ : ∃ x, es[j]? = some x := ⟨_, List.getElem?_eq_getElem hlt⟩
        have HXX := hide hx
        clear hE1 hE2 hcE hx
        rcases hcb : codeB p k γ L C with _ | _
        · have HB := hide hcb
          clear hcb
          go_wp2_with fail
          refine (specIsCode p k γ L C _ hCb).mono ?_
          rw [HB.out]
          rintro e w5 ⟨rfl, hb5⟩
          have HW5 := hide (HW.out.next hb5)
          have HO5 := hide (HO.out.below hb5 (Nat.le_refl _))
          have HE5 := hide (HE.out.below hb5 (Nat.le_refl _))
          clear hb5
          go_wp2_with fail
          go_roundw
          case rel => exact ⟨j + 1, vs, hlt, by go_num, HLV, HO5.out, HE5.out, HW5.out⟩
          case measure => simp [intOf]; omega
        · have HB := hide hcb
          obtain ⟨R, γ', l, c', rfl, rfl, hc⟩ := codeB_open hcb
          clear hcb
          have hK := hc.fld.kind
          have hqb := hK.big
          go_wp2_with fail
          refine (specIsCode p k γ l c' _ hCb).mono ?_
          rw [HB.out]
          rintro e w5 ⟨rfl, hb5⟩
          have HW5 := hide (HW.out.next hb5)
          have HO5 := hide (HO.out.below hb5 (Nat.le_refl _))
          have HE5 := hide (HE.out.below hb5 (Nat.le_refl _))
          have hcx := HE5.out.cellAt HXX.out
          clear hb5 d0 d1 d2 d3 d4
          obtain ⟨d0, d1, d2, d3, d4⟩ := HW5.out.cells
          go_wp2_with fail
          refine (specIn x 0 ((lw : Int) - 1) _).mono ?_
          rcases (show (0 ≤ x ∧ x ≤ (lw : Int) - 1) ∨ (x < 0 ∨ (lw : Int) - 1 < x) by omega) with hin | hin
          · rw [inR_yes hin.1 hin.2]
            rintro e w6 ⟨rfl, rfl⟩
            obtain ⟨t, rfl⟩ : ∃ t : Nat, x = t := ⟨x.toNat, by omega⟩
            have htl : t < lw := by omega
            obtain ⟨gW, cw, he, hg1, hg2, hcw⟩ := HO5.out.some_ (by rw [HLV.out]; omega)
            simp only [Value.slice.injEq] at he
            obtain ⟨rfl, -, rfl⟩ := he
            have HGW := hide hg1
            have hgW : N < gW := Nat.lt_of_lt_of_le HN3.out hg1
            have HVG := hide (own_gap HO5.out (B := g) (Nat.lt_trans hgN HN3.out))
            have HVE := hide (show (Value.slice (some ⟨gE, 0, none⟩) es.length c2).ownBlock = none ∨ (Value.slice (some ⟨gE, 0, none⟩) es.length c2).ownBlock ≠ some gW by
              rcases hv : (Value.slice (some ⟨gE, 0, none⟩) es.length c2).ownBlock with _ | b'
              · exact .inl rfl
              · refine .inr fun e => ?_
                injection e with e
                have := HB3.out b' hv
                have := HGW.out
                omega)
            have hti : (t : Int) < (lw : Int) := by omega
            clear hg1 hg2 hcw HW HO HE
            go_wp2_with fail
            go_region_held3 (fun w' => w'.cell? ⟨N, 0, none⟩ = some (.int .i64 p) ∧ w'.cell? ⟨N, 1, none⟩ = some (.int .i64 k) ∧ w'.cell? ⟨N, 2, none⟩ = some (.int .i64 γ) ∧ w'.cell? ⟨gE, j, none⟩ = some (.int .i64 (t : Int)))
              (first
                | exact ⟨HW5.out.drew.cells.1, HW5.out.drew.cells.2.1, HW5.out.drew.cells.2.2.1, HE5.out.drew.cellAt HXX.out⟩
                | exact ⟨HWa.out.cells.1, HWa.out.cells.2.1, HWa.out.cells.2.2.1, HEa.out.cellAt HXX.out⟩
                | exact ⟨HWc.out.cells.1, HWc.out.cells.2.1, HWc.out.cells.2.2.1, HEc.out.cellAt HXX.out⟩
                | exact ⟨HWd.out.cells.1, HWd.out.cells.2.1, HWd.out.cells.2.2.1, HEd.out.cellAt HXX.out⟩
                | go_keep)
              (first
                | (go_at_call 37; have hm1 := HMa; refine (next_any g Bc A n c code (R.q : Int) _ HWa.out.1 (by omega)).mono ?_; rintro e wc ⟨z, rfl, hz0, hz1, hs, hg⟩; have HWc := hide (HWa.out.src hs hg); have HOc := hide (HOa.out.grown hg HVG.out); have HEc := hide (HEa.out.grown hg HEG.out); have hfx := HOc.out.frozenAt t; obtain ⟨u, hcw⟩ : ∃ u : Int, wc.cell? ⟨gW, t, none⟩ = some (.int .i64 u) := ⟨_, HOc.out.cellAt (j := t) (List.getElem?_eq_getElem (by rw [HLV.out]; exact htl))⟩; have HOd := hide (HOc.out.stored t z).1; have HGd := hide (HOc.out.stored t z).2; have HWd := hide (HWc.out.own HGd.out (fun b hb => by injection hb with hb; rw [← hb]; exact hgW)); have HEd := hide (HEc.out.grown HGd.out HVE.out); clear hs hg)
                | (go_at_call 40; refine (specSize hK _).mono ?_; rintro e wa ⟨rfl, hb⟩; have HWa := hide (HW5.out.drew.next hb); have HOa := hide (HO5.out.drew.below hb (Nat.le_refl _)); have HEa := hide (HE5.out.drew.below hb (Nat.le_refl _)); have HMa : True := trivial; clear hb))
            all_goals
              have HLd := hide (show (vs.set t z).length = lw by rw [List.length_set]; exact HLV.out)
              go_wp2_with fail
              go_roundw
              case rel => exact ⟨j + 1, vs.set t z, hlt, by go_num, HLd, HOd.out, HEd.out, HWd.out⟩
              case measure => simp [intOf]; omega
          · rw [inR_no hin]
            rintro e w6 ⟨rfl, rfl⟩
            clear hcx
            go_wp2_with fail
            go_roundw
            case rel => exact ⟨j + 1, vs, hlt, by go_num, HLV, HO5.out, HE5.out, HW5.out⟩
            case measure => simp [intOf]; omega
      · have hd : decide (j < es.length) = false := by simpa using hlt
        obtain ⟨z0, z1, z2, z3, z4, f0, f1, f2, f3, f4⟩ := row5 HW.out.2.1
        clear hlt
        go_wp2_with fail
        have HLQ := HLV.out
        subst HLQ
        refine bodyPost_ret (v := .tuple #[.agg #[.int .i64 p, .int .i64 k, .int .i64 γ, .int .i64 L, .int .i64 C], .slice A3 vs.length c3, .slice A2 es.length c2]) (by simp [results, Tryz.results17, go_sem, z0, z1, z2, z3, z4]) rfl ?_
        have hN := HW.out.2.2.2.2
        have hN3 := HN3.out
        exact ⟨p, k, γ, L, C, vs, A3, c3, es, A2, c2, rfl, HIB.out, hlw, by omega, (HO.out.set5 (by omega) _ _ _ _ _).low (by omega), (HE.out.set5 (by omega) _ _ _ _ _).low (by omega), src_sets HW.out.1 hgl _ _ _ _ _, grown_sets HW.out.2.2.2.1 _ (Nat.le_refl _) _ _ _ _ _⟩
end Go.Proofs.YtdniocdmncldjaaGreat

namespace Go.Proofs.YtdniocdmncldjaaGreat
open Go.RowKit
set_option linter.unusedSimpArgs false
set_option linter.unusedVariables false

end Go.Proofs.YtdniocdmncldjaaGreat

namespace Go.Proofs.YtdniocdmncldjaaGreat
open Go.RowKit
set_option linter.unusedSimpArgs false
set_option linter.unusedVariables false

set_option maxRecDepth 100000 in
set_option maxHeartbeats 8000000 in
theorem drawCbr (A : Option Addr) (n c : Nat) (code : List Int) (w : World) (hI : Ints .u8 w w.heap.size A n code) (hn : n ≤ 4096) (hby : ∀ b ∈ code, 0 ≤ b ∧ b ≤ 255) :
    Calls Tryz.prog 6 #[.slice A n c] w (DrawnCLL w) := by
  have HI := hide ((hI.below ((Below.refl _ _).alloc (Nat.le_refl _) (.cells #[.int .i64 0, .int .i64 0, .int .i64 0, .int .i64 0, .int .i64 0] 27))).more (B' := (w.alloc (.cells #[.int .i64 0, .int .i64 0, .int .i64 0, .int .i64 0, .int .i64 0] 27)).heap.size) (by rw [alloc_size]; omega))
  have HBY := hide hby
  have HZ := hide (Row5.start w 0 0 0 0 0)
  clear hI hby
  go_enter Tryz.func6, Tryz.ntmps6
  go_wp2_with fail
  refine (from_any A n c code _ HI.out hn HBY.out).mono ?_
  rintro e w1 ⟨rfl, hs, hb⟩
  have HZ1 := hide (HZ.out.below hb)
  have HB1 := hide (((Below.refl w.heap.size w).alloc (Nat.le_refl _) _).trans (hb.mono (by rw [alloc_size]; omega)))
  have hg1 : (w.alloc (.cells #[.int .i64 0, .int .i64 0, .int .i64 0, .int .i64 0, .int .i64 0] 27)).heap.size = w.heap.size + 1 := alloc_size _ _
  generalize (w.alloc (.cells #[.int .i64 0, .int .i64 0, .int .i64 0, .int .i64 0, .int .i64 0] 27)).heap.size = g at hs hg1 ⊢
  have hgN : w.heap.size < g := by omega
  have HS1 := hide hs
  clear hs hb hg1 HI HZ
  go_wp2_with fail
  refine (drawWd g _ A n c code _ HS1.out).mono ?_
  rintro e w2 ⟨p, k, γ, L, C, zs, A1, c1, es, A2, c2, rfl, hib, hl1, hl2, ho1, ho2, hs, hg⟩
  have HZ2 := hide (HZ1.out.src hg (by omega))
  have HB2 := hide (below_grown HB1.out hg (by omega))
  have HO1 := hide (ho1.low (base' := w.heap.size + 1) HZ1.out.lt)
  have HO2 := hide (ho2.low (base' := w.heap.size + 1) HZ1.out.lt)
  have HIB := hide hib
  obtain ⟨z0, z1, z2, z3, z4, f0, f1, f2, f3, f4⟩ := row5 HZ2.out
  clear ho1 ho2 hs hg hib HS1 HZ1 HB1
  go_wp2_with fail
  refine bodyPost_ret (v := .tuple #[.agg #[.int .i64 p, .int .i64 k, .int .i64 γ, .int .i64 L, .int .i64 C], .slice A1 zs.length c1, .slice A2 es.length c2]) (by simp [results, Tryz.results6, go_sem, z0, z1, z2, z3, z4]) rfl ?_
  exact ⟨p, k, γ, L, C, zs, A1, c1, es, A2, c2, rfl, HIB.out.1, HIB.out.2.1, HIB.out.2.2.1, HIB.out.2.2.2, hl1, hl2, own_cap HO1.out, own_cap HO2.out, (HO1.out.set5 (Nat.lt_succ_self _) _ _ _ _ _).ints, (HO2.out.set5 (Nat.lt_succ_self _) _ _ _ _ _).ints, below_sets HB2.out _ _ _ _ _⟩

set_option maxRecDepth 100000 in
set_option maxHeartbeats 8000000 in
theorem drawElo (A : Option Addr) (n c : Nat) (code : List Int) (w : World) (hI : Ints .u8 w w.heap.size A n code) (hn : n ≤ 4096) (hby : ∀ b ∈ code, 0 ≤ b ∧ b ≤ 255) :
    Calls Tryz.prog 11 #[.slice A n c] w (DrawnCL w) := by
  have HI := hide ((hI.below ((Below.refl _ _).alloc (Nat.le_refl _) (.cells #[.int .i64 0, .int .i64 0, .int .i64 0, .int .i64 0, .int .i64 0] 27))).more (B' := (w.alloc (.cells #[.int .i64 0, .int .i64 0, .int .i64 0, .int .i64 0, .int .i64 0] 27)).heap.size) (by rw [alloc_size]; omega))
  have HBY := hide hby
  have HZ := hide (Row5.start w 0 0 0 0 0)
  clear hI hby
  go_enter Tryz.func11, Tryz.ntmps11
  go_wp2_with fail
  refine (from_any A n c code _ HI.out hn HBY.out).mono ?_
  rintro e w1 ⟨rfl, hs, hb⟩
  have HZ1 := hide (HZ.out.below hb)
  have HB1 := hide (((Below.refl w.heap.size w).alloc (Nat.le_refl _) _).trans (hb.mono (by rw [alloc_size]; omega)))
  have hg1 : (w.alloc (.cells #[.int .i64 0, .int .i64 0, .int .i64 0, .int .i64 0, .int .i64 0] 27)).heap.size = w.heap.size + 1 := alloc_size _ _
  generalize (w.alloc (.cells #[.int .i64 0, .int .i64 0, .int .i64 0, .int .i64 0, .int .i64 0] 27)).heap.size = g at hs hg1 ⊢
  have hgN : w.heap.size < g := by omega
  have HS1 := hide hs
  clear hs hb hg1 HI HZ
  go_wp2_with fail
  refine (drawWd g _ A n c code _ HS1.out).mono ?_
  rintro e w2 ⟨p, k, γ, L, C, zs, A1, c1, es, A2, c2, rfl, hib, hl1, hl2, ho1, ho2, hs, hg⟩
  have hgs : g < w2.heap.size := hs.lt
  have hb3 : Below w2.heap.size w2 (w2.alloc (.cells #[.int .i64 p, .int .i64 k, .int .i64 γ, .int .i64 L, .int .i64 C] 27)) := (Below.refl _ _).alloc (Nat.le_refl _) _
  have HZ2 := hide ((HZ1.out.src hg (by omega)).alloc (.cells #[.int .i64 p, .int .i64 k, .int .i64 γ, .int .i64 L, .int .i64 C] 27))
  have HB2 := hide ((below_grown HB1.out hg (by omega)).trans (hb3.mono (Nat.le_of_lt (HZ1.out.src hg (by omega)).lt)))
  have HO1 := hide ((ho1.below hb3 (Nat.le_refl _)).low (base' := w.heap.size + 1) HZ1.out.lt)
  have HN2 := hide (Row5.start w2 p k γ L C)
  have HIB := hide hib
  obtain ⟨z0, z1, z2, z3, z4, f0, f1, f2, f3, f4⟩ := row5 HZ2.out
  obtain ⟨d0, d1, d2, d3, d4, -, -, -, -, -⟩ := row5 HN2.out
  clear ho1 ho2 hs hg hib HS1 HZ1 HB1 hb3
  go_wp2_with fail
  refine bodyPost_ret (v := .tuple #[.agg #[.int .i64 p, .int .i64 k, .int .i64 γ, .int .i64 L, .int .i64 C], .slice A1 zs.length c1]) (by simp [results, Tryz.results11, go_sem, z0, z1, z2, z3, z4]) rfl ?_
  exact ⟨p, k, γ, L, C, zs, A1, c1, rfl, HIB.out.1, HIB.out.2.1, HIB.out.2.2.1, HIB.out.2.2.2, hl1, own_cap HO1.out, (HO1.out.set5 (Nat.lt_succ_self _) _ _ _ _ _).ints, below_sets HB2.out _ _ _ _ _⟩
end Go.Proofs.YtdniocdmncldjaaGreat
