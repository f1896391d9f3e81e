/-
  The contract of the draw of indices: a new list; of the old memory only the source's own block changes.
  Condition: the code has at most 4096 bytes; the numbers of the code lie in bounds; at most 100 indices are asked for.
-/
import Derived.Test.YtpheembgjdgniaaCDraw4
namespace Go.Proofs.Ytpheembgjdgniaa
open Go.RowKit
set_option linter.unusedVariables false
set_option linter.unusedSimpArgs false

def IdRel (w : World) (p k γ L C : Int) (g Bc : Nat) (A : Option Addr) (n c : Nat) (code : List Int) (v a i : Value) (wr : World) : Prop :=
  ∃ (m : Nat) (x : Int) (zs : List Int), i = .int .i64 m ∧ a = .int .i64 x ∧ 0 ≤ x ∧ x ≤ 3010 ∧ m ≤ 100 ∧ Hid (zs.length + m ≤ 100) ∧ Own wr (w.heap.size + 1) 2 .i64 v zs ∧ Src wr g Bc A n c code ∧ CBs w wr p k γ L C g

set_option maxRecDepth 100000 in
set_option maxHeartbeats 8000000 in
theorem drawIndices (p k γ L C most : Int) (g Bc : Nat) (A : Option Addr) (n c : Nat) (code : List Int) (w : World) (hS : Src w g Bc A n c code) (hL0 : 0 ≤ L) (hL1 : L ≤ 3000) (hC0 : 0 ≤ C) (hC1 : C ≤ 3000) (hm0 : 0 ≤ most) (hm1 : most ≤ 100) :
    Calls Try.prog 54 #[.pointer (some ⟨g, 0, none⟩), .agg #[.int .i64 p, .int .i64 k, .int .i64 γ, .int .i64 L, .int .i64 C], .int .i64 most] w (DrawnL g Bc A n c code 101 w) := by
  have hgl := hS.lt
  have hne : g ≠ w.heap.size := by omega
  have HNE := hide hne
  have HX0 := hide (CBs.start w p k γ L C g)
  have HX := hide (HX0.out.alloc (.cells #[] 2))
  have HS := hide ((hS.still (World.grownBy_alloc w (.cells #[.int .i64 p, .int .i64 k, .int .i64 γ, .int .i64 L, .int .i64 C] 27) none) (by simp)).still (World.grownBy_alloc _ (.cells #[] 2) none) (by simp))
  have HO := hide (Own.lit0 (w.alloc (.cells #[.int .i64 p, .int .i64 k, .int .i64 γ, .int .i64 L, .int .i64 C] 27)) 2 .i64)
  rw [alloc_size] at HO
  clear hS hne HX0
  go_enter Try.func54, Try.ntmps54
  go_wp2_with fail
  refine (next_any g Bc A n c code 4 _ HS.out (by omega)).mono ?_
  rintro e w1 ⟨x, rfl, hx0, hx1, hs, hg⟩
  have HS1 := hide hs
  have HX1 := hide (HX.out.src hg HNE.out)
  have HO1 := hide (HO.out.grown hg (own_gap HO.out (by omega)))
  clear hs hg HS HX HO
  go_wp2_with fail
  refine (next_any g Bc A n c code (most + 1) _ HS1.out (by omega)).mono ?_
  rintro e w2 ⟨y, rfl, hy0, hy1, hs, hg⟩
  obtain ⟨y, rfl⟩ : ∃ m : Nat, y = m := ⟨y.toNat, by omega⟩
  have HS2 := hide hs
  have HX2 := hide (HX1.out.src hg HNE.out)
  have HO2 := hide (HO1.out.grown hg (own_gap HO1.out (by omega)))
  clear hs hg HS1 HX1 HO1
  go_wp2_with fail
  go_loopw [7, 8, 9] (fun v a i wr => IdRel w p k γ L C g Bc A n c code v a i wr) (fun _ _ i _ => (intOf i).toNat)
  case atStart => exact ⟨y, x, [], rfl, rfl, hx0, by omega, by omega, hide (by simp; omega), HO2.out, HS2.out, HX2.out⟩
  case round =>
    clear HX2 HS2 HO2 hx0 hx1 hy0 hy1
    obtain ⟨v, rfl⟩ : ∃ v : Value, v = u7 := ⟨_, rfl⟩
    obtain ⟨m, x, zs, rfl, rfl, hx0, hx1, hm100, HL, HO, HS, HX⟩ := hrel
    have HX := hide HX
    have HO := hide HO
    have HS := hide HS
    have HVG := hide (own_gap HO.out (B := g) (by omega))
    have HVB := hide (show ∀ b, v.ownBlock = some b → w.heap.size < b from fun b hb => (HO.out.lt hb).1)
    obtain ⟨c0, c1, c2, c3, c4⟩ := HX.out.cells
    rcases (show (0 < m ∧ x < L) ∨ ((decide (0 < m) = false ∨ (0 < m ∧ decide (x < L) = false)) ∧ ¬ (0 < m ∧ x < L)) by simp only [decide_eq_false_iff_not]; omega) with ⟨h1, h2⟩ | ⟨h1, h2⟩
    · have hlen : zs.length + 1 ≤ 1000 := by have := HL.out; omega
      have hwl : w.heap.size + 1 ≤ wr.heap.size := HX.out.lt
      have hw1 : IntKind.i64.wrap (x + 1) = x + 1 := IntWalk.i64_in _ ⟨by omega, by omega⟩
      go_wp2_with (at_builtin; refine wpList_app1 wr rfl _ _ _ rfl elem64 (w.heap.size + 1) v _ rfl HO.out x rfl (by omega) hwl ?_; intro v4 w4 hown hgrow)
      have HO4 := hide hown
      have HX4 := hide (HX.out.own hgrow HVB.out)
      have HS4 := hide (HS.out.still hgrow (fun r hr => Nat.lt_trans hgl (HVB.out r hr)))
      clear hown hgrow
      go_wp2_with fail
      refine (next_any g Bc A n c code 4 _ HS4.out (by omega)).mono ?_
      rintro e w5 ⟨z, rfl, hz0, hz1, hs, hg⟩
      have hw2 : IntKind.i64.wrap (x + 1 + z) = x + 1 + z := IntWalk.i64_in _ ⟨by omega, by omega⟩
      have HS5 := hide hs
      have HX5 := hide (HX4.out.src hg HNE.out)
      have HO5 := hide (HO4.out.grown hg (own_gap HO4.out (by omega)))
      clear hs hg
      go_wp2_with fail
      go_roundw
      case rel => exact ⟨m - 1, x + 1 + z, zs ++ [x], by simp; omega, rfl, by omega, by omega, by omega, hide (by have := HL.out; simp; omega), HO5.out, HS5.out, HX5.out⟩
      case measure => simp [intOf]; omega
    · obtain ⟨Av, cv, rfl, hcv⟩ := HO.out.form
      have hlz : zs.length ≤ 100 := by have := HL.out; omega
      clear HL h2
      all_goals
        rcases h1 with h1 | ⟨h1, h1'⟩
        all_goals
          go_wp2_with fail
          refine (next_any g Bc A n c code 40 _ HS.out (by omega)).mono ?_
          rintro e w3 ⟨y, rfl, hy0, hy1, hs, hg⟩
          have HS3 := hide hs
          have HX3 := hide (HX.out.src hg HNE.out)
          have HO3 := hide (HO.out.grown hg HVG.out)
          have hlen : zs.length + 1 ≤ 1000 := by omega
          have hwl : w.heap.size + 1 ≤ w3.heap.size := HX3.out.lt
          clear hs hg hy1 c0 c1 c2 c3 c4
          obtain ⟨c0, c1, c2, c3, c4⟩ := HX3.out.cells
          by_cases hy : y = 0
          · subst hy
            go_wp2_with (at_builtin; refine wpList_app1 w3 rfl _ _ _ rfl elem64 (w.heap.size + 1) (.slice Av zs.length cv) _ rfl HO3.out L rfl (by omega) hwl ?_; intro v4 w4 hown hgrow)
            have HO4 := hide hown
            have HX4 := hide (HX3.out.own hgrow HVB.out)
            have HS4 := hide (HS3.out.still hgrow (fun r hr => Nat.lt_trans hgl (HVB.out r hr)))
            have HLL := hide (show (zs ++ [L]).length ≤ 101 by simp; omega)
            clear hown hgrow
            go_wp2_with fail
            go_ret
            exact drawnL_of HO4.out HLL.out (Nat.le_succ _) HS4.out HX4.out.2
          · by_cases hy' : y = 1
            · subst hy'
              go_wp2_with (at_builtin; refine wpList_app1 w3 rfl _ _ _ rfl elem64 (w.heap.size + 1) (.slice Av zs.length cv) _ rfl HO3.out 0 rfl (by omega) hwl ?_; intro v4 w4 hown hgrow)
              have HO4 := hide hown
              have HX4 := hide (HX3.out.own hgrow HVB.out)
              have HS4 := hide (HS3.out.still hgrow (fun r hr => Nat.lt_trans hgl (HVB.out r hr)))
              have HLL := hide (show (zs ++ [(0 : Int)]).length ≤ 101 by simp; omega)
              clear hown hgrow
              go_wp2_with fail
              go_ret
              exact drawnL_of HO4.out HLL.out (Nat.le_succ _) HS4.out HX4.out.2
            · have e0 : (y == 0) = false := by simpa using hy
              have e1 : (y == 1) = false := by simpa using hy'
              clear hy hy'
              go_wp2_with fail
              go_ret
              exact drawnL_of HO3.out (by omega) (Nat.le_succ _) HS3.out HX3.out.2
end Go.Proofs.Ytpheembgjdgniaa
