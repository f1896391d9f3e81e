/-
  The contract of the draw of a message of a code: a new list; of the old memory only the source's own block changes.
  Condition: the code has at most 4096 bytes; the numbers of the code lie in bounds.
-/
import Derived.Test.YtdniocdmncldjaaGreatCDraw3
import Derived.Test.YtdniocdmncldjaaGreatJN
namespace Go.Proofs.YtdniocdmncldjaaGreat
open Go.RowKit
set_option linter.unusedVariables false
set_option linter.unusedSimpArgs false

/-- The code that a draw was given lies in its first block; of the blocks before it only the source's was written. -/
def CBs (w wr : World) (p k γ L C : Int) (g : Nat) : Prop := Row5 wr w.heap.size p k γ L C ∧ w.grownBy wr (some g)
section
variable {w wr wr' : World} {p k γ L C : Int} {g : Nat}
theorem CBs.start (w : World) (p k γ L C : Int) (g : Nat) : CBs w (w.alloc (.cells #[.int .i64 p, .int .i64 k, .int .i64 γ, .int .i64 L, .int .i64 C] 27)) p k γ L C g := ⟨Row5.start w p k γ L C, World.grownBy_alloc w _ _⟩
theorem CBs.lt (h : CBs w wr p k γ L C g) : w.heap.size < wr.heap.size := h.1.lt
theorem CBs.next (h : CBs w wr p k γ L C g) (hb : Below wr.heap.size wr wr') : CBs w wr' p k γ L C g := ⟨h.1.below hb, grown_below h.2 hb (Nat.le_of_lt h.lt)⟩
theorem CBs.alloc (h : CBs w wr p k γ L C g) (o : Obj) : CBs w (wr.alloc o) p k γ L C g := h.next ((Below.refl _ _).alloc (Nat.le_refl _) o)
theorem CBs.src (h : CBs w wr p k γ L C g) (hg : wr.grownBy wr' (some g)) (hne : g ≠ w.heap.size) : CBs w wr' p k γ L C g := ⟨h.1.src hg hne, grown_trans h.2 hg⟩
theorem CBs.own {row : Option Nat} (h : CBs w wr p k γ L C g) (hg : wr.grownBy wr' row) (hr : ∀ b, row = some b → w.heap.size < b) : CBs w wr' p k γ L C g :=
  ⟨h.1.own hg hr, ⟨hg.os.trans h.2.os, hg.tape.trans h.2.tape, hg.output.trans h.2.output, Nat.le_trans h.2.size hg.size, fun i hi hne => (hg.block i (Nat.lt_of_lt_of_le hi h.2.size) (fun e => by have := hr _ e.symm; omega)).trans (h.2.block i hi hne)⟩⟩
theorem CBs.drew (h : CBs w wr p k γ L C g) : CBs w wr.drew p k γ L C g := ⟨h.1.drew, grown_drew h.2⟩
theorem CBs.cells (h : CBs w wr p k γ L C g) : wr.cell? ⟨w.heap.size, 0, none⟩ = some (.int .i64 p) ∧ wr.cell? ⟨w.heap.size, 1, none⟩ = some (.int .i64 k) ∧ wr.cell? ⟨w.heap.size, 2, none⟩ = some (.int .i64 γ) ∧ wr.cell? ⟨w.heap.size, 3, none⟩ = some (.int .i64 L) ∧ wr.cell? ⟨w.heap.size, 4, none⟩ = some (.int .i64 C) :=
  ⟨(row5 h.1).1, (row5 h.1).2.1, (row5 h.1).2.2.1, (row5 h.1).2.2.2.1, (row5 h.1).2.2.2.2.1⟩
theorem own_gap {base B : Nat} {v : Value} {zs : List Int} (h : Own wr base 2 .i64 v zs) (hB : B < base) : v.ownBlock = none ∨ v.ownBlock ≠ some B := by
  rcases hv : v.ownBlock with _ | b
  · exact .inl rfl
  · refine .inr fun e => ?_
    injection e with e
    have := (h.lt hv).1
    omega
end
theorem fsize_bd (p k g : Int) : 0 ≤ fsize p k g ∧ fsize p k g ≤ 1021 := by
  rcases h : fieldB p k g with _ | _
  · rw [fsize_no h]; omega
  · obtain ⟨q, mul, hK, hq⟩ := size_kd h rfl
    have := hK.big
    omega

def MgRel (w : World) (p k γ L C : Int) (g Bc : Nat) (A : Option Addr) (n c : Nat) (code : List Int) (v i : Value) (wr : World) : Prop :=
  ∃ (m : Int) (zs : List Int), i = .int .i64 m ∧ -3000 ≤ m ∧ m ≤ 3000 ∧ Hid (zs.length = 0 ∨ (0 ≤ m ∧ (zs.length : Int) + m ≤ 300)) ∧ Own wr (w.heap.size + 1) 2 .i64 v zs ∧ Src wr g Bc A n c code ∧ CBs w wr p k γ L C g

set_option maxRecDepth 100000 in
set_option maxHeartbeats 8000000 in
theorem drawMessage (p k γ L C : Int) (g Bc : Nat) (A : Option Addr) (n c : Nat) (code : List Int) (w : World) (hS : Src w g Bc A n c code) (hL0 : 0 ≤ L) (hL1 : L ≤ 3000) (hC0 : 0 ≤ C) (hC1 : C ≤ 3000) :
    Calls Tryz.prog 64 #[.pointer (some ⟨g, 0, none⟩), .agg #[.int .i64 p, .int .i64 k, .int .i64 γ, .int .i64 L, .int .i64 C]] w (DrawnL g Bc A n c code 301 w) := by
  have hgl := hS.lt
  have hne : g ≠ w.heap.size := by omega
  have HNE := hide hne
  have HX0 := hide (CBs.start w p k γ L C g)
  have HX := hide (HX0.out.alloc (.cells #[] 2))
  have HS := hide ((hS.still (World.grownBy_alloc w (.cells #[.int .i64 p, .int .i64 k, .int .i64 γ, .int .i64 L, .int .i64 C] 27) none) (by simp)).still (World.grownBy_alloc _ (.cells #[] 2) none) (by simp))
  have HO := hide (Own.lit0 (w.alloc (.cells #[.int .i64 p, .int .i64 k, .int .i64 γ, .int .i64 L, .int .i64 C] 27)) 2 .i64)
  rw [alloc_size] at HO
  clear hS hne HX0
  go_enter Tryz.func64, Tryz.ntmps64
  go_wp2_with fail
  go_loopw [5, 6] (fun v i wr => MgRel w p k γ L C g Bc A n c code v i wr) (fun _ i _ => (intOf i).toNat)
  case atStart => exact ⟨L - C, [], rfl, by omega, by omega, .inl rfl, HO.out, HS.out, HX.out⟩
  case round =>
    clear HX HS HO
    obtain ⟨v, rfl⟩ : ∃ v : Value, v = u5 := ⟨_, rfl⟩
    obtain ⟨m, zs, rfl, hm0, hm1, HL, HO, HS, HX⟩ := hrel
    have HX := hide HX
    have HO := hide HO
    have HS := hide HS
    have HVG := hide (own_gap HO.out (B := g) (by omega))
    have HVB := hide (show ∀ b, v.ownBlock = some b → w.heap.size < b from fun b hb => (HO.out.lt hb).1)
    rcases (show (0 < m ∧ m ≤ 300) ∨ ((decide (0 < m) = false ∨ (0 < m ∧ decide (m ≤ 300) = false)) ∧ ¬ (0 < m ∧ m ≤ 300)) by simp only [decide_eq_false_iff_not]; omega) with ⟨h1, h2⟩ | ⟨h1, h2⟩
    · have hlen : zs.length + 1 ≤ 300 := by have := HL.out; omega
      obtain ⟨fs, hfs⟩ : ∃ fs, fs = fsize p k γ := ⟨_, rfl⟩
      have hfb := fsize_bd p k γ
      rw [← hfs] at hfb
      have HFS := hide hfs
      obtain ⟨hf0, hf1⟩ := hfb
      obtain ⟨c0, c1, c2, c3, c4⟩ := HX.out.cells
      clear hfs
      go_wp2_with fail
      refine (specFieldSize p k γ _).mono ?_
      rw [← HFS.out]
      rintro e w2 ⟨rfl, hb⟩
      have HX2 := hide (HX.out.next hb)
      have HS2 := hide (HS.out.below hb HS.out.lt)
      have HO2 := hide (HO.out.below hb (Nat.le_refl _))
      clear hb c0 c1 c2 c3 c4
      go_wp2_with fail
      refine (next_any g Bc A n c code (max 3 fs) _ HS2.out (by omega)).mono ?_
      rintro e w3 ⟨y, rfl, hy0, hy1, hs, hg⟩
      have HS3 := hide hs
      have HX3 := hide (HX2.out.src hg HNE.out)
      have HO3 := hide (HO2.out.grown hg HVG.out)
      have hwl : w.heap.size + 1 ≤ w3.heap.size := HX3.out.lt
      clear hs hg hy1
      go_wp2_with (at_builtin; refine wpList_app1 w3 rfl _ _ _ rfl elem64 (w.heap.size + 1) v _ rfl HO3.out y rfl (by omega) hwl ?_; intro v4 w4 hown hgrow)
      have HO4 := hide hown
      have HX4 := hide (HX3.out.own hgrow HVB.out)
      have HS4 := hide (HS3.out.still hgrow (fun r hr => Nat.lt_trans hgl (HVB.out r hr)))
      clear hown hgrow
      go_wp2_with fail
      go_roundw
      case rel => exact ⟨m - 1, zs ++ [y], rfl, by omega, by omega, .inr (by have := HL.out; simp; omega), HO4.out, HS4.out, HX4.out⟩
      case measure => simp [intOf]; omega
    · obtain ⟨Av, cv, rfl, hcv⟩ := HO.out.form
      have hlz : zs.length ≤ 300 := by have := HL.out; omega
      clear HL h2
      all_goals
        rcases h1 with h1 | ⟨h1, h1'⟩
        all_goals
          go_wp2_with fail
          refine (next_any g Bc A n c code 40 _ HS.out (by omega)).mono ?_
          rintro e w3 ⟨y, rfl, hy0, hy1, hs, hg⟩
          have HS3 := hide hs
          have HX3 := hide (HX.out.src hg HNE.out)
          have HO3 := hide (HO.out.grown hg HVG.out)
          have hlen : zs.length + 1 ≤ 1000 := by omega
          have hwl : w.heap.size + 1 ≤ w3.heap.size := HX3.out.lt
          clear hs hg hy1
          by_cases hy : y = 0
          · subst hy
            go_wp2_with (at_builtin; refine wpList_app1 w3 rfl _ _ _ rfl elem64 (w.heap.size + 1) (.slice Av zs.length cv) _ rfl HO3.out 0 rfl (by omega) hwl ?_; intro v4 w4 hown hgrow)
            have HO4 := hide hown
            have HX4 := hide (HX3.out.own hgrow HVB.out)
            have HS4 := hide (HS3.out.still hgrow (fun r hr => Nat.lt_trans hgl (HVB.out r hr)))
            have HLL := hide (show (zs ++ [(0 : Int)]).length ≤ 301 by simp; omega)
            clear hown hgrow
            go_wp2_with fail
            go_ret
            exact drawnL_of HO4.out HLL.out (Nat.le_succ _) HS4.out HX4.out.2
          · by_cases hy' : y = 1
            · subst hy'
              rcases Nat.eq_zero_or_pos zs.length with h0 | h0
              · have e5 : decide (0 < zs.length) = false := by rw [decide_eq_false_iff_not]; omega
                have e6 : decide ((0 : Int) < (zs.length : Int)) = false := by rw [decide_eq_false_iff_not]; omega
                clear h0
                go_wp2_with fail
                go_ret
                exact drawnL_of HO3.out (by omega) (Nat.le_succ _) HS3.out HX3.out.2
              · obtain ⟨g1, c1, he, hg1, hg2, hc1⟩ := HO3.out.some_ h0
                simp only [Value.slice.injEq] at he
                obtain ⟨rfl, _, rfl⟩ := he
                have e6 : (0 : Int) < (zs.length : Int) := by omega
                have HGB := hide (And.intro hg1 hg2)
                obtain ⟨fs, hfs⟩ : ∃ fs, fs = fsize p k γ := ⟨_, rfl⟩
                have HFS := hide hfs
                obtain ⟨c0, c1', c2, c3, c4⟩ := HX3.out.cells
                clear hfs hg1 hg2
                go_wp2_with fail
                refine (specFieldSize p k γ _).mono ?_
                rw [← HFS.out]
                rintro e w4 ⟨rfl, hb⟩
                have HX4 := hide ((HX3.out.next hb).alloc (.cells #[.int .i64 (-1), .int .i64 fs] 2))
                have HS4 := hide ((HS3.out.below hb HS3.out.lt).still (World.grownBy_alloc w4 (.cells #[.int .i64 (-1), .int .i64 fs] 2) none) (by simp))
                have HO4 := hide ((HO3.out.below hb (Nat.le_refl _)).alloc (.cells #[.int .i64 (-1), .int .i64 fs] 2))
                have hg4 : g < w4.heap.size := (HS3.out.below hb HS3.out.lt).lt
                clear hb c0 c1' c2 c3 c4
                go_wp2_with fail
                refine (next_any g Bc A n c code 2 _ HS4.out (by omega)).mono ?_
                rintro e w5 ⟨r, rfl, hr0, hr1, hs, hg⟩
                obtain ⟨r, rfl⟩ : ∃ m : Nat, r = m := ⟨r.toNat, by omega⟩
                have hr2 : (r : Int) < 2 := by omega
                obtain ⟨z, hz⟩ : ∃ z, w5.cell? ⟨w4.heap.size, r, none⟩ = some (.int .i64 z) := by
                  rw [grown_cell hg (by simp) (fun h => by simp at h; omega), World.cell?_alloc_at _ _ _ _ rfl]
                  rcases (show r = 0 ∨ r = 1 by omega) with rfl | rfl <;> exact ⟨_, rfl⟩
                have HS5 := hide hs
                have HX5 := hide (HX4.out.src hg HNE.out)
                have HO5 := hide (HO4.out.grown hg HVG.out)
                have hfx := HO5.out.frozenAt 0
                obtain ⟨u, hcx⟩ : ∃ u : Int, w5.cell? ⟨g1, 0, none⟩ = some (.int .i64 u) := ⟨_, HO5.out.cellAt (j := 0) (List.getElem?_eq_getElem h0)⟩
                have HO6 := hide (HO5.out.stored 0 z).1
                have HG6 := hide (HO5.out.stored 0 z).2
                have HGW := hide (show w.heap.size < g1 from HGB.out.1)
                have HX6 := hide (HX5.out.own HG6.out (fun b hb => by injection hb with hb; rw [← hb]; exact HGW.out))
                have HS6 := hide (HS5.out.still HG6.out (fun b hb => by injection hb with hb; rw [← hb]; exact Nat.lt_trans hgl HGW.out))
                have HLL := hide (show (zs.set 0 z).length ≤ 301 by simp; omega)
                clear hs hg hr1
                go_wp2_with fail
                go_ret
                exact drawnL_of HO6.out HLL.out (Nat.le_succ _) HS6.out HX6.out.2
            · have e0 : (y == 0) = false := by simpa using hy
              have e1 : (y == 1) = false := by simpa using hy'
              clear hy hy'
              go_wp2_with fail
              go_ret
              exact drawnL_of HO3.out (by omega) (Nat.le_succ _) HS3.out HX3.out.2
end Go.Proofs.YtdniocdmncldjaaGreat
