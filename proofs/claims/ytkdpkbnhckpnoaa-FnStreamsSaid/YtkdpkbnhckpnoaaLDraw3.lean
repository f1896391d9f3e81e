/-
  The contracts of the draws of data for a layout: a new list; of the old memory only the source's own block changes.
  Condition: the code has at most 4096 bytes; the numbers of the layout lie in bounds.
-/
import Derived.Test.YtkdpkbnhckpnoaaLDraw2
import Derived.Test.YtkdpkbnhckpnoaaJN
namespace Go.Proofs.Ytkdpkbnhckpnoaa
open Go.RowKit
set_option linter.unusedVariables false
set_option linter.unusedSimpArgs false

theorem own_gap7 {wr : World} {base B : Nat} {v : Value} {zs : List Int} (h : Own wr base 2 .i64 v zs) (hB : B < base) : v.ownBlock = none ∨ v.ownBlock ≠ some B := by
  rcases hv : v.ownBlock with _ | b
  · exact .inl rfl
  · refine .inr fun e => ?_
    injection e with e
    have := (h.lt hv).1
    omega
theorem fsize_bd7 (p k g : Int) : 0 ≤ fsize p k g ∧ fsize p k g ≤ 1021 := by
  rcases h : fieldB p k g with _ | _
  · rw [fsize_no h]; omega
  · obtain ⟨q, mul, hK, hq⟩ := size_kd h rfl
    have := hK.big
    omega
/-- The layout that a draw was given lies in its first block; of the blocks before it only the source's was written. -/
def YBs (w wr : World) (p k γ D K C : Int) (g : Nat) : Prop := YRow wr w.heap.size p k γ D K C ∧ w.grownBy wr (some g)
section
variable {w wr wr' : World} {p k γ D K C : Int} {g : Nat}
theorem YBs.lt (h : YBs w wr p k γ D K C g) : w.heap.size < wr.heap.size := (Array.getElem?_eq_some_iff.1 h.1).1
theorem YBs.start (w : World) (p k γ D K C : Int) (g : Nat) : YBs w (w.alloc (.cells #[.int .i64 p, .int .i64 k, .int .i64 γ, .int .i64 D, .int .i64 K, .int .i64 C] 27)) p k γ D K C g := ⟨heap_alloc_new w _, World.grownBy_alloc w _ _⟩
theorem YBs.next (h : YBs w wr p k γ D K C g) (hb : Below wr.heap.size wr wr') : YBs w wr' p k γ D K C g := ⟨YRow.next h.1 hb, grown_below h.2 hb (Nat.le_of_lt h.lt)⟩
theorem YBs.alloc (h : YBs w wr p k γ D K C g) (o : Obj) : YBs w (wr.alloc o) p k γ D K C g := h.next ((Below.refl _ _).alloc (Nat.le_refl _) o)
theorem YBs.src (h : YBs w wr p k γ D K C g) (hg : wr.grownBy wr' (some g)) (hne : g ≠ w.heap.size) : YBs w wr' p k γ D K C g := ⟨row_grown h.1 hg hne, grown_trans h.2 hg⟩
theorem YBs.own {row : Option Nat} (h : YBs w wr p k γ D K C g) (hg : wr.grownBy wr' row) (hr : ∀ b, row = some b → w.heap.size < b) : YBs w wr' p k γ D K C g :=
  ⟨row_grownN h.1 hg (fun e => by have := hr _ e; omega), ⟨hg.os.trans h.2.os, hg.tape.trans h.2.tape, hg.output.trans h.2.output, Nat.le_trans h.2.size hg.size, fun i hi hne => (hg.block i (Nat.lt_of_lt_of_le hi h.2.size) (fun e => by have := hr _ e.symm; omega)).trans (h.2.block i hi hne)⟩⟩
theorem YBs.drew (h : YBs w wr p k γ D K C g) : YBs w wr.drew p k γ D K C g := ⟨h.1, grown_drew h.2⟩
end
def DdRel (w : World) (p k γ D K C : Int) (g Bc : Nat) (A : Option Addr) (n c : Nat) (code : List Int) (v i : Value) (wr : World) : Prop :=
  ∃ (m : Nat) (zs : List Int), i = .int .i64 m ∧ m ≤ 2000 ∧ zs.length = m ∧ Own wr (w.heap.size + 1) 2 .i64 v zs ∧ Src wr g Bc A n c code ∧ YBs w wr p k γ D K C g

set_option maxRecDepth 100000 in
set_option maxHeartbeats 8000000 in
theorem drawData (p k γ D K C : Int) (g Bc : Nat) (A : Option Addr) (n c : Nat) (code : List Int) (w : World) (hS : Src w g Bc A n c code) :
    Calls Try.prog 42 #[.pointer (some ⟨g, 0, none⟩), .agg #[.int .i64 p, .int .i64 k, .int .i64 γ, .int .i64 D, .int .i64 K, .int .i64 C]] w (DrawnL g Bc A n c code 2001 w) := by
  have hgl := hS.lt
  have hne : g ≠ w.heap.size := by omega
  have HNE := hide hne
  have HX0 := hide (YBs.start w p k γ D K C g)
  have HX := hide (HX0.out.alloc (.cells #[] 2))
  have HS := hide ((hS.still (World.grownBy_alloc w (.cells #[.int .i64 p, .int .i64 k, .int .i64 γ, .int .i64 D, .int .i64 K, .int .i64 C] 27) none) (by simp)).still (World.grownBy_alloc _ (.cells #[] 2) none) (by simp))
  have HO := hide (Own.lit0 (w.alloc (.cells #[.int .i64 p, .int .i64 k, .int .i64 γ, .int .i64 D, .int .i64 K, .int .i64 C] 27)) 2 .i64)
  rw [alloc_size] at HO
  clear hS hne HX0
  go_enter Try.func42, Try.ntmps42
  go_wp2_with fail
  go_loopw [5, 6] (fun v i wr => DdRel w p k γ D K C g Bc A n c code v i wr) (fun _ i _ => 2000 - (intOf i).toNat)
  case atStart => exact ⟨0, [], rfl, by omega, rfl, HO.out, HS.out, HX.out⟩
  case round =>
    clear HX HS HO
    obtain ⟨v, rfl⟩ : ∃ v : Value, v = u5 := ⟨_, rfl⟩
    obtain ⟨m, zs, rfl, hm, hL, HO, HS, HX⟩ := hrel
    have HX := hide HX
    have HO := hide HO
    have HS := hide HS
    have HVG := hide (own_gap7 HO.out (B := g) (by omega))
    have HVB := hide (show ∀ b, v.ownBlock = some b → w.heap.size < b from fun b hb => (HO.out.lt hb).1)
    obtain ⟨c0, c1, c2, c3, c4, c5, -, -, -, -, -, -⟩ := row6c HX.out.1
    rcases (show (decide ((m : Int) < D) = true ∧ decide ((m : Int) < 2000) = true) ∨ (decide ((m : Int) < D) = false ∨ (decide ((m : Int) < D) = true ∧ decide ((m : Int) < 2000) = false)) by simp only [decide_eq_false_iff_not, decide_eq_true_eq]; omega) with ⟨h1, h2⟩ | h1
    · have hm2 : m < 2000 := by have := of_decide_eq_true h2; omega
      have hg2 : m < 2000 := hm2
      have hlen : zs.length + 1 ≤ 2001 := by omega
      obtain ⟨fs, hfs⟩ : ∃ fs, fs = fsize p k γ := ⟨_, rfl⟩
      have hfb := fsize_bd7 p k γ
      rw [← hfs] at hfb
      have HFS := hide hfs
      obtain ⟨hf0, hf1⟩ := hfb
      clear hfs
      go_wp2_with fail
      refine (specFieldSize p k γ _).mono ?_
      rw [← HFS.out]
      rintro e w2 ⟨rfl, hb⟩
      have HX2 := hide (HX.out.next hb)
      have HS2 := hide (HS.out.below hb HS.out.lt)
      have HO2 := hide (HO.out.below hb (Nat.le_refl _))
      clear hb c0 c1 c2 c3 c4 c5
      go_wp2_with fail
      refine (next_any g Bc A n c code (max 3 fs) _ HS2.out (by omega)).mono ?_
      rintro e w3 ⟨y, rfl, hy0, hy1, hs, hg⟩
      have HS3 := hide hs
      have HX3 := hide (HX2.out.src hg HNE.out)
      have HO3 := hide (HO2.out.grown hg HVG.out)
      have hwl : w.heap.size + 1 ≤ w3.heap.size := HX3.out.lt
      clear hs hg hy1
      go_wp2_with (at_builtin; refine wpList_app1 w3 rfl _ _ _ rfl elem64 (w.heap.size + 1) v _ rfl HO3.out y rfl (by omega) hwl ?_; intro v4 w4 hown hgrow)
      have HO4 := hide hown
      have HX4 := hide (HX3.out.own hgrow HVB.out)
      have HS4 := hide (HS3.out.still hgrow (fun r hr => Nat.lt_trans hgl (HVB.out r hr)))
      clear hown hgrow
      go_wp2_with fail
      go_roundw
      case rel => exact ⟨m + 1, zs ++ [y], by go_num, by omega, by simp; omega, HO4.out, HS4.out, HX4.out⟩
      case measure => simp [intOf]; omega
    · obtain ⟨Av, cv, rfl, hcv⟩ := HO.out.form
      have hlz : zs.length ≤ 2000 := by omega
      clear hL
      rcases h1 with h1 | ⟨h1, h1'⟩
      all_goals
        go_wp2_with fail
        refine (next_any g Bc A n c code 40 _ HS.out (by omega)).mono ?_
        rintro e w3 ⟨y, rfl, hy0, hy1, hs, hg⟩
        have HS3 := hide hs
        have HX3 := hide (HX.out.src hg HNE.out)
        have HO3 := hide (HO.out.grown hg HVG.out)
        have hlen : zs.length + 1 ≤ 4000 := by omega
        have hwl : w.heap.size + 1 ≤ w3.heap.size := HX3.out.lt
        clear hs hg hy1 c0 c1 c2 c3 c4 c5
        by_cases hy : y = 0
        · subst hy
          go_wp2_with (at_builtin; refine wpList_app1 w3 rfl _ _ _ rfl elem64 (w.heap.size + 1) (.slice Av zs.length cv) _ rfl HO3.out 0 rfl (by omega) hwl ?_; intro v4 w4 hown hgrow)
          have HO4 := hide hown
          have HX4 := hide (HX3.out.own hgrow HVB.out)
          have HS4 := hide (HS3.out.still hgrow (fun r hr => Nat.lt_trans hgl (HVB.out r hr)))
          have HLL := hide (show (zs ++ [(0 : Int)]).length ≤ 2001 by simp; omega)
          clear hown hgrow
          go_wp2_with fail
          go_ret
          exact drawnL_of HO4.out HLL.out (Nat.le_succ _) HS4.out HX4.out.2
        · by_cases hy' : y = 1
          · subst hy'
            rcases Nat.eq_zero_or_pos zs.length with h0 | h0
            · have e5 : decide (0 < zs.length) = false := by rw [decide_eq_false_iff_not]; omega
              have e6 : decide ((0 : Int) < (zs.length : Int)) = false := by rw [decide_eq_false_iff_not]; omega
              clear h0
              go_wp2_with fail
              go_ret
              exact drawnL_of HO3.out (by omega) (Nat.le_succ _) HS3.out HX3.out.2
            · obtain ⟨g1, c1, he, hg1, hg2, hc1⟩ := HO3.out.some_ h0
              simp only [Value.slice.injEq] at he
              obtain ⟨rfl, _, rfl⟩ := he
              have e6 : (0 : Int) < (zs.length : Int) := by omega
              have HGB := hide (And.intro hg1 hg2)
              have hfx := HO3.out.frozenAt 0
              obtain ⟨u, hcx⟩ : ∃ u : Int, w3.cell? ⟨g1, 0, none⟩ = some (.int .i64 u) := ⟨_, HO3.out.cellAt (j := 0) (List.getElem?_eq_getElem h0)⟩
              have HO6 := hide (HO3.out.stored 0 (-1)).1
              have hgs := (HO3.out.stored 0 (-1)).2
              have HX6 := hide (HX3.out.own hgs (fun b hb => by injection hb with hb; omega))
              have HS6 := hide (HS3.out.still hgs (fun r hr => by injection hr with hr; omega))
              clear hgs hg1 hg2
              go_wp2_with fail
              go_ret
              exact drawnL_of (zs := zs.set 0 (-1)) HO6.out (by simp; omega) (Nat.le_succ _) HS6.out HX6.out.2
          · go_wp2_with fail
            go_ret
            exact drawnL_of HO3.out (by omega) (Nat.le_succ _) HS3.out HX3.out.2

/-- What a draw of a layout and a list leaves. -/
def DrawnYL (w : World) (x : Ending) (w' : World) : Prop :=
  ∃ (p k γ D K C : Int) (zs : List Int) (A1 : Option Addr) (c1 : Nat), x = .returned (.tuple #[.agg #[.int .i64 p, .int .i64 k, .int .i64 γ, .int .i64 D, .int .i64 K, .int .i64 C], .slice A1 zs.length c1]) ∧ 0 ≤ D ∧ D ≤ 3000 ∧ 0 ≤ K ∧ K ≤ 3000 ∧ 0 ≤ C ∧ C ≤ 4000 ∧ zs.length ≤ 2001 ∧ zs.length ≤ c1 ∧
    Ints .i64 w' w'.heap.size A1 zs.length zs ∧ Below w.heap.size w w'
/-- What such a draw holds: the source, the zero layout in the first block, the layout in block N. -/
def Yst (w : World) (g Bc : Nat) (A : Option Addr) (n c : Nat) (code : List Int) (N : Nat) (p k γ D K C : Int) (wr : World) : Prop :=
  Src wr g Bc A n c code ∧ YRow wr w.heap.size 0 0 0 0 0 0 ∧ YRow wr N p k γ D K C ∧ Below w.heap.size w wr ∧ w.heap.size < g ∧ g < N
theorem Yst.src {w wr wr' : World} {g Bc N n c : Nat} {A : Option Addr} {code : List Int} {p k γ D K C : Int} (h : Yst w g Bc A n c code N p k γ D K C wr) (hs : Src wr' g Bc A n c code) (hg : wr.grownBy wr' (some g)) : Yst w g Bc A n c code N p k γ D K C wr' := by
  obtain ⟨h1, h2, h3, h4, h5, h6⟩ := h
  exact ⟨hs, row_grown h2 hg (by omega), row_grown h3 hg (by omega), h4.grown hg h4.size (fun r e => by injection e with e; omega), h5, h6⟩
theorem Yst.drew {w wr : World} {g Bc N n c : Nat} {A : Option Addr} {code : List Int} {p k γ D K C : Int} (h : Yst w g Bc A n c code N p k γ D K C wr) : Yst w g Bc A n c code N p k γ D K C wr.drew := by
  obtain ⟨h1, h2, h3, h4, h5, h6⟩ := h
  exact ⟨h1, h2, h3, ⟨h4.os, h4.tape, h4.output, h4.size, h4.block⟩, h5, h6⟩
theorem below_set6 {w wr : World} (h : Below w.heap.size w wr) (x0 x1 x2 x3 x4 x5 : Value) : Below w.heap.size w (set6 wr w.heap.size x0 x1 x2 x3 x4 x5) := by
  unfold set6
  exact (((((h.setCell (Nat.le_refl _) _).setCell (Nat.le_refl _) _).setCell (Nat.le_refl _) _).setCell (Nat.le_refl _) _).setCell (Nat.le_refl _) _).setCell (Nat.le_refl _) _
theorem own_set6 {wr : World} {base M : Nat} {v : Value} {zs : List Int} (h : Own wr base 2 .i64 v zs) (hM : M < base) (x0 x1 x2 x3 x4 x5 : Value) : Own (set6 wr M x0 x1 x2 x3 x4 x5) base 2 .i64 v zs := by
  have hg : ∀ (w' : World) (j : Nat) (u : Value), Own w' base 2 .i64 v zs → Own (w'.setCell ⟨M, j, none⟩ u) base 2 .i64 v zs := fun w' j u ho => ho.grown (grown_set (World.grownBy.refl w' (some M)) j u) (own_gap7 ho hM)
  unfold set6
  exact hg _ _ _ (hg _ _ _ (hg _ _ _ (hg _ _ _ (hg _ _ _ (hg _ _ _ h)))))

set_option maxRecDepth 100000 in
set_option maxHeartbeats 8000000 in
theorem drawEncS (A : Option Addr) (n c : Nat) (code : List Int) (w : World) (hI : Ints .u8 w w.heap.size A n code) (hn : n ≤ 4096) (hby : ∀ b ∈ code, 0 ≤ b ∧ b ≤ 255) :
    Calls Try.prog 12 #[.slice A n c] w (DrawnYL w) := by
  have HI := hide ((hI.below ((Below.refl _ _).alloc (Nat.le_refl _) (.cells #[.int .i64 0, .int .i64 0, .int .i64 0, .int .i64 0, .int .i64 0, .int .i64 0] 27))).more (B' := (w.alloc (.cells #[.int .i64 0, .int .i64 0, .int .i64 0, .int .i64 0, .int .i64 0, .int .i64 0] 27)).heap.size) (by rw [alloc_size]; omega))
  have HBY := hide hby
  have HZ := hide (show YRow (w.alloc (.cells #[.int .i64 0, .int .i64 0, .int .i64 0, .int .i64 0, .int .i64 0, .int .i64 0] 27)) w.heap.size 0 0 0 0 0 0 from heap_alloc_new w _)
  clear hI hby
  go_enter Try.func12, Try.ntmps12
  go_wp2_with fail
  refine (from_any A n c code _ HI.out hn HBY.out).mono ?_
  rintro e w1 ⟨rfl, hs, hb⟩
  have HZ1 := hide (HZ.out.next hb)
  have HB1 := hide (((Below.refl w.heap.size w).alloc (Nat.le_refl _) (.cells #[.int .i64 0, .int .i64 0, .int .i64 0, .int .i64 0, .int .i64 0, .int .i64 0] 27)).trans (hb.mono (by rw [alloc_size]; omega)))
  have hg1 : (w.alloc (.cells #[.int .i64 0, .int .i64 0, .int .i64 0, .int .i64 0, .int .i64 0, .int .i64 0] 27)).heap.size = w.heap.size + 1 := alloc_size _ _
  generalize (w.alloc (.cells #[.int .i64 0, .int .i64 0, .int .i64 0, .int .i64 0, .int .i64 0, .int .i64 0] 27)).heap.size = g at hs hg1 ⊢
  have hgN : w.heap.size < g := by omega
  have HS1 := hide hs
  clear hs hb hg1
  go_wp2_with fail
  refine (drawLayAny g _ A n c code _ HS1.out).mono ?_
  rintro e w2 ⟨p, k, γ, D, K, C, rfl, hD0, hD1, hK0, hK1, hC0, hC1, hs, hg⟩
  have hz2 := row_grown HZ1.out hg (show g ≠ w.heap.size by omega)
  have HD2 := hide (show Yst w g _ A n c code w2.heap.size p k γ D K C (w2.alloc (.cells #[.int .i64 p, .int .i64 k, .int .i64 γ, .int .i64 D, .int .i64 K, .int .i64 C] 27)) from
    ⟨hs.still (World.grownBy_alloc w2 _ none) (by simp), row_old hz2 _, heap_alloc_new w2 _, (below_grown HB1.out hg (by omega)).alloc (Nat.le_of_lt (Array.getElem?_eq_some_iff.1 hz2).1) _, hgN, hs.lt⟩)
  have HIB := hide (show 0 ≤ D ∧ D ≤ 3000 ∧ 0 ≤ K ∧ K ≤ 3000 ∧ 0 ≤ C ∧ C ≤ 4000 from ⟨hD0, hD1, hK0, hK1, hC0, hC1⟩)
  have hg2 : g < w2.heap.size := hs.lt
  clear hs hg HZ1 HB1 HS1 HZ HI hz2
  go_wp2_with fail
  generalize w2.alloc (.cells #[.int .i64 p, .int .i64 k, .int .i64 γ, .int .i64 D, .int .i64 K, .int .i64 C] 27) = ws at HD2 ⊢
  generalize w2.heap.size = N at hg2 HD2 ⊢
  obtain ⟨d0, d1, d2, d3, d4, d5, -, -, -, -, -, -⟩ := row6c HD2.out.2.2.1
  go_wp2_with fail
  refine tail_begin (fun w' => Cells6 w' N p k γ D K C) 6 (by kernel_rfl) ⟨d0, d1, d2, d3, d4, d5⟩ (fun hS' => ?_)
  clear d0 d1 d2 d3 d4 d5
  refine tail_take2 0 rfl (by kernel_rfl) (by kernel_rfl) (by kernel_rfl) (by decide) (fun _ _ _ h => h) (by rfl) (v := ?_) ?_ (by assumption) ?_
  rotate_left 1
  · intro w' hS'; obtain ⟨c0, c1, c2, c3, c4, c5⟩ := hS'; go_simp; try with_reducible rfl
  try simp only [Act.put, List.setIfInBounds_toArray, List.set_cons_zero, List.set_cons_succ]
  refine tail_take2 1 rfl (by kernel_rfl) (by kernel_rfl) (by kernel_rfl) (by decide) (fun _ _ _ h => h) (by rfl) (v := ?_) ?_ (by assumption) ?_
  rotate_left 1
  · intro w' hS'; obtain ⟨c0, c1, c2, c3, c4, c5⟩ := hS'; go_simp; try with_reducible rfl
  try simp only [Act.put, List.setIfInBounds_toArray, List.set_cons_zero, List.set_cons_succ]
  refine tail_take2 2 rfl (by kernel_rfl) (by kernel_rfl) (by kernel_rfl) (by decide) (fun _ _ _ h => h) (by rfl) (v := ?_) ?_ (by assumption) ?_
  rotate_left 1
  · intro w' hS'; obtain ⟨c0, c1, c2, c3, c4, c5⟩ := hS'; go_simp; try with_reducible rfl
  try simp only [Act.put, List.setIfInBounds_toArray, List.set_cons_zero, List.set_cons_succ]
  refine tail_call 3 rfl (by kernel_rfl) rfl (fun K' hK => ?_)
  go_simp
  go_at_call 42; refine (drawData p k γ D K C g _ A n c code _ HD2.out.drew.1).mono ?_; rintro e w3 ⟨z3, A3, c3, rfl, hl3, ho, hs, hg⟩; have HD3 := hide (HD2.out.drew.src hs hg); have HO3 := hide (ho.low (base' := N) (Nat.le_of_lt (Array.getElem?_eq_some_iff.1 HD2.out.2.2.1).1)); clear ho hs hg
  refine hK.out _ _ (by (try dsimp only); exact ⟨(row6c HD3.out.2.2.1).1, (row6c HD3.out.2.2.1).2.1, (row6c HD3.out.2.2.1).2.2.1, (row6c HD3.out.2.2.1).2.2.2.1, (row6c HD3.out.2.2.1).2.2.2.2.1, (row6c HD3.out.2.2.1).2.2.2.2.2.1⟩) (fun hS' => ?_)
  clear hK K'
  try simp only [Act.put, List.setIfInBounds_toArray, List.set_cons_zero, List.set_cons_succ]
  obtain ⟨z0, z1, z2, z3', z4, z5, f0, f1, f2, f3, f4, f5⟩ := row6c HD3.out.2.1
  have HZ9 := hide (row_set6 HD3.out.2.1 (.int .i64 p) (.int .i64 k) (.int .i64 γ) (.int .i64 D) (.int .i64 K) (.int .i64 C))
  have HL9 := hide (show YRow (set6 w3 w.heap.size (.int .i64 p) (.int .i64 k) (.int .i64 γ) (.int .i64 D) (.int .i64 K) (.int .i64 C)) N p k γ D K C by
    have h1 := HD3.out.2.2.1
    have h2 := HD3.out.2.2.2.2.1
    have h3 := HD3.out.2.2.2.2.2
    unfold set6
    exact row_set (row_set (row_set (row_set (row_set (row_set h1 (by omega)) (by omega)) (by omega)) (by omega)) (by omega)) (by omega))
  have HB9 := hide (below_set6 HD3.out.2.2.2.1 (.int .i64 p) (.int .i64 k) (.int .i64 γ) (.int .i64 D) (.int .i64 K) (.int .i64 C))
  have HO9 := hide (own_set6 HO3.out (M := w.heap.size) (by omega) (.int .i64 p) (.int .i64 k) (.int .i64 γ) (.int .i64 D) (.int .i64 K) (.int .i64 C))
  have hfold : ((((((w3.setCell ⟨w.heap.size, 0, none⟩ (.int .i64 p)).setCell ⟨w.heap.size, 1, none⟩ (.int .i64 k)).setCell ⟨w.heap.size, 2, none⟩ (.int .i64 γ)).setCell ⟨w.heap.size, 3, none⟩ (.int .i64 D)).setCell ⟨w.heap.size, 4, none⟩ (.int .i64 K)).setCell ⟨w.heap.size, 5, none⟩ (.int .i64 C)) = set6 w3 w.heap.size (.int .i64 p) (.int .i64 k) (.int .i64 γ) (.int .i64 D) (.int .i64 K) (.int .i64 C) := rfl
  refine tail_call 4 rfl (by kernel_rfl) rfl (fun K' hK => ?_)
  go_simp
  generalize set6 w3 w.heap.size (.int .i64 p) (.int .i64 k) (.int .i64 γ) (.int .i64 D) (.int .i64 K) (.int .i64 C) = w9 at HZ9 HL9 HB9 HO9 ⊢
  clear hfold z0 z1 z2 z3' z4 z5 f0 f1 f2 f3 f4 f5
  refine hK.out _ _ (by (try dsimp only); exact ⟨(row6c HL9.out).1, (row6c HL9.out).2.1, (row6c HL9.out).2.2.1, (row6c HL9.out).2.2.2.1, (row6c HL9.out).2.2.2.2.1, (row6c HL9.out).2.2.2.2.2.1⟩) (fun hS' => ?_)
  clear hK K'
  try simp only [Act.put, List.setIfInBounds_toArray, List.set_cons_zero, List.set_cons_succ]
  refine tail_take2 5 rfl (by kernel_rfl) (by kernel_rfl) (by kernel_rfl) (by decide) (fun _ _ _ h => h) (by rfl) (v := ?_) ?_ (by assumption) ?_
  rotate_left 1
  · intro w' hS'; obtain ⟨c0, c1, c2, c3, c4, c5⟩ := hS'; go_simp; try with_reducible rfl
  try simp only [Act.put, List.setIfInBounds_toArray, List.set_cons_zero, List.set_cons_succ]
  refine tail_end (by kernel_rfl) ?_
  obtain ⟨y0, y1, y2, y3, y4, y5, -, -, -, -, -, -⟩ := row6c HZ9.out
  go_wp2_with fail
  refine bodyPost_ret (v := .tuple #[.agg #[.int .i64 p, .int .i64 k, .int .i64 γ, .int .i64 D, .int .i64 K, .int .i64 C], .slice A3 z3.length c3]) (by simp [results, Try.results12, go_sem, y0, y1, y2, y3, y4, y5]) rfl ?_
  have hcap : z3.length ≤ c3 := by
    obtain ⟨A1, c1, he, hc⟩ := HO9.out.form
    simp only [Value.slice.injEq] at he
    omega
  exact ⟨p, k, γ, D, K, C, z3, A3, c3, rfl, hD0, hD1, hK0, hK1, hC0, hC1, hl3, hcap, Own.ints HO9.out, HB9.out⟩
end Go.Proofs.Ytkdpkbnhckpnoaa
