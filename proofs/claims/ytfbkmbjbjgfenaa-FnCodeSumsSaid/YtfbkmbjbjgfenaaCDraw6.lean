/-
  The contracts of the draws of a code with one or two words: some code, some short lists, no old memory changed.
  Condition: the code has at most 4096 bytes.
-/
import Derived.Test.YtfbkmbjbjgfenaaCDraw5
namespace Go.Proofs.Ytfbkmbjbjgfenaa
open Go.RowKit
set_option linter.unusedSimpArgs false
set_option linter.unusedVariables false

/-- In a draw: the source, the block of the result that is still 0, the block of the code. -/
def Cst (w : World) (g Bc : Nat) (A : Option Addr) (n c : Nat) (code : List Int) (N : Nat) (p k γ L C : Int) (wr : World) : Prop :=
  Src wr g Bc A n c code ∧ Row5 wr w.heap.size 0 0 0 0 0 ∧ Row5 wr N p k γ L C ∧ Below w.heap.size w wr ∧ w.heap.size < g ∧ g < N
section
variable {w wr wr' : World} {g Bc n c N : Nat} {A : Option Addr} {code : List Int} {p k γ L C : Int}
theorem Cst.lt (h : Cst w g Bc A n c code N p k γ L C wr) : N < wr.heap.size := h.2.2.1.lt
theorem Cst.src (h : Cst w g Bc A n c code N p k γ L C wr) (hs : Src wr' g Bc A n c code) (hg : wr.grownBy wr' (some g)) : Cst w g Bc A n c code N p k γ L C wr' :=
  ⟨hs, h.2.1.src hg (by have := h.2.2.2.2; omega), h.2.2.1.src hg (by have := h.2.2.2.2; omega), below_grown h.2.2.2.1 hg (by have := h.2.2.2.2; omega), h.2.2.2.2⟩
theorem Cst.drew (h : Cst w g Bc A n c code N p k γ L C wr) : Cst w g Bc A n c code N p k γ L C wr.drew := ⟨h.1, h.2.1, h.2.2.1, h.2.2.2.1.drew, h.2.2.2.2⟩
theorem Own.set5 {base M : Nat} {v : Value} {zs : List Int} (h : Own wr base 2 .i64 v zs) (hM : M < base) (x0 x1 x2 x3 x4 : Value) :
    Own (((((wr.setCell ⟨M, 0, none⟩ x0).setCell ⟨M, 1, none⟩ x1).setCell ⟨M, 2, none⟩ x2).setCell ⟨M, 3, none⟩ x3).setCell ⟨M, 4, none⟩ x4) base 2 .i64 v zs :=
  h.grown (grown_set (grown_set (grown_set (grown_set (grown_set (World.grownBy.refl _ _) 0 _) 1 _) 2 _) 3 _) 4 _) (own_gap h hM)
theorem Own.srcN {base : Nat} {v : Value} {zs : List Int} (h : Own wr base 2 .i64 v zs) (hg : wr.grownBy wr' (some g)) (hB : g < base) : Own wr' base 2 .i64 v zs := h.grown hg (own_gap h hB)
theorem own_cap {base m : Nat} {A1 : Option Addr} {c1 : Nat} {zs : List Int} (h : Own wr base 2 .i64 (.slice A1 m c1) zs) : zs.length ≤ c1 := by
  obtain ⟨A', c', h1, h2⟩ := h.form
  simp only [Value.slice.injEq] at h1
  omega
/-- What a draw of a code and one or two lists leaves. -/
def DrawnCL (w : World) (x : Ending) (w' : World) : Prop :=
  ∃ (p k γ L C : Int) (zs : List Int) (A1 : Option Addr) (c1 : Nat), x = .returned (.tuple #[.agg #[.int .i64 p, .int .i64 k, .int .i64 γ, .int .i64 L, .int .i64 C], .slice A1 zs.length c1]) ∧ 0 ≤ L ∧ L ≤ 3000 ∧ 0 ≤ C ∧ C ≤ 3000 ∧ zs.length ≤ 400 ∧ zs.length ≤ c1 ∧
    Ints .i64 w' w'.heap.size A1 zs.length zs ∧ Below w.heap.size w w'
def DrawnCLL (w : World) (x : Ending) (w' : World) : Prop :=
  ∃ (p k γ L C : Int) (zs : List Int) (A1 : Option Addr) (c1 : Nat) (zs' : List Int) (A2 : Option Addr) (c2 : Nat), x = .returned (.tuple #[.agg #[.int .i64 p, .int .i64 k, .int .i64 γ, .int .i64 L, .int .i64 C], .slice A1 zs.length c1, .slice A2 zs'.length c2]) ∧
    0 ≤ L ∧ L ≤ 3000 ∧ 0 ≤ C ∧ C ≤ 3000 ∧ zs.length ≤ 400 ∧ zs'.length ≤ 400 ∧ zs.length ≤ c1 ∧ zs'.length ≤ c2 ∧ Ints .i64 w' w'.heap.size A1 zs.length zs ∧ Ints .i64 w' w'.heap.size A2 zs'.length zs' ∧ Below w.heap.size w w'
def InB (L C : Int) : Prop := 0 ≤ L ∧ L ≤ 3000 ∧ 0 ≤ C ∧ C ≤ 3000
theorem below_sets (h : Below w.heap.size w wr) (x0 x1 x2 x3 x4 : Value) :
    Below w.heap.size w (((((wr.setCell ⟨w.heap.size, 0, none⟩ x0).setCell ⟨w.heap.size, 1, none⟩ x1).setCell ⟨w.heap.size, 2, none⟩ x2).setCell ⟨w.heap.size, 3, none⟩ x3).setCell ⟨w.heap.size, 4, none⟩ x4) :=
  ((((h.setCell (Nat.le_refl _) _).setCell (Nat.le_refl _) _).setCell (Nat.le_refl _) _).setCell (Nat.le_refl _) _).setCell (Nat.le_refl _) _
theorem cl_mk {zs : List Int} {A1 : Option Addr} {c1 b1 : Nat} (h : Cst w g Bc A n c code N p k γ L C wr) (hB : InB L C) (h1 : Own wr b1 2 .i64 (.slice A1 zs.length c1) zs) (hb1 : N ≤ b1) (hl1 : zs.length ≤ 400) (x0 x1 x2 x3 x4 : Value) :
    DrawnCL w (.returned (.tuple #[.agg #[.int .i64 p, .int .i64 k, .int .i64 γ, .int .i64 L, .int .i64 C], .slice A1 zs.length c1])) (((((wr.setCell ⟨w.heap.size, 0, none⟩ x0).setCell ⟨w.heap.size, 1, none⟩ x1).setCell ⟨w.heap.size, 2, none⟩ x2).setCell ⟨w.heap.size, 3, none⟩ x3).setCell ⟨w.heap.size, 4, none⟩ x4) := by
  have hN := h.2.2.2.2
  exact ⟨p, k, γ, L, C, zs, A1, c1, rfl, hB.1, hB.2.1, hB.2.2.1, hB.2.2.2, hl1, own_cap h1, (h1.set5 (by omega) x0 x1 x2 x3 x4).ints, below_sets h.2.2.2.1 _ _ _ _ _⟩
theorem cll_mk {zs zs' : List Int} {A1 A2 : Option Addr} {c1 c2 b1 b2 : Nat} (h : Cst w g Bc A n c code N p k γ L C wr) (hB : InB L C) (h1 : Own wr b1 2 .i64 (.slice A1 zs.length c1) zs) (h2 : Own wr b2 2 .i64 (.slice A2 zs'.length c2) zs') (hb1 : N ≤ b1) (hb2 : N ≤ b2) (hl1 : zs.length ≤ 400) (hl2 : zs'.length ≤ 400) (x0 x1 x2 x3 x4 : Value) :
    DrawnCLL w (.returned (.tuple #[.agg #[.int .i64 p, .int .i64 k, .int .i64 γ, .int .i64 L, .int .i64 C], .slice A1 zs.length c1, .slice A2 zs'.length c2])) (((((wr.setCell ⟨w.heap.size, 0, none⟩ x0).setCell ⟨w.heap.size, 1, none⟩ x1).setCell ⟨w.heap.size, 2, none⟩ x2).setCell ⟨w.heap.size, 3, none⟩ x3).setCell ⟨w.heap.size, 4, none⟩ x4) := by
  have hN := h.2.2.2.2
  exact ⟨p, k, γ, L, C, zs, A1, c1, zs', A2, c2, rfl, hB.1, hB.2.1, hB.2.2.1, hB.2.2.2, hl1, hl2, own_cap h1, own_cap h2, (h1.set5 (by omega) x0 x1 x2 x3 x4).ints, (h2.set5 (by omega) x0 x1 x2 x3 x4).ints, below_sets h.2.2.2.1 _ _ _ _ _⟩
end

theorem quo2 {x : Int} (h0 : 0 ≤ x) (h1 : x ≤ 2) : ∃ y : Int, 0 ≤ y ∧ y ≤ 1 ∧ IntKind.i64.wrap (x.tdiv 2) = y :=
  ⟨x / 2, by omega, by omega, by rw [Int.tdiv_eq_ediv_of_nonneg h0, IntWalk.i64_in _ ⟨by omega, by omega⟩]⟩

set_option maxRecDepth 100000 in
set_option maxHeartbeats 8000000 in
theorem drawEnc (A : Option Addr) (n c : Nat) (code : List Int) (w : World) (hI : Ints .u8 w w.heap.size A n code) (hn : n ≤ 4096) (hby : ∀ b ∈ code, 0 ≤ b ∧ b ≤ 255) :
    Calls Try.prog 17 #[.slice A n c] w (DrawnCL w) := by
  have HI := hide ((hI.below ((Below.refl _ _).alloc (Nat.le_refl _) (.cells #[.int .i64 0, .int .i64 0, .int .i64 0, .int .i64 0, .int .i64 0] 27))).more (B' := (w.alloc (.cells #[.int .i64 0, .int .i64 0, .int .i64 0, .int .i64 0, .int .i64 0] 27)).heap.size) (by rw [alloc_size]; omega))
  have HBY := hide hby
  have HZ := hide (Row5.start w 0 0 0 0 0)
  clear hI hby
  go_enter Try.func17, Try.ntmps17
  go_wp2_with fail
  refine (from_any A n c code _ HI.out hn HBY.out).mono ?_
  rintro e w1 ⟨rfl, hs, hb⟩
  have HZ1 := hide (HZ.out.below hb)
  have HB1 := hide (((Below.refl w.heap.size w).alloc (Nat.le_refl _) _).trans (hb.mono (by rw [alloc_size]; omega)))
  have hg1 : (w.alloc (.cells #[.int .i64 0, .int .i64 0, .int .i64 0, .int .i64 0, .int .i64 0] 27)).heap.size = w.heap.size + 1 := alloc_size _ _
  generalize (w.alloc (.cells #[.int .i64 0, .int .i64 0, .int .i64 0, .int .i64 0, .int .i64 0] 27)).heap.size = g at hs hg1 ⊢
  have hgN : w.heap.size < g := by omega
  have HS1 := hide hs
  clear hs hb hg1
  go_wp2_with fail
  refine (drawCodeAny g _ A n c code _ HS1.out).mono ?_
  rintro e w2 ⟨p, k, γ, L, C, rfl, _, hL0, hL1, hC0, hC1, hs, hg⟩
  have HD2 := hide (show Cst w g _ A n c code w2.heap.size p k γ L C (w2.alloc (.cells #[.int .i64 p, .int .i64 k, .int .i64 γ, .int .i64 L, .int .i64 C] 27)) from
    ⟨hs.still (World.grownBy_alloc w2 _ none) (by simp), (HZ1.out.src hg (by omega)).alloc _, Row5.start w2 p k γ L C, (below_grown HB1.out hg (by omega)).alloc (Nat.le_of_lt (HZ1.out.src hg (by omega)).lt) _, hgN, hs.lt⟩)
  have HIB := hide (show InB L C from ⟨hL0, hL1, hC0, hC1⟩)
  have hg2 : g < w2.heap.size := hs.lt
  clear hs hg HZ1 HB1 HS1 HZ HI
  go_wp2_with fail
  generalize w2.alloc (.cells #[.int .i64 p, .int .i64 k, .int .i64 γ, .int .i64 L, .int .i64 C] 27) = ws at HD2 ⊢
  generalize w2.heap.size = N at hg2 HD2 ⊢
  obtain ⟨d0, d1, d2, d3, d4, -, -, -, -, -⟩ := row5 HD2.out.2.2.1
  go_region_with (go_at_call 51; refine (drawMessage p k γ L C g _ A n c code _ HD2.out.drew.1 hL0 hL1 hC0 hC1).mono ?_; rintro e w3 ⟨z3, A3, c3, rfl, hl3, ho, hs, hg⟩; have HD3 := hide (HD2.out.drew.src hs hg); have HO3 := hide (ho.low (base' := N) (Nat.le_of_lt HD2.out.lt)); obtain ⟨c0', c1', c2', c3', c4', f0', f1', f2', f3', f4'⟩ := row5 HD3.out.2.1; obtain ⟨d0', d1', d2', d3', d4', -, -, -, -, -⟩ := row5 HD3.out.2.2.1; clear ho hs hg)
  all_goals
    go_wp2_with fail
    refine bodyPost_ret (v := .tuple #[.agg #[.int .i64 p, .int .i64 k, .int .i64 γ, .int .i64 L, .int .i64 C], .slice A3 z3.length c3]) (by simp [results, Try.results17, go_sem, c0', c1', c2', c3', c4']) rfl ?_
    exact cl_mk HD3.out HIB.out HO3.out (Nat.le_refl _) (by omega) _ _ _ _ _

set_option maxRecDepth 100000 in
set_option maxHeartbeats 8000000 in
theorem drawIsw (A : Option Addr) (n c : Nat) (code : List Int) (w : World) (hI : Ints .u8 w w.heap.size A n code) (hn : n ≤ 4096) (hby : ∀ b ∈ code, 0 ≤ b ∧ b ≤ 255) :
    Calls Try.prog 35 #[.slice A n c] w (DrawnCL w) := by
  have HI := hide ((hI.below ((Below.refl _ _).alloc (Nat.le_refl _) (.cells #[.int .i64 0, .int .i64 0, .int .i64 0, .int .i64 0, .int .i64 0] 27))).more (B' := (w.alloc (.cells #[.int .i64 0, .int .i64 0, .int .i64 0, .int .i64 0, .int .i64 0] 27)).heap.size) (by rw [alloc_size]; omega))
  have HBY := hide hby
  have HZ := hide (Row5.start w 0 0 0 0 0)
  clear hI hby
  go_enter Try.func35, Try.ntmps35
  go_wp2_with fail
  refine (from_any A n c code _ HI.out hn HBY.out).mono ?_
  rintro e w1 ⟨rfl, hs, hb⟩
  have HZ1 := hide (HZ.out.below hb)
  have HB1 := hide (((Below.refl w.heap.size w).alloc (Nat.le_refl _) _).trans (hb.mono (by rw [alloc_size]; omega)))
  have hg1 : (w.alloc (.cells #[.int .i64 0, .int .i64 0, .int .i64 0, .int .i64 0, .int .i64 0] 27)).heap.size = w.heap.size + 1 := alloc_size _ _
  generalize (w.alloc (.cells #[.int .i64 0, .int .i64 0, .int .i64 0, .int .i64 0, .int .i64 0] 27)).heap.size = g at hs hg1 ⊢
  have hgN : w.heap.size < g := by omega
  have HS1 := hide hs
  clear hs hb hg1
  go_wp2_with fail
  refine (drawCodeAny g _ A n c code _ HS1.out).mono ?_
  rintro e w2 ⟨p, k, γ, L, C, rfl, _, hL0, hL1, hC0, hC1, hs, hg⟩
  have HD2 := hide (show Cst w g _ A n c code w2.heap.size p k γ L C (w2.alloc (.cells #[.int .i64 p, .int .i64 k, .int .i64 γ, .int .i64 L, .int .i64 C] 27)) from
    ⟨hs.still (World.grownBy_alloc w2 _ none) (by simp), (HZ1.out.src hg (by omega)).alloc _, Row5.start w2 p k γ L C, (below_grown HB1.out hg (by omega)).alloc (Nat.le_of_lt (HZ1.out.src hg (by omega)).lt) _, hgN, hs.lt⟩)
  have HIB := hide (show InB L C from ⟨hL0, hL1, hC0, hC1⟩)
  have hg2 : g < w2.heap.size := hs.lt
  clear hs hg HZ1 HB1 HS1 HZ HI
  go_wp2_with fail
  generalize w2.alloc (.cells #[.int .i64 p, .int .i64 k, .int .i64 γ, .int .i64 L, .int .i64 C] 27) = ws at HD2 ⊢
  generalize w2.heap.size = N at hg2 HD2 ⊢
  obtain ⟨d0, d1, d2, d3, d4, -, -, -, -, -⟩ := row5 HD2.out.2.2.1
  go_region_with (first
    | (go_at_call 65; have hm1 := HM1; refine (drawWord p k γ L C y g _ A n c code _ HD3.out.1 hL0 hL1 hC0 hC1 hy0 (by omega)).mono ?_; rintro e w4 ⟨z4, A4, c4, rfl, hl4, ho, hs, hg⟩; have HD4 := hide (HD3.out.src hs hg); have HO4 := hide (ho.low (base' := N) (Nat.le_of_lt HD3.out.lt)); obtain ⟨c0', c1', c2', c3', c4', f0', f1', f2', f3', f4'⟩ := row5 HD4.out.2.1; obtain ⟨d0', d1', d2', d3', d4', -, -, -, -, -⟩ := row5 HD4.out.2.2.1; clear ho hs hg)
    | (go_at_call 66; refine (next_any g _ A n c code 3 _ HD2.out.drew.1 (by omega)).mono ?_; rintro e w3 ⟨x, rfl, hx0, hx1, hs, hg⟩; obtain ⟨y, hy0, hy1, hq⟩ := quo2 hx0 (show x ≤ 2 by omega); have HD3 := hide (HD2.out.drew.src hs hg); have HM1 : True := trivial; obtain ⟨d0'', d1'', d2'', d3'', d4'', -, -, -, -, -⟩ := row5 HD3.out.2.2.1; clear hs hg))
  all_goals
    go_wp2_with fail
    refine bodyPost_ret (v := .tuple #[.agg #[.int .i64 p, .int .i64 k, .int .i64 γ, .int .i64 L, .int .i64 C], .slice A4 z4.length c4]) (by simp [results, Try.results35, go_sem, c0', c1', c2', c3', c4']) rfl ?_
    exact cl_mk HD4.out HIB.out HO4.out (Nat.le_refl _) (by omega) _ _ _ _ _

set_option maxRecDepth 100000 in
set_option maxHeartbeats 8000000 in
theorem drawAddw (A : Option Addr) (n c : Nat) (code : List Int) (w : World) (hI : Ints .u8 w w.heap.size A n code) (hn : n ≤ 4096) (hby : ∀ b ∈ code, 0 ≤ b ∧ b ≤ 255) :
    Calls Try.prog 26 #[.slice A n c] w (DrawnCLL w) := by
  have HI := hide ((hI.below ((Below.refl _ _).alloc (Nat.le_refl _) (.cells #[.int .i64 0, .int .i64 0, .int .i64 0, .int .i64 0, .int .i64 0] 27))).more (B' := (w.alloc (.cells #[.int .i64 0, .int .i64 0, .int .i64 0, .int .i64 0, .int .i64 0] 27)).heap.size) (by rw [alloc_size]; omega))
  have HBY := hide hby
  have HZ := hide (Row5.start w 0 0 0 0 0)
  clear hI hby
  go_enter Try.func26, Try.ntmps26
  go_wp2_with fail
  refine (from_any A n c code _ HI.out hn HBY.out).mono ?_
  rintro e w1 ⟨rfl, hs, hb⟩
  have HZ1 := hide (HZ.out.below hb)
  have HB1 := hide (((Below.refl w.heap.size w).alloc (Nat.le_refl _) _).trans (hb.mono (by rw [alloc_size]; omega)))
  have hg1 : (w.alloc (.cells #[.int .i64 0, .int .i64 0, .int .i64 0, .int .i64 0, .int .i64 0] 27)).heap.size = w.heap.size + 1 := alloc_size _ _
  generalize (w.alloc (.cells #[.int .i64 0, .int .i64 0, .int .i64 0, .int .i64 0, .int .i64 0] 27)).heap.size = g at hs hg1 ⊢
  have hgN : w.heap.size < g := by omega
  have HS1 := hide hs
  clear hs hb hg1
  go_wp2_with fail
  refine (drawCodeAny g _ A n c code _ HS1.out).mono ?_
  rintro e w2 ⟨p, k, γ, L, C, rfl, _, hL0, hL1, hC0, hC1, hs, hg⟩
  have HD2 := hide (show Cst w g _ A n c code w2.heap.size p k γ L C (w2.alloc (.cells #[.int .i64 p, .int .i64 k, .int .i64 γ, .int .i64 L, .int .i64 C] 27)) from
    ⟨hs.still (World.grownBy_alloc w2 _ none) (by simp), (HZ1.out.src hg (by omega)).alloc _, Row5.start w2 p k γ L C, (below_grown HB1.out hg (by omega)).alloc (Nat.le_of_lt (HZ1.out.src hg (by omega)).lt) _, hgN, hs.lt⟩)
  have HIB := hide (show InB L C from ⟨hL0, hL1, hC0, hC1⟩)
  have hg2 : g < w2.heap.size := hs.lt
  clear hs hg HZ1 HB1 HS1 HZ HI
  go_wp2_with fail
  generalize w2.alloc (.cells #[.int .i64 p, .int .i64 k, .int .i64 γ, .int .i64 L, .int .i64 C] 27) = ws at HD2 ⊢
  generalize w2.heap.size = N at hg2 HD2 ⊢
  obtain ⟨d0, d1, d2, d3, d4, -, -, -, -, -⟩ := row5 HD2.out.2.2.1
  go_region_held3 (fun w' => w'.cell? ⟨N, 0, none⟩ = some (.int .i64 p) ∧ w'.cell? ⟨N, 1, none⟩ = some (.int .i64 k) ∧ w'.cell? ⟨N, 2, none⟩ = some (.int .i64 γ) ∧ w'.cell? ⟨N, 3, none⟩ = some (.int .i64 L) ∧ w'.cell? ⟨N, 4, none⟩ = some (.int .i64 C))
    (first
      | exact ⟨(row5 HD2.out.drew.2.2.1).1, (row5 HD2.out.drew.2.2.1).2.1, (row5 HD2.out.drew.2.2.1).2.2.1, (row5 HD2.out.drew.2.2.1).2.2.2.1, (row5 HD2.out.drew.2.2.1).2.2.2.2.1⟩
      | exact ⟨(row5 HD3.out.2.2.1).1, (row5 HD3.out.2.2.1).2.1, (row5 HD3.out.2.2.1).2.2.1, (row5 HD3.out.2.2.1).2.2.2.1, (row5 HD3.out.2.2.1).2.2.2.2.1⟩
      | exact ⟨(row5 HD4.out.2.2.1).1, (row5 HD4.out.2.2.1).2.1, (row5 HD4.out.2.2.1).2.2.1, (row5 HD4.out.2.2.1).2.2.2.1, (row5 HD4.out.2.2.1).2.2.2.2.1⟩
      | go_keep)
    (first
      | (go_at_call 65; have hm1 := HM3; refine (drawWord p k γ L C y3 g _ A n c code _ HD3.out.1 hL0 hL1 hC0 hC1 hy30 (by omega)).mono ?_; rintro e w4 ⟨z4, A4, c4, rfl, hl4, ho, hs, hg⟩; have HD4 := hide (HD3.out.src hs hg); have HO4 := hide (ho.low (base' := N) (Nat.le_of_lt HD3.out.lt)); clear ho hs hg)
      | (go_at_call 66; refine (next_any g _ A n c code 2 _ HD2.out.drew.1 (by omega)).mono ?_; rintro e w3 ⟨y3, rfl, hy30, hy31, hs, hg⟩; have HD3 := hide (HD2.out.drew.src hs hg); have HM3 : True := trivial; clear hs hg))
  obtain ⟨d0, d1, d2, d3, d4, -, -, -, -, -⟩ := row5 HD4.out.2.2.1
  clear hy30 hy31 HD2 HD3
  go_wp2_with fail
  go_region_with (first
    | (go_at_call 65; have hm1 := HM5; refine (drawWord p k γ L C y5 g _ A n c code _ HD5.out.1 hL0 hL1 hC0 hC1 hy50 (by omega)).mono ?_; rintro e w6 ⟨z6, A6, c6, rfl, hl6, ho, hs, hg⟩; have HD6 := hide (HD5.out.src hs hg); have HO6 := hide (ho.low (base' := N) (Nat.le_of_lt HD5.out.lt)); have HO4c := hide (HO4b.out.srcN hg hg2); obtain ⟨c0', c1', c2', c3', c4', f0', f1', f2', f3', f4'⟩ := row5 HD6.out.2.1; obtain ⟨d0', d1', d2', d3', d4', -, -, -, -, -⟩ := row5 HD6.out.2.2.1; clear ho hs hg)
    | (go_at_call 66; refine (next_any g _ A n c code 2 _ HD4.out.drew.1 (by omega)).mono ?_; rintro e w5 ⟨y5, rfl, hy50, hy51, hs, hg⟩; have HD5 := hide (HD4.out.drew.src hs hg); have HM5 : True := trivial; have HO4b := hide (HO4.out.drew.srcN hg hg2); obtain ⟨d0'', d1'', d2'', d3'', d4'', -, -, -, -, -⟩ := row5 HD5.out.2.2.1; clear hs hg))
  all_goals
    go_wp2_with fail
    refine bodyPost_ret (v := .tuple #[.agg #[.int .i64 p, .int .i64 k, .int .i64 γ, .int .i64 L, .int .i64 C], .slice A4 z4.length c4, .slice A6 z6.length c6]) (by simp [results, Try.results26, go_sem, c0', c1', c2', c3', c4']) rfl ?_
    exact cll_mk HD6.out HIB.out HO4c.out HO6.out (Nat.le_refl _) (Nat.le_refl _) (by omega) (by omega) _ _ _ _ _
end Go.Proofs.Ytfbkmbjbjgfenaa
