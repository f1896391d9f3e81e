/-
  The contracts of the draws of a field with one or two polynomials: some field, some short lists, no old memory changed.
  Condition: the code has at most 4096 bytes.
-/
import Derived.Test.YthafkohopkgckaaPDraw
import Derived.Test.YthafkohopkgckaaPBoth1
namespace Go.Proofs.Ythafkohopkgckaa
open Go.RowKit
set_option linter.unusedSimpArgs false
set_option linter.unusedVariables false

/-- In a draw: the source, the block of the result that is still 0, the block of the field. -/
def Dst (w : World) (g Bc : Nat) (A : Option Addr) (n c : Nat) (code : List Int) (N : Nat) (p k γ : Int) (wr : World) : Prop :=
  Src wr g Bc A n c code ∧ Zero3 wr w.heap.size ∧ wr.heap[N]? = some (.cells #[.int .i64 p, .int .i64 k, .int .i64 γ] 25 (0, 0)) ∧ Below w.heap.size w wr ∧ w.heap.size < g ∧ g < N
section
variable {w wr wr' : World} {g Bc n c N : Nat} {A : Option Addr} {code : List Int} {p k γ : Int}
theorem Dst.lt (h : Dst w g Bc A n c code N p k γ wr) : N < wr.heap.size := (Array.getElem?_eq_some_iff.1 h.2.2.1).1
theorem Dst.next (h : Dst w g Bc A n c code N p k γ wr) (hb : Below wr.heap.size wr wr') : Dst w g Bc A n c code N p k γ wr' :=
  ⟨h.1.below hb h.1.lt, h.2.1.below hb, by rw [hb.block _ h.lt]; exact h.2.2.1, h.2.2.2.1.trans (hb.mono (Nat.le_of_lt (Nat.lt_trans (Nat.lt_trans h.2.2.2.2.1 h.2.2.2.2.2) h.lt))), h.2.2.2.2⟩
theorem Dst.src (h : Dst w g Bc A n c code N p k γ wr) (hs : Src wr' g Bc A n c code) (hg : wr.grownBy wr' (some g)) : Dst w g Bc A n c code N p k γ wr' :=
  ⟨hs, h.2.1.grown hg (by have := h.2.2.2.2; omega), row_grown h.2.2.1 hg (by have := h.2.2.2.2; omega), below_grown h.2.2.2.1 hg (by have := h.2.2.2.2; omega), h.2.2.2.2⟩
theorem Dst.own {row : Option Nat} (h : Dst w g Bc A n c code N p k γ wr) (hg : wr.grownBy wr' row) (hr : ∀ b, row = some b → N < b) : Dst w g Bc A n c code N p k γ wr' := by
  obtain ⟨h1, h2, h3, h4, h5, h6⟩ := h
  refine ⟨h1.still hg (fun r e => by have := hr r e; omega), ?_, ?_, h4.grown hg h4.size (fun r e => by have := hr r e; omega), h5, h6⟩
  · unfold Zero3; rw [hg.block _ h2.lt (fun e => by have := hr _ e.symm; omega)]; exact h2
  · rw [hg.block _ (Array.getElem?_eq_some_iff.1 h3).1 (fun e => by have := hr _ e.symm; omega)]; exact h3
theorem Dst.drew (h : Dst w g Bc A n c code N p k γ wr) : Dst w g Bc A n c code N p k γ wr.drew := ⟨h.1, h.2.1, h.2.2.1, h.2.2.2.1.drew, h.2.2.2.2⟩
theorem Own.src {base : Nat} {v : Value} {zs : List Int} (h : Own wr base 2 .i64 v zs) (hg : wr.grownBy wr' (some g)) (hB : g < base) : Own wr' base 2 .i64 v zs := by
  refine h.grown hg ?_
  rcases hv : v.ownBlock with _ | b
  · exact .inl rfl
  · refine .inr fun e => ?_
    injection e with e
    have := (h.lt hv).1
    omega
theorem Own.set3 {base M : Nat} {v : Value} {zs : List Int} (h : Own wr base 2 .i64 v zs) (hM : M < base) (a b d : Value) : Own (((wr.setCell ⟨M, 0, none⟩ a).setCell ⟨M, 1, none⟩ b).setCell ⟨M, 2, none⟩ d) base 2 .i64 v zs :=
  ((h.src (set_grown wr M 0 a) hM).src (set_grown _ M 1 b) hM).src (set_grown _ M 2 d) hM
theorem own_apart {base : Nat} {v : Value} {zs : List Int} (h : Own wr base 2 .i64 v zs) : v.ownBlock = none ∨ v.ownBlock ≠ some wr.heap.size := by
  rcases hv : v.ownBlock with _ | b
  · exact .inl rfl
  · refine .inr fun e => ?_
    injection e with e
    have := (h.lt hv).2
    omega
/-- What a draw of a field and two lists leaves. -/
def DrawnFLL (w : World) (x : Ending) (w' : World) : Prop :=
  ∃ (p k γ : Int) (zs : List Int) (A1 : Option Addr) (c1 : Nat) (zs' : List Int) (A2 : Option Addr) (c2 : Nat), x = .returned (.tuple #[.agg #[.int .i64 p, .int .i64 k, .int .i64 γ], .slice A1 zs.length c1, .slice A2 zs'.length c2]) ∧ zs.length ≤ 1048576 ∧ zs'.length ≤ 1048576 ∧
    Ints .i64 w' w'.heap.size A1 zs.length zs ∧ Ints .i64 w' w'.heap.size A2 zs'.length zs' ∧ Below w.heap.size w w'
def DrawnFL (w : World) (x : Ending) (w' : World) : Prop :=
  ∃ (p k γ : Int) (zs : List Int) (A1 : Option Addr) (c1 : Nat), x = .returned (.tuple #[.agg #[.int .i64 p, .int .i64 k, .int .i64 γ], .slice A1 zs.length c1]) ∧ zs.length ≤ 1048576 ∧ Ints .i64 w' w'.heap.size A1 zs.length zs ∧ Below w.heap.size w w'
theorem fll_mk {zs zs' : List Int} {A1 A2 : Option Addr} {c1 c2 b1 b2 : Nat} (h : Dst w g Bc A n c code N p k γ wr) (h1 : Own wr b1 2 .i64 (.slice A1 zs.length c1) zs) (h2 : Own wr b2 2 .i64 (.slice A2 zs'.length c2) zs') (hb1 : N ≤ b1) (hb2 : N ≤ b2) (hl1 : zs.length ≤ 1048576) (hl2 : zs'.length ≤ 1048576) (x y z : Value) :
    DrawnFLL w (.returned (.tuple #[.agg #[.int .i64 p, .int .i64 k, .int .i64 γ], .slice A1 zs.length c1, .slice A2 zs'.length c2])) (((wr.setCell ⟨w.heap.size, 0, none⟩ x).setCell ⟨w.heap.size, 1, none⟩ y).setCell ⟨w.heap.size, 2, none⟩ z) := by
  have hN := h.2.2.2.2
  exact ⟨p, k, γ, zs, A1, c1, zs', A2, c2, rfl, hl1, hl2, (h1.set3 (by omega) x y z).ints, (h2.set3 (by omega) x y z).ints, ((h.2.2.2.1.setCell (Nat.le_refl _) _).setCell (Nat.le_refl _) _).setCell (Nat.le_refl _) _⟩
theorem fl_mk {zs : List Int} {A1 : Option Addr} {c1 b1 : Nat} (h : Dst w g Bc A n c code N p k γ wr) (h1 : Own wr b1 2 .i64 (.slice A1 zs.length c1) zs) (hb1 : N ≤ b1) (hl1 : zs.length ≤ 1048576) (x y z : Value) :
    DrawnFL w (.returned (.tuple #[.agg #[.int .i64 p, .int .i64 k, .int .i64 γ], .slice A1 zs.length c1])) (((wr.setCell ⟨w.heap.size, 0, none⟩ x).setCell ⟨w.heap.size, 1, none⟩ y).setCell ⟨w.heap.size, 2, none⟩ z) := by
  have hN := h.2.2.2.2
  exact ⟨p, k, γ, zs, A1, c1, rfl, hl1, (h1.set3 (by omega) x y z).ints, ((h.2.2.2.1.setCell (Nat.le_refl _) _).setCell (Nat.le_refl _) _).setCell (Nat.le_refl _) _⟩
end

set_option maxRecDepth 100000 in
set_option maxHeartbeats 4000000 in
theorem drawDiv (A : Option Addr) (n c : Nat) (code : List Int) (w : World) (hI : Ints .u8 w w.heap.size A n code) (hn : n ≤ 4096) (hby : ∀ b ∈ code, 0 ≤ b ∧ b ≤ 255) :
    Calls Try.prog 32 #[.slice A n c] w (DrawnFLL w) := by
  have HI := hide ((hI.below ((Below.refl _ _).alloc (Nat.le_refl _) (.cells #[.int .i64 0, .int .i64 0, .int .i64 0] 25))).more (B' := (w.alloc (.cells #[.int .i64 0, .int .i64 0, .int .i64 0] 25)).heap.size) (by rw [alloc_size]; omega))
  have HBY := hide hby
  have HZ := hide (Zero3.start w)
  clear hI hby
  go_enter Try.func32, Try.ntmps32
  go_wp2_with fail
  refine (from_any A n c code _ HI.out hn HBY.out).mono ?_
  rintro e w1 ⟨rfl, hs, hb⟩
  have HZ1 := hide (HZ.out.below hb)
  have HB1 := hide (((Below.refl w.heap.size w).alloc (Nat.le_refl _) _).trans (hb.mono (by rw [alloc_size]; omega)))
  have hg1 : (w.alloc (.cells #[.int .i64 0, .int .i64 0, .int .i64 0] 25)).heap.size = w.heap.size + 1 := alloc_size _ _
  generalize (w.alloc (.cells #[.int .i64 0, .int .i64 0, .int .i64 0] 25)).heap.size = g at hs hg1 ⊢
  have hgN : w.heap.size < g := by omega
  have HS1 := hide hs
  clear hs hb hg1
  go_wp2_with fail
  refine (drawAny g _ A n c code _ HS1.out).mono ?_
  rintro e w2 ⟨p, k, γ, rfl, hs, hg⟩
  have HD2 := hide (show Dst w g _ A n c code w2.heap.size p k γ (w2.alloc (.cells #[.int .i64 p, .int .i64 k, .int .i64 γ] 25)) from
    ⟨hs.still (World.grownBy_alloc w2 _ none) (by simp), (HZ1.out.grown hg (by omega)).alloc _, heap_alloc_new w2 _, (below_grown HB1.out hg (by omega)).alloc (Nat.le_of_lt (HZ1.out.grown hg (by omega)).lt) _, hgN, hs.lt⟩)
  have hg2 : g < w2.heap.size := hs.lt
  clear hs hg HZ1 HB1 HS1 HZ HI
  go_wp2_with fail
  generalize w2.alloc (.cells #[.int .i64 p, .int .i64 k, .int .i64 γ] 25) = ws at HD2 ⊢
  generalize w2.heap.size = N at hg2 HD2 ⊢
  obtain ⟨d0, d1, d2⟩ := cells3 HD2.out.2.2.1
  refine (drawPoly p k γ 9 g _ A n c code _ HD2.out.1 (by omega) (by omega)).mono ?_
  rintro e w3 ⟨z3, A3, c3, rfl, hl3, ho, hs, hg⟩
  have HD3 := hide (HD2.out.src hs hg)
  have HO3 := hide (ho.low (base' := N) (Nat.le_of_lt HD2.out.lt))
  clear ho hs hg d0 d1 d2
  obtain ⟨d0, d1, d2⟩ := cells3 HD3.out.2.2.1
  go_wp2_with fail
  go_region_with (go_at_call 65; refine (drawPoly p k γ 4 g _ A n c code _ HD3.out.drew.1 (by omega) (by omega)).mono ?_; rintro e w4 ⟨z4, A4, c4, rfl, hl4, ho, hs, hg⟩; have HD4 := hide (HD3.out.drew.src hs hg); have HO4 := hide (ho.low (base' := N) (Nat.le_of_lt HD3.out.lt)); have HO3b := hide (HO3.out.drew.src hg hg2); obtain ⟨c0', c1', c2'⟩ := HD4.out.2.1.cells; obtain ⟨f0', f1', f2'⟩ := HD4.out.2.1.frozen; obtain ⟨d0', d1', d2'⟩ := cells3 HD4.out.2.2.1; clear ho hs hg)
  all_goals
    go_wp2_with fail
    refine bodyPost_ret (v := .tuple #[.agg #[.int .i64 p, .int .i64 k, .int .i64 γ], .slice A3 z3.length c3, .slice A4 z4.length c4]) (by simp [results, Try.results32, go_sem, c0', c1', c2']) rfl ?_
    exact fll_mk HD4.out HO3b.out HO4.out (Nat.le_refl _) (Nat.le_refl _) (by omega) (by omega) _ _ _

set_option maxRecDepth 100000 in
set_option maxHeartbeats 4000000 in
theorem drawPMul (A : Option Addr) (n c : Nat) (code : List Int) (w : World) (hI : Ints .u8 w w.heap.size A n code) (hn : n ≤ 4096) (hby : ∀ b ∈ code, 0 ≤ b ∧ b ≤ 255) :
    Calls Try.prog 26 #[.slice A n c] w (DrawnFLL w) := by
  have HI := hide ((hI.below ((Below.refl _ _).alloc (Nat.le_refl _) (.cells #[.int .i64 0, .int .i64 0, .int .i64 0] 25))).more (B' := (w.alloc (.cells #[.int .i64 0, .int .i64 0, .int .i64 0] 25)).heap.size) (by rw [alloc_size]; omega))
  have HBY := hide hby
  have HZ := hide (Zero3.start w)
  clear hI hby
  go_enter Try.func26, Try.ntmps26
  go_wp2_with fail
  refine (from_any A n c code _ HI.out hn HBY.out).mono ?_
  rintro e w1 ⟨rfl, hs, hb⟩
  have HZ1 := hide (HZ.out.below hb)
  have HB1 := hide (((Below.refl w.heap.size w).alloc (Nat.le_refl _) _).trans (hb.mono (by rw [alloc_size]; omega)))
  have hg1 : (w.alloc (.cells #[.int .i64 0, .int .i64 0, .int .i64 0] 25)).heap.size = w.heap.size + 1 := alloc_size _ _
  generalize (w.alloc (.cells #[.int .i64 0, .int .i64 0, .int .i64 0] 25)).heap.size = g at hs hg1 ⊢
  have hgN : w.heap.size < g := by omega
  have HS1 := hide hs
  clear hs hb hg1
  go_wp2_with fail
  refine (drawAny g _ A n c code _ HS1.out).mono ?_
  rintro e w2 ⟨p, k, γ, rfl, hs, hg⟩
  have HD2 := hide (show Dst w g _ A n c code w2.heap.size p k γ (w2.alloc (.cells #[.int .i64 p, .int .i64 k, .int .i64 γ] 25)) from
    ⟨hs.still (World.grownBy_alloc w2 _ none) (by simp), (HZ1.out.grown hg (by omega)).alloc _, heap_alloc_new w2 _, (below_grown HB1.out hg (by omega)).alloc (Nat.le_of_lt (HZ1.out.grown hg (by omega)).lt) _, hgN, hs.lt⟩)
  have hg2 : g < w2.heap.size := hs.lt
  clear hs hg HZ1 HB1 HS1 HZ HI
  go_wp2_with fail
  generalize w2.alloc (.cells #[.int .i64 p, .int .i64 k, .int .i64 γ] 25) = ws at HD2 ⊢
  generalize w2.heap.size = N at hg2 HD2 ⊢
  obtain ⟨d0, d1, d2⟩ := cells3 HD2.out.2.2.1
  refine (drawPoly p k γ 6 g _ A n c code _ HD2.out.1 (by omega) (by omega)).mono ?_
  rintro e w3 ⟨z3, A3, c3, rfl, hl3, ho, hs, hg⟩
  have HD3 := hide (HD2.out.src hs hg)
  have HO3 := hide (ho.low (base' := N) (Nat.le_of_lt HD2.out.lt))
  clear ho hs hg d0 d1 d2
  obtain ⟨d0, d1, d2⟩ := cells3 HD3.out.2.2.1
  go_wp2_with fail
  refine (next_any g _ A n c code 40 _ HD3.out.1 (by omega)).mono ?_
  rintro e w5 ⟨y, rfl, hy0, hy1, hs, hg⟩
  have HD5 := hide (HD3.out.src hs hg)
  have HO5 := hide (HO3.out.src hg hg2)
  clear hs hg d0 d1 d2 HD3 HO3
  obtain ⟨d0, d1, d2⟩ := cells3 HD5.out.2.2.1
  by_cases hy : y = 0
  · subst hy
    go_wp2_with fail
    refine (next_any g _ A n c code 3 _ HD5.out.1 (by omega)).mono ?_
    rintro e w6 ⟨y, rfl, hy2, hy3, hs, hg⟩
    have HD6 := hide (HD5.out.src hs hg)
    have HO6 := hide (HO5.out.src hg hg2)
    clear hs hg d0 d1 d2 HD5 HO5
    obtain ⟨m, hm⟩ : ∃ m : Nat, (512 : Int) - y = (m : Int) := ⟨(512 - y).toNat, by omega⟩
    have hm1 : 509 ≤ m := by omega
    have hm2 : m ≤ 512 := by omega
    obtain ⟨l, hl⟩ : ∃ l : Nat, (m : Int) - 1 = (l : Int) := ⟨m - 1, by omega⟩
    have hlm : l < m := by omega
    have hln : l = m - 1 := by omega
    have HLN := hide hln
    clear hln hy0 hy1 hy2 hy3
    have HN6 := hide HD6.out.lt
    go_wp2_with (refine wpList_mkN _ rfl (.tmp 21) (.tmp 21) 35 rfl elem64 .i64 .i64 _ _ m rfl rfl (by omega) (by omega) (by omega) fun w7 h1 h2 => ?_; have HD7 := hide (HD6.out.next h2); have HO7 := hide (HO6.out.below h2 (Nat.le_refl _)); have HQ7 := hide h1; have hcx := HQ7.out.cellAt (j := l) (x := 0) (by rw [List.getElem?_replicate, if_pos hlm]); have hfx := HQ7.out.frozenAt l; have HQ8 := hide (HQ7.out.stored l 1).1; have HG8 := hide (HQ7.out.stored l 1).2; have HD8 := hide (HD7.out.own HG8.out (fun b hb => by simp only [Value.ownBlock, Option.some.injEq] at hb; have := HN6.out; omega)); have HO8 := hide (HO7.out.grown HG8.out (own_apart HO6.out)); obtain ⟨c0', c1', c2'⟩ := HD8.out.2.1.cells; obtain ⟨f0', f1', f2'⟩ := HD8.out.2.1.frozen; obtain ⟨d0', d1', d2'⟩ := cells3 HD8.out.2.2.1; clear h1 h2)
    have HLL := hide (show ((List.replicate m (0 : Int)).set l 1).length = m by simp)
    refine bodyPost_ret (v := .tuple #[.agg #[.int .i64 p, .int .i64 k, .int .i64 γ], .slice A3 z3.length c3, .slice (some ⟨w6.heap.size, 0, none⟩) ((List.replicate m (0 : Int)).set l 1).length m]) (by rw [HLL.out]; simp [results, Try.results26, go_sem, c0', c1', c2']) rfl ?_
    exact fll_mk HD8.out HO8.out (by rw [HLL.out]; exact HQ8.out) (Nat.le_refl _) (Nat.le_of_lt HN6.out) (by omega) (by rw [HLL.out]; omega) _ _ _
  · have e0 : (y == 0) = false := by simpa using hy
    clear hy hy0 hy1
    go_wp2_with fail
    go_region_with (go_at_call 65; refine (drawPoly p k γ 6 g _ A n c code _ HD5.out.drew.1 (by omega) (by omega)).mono ?_; rintro e w9 ⟨z9, A9, c9, rfl, hl9, ho, hs, hg⟩; have HD9 := hide (HD5.out.drew.src hs hg); have HO9 := hide (ho.low (base' := N) (Nat.le_of_lt HD5.out.lt)); have HO3b := hide (HO5.out.drew.src hg hg2); obtain ⟨c0', c1', c2'⟩ := HD9.out.2.1.cells; obtain ⟨f0', f1', f2'⟩ := HD9.out.2.1.frozen; obtain ⟨d0', d1', d2'⟩ := cells3 HD9.out.2.2.1; clear ho hs hg)
    all_goals
      go_wp2_with fail
      refine bodyPost_ret (v := .tuple #[.agg #[.int .i64 p, .int .i64 k, .int .i64 γ], .slice A3 z3.length c3, .slice A9 z9.length c9]) (by simp [results, Try.results26, go_sem, c0', c1', c2']) rfl ?_
      exact fll_mk HD9.out HO3b.out HO9.out (Nat.le_refl _) (Nat.le_refl _) (by omega) (by omega) _ _ _

end Go.Proofs.Ythafkohopkgckaa
