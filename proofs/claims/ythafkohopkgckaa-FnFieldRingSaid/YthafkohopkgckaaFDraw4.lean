/-
  The contracts of the draws of a field with two numbers.
  Condition: the code has at most 4096 bytes.
-/
import Derived.Test.YthafkohopkgckaaFDraw3
namespace Go.Proofs.Ythafkohopkgckaa
open Go.RowKit
set_option linter.unusedVariables false
set_option linter.unusedSimpArgs false

set_option maxHeartbeats 2000000 in
theorem drawAdd (A : Option Addr) (n c : Nat) (code : List Int) (w : World) (hI : Ints .u8 w w.heap.size A n code) (hn : n ≤ 4096) (hby : ∀ b ∈ code, 0 ≤ b ∧ b ≤ 255) :
    Calls Try.prog 19 #[.slice A n c] w (DrawnFEE w) := by
  have HI := hide ((hI.below ((Below.refl _ _).alloc (Nat.le_refl _) (.cells #[.int .i64 0, .int .i64 0, .int .i64 0] 25))).more (B' := (w.alloc (.cells #[.int .i64 0, .int .i64 0, .int .i64 0] 25)).heap.size) (by rw [alloc_size]; omega))
  have HBY := hide hby
  have HZ := hide (Zero3.start w)
  clear hI hby
  go_enter Try.func19, Try.ntmps19
  go_wp2_with fail
  refine (from_any A n c code _ HI.out hn HBY.out).mono ?_
  rintro e w1 ⟨rfl, hs, hb⟩
  have HZ1 := hide (HZ.out.below hb)
  have HB1 := hide (((Below.refl w.heap.size w).alloc (Nat.le_refl _) _).trans (hb.mono (by rw [alloc_size]; omega)))
  have hg1 : (w.alloc (.cells #[.int .i64 0, .int .i64 0, .int .i64 0] 25)).heap.size = w.heap.size + 1 := alloc_size _ _
  generalize (w.alloc (.cells #[.int .i64 0, .int .i64 0, .int .i64 0] 25)).heap.size = g at hs hg1 ⊢
  have hgN : w.heap.size < g := by omega
  have HS1 := hide hs
  clear hs hb hg1
  go_wp2_with fail
  refine (drawAny g _ A n c code _ HS1.out).mono ?_
  rintro e w2 ⟨p, k, γ, rfl, hs, hg⟩
  have HS2 := hide (hs.still (World.grownBy_alloc w2 (.cells #[.int .i64 p, .int .i64 k, .int .i64 γ] 25) none) (by simp))
  have HZ2 := hide ((HZ1.out.grown hg (by omega)).alloc (.cells #[.int .i64 p, .int .i64 k, .int .i64 γ] 25))
  have hl2 : w.heap.size < w2.heap.size := (HZ1.out.grown hg (by omega)).lt
  have HB2 := hide ((below_grown HB1.out hg (by omega)).alloc (Nat.le_of_lt hl2) (.cells #[.int .i64 p, .int .i64 k, .int .i64 γ] 25))
  have HF2 := hide (heap_alloc_new w2 (.cells #[.int .i64 p, .int .i64 k, .int .i64 γ] 25 (0, 0)))
  have hg2 : g < w2.heap.size := hs.lt
  clear hs hg
  go_wp2_with fail
  refine (drawElem p k γ g _ A n c code _ HS2.out).mono ?_
  rintro e wx ⟨a, rfl, hs, hg⟩
  have HSx := hide hs
  have HZx := hide (HZ2.out.grown hg (by omega))
  have HFx := hide (row_grown HF2.out hg (by omega))
  have HBx := hide (below_grown HB2.out hg (by omega))
  generalize hN2 : w2.heap.size = N at hl2 hg2 HFx ⊢
  clear hs hg hN2 HS2 HZ2 HF2 HB2
  obtain ⟨c0, c1, c2⟩ := HZx.out.cells
  obtain ⟨f0, f1, f2⟩ := HZx.out.frozen
  obtain ⟨d0, d1, d2⟩ := cells3 HFx.out
  go_wp2_with fail
  have HSD := hide (show Src wx.drew g _ A n c code from HSx.out)
  have HZD := hide (show Zero3 wx.drew w.heap.size from HZx.out)
  have HFD := hide (show wx.drew.heap[N]? = _ from HFx.out)
  have HBD := hide HBx.out.drew
  go_region_with (go_at_call 57; refine (drawElem p k γ g _ A n c code _ HSD.out).mono ?_; rintro e w3 ⟨b, rfl, hs, hg⟩; have HZ3 := hide (HZD.out.grown hg (by omega)); have HF3 := hide (row_grown HFD.out hg (by omega)); have HB3 := hide (below_grown HBD.out hg (by omega)); obtain ⟨c0', c1', c2'⟩ := HZ3.out.cells; obtain ⟨f0', f1', f2'⟩ := HZ3.out.frozen; obtain ⟨d0', d1', d2'⟩ := cells3 HF3.out; clear hs hg)
  all_goals
    go_wp2_with fail
    refine bodyPost_ret (v := .tuple #[.agg #[.int .i64 p, .int .i64 k, .int .i64 γ], .int .i64 a, .int .i64 b]) (by simp [results, Try.results19, go_sem, c0', c1', c2']) rfl ⟨p, k, γ, a, b, rfl, ?_⟩
    exact ((HB3.out.setCell (Nat.le_refl _) _).setCell (Nat.le_refl _) _).setCell (Nat.le_refl _) _

end Go.Proofs.Ythafkohopkgckaa
