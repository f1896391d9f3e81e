/-
  The contract of the draw of a code with indices: some code, a short list, no old memory changed.
  Condition: the code has at most 4096 bytes.
-/
import Derived.Test.YtpheembgjdgniaaCDraw6
import Derived.Test.YtpheembgjdgniaaDDraw1
namespace Go.Proofs.Ytpheembgjdgniaa
open Go.RowKit
set_option linter.unusedSimpArgs false
set_option linter.unusedVariables false

set_option maxRecDepth 100000 in
set_option maxHeartbeats 8000000 in
theorem drawLoc (A : Option Addr) (n c : Nat) (code : List Int) (w : World) (hI : Ints .u8 w w.heap.size A n code) (hn : n ≤ 4096) (hby : ∀ b ∈ code, 0 ≤ b ∧ b ≤ 255) :
    Calls Try.prog 25 #[.slice A n c] w (DrawnCL w) := by
  have HI := hide ((hI.below ((Below.refl _ _).alloc (Nat.le_refl _) (.cells #[.int .i64 0, .int .i64 0, .int .i64 0, .int .i64 0, .int .i64 0] 27))).more (B' := (w.alloc (.cells #[.int .i64 0, .int .i64 0, .int .i64 0, .int .i64 0, .int .i64 0] 27)).heap.size) (by rw [alloc_size]; omega))
  have HBY := hide hby
  have HZ := hide (Row5.start w 0 0 0 0 0)
  clear hI hby
  go_enter Try.func25, Try.ntmps25
  go_wp2_with fail
  refine (from_any A n c code _ HI.out hn HBY.out).mono ?_
  rintro e w1 ⟨rfl, hs, hb⟩
  have HZ1 := hide (HZ.out.below hb)
  have HB1 := hide (((Below.refl w.heap.size w).alloc (Nat.le_refl _) _).trans (hb.mono (by rw [alloc_size]; omega)))
  have hg1 : (w.alloc (.cells #[.int .i64 0, .int .i64 0, .int .i64 0, .int .i64 0, .int .i64 0] 27)).heap.size = w.heap.size + 1 := alloc_size _ _
  generalize (w.alloc (.cells #[.int .i64 0, .int .i64 0, .int .i64 0, .int .i64 0, .int .i64 0] 27)).heap.size = g at hs hg1 ⊢
  have hgN : w.heap.size < g := by omega
  have HS1 := hide hs
  clear hs hb hg1
  go_wp2_with fail
  refine (drawCodeAny g _ A n c code _ HS1.out).mono ?_
  rintro e w2 ⟨p, k, γ, L, C, rfl, _, hL0, hL1, hC0, hC1, hs, hg⟩
  have HD2 := hide (show Cst w g _ A n c code w2.heap.size p k γ L C (w2.alloc (.cells #[.int .i64 p, .int .i64 k, .int .i64 γ, .int .i64 L, .int .i64 C] 27)) from
    ⟨hs.still (World.grownBy_alloc w2 _ none) (by simp), (HZ1.out.src hg (by omega)).alloc _, Row5.start w2 p k γ L C, (below_grown HB1.out hg (by omega)).alloc (Nat.le_of_lt (HZ1.out.src hg (by omega)).lt) _, hgN, hs.lt⟩)
  have HIB := hide (show InB L C from ⟨hL0, hL1, hC0, hC1⟩)
  have hg2 : g < w2.heap.size := hs.lt
  clear hs hg HZ1 HB1 HS1 HZ HI
  go_wp2_with fail
  generalize w2.alloc (.cells #[.int .i64 p, .int .i64 k, .int .i64 γ, .int .i64 L, .int .i64 C] 27) = ws at HD2 ⊢
  generalize w2.heap.size = N at hg2 HD2 ⊢
  obtain ⟨d0, d1, d2, d3, d4, -, -, -, -, -⟩ := row5 HD2.out.2.2.1
  go_region_with (go_at_call 54; refine (drawIndices p k γ L C 5 g _ A n c code _ HD2.out.drew.1 hL0 hL1 hC0 hC1 (by omega) (by omega)).mono ?_; rintro e w3 ⟨z3, A3, c3, rfl, hl3, ho, hs, hg⟩; have HD3 := hide (HD2.out.drew.src hs hg); have HO3 := hide (ho.low (base' := N) (Nat.le_of_lt HD2.out.lt)); obtain ⟨c0', c1', c2', c3', c4', f0', f1', f2', f3', f4'⟩ := row5 HD3.out.2.1; obtain ⟨d0', d1', d2', d3', d4', -, -, -, -, -⟩ := row5 HD3.out.2.2.1; clear ho hs hg)
  all_goals
    go_wp2_with fail
    refine bodyPost_ret (v := .tuple #[.agg #[.int .i64 p, .int .i64 k, .int .i64 γ, .int .i64 L, .int .i64 C], .slice A3 z3.length c3]) (by simp [results, Try.results25, go_sem, c0', c1', c2', c3', c4']) rfl ?_
    exact cl_mk HD3.out HIB.out HO3.out (Nat.le_refl _) (by omega) _ _ _ _ _

end Go.Proofs.Ytpheembgjdgniaa
