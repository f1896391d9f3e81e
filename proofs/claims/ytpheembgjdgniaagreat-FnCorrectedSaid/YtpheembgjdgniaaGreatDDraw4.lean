/-
  The contract of the draw of CorrectWord: some code, a word and erasures, no old memory changed.
  Condition: the code has at most 4096 bytes.
-/
import Derived.Test.YtpheembgjdgniaaGreatDDraw3
namespace Go.Proofs.YtpheembgjdgniaaGreat
open Go.RowKit
set_option linter.unusedSimpArgs false
set_option linter.unusedVariables false

set_option maxRecDepth 100000 in
set_option maxHeartbeats 8000000 in
theorem drawCor (A : Option Addr) (n c : Nat) (code : List Int) (w : World) (hI : Ints .u8 w w.heap.size A n code) (hn : n ≤ 4096) (hby : ∀ b ∈ code, 0 ≤ b ∧ b ≤ 255) :
    Calls Tryz.prog 5 #[.slice A n c] w (DrawnCLL w) := by
  have HI := hide ((hI.below ((Below.refl _ _).alloc (Nat.le_refl _) (.cells #[.int .i64 0, .int .i64 0, .int .i64 0, .int .i64 0, .int .i64 0] 27))).more (B' := (w.alloc (.cells #[.int .i64 0, .int .i64 0, .int .i64 0, .int .i64 0, .int .i64 0] 27)).heap.size) (by rw [alloc_size]; omega))
  have HBY := hide hby
  have HZ := hide (Row5.start w 0 0 0 0 0)
  clear hI hby
  go_enter Tryz.func5, Tryz.ntmps5
  go_wp2_with fail
  refine (from_any A n c code _ HI.out hn HBY.out).mono ?_
  rintro e w1 ⟨rfl, hs, hb⟩
  have HZ1 := hide (HZ.out.below hb)
  have HB1 := hide (((Below.refl w.heap.size w).alloc (Nat.le_refl _) _).trans (hb.mono (by rw [alloc_size]; omega)))
  have hg1 : (w.alloc (.cells #[.int .i64 0, .int .i64 0, .int .i64 0, .int .i64 0, .int .i64 0] 27)).heap.size = w.heap.size + 1 := alloc_size _ _
  generalize (w.alloc (.cells #[.int .i64 0, .int .i64 0, .int .i64 0, .int .i64 0, .int .i64 0] 27)).heap.size = g at hs hg1 ⊢
  have hgN : w.heap.size < g := by omega
  have HS1 := hide hs
  clear hs hb hg1 HI HZ
  go_wp2_with fail
  refine (drawWd g _ A n c code _ HS1.out).mono ?_
  rintro e w2 ⟨p, k, γ, L, C, zs, A1, c1, es, A2, c2, rfl, hib, hl1, hl2, ho1, ho2, hs, hg⟩
  have HZ2 := hide (HZ1.out.src hg (by omega))
  have HB2 := hide (below_grown HB1.out hg (by omega))
  have HO1 := hide (ho1.low (base' := w.heap.size + 1) HZ1.out.lt)
  have HO2 := hide (ho2.low (base' := w.heap.size + 1) HZ1.out.lt)
  have HIB := hide hib
  obtain ⟨z0, z1, z2, z3, z4, f0, f1, f2, f3, f4⟩ := row5 HZ2.out
  clear ho1 ho2 hs hg hib HS1 HZ1 HB1
  go_wp2_with fail
  refine bodyPost_ret (v := .tuple #[.agg #[.int .i64 p, .int .i64 k, .int .i64 γ, .int .i64 L, .int .i64 C], .slice A1 zs.length c1, .slice A2 es.length c2]) (by simp [results, Tryz.results5, go_sem, z0, z1, z2, z3, z4]) rfl ?_
  exact ⟨p, k, γ, L, C, zs, A1, c1, es, A2, c2, rfl, HIB.out.1, HIB.out.2.1, HIB.out.2.2.1, HIB.out.2.2.2, hl1, hl2, own_cap HO1.out, own_cap HO2.out, (HO1.out.set5 (Nat.lt_succ_self _) _ _ _ _ _).ints, (HO2.out.set5 (Nat.lt_succ_self _) _ _ _ _ _).ints, below_sets HB2.out _ _ _ _ _⟩
end Go.Proofs.YtpheembgjdgniaaGreat
