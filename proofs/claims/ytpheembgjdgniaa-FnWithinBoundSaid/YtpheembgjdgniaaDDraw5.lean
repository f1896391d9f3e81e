/-
  The contract of the draw of DamageOf: some code, two words and erasures, no old memory changed.
  Condition: the code has at most 4096 bytes.
-/
import Derived.Test.YtpheembgjdgniaaDDraw3
namespace Go.Proofs.Ytpheembgjdgniaa
open Go.RowKit
set_option linter.unusedSimpArgs false
set_option linter.unusedVariables false

/-- What a draw of a code and three lists leaves. -/
def DrawnC3 (w : World) (x : Ending) (w' : World) : Prop :=
  ∃ (p k γ L C : Int) (zs : List Int) (A1 : Option Addr) (c1 : Nat) (ss : List Int) (A2 : Option Addr) (c2 : Nat) (es : List Int) (A3 : Option Addr) (c3 : Nat), x = .returned (.tuple #[.agg #[.int .i64 p, .int .i64 k, .int .i64 γ, .int .i64 L, .int .i64 C], .slice A1 zs.length c1, .slice A2 ss.length c2, .slice A3 es.length c3]) ∧
    0 ≤ L ∧ L ≤ 3000 ∧ 0 ≤ C ∧ C ≤ 3000 ∧ zs.length ≤ 400 ∧ ss.length ≤ 400 ∧ es.length ≤ 400 ∧ zs.length ≤ c1 ∧ ss.length ≤ c2 ∧ es.length ≤ c3 ∧ Ints .i64 w' w'.heap.size A1 zs.length zs ∧ Ints .i64 w' w'.heap.size A2 ss.length ss ∧ Ints .i64 w' w'.heap.size A3 es.length es ∧ Below w.heap.size w w'

set_option maxRecDepth 100000 in
set_option maxHeartbeats 8000000 in
theorem drawDmg (A : Option Addr) (n c : Nat) (code : List Int) (w : World) (hI : Ints .u8 w w.heap.size A n code) (hn : n ≤ 4096) (hby : ∀ b ∈ code, 0 ≤ b ∧ b ≤ 255) :
    Calls Try.prog 13 #[.slice A n c] w (DrawnC3 w) := by
  have HI := hide ((hI.below ((Below.refl _ _).alloc (Nat.le_refl _) (.cells #[.int .i64 0, .int .i64 0, .int .i64 0, .int .i64 0, .int .i64 0] 27))).more (B' := (w.alloc (.cells #[.int .i64 0, .int .i64 0, .int .i64 0, .int .i64 0, .int .i64 0] 27)).heap.size) (by rw [alloc_size]; omega))
  have HBY := hide hby
  have HZ := hide (Row5.start w 0 0 0 0 0)
  clear hI hby
  go_enter Try.func13, Try.ntmps13
  go_wp2_with fail
  refine (from_any A n c code _ HI.out hn HBY.out).mono ?_
  rintro e w1 ⟨rfl, hs, hb⟩
  have HZ1 := hide (HZ.out.below hb)
  have HB1 := hide (((Below.refl w.heap.size w).alloc (Nat.le_refl _) _).trans (hb.mono (by rw [alloc_size]; omega)))
  have hg1 : (w.alloc (.cells #[.int .i64 0, .int .i64 0, .int .i64 0, .int .i64 0, .int .i64 0] 27)).heap.size = w.heap.size + 1 := alloc_size _ _
  generalize (w.alloc (.cells #[.int .i64 0, .int .i64 0, .int .i64 0, .int .i64 0, .int .i64 0] 27)).heap.size = g at hs hg1 ⊢
  have hgN : w.heap.size < g := by omega
  have HS1 := hide hs
  clear hs hb hg1 HI HZ
  go_wp2_with fail
  refine (drawWd g _ A n c code _ HS1.out).mono ?_
  rintro e w2 ⟨p, k, γ, L, C, zs, A1, c1, es, A2, c2, rfl, hib, hl1, hl2, ho1, ho2, hs, hg⟩
  have hg0 : g < w1.heap.size := HS1.out.lt
  have HD2 := hide (show Cst w g _ A n c code w2.heap.size p k γ L C (w2.alloc (.cells #[.int .i64 p, .int .i64 k, .int .i64 γ, .int .i64 L, .int .i64 C] 27)) from
    ⟨hs.still (World.grownBy_alloc w2 _ none) (by simp), (HZ1.out.src hg (by omega)).alloc _, Row5.start w2 p k γ L C, (below_grown HB1.out hg (by omega)).alloc (Nat.le_of_lt (HZ1.out.src hg (by omega)).lt) _, hgN, hs.lt⟩)
  have HO1 := hide (ho1.alloc (.cells #[.int .i64 p, .int .i64 k, .int .i64 γ, .int .i64 L, .int .i64 C] 27))
  have HO2 := hide (ho2.alloc (.cells #[.int .i64 p, .int .i64 k, .int .i64 γ, .int .i64 L, .int .i64 C] 27))
  have HIB := hide hib
  have hg2 : g < w2.heap.size := hs.lt
  obtain ⟨hL0, hL1, hC0, hC1⟩ := hib
  have hwg : w.heap.size < w1.heap.size := HZ1.out.lt
  clear ho1 ho2 hs hg HS1 HZ1 HB1
  go_wp2_with fail
  generalize w2.alloc (.cells #[.int .i64 p, .int .i64 k, .int .i64 γ, .int .i64 L, .int .i64 C] 27) = ws at HD2 HO1 HO2 ⊢
  generalize w2.heap.size = N at hg2 HD2 ⊢
  obtain ⟨d0, d1, d2, d3, d4, -, -, -, -, -⟩ := row5 HD2.out.2.2.1
  go_region_with (go_at_call 40; refine (drawWord p k γ L C 1 g _ A n c code _ HD2.out.drew.1 hL0 hL1 hC0 hC1 (by omega) (by omega)).mono ?_; rintro e w3 ⟨ss, A3, c3, rfl, hl3, ho, hs, hg⟩; have HD3 := hide (HD2.out.drew.src hs hg); have HO3 := hide (ho.low (base' := N) (Nat.le_of_lt HD2.out.lt)); have HO1b := hide (HO1.out.drew.srcN hg hg0); have HO2b := hide (HO2.out.drew.srcN hg hg0); obtain ⟨c0', c1', c2', c3', c4', f0', f1', f2', f3', f4'⟩ := row5 HD3.out.2.1; obtain ⟨d0', d1', d2', d3', d4', -, -, -, -, -⟩ := row5 HD3.out.2.2.1; clear ho hs hg)
  all_goals
    go_wp2_with fail
    refine bodyPost_ret (v := .tuple #[.agg #[.int .i64 p, .int .i64 k, .int .i64 γ, .int .i64 L, .int .i64 C], .slice A1 zs.length c1, .slice A3 ss.length c3, .slice A2 es.length c2]) (by simp [results, Try.results13, go_sem, c0', c1', c2', c3', c4']) rfl ?_
    exact ⟨p, k, γ, L, C, zs, A1, c1, ss, A3, c3, es, A2, c2, rfl, hL0, hL1, hC0, hC1, hl1, hl3, hl2, own_cap HO1.out, own_cap HO3.out, own_cap HO2.out, (HO1b.out.set5 hwg _ _ _ _ _).ints, (HO3.out.set5 (by omega) _ _ _ _ _).ints, (HO2b.out.set5 hwg _ _ _ _ _).ints, below_sets HD3.out.2.2.2.1 _ _ _ _ _⟩
end Go.Proofs.Ytpheembgjdgniaa
