/-
  The contracts of the draws of a field with one or two numbers.
  Condition: the code has at most 4096 bytes.
-/
import Derived.Test.YtbenmgnigeefdaaFDraw2
import Derived.RegionCalls
namespace Go.Proofs.Ytbenmgnigeefdaa
open Go.RowKit
set_option linter.unusedVariables false
set_option linter.unusedSimpArgs false

def DrawnFE (w : World) (x : Ending) (w' : World) : Prop := ∃ p k γ a : Int, x = .returned (.tuple #[.agg #[.int .i64 p, .int .i64 k, .int .i64 γ], .int .i64 a]) ∧ Below w.heap.size w w'
def DrawnFEE (w : World) (x : Ending) (w' : World) : Prop := ∃ p k γ a b : Int, x = .returned (.tuple #[.agg #[.int .i64 p, .int .i64 k, .int .i64 γ], .int .i64 a, .int .i64 b]) ∧ Below w.heap.size w w'

theorem below_grown {w w1 w2 : World} {g : Nat} (h : Below w.heap.size w w1) (hg : w1.grownBy w2 (some g)) (hle : w.heap.size ≤ g) : Below w.heap.size w w2 :=
  h.grown hg h.size (fun k hk => by injection hk; omega)

set_option maxHeartbeats 2000000 in
theorem drawNeg (A : Option Addr) (n c : Nat) (code : List Int) (w : World) (hI : Ints .u8 w w.heap.size A n code) (hn : n ≤ 4096) (hby : ∀ b ∈ code, 0 ≤ b ∧ b ≤ 255) :
    Calls Try.prog 54 #[.slice A n c] w (DrawnFE w) := by
  have HI := hide ((hI.below ((Below.refl _ _).alloc (Nat.le_refl _) (.cells #[.int .i64 0, .int .i64 0, .int .i64 0] 25))).more (B' := (w.alloc (.cells #[.int .i64 0, .int .i64 0, .int .i64 0] 25)).heap.size) (by rw [alloc_size]; omega))
  have HBY := hide hby
  have HZ := hide (Zero3.start w)
  clear hI hby
  go_enter Try.func54, Try.ntmps54
  go_wp2_with fail
  refine (from_any A n c code _ HI.out hn HBY.out).mono ?_
  rintro e w1 ⟨rfl, hs, hb⟩
  have HZ1 := hide (HZ.out.below hb)
  have HB1 := hide (((Below.refl w.heap.size w).alloc (Nat.le_refl _) _).trans (hb.mono (by rw [alloc_size]; omega)))
  have hg1 : (w.alloc (.cells #[.int .i64 0, .int .i64 0, .int .i64 0] 25)).heap.size = w.heap.size + 1 := alloc_size _ _
  generalize (w.alloc (.cells #[.int .i64 0, .int .i64 0, .int .i64 0] 25)).heap.size = g at hs hg1 ⊢
  have hgN : w.heap.size < g := by omega
  have HS1 := hide hs
  clear hs hb hg1
  go_wp2_with fail
  refine (drawAny g _ A n c code _ HS1.out).mono ?_
  rintro e w2 ⟨p, k, γ, rfl, hs, hg⟩
  have HS2 := hide (hs.still (World.grownBy_alloc w2 (.cells #[.int .i64 p, .int .i64 k, .int .i64 γ] 25) none) (by simp))
  have HZ2 := hide ((HZ1.out.grown hg (by omega)).alloc (.cells #[.int .i64 p, .int .i64 k, .int .i64 γ] 25))
  have hl2 : w.heap.size < w2.heap.size := (HZ1.out.grown hg (by omega)).lt
  have HB2 := hide ((below_grown HB1.out hg (by omega)).alloc (Nat.le_of_lt hl2) (.cells #[.int .i64 p, .int .i64 k, .int .i64 γ] 25))
  have HF2 := hide (heap_alloc_new w2 (.cells #[.int .i64 p, .int .i64 k, .int .i64 γ] 25 (0, 0)))
  have hg2 : g < w2.heap.size := hs.lt
  clear hs hg
  go_wp2_with fail
  generalize hws : w2.alloc (.cells #[.int .i64 p, .int .i64 k, .int .i64 γ] 25) = ws at HS2 HZ2 HB2 HF2 ⊢
  generalize hN2 : w2.heap.size = N at hl2 hg2 HF2 ⊢
  clear hws hN2
  obtain ⟨c0, c1, c2⟩ := HZ2.out.cells
  obtain ⟨f0, f1, f2⟩ := HZ2.out.frozen
  obtain ⟨d0, d1, d2⟩ := cells3 HF2.out
  have HSD := hide (show Src ws.drew g _ A n c code from HS2.out)
  have HZD := hide (show Zero3 ws.drew w.heap.size from HZ2.out)
  have HFD := hide (show ws.drew.heap[N]? = _ from HF2.out)
  have HBD := hide HB2.out.drew
  go_region_with (go_at_call 64; refine (drawElem p k γ g _ A n c code _ HSD.out).mono ?_; rintro e w3 ⟨a, rfl, hs, hg⟩; have HZ3 := hide (HZD.out.grown hg (by omega)); have HF3 := hide (row_grown HFD.out hg (by omega)); have HB3 := hide (below_grown HBD.out hg (by omega)); obtain ⟨c0', c1', c2'⟩ := HZ3.out.cells; obtain ⟨f0', f1', f2'⟩ := HZ3.out.frozen; obtain ⟨d0', d1', d2'⟩ := cells3 HF3.out; clear hs hg)
  all_goals
    go_wp2_with fail
    refine bodyPost_ret (v := .tuple #[.agg #[.int .i64 p, .int .i64 k, .int .i64 γ], .int .i64 a]) (by simp [results, Try.results54, go_sem, c0', c1', c2']) rfl ⟨p, k, γ, a, rfl, ?_⟩
    exact ((HB3.out.setCell (Nat.le_refl _) _).setCell (Nat.le_refl _) _).setCell (Nat.le_refl _) _

set_option maxHeartbeats 1000000 in
theorem drawInv (A : Option Addr) (n c : Nat) (code : List Int) (w : World) (hI : Ints .u8 w w.heap.size A n code) (hn : n ≤ 4096) (hby : ∀ b ∈ code, 0 ≤ b ∧ b ≤ 255) :
    Calls Try.prog 24 #[.slice A n c] w (DrawnFE w) := by
  have HI := hide ((hI.below ((Below.refl _ _).alloc (Nat.le_refl _) (.cells #[.int .i64 0, .int .i64 0, .int .i64 0] 25))).more (B' := (w.alloc (.cells #[.int .i64 0, .int .i64 0, .int .i64 0] 25)).heap.size) (by rw [alloc_size]; omega))
  have HBY := hide hby
  have HX := hide (Box.start w 25 0 0 0)
  clear hI hby
  go_enter Try.func24, Try.ntmps24
  go_wp2_with fail
  refine (drawNeg A n c code _ HI.out hn HBY.out).mono ?_
  rintro e w1 ⟨p, k, γ, a, rfl, hb⟩
  have HX1 := hide (HX.out.next hb)
  obtain ⟨c0, c1, c2⟩ := HX1.out.cells
  obtain ⟨f0, f1, f2⟩ := HX1.out.frozen
  clear hb
  go_wp2_with fail
  refine bodyPost_ret (v := .tuple #[.agg #[.int .i64 p, .int .i64 k, .int .i64 γ], .int .i64 a]) (by simp [results, Try.results24, go_sem, c0, c1, c2]) rfl ⟨p, k, γ, a, rfl, ?_⟩
  exact ((HX1.out.2.setCell (Nat.le_refl _) _).setCell (Nat.le_refl _) _).setCell (Nat.le_refl _) _
end Go.Proofs.Ytbenmgnigeefdaa
