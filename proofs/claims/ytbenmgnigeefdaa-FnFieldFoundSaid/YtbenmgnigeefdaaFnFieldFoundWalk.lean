/-
  The walk of the law FnFieldFound: it returns true, and nothing that was there before is changed.
  Condition: none.
-/
import Derived.Test.YtbenmgnigeefdaaFDraw
import Derived.Test.YtbenmgnigeefdaaFOfSpec
namespace Go.Proofs.Ytbenmgnigeefdaa
open Go.RowKit
set_option linter.unusedVariables false
set_option linter.unusedSimpArgs false

set_option maxHeartbeats 2000000 in
theorem fnFieldFoundWalk (a0 : Option Addr) (n0 c0 : Nat) (z0 : List Int) (w : World) (h0 : Came .u8 w a0 n0 c0 z0) :
    Calls Try.prog 6 #[.slice a0 n0 c0] w fun e w' => e = .returned (.bool true) ∧ Below w.heap.size w w' := by
  obtain ⟨hI, hnc, hcm, hwf⟩ := h0
  have HI := hide hI
  have HBY := hide (show ∀ b ∈ z0, 0 ≤ b ∧ b ≤ 255 from fun b hb => bd_u8 (hwf b hb))
  clear hI hwf
  unfold maxLen at hcm
  by_cases hbig : 4096 < n0
  · go_enter Try.func6, Try.ntmps6
    go_wp2_with fail
    refine (big_yes a0 n0 c0 w hbig (by omega)).mono ?_
    rintro e w ⟨rfl, rfl⟩
    go_wp2_with fail
    go_ret
    exact ⟨rfl, Below.refl _ _⟩
  have hn0 : n0 ≤ 4096 := by omega
  go_enter Try.func6, Try.ntmps6
  go_wp2_with fail
  refine (big_no a0 n0 c0 w hn0).mono ?_
  rintro e w ⟨rfl, rfl⟩
  go_wp2_with fail
  refine (drawFieldOf a0 n0 c0 z0 w HI hn0 HBY).mono ?_
  rintro e w1 ⟨s, rfl, hb⟩
  have HB1 := hide hb
  clear hb
  go_wp2_with fail
  refine (implFieldOf s _).mono ?_
  rintro e w2 ⟨rfl, hb⟩
  have HB2 := hide (HB1.out.trans (hb.mono HB1.out.size))
  clear hb
  go_wp2_with fail
  refine (specFieldOf s _).mono ?_
  rintro e w3 ⟨rfl, hb⟩
  have HX3 := hide ((Box.start w2 25 (foP s) (foK s) (foG s)).next hb)
  obtain ⟨c0', c1', c2'⟩ := HX3.out.cells
  have hlt : w2.heap.size < w3.heap.size := HX3.out.lt
  clear hb
  rcases fo_cases s with ⟨hc, hp, hk, hg⟩ | ⟨hc, hF, hz, hm, hg1, hg2⟩
  · have HZ := hide (show fsize (foP s) (foK s) (foG s) = 0 by rw [hp, hk, hg]; rfl)
    clear hp hk hg
    generalize foP s = p at *
    generalize foK s = k at *
    generalize foG s = g at *
    go_wp2_with fail
    refine (implFieldSize p k g _).mono ?_
    rw [HZ.out]
    rintro e w4 ⟨rfl, hb⟩
    have HX4 := hide ((HX3.out.alloc (.cells #[.int .i64 p, .int .i64 k, .int .i64 g] 25)).next hb)
    clear hb
    go_wp2_with fail
    go_ret
    exact ⟨rfl, HB2.out.trans (HX4.out.2.mono HB2.out.size)⟩
  · have HF := hide hF
    have HZ := hide hz
    have HM := hide hm
    clear hF hz hm
    generalize foP s = p at *
    generalize foK s = k at *
    generalize foG s = g at *
    go_wp2_with fail
    refine (implIsField p k g _).mono ?_
    rw [HF.out]
    rintro e w4 ⟨rfl, hb⟩
    have HX4 := hide (((HX3.out.alloc (.cells #[.int .i64 p, .int .i64 k, .int .i64 g] 25)).alloc (.cells #[.int .i64 p, .int .i64 k, .int .i64 (g - 1)] 25)).next hb)
    have HY4 := hide ((Box.start (w3.alloc (.cells #[.int .i64 p, .int .i64 k, .int .i64 g] 25)) 25 p k (g - 1)).next hb)
    clear hb c0' c1' c2'
    obtain ⟨c0', c1', c2'⟩ := HX4.out.cells
    go_wp2_with fail
    refine (implFieldSize p k g _).mono ?_
    rw [HZ.out]
    rintro e w5 ⟨rfl, hb⟩
    have HX5 := hide (HX4.out.next hb)
    have HY5 := hide (HY4.out.next hb)
    clear hb c0' c1' c2'
    obtain ⟨d0, d1, d2⟩ := (show w5.cell? ⟨w3.heap.size + 1, 0, none⟩ = some (.int .i64 p) ∧ w5.cell? ⟨w3.heap.size + 1, 1, none⟩ = some (.int .i64 k) ∧ w5.cell? ⟨w3.heap.size + 1, 2, none⟩ = some (.int .i64 (g - 1)) by have h := HY5.out.cells; rw [alloc_size] at h; exact h)
    go_wp2_with fail
    refine (implIsField p k (g - 1) _).mono ?_
    rw [HM.out]
    rintro e w6 ⟨rfl, hb⟩
    have HX6 := hide (HX5.out.next hb)
    clear hb
    go_wp2_with fail
    go_ret
    exact ⟨rfl, HB2.out.trans (HX6.out.2.mono HB2.out.size)⟩
end Go.Proofs.Ytbenmgnigeefdaa
