/-
  The draws of a format code with a number, and with lists.
  Condition: the code has at most 4096 bytes.
-/
import Derived.Test.YtkaconpbmppekaaWdDraw
namespace Go.Proofs.Ytkaconpbmppekaa
open Go.RowKit
set_option linter.unusedSimpArgs false
set_option linter.unusedVariables false

/-- What a draw of a format code and a number leaves. -/
def DrawnFW (w : World) (x : Ending) (w' : World) : Prop :=
  ∃ d l p v : Int, x = .returned (.tuple #[.agg #[.int .i64 d, .int .i64 l, .int .i64 p], .int .i64 v]) ∧ (0 ≤ d ∧ d ≤ 1000) ∧ (0 ≤ l ∧ l ≤ 1000) ∧ (0 ≤ p ∧ p ≤ 1099511627776) ∧ (-10 ≤ v ∧ v ≤ 1000) ∧ Below w.heap.size w w'
theorem wsrc_below {w w1 w2 : World} {g : Nat} (h : Below w.heap.size w w1) (hg : w1.grownBy w2 (some g)) (hgw : w.heap.size ≤ g) : Below w.heap.size w w2 :=
  h.grown hg h.size (fun k hk => by injection hk; omega)

set_option maxRecDepth 100000 in
set_option maxHeartbeats 4000000 in
theorem drawFormatWord (A : Option Addr) (n c : Nat) (code : List Int) (w : World) (hI : Ints .u8 w w.heap.size A n code) (hn : n ≤ 4096) (hby : ∀ b ∈ code, 0 ≤ b ∧ b ≤ 255) :
    Calls Try.prog 13 #[.slice A n c] w (DrawnFW w) := by
  have hws : (w.alloc (.cells #[.int .i64 0, .int .i64 0, .int .i64 0] 25)).heap.size = w.heap.size + 1 := alloc_size _ _
  have HI := hide ((hI.below ((Below.refl _ _).alloc (Nat.le_refl _) (.cells #[.int .i64 0, .int .i64 0, .int .i64 0] 25))).more (show w.heap.size ≤ (w.alloc (.cells #[.int .i64 0, .int .i64 0, .int .i64 0] 25)).heap.size by rw [hws]; omega))
  have HBY := hide hby
  have HZ := hide (Row3.start w 0 0 0)
  have HB0 := hide ((Below.refl w.heap.size w).alloc (Nat.le_refl _) (.cells #[.int .i64 0, .int .i64 0, .int .i64 0] 25))
  clear hI hby
  go_enter Try.func13, Try.ntmps13
  go_wp2_with fail
  refine (from_any A n c code _ HI.out hn HBY).mono ?_
  rintro e w1 ⟨rfl, hs, hb⟩
  rw [hws] at hs hb ⊢
  have HS1 := hide hs
  have HB1 := hide (HB0.out.trans (hb.mono (by omega)))
  have HZ1 := hide (HZ.out.below (hb.mono (by rw [hws]; exact Nat.le_refl _)))
  clear hs hb
  go_wp2_with fail
  refine (drawFc _ _ A n c code _ HS1.out).mono ?_
  rintro e w2 ⟨d, l, p, rfl, hd, hl, hp, hs, hg⟩
  have HS2 := hide hs
  have HB2 := hide (wsrc_below HB1.out hg (by omega))
  have HZ2 := hide (HZ1.out.grown hg (by omega))
  clear hs hg
  go_wp2_with fail
  refine (next_any _ _ A n c code 40 _ HS2.out (by omega)).mono ?_
  rintro e w3 ⟨q, rfl, hq0, hq1, hs, hg⟩
  have HS3 := hide hs
  have HB3 := hide (wsrc_below HB2.out hg (by omega))
  have HZ3 := hide (HZ2.out.grown hg (by omega))
  clear hs hg
  go_wp2_with fail
  refine (next_any _ _ A n c code 20 _ HS3.out (by omega)).mono ?_
  rintro e w4 ⟨r, rfl, hr0, hr1, hs, hg⟩
  have HB4 := hide (wsrc_below HB3.out hg (by omega))
  have HZ4 := hide (HZ3.out.grown hg (by omega))
  clear hs hg
  have hrq : r.tdiv 19 = r / 19 := Int.tdiv_eq_ediv_of_nonneg hr0
  obtain ⟨v, hv⟩ : ∃ v, q - r / 19 = v := ⟨_, rfl⟩
  obtain ⟨rq, hrr⟩ : ∃ rq, r / 19 = rq := ⟨_, rfl⟩
  have hrb : 0 ≤ rq ∧ rq ≤ 1 := by omega
  rw [hrr] at hrq hv
  have hwr : IntKind.i64.wrap rq = rq := IntWalk.i64_in _ ⟨by omega, by omega⟩
  have hvb : -10 ≤ v ∧ v ≤ 1000 := by omega
  clear hrr
  obtain ⟨z0, z1, z2⟩ := HZ4.out.cells
  obtain ⟨g0, g1, g2⟩ := HZ4.out.froz
  have hzl := HZ4.out.lt
  go_wp2_with fail
  refine bodyPost_ret (v := .tuple #[.agg #[.int .i64 d, .int .i64 l, .int .i64 p], .int .i64 v]) (by simp [results, Try.results13, go_sem, z0, z1, z2, hzl]) rfl ⟨d, l, p, v, rfl, hd, hl, hp, hvb, ?_⟩
  exact (((HB4.out.setCell (p := ⟨w.heap.size, 0, none⟩) (by simp) _).setCell (p := ⟨w.heap.size, 1, none⟩) (by simp) _).setCell (p := ⟨w.heap.size, 2, none⟩) (by simp) _)
end Go.Proofs.Ytkaconpbmppekaa
