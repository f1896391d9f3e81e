/-
  The law FnExactIsPart, walked: both sides give the same for every part.
  Condition: none beyond the row's own.
-/
import Derived.Test.YthbmfaogjaahoaaPt2
import Derived.Test.YthbmfaogjaahoaaPtLaw
import Derived.Test.YthbmfaogjaahoaaPtShell
namespace Go.Proofs.Ythbmfaogjaahoaa
open Go.RowKit
set_option linter.unusedVariables false

set_option maxRecDepth 100000 in
theorem fnExactIsPartWalk (i c p : Int) (s : ByteArray) (w : World) (hi : (Lit.int .i64 i).wf = true) (hc : (Lit.int .i64 c).wf = true) (hp : (Lit.int .i64 p).wf = true) (hs : s.size ≤ maxLen) :
    Calls Try.prog 3 #[.agg #[.int .i64 i, .int .i64 c, .int .i64 p, .string s]] w fun e w' => e = .returned (.bool true) ∧ Below w.heap.size w w' := by
  have hne : (isPt ⟨i, c, p, s⟩ != isPt ⟨i, c, p, s⟩) = false := by simp
  obtain ⟨hlo, hhi⟩ := bd_i64 hc
  clear hi hc hp
  unfold maxLen at hs
  have HS := hide (szPt i c p s 1048576 (by omega) (by omega))
  have HB0 := hide ((Below.refl w.heap.size w).alloc (Nat.le_refl _) (.cells #[.int .i64 i, .int .i64 c, .int .i64 p, .string s] 23))
  by_cases hbig : s.size ≤ 1048576
  · have hr : szRp s 1048576 = ((1048576 - s.size : Nat) : Int) := by rw [szRp, if_pos hbig]
    rw [hr] at HS
    clear hr
    obtain ⟨b, hb⟩ : ∃ b, isPt ⟨i, c, p, s⟩ = b := ⟨_, rfl⟩
    have HSP := hide (specIsPart i c p s (by omega) ⟨hlo, hhi⟩)
    have HIM := hide (implIsPart i c p s (by omega) ⟨hlo, hhi⟩)
    rw [hb] at HSP HIM hne
    clear hb hlo hhi
    obtain ⟨y, hy⟩ : ∃ y, 1048576 - s.size = y := ⟨_, rfl⟩
    rw [hy] at HS
    clear hy hbig hs
    go_enter Try.func3, Try.ntmps3
    go_wp2_with fail
    refine (HS.out _).mono ?_
    rintro e w1 ⟨rfl, hb1⟩
    have HX1 := hide (Box4.start w 23 i c p s |>.next hb1)
    clear hb1
    obtain ⟨c0, c1, c2, c3⟩ := HX1.out.cells
    go_wp2_with fail
    refine (toPart i c p s _).mono ?_
    rintro e w2 ⟨rfl, hb2⟩
    have HX2 := hide (HX1.out.next hb2)
    clear hb2 c0 c1 c2 c3
    go_wp2_with fail
    refine (HSP.out _).mono ?_
    rintro e w3 ⟨rfl, hb3⟩
    have HX3 := hide (HX2.out.next hb3)
    clear hb3
    obtain ⟨c0, c1, c2, c3⟩ := HX3.out.cells
    go_wp2_with fail
    refine (toPart i c p s _).mono ?_
    rintro e w4 ⟨rfl, hb4⟩
    have HX4 := hide (HX3.out.next hb4)
    clear hb4 c0 c1 c2 c3
    go_wp2_with fail
    refine (HIM.out _).mono ?_
    rintro e w5 ⟨rfl, hb5⟩
    have HX5 := hide (HX4.out.next hb5)
    clear hb5
    go_wp2_with fail
    go_ret
    exact ⟨rfl, HX5.out.2⟩
  · have hr : szRp s 1048576 = -1 := by rw [szRp, if_neg hbig]
    rw [hr] at HS
    clear hr
    go_enter Try.func3, Try.ntmps3
    go_wp2_with fail
    refine (HS.out _).mono ?_
    rintro e w1 ⟨rfl, hb1⟩
    have HX1 := hide (Box4.start w 23 i c p s |>.next hb1)
    clear hb1
    go_wp2_with fail
    go_ret
    exact ⟨rfl, HX1.out.2⟩
end Go.Proofs.Ythbmfaogjaahoaa
