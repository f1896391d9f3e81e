/-
  The contracts of the program's FieldAdd, FieldNeg and FieldMul.
  Condition: none.
-/
import Derived.Test.YthafkohopkgckaaFImpl4
namespace Go.Proofs.Ythafkohopkgckaa
open Go.RowKit
set_option linter.unusedSimpArgs false
set_option linter.unusedVariables false

set_option maxHeartbeats 1000000 in
theorem implAdd (p k g a b : Int) (w : World) :
    Calls Try.prog 20 #[.agg #[.int .i64 p, .int .i64 k, .int .i64 g], .int .i64 a, .int .i64 b] w (GivesII (fAdd p k g a b) (errC p k g [a, b]) w) := by
  have HX := hide (Box.start w 25 p k g)
  have HXA := hide ((Box.start w 25 p k g).alloc (.cells #[.int .i64 a, .int .i64 b] 2))
  have HI := hide (box_two w (.cells #[.int .i64 p, .int .i64 k, .int .i64 g] 25) 2 .i64 a b)
  rcases err2 p k g a b with ⟨c, hc, hne, hne'⟩ | ⟨x, y, q, mul, hc, rfl, rfl, hx, hy, hK⟩
  · have HC := hide hc
    rw [fAdd_bad hc hne', hc]
    clear hc hne'
    go_enter Try.func20, Try.ntmps20
    go_wp2_with fail
    refine (implElem p k g (some ⟨w.heap.size + 1, 0, none⟩) 2 2 _ [a, b] _ HI.out (box_size _ _ _) (by omega)).mono ?_
    rw [HC.out]
    rintro e w1 ⟨rfl, hb⟩
    have HX1 := hide (HXA.out.next hb)
    clear hb
    go_wp2_with fail
    go_ret2
    exact ⟨rfl, HX1.out.2⟩
  · have HC := hide hc
    rw [fAdd_ok hc hK, hc]
    clear hc
    go_enter Try.func20, Try.ntmps20
    go_wp2_with fail
    refine (implElem p k g (some ⟨w.heap.size + 1, 0, none⟩) 2 2 _ [(x : Int), (y : Int)] _ HI.out (box_size _ _ _) (by omega)).mono ?_
    rw [HC.out]
    rintro e w1 ⟨rfl, hb⟩
    have HX1 := hide (HXA.out.next hb)
    obtain ⟨c0, c1, c2⟩ := HX1.out.cells
    clear hb
    go_wp2_with fail
    refine (implSum hK x y hx hy _).mono ?_
    rintro e w2 ⟨rfl, hb⟩
    have HX2 := hide (HX1.out.next hb)
    clear hb
    go_wp2_with fail
    go_ret2
    exact ⟨rfl, HX2.out.2⟩

set_option maxHeartbeats 1000000 in
theorem implMul (p k g a b : Int) (w : World) :
    Calls Try.prog 25 #[.agg #[.int .i64 p, .int .i64 k, .int .i64 g], .int .i64 a, .int .i64 b] w (GivesII (fMul p k g a b) (errC p k g [a, b]) w) := by
  have HX := hide (Box.start w 25 p k g)
  have HXA := hide ((Box.start w 25 p k g).alloc (.cells #[.int .i64 a, .int .i64 b] 2))
  have HI := hide (box_two w (.cells #[.int .i64 p, .int .i64 k, .int .i64 g] 25) 2 .i64 a b)
  rcases err2 p k g a b with ⟨c, hc, hne, hne'⟩ | ⟨x, y, q, mul, hc, rfl, rfl, hx, hy, hK⟩
  · have HC := hide hc
    rw [fMul_bad hc hne', hc]
    clear hc hne'
    go_enter Try.func25, Try.ntmps25
    go_wp2_with fail
    refine (implElem p k g (some ⟨w.heap.size + 1, 0, none⟩) 2 2 _ [a, b] _ HI.out (box_size _ _ _) (by omega)).mono ?_
    rw [HC.out]
    rintro e w1 ⟨rfl, hb⟩
    have HX1 := hide (HXA.out.next hb)
    clear hb
    go_wp2_with fail
    go_ret2
    exact ⟨rfl, HX1.out.2⟩
  · have HC := hide hc
    rw [fMul_ok hc hK, hc]
    clear hc
    go_enter Try.func25, Try.ntmps25
    go_wp2_with fail
    refine (implElem p k g (some ⟨w.heap.size + 1, 0, none⟩) 2 2 _ [(x : Int), (y : Int)] _ HI.out (box_size _ _ _) (by omega)).mono ?_
    rw [HC.out]
    rintro e w1 ⟨rfl, hb⟩
    have HX1 := hide (HXA.out.next hb)
    obtain ⟨c0, c1, c2⟩ := HX1.out.cells
    clear hb
    go_wp2_with fail
    refine (implProd hK x y hx hy _).mono ?_
    rintro e w2 ⟨rfl, hb⟩
    have HX2 := hide (HX1.out.next hb)
    clear hb
    go_wp2_with fail
    go_ret2
    exact ⟨rfl, HX2.out.2⟩
end Go.Proofs.Ythafkohopkgckaa
