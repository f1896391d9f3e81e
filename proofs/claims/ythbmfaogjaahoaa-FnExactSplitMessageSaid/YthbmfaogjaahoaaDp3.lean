/-
  Which of two cells is better, on both sides.
  Condition: as each statement says.
-/
import Derived.Test.YthbmfaogjaahoaaDp2
import Derived.Deep.RegionHeld3
namespace Go.Proofs.Ythbmfaogjaahoaa
open Go.RowKit
set_option linter.unusedSimpArgs false
set_option linter.unusedVariables false

def CV (a : Cel) : Value := .agg #[.int .i64 a.l, .int .i64 a.c, .int .i64 a.s, .int .i64 a.m]
theorem btr_l {a b : Cel} (h : a.l ≠ b.l) : btr a b = decide (a.l < b.l) := by unfold btr; rw [if_neg h]
theorem btr_c {a b : Cel} (h : a.l = b.l) (h2 : a.c ≠ b.c) : btr a b = decide (a.c < b.c) := by unfold btr; rw [if_pos h, if_neg h2]
theorem btr_s {a b : Cel} (h : a.l = b.l) (h2 : a.c = b.c) (h3 : a.s ≠ b.s) : btr a b = decide (b.s < a.s) := by unfold btr; rw [if_pos h, if_pos h2, if_neg h3]
theorem btr_m {a b : Cel} (h : a.l = b.l) (h2 : a.c = b.c) (h3 : a.s = b.s) : btr a b = decide (a.m < b.m) := by unfold btr; rw [if_pos h, if_pos h2, if_pos h3]
theorem nat_lt_int (a b : Nat) : decide ((a : Int) < (b : Int)) = decide (a < b) := by simp

set_option maxRecDepth 100000 in
set_option maxHeartbeats 1000000 in
theorem specBetter (a b : Cel) (w : World) :
    Calls Try.prog 118 #[CV a, CV b] w (Gives (.bool (btr a b)) w) := by
  obtain ⟨la, ca, sa, ma⟩ := a
  obtain ⟨lb, cb, sb, mb⟩ := b
  have HB := hide (show Below w.heap.size w ((w.alloc (.cells #[.int .i64 la, .int .i64 ca, .int .i64 sa, .int .i64 ma] 139)).alloc (.cells #[.int .i64 lb, .int .i64 cb, .int .i64 sb, .int .i64 mb] 139)) from ((Below.refl _ _).alloc (Nat.le_refl _) _).alloc (by rw [alloc_size]; omega) _)
  by_cases h1 : la = lb
  · by_cases h2 : ca = cb
    · by_cases h3 : sa = sb
      · have HR := hide (btr_m (a := ⟨la, ca, sa, ma⟩) (b := ⟨lb, cb, sb, mb⟩) h1 h2 h3)
        subst h1 h2 h3
        unfold CV
        go_enter Try.func118, Try.ntmps118
        go_wp2_with fail
        go_ret
        exact ⟨ret_bool (HR.out), HB.out⟩
      · have HR := hide (btr_s (a := ⟨la, ca, sa, ma⟩) (b := ⟨lb, cb, sb, mb⟩) h1 h2 h3)
        subst h1 h2
        unfold CV
        go_enter Try.func118, Try.ntmps118
        go_wp2_with fail
        go_ret
        exact ⟨ret_bool (HR.out), HB.out⟩
    · have HR := hide (btr_c (a := ⟨la, ca, sa, ma⟩) (b := ⟨lb, cb, sb, mb⟩) h1 h2)
      subst h1
      unfold CV
      go_enter Try.func118, Try.ntmps118
      go_wp2_with fail
      go_ret
      exact ⟨ret_bool (HR.out), HB.out⟩
  · have HR := hide (btr_l (a := ⟨la, ca, sa, ma⟩) (b := ⟨lb, cb, sb, mb⟩) h1)
    unfold CV
    go_enter Try.func118, Try.ntmps118
    go_wp2_with fail
    go_ret
    exact ⟨ret_bool (HR.out), HB.out⟩

def lessC (l c l' c' : Nat) : Bool := if l = l' then decide (c < c') else decide (l < l')
set_option maxRecDepth 100000 in
set_option maxHeartbeats 1000000 in
theorem implCostLess (l c l' c' : Nat) (w : World) :
    Calls Try.prog 131 #[.agg #[.int .i64 l, .int .i64 c], .agg #[.int .i64 l', .int .i64 c']] w (Gives (.bool (lessC l c l' c')) w) := by
  have HB := hide (show Below w.heap.size w ((w.alloc (.cells #[.int .i64 l, .int .i64 c] 144)).alloc (.cells #[.int .i64 l', .int .i64 c'] 144)) from ((Below.refl _ _).alloc (Nat.le_refl _) _).alloc (by rw [alloc_size]; omega) _)
  by_cases h1 : l = l'
  · have HR := hide (show lessC l c l' c' = decide (c < c') by unfold lessC; rw [if_pos h1])
    subst h1
    go_enter Try.func131, Try.ntmps131
    go_wp2_with fail
    go_ret
    exact ⟨ret_bool (HR.out), HB.out⟩
  · have HR := hide (show lessC l c l' c' = decide (l < l') by unfold lessC; rw [if_neg h1])
    go_enter Try.func131, Try.ntmps131
    go_wp2_with fail
    go_ret
    exact ⟨ret_bool (HR.out), HB.out⟩

theorem btr_less {a b : Cel} (h : ¬ (a.l = b.l ∧ a.c = b.c)) : btr a b = lessC a.l a.c b.l b.c := by
  unfold btr lessC
  by_cases h1 : a.l = b.l
  · rw [if_pos h1, if_pos h1, if_neg (fun h2 => h ⟨h1, h2⟩)]
  · rw [if_neg h1, if_neg h1]
theorem row4 {w : World} {b : Nat} {x0 x1 x2 x3 : Value} {t : TypeId} (h : w.heap[b]? = some (.cells #[x0, x1, x2, x3] t (0, 0))) : w.cell? ⟨b, 0, none⟩ = some x0 ∧ w.cell? ⟨b, 1, none⟩ = some x1 ∧ w.cell? ⟨b, 2, none⟩ = some x2 ∧ w.cell? ⟨b, 3, none⟩ = some x3 :=
  ⟨cell_of_row w b 0 _ _ _ h, cell_of_row w b 1 _ _ _ h, cell_of_row w b 2 _ _ _ h, cell_of_row w b 3 _ _ _ h⟩
set_option maxRecDepth 100000 in
set_option maxHeartbeats 1000000 in
theorem implBetter (a b : Cel) (w : World) :
    Calls Try.prog 128 #[CV a, CV b] w (Gives (.bool (btr a b)) w) := by
  obtain ⟨la, ca, sa, ma⟩ := a
  obtain ⟨lb, cb, sb, mb⟩ := b
  have HB := hide (show Below w.heap.size w ((w.alloc (.cells #[.int .i64 la, .int .i64 ca, .int .i64 sa, .int .i64 ma] 146)).alloc (.cells #[.int .i64 lb, .int .i64 cb, .int .i64 sb, .int .i64 mb] 146)) from ((Below.refl _ _).alloc (Nat.le_refl _) _).alloc (by rw [alloc_size]; omega) _)
  by_cases h12 : la = lb ∧ ca = cb
  · obtain ⟨h1, h2⟩ := h12
    by_cases h3 : sa = sb
    · have HR := hide (btr_m (a := ⟨la, ca, sa, ma⟩) (b := ⟨lb, cb, sb, mb⟩) h1 h2 h3)
      subst h1 h2 h3
      unfold CV
      go_enter Try.func128, Try.ntmps128
      go_wp2_with fail
      go_ret
      exact ⟨ret_bool HR.out, HB.out⟩
    · have HR := hide (btr_s (a := ⟨la, ca, sa, ma⟩) (b := ⟨lb, cb, sb, mb⟩) h1 h2 h3)
      subst h1 h2
      unfold CV
      go_enter Try.func128, Try.ntmps128
      go_wp2_with fail
      go_ret
      exact ⟨ret_bool HR.out, HB.out⟩
  · have HR := hide (btr_less (a := ⟨la, ca, sa, ma⟩) (b := ⟨lb, cb, sb, mb⟩) h12)
    have HS := hide (show w.heap.size ≤ ((w.alloc (.cells #[.int .i64 la, .int .i64 ca, .int .i64 sa, .int .i64 ma] 146)).alloc (.cells #[.int .i64 lb, .int .i64 cb, .int .i64 sb, .int .i64 mb] 146)).heap.size by rw [alloc_size, alloc_size]; omega)
    by_cases h1 : la = lb
    · have h2 : ¬ ca = cb := fun e => h12 ⟨h1, e⟩
      subst h1
      clear h12
      unfold CV
      go_enter Try.func128, Try.ntmps128
      go_wp2_with fail
      refine (implCostLess la ca la cb _).mono ?_
      rintro e w1 ⟨rfl, hb1⟩
      have HB1 := hide (HB.out.trans (hb1.mono HS.out))
      clear hb1
      go_wp2_with fail
      go_ret
      exact ⟨ret_bool HR.out, HB1.out⟩
    · clear h12
      unfold CV
      go_enter Try.func128, Try.ntmps128
      go_wp2_with fail
      refine (implCostLess la ca lb cb _).mono ?_
      rintro e w1 ⟨rfl, hb1⟩
      have HB1 := hide (HB.out.trans (hb1.mono HS.out))
      clear hb1
      go_wp2_with fail
      go_ret
      exact ⟨ret_bool HR.out, HB1.out⟩
end Go.Proofs.Ythbmfaogjaahoaa
