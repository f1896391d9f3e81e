/-
  The codes of codes, words and indices, of the program and the model; what LocatorOf, IndicesOf and ErrorValues return, of both, side by side.
  Condition: lists shorter than 2^20; the numbers are int64s.
-/
import Derived.Test.YtdniocdmncldjaaGreatDSpec2
import Derived.Test.YtdniocdmncldjaaGreatCBoth1
import Derived.Test.YtdniocdmncldjaaGreatCBoth4
namespace Go.Proofs.YtdniocdmncldjaaGreat
open Go.RowKit
set_option linter.unusedSimpArgs false
set_option linter.unusedVariables false

theorem implWErr0 (p k g L C : Int) (w : World) :
    Calls Tryz.prog 30 #[.agg #[.int .i64 p, .int .i64 k, .int .i64 g, .int .i64 L, .int .i64 C], .slice none 0 0] w (Gives (.int .i64 (wErr p k g L C [])) w) := by
  have HX := hide (CBox.start w p k g L C)
  obtain ⟨c0, c1, c2, c3, c4⟩ := HX.out.cells
  rcases h : codeB p k g L C with _ | _
  · have HF := hide (wErr_no (Z := []) h)
    have HB := hide h
    clear h
    go_enter Tryz.func30, Tryz.ntmps30
    go_wp2_with fail
    refine (implCodeValid p k g L C _).mono ?_
    rw [HB.out]
    rintro e w1 ⟨rfl, hb⟩
    have HX1 := hide (HX.out.next hb)
    clear hb
    go_wp2_with fail
    go_ret
    exact ⟨ret_int HF, HX1.out.2⟩
  · obtain ⟨q, mul, γ, hK, _⟩ := fieldB_open (show fieldB p k g = true by
      simp only [codeB, Bool.and_eq_true] at h; exact h.1)
    have HF := hide (show wErr p k g L C [] = 0 from wErr_ok h hK (fun z hz => absurd hz List.not_mem_nil))
    have HB := hide h
    clear h
    go_enter Tryz.func30, Tryz.ntmps30
    go_wp2_with fail
    refine (implCodeValid p k g L C _).mono ?_
    rw [HB.out]
    rintro e w1 ⟨rfl, hb⟩
    have HX1 := hide (HX.out.next hb)
    clear hb
    go_wp2_with fail
    go_loopw [12] (fun i wr => i = .int .i64 0 ∧ CBox w wr p k g L C) (fun i _ => 0)
    case atStart => exact ⟨rfl, HX1.out⟩
    case round =>
      clear HX1 HX c0 c1 c2 c3 c4
      obtain ⟨rfl, HX⟩ := hrel
      have HX := hide HX
      go_wp2_with fail
      go_ret
      exact ⟨ret_int HF, HX.out.2⟩

/-- The code of a code, indices and words. -/
def xErr (p k g L C : Int) (zs : List Int) (Z : List (List Int)) : Int := if wErr p k g L C Z = 0 then (if idxB L zs = true then 0 else 5) else wErr p k g L C Z
theorem xErr_cases (p k g L C : Int) (zs : List Int) (Z : List (List Int)) : (∃ cd : Int, xErr p k g L C zs Z = cd ∧ (cd != 0) = true) ∨
    (xErr p k g L C zs Z = 0 ∧ ∃ (R : Fld) (γ : El R) (l c : Nat) (J : List Nat), L = l ∧ C = c ∧ CodeIs R γ p k g l c ∧ zs = nv J ∧ Idx l J ∧ ∀ z ∈ Z, ∃ ws : List (El R), z = iv ws ∧ ws.length = l) := by
  rcases wErr_ne (p := p) (k := k) (g := g) (L := L) (C := C) (Z := Z) with ⟨cd, h, hne⟩ | ⟨h, R, γ, l, c, rfl, rfl, hc, hw⟩
  · exact .inl ⟨cd, by rw [xErr, h, if_neg (by simpa using hne)], hne⟩
  · rcases hi : idxB l zs with _ | _
    · exact .inl ⟨5, by rw [xErr, h, if_pos rfl, hi]; rfl, rfl⟩
    · obtain ⟨J, rfl, hJ⟩ := idx_open hi
      exact .inr ⟨by rw [xErr, h, if_pos rfl, hi]; rfl, R, γ, l, c, J, rfl, rfl, hc, rfl, hJ, hw⟩

/-- What a function of a code, indices and words returns as their code, given the code of the words. -/
theorem xErr_of {p k g L C : Int} {zs : List Int} {Z : List (List Int)} : (∃ cd, wErr p k g L C Z = cd ∧ (cd != 0) = true ∧ xErr p k g L C zs Z = cd) ∨ (wErr p k g L C Z = 0 ∧ -1000 ≤ L ∧ L ≤ 1000 ∧ xErr p k g L C zs Z = if idxB L zs = true then 0 else 5) := by
  rcases wErr_ne (p := p) (k := k) (g := g) (L := L) (C := C) (Z := Z) with ⟨cd, h, hne⟩ | ⟨h, R, γ, l, c, rfl, rfl, hc, hw⟩
  · exact .inl ⟨cd, h, hne, by rw [xErr, h, if_neg (by simpa using hne)]⟩
  · have := hc.l255
    exact .inr ⟨h, by omega, by omega, by rw [xErr, h, if_pos rfl]⟩

set_option maxRecDepth 100000 in
set_option maxHeartbeats 2000000 in
theorem implIdxErr (p k g L C : Int) (A : Option Addr) (n c : Nat) (zs : List Int) (Ar : Option Addr) (m mc B : Nat) (Z : List (List Int)) (w : World) (hI : Ints .i64 w B A n zs) (hB : B ≤ w.heap.size) (hn : n ≤ 1048576)
    (hW : Calls Tryz.prog 30 #[.agg #[.int .i64 p, .int .i64 k, .int .i64 g, .int .i64 L, .int .i64 C], .slice Ar m mc] (w.alloc (.cells #[.int .i64 p, .int .i64 k, .int .i64 g, .int .i64 L, .int .i64 C] 27)) (Gives (.int .i64 (wErr p k g L C Z)) (w.alloc (.cells #[.int .i64 p, .int .i64 k, .int .i64 g, .int .i64 L, .int .i64 C] 27)))) :
    Calls Tryz.prog 19 #[.agg #[.int .i64 p, .int .i64 k, .int .i64 g, .int .i64 L, .int .i64 C], .slice A n c, .slice Ar m mc] w (Gives (.int .i64 (xErr p k g L C zs Z)) w) := by
  have HX := hide (CBox.start w p k g L C)
  have HI := hide hI
  have HW := hide hW
  clear hI hW
  obtain ⟨c0, c1, c2, c3, c4⟩ := HX.out.cells
  rcases xErr_of (p := p) (k := k) (g := g) (L := L) (C := C) (zs := zs) (Z := Z) with ⟨cd, h1, h2, h3⟩ | ⟨h1, h2, h3, h4⟩
  · have H1 := hide h1
    have H3 := hide h3
    clear h1 h3
    go_enter Tryz.func19, Tryz.ntmps19
    go_wp2_with fail
    refine HW.out.mono ?_
    rw [H1.out]
    rintro e w1 ⟨rfl, hb⟩
    have HX1 := hide (HX.out.next hb)
    clear hb
    go_wp2_with fail
    go_ret
    exact ⟨ret_int H3.out, HX1.out.2⟩
  · have H1 := hide h1
    rcases hi : idxB L zs with _ | _
    · have HF := hide (show xErr p k g L C zs Z = 5 by rw [h4, hi]; rfl)
      have HII := hide hi
      clear h1 h4 hi
      go_enter Tryz.func19, Tryz.ntmps19
      go_wp2_with fail
      refine HW.out.mono ?_
      rw [H1.out]
      rintro e w1 ⟨rfl, hb⟩
      have HX1 := hide (HX.out.next hb)
      clear hb c0 c1 c2 c3 c4
      obtain ⟨c0, c1, c2, c3, c4⟩ := HX1.out.cells
      go_wp2_with fail
      refine (implHasIndices p k g L C h3 A n c B zs w1 (HI.out.below (HX1.out.2.mono hB)) (Nat.le_trans hB (Nat.le_of_lt HX1.out.lt)) (by omega)).mono ?_
      rw [HII.out]
      rintro e w2 ⟨rfl, hb⟩
      have HX2 := hide (HX1.out.next hb)
      clear hb
      go_wp2_with fail
      go_ret
      exact ⟨ret_int HF.out, HX2.out.2⟩
    · have HF := hide (show xErr p k g L C zs Z = 0 by rw [h4, hi]; rfl)
      have HII := hide hi
      clear h1 h4 hi
      go_enter Tryz.func19, Tryz.ntmps19
      go_wp2_with fail
      refine HW.out.mono ?_
      rw [H1.out]
      rintro e w1 ⟨rfl, hb⟩
      have HX1 := hide (HX.out.next hb)
      clear hb c0 c1 c2 c3 c4
      obtain ⟨c0, c1, c2, c3, c4⟩ := HX1.out.cells
      go_wp2_with fail
      refine (implHasIndices p k g L C h3 A n c B zs w1 (HI.out.below (HX1.out.2.mono hB)) (Nat.le_trans hB (Nat.le_of_lt HX1.out.lt)) (by omega)).mono ?_
      rw [HII.out]
      rintro e w2 ⟨rfl, hb⟩
      have HX2 := hide (HX1.out.next hb)
      clear hb
      go_wp2_with fail
      go_ret
      exact ⟨ret_int HF.out, HX2.out.2⟩

set_option maxRecDepth 100000 in
set_option maxHeartbeats 2000000 in
theorem specXErr (p k g L C : Int) (A : Option Addr) (n c : Nat) (zs : List Int) (Ar : Option Addr) (m mc B : Nat) (Z : List (List Int)) (w : World) (hI : Ints .i64 w B A n zs) (hB : B ≤ w.heap.size) (hn : n ≤ 1048576)
    (hW : Calls Tryz.prog 80 #[.agg #[.int .i64 p, .int .i64 k, .int .i64 g, .int .i64 L, .int .i64 C], .slice Ar m mc] (w.alloc (.cells #[.int .i64 p, .int .i64 k, .int .i64 g, .int .i64 L, .int .i64 C] 27)) (Gives (.int .i64 (wErr p k g L C Z)) (w.alloc (.cells #[.int .i64 p, .int .i64 k, .int .i64 g, .int .i64 L, .int .i64 C] 27)))) :
    Calls Tryz.prog 51 #[.agg #[.int .i64 p, .int .i64 k, .int .i64 g, .int .i64 L, .int .i64 C], .slice A n c, .slice Ar m mc] w (Gives (.int .i64 (xErr p k g L C zs Z)) w) := by
  have HX := hide (CBox.start w p k g L C)
  have HI := hide hI
  have HW := hide hW
  clear hI hW
  obtain ⟨c0, c1, c2, c3, c4⟩ := HX.out.cells
  rcases xErr_of (p := p) (k := k) (g := g) (L := L) (C := C) (zs := zs) (Z := Z) with ⟨cd, h1, h2, h3⟩ | ⟨h1, h2, h3, h4⟩
  · have H1 := hide h1
    have H3 := hide h3
    have e1 : (cd == 0) = false := by simpa using h2
    clear h1 h3
    go_enter Tryz.func51, Tryz.ntmps51
    go_wp2_with fail
    refine HW.out.mono ?_
    rw [H1.out]
    rintro e w1 ⟨rfl, hb⟩
    have HX1 := hide (HX.out.next hb)
    clear hb
    go_wp2_with fail
    go_ret
    exact ⟨ret_int H3.out, HX1.out.2⟩
  · have H1 := hide h1
    rcases hi : idxB L zs with _ | _
    · have HF := hide (show xErr p k g L C zs Z = 5 by rw [h4, hi]; rfl)
      have HII := hide hi
      clear h1 h4 hi
      go_enter Tryz.func51, Tryz.ntmps51
      go_wp2_with fail
      refine HW.out.mono ?_
      rw [H1.out]
      rintro e w1 ⟨rfl, hb⟩
      have HX1 := hide (HX.out.next hb)
      clear hb c0 c1 c2 c3 c4
      obtain ⟨c0, c1, c2, c3, c4⟩ := HX1.out.cells
      go_wp2_with fail
      refine (specIndices p k g L C h2 h3 A n c B zs w1 (HI.out.below (HX1.out.2.mono hB)) (Nat.le_trans hB (Nat.le_of_lt HX1.out.lt)) (by omega)).mono ?_
      rw [HII.out]
      rintro e w2 ⟨rfl, hb⟩
      have HX2 := hide (HX1.out.next hb)
      clear hb
      go_wp2_with fail
      go_ret
      exact ⟨ret_int HF.out, HX2.out.2⟩
    · have HF := hide (show xErr p k g L C zs Z = 0 by rw [h4, hi]; rfl)
      have HII := hide hi
      clear h1 h4 hi
      go_enter Tryz.func51, Tryz.ntmps51
      go_wp2_with fail
      refine HW.out.mono ?_
      rw [H1.out]
      rintro e w1 ⟨rfl, hb⟩
      have HX1 := hide (HX.out.next hb)
      clear hb c0 c1 c2 c3 c4
      obtain ⟨c0, c1, c2, c3, c4⟩ := HX1.out.cells
      go_wp2_with fail
      refine (specIndices p k g L C h2 h3 A n c B zs w1 (HI.out.below (HX1.out.2.mono hB)) (Nat.le_trans hB (Nat.le_of_lt HX1.out.lt)) (by omega)).mono ?_
      rw [HII.out]
      rintro e w2 ⟨rfl, hb⟩
      have HX2 := hide (HX1.out.next hb)
      clear hb
      go_wp2_with fail
      go_ret
      exact ⟨ret_int HF.out, HX2.out.2⟩
end Go.Proofs.YtdniocdmncldjaaGreat
