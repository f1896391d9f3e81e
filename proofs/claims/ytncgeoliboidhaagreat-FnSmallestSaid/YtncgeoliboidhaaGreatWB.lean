/-
  What the laws of fields with a code share: the test of the code's size, a draw of a number, what FieldOf finds.
  The draws of fields: what is drawn is some field; only the source's own block changes.
  Condition: as each statement says.
-/
import Derived.Test.YtncgeoliboidhaaGreatDraw
import Derived.Test.YtncgeoliboidhaaGreatShell
import Derived.Test.YtncgeoliboidhaaGreatLike
import Derived.Test.YtncgeoliboidhaaGreatVA
import Derived.Test.YtncgeoliboidhaaGreatFOfSpec
import Derived.Test.YtncgeoliboidhaaGreatVC
namespace Go.Proofs.YtncgeoliboidhaaGreat
open Go.RowKit
set_option linter.unusedVariables false

theorem bd_u8 {n : Int} (h : (Lit.int .u8 n).wf = true) : 0 ≤ n ∧ n ≤ 255 := by
  simp [Lit.wf, IntKind.min, IntKind.max, IntKind.signed, IntKind.bits] at h
  omega
theorem below_src {w w1 w2 : World} (h : Below w.heap.size w w1) (hg : w1.grownBy w2 (some w.heap.size)) : Below w.heap.size w w2 :=
  h.grown hg h.size (fun k hk => by injection hk; omega)

theorem fo_cases (s : Int) : (foC s = 4 ∧ foP s = 0 ∧ foK s = 0 ∧ foG s = 0) ∨
    (foC s = 0 ∧ fieldB (foP s) (foK s) (foG s) = true ∧ fsize (foP s) (foK s) (foG s) = s ∧ fieldB (foP s) (foK s) (foG s - 1) = false ∧ 1 ≤ foG s ∧ foG s ≤ 2000) := by
  rcases h1 : k1B s 1 with _ | _
  · rcases hp : isPow s with _ | K
    · have h := fo_0 h1 hp
      exact .inl ⟨h.2.2.2, h.1, h.2.1, h.2.2.1⟩
    · have h := fo_2 h1 hp
      by_cases hG : powG K = 0
      · simp only [lowP, lowK, lowC, hG, if_true] at h
        exact .inl ⟨h.2.2.2, h.1, h.2.1, h.2.2.1⟩
      · have hK : 3 ≤ K ∧ K ≤ 8 ∧ s = 2 ^ K := by
          rw [isPow, List.find?_range_eq_some] at hp
          obtain ⟨h2, h3, _⟩ := hp
          simp only [Bool.and_eq_true, decide_eq_true_eq] at h2
          have := List.mem_range.1 h3
          exact ⟨h2.1, by omega, h2.2⟩
        obtain ⟨h3, h8, hs⟩ := hK
        obtain ⟨g1, g2, g3, g4⟩ := powG_spec hG
        have hsm := pow_small h3 h8
        simp only [lowP, lowK, lowC, hG, if_false] at h
        obtain ⟨e1, e2, e3, e4⟩ := h
        rw [e1, e2, e3, e4]
        have hp2 : 2 ^ (K + 1) = 2 * 2 ^ K := by rw [Nat.pow_succ]; omega
        refine .inr ⟨rfl, g3, ?_, ?_, by omega, by omega⟩
        · rw [fsize, if_pos g3, sizeI, if_pos rfl, Int.toNat_natCast, hs]
        · obtain ⟨j, hj⟩ : ∃ j : Nat, powG K = j + 1 := ⟨powG K - 1, by omega⟩
          rw [hj, show ((j + 1 : Nat) : Int) - 1 = (j : Int) by omega]
          rcases Nat.lt_or_ge j (2 ^ K) with h5 | h5
          · refine fieldB_0 ?_ ?_
            · rw [k1B, Bool.and_eq_false_iff]; left; simp
            · rw [k2B, decide_eq_false_iff_not, Int.toNat_natCast]
              intro hh
              have h6 : ((2 ^ K : Nat) : Int) ≤ (j : Int) := by push_cast; exact hh.2.2.2.1
              omega
          · exact g4 j (by omega) h5
  · obtain ⟨P, rfl, _, h3, h4, hp⟩ := k1_open h1
    obtain ⟨e1, e2, e3, e4⟩ := fo_1 h1
    obtain ⟨l1, l2, l3, _⟩ := least_spec (prime_gen h3 h4 hp)
    rw [e1, e2, e3, e4]
    have hF : fieldB P 1 (least P (mul1 P) : Nat) = true := by rw [fieldB_1 h3 h4 hp]; simp
    refine .inr ⟨rfl, hF, ?_, ?_, by omega, by omega⟩
    · rw [fsize, if_pos hF, sizeI, if_neg (by omega)]
    · rw [fieldB_1 h3 h4 hp, decide_eq_false_iff_not]; omega

def DrawnN (w : World) (x : Ending) (w' : World) : Prop := ∃ z : Int, x = .returned (.int .i64 z) ∧ Below w.heap.size w w'

end Go.Proofs.YtncgeoliboidhaaGreat

namespace Go.Proofs.YtncgeoliboidhaaGreat
open Go.RowKit
set_option linter.unusedVariables false
set_option linter.unusedSimpArgs false

theorem heap_belowF {w w' : World} {i : Nat} {o : Obj} (h : w.heap[i]? = some o) (hb : Below w.heap.size w w') : w'.heap[i]? = some o := by
  rw [hb.block i (Array.getElem?_eq_some_iff.1 h).1]; exact h
theorem grown_belowF {a w w' : World} {row : Option Nat} {B : Nat} (h : a.grownBy w row) (hb : Below B w w') (hB : a.heap.size ≤ B) : a.grownBy w' row :=
  ⟨hb.os.trans h.os, hb.tape.trans h.tape, hb.output.trans h.output, Nat.le_trans h.size hb.size, fun i hi hne => (hb.block i (by omega)).trans (h.block i hi hne)⟩
theorem grown_alloc {a w : World} {row : Option Nat} (h : a.grownBy w row) (o : Obj) : a.grownBy (w.alloc o) row := grown_trans h (World.grownBy_alloc w o row)
theorem grown_set2 {a w : World} {row : Option Nat} (h : a.grownBy w row) (b o : Nat) (v : Value) (hb : a.heap.size ≤ b) : a.grownBy (w.setCell ⟨b, o, none⟩ v) row :=
  ⟨h.os, h.tape, h.output, by have := h.size; simp [World.setCell]; exact this, fun i hi hne => (Below.heap_setCell w ⟨b, o, none⟩ v i (by simp; omega)).trans (h.block i hi hne)⟩

theorem set3_src {w : World} {g Bc N : Nat} {A : Option Addr} {n c : Nat} {code : List Int} (h : Src w g Bc A n c code) (hN : g < N) (a b d : Value) :
    Src (((w.setCell ⟨N, 0, none⟩ a).setCell ⟨N, 1, none⟩ b).setCell ⟨N, 2, none⟩ d) g Bc A n c code :=
  h.still (row := some N) (grown_set (grown_set (grown_set (World.grownBy.refl _ _) 0 _) 1 _) 2 _) (fun r hr => by injection hr; omega)
theorem set3_grown {a w : World} {row : Option Nat} (h : a.grownBy w row) (N : Nat) (hN : a.heap.size ≤ N) (x y z : Value) :
    a.grownBy (((w.setCell ⟨N, 0, none⟩ x).setCell ⟨N, 1, none⟩ y).setCell ⟨N, 2, none⟩ z) row :=
  grown_set2 (grown_set2 (grown_set2 h N 0 x hN) N 1 y hN) N 2 z hN

theorem set1_src {w : World} {g Bc N : Nat} {A : Option Addr} {n c : Nat} {code : List Int} (h : Src w g Bc A n c code) (hN : g < N) (o : Nat) (a : Value) : Src (w.setCell ⟨N, o, none⟩ a) g Bc A n c code :=
  h.still (row := some N) (grown_set (World.grownBy.refl _ _) o _) (fun r hr => by injection hr; omega)
theorem row_alloc {w : World} {N : Nat} {o : Obj} (h : w.heap[N]? = some o) (o' : Obj) : (w.alloc o').heap[N]? = some o := heap_belowF h ((Below.refl _ _).alloc (Nat.le_refl _) o')
theorem row_grown {w w' : World} {N g : Nat} {o : Obj} (h : w.heap[N]? = some o) (hg : w.grownBy w' (some g)) (hne : g ≠ N) : w'.heap[N]? = some o := by
  rw [hg.block N (Array.getElem?_eq_some_iff.1 h).1 (fun e => hne (by injection e with e; exact e.symm))]; exact h

/-- What a draw of a field leaves. -/
def DrawnF (g Bc : Nat) (A : Option Addr) (n c : Nat) (code : List Int) (w : World) (x : Ending) (w' : World) : Prop :=
  ∃ p k γ : Int, x = .returned (.agg #[.int .i64 p, .int .i64 k, .int .i64 γ]) ∧ Src w' g Bc A n c code ∧ w.grownBy w' (some g)
/-- The block of a result that is still 0. -/
def Zero3 (w : World) (N : Nat) : Prop := w.heap[N]? = some (.cells #[.int .i64 0, .int .i64 0, .int .i64 0] 25 (0, 0))
theorem Zero3.cells {w : World} {N : Nat} (h : Zero3 w N) : w.cell? ⟨N, 0, none⟩ = some (.int .i64 0) ∧ w.cell? ⟨N, 1, none⟩ = some (.int .i64 0) ∧ w.cell? ⟨N, 2, none⟩ = some (.int .i64 0) := cells3 h
theorem Zero3.frozen {w : World} {N : Nat} (h : Zero3 w N) : w.frozen? ⟨N, 0, none⟩ = false ∧ w.frozen? ⟨N, 1, none⟩ = false ∧ w.frozen? ⟨N, 2, none⟩ = false :=
  ⟨frozen_of_row w _ 0 _ _ h, frozen_of_row w _ 1 _ _ h, frozen_of_row w _ 2 _ _ h⟩
theorem Zero3.lt {w : World} {N : Nat} (h : Zero3 w N) : N < w.heap.size := (Array.getElem?_eq_some_iff.1 h).1
theorem Zero3.grown {w w' : World} {N g : Nat} (h : Zero3 w N) (hg : w.grownBy w' (some g)) (hne : g ≠ N) : Zero3 w' N := by
  unfold Zero3; rw [hg.block N h.lt (fun e => hne (by injection e with e; exact e.symm))]; exact h
theorem Zero3.below {w w' : World} {N : Nat} (h : Zero3 w N) (hb : Below w.heap.size w w') : Zero3 w' N := heap_belowF h hb
theorem Zero3.alloc {w : World} {N : Nat} (h : Zero3 w N) (o : Obj) : Zero3 (w.alloc o) N := h.below ((Below.refl _ _).alloc (Nat.le_refl _) o)
theorem Zero3.start (w : World) : Zero3 (w.alloc (.cells #[.int .i64 0, .int .i64 0, .int .i64 0] 25)) w.heap.size := heap_alloc_new w _

set_option maxHeartbeats 1000000 in
theorem drawField (g Bc : Nat) (A : Option Addr) (n c : Nat) (code : List Int) (w : World) (hS : Src w g Bc A n c code) :
    Calls Tryz.prog 84 #[.pointer (some ⟨g, 0, none⟩)] w (DrawnF g Bc A n c code w) := by
  have hgl := hS.lt
  have HS := hide ((hS.still (World.grownBy_alloc w (.cells #[.int .i64 0, .int .i64 0, .int .i64 0] 25) none) (by simp)))
  have HZ := hide (Zero3.start w)
  clear hS
  go_enter Tryz.func84, Tryz.ntmps84
  go_wp2_with fail
  refine (next_any g Bc A n c code 12 _ (HS.out.still (World.grownBy_alloc _ _ none) (by simp)) (by omega)).mono ?_
  rintro e w1 ⟨r, rfl, hr0, hr1, hs, hg⟩
  obtain ⟨r, rfl⟩ : ∃ m : Nat, r = m := ⟨r.toNat, by omega⟩
  obtain ⟨z, hz⟩ : ∃ z, w1.cell? ⟨w.heap.size + 1, r, none⟩ = some (.int .i64 z) := by
    rw [grown_cell hg (by simp) (fun h => by simp at h; omega), World.cell?_alloc_at _ _ _ _ (by rw [alloc_size])]
    rcases (show r = 0 ∨ r = 1 ∨ r = 2 ∨ r = 3 ∨ r = 4 ∨ r = 5 ∨ r = 6 ∨ r = 7 ∨ r = 8 ∨ r = 9 ∨ r = 10 ∨ r = 11 by omega) with rfl | rfl | rfl | rfl | rfl | rfl | rfl | rfl | rfl | rfl | rfl | rfl <;> exact ⟨_, rfl⟩
  have HS1 := hide hs
  have HZ1 := hide ((HZ.out.alloc _).grown hg (by omega))
  have HG1 := hide (grown_trans (grown_alloc (World.grownBy_alloc w _ (some g)) _) hg)
  clear hs hg
  go_wp2_with fail
  refine (specFieldOf z _).mono ?_
  rintro e w2 ⟨rfl, hb⟩
  have HS2 := hide (HS1.out.below hb HS1.out.lt)
  have HZ2 := hide (HZ1.out.below hb)
  have HG2 := hide (grown_belowF HG1.out hb HG1.out.size)
  clear hb hz
  generalize foP z = p
  generalize foK z = k
  generalize foG z = γ
  have hzl := HZ2.out.lt
  obtain ⟨c0, c1, c2⟩ := HZ2.out.cells
  obtain ⟨f0, f1, f2⟩ := HZ2.out.frozen
  go_wp2_with fail
  refine bodyPost_ret (v := .agg #[.int .i64 p, .int .i64 k, .int .i64 γ]) (by simp [results, Tryz.results84, go_sem, c0, c1, c2, hzl]) rfl ⟨p, k, γ, rfl, ?_, ?_⟩
  · exact (set3_src HS2.out hgl _ _ _).still (World.grownBy_alloc _ _ none) (by simp)
  · exact grown_alloc (set3_grown HG2.out _ (Nat.le_refl _) _ _ _) _

set_option maxHeartbeats 2000000 in
theorem drawAny (g Bc : Nat) (A : Option Addr) (n c : Nat) (code : List Int) (w : World) (hS : Src w g Bc A n c code) :
    Calls Tryz.prog 36 #[.pointer (some ⟨g, 0, none⟩)] w (DrawnF g Bc A n c code w) := by
  have hgl := hS.lt
  have HS := hide ((hS.still (World.grownBy_alloc w (.cells #[.int .i64 0, .int .i64 0, .int .i64 0] 25) none) (by simp)))
  have HZ := hide (Zero3.start w)
  clear hS
  go_enter Tryz.func36, Tryz.ntmps36
  go_wp2_with fail
  refine (drawField g Bc A n c code _ HS.out).mono ?_
  rintro e w1 ⟨p, k, γ, rfl, hs, hg⟩
  have HS1 := hide (hs.still (World.grownBy_alloc w1 (.cells #[.int .i64 p, .int .i64 k, .int .i64 γ] 25) none) (by simp))
  have HZ1 := hide ((HZ.out.grown hg (by omega)).alloc (.cells #[.int .i64 p, .int .i64 k, .int .i64 γ] 25))
  have HG1 := hide (grown_alloc (grown_trans (World.grownBy_alloc w _ (some g)) hg) (.cells #[.int .i64 p, .int .i64 k, .int .i64 γ] 25))
  have hl1 : w.heap.size < w1.heap.size := (HZ.out.grown hg (by omega)).lt
  clear hs hg
  go_wp2_with fail
  refine (next_any g Bc A n c code 20 _ HS1.out (by omega)).mono ?_
  rintro e w2 ⟨y, rfl, hy0, hy1, hs, hg⟩
  have HS2 := hide hs
  have HZ2 := hide (HZ1.out.grown hg (by omega))
  have HG2 := hide (grown_trans HG1.out hg)
  have HF2 := hide (show w2.heap[w1.heap.size]? = some (.cells #[.int .i64 p, .int .i64 k, .int .i64 γ] 25 (0, 0)) by
    rw [hg.block _ (by rw [alloc_size]; omega) (fun e => by injection e; omega)]; exact heap_alloc_new w1 _)
  clear hs hg
  obtain ⟨c0, c1, c2⟩ := HZ2.out.cells
  obtain ⟨f0, f1, f2⟩ := HZ2.out.frozen
  obtain ⟨d0, d1, d2⟩ := cells3 HF2.out
  have e0 : w2.frozen? ⟨w1.heap.size, 0, none⟩ = false := frozen_of_row w2 _ 0 _ _ HF2.out
  have e1 : w2.frozen? ⟨w1.heap.size, 1, none⟩ = false := frozen_of_row w2 _ 1 _ _ HF2.out
  have e2 : w2.frozen? ⟨w1.heap.size, 2, none⟩ = false := frozen_of_row w2 _ 2 _ _ HF2.out
  have hl2 : w1.heap.size < w2.heap.size := (Array.getElem?_eq_some_iff.1 HF2.out).1
  by_cases hz0 : y = 0
  · subst hz0
    go_wp2_with fail
    refine bodyPost_ret (v := .agg #[.int .i64 p, .int .i64 k, .int .i64 (wrap64 (γ + 1))]) (by simp [results, Tryz.results36, go_sem, c0, c1, c2, hl1]) rfl ⟨p, k, _, rfl, ?_, ?_⟩
    · exact set3_src (set1_src HS2.out (by omega) 2 _) hgl _ _ _
    · exact set3_grown (grown_set2 HG2.out _ 2 _ (by omega)) _ (Nat.le_refl _) _ _ _
  by_cases hz1 : y = 1
  · subst hz1
    go_wp2_with fail
    refine (next_any g Bc A n c code 4 _ (HS2.out.still (World.grownBy_alloc w2 _ none) (by simp)) (by omega)).mono ?_
    rintro e w3 ⟨r, rfl, hr0, hr1, hs, hg⟩
    obtain ⟨r, rfl⟩ : ∃ m : Nat, r = m := ⟨r.toNat, by omega⟩
    obtain ⟨z, hz⟩ : ∃ z, w3.cell? ⟨w2.heap.size, r, none⟩ = some (.int .i64 z) := by
      rw [grown_cell hg (by simp) (fun h => by simp at h; omega), World.cell?_alloc_at _ _ _ _ rfl]
      rcases (show r = 0 ∨ r = 1 ∨ r = 2 ∨ r = 3 by omega) with rfl | rfl | rfl | rfl <;> exact ⟨_, rfl⟩
    have HS3 := hide hs
    have HZ3 := hide ((HZ2.out.alloc _).grown hg (by omega))
    have HG3 := hide (grown_trans (grown_alloc HG2.out _) hg)
    have HF3 := hide (row_grown (row_alloc HF2.out _) hg (by omega))
    clear hs hg c0 c1 c2 f0 f1 f2 d0 d1 d2 e0 e1 e2
    obtain ⟨c0, c1, c2⟩ := HZ3.out.cells
    obtain ⟨f0, f1, f2⟩ := HZ3.out.frozen
    obtain ⟨d0, d1, d2⟩ := cells3 HF3.out
    have e0 : w3.frozen? ⟨w1.heap.size, 1, none⟩ = false := frozen_of_row w3 _ 1 _ _ HF3.out
    go_wp2_with fail
    refine bodyPost_ret (v := .agg #[.int .i64 p, .int .i64 z, .int .i64 γ]) (by simp [results, Tryz.results36, go_sem, c0, c1, c2, hl1]) rfl ⟨p, z, γ, rfl, ?_, ?_⟩
    · exact set3_src (set1_src HS3.out (by omega) 1 _) hgl _ _ _
    · exact set3_grown (grown_set2 HG3.out _ 1 _ (by omega)) _ (Nat.le_refl _) _ _ _
  by_cases hz2 : y = 2
  · subst hz2
    go_wp2_with fail
    refine (next_any g Bc A n c code 6 _ (HS2.out.still (World.grownBy_alloc w2 _ none) (by simp)) (by omega)).mono ?_
    rintro e w3 ⟨r, rfl, hr0, hr1, hs, hg⟩
    obtain ⟨r, rfl⟩ : ∃ m : Nat, r = m := ⟨r.toNat, by omega⟩
    obtain ⟨z, hz⟩ : ∃ z, w3.cell? ⟨w2.heap.size, r, none⟩ = some (.int .i64 z) := by
      rw [grown_cell hg (by simp) (fun h => by simp at h; omega), World.cell?_alloc_at _ _ _ _ rfl]
      rcases (show r = 0 ∨ r = 1 ∨ r = 2 ∨ r = 3 ∨ r = 4 ∨ r = 5 by omega) with rfl | rfl | rfl | rfl | rfl | rfl <;> exact ⟨_, rfl⟩
    have HS3 := hide hs
    have HZ3 := hide ((HZ2.out.alloc _).grown hg (by omega))
    have HG3 := hide (grown_trans (grown_alloc HG2.out _) hg)
    have HF3 := hide (row_grown (row_alloc HF2.out _) hg (by omega))
    clear hs hg c0 c1 c2 f0 f1 f2 d0 d1 d2 e0 e1 e2
    obtain ⟨c0, c1, c2⟩ := HZ3.out.cells
    obtain ⟨f0, f1, f2⟩ := HZ3.out.frozen
    obtain ⟨d0, d1, d2⟩ := cells3 HF3.out
    have e0 : w3.frozen? ⟨w1.heap.size, 0, none⟩ = false := frozen_of_row w3 _ 0 _ _ HF3.out
    go_wp2_with fail
    refine bodyPost_ret (v := .agg #[.int .i64 z, .int .i64 k, .int .i64 γ]) (by simp [results, Tryz.results36, go_sem, c0, c1, c2, hl1]) rfl ⟨z, k, γ, rfl, ?_, ?_⟩
    · exact set3_src (set1_src HS3.out (by omega) 0 _) hgl _ _ _
    · exact set3_grown (grown_set2 HG3.out _ 0 _ (by omega)) _ (Nat.le_refl _) _ _ _
  by_cases hz3 : y = 3
  · subst hz3
    go_wp2_with fail
    refine (next_any g Bc A n c code 4 _ (HS2.out.still (World.grownBy_alloc w2 _ none) (by simp)) (by omega)).mono ?_
    rintro e w3 ⟨r, rfl, hr0, hr1, hs, hg⟩
    obtain ⟨r, rfl⟩ : ∃ m : Nat, r = m := ⟨r.toNat, by omega⟩
    obtain ⟨x0, x1, x2, hx0, hx1, hx2⟩ : ∃ x0 x1 x2, w3.cell? ⟨w2.heap.size, r * 3, none⟩ = some (.int .i64 x0) ∧ w3.cell? ⟨w2.heap.size, r * 3 + 1, none⟩ = some (.int .i64 x1) ∧ w3.cell? ⟨w2.heap.size, r * 3 + 2, none⟩ = some (.int .i64 x2) := by
      rw [grown_cell hg (by simp) (fun h => by simp at h; omega), grown_cell hg (by simp) (fun h => by simp at h; omega), grown_cell hg (by simp) (fun h => by simp at h; omega), World.cell?_alloc_at _ _ _ _ rfl, World.cell?_alloc_at _ _ _ _ rfl, World.cell?_alloc_at _ _ _ _ rfl]
      rcases (show r = 0 ∨ r = 1 ∨ r = 2 ∨ r = 3 by omega) with rfl | rfl | rfl | rfl <;> exact ⟨_, _, _, rfl, rfl, rfl⟩
    have HS3 := hide hs
    have HZ3 := hide ((HZ2.out.alloc _).grown hg (by omega))
    have HG3 := hide (grown_trans (grown_alloc HG2.out _) hg)
    clear hs hg c0 c1 c2 f0 f1 f2 d0 d1 d2 e0 e1 e2
    obtain ⟨c0, c1, c2⟩ := HZ3.out.cells
    obtain ⟨f0, f1, f2⟩ := HZ3.out.frozen
    go_wp2_with fail
    refine bodyPost_ret (v := .agg #[.int .i64 x0, .int .i64 x1, .int .i64 x2]) (by simp [results, Tryz.results36, go_sem, c0, c1, c2, hl1]) rfl ⟨x0, x1, x2, rfl, ?_, ?_⟩
    · exact set3_src HS3.out hgl _ _ _
    · exact set3_grown HG3.out _ (Nat.le_refl _) _ _ _
  · have b0 : (y == 0) = false := by simpa using hz0
    have b1 : (y == 1) = false := by simpa using hz1
    have b2 : (y == 2) = false := by simpa using hz2
    have b3 : (y == 3) = false := by simpa using hz3
    clear hz0 hz1 hz2 hz3
    go_wp2_with fail
    refine bodyPost_ret (v := .agg #[.int .i64 p, .int .i64 k, .int .i64 γ]) (by simp [results, Tryz.results36, go_sem, c0, c1, c2, hl1]) rfl ⟨p, k, γ, rfl, ?_, ?_⟩
    · exact set3_src HS2.out hgl _ _ _
    · exact set3_grown HG2.out _ (Nat.le_refl _) _ _ _

end Go.Proofs.YtncgeoliboidhaaGreat
