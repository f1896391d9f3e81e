/-
  The contracts of the model's source of draws: what is drawn lies in its range, and only the source's own block changes.
  What the laws of fields with a code share: the test of the code's size, a draw of a number, what FieldOf finds.
  The contracts of the draws of fields and of their elements: what is drawn is some field and some number; only the source's own block changes.
  The contracts of the draws of a field with one or two numbers.
  The contract of the draw of a polynomial: a new list; of the old memory only the source's own block changes.
  The contracts of the draws of a field with one or two polynomials: some field, some short lists, no old memory changed.
  The contracts of the draws of fields that are valid, and of codes: what is drawn lies in bounds; only the source's own block changes.
  The contracts of the draws of codes: what is drawn lies in bounds; only the source's own block changes.
  The contract of the draw of a layout: what is drawn lies in bounds; only the source's own block changes.
  The contract of the draw of any layout: what is drawn lies in bounds; only the source's own block changes.
  The contracts of the draws of data for a layout: a new list; of the old memory only the source's own block changes.
  Condition: as each statement says.
-/
import Derived.Test.YtlphodhecaagbaaGreatProg
import Derived.Test.YtlphodhecaagbaaGreatJA
import Derived.Deep.QuietTactic
import Derived.BigQuiet
import Derived.RegionTactic
import Derived.ChangeAlike
import Derived.Test.YtlphodhecaagbaaGreatJH
import Derived.Test.YtlphodhecaagbaaGreatJD
import Derived.Test.YtlphodhecaagbaaGreatJC
import Derived.Test.YtlphodhecaagbaaGreatJB
import Derived.RegionCalls
import Derived.Test.YtlphodhecaagbaaGreatJG
import Derived.Test.YtlphodhecaagbaaGreatJK
import Derived.Test.YtlphodhecaagbaaGreatCLaw
import Derived.Test.YtlphodhecaagbaaGreatTail2
import Derived.Test.YtlphodhecaagbaaGreatLay5
namespace Go.Proofs.YtlphodhecaagbaaGreat
open Go.RowKit

/-- Block g is a source of draws over a code that lies below block Bc. -/
def Src (w : World) (g Bc : Nat) (A : Option Addr) (n c : Nat) (code : List Int) : Prop :=
  Ints .u8 w Bc A n code ∧ Bc ≤ g ∧ n ≤ 4096 ∧ (∀ b ∈ code, 0 ≤ b ∧ b ≤ 255) ∧
  ∃ (p : Nat) (sd : Int), p ≤ n ∧ 0 ≤ sd ∧ sd ≤ 2147483646 ∧ w.heap[g]? = some (.cells #[.slice A n c, .int .i64 p, .int .i64 sd] 82 (0, 0))

theorem Src.still {w w' : World} {g Bc : Nat} {A : Option Addr} {n c : Nat} {code : List Int} {row : Option Nat} (h : Src w g Bc A n c code) (hg : w.grownBy w' row) (hr : ∀ r, row = some r → g < r) : Src w' g Bc A n c code := by
  obtain ⟨h1, h2, h3, h4, p, sd, h5, h6, h7, h8⟩ := h
  have hlt : g < w.heap.size := (Array.getElem?_eq_some_iff.1 h8).1
  refine ⟨h1.keep fun b o hb => ?_, h2, h3, h4, p, sd, h5, h6, h7, ?_⟩
  · exact World.cell?_of_block (hg.block b (by omega) (fun e => by have := hr b e.symm; omega))
  · rw [hg.block g hlt (fun e => by have := hr g e.symm; omega)]; exact h8
theorem Src.below {w w' : World} {g Bc : Nat} {A : Option Addr} {n c : Nat} {code : List Int} {B : Nat} (h : Src w g Bc A n c code) (hb : Below B w w') (hB : g < B) : Src w' g Bc A n c code := by
  obtain ⟨h1, h2, h3, h4, p, sd, h5, h6, h7, h8⟩ := h
  exact ⟨h1.below (hb.mono (by omega)), h2, h3, h4, p, sd, h5, h6, h7, by rw [hb.block g hB]; exact h8⟩
theorem Src.lt {w : World} {g Bc : Nat} {A : Option Addr} {n c : Nat} {code : List Int} (h : Src w g Bc A n c code) : g < w.heap.size := by
  obtain ⟨h1, h2, h3, h4, p, sd, h5, h6, h7, h8⟩ := h
  exact (Array.getElem?_eq_some_iff.1 h8).1

/-- What a draw of a number below m leaves. -/
def Drawn (g Bc : Nat) (A : Option Addr) (n c : Nat) (code : List Int) (m : Int) (w : World) (x : Ending) (w' : World) : Prop :=
  ∃ y : Int, x = .returned (.int .i64 y) ∧ 0 ≤ y ∧ (y < m ∨ y = 0) ∧ Src w' g Bc A n c code ∧ w.grownBy w' (some g)

theorem grown_set {a w : World} {g : Nat} (h : a.grownBy w (some g)) (j : Nat) (u : Value) : a.grownBy (w.setCell ⟨g, j, none⟩ u) (some g) :=
  grown_trans h ⟨rfl, rfl, rfl, by simp [World.setCell], fun i _ hne => Below.heap_setCell w ⟨g, j, none⟩ u i (fun e => hne (by simp [e]))⟩

theorem drawn_mk {g Bc : Nat} {A : Option Addr} {n c : Nat} {code : List Int} {m y sd sd' : Int} {p p' : Nat} {w w' : World}
    (hI : Ints .u8 w Bc A n code) (hBc : Bc ≤ g) (hn : n ≤ 4096) (hb : ∀ b ∈ code, 0 ≤ b ∧ b ≤ 255) (hp : p' ≤ n) (h0 : 0 ≤ sd') (h1 : sd' ≤ 2147483646)
    (hh : w'.heap[g]? = some (.cells #[.slice A n c, .int .i64 p', .int .i64 sd'] 82 (0, 0))) (hg : w.grownBy w' (some g)) (hw : w.heap[g]? = some (.cells #[.slice A n c, .int .i64 p, .int .i64 sd] 82 (0, 0))) (hy0 : 0 ≤ y) (hy : y < m ∨ y = 0) :
    Drawn g Bc A n c code m w (.returned (.int .i64 y)) w' := by
  have hlt : g < w.heap.size := (Array.getElem?_eq_some_iff.1 hw).1
  refine ⟨y, rfl, hy0, hy, ⟨hI.keep fun b o hb => World.cell?_of_block (hg.block b (by omega) (fun e => by injection e; omega)), hBc, hn, hb, p', sd', hp, h0, h1, hh⟩, hg⟩

set_option maxHeartbeats 1000000 in
set_option maxRecDepth 100000 in
theorem next_any (g Bc : Nat) (A : Option Addr) (n c : Nat) (code : List Int) (m : Int) (w : World) (hS : Src w g Bc A n c code) (hm : m ≤ 4611686018427387904) :
    Calls Tryz.prog 45 #[.pointer (some ⟨g, 0, none⟩), .int .i64 m] w (Drawn g Bc A n c code m w) := by
  obtain ⟨hI, hBc, hn, hby, p, sd, hp, hs0, hs1, hh⟩ := hS
  have HI := hide hI
  have hl := hide hI.len
  have HBY := hide hby
  have HH := hide hh
  have c0 : w.cell? ⟨g, 0, none⟩ = some (.slice A n c) := cell_of_row w g 0 _ _ _ hh
  have c1 : w.cell? ⟨g, 1, none⟩ = some (.int .i64 p) := cell_of_row w g 1 _ _ _ hh
  have c2 : w.cell? ⟨g, 2, none⟩ = some (.int .i64 sd) := cell_of_row w g 2 _ _ _ hh
  have f1 : w.frozen? ⟨g, 1, none⟩ = false := frozen_of_row w g 1 _ _ hh
  have f2 : w.frozen? ⟨g, 2, none⟩ = false := frozen_of_row w g 2 _ _ hh
  clear hI hby hh
  by_cases hm1 : m ≤ 1
  · clear c0 c1 c2 f1 f2
    go_enter Tryz.func45, Tryz.ntmps45
    go_wp2
    go_ret
    exact drawn_mk HI hBc hn HBY hp hs0 hs1 HH (World.grownBy.refl _ _) HH (Int.le_refl _) (.inr rfl)
  · by_cases hpn : p < n
    · obtain ⟨b, off, x, rfl, hb, hx, hc⟩ := HI.out.at_ hpn
      have hxb := HBY.out x (List.mem_of_getElem? hx)
      obtain ⟨hx0, hx1⟩ := hxb
      clear hx
      have z1 : (p : Int) < (n : Int) := by omega
      have z0 : (0 : Int) ≤ (p : Int) := by omega
      have hbg : b ≠ g := by omega
      have HBD := hide (show 0 ≤ (sd * 48271 + 11) % 2147483647 ∧ (sd * 48271 + 11) % 2147483647 ≤ 2147483646 by omega)
      by_cases hm2 : m ≤ 256
      · by_cases hpar : (p + 1) % 2 = 0
        · have hq : (((p : Int) + 1) % 2 == 0) = true := by simp; omega
          go_enter Tryz.func45, Tryz.ntmps45
          go_wp2
          go_quiet (fail)
          go_wp2
          go_quiet (fail)
          go_wp2
          go_quiet (fail)
          go_wp2
          go_ret
          exact drawn_mk (p' := p + 1) (sd' := (sd * 48271 + 11) % 2147483647) HI hBc hn HBY (by omega) HBD.out.1 HBD.out.2 (heap_setCell_same _ g 1 _ _ _ (heap_setCell_same w g 2 _ _ _ HH)) (grown_drewN (grown_set (grown_drewN (grown_set (World.grownBy.refl _ _) 2 _) _) 1 _) _) HH (Int.emod_nonneg _ (by omega)) (.inl (Int.emod_lt_of_pos _ (by omega)))
        · have hq : (((p : Int) + 1) % 2 == 0) = false := by simp; omega
          go_enter Tryz.func45, Tryz.ntmps45
          go_wp2
          go_quiet (fail)
          go_wp2
          go_quiet (fail)
          go_wp2
          go_ret
          exact drawn_mk (p' := p + 1) (sd' := (sd * 48271 + 11) % 2147483647) HI hBc hn HBY (by omega) HBD.out.1 HBD.out.2 (heap_setCell_same _ g 1 _ _ _ (heap_setCell_same w g 2 _ _ _ HH)) (grown_drewN (grown_set (grown_set (World.grownBy.refl _ _) 2 _) 1 _) _) HH (Int.emod_nonneg _ (by omega)) (.inl (Int.emod_lt_of_pos _ (by omega)))
      · have hq : decide (m ≤ 256) = false := by simpa using hm2
        go_enter Tryz.func45, Tryz.ntmps45
        go_wp2
        go_quiet (fail)
        go_wp2
        go_quiet (fail)
        go_wp2
        go_ret
        exact drawn_mk (p' := p + 1) (sd' := (sd * 48271 + 11) % 2147483647) HI hBc hn HBY (by omega) HBD.out.1 HBD.out.2 (heap_setCell_same _ g 1 _ _ _ (heap_setCell_same w g 2 _ _ _ HH)) (grown_drewN (grown_set (grown_set (World.grownBy.refl _ _) 2 _) 1 _) _) HH (Int.emod_nonneg _ (by omega)) (.inl (Int.emod_lt_of_pos _ (by omega)))
    · have hd : decide ((p : Int) < (n : Int)) = false := by simp; omega
      have hbd : 0 ≤ (sd * 48271 + 11) % 2147483647 ∧ (sd * 48271 + 11) % 2147483647 ≤ 2147483646 := by omega
      have HBD := hide hbd
      clear hbd
      go_enter Tryz.func45, Tryz.ntmps45
      go_wp2
      go_quiet (fail)
      go_wp2
      go_ret
      exact drawn_mk (p' := p) (sd' := (sd * 48271 + 11) % 2147483647) HI hBc hn HBY hp HBD.out.1 HBD.out.2 (heap_setCell_same w g 2 _ _ _ HH) (grown_drewN (grown_set (World.grownBy.refl _ _) 2 _) _) HH (Int.emod_nonneg _ (by omega)) (.inl (Int.emod_lt_of_pos _ (by omega)))

def FromRel (A : Option Addr) (n c : Nat) (w : World) (i : Value) (wr : World) : Prop :=
  ∃ (k : Nat) (sd : Int), k ≤ n ∧ i = .int .i64 k ∧ 0 ≤ sd ∧ sd ≤ 2147483646 ∧ wr.heap[w.heap.size]? = some (.cells #[.slice A n c, .int .i64 0, .int .i64 sd] 82 (0, 0)) ∧ Below w.heap.size w wr

/-- What the making of a source leaves. -/
def Sourced (A : Option Addr) (n c : Nat) (code : List Int) (w : World) (x : Ending) (w' : World) : Prop :=
  x = .returned (.pointer (some ⟨w.heap.size, 0, none⟩)) ∧ Src w' w.heap.size w.heap.size A n c code ∧ Below w.heap.size w w'

set_option maxHeartbeats 1000000 in
theorem from_any (A : Option Addr) (n c : Nat) (code : List Int) (w : World) (hI : Ints .u8 w w.heap.size A n code) (hn : n ≤ 4096) (hby : ∀ b ∈ code, 0 ≤ b ∧ b ≤ 255) :
    Calls Tryz.prog 27 #[.slice A n c] w (Sourced A n c code w) := by
  have HI := hide hI
  have HBY := hide hby
  clear hI hby
  go_enter Tryz.func27, Tryz.ntmps27
  go_wp2
  go_loopw [4] (fun i wr => FromRel A n c w i wr) (fun i _ => n - (intOf i).toNat)
  case atStart => exact ⟨0, 60617, by omega, rfl, by omega, by omega, heap_alloc_new w _, (Below.refl _ _).alloc (Nat.le_refl _) _⟩
  case round =>
    obtain ⟨k, sd, hk, rfl, hs0, hs1, hh, hBl⟩ := hrel
    have HH := hide hh
    have HBl := hide hBl
    clear hh hBl
    by_cases hlt : k < n
    · by_cases h64 : k < 64
      · obtain ⟨b, off, x, rfl, hb, hx, hc⟩ := (HI.out.below HBl).at_ hlt
        obtain ⟨hx0, hx1⟩ := HBY.out x (List.mem_of_getElem? hx)
        clear hx
        have c2 : wr.cell? ⟨w.heap.size, 2, none⟩ = some (.int .i64 sd) := cell_of_row wr w.heap.size 2 _ _ _ HH
        have f2 : wr.frozen? ⟨w.heap.size, 2, none⟩ = false := frozen_of_row wr w.heap.size 2 _ _ HH
        have z1 : (k : Int) < (n : Int) := by omega
        have z0 : (0 : Int) ≤ (k : Int) := by omega
        have z64 : (k : Int) < 64 := by omega
        go_wp2
        go_region
        go_wp2
        go_roundw
        case rel => exact ⟨k + 1, (sd * 43 + x) % 2147483647, by omega, by go_num, by omega, by omega, heap_setCell_same wr w.heap.size 2 _ _ _ HH, (HBl.out.setCell (Nat.le_refl _) _).drew⟩
        case measure => simp [intOf]; omega
      · have hd : decide ((k : Int) < 64) = false := by simp; omega
        go_wp2
        go_ret
        exact ⟨rfl, ⟨HI.out.below HBl, Nat.le_refl _, hn, HBY, 0, sd, by omega, hs0, hs1, HH⟩, HBl⟩
    · have hd : decide ((k : Int) < (n : Int)) = false := by simp; omega
      go_wp2
      go_ret
      exact ⟨rfl, ⟨HI.out.below HBl, Nat.le_refl _, hn, HBY, 0, sd, by omega, hs0, hs1, HH⟩, HBl⟩
end Go.Proofs.YtlphodhecaagbaaGreat

namespace Go.Proofs.YtlphodhecaagbaaGreat
open Go.RowKit
set_option linter.unusedVariables false

theorem bd_u8 {n : Int} (h : (Lit.int .u8 n).wf = true) : 0 ≤ n ∧ n ≤ 255 := by
  simp [Lit.wf, IntKind.min, IntKind.max, IntKind.signed, IntKind.bits] at h
  omega
theorem below_src {w w1 w2 : World} (h : Below w.heap.size w w1) (hg : w1.grownBy w2 (some w.heap.size)) : Below w.heap.size w w2 :=
  h.grown hg h.size (fun k hk => by injection hk; omega)

theorem fo_cases (s : Int) : (foC s = 4 ∧ foP s = 0 ∧ foK s = 0 ∧ foG s = 0) ∨
    (foC s = 0 ∧ fieldB (foP s) (foK s) (foG s) = true ∧ fsize (foP s) (foK s) (foG s) = s ∧ fieldB (foP s) (foK s) (foG s - 1) = false ∧ 1 ≤ foG s ∧ foG s ≤ 2000) := by
  rcases h1 : k1B s 1 with _ | _
  · rcases hp : isPow s with _ | K
    · have h := fo_0 h1 hp
      exact .inl ⟨h.2.2.2, h.1, h.2.1, h.2.2.1⟩
    · have h := fo_2 h1 hp
      by_cases hG : powG K = 0
      · simp only [lowP, lowK, lowC, hG, if_true] at h
        exact .inl ⟨h.2.2.2, h.1, h.2.1, h.2.2.1⟩
      · have hK : 3 ≤ K ∧ K ≤ 8 ∧ s = 2 ^ K := by
          rw [isPow, List.find?_range_eq_some] at hp
          obtain ⟨h2, h3, _⟩ := hp
          simp only [Bool.and_eq_true, decide_eq_true_eq] at h2
          have := List.mem_range.1 h3
          exact ⟨h2.1, by omega, h2.2⟩
        obtain ⟨h3, h8, hs⟩ := hK
        obtain ⟨g1, g2, g3, g4⟩ := powG_spec hG
        have hsm := pow_small h3 h8
        simp only [lowP, lowK, lowC, hG, if_false] at h
        obtain ⟨e1, e2, e3, e4⟩ := h
        rw [e1, e2, e3, e4]
        have hp2 : 2 ^ (K + 1) = 2 * 2 ^ K := by rw [Nat.pow_succ]; omega
        refine .inr ⟨rfl, g3, ?_, ?_, by omega, by omega⟩
        · rw [fsize, if_pos g3, sizeI, if_pos rfl, Int.toNat_natCast, hs]
        · obtain ⟨j, hj⟩ : ∃ j : Nat, powG K = j + 1 := ⟨powG K - 1, by omega⟩
          rw [hj, show ((j + 1 : Nat) : Int) - 1 = (j : Int) by omega]
          rcases Nat.lt_or_ge j (2 ^ K) with h5 | h5
          · refine fieldB_0 ?_ ?_
            · rw [k1B, Bool.and_eq_false_iff]; left; simp
            · rw [k2B, decide_eq_false_iff_not, Int.toNat_natCast]
              intro hh
              have h6 : ((2 ^ K : Nat) : Int) ≤ (j : Int) := by push_cast; exact hh.2.2.2.1
              omega
          · exact g4 j (by omega) h5
  · obtain ⟨P, rfl, _, h3, h4, hp⟩ := k1_open h1
    obtain ⟨e1, e2, e3, e4⟩ := fo_1 h1
    obtain ⟨l1, l2, l3, _⟩ := least_spec (prime_gen h3 h4 hp)
    rw [e1, e2, e3, e4]
    have hF : fieldB P 1 (least P (mul1 P) : Nat) = true := by rw [fieldB_1 h3 h4 hp]; simp
    refine .inr ⟨rfl, hF, ?_, ?_, by omega, by omega⟩
    · rw [fsize, if_pos hF, sizeI, if_neg (by omega)]
    · rw [fieldB_1 h3 h4 hp, decide_eq_false_iff_not]; omega

def DrawnN (w : World) (x : Ending) (w' : World) : Prop := ∃ z : Int, x = .returned (.int .i64 z) ∧ Below w.heap.size w w'

end Go.Proofs.YtlphodhecaagbaaGreat

namespace Go.Proofs.YtlphodhecaagbaaGreat
open Go.RowKit
set_option linter.unusedVariables false
set_option linter.unusedSimpArgs false

theorem grown_below {a w w' : World} {row : Option Nat} {B : Nat} (h : a.grownBy w row) (hb : Below B w w') (hB : a.heap.size ≤ B) : a.grownBy w' row :=
  ⟨hb.os.trans h.os, hb.tape.trans h.tape, hb.output.trans h.output, Nat.le_trans h.size hb.size, fun i hi hne => (hb.block i (by omega)).trans (h.block i hi hne)⟩
theorem grown_alloc {a w : World} {row : Option Nat} (h : a.grownBy w row) (o : Obj) : a.grownBy (w.alloc o) row := grown_trans h (World.grownBy_alloc w o row)
theorem grown_set2 {a w : World} {row : Option Nat} (h : a.grownBy w row) (b o : Nat) (v : Value) (hb : a.heap.size ≤ b) : a.grownBy (w.setCell ⟨b, o, none⟩ v) row :=
  ⟨h.os, h.tape, h.output, by have := h.size; simp [World.setCell]; exact this, fun i hi hne => (Below.heap_setCell w ⟨b, o, none⟩ v i (by simp; omega)).trans (h.block i hi hne)⟩

theorem set3_src {w : World} {g Bc N : Nat} {A : Option Addr} {n c : Nat} {code : List Int} (h : Src w g Bc A n c code) (hN : g < N) (a b d : Value) :
    Src (((w.setCell ⟨N, 0, none⟩ a).setCell ⟨N, 1, none⟩ b).setCell ⟨N, 2, none⟩ d) g Bc A n c code :=
  h.still (row := some N) (grown_set (grown_set (grown_set (World.grownBy.refl _ _) 0 _) 1 _) 2 _) (fun r hr => by injection hr; omega)
theorem set3_grown {a w : World} {row : Option Nat} (h : a.grownBy w row) (N : Nat) (hN : a.heap.size ≤ N) (x y z : Value) :
    a.grownBy (((w.setCell ⟨N, 0, none⟩ x).setCell ⟨N, 1, none⟩ y).setCell ⟨N, 2, none⟩ z) row :=
  grown_set2 (grown_set2 (grown_set2 h N 0 x hN) N 1 y hN) N 2 z hN

theorem set1_src {w : World} {g Bc N : Nat} {A : Option Addr} {n c : Nat} {code : List Int} (h : Src w g Bc A n c code) (hN : g < N) (o : Nat) (a : Value) : Src (w.setCell ⟨N, o, none⟩ a) g Bc A n c code :=
  h.still (row := some N) (grown_set (World.grownBy.refl _ _) o _) (fun r hr => by injection hr; omega)
theorem row_alloc {w : World} {N : Nat} {o : Obj} (h : w.heap[N]? = some o) (o' : Obj) : (w.alloc o').heap[N]? = some o := heap_below h ((Below.refl _ _).alloc (Nat.le_refl _) o')
theorem row_grown {w w' : World} {N g : Nat} {o : Obj} (h : w.heap[N]? = some o) (hg : w.grownBy w' (some g)) (hne : g ≠ N) : w'.heap[N]? = some o := by
  rw [hg.block N (Array.getElem?_eq_some_iff.1 h).1 (fun e => hne (by injection e with e; exact e.symm))]; exact h

/-- What a draw of a field leaves. -/
def DrawnF (g Bc : Nat) (A : Option Addr) (n c : Nat) (code : List Int) (w : World) (x : Ending) (w' : World) : Prop :=
  ∃ p k γ : Int, x = .returned (.agg #[.int .i64 p, .int .i64 k, .int .i64 γ]) ∧ Src w' g Bc A n c code ∧ w.grownBy w' (some g)
/-- The block of a result that is still 0. -/
def Zero3 (w : World) (N : Nat) : Prop := w.heap[N]? = some (.cells #[.int .i64 0, .int .i64 0, .int .i64 0] 25 (0, 0))
theorem Zero3.cells {w : World} {N : Nat} (h : Zero3 w N) : w.cell? ⟨N, 0, none⟩ = some (.int .i64 0) ∧ w.cell? ⟨N, 1, none⟩ = some (.int .i64 0) ∧ w.cell? ⟨N, 2, none⟩ = some (.int .i64 0) := cells3 h
theorem Zero3.frozen {w : World} {N : Nat} (h : Zero3 w N) : w.frozen? ⟨N, 0, none⟩ = false ∧ w.frozen? ⟨N, 1, none⟩ = false ∧ w.frozen? ⟨N, 2, none⟩ = false :=
  ⟨frozen_of_row w _ 0 _ _ h, frozen_of_row w _ 1 _ _ h, frozen_of_row w _ 2 _ _ h⟩
theorem Zero3.lt {w : World} {N : Nat} (h : Zero3 w N) : N < w.heap.size := (Array.getElem?_eq_some_iff.1 h).1
theorem Zero3.grown {w w' : World} {N g : Nat} (h : Zero3 w N) (hg : w.grownBy w' (some g)) (hne : g ≠ N) : Zero3 w' N := by
  unfold Zero3; rw [hg.block N h.lt (fun e => hne (by injection e with e; exact e.symm))]; exact h
theorem Zero3.below {w w' : World} {N : Nat} (h : Zero3 w N) (hb : Below w.heap.size w w') : Zero3 w' N := heap_below h hb
theorem Zero3.alloc {w : World} {N : Nat} (h : Zero3 w N) (o : Obj) : Zero3 (w.alloc o) N := h.below ((Below.refl _ _).alloc (Nat.le_refl _) o)
theorem Zero3.start (w : World) : Zero3 (w.alloc (.cells #[.int .i64 0, .int .i64 0, .int .i64 0] 25)) w.heap.size := heap_alloc_new w _

set_option maxHeartbeats 1000000 in
theorem drawField (g Bc : Nat) (A : Option Addr) (n c : Nat) (code : List Int) (w : World) (hS : Src w g Bc A n c code) :
    Calls Tryz.prog 80 #[.pointer (some ⟨g, 0, none⟩)] w (DrawnF g Bc A n c code w) := by
  have hgl := hS.lt
  have HS := hide ((hS.still (World.grownBy_alloc w (.cells #[.int .i64 0, .int .i64 0, .int .i64 0] 25) none) (by simp)))
  have HZ := hide (Zero3.start w)
  clear hS
  go_enter Tryz.func80, Tryz.ntmps80
  go_wp2_with fail
  refine (next_any g Bc A n c code 12 _ (HS.out.still (World.grownBy_alloc _ _ none) (by simp)) (by omega)).mono ?_
  rintro e w1 ⟨r, rfl, hr0, hr1, hs, hg⟩
  obtain ⟨r, rfl⟩ : ∃ m : Nat, r = m := ⟨r.toNat, by omega⟩
  obtain ⟨z, hz⟩ : ∃ z, w1.cell? ⟨w.heap.size + 1, r, none⟩ = some (.int .i64 z) := by
    rw [grown_cell hg (by simp) (fun h => by simp at h; omega), World.cell?_alloc_at _ _ _ _ (by rw [alloc_size])]
    rcases (show r = 0 ∨ r = 1 ∨ r = 2 ∨ r = 3 ∨ r = 4 ∨ r = 5 ∨ r = 6 ∨ r = 7 ∨ r = 8 ∨ r = 9 ∨ r = 10 ∨ r = 11 by omega) with rfl | rfl | rfl | rfl | rfl | rfl | rfl | rfl | rfl | rfl | rfl | rfl <;> exact ⟨_, rfl⟩
  have HS1 := hide hs
  have HZ1 := hide ((HZ.out.alloc _).grown hg (by omega))
  have HG1 := hide (grown_trans (grown_alloc (World.grownBy_alloc w _ (some g)) _) hg)
  clear hs hg
  go_wp2_with fail
  refine (specFieldOf z _).mono ?_
  rintro e w2 ⟨rfl, hb⟩
  have HS2 := hide (HS1.out.below hb HS1.out.lt)
  have HZ2 := hide (HZ1.out.below hb)
  have HG2 := hide (grown_below HG1.out hb HG1.out.size)
  clear hb hz
  generalize foP z = p
  generalize foK z = k
  generalize foG z = γ
  have hzl := HZ2.out.lt
  obtain ⟨c0, c1, c2⟩ := HZ2.out.cells
  obtain ⟨f0, f1, f2⟩ := HZ2.out.frozen
  go_wp2_with fail
  refine bodyPost_ret (v := .agg #[.int .i64 p, .int .i64 k, .int .i64 γ]) (by simp [results, Tryz.results80, go_sem, c0, c1, c2, hzl]) rfl ⟨p, k, γ, rfl, ?_, ?_⟩
  · exact (set3_src HS2.out hgl _ _ _).still (World.grownBy_alloc _ _ none) (by simp)
  · exact grown_alloc (set3_grown HG2.out _ (Nat.le_refl _) _ _ _) _

set_option maxHeartbeats 2000000 in
theorem drawAny (g Bc : Nat) (A : Option Addr) (n c : Nat) (code : List Int) (w : World) (hS : Src w g Bc A n c code) :
    Calls Tryz.prog 54 #[.pointer (some ⟨g, 0, none⟩)] w (DrawnF g Bc A n c code w) := by
  have hgl := hS.lt
  have HS := hide ((hS.still (World.grownBy_alloc w (.cells #[.int .i64 0, .int .i64 0, .int .i64 0] 25) none) (by simp)))
  have HZ := hide (Zero3.start w)
  clear hS
  go_enter Tryz.func54, Tryz.ntmps54
  go_wp2_with fail
  refine (drawField g Bc A n c code _ HS.out).mono ?_
  rintro e w1 ⟨p, k, γ, rfl, hs, hg⟩
  have HS1 := hide (hs.still (World.grownBy_alloc w1 (.cells #[.int .i64 p, .int .i64 k, .int .i64 γ] 25) none) (by simp))
  have HZ1 := hide ((HZ.out.grown hg (by omega)).alloc (.cells #[.int .i64 p, .int .i64 k, .int .i64 γ] 25))
  have HG1 := hide (grown_alloc (grown_trans (World.grownBy_alloc w _ (some g)) hg) (.cells #[.int .i64 p, .int .i64 k, .int .i64 γ] 25))
  have hl1 : w.heap.size < w1.heap.size := (HZ.out.grown hg (by omega)).lt
  clear hs hg
  go_wp2_with fail
  refine (next_any g Bc A n c code 20 _ HS1.out (by omega)).mono ?_
  rintro e w2 ⟨y, rfl, hy0, hy1, hs, hg⟩
  have HS2 := hide hs
  have HZ2 := hide (HZ1.out.grown hg (by omega))
  have HG2 := hide (grown_trans HG1.out hg)
  have HF2 := hide (show w2.heap[w1.heap.size]? = some (.cells #[.int .i64 p, .int .i64 k, .int .i64 γ] 25 (0, 0)) by
    rw [hg.block _ (by rw [alloc_size]; omega) (fun e => by injection e; omega)]; exact heap_alloc_new w1 _)
  clear hs hg
  obtain ⟨c0, c1, c2⟩ := HZ2.out.cells
  obtain ⟨f0, f1, f2⟩ := HZ2.out.frozen
  obtain ⟨d0, d1, d2⟩ := cells3 HF2.out
  have e0 : w2.frozen? ⟨w1.heap.size, 0, none⟩ = false := frozen_of_row w2 _ 0 _ _ HF2.out
  have e1 : w2.frozen? ⟨w1.heap.size, 1, none⟩ = false := frozen_of_row w2 _ 1 _ _ HF2.out
  have e2 : w2.frozen? ⟨w1.heap.size, 2, none⟩ = false := frozen_of_row w2 _ 2 _ _ HF2.out
  have hl2 : w1.heap.size < w2.heap.size := (Array.getElem?_eq_some_iff.1 HF2.out).1
  by_cases hz0 : y = 0
  · subst hz0
    go_wp2_with fail
    refine bodyPost_ret (v := .agg #[.int .i64 p, .int .i64 k, .int .i64 (wrap64 (γ + 1))]) (by simp [results, Tryz.results54, go_sem, c0, c1, c2, hl1]) rfl ⟨p, k, _, rfl, ?_, ?_⟩
    · exact set3_src (set1_src HS2.out (by omega) 2 _) hgl _ _ _
    · exact set3_grown (grown_set2 HG2.out _ 2 _ (by omega)) _ (Nat.le_refl _) _ _ _
  by_cases hz1 : y = 1
  · subst hz1
    go_wp2_with fail
    refine (next_any g Bc A n c code 4 _ (HS2.out.still (World.grownBy_alloc w2 _ none) (by simp)) (by omega)).mono ?_
    rintro e w3 ⟨r, rfl, hr0, hr1, hs, hg⟩
    obtain ⟨r, rfl⟩ : ∃ m : Nat, r = m := ⟨r.toNat, by omega⟩
    obtain ⟨z, hz⟩ : ∃ z, w3.cell? ⟨w2.heap.size, r, none⟩ = some (.int .i64 z) := by
      rw [grown_cell hg (by simp) (fun h => by simp at h; omega), World.cell?_alloc_at _ _ _ _ rfl]
      rcases (show r = 0 ∨ r = 1 ∨ r = 2 ∨ r = 3 by omega) with rfl | rfl | rfl | rfl <;> exact ⟨_, rfl⟩
    have HS3 := hide hs
    have HZ3 := hide ((HZ2.out.alloc _).grown hg (by omega))
    have HG3 := hide (grown_trans (grown_alloc HG2.out _) hg)
    have HF3 := hide (row_grown (row_alloc HF2.out _) hg (by omega))
    clear hs hg c0 c1 c2 f0 f1 f2 d0 d1 d2 e0 e1 e2
    obtain ⟨c0, c1, c2⟩ := HZ3.out.cells
    obtain ⟨f0, f1, f2⟩ := HZ3.out.frozen
    obtain ⟨d0, d1, d2⟩ := cells3 HF3.out
    have e0 : w3.frozen? ⟨w1.heap.size, 1, none⟩ = false := frozen_of_row w3 _ 1 _ _ HF3.out
    go_wp2_with fail
    refine bodyPost_ret (v := .agg #[.int .i64 p, .int .i64 z, .int .i64 γ]) (by simp [results, Tryz.results54, go_sem, c0, c1, c2, hl1]) rfl ⟨p, z, γ, rfl, ?_, ?_⟩
    · exact set3_src (set1_src HS3.out (by omega) 1 _) hgl _ _ _
    · exact set3_grown (grown_set2 HG3.out _ 1 _ (by omega)) _ (Nat.le_refl _) _ _ _
  by_cases hz2 : y = 2
  · subst hz2
    go_wp2_with fail
    refine (next_any g Bc A n c code 6 _ (HS2.out.still (World.grownBy_alloc w2 _ none) (by simp)) (by omega)).mono ?_
    rintro e w3 ⟨r, rfl, hr0, hr1, hs, hg⟩
    obtain ⟨r, rfl⟩ : ∃ m : Nat, r = m := ⟨r.toNat, by omega⟩
    obtain ⟨z, hz⟩ : ∃ z, w3.cell? ⟨w2.heap.size, r, none⟩ = some (.int .i64 z) := by
      rw [grown_cell hg (by simp) (fun h => by simp at h; omega), World.cell?_alloc_at _ _ _ _ rfl]
      rcases (show r = 0 ∨ r = 1 ∨ r = 2 ∨ r = 3 ∨ r = 4 ∨ r = 5 by omega) with rfl | rfl | rfl | rfl | rfl | rfl <;> exact ⟨_, rfl⟩
    have HS3 := hide hs
    have HZ3 := hide ((HZ2.out.alloc _).grown hg (by omega))
    have HG3 := hide (grown_trans (grown_alloc HG2.out _) hg)
    have HF3 := hide (row_grown (row_alloc HF2.out _) hg (by omega))
    clear hs hg c0 c1 c2 f0 f1 f2 d0 d1 d2 e0 e1 e2
    obtain ⟨c0, c1, c2⟩ := HZ3.out.cells
    obtain ⟨f0, f1, f2⟩ := HZ3.out.frozen
    obtain ⟨d0, d1, d2⟩ := cells3 HF3.out
    have e0 : w3.frozen? ⟨w1.heap.size, 0, none⟩ = false := frozen_of_row w3 _ 0 _ _ HF3.out
    go_wp2_with fail
    refine bodyPost_ret (v := .agg #[.int .i64 z, .int .i64 k, .int .i64 γ]) (by simp [results, Tryz.results54, go_sem, c0, c1, c2, hl1]) rfl ⟨z, k, γ, rfl, ?_, ?_⟩
    · exact set3_src (set1_src HS3.out (by omega) 0 _) hgl _ _ _
    · exact set3_grown (grown_set2 HG3.out _ 0 _ (by omega)) _ (Nat.le_refl _) _ _ _
  by_cases hz3 : y = 3
  · subst hz3
    go_wp2_with fail
    refine (next_any g Bc A n c code 4 _ (HS2.out.still (World.grownBy_alloc w2 _ none) (by simp)) (by omega)).mono ?_
    rintro e w3 ⟨r, rfl, hr0, hr1, hs, hg⟩
    obtain ⟨r, rfl⟩ : ∃ m : Nat, r = m := ⟨r.toNat, by omega⟩
    obtain ⟨x0, x1, x2, hx0, hx1, hx2⟩ : ∃ x0 x1 x2, w3.cell? ⟨w2.heap.size, r * 3, none⟩ = some (.int .i64 x0) ∧ w3.cell? ⟨w2.heap.size, r * 3 + 1, none⟩ = some (.int .i64 x1) ∧ w3.cell? ⟨w2.heap.size, r * 3 + 2, none⟩ = some (.int .i64 x2) := by
      rw [grown_cell hg (by simp) (fun h => by simp at h; omega), grown_cell hg (by simp) (fun h => by simp at h; omega), grown_cell hg (by simp) (fun h => by simp at h; omega), World.cell?_alloc_at _ _ _ _ rfl, World.cell?_alloc_at _ _ _ _ rfl, World.cell?_alloc_at _ _ _ _ rfl]
      rcases (show r = 0 ∨ r = 1 ∨ r = 2 ∨ r = 3 by omega) with rfl | rfl | rfl | rfl <;> exact ⟨_, _, _, rfl, rfl, rfl⟩
    have HS3 := hide hs
    have HZ3 := hide ((HZ2.out.alloc _).grown hg (by omega))
    have HG3 := hide (grown_trans (grown_alloc HG2.out _) hg)
    clear hs hg c0 c1 c2 f0 f1 f2 d0 d1 d2 e0 e1 e2
    obtain ⟨c0, c1, c2⟩ := HZ3.out.cells
    obtain ⟨f0, f1, f2⟩ := HZ3.out.frozen
    go_wp2_with fail
    refine bodyPost_ret (v := .agg #[.int .i64 x0, .int .i64 x1, .int .i64 x2]) (by simp [results, Tryz.results54, go_sem, c0, c1, c2, hl1]) rfl ⟨x0, x1, x2, rfl, ?_, ?_⟩
    · exact set3_src HS3.out hgl _ _ _
    · exact set3_grown HG3.out _ (Nat.le_refl _) _ _ _
  · have b0 : (y == 0) = false := by simpa using hz0
    have b1 : (y == 1) = false := by simpa using hz1
    have b2 : (y == 2) = false := by simpa using hz2
    have b3 : (y == 3) = false := by simpa using hz3
    clear hz0 hz1 hz2 hz3
    go_wp2_with fail
    refine bodyPost_ret (v := .agg #[.int .i64 p, .int .i64 k, .int .i64 γ]) (by simp [results, Tryz.results54, go_sem, c0, c1, c2, hl1]) rfl ⟨p, k, γ, rfl, ?_, ?_⟩
    · exact set3_src HS2.out hgl _ _ _
    · exact set3_grown HG2.out _ (Nat.le_refl _) _ _ _

/-- What a draw of an element leaves. -/
def DrawnE (g Bc : Nat) (A : Option Addr) (n c : Nat) (code : List Int) (w : World) (x : Ending) (w' : World) : Prop :=
  ∃ z : Int, x = .returned (.int .i64 z) ∧ Src w' g Bc A n c code ∧ w.grownBy w' (some g)

end Go.Proofs.YtlphodhecaagbaaGreat

namespace Go.Proofs.YtlphodhecaagbaaGreat
open Go.RowKit
set_option linter.unusedVariables false
set_option linter.unusedSimpArgs false

def DrawnFE (w : World) (x : Ending) (w' : World) : Prop := ∃ p k γ a : Int, x = .returned (.tuple #[.agg #[.int .i64 p, .int .i64 k, .int .i64 γ], .int .i64 a]) ∧ Below w.heap.size w w'
def DrawnFEE (w : World) (x : Ending) (w' : World) : Prop := ∃ p k γ a b : Int, x = .returned (.tuple #[.agg #[.int .i64 p, .int .i64 k, .int .i64 γ], .int .i64 a, .int .i64 b]) ∧ Below w.heap.size w w'

theorem below_grown {w w1 w2 : World} {g : Nat} (h : Below w.heap.size w w1) (hg : w1.grownBy w2 (some g)) (hle : w.heap.size ≤ g) : Below w.heap.size w w2 :=
  h.grown hg h.size (fun k hk => by injection hk; omega)

end Go.Proofs.YtlphodhecaagbaaGreat

namespace Go.Proofs.YtlphodhecaagbaaGreat
open Go.RowKit
set_option linter.unusedSimpArgs false
set_option linter.unusedVariables false

theorem Bx.src {w wr wr' : World} {t : TypeId} {p k γ : Int} {gs : Nat} (h : Bx w wr t p k γ (some gs)) (hg : wr.grownBy wr' (some gs)) (hne : gs ≠ w.heap.size) : Bx w wr' t p k γ (some gs) :=
  ⟨by rw [hg.block _ h.lt (by simpa using Ne.symm hne)]; exact h.1, grown_trans h.2 hg⟩
theorem Bx.own {w wr wr' : World} {t : TypeId} {p k γ : Int} {gs : Nat} {row : Option Nat} (h : Bx w wr t p k γ (some gs)) (hg : wr.grownBy wr' row) (hr : ∀ b, row = some b → w.heap.size < b) : Bx w wr' t p k γ (some gs) :=
  ⟨by rw [hg.block _ h.lt (fun e => by have := hr _ e.symm; omega)]; exact h.1,
   ⟨hg.os.trans h.2.os, hg.tape.trans h.2.tape, hg.output.trans h.2.output, Nat.le_trans h.2.size hg.size, fun i hi hne => (hg.block i (Nat.lt_of_lt_of_le hi h.2.size) (fun e => by have := hr _ e.symm; omega)).trans (h.2.block i hi hne)⟩⟩
theorem Own.lit1 (w : World) (e : TypeId) (k : IntKind) (y : Int) : Own (w.alloc (.cells #[.int k y] e)) w.heap.size e k (.slice (some ⟨w.heap.size, 0, none⟩) 1 1) [y] :=
  Own.intro (World.ownsRow_lit w #[.int k y] 1 (by simp) (by simp [maxLen]) (by simp)) rfl rfl

/-- What a draw of a list leaves. -/
def DrawnL (g Bc : Nat) (A : Option Addr) (n c : Nat) (code : List Int) (M : Nat) (w : World) (x : Ending) (w' : World) : Prop :=
  ∃ (zs : List Int) (A1 : Option Addr) (c1 : Nat), x = .returned (.slice A1 zs.length c1) ∧ zs.length ≤ M ∧ Own w' w.heap.size 2 .i64 (.slice A1 zs.length c1) zs ∧ Src w' g Bc A n c code ∧ w.grownBy w' (some g)
theorem drawnL_of {g Bc : Nat} {A : Option Addr} {n c : Nat} {code : List Int} {M base : Nat} {w w' : World} {v : Value} {zs : List Int} (h : Own w' base 2 .i64 v zs) (hl : zs.length ≤ M) (hB : w.heap.size ≤ base) (hs : Src w' g Bc A n c code) (hg : w.grownBy w' (some g)) : DrawnL g Bc A n c code M w (.returned v) w' := by
  obtain ⟨A1, c1, rfl, _⟩ := h.form
  exact ⟨zs, A1, c1, rfl, hl, h.low hB, hs, hg⟩

def PdRel {R : Fld} (w : World) (p k γ : Int) (g Bc : Nat) (A : Option Addr) (n c : Nat) (code : List Int) (v i : Value) (wr : World) : Prop :=
  ∃ (j : Nat) (ps : List (El R)), ps.length + j ≤ 21 ∧ i = .int .i64 j ∧ Own wr (w.heap.size + 1) 2 .i64 v (iv ps) ∧ Src wr g Bc A n c code ∧ Bx w wr 25 p k γ (some g)

end Go.Proofs.YtlphodhecaagbaaGreat

namespace Go.Proofs.YtlphodhecaagbaaGreat
open Go.RowKit
set_option linter.unusedSimpArgs false
set_option linter.unusedVariables false

/-- In a draw: the source, the block of the result that is still 0, the block of the field. -/
def Dst (w : World) (g Bc : Nat) (A : Option Addr) (n c : Nat) (code : List Int) (N : Nat) (p k γ : Int) (wr : World) : Prop :=
  Src wr g Bc A n c code ∧ Zero3 wr w.heap.size ∧ wr.heap[N]? = some (.cells #[.int .i64 p, .int .i64 k, .int .i64 γ] 25 (0, 0)) ∧ Below w.heap.size w wr ∧ w.heap.size < g ∧ g < N
section
variable {w wr wr' : World} {g Bc n c N : Nat} {A : Option Addr} {code : List Int} {p k γ : Int}
theorem Dst.lt (h : Dst w g Bc A n c code N p k γ wr) : N < wr.heap.size := (Array.getElem?_eq_some_iff.1 h.2.2.1).1
theorem Dst.next (h : Dst w g Bc A n c code N p k γ wr) (hb : Below wr.heap.size wr wr') : Dst w g Bc A n c code N p k γ wr' :=
  ⟨h.1.below hb h.1.lt, h.2.1.below hb, by rw [hb.block _ h.lt]; exact h.2.2.1, h.2.2.2.1.trans (hb.mono (Nat.le_of_lt (Nat.lt_trans (Nat.lt_trans h.2.2.2.2.1 h.2.2.2.2.2) h.lt))), h.2.2.2.2⟩
theorem Dst.src (h : Dst w g Bc A n c code N p k γ wr) (hs : Src wr' g Bc A n c code) (hg : wr.grownBy wr' (some g)) : Dst w g Bc A n c code N p k γ wr' :=
  ⟨hs, h.2.1.grown hg (by have := h.2.2.2.2; omega), row_grown h.2.2.1 hg (by have := h.2.2.2.2; omega), below_grown h.2.2.2.1 hg (by have := h.2.2.2.2; omega), h.2.2.2.2⟩
theorem Dst.own {row : Option Nat} (h : Dst w g Bc A n c code N p k γ wr) (hg : wr.grownBy wr' row) (hr : ∀ b, row = some b → N < b) : Dst w g Bc A n c code N p k γ wr' := by
  obtain ⟨h1, h2, h3, h4, h5, h6⟩ := h
  refine ⟨h1.still hg (fun r e => by have := hr r e; omega), ?_, ?_, h4.grown hg h4.size (fun r e => by have := hr r e; omega), h5, h6⟩
  · unfold Zero3; rw [hg.block _ h2.lt (fun e => by have := hr _ e.symm; omega)]; exact h2
  · rw [hg.block _ (Array.getElem?_eq_some_iff.1 h3).1 (fun e => by have := hr _ e.symm; omega)]; exact h3
theorem Dst.drew (h : Dst w g Bc A n c code N p k γ wr) : Dst w g Bc A n c code N p k γ wr.drew := ⟨h.1, h.2.1, h.2.2.1, h.2.2.2.1.drew, h.2.2.2.2⟩
theorem Own.src {base : Nat} {v : Value} {zs : List Int} (h : Own wr base 2 .i64 v zs) (hg : wr.grownBy wr' (some g)) (hB : g < base) : Own wr' base 2 .i64 v zs := by
  refine h.grown hg ?_
  rcases hv : v.ownBlock with _ | b
  · exact .inl rfl
  · refine .inr fun e => ?_
    injection e with e
    have := (h.lt hv).1
    omega
theorem Own.set3 {base M : Nat} {v : Value} {zs : List Int} (h : Own wr base 2 .i64 v zs) (hM : M < base) (a b d : Value) : Own (((wr.setCell ⟨M, 0, none⟩ a).setCell ⟨M, 1, none⟩ b).setCell ⟨M, 2, none⟩ d) base 2 .i64 v zs :=
  ((h.src (set_grown wr M 0 a) hM).src (set_grown _ M 1 b) hM).src (set_grown _ M 2 d) hM
theorem own_apart {base : Nat} {v : Value} {zs : List Int} (h : Own wr base 2 .i64 v zs) : v.ownBlock = none ∨ v.ownBlock ≠ some wr.heap.size := by
  rcases hv : v.ownBlock with _ | b
  · exact .inl rfl
  · refine .inr fun e => ?_
    injection e with e
    have := (h.lt hv).2
    omega
/-- What a draw of a field and two lists leaves. -/
def DrawnFLL (w : World) (x : Ending) (w' : World) : Prop :=
  ∃ (p k γ : Int) (zs : List Int) (A1 : Option Addr) (c1 : Nat) (zs' : List Int) (A2 : Option Addr) (c2 : Nat), x = .returned (.tuple #[.agg #[.int .i64 p, .int .i64 k, .int .i64 γ], .slice A1 zs.length c1, .slice A2 zs'.length c2]) ∧ zs.length ≤ 1048576 ∧ zs'.length ≤ 1048576 ∧
    Ints .i64 w' w'.heap.size A1 zs.length zs ∧ Ints .i64 w' w'.heap.size A2 zs'.length zs' ∧ Below w.heap.size w w'
def DrawnFL (w : World) (x : Ending) (w' : World) : Prop :=
  ∃ (p k γ : Int) (zs : List Int) (A1 : Option Addr) (c1 : Nat), x = .returned (.tuple #[.agg #[.int .i64 p, .int .i64 k, .int .i64 γ], .slice A1 zs.length c1]) ∧ zs.length ≤ 1048576 ∧ Ints .i64 w' w'.heap.size A1 zs.length zs ∧ Below w.heap.size w w'
theorem fll_mk {zs zs' : List Int} {A1 A2 : Option Addr} {c1 c2 b1 b2 : Nat} (h : Dst w g Bc A n c code N p k γ wr) (h1 : Own wr b1 2 .i64 (.slice A1 zs.length c1) zs) (h2 : Own wr b2 2 .i64 (.slice A2 zs'.length c2) zs') (hb1 : N ≤ b1) (hb2 : N ≤ b2) (hl1 : zs.length ≤ 1048576) (hl2 : zs'.length ≤ 1048576) (x y z : Value) :
    DrawnFLL w (.returned (.tuple #[.agg #[.int .i64 p, .int .i64 k, .int .i64 γ], .slice A1 zs.length c1, .slice A2 zs'.length c2])) (((wr.setCell ⟨w.heap.size, 0, none⟩ x).setCell ⟨w.heap.size, 1, none⟩ y).setCell ⟨w.heap.size, 2, none⟩ z) := by
  have hN := h.2.2.2.2
  exact ⟨p, k, γ, zs, A1, c1, zs', A2, c2, rfl, hl1, hl2, (h1.set3 (by omega) x y z).ints, (h2.set3 (by omega) x y z).ints, ((h.2.2.2.1.setCell (Nat.le_refl _) _).setCell (Nat.le_refl _) _).setCell (Nat.le_refl _) _⟩
theorem fl_mk {zs : List Int} {A1 : Option Addr} {c1 b1 : Nat} (h : Dst w g Bc A n c code N p k γ wr) (h1 : Own wr b1 2 .i64 (.slice A1 zs.length c1) zs) (hb1 : N ≤ b1) (hl1 : zs.length ≤ 1048576) (x y z : Value) :
    DrawnFL w (.returned (.tuple #[.agg #[.int .i64 p, .int .i64 k, .int .i64 γ], .slice A1 zs.length c1])) (((wr.setCell ⟨w.heap.size, 0, none⟩ x).setCell ⟨w.heap.size, 1, none⟩ y).setCell ⟨w.heap.size, 2, none⟩ z) := by
  have hN := h.2.2.2.2
  exact ⟨p, k, γ, zs, A1, c1, rfl, hl1, (h1.set3 (by omega) x y z).ints, ((h.2.2.2.1.setCell (Nat.le_refl _) _).setCell (Nat.le_refl _) _).setCell (Nat.le_refl _) _⟩
end

end Go.Proofs.YtlphodhecaagbaaGreat

namespace Go.Proofs.YtlphodhecaagbaaGreat
open Go.RowKit
set_option linter.unusedVariables false
set_option linter.unusedSimpArgs false

/-! The sizes that are drawn have fields. -/
def steps (mul : Nat → Nat → Nat) (a : Nat) : Nat → Nat → Bool
  | 0, x => x == 1
  | m + 1, x => x != 1 && steps mul a m (mul x a)
theorem steps_pw {mul : Nat → Nat → Nat} {a : Nat} (m j : Nat) (h : steps mul a m (pw mul a j) = true) : pw mul a (j + m) = 1 ∧ ∀ i, j ≤ i → i < j + m → pw mul a i ≠ 1 := by
  induction m generalizing j with
  | zero =>
    simp only [steps, beq_iff_eq] at h
    exact ⟨h, fun i h1 h2 => by omega⟩
  | succ m ih =>
    simp only [steps, Bool.and_eq_true, bne_iff_ne, ne_eq] at h
    have := ih (j + 1) h.2
    refine ⟨by rw [show j + (m + 1) = j + 1 + m by omega]; exact this.1, fun i h1 h2 => ?_⟩
    rcases Nat.lt_or_ge j i with h3 | h3
    · exact this.2 i h3 (by omega)
    · obtain rfl : i = j := by omega
      exact h.1
theorem steps_gen {q : Nat} {mul : Nat → Nat → Nat} (M : Mon q mul) {a : Nat} (ha : a < q) (h : steps mul a (q - 2) a = true) : gen q mul a = true := by
  have h1 : pw mul a 1 = a := pw_one M ha
  have h3 := M.three
  have := steps_pw (mul := mul) (a := a) (q - 2) 1 (by rw [h1]; exact h)
  rw [show 1 + (q - 2) = q - 1 by omega] at this
  exact gen_yes M this.1 (fun j hj h2 => this.2 j h2 hj)
theorem powG_ex {K G : Nat} (h1 : 2 ^ K ≤ G) (h2 : G < 2 ^ (K + 1)) (hG : fieldB 2 K G = true) : powG K ≠ 0 := by
  intro h0
  rcases hf : (List.range (2 ^ (K + 1))).find? (fun G : Nat => decide (2 ^ K ≤ G) && fieldB 2 K G) with _ | i
  · rw [List.find?_eq_none] at hf
    have := hf G (List.mem_range.2 h2)
    simp [h1, hG] at this
  · have hl : powG K = i := by rw [powG, hf]; rfl
    rw [List.find?_range_eq_some] at hf
    have h3 := hf.1
    simp only [Bool.and_eq_true, decide_eq_true_eq] at h3
    have : 0 < 2 ^ K := Nat.pow_pos (by decide)
    omega
theorem fo_prime {P : Nat} (h3 : 3 ≤ P) (h : P ≤ 1021) (hp : primeB P = true) : fieldB (foP P) (foK P) (foG P) = true ∧ fsize (foP P) (foK P) (foG P) = P := by
  obtain ⟨e1, e2, e3, _⟩ := fo_1 (k1_is h3 h hp)
  obtain ⟨_, _, _, _⟩ := least_spec (prime_gen h3 h hp)
  have hF : fieldB P 1 (least P (mul1 P) : Nat) = true := by rw [fieldB_1 h3 h hp]; simp
  rw [e1, e2, e3]
  exact ⟨hF, by rw [fsize, if_pos hF, sizeI, if_neg (by omega)]⟩
theorem k1_even {s : Int} {m : Nat} (hs : s = 2 * (m : Int)) (h2 : 2 ≤ m) : k1B s 1 = false := by
  rcases hh : k1B s 1 with _ | _
  · rfl
  · obtain ⟨P, rfl, _, h3, h4, hp⟩ := k1_open hh
    rw [primeB_no (d := 2) (by omega) (by omega) (by omega)] at hp
    cases hp
theorem fo_pow {K G m : Nat} (h3 : 3 ≤ K) (h8 : K ≤ 8) (hm : 2 ^ K = 2 * m) (h1 : 2 ^ K ≤ G) (h2 : G < 2 ^ (K + 1)) (hs : steps (mul2 K G) 2 (2 ^ K - 2) 2 = true) :
    fieldB (foP (2 ^ K)) (foK (2 ^ K)) (foG (2 ^ K)) = true ∧ fsize (foP (2 ^ K)) (foK (2 ^ K)) (foG (2 ^ K)) = 2 ^ K := by
  have hsm := pow_small h3 h8
  have hG : fieldB 2 K G = true := by rw [fieldB_2 h3 h8 h1 h2]; exact steps_gen (mon2 h3 h1 h2) (by omega) hs
  have hne := powG_ex h1 h2 hG
  obtain ⟨g1, g2, g3, g4⟩ := powG_spec hne
  have hk : k1B ((2 : Int) ^ K) 1 = false := k1_even (m := m) (by have : ((2 ^ K : Nat) : Int) = ((2 * m : Nat) : Int) := by rw [hm]
                                                                  push_cast at this; exact this) (by omega)
  obtain ⟨e1, e2, e3, e4⟩ := fo_2 hk (isPow_at h3 h8 rfl)
  simp only [lowP, lowK, hne, if_false] at e1 e2
  rw [e1, e2, e3]
  exact ⟨g3, by rw [fsize, if_pos g3, sizeI, if_pos rfl, Int.toNat_natCast]⟩
/-- The sizes from which the model draws. -/
def Size12 (s : Int) : Prop := s = 8 ∨ s = 16 ∨ s = 32 ∨ s = 64 ∨ s = 7 ∨ s = 11 ∨ s = 13 ∨ s = 17 ∨ s = 31 ∨ s = 256 ∨ s = 101 ∨ s = 3
set_option maxRecDepth 100000 in
theorem fo_size {s : Int} (h : Size12 s) : fieldB (foP s) (foK s) (foG s) = true ∧ fsize (foP s) (foK s) (foG s) = s := by
  rcases h with rfl | rfl | rfl | rfl | rfl | rfl | rfl | rfl | rfl | rfl | rfl | rfl
  · exact fo_pow (K := 3) (G := 11) (m := 4) (by decide) (by decide) (by decide) (by decide) (by decide) (by decide +kernel)
  · exact fo_pow (K := 4) (G := 19) (m := 8) (by decide) (by decide) (by decide) (by decide) (by decide) (by decide +kernel)
  · exact fo_pow (K := 5) (G := 37) (m := 16) (by decide) (by decide) (by decide) (by decide) (by decide) (by decide +kernel)
  · exact fo_pow (K := 6) (G := 67) (m := 32) (by decide) (by decide) (by decide) (by decide) (by decide) (by decide +kernel)
  · exact fo_prime (P := 7) (by decide) (by decide) (by decide +kernel)
  · exact fo_prime (P := 11) (by decide) (by decide) (by decide +kernel)
  · exact fo_prime (P := 13) (by decide) (by decide) (by decide +kernel)
  · exact fo_prime (P := 17) (by decide) (by decide) (by decide +kernel)
  · exact fo_prime (P := 31) (by decide) (by decide) (by decide +kernel)
  · exact fo_pow (K := 8) (G := 285) (m := 128) (by decide) (by decide) (by decide) (by decide) (by decide) (by decide +kernel)
  · exact fo_prime (P := 101) (by decide) (by decide) (by decide +kernel)
  · exact fo_prime (P := 3) (by decide) (by decide) (by decide +kernel)
theorem size_kd {p k γ s : Int} (h : fieldB p k γ = true) (hs : fsize p k γ = s) : ∃ (q : Nat) (mul : Nat → Nat → Nat), Kd p k γ q mul ∧ s = q := by
  obtain ⟨q, mul, _, hK, _⟩ := fieldB_open h
  exact ⟨q, mul, hK, by rw [← hs, fsize, if_pos h, hK.size]⟩

/-- What a draw of a valid field leaves. -/
def DrawnV (g Bc : Nat) (A : Option Addr) (n c : Nat) (code : List Int) (w : World) (x : Ending) (w' : World) : Prop :=
  ∃ (p k γ : Int) (q : Nat) (mul : Nat → Nat → Nat), x = .returned (.agg #[.int .i64 p, .int .i64 k, .int .i64 γ]) ∧ fieldB p k γ = true ∧ Kd p k γ q mul ∧ q ≤ 256 ∧ Src w' g Bc A n c code ∧ w.grownBy w' (some g)

set_option maxHeartbeats 1000000 in
theorem drawFieldV (g Bc : Nat) (A : Option Addr) (n c : Nat) (code : List Int) (w : World) (hS : Src w g Bc A n c code) :
    Calls Tryz.prog 80 #[.pointer (some ⟨g, 0, none⟩)] w (DrawnV g Bc A n c code w) := by
  have hgl := hS.lt
  have HS := hide ((hS.still (World.grownBy_alloc w (.cells #[.int .i64 0, .int .i64 0, .int .i64 0] 25) none) (by simp)))
  have HZ := hide (Zero3.start w)
  clear hS
  go_enter Tryz.func80, Tryz.ntmps80
  go_wp2_with fail
  refine (next_any g Bc A n c code 12 _ (HS.out.still (World.grownBy_alloc _ _ none) (by simp)) (by omega)).mono ?_
  rintro e w1 ⟨r, rfl, hr0, hr1, hs, hg⟩
  obtain ⟨r, rfl⟩ : ∃ m : Nat, r = m := ⟨r.toNat, by omega⟩
  obtain ⟨z, hz, hsz⟩ : ∃ z, w1.cell? ⟨w.heap.size + 1, r, none⟩ = some (.int .i64 z) ∧ Size12 z := by
    rw [grown_cell hg (by simp) (fun h => by simp at h; omega), World.cell?_alloc_at _ _ _ _ (by rw [alloc_size])]
    rcases (show r = 0 ∨ r = 1 ∨ r = 2 ∨ r = 3 ∨ r = 4 ∨ r = 5 ∨ r = 6 ∨ r = 7 ∨ r = 8 ∨ r = 9 ∨ r = 10 ∨ r = 11 by omega) with rfl | rfl | rfl | rfl | rfl | rfl | rfl | rfl | rfl | rfl | rfl | rfl <;> exact ⟨_, rfl, by simp [Size12]⟩
  have HSZ := hide hsz
  have HS1 := hide hs
  have HZ1 := hide ((HZ.out.alloc _).grown hg (by omega))
  have HG1 := hide (grown_trans (grown_alloc (World.grownBy_alloc w _ (some g)) _) hg)
  clear hs hg hsz
  go_wp2_with fail
  refine (specFieldOf z _).mono ?_
  rintro e w2 ⟨rfl, hb⟩
  have HS2 := hide (HS1.out.below hb HS1.out.lt)
  have HZ2 := hide (HZ1.out.below hb)
  have HG2 := hide (grown_below HG1.out hb HG1.out.size)
  obtain ⟨hfz, hfs⟩ := fo_size HSZ.out
  obtain ⟨q, mul, hK, hq⟩ := size_kd hfz hfs
  have hq256 : q ≤ 256 := by have := HSZ.out; unfold Size12 at this; omega
  have HQ := hide (And.intro hfz (And.intro hK hq256))
  clear hb hz hfz hfs hK hq hq256
  generalize foP z = p at HQ
  generalize foK z = k at HQ
  generalize foG z = γ at HQ
  have hzl := HZ2.out.lt
  obtain ⟨c0, c1, c2⟩ := HZ2.out.cells
  obtain ⟨f0, f1, f2⟩ := HZ2.out.frozen
  go_wp2_with fail
  refine bodyPost_ret (v := .agg #[.int .i64 p, .int .i64 k, .int .i64 γ]) (by simp [results, Tryz.results80, go_sem, c0, c1, c2, hzl]) rfl ⟨p, k, γ, q, mul, rfl, HQ.out.1, HQ.out.2.1, HQ.out.2.2, ?_, ?_⟩
  · exact (set3_src HS2.out hgl _ _ _).still (World.grownBy_alloc _ _ none) (by simp)
  · exact grown_alloc (set3_grown HG2.out _ (Nat.le_refl _) _ _ _) _
end Go.Proofs.YtlphodhecaagbaaGreat

namespace Go.Proofs.YtlphodhecaagbaaGreat
open Go.RowKit
set_option linter.unusedVariables false
set_option linter.unusedSimpArgs false

/-- A block that holds a code. -/
def Row5 (w : World) (N : Nat) (p k γ L C : Int) : Prop := w.heap[N]? = some (.cells #[.int .i64 p, .int .i64 k, .int .i64 γ, .int .i64 L, .int .i64 C] 89 (0, 0))
section
variable {w w' : World} {N : Nat} {p k γ L C : Int}
theorem Row5.lt (h : Row5 w N p k γ L C) : N < w.heap.size := (Array.getElem?_eq_some_iff.1 h).1
theorem Row5.src {g : Nat} (h : Row5 w N p k γ L C) (hg : w.grownBy w' (some g)) (hne : g ≠ N) : Row5 w' N p k γ L C := row_grown h hg hne
theorem Row5.below (h : Row5 w N p k γ L C) (hb : Below w.heap.size w w') : Row5 w' N p k γ L C := heap_below h hb
theorem Row5.alloc (h : Row5 w N p k γ L C) (o : Obj) : Row5 (w.alloc o) N p k γ L C := row_up h o
theorem Row5.own {row : Option Nat} (h : Row5 w N p k γ L C) (hg : w.grownBy w' row) (hr : ∀ b, row = some b → N < b) : Row5 w' N p k γ L C := by
  unfold Row5; rw [hg.block N h.lt (fun e => by have := hr _ e.symm; omega)]; exact h
theorem Row5.start (w : World) (p k γ L C : Int) : Row5 (w.alloc (.cells #[.int .i64 p, .int .i64 k, .int .i64 γ, .int .i64 L, .int .i64 C] 89)) w.heap.size p k γ L C := heap_alloc_new w _
theorem Row5.drew (h : Row5 w N p k γ L C) : Row5 w.drew N p k γ L C := h
end
theorem grown_sets {a w : World} {row : Option Nat} (h : a.grownBy w row) (N : Nat) (hN : a.heap.size ≤ N) (x0 x1 x2 x3 x4 : Value) :
    a.grownBy (((((w.setCell ⟨N, 0, none⟩ x0).setCell ⟨N, 1, none⟩ x1).setCell ⟨N, 2, none⟩ x2).setCell ⟨N, 3, none⟩ x3).setCell ⟨N, 4, none⟩ x4) row :=
  grown_set2 (grown_set2 (grown_set2 (grown_set2 (grown_set2 h N 0 _ hN) N 1 _ hN) N 2 _ hN) N 3 _ hN) N 4 _ hN
theorem src_sets {w : World} {g Bc N : Nat} {A : Option Addr} {n c : Nat} {code : List Int} (h : Src w g Bc A n c code) (hN : g < N) (x0 x1 x2 x3 x4 : Value) :
    Src (((((w.setCell ⟨N, 0, none⟩ x0).setCell ⟨N, 1, none⟩ x1).setCell ⟨N, 2, none⟩ x2).setCell ⟨N, 3, none⟩ x3).setCell ⟨N, 4, none⟩ x4) g Bc A n c code :=
  set1_src (set1_src (set1_src (set1_src (set1_src h hN 0 _) hN 1 _) hN 2 _) hN 3 _) hN 4 _

/-- What a draw of a code leaves; v tells whether its field is valid. -/
def DrawnC (v : Bool) (g Bc : Nat) (A : Option Addr) (n c : Nat) (code : List Int) (w : World) (x : Ending) (w' : World) : Prop :=
  ∃ p k γ L C : Int, x = .returned (.agg #[.int .i64 p, .int .i64 k, .int .i64 γ, .int .i64 L, .int .i64 C]) ∧ (v = true → fieldB p k γ = true ∧ 2 ≤ L ∧ 1 ≤ C) ∧ 0 ≤ L ∧ L ≤ 3000 ∧ 0 ≤ C ∧ C ≤ 3000 ∧ Src w' g Bc A n c code ∧ w.grownBy w' (some g)

/-- A field that lies in a block, and whether it is small. -/
def fsz (wr : World) (N : Nat) : Nat := match wr.heap[N]? with
  | some (Obj.cells cs _ _) => (match cs[0]?, cs[1]? with | some (Value.int _ p), some (Value.int _ k) => if sizeI p k < 5 then 1 else 0 | _, _ => 0)
  | _ => 0
theorem fsz_is {wr : World} {N : Nat} {p k γ : Int} {t : TypeId} {fr : Nat × Nat} (h : wr.heap[N]? = some (.cells #[.int .i64 p, .int .i64 k, .int .i64 γ] t fr)) : fsz wr N = if sizeI p k < 5 then 1 else 0 := by
  unfold fsz; rw [h]; rfl
theorem Src.drew' {w : World} {g Bc : Nat} {A : Option Addr} {n c : Nat} {code : List Int} (h : Src w g Bc A n c code) : Src w.drew g Bc A n c code := h
theorem grown_drew {a w : World} {row : Option Nat} (h : a.grownBy w row) : a.grownBy w.drew row := ⟨h.os, h.tape, h.output, h.size, h.block⟩
def LdRel (w : World) (g Bc : Nat) (A : Option Addr) (n c : Nat) (code : List Int) (N : Nat) (u : Value) (wr : World) : Prop :=
  ∃ (p k γ : Int) (q : Nat) (mul : Nat → Nat → Nat), wr.heap[N]? = some (.cells #[.int .i64 p, .int .i64 k, .int .i64 γ] 25 (0, 0)) ∧ Hid (fieldB p k γ = true ∧ Kd p k γ q mul ∧ q ≤ 256) ∧ Src wr g Bc A n c code ∧ Row5 wr w.heap.size 0 0 0 0 0 ∧ w.grownBy wr (some g)

end Go.Proofs.YtlphodhecaagbaaGreat

namespace Go.Proofs.YtlphodhecaagbaaGreat
open Go.RowKit
set_option linter.unusedVariables false
set_option linter.unusedSimpArgs false

theorem row6c {w : World} {b : Nat} {x0 x1 x2 x3 x4 x5 : Value} {t : TypeId} (h : w.heap[b]? = some (.cells #[x0, x1, x2, x3, x4, x5] t (0, 0))) :
    w.cell? ⟨b, 0, none⟩ = some x0 ∧ w.cell? ⟨b, 1, none⟩ = some x1 ∧ w.cell? ⟨b, 2, none⟩ = some x2 ∧ w.cell? ⟨b, 3, none⟩ = some x3 ∧ w.cell? ⟨b, 4, none⟩ = some x4 ∧ w.cell? ⟨b, 5, none⟩ = some x5 ∧
    w.frozen? ⟨b, 0, none⟩ = false ∧ w.frozen? ⟨b, 1, none⟩ = false ∧ w.frozen? ⟨b, 2, none⟩ = false ∧ w.frozen? ⟨b, 3, none⟩ = false ∧ w.frozen? ⟨b, 4, none⟩ = false ∧ w.frozen? ⟨b, 5, none⟩ = false :=
  ⟨cell_of_row w b 0 _ _ _ h, cell_of_row w b 1 _ _ _ h, cell_of_row w b 2 _ _ _ h, cell_of_row w b 3 _ _ _ h, cell_of_row w b 4 _ _ _ h, cell_of_row w b 5 _ _ _ h,
   frozen_of_row w b 0 _ _ h, frozen_of_row w b 1 _ _ h, frozen_of_row w b 2 _ _ h, frozen_of_row w b 3 _ _ h, frozen_of_row w b 4 _ _ h, frozen_of_row w b 5 _ _ h⟩
/-- A layout's six numbers are stored. -/
def set6 (w : World) (N : Nat) (x0 x1 x2 x3 x4 x5 : Value) : World := (((((w.setCell ⟨N, 0, none⟩ x0).setCell ⟨N, 1, none⟩ x1).setCell ⟨N, 2, none⟩ x2).setCell ⟨N, 3, none⟩ x3).setCell ⟨N, 4, none⟩ x4).setCell ⟨N, 5, none⟩ x5
theorem grown_set6 {a w : World} {row : Option Nat} (h : a.grownBy w row) (N : Nat) (hN : a.heap.size ≤ N) (x0 x1 x2 x3 x4 x5 : Value) : a.grownBy (set6 w N x0 x1 x2 x3 x4 x5) row := by
  unfold set6; exact grown_set2 (grown_set2 (grown_set2 (grown_set2 (grown_set2 (grown_set2 h N 0 _ hN) N 1 _ hN) N 2 _ hN) N 3 _ hN) N 4 _ hN) N 5 _ hN
theorem src_set6 {w : World} {g Bc N : Nat} {A : Option Addr} {n c : Nat} {code : List Int} (h : Src w g Bc A n c code) (hN : g < N) (x0 x1 x2 x3 x4 x5 : Value) : Src (set6 w N x0 x1 x2 x3 x4 x5) g Bc A n c code := by
  have h0 := set1_src h hN 0 x0
  have h1 := set1_src h0 hN 1 x1
  have h2 := set1_src h1 hN 2 x2
  have h3 := set1_src h2 hN 3 x3
  have h4 := set1_src h3 hN 4 x4
  have h5 := set1_src h4 hN 5 x5
  exact h5
theorem row_set6 {w : World} {N : Nat} {y0 y1 y2 y3 y4 y5 : Value} {t : TypeId} (h : w.heap[N]? = some (.cells #[y0, y1, y2, y3, y4, y5] t (0, 0))) (x0 x1 x2 x3 x4 x5 : Value) : (set6 w N x0 x1 x2 x3 x4 x5).heap[N]? = some (.cells #[x0, x1, x2, x3, x4, x5] t (0, 0)) := by
  unfold set6
  have h0 : (w.setCell ⟨N, 0, none⟩ x0).heap[N]? = some (.cells #[x0, y1, y2, y3, y4, y5] t (0, 0)) := heap_setCell_same _ N 0 _ _ _ h
  have h1 : ((w.setCell ⟨N, 0, none⟩ x0).setCell ⟨N, 1, none⟩ x1).heap[N]? = some (.cells #[x0, x1, y2, y3, y4, y5] t (0, 0)) := heap_setCell_same _ N 1 _ _ _ h0
  have h2 : (((w.setCell ⟨N, 0, none⟩ x0).setCell ⟨N, 1, none⟩ x1).setCell ⟨N, 2, none⟩ x2).heap[N]? = some (.cells #[x0, x1, x2, y3, y4, y5] t (0, 0)) := heap_setCell_same _ N 2 _ _ _ h1
  have h3 : ((((w.setCell ⟨N, 0, none⟩ x0).setCell ⟨N, 1, none⟩ x1).setCell ⟨N, 2, none⟩ x2).setCell ⟨N, 3, none⟩ x3).heap[N]? = some (.cells #[x0, x1, x2, x3, y4, y5] t (0, 0)) := heap_setCell_same _ N 3 _ _ _ h2
  have h4 : (((((w.setCell ⟨N, 0, none⟩ x0).setCell ⟨N, 1, none⟩ x1).setCell ⟨N, 2, none⟩ x2).setCell ⟨N, 3, none⟩ x3).setCell ⟨N, 4, none⟩ x4).heap[N]? = some (.cells #[x0, x1, x2, x3, x4, y5] t (0, 0)) := heap_setCell_same _ N 4 _ _ _ h3
  have h5 : ((((((w.setCell ⟨N, 0, none⟩ x0).setCell ⟨N, 1, none⟩ x1).setCell ⟨N, 2, none⟩ x2).setCell ⟨N, 3, none⟩ x3).setCell ⟨N, 4, none⟩ x4).setCell ⟨N, 5, none⟩ x5).heap[N]? = some (.cells #[x0, x1, x2, x3, x4, x5] t (0, 0)) := heap_setCell_same _ N 5 _ _ _ h4
  exact h5
/-- What a draw of a layout leaves. -/
def DrawnY (g Bc : Nat) (A : Option Addr) (n c : Nat) (code : List Int) (w : World) (x : Ending) (w' : World) : Prop :=
  ∃ p k γ D K C : Int, x = .returned (.agg #[.int .i64 p, .int .i64 k, .int .i64 γ, .int .i64 D, .int .i64 K, .int .i64 C]) ∧ 0 ≤ D ∧ D ≤ 3000 ∧ 0 ≤ K ∧ K ≤ 3000 ∧ 0 ≤ C ∧ C ≤ 4000 ∧ Src w' g Bc A n c code ∧ w.grownBy w' (some g)
/-- A field that lies in a block, and whether it is small. -/
def fs11 (wr : World) (N : Nat) : Nat := match wr.heap[N]? with
  | some (Obj.cells cs _ _) => (match cs[0]?, cs[1]? with | some (Value.int _ p), some (Value.int _ k) => if sizeI p k < 11 then 1 else 0 | _, _ => 0)
  | _ => 0
theorem fs11_is {wr : World} {N : Nat} {p k γ : Int} {t : TypeId} {fr : Nat × Nat} (h : wr.heap[N]? = some (.cells #[.int .i64 p, .int .i64 k, .int .i64 γ] t fr)) : fs11 wr N = if sizeI p k < 11 then 1 else 0 := by
  unfold fs11; rw [h]; rfl
def LyRel (w : World) (g Bc : Nat) (A : Option Addr) (n c : Nat) (code : List Int) (N : Nat) (u : Value) (wr : World) : Prop :=
  ∃ (p k γ : Int) (q : Nat) (mul : Nat → Nat → Nat), wr.heap[N]? = some (.cells #[.int .i64 p, .int .i64 k, .int .i64 γ] 25 (0, 0)) ∧ Hid (Kd p k γ q mul ∧ q ≤ 256) ∧ Src wr g Bc A n c code ∧ YRow wr w.heap.size 0 0 0 0 0 0 ∧ w.grownBy wr (some g)

set_option maxRecDepth 100000 in
set_option maxHeartbeats 4000000 in
theorem drawLay (g Bc : Nat) (A : Option Addr) (n c : Nat) (code : List Int) (w : World) (hS : Src w g Bc A n c code) :
    Calls Tryz.prog 53 #[.pointer (some ⟨g, 0, none⟩)] w (DrawnY g Bc A n c code w) := by
  have hgl := hS.lt
  have HS := hide ((hS.still (World.grownBy_alloc w (.cells #[.int .i64 0, .int .i64 0, .int .i64 0, .int .i64 0, .int .i64 0, .int .i64 0] 27) none) (by simp)))
  have HZ := hide (show YRow (w.alloc (.cells #[.int .i64 0, .int .i64 0, .int .i64 0, .int .i64 0, .int .i64 0, .int .i64 0] 27)) w.heap.size 0 0 0 0 0 0 from heap_alloc_new w _)
  clear hS
  go_enter Tryz.func53, Tryz.ntmps53
  go_wp2_with fail
  refine (drawFieldV g Bc A n c code _ HS.out).mono ?_
  rintro e w1 ⟨p, k, γ, q, mul, rfl, hf, hK, hq, hs, hg⟩
  have HS1 := hide (hs.still (World.grownBy_alloc w1 (.cells #[.int .i64 p, .int .i64 k, .int .i64 γ] 25) none) (by simp))
  have hz1 := row_grown HZ.out hg (show g ≠ w.heap.size by omega)
  have HZ1 := hide (show YRow (w1.alloc (.cells #[.int .i64 p, .int .i64 k, .int .i64 γ] 25)) w.heap.size 0 0 0 0 0 0 from row_old hz1 _)
  have HG1 := hide (grown_alloc (grown_trans (World.grownBy_alloc w _ (some g)) hg) (.cells #[.int .i64 p, .int .i64 k, .int .i64 γ] 25))
  have HF1 := hide (heap_alloc_new w1 (.cells #[.int .i64 p, .int .i64 k, .int .i64 γ] 25 (0, 0)))
  have hl1 : w.heap.size < w1.heap.size := (Array.getElem?_eq_some_iff.1 hz1).1
  have HQ1 := hide (And.intro hK hq)
  clear hs hg hf hK hq hz1
  go_wp2_with fail
  obtain ⟨N, hN⟩ : ∃ N, N = w1.heap.size := ⟨_, rfl⟩
  rw [← hN] at HF1
  have hwN : w.heap.size < N := by omega
  have hgN : g < N := by omega
  go_loopw [8] (fun u wr => LyRel w g Bc A n c code N u wr) (fun _ wr => fs11 wr N)
  case atStart => exact ⟨p, k, γ, q, mul, HF1.out, HQ1.out, HS1.out, HZ1.out, HG1.out⟩
  case round =>
    clear HF1 HQ1 HS1 HZ1 HG1 HS HZ
    obtain ⟨p, k, γ, q, mul, HF, HQ, HS, HZ, HG⟩ := hrel
    have HF := hide HF
    have HS := hide HS
    have HZ := hide HZ
    have HG := hide HG
    rw [← hN]
    clear hN
    obtain ⟨c0, c1, c2⟩ := cells3 HF.out
    have HM := hide (fs11_is HF.out)
    rw [HQ.out.1.size] at HM
    have hq3 := HQ.out.1.big.1
    have hq256 := HQ.out.2
    by_cases hlt : (q : Int) < 11
    · have HM1 := hide (show fs11 wr N = 1 by rw [HM.out, if_pos hlt])
      go_wp2_with fail
      refine (specSize HQ.out.1 _).mono ?_
      rintro e w2 ⟨rfl, hb⟩
      have HF2 := hide (heap_below HF.out hb)
      have HS2 := hide (HS.out.below hb HS.out.lt)
      have HZ2 := hide (HZ.out.next hb)
      have HG2 := hide (grown_below HG.out hb HG.out.size)
      clear hb c0 c1 c2
      go_wp2_with fail
      refine (specFieldOf 16 _).mono ?_
      rintro e w3 ⟨rfl, hb⟩
      have HF3 := hide (heap_below HF2.out hb)
      have HS3 := hide (HS2.out.below hb HS2.out.lt)
      have HZ3 := hide (HZ2.out.next hb)
      have HG3 := hide (grown_below HG2.out hb HG2.out.size)
      obtain ⟨hfz, hfs⟩ := fo_size (s := 16) (by simp [Size12])
      obtain ⟨q', mul', hK', hq'⟩ := size_kd hfz hfs
      have HQ3 := hide (And.intro hK' (show q' ≤ 256 by omega))
      have HQ7 := hide hq'
      clear hb hfz hfs hK' hq'
      generalize foP 16 = p' at HQ3
      generalize foK 16 = k' at HQ3
      generalize foG 16 = γ' at HQ3
      generalize foC 16 = cc
      obtain ⟨c0, c1, c2⟩ := cells3 HF3.out
      have e0 : w3.frozen? ⟨N, 0, none⟩ = false := frozen_of_row w3 _ 0 _ _ HF3.out
      have e1 : w3.frozen? ⟨N, 1, none⟩ = false := frozen_of_row w3 _ 1 _ _ HF3.out
      have e2 : w3.frozen? ⟨N, 2, none⟩ = false := frozen_of_row w3 _ 2 _ _ HF3.out
      have HF4 := hide (show (((w3.setCell ⟨N, 0, none⟩ (.int .i64 p')).setCell ⟨N, 1, none⟩ (.int .i64 k')).setCell ⟨N, 2, none⟩ (.int .i64 γ')).heap[N]? = some (.cells #[.int .i64 p', .int .i64 k', .int .i64 γ'] 25 (0, 0)) from heap_setCell_same _ N 2 _ _ _ (heap_setCell_same _ N 1 _ _ _ (heap_setCell_same w3 N 0 _ _ _ HF3.out)))
      have HM4 := hide (fs11_is (p := p') (k := k') (γ := γ') HF4.out)
      rw [HQ3.out.1.size, ← HQ7.out, if_neg (by omega)] at HM4
      have HZ4 := hide (show YRow (((w3.setCell ⟨N, 0, none⟩ (.int .i64 p')).setCell ⟨N, 1, none⟩ (.int .i64 k')).setCell ⟨N, 2, none⟩ (.int .i64 γ')) w.heap.size 0 0 0 0 0 0 from
        row_set (row_set (row_set HZ3.out (by omega)) (by omega)) (by omega))
      go_wp2_with fail
      go_roundw
      case rel => exact ⟨p', k', γ', q', mul', HF4.out, HQ3, set3_src HS3.out hgN _ _ _, HZ4.out, set3_grown HG3.out N (Nat.le_of_lt hwN) _ _ _⟩
      case measure =>
        show fs11 _ _ < fs11 _ _
        rw [HM1.out, HM4.out]; exact Nat.zero_lt_one
    · have hd : decide ((q : Int) < 11) = false := by simpa using hlt
      go_wp2_with fail
      refine (specSize HQ.out.1 _).mono ?_
      rintro e w2 ⟨rfl, hb⟩
      have HF2 := hide (heap_below HF.out hb)
      have HS2 := hide (HS.out.below hb HS.out.lt)
      have HZ2 := hide (HZ.out.next hb)
      have HG2 := hide (grown_below HG.out hb HG.out.size)
      clear hb c0 c1 c2
      go_wp2_with fail
      refine (next_any g Bc A n c code 4 _ HS2.out (by omega)).mono ?_
      rintro e w3 ⟨y, rfl, hy0, hy1, hs, hg⟩
      have hy4 : y ≤ 3 := by omega
      have HF3 := hide (row_grown HF2.out hg (by omega))
      have HS3 := hide hs
      have HZ3 := hide (show YRow w3 w.heap.size 0 0 0 0 0 0 from row_grown HZ2.out hg (by omega))
      have HG3 := hide (grown_trans HG2.out hg)
      clear hs hg hy1
      obtain ⟨c0, c1, c2⟩ := cells3 HF3.out
      go_wp2_with fail
      refine (specSize HQ.out.1 _).mono ?_
      rintro e w4 ⟨rfl, hb⟩
      have HF4 := hide (heap_below HF3.out hb)
      have HS4 := hide (HS3.out.below hb HS3.out.lt)
      have HZ4 := hide (HZ3.out.next hb)
      have HG4 := hide (grown_below HG3.out hb HG3.out.size)
      clear hb c0 c1 c2 hlt
      go_wp2_with fail
      refine (next_any g Bc A n c code (min 5 ((q : Int) - 6)) _ HS4.out (by omega)).mono ?_
      rintro e w5 ⟨z, rfl, hz0, hz1, hs, hg⟩
      have hz5 : z ≤ 5 := by omega
      have HF5 := hide (row_grown HF4.out hg (by omega))
      have HS5 := hide hs
      have HZ5 := hide (show YRow w5 w.heap.size 0 0 0 0 0 0 from row_grown HZ4.out hg (by omega))
      have HG5 := hide (grown_trans HG4.out hg)
      clear hs hg hz1
      obtain ⟨c0, c1, c2⟩ := cells3 HF5.out
      obtain ⟨M, hM⟩ : ∃ M, IntKind.i64.wrap ((1 + y) * (1 + z)) = M := ⟨_, rfl⟩
      have hM2 : 0 ≤ M ∧ M ≤ 24 := by
        have h1 : 0 ≤ (1 + y) * (1 + z) := Int.mul_nonneg (by omega) (by omega)
        have h2 : (1 + y) * (1 + z) ≤ 4 * 6 := Int.mul_le_mul (by omega) (by omega) (by omega) (by omega)
        rw [← hM, IntWalk.i64_in _ ⟨by omega, by omega⟩]; omega
      go_wp2_with fail
      refine tail_begin (fun w' => w'.cell? ⟨N, 0, none⟩ = some (.int .i64 p) ∧ w'.cell? ⟨N, 1, none⟩ = some (.int .i64 k) ∧ w'.cell? ⟨N, 2, none⟩ = some (.int .i64 γ)) 19 (by kernel_rfl) ⟨c0, c1, c2⟩ (fun hS' => ?_)
      clear c0 c1 c2
      refine tail_take 0 rfl (by kernel_rfl) (by kernel_rfl) (by kernel_rfl) (by kernel_rfl) (fun _ _ _ h => h) (by rfl) (v := ?_) ?_ (by assumption) ?_
      rotate_left 1
      · intro w' hS'; obtain ⟨c0, c1, c2⟩ := hS'; go_simp; try with_reducible rfl
      try simp only [Act.put, List.setIfInBounds_toArray, List.set_cons_zero, List.set_cons_succ]
      refine tail_take 1 rfl (by kernel_rfl) (by kernel_rfl) (by kernel_rfl) (by kernel_rfl) (fun _ _ _ h => h) (by rfl) (v := ?_) ?_ (by assumption) ?_
      rotate_left 1
      · intro w' hS'; obtain ⟨c0, c1, c2⟩ := hS'; go_simp; try with_reducible rfl
      try simp only [Act.put, List.setIfInBounds_toArray, List.set_cons_zero, List.set_cons_succ]
      refine tail_take 2 rfl (by kernel_rfl) (by kernel_rfl) (by kernel_rfl) (by kernel_rfl) (fun _ _ _ h => h) (by rfl) (v := ?_) ?_ (by assumption) ?_
      rotate_left 1
      · intro w' hS'; obtain ⟨c0, c1, c2⟩ := hS'; go_simp; try with_reducible rfl
      try simp only [Act.put, List.setIfInBounds_toArray, List.set_cons_zero, List.set_cons_succ]
      refine tail_take 3 rfl (by kernel_rfl) (by kernel_rfl) (by kernel_rfl) (by kernel_rfl) (fun _ _ _ h => h) (by rfl) (v := ?_) ?_ (by assumption) ?_
      rotate_left 1
      · intro w' hS'; obtain ⟨c0, c1, c2⟩ := hS'; go_simp; try with_reducible rfl
      try simp only [Act.put, List.setIfInBounds_toArray, List.set_cons_zero, List.set_cons_succ]
      refine tail_take 4 rfl (by kernel_rfl) (by kernel_rfl) (by kernel_rfl) (by kernel_rfl) (fun _ _ _ h => h) (by rfl) (v := ?_) ?_ (by assumption) ?_
      rotate_left 1
      · intro w' hS'; obtain ⟨c0, c1, c2⟩ := hS'; go_simp; try with_reducible rfl
      try simp only [Act.put, List.setIfInBounds_toArray, List.set_cons_zero, List.set_cons_succ]
      refine tail_take 5 rfl (by kernel_rfl) (by kernel_rfl) (by kernel_rfl) (by kernel_rfl) (fun _ _ _ h => h) (by rfl) (v := ?_) ?_ (by assumption) ?_
      rotate_left 1
      · intro w' hS'; obtain ⟨c0, c1, c2⟩ := hS'; go_simp; try with_reducible rfl
      try simp only [Act.put, List.setIfInBounds_toArray, List.set_cons_zero, List.set_cons_succ]
      refine tail_take 8 rfl (by kernel_rfl) (by kernel_rfl) (by kernel_rfl) (by kernel_rfl) (fun _ _ _ h => h) (by rfl) (v := ?_) ?_ (by assumption) ?_
      rotate_left 1
      · intro w' hS'; obtain ⟨c0, c1, c2⟩ := hS'; go_simp; try with_reducible rfl
      try simp only [Act.put, List.setIfInBounds_toArray, List.set_cons_zero, List.set_cons_succ]
      refine tail_take 9 rfl (by kernel_rfl) (by kernel_rfl) (by kernel_rfl) (by kernel_rfl) (fun _ _ _ h => h) (by rfl) (v := ?_) ?_ (by assumption) ?_
      rotate_left 1
      · intro w' hS'; obtain ⟨c0, c1, c2⟩ := hS'; go_simp; try with_reducible rfl
      try simp only [Act.put, List.setIfInBounds_toArray, List.set_cons_zero, List.set_cons_succ]
      refine tail_take 12 rfl (by kernel_rfl) (by kernel_rfl) (by kernel_rfl) (by kernel_rfl) (fun _ _ _ h => h) (by rfl) (v := ?_) ?_ (by assumption) ?_
      rotate_left 1
      · intro w' hS'; obtain ⟨c0, c1, c2⟩ := hS'; go_simp; try with_reducible rfl
      try simp only [Act.put, List.setIfInBounds_toArray, List.set_cons_zero, List.set_cons_succ]
      refine tail_take 17 rfl (by kernel_rfl) (by kernel_rfl) (by kernel_rfl) (by kernel_rfl) (fun _ _ _ h => h) (by rfl) (v := ?_) ?_ (by assumption) ?_
      rotate_left 1
      · intro w' hS'; obtain ⟨c0, c1, c2⟩ := hS'; go_simp; try with_reducible rfl
      try simp only [Act.put, List.setIfInBounds_toArray, List.set_cons_zero, List.set_cons_succ]
      refine tail_call 6 rfl (by kernel_rfl) rfl (fun K hK => ?_)
      go_simp
      go_at_call 45; refine (next_any g Bc A n c code (1 + y) _ HS5.out.drew' (by omega)).mono ?_; rintro e w6 ⟨u, rfl, hu0, hu1, hs, hg⟩; have hu4 : u ≤ 4 := (by omega); have HF6 := hide (row_grown (w := w5.drew) HF5.out hg (by omega)); have HS6 := hide hs; have HZ6 := hide (show YRow w6 w.heap.size 0 0 0 0 0 0 from row_grown (w := w5.drew) HZ5.out hg (by omega)); have HG6 := hide (grown_trans (grown_drew HG5.out) hg); clear hs hg hu1
      refine hK.out _ _ (by (try dsimp only); exact cells3 HF6.out) (fun hS' => ?_)
      clear hK K
      try simp only [Act.put, List.setIfInBounds_toArray, List.set_cons_zero, List.set_cons_succ]
      have hwu : IntKind.i64.wrap (M + u) = M + u := IntWalk.i64_in _ ⟨by omega, by omega⟩
      refine tail_take 7 rfl (by kernel_rfl) (by kernel_rfl) (by kernel_rfl) (by kernel_rfl) (fun _ _ _ h => h) (by rfl) (v := ?_) ?_ (by assumption) ?_
      rotate_left 1
      · intro w' hS'; obtain ⟨c0, c1, c2⟩ := hS'; go_simp; try with_reducible rfl
      try simp only [Act.put, List.setIfInBounds_toArray, List.set_cons_zero, List.set_cons_succ]
      refine tail_call 10 rfl (by kernel_rfl) rfl (fun K hK => ?_)
      go_simp
      go_at_call 40; refine (specSize HQ.out.1 _).mono ?_; rintro e w7 ⟨rfl, hb⟩; have HF7 := hide (heap_below HF6.out hb); have HS7 := hide (HS6.out.below hb HS6.out.lt); have HZ7 := hide (HZ6.out.next hb); have HG7 := hide (grown_below HG6.out hb HG6.out.size); clear hb
      refine hK.out _ _ (by (try dsimp only); exact cells3 HF7.out) (fun hS' => ?_)
      clear hK K
      try simp only [Act.put, List.setIfInBounds_toArray, List.set_cons_zero, List.set_cons_succ]
      have hw3 : IntKind.i64.wrap ((q : Int) - 3) = (q : Int) - 3 := IntWalk.i64_in _ ⟨by omega, by omega⟩
      have hw4 : IntKind.i64.wrap ((q : Int) - 3 - (1 + z)) = (q : Int) - 3 - (1 + z) := IntWalk.i64_in _ ⟨by omega, by omega⟩
      refine tail_take 11 rfl (by kernel_rfl) (by kernel_rfl) (by kernel_rfl) (by kernel_rfl) (fun _ _ _ h => h) (by rfl) (v := ?_) ?_ (by assumption) ?_
      rotate_left 1
      · intro w' hS'; obtain ⟨c0, c1, c2⟩ := hS'; go_simp; try with_reducible rfl
      try simp only [Act.put, List.setIfInBounds_toArray, List.set_cons_zero, List.set_cons_succ]
      refine tail_take 13 rfl (by kernel_rfl) (by kernel_rfl) (by kernel_rfl) (by kernel_rfl) (fun _ _ _ h => h) (by rfl) (v := ?_) ?_ (by assumption) ?_
      rotate_left 1
      · intro w' hS'; obtain ⟨c0, c1, c2⟩ := hS'; go_simp; try with_reducible rfl
      try simp only [Act.put, List.setIfInBounds_toArray, List.set_cons_zero, List.set_cons_succ]
      refine tail_take 14 rfl (by kernel_rfl) (by kernel_rfl) (by kernel_rfl) (by kernel_rfl) (fun _ _ _ h => h) (by rfl) (v := ?_) ?_ (by assumption) ?_
      rotate_left 1
      · intro w' hS'; obtain ⟨c0, c1, c2⟩ := hS'; go_simp; try with_reducible rfl
      try simp only [Act.put, List.setIfInBounds_toArray, List.set_cons_zero, List.set_cons_succ]
      refine tail_call 15 rfl (by kernel_rfl) rfl (fun K hK => ?_)
      go_simp
      go_at_call 45; refine (next_any g Bc A n c code (min 6 ((q : Int) - 3 - (1 + z))) _ HS7.out (by omega)).mono ?_; rintro e w8 ⟨v, rfl, hv0, hv1, hs, hg⟩; have hv6 : v ≤ 6 := (by omega); have HF8 := hide (row_grown HF7.out hg (by omega)); have HS8 := hide hs; have HZ8 := hide (show YRow w8 w.heap.size 0 0 0 0 0 0 from row_grown HZ7.out hg (by omega)); have HG8 := hide (grown_trans HG7.out hg); clear hs hg hv1
      refine hK.out _ _ (by (try dsimp only); exact cells3 HF8.out) (fun hS' => ?_)
      clear hK K
      try simp only [Act.put, List.setIfInBounds_toArray, List.set_cons_zero, List.set_cons_succ]
      have hw5 : IntKind.i64.wrap (1 + v) = 1 + v := IntWalk.i64_in _ ⟨by omega, by omega⟩
      refine tail_take 16 rfl (by kernel_rfl) (by kernel_rfl) (by kernel_rfl) (by kernel_rfl) (fun _ _ _ h => h) (by rfl) (v := ?_) ?_ (by assumption) ?_
      rotate_left 1
      · intro w' hS'; obtain ⟨c0, c1, c2⟩ := hS'; go_simp; try with_reducible rfl
      try simp only [Act.put, List.setIfInBounds_toArray, List.set_cons_zero, List.set_cons_succ]
      refine tail_take 18 rfl (by kernel_rfl) (by kernel_rfl) (by kernel_rfl) (by kernel_rfl) (fun _ _ _ h => h) (by rfl) (v := ?_) ?_ (by assumption) ?_
      rotate_left 1
      · intro w' hS'; obtain ⟨c0, c1, c2⟩ := hS'; go_simp; try with_reducible rfl
      try simp only [Act.put, List.setIfInBounds_toArray, List.set_cons_zero, List.set_cons_succ]
      obtain ⟨z0, z1, z2, z3, z4, z5, f0, f1, f2, f3, f4, f5⟩ := row6c HZ8.out
      refine tail_last 19 rfl (by kernel_rfl) (by kernel_rfl) rfl rfl (fun K hK => ?_)
      go_simp
      refine hK.out _ _ ?_
      clear hK K
      try simp only [Act.put, List.setIfInBounds_toArray, List.set_cons_zero, List.set_cons_succ]
      have HZ9 := hide (row_set6 HZ8.out (.int .i64 p) (.int .i64 k) (.int .i64 γ) (.int .i64 (M + u)) (.int .i64 (1 + v)) (.int .i64 (1 + y)))
      have HS9 := hide (src_set6 HS8.out hgl (.int .i64 p) (.int .i64 k) (.int .i64 γ) (.int .i64 (M + u)) (.int .i64 (1 + v)) (.int .i64 (1 + y)))
      have HG9 := hide (grown_set6 HG8.out w.heap.size (Nat.le_refl _) (.int .i64 p) (.int .i64 k) (.int .i64 γ) (.int .i64 (M + u)) (.int .i64 (1 + v)) (.int .i64 (1 + y)))
      have hz9 := HZ9.out
      unfold set6 at hz9
      obtain ⟨y0, y1, y2, y3, y4, y5, -, -, -, -, -, -⟩ := row6c hz9
      clear hz9 z0 z1 z2 z3 z4 z5 f0 f1 f2 f3 f4 f5
      go_wp2_with fail
      refine bodyPost_ret (v := .agg #[.int .i64 p, .int .i64 k, .int .i64 γ, .int .i64 (M + u), .int .i64 (1 + v), .int .i64 (1 + y)]) (by simp [results, Tryz.results53, go_sem, y0, y1, y2, y3, y4, y5]) rfl ⟨p, k, γ, _, _, _, rfl, by omega, by omega, by omega, by omega, by omega, by omega, HS9.out, HG9.out⟩
end Go.Proofs.YtlphodhecaagbaaGreat

namespace Go.Proofs.YtlphodhecaagbaaGreat
open Go.RowKit
set_option linter.unusedVariables false
set_option linter.unusedSimpArgs false

theorem row_grownN {w w' : World} {N : Nat} {row : Option Nat} {o : Obj} (h : w.heap[N]? = some o) (hg : w.grownBy w' row) (hne : row ≠ some N) : w'.heap[N]? = some o :=
  (hg.block N (Array.getElem?_eq_some_iff.1 h).1 (Ne.symm hne)).trans h
set_option maxRecDepth 100000 in
set_option maxHeartbeats 8000000 in
theorem drawLayAny (g Bc : Nat) (A : Option Addr) (n c : Nat) (code : List Int) (w : World) (hS : Src w g Bc A n c code) :
    Calls Tryz.prog 28 #[.pointer (some ⟨g, 0, none⟩)] w (DrawnY g Bc A n c code w) := by
  have hgl := hS.lt
  have HS := hide ((hS.still (World.grownBy_alloc w (.cells #[.int .i64 0, .int .i64 0, .int .i64 0, .int .i64 0, .int .i64 0, .int .i64 0] 27) none) (by simp)))
  have HZ := hide (show YRow (w.alloc (.cells #[.int .i64 0, .int .i64 0, .int .i64 0, .int .i64 0, .int .i64 0, .int .i64 0] 27)) w.heap.size 0 0 0 0 0 0 from heap_alloc_new w _)
  clear hS
  go_enter Tryz.func28, Tryz.ntmps28
  go_wp2_with fail
  refine (drawLay g Bc A n c code _ HS.out).mono ?_
  rintro e w1 ⟨p, k, γ, D, K, C, rfl, hD0, hD1, hK0, hK1, hC0, hC1, hs, hg⟩
  have HS1 := hide (hs.still (World.grownBy_alloc w1 (.cells #[.int .i64 p, .int .i64 k, .int .i64 γ, .int .i64 D, .int .i64 K, .int .i64 C] 27) none) (by simp))
  have hz1 := row_grown HZ.out hg (show g ≠ w.heap.size by omega)
  have HZ1 := hide (show YRow (w1.alloc (.cells #[.int .i64 p, .int .i64 k, .int .i64 γ, .int .i64 D, .int .i64 K, .int .i64 C] 27)) w.heap.size 0 0 0 0 0 0 from row_old hz1 _)
  have HG1 := hide (grown_alloc (grown_trans (World.grownBy_alloc w _ (some g)) hg) (.cells #[.int .i64 p, .int .i64 k, .int .i64 γ, .int .i64 D, .int .i64 K, .int .i64 C] 27))
  have HF1 := hide (show YRow (w1.alloc (.cells #[.int .i64 p, .int .i64 k, .int .i64 γ, .int .i64 D, .int .i64 K, .int .i64 C] 27)) w1.heap.size p k γ D K C from heap_alloc_new w1 _)
  have hl1 : w.heap.size < w1.heap.size := (Array.getElem?_eq_some_iff.1 hz1).1
  clear hs hg hz1
  go_wp2_with fail
  refine (next_any g Bc A n c code 30 _ HS1.out (by omega)).mono ?_
  rintro e w2 ⟨y, rfl, hy0, hy1, hs, hg⟩
  obtain ⟨N, hN⟩ : ∃ N, N = w1.heap.size := ⟨_, rfl⟩
  rw [← hN] at HF1 hl1 ⊢
  have hgN : g < N := by omega
  have HS2 := hide hs
  have HZ2 := hide (show YRow w2 w.heap.size 0 0 0 0 0 0 from row_grown HZ1.out hg (by omega))
  have HF2 := hide (show YRow w2 N p k γ D K C from row_grown HF1.out hg (by omega))
  have HG2 := hide (grown_trans HG1.out hg)
  clear hs hg hN HS1 HZ1 HF1 HG1 HS HZ
  obtain ⟨z0, z1, z2, z3, z4, z5, f0, f1, f2, f3, f4, f5⟩ := row6c HZ2.out
  obtain ⟨d0, d1, d2, d3, d4, d5, e0, e1, e2, e3, e4, e5⟩ := row6c HF2.out
  have hwN : w.heap.size < N := hl1
  by_cases hc0 : y = 0
  · subst hc0
    have hw1 : IntKind.i64.wrap (D + 1) = D + 1 := IntWalk.i64_in _ ⟨by omega, by omega⟩
    go_wp2_with fail
    clear z0 z1 z2 z3 z4 z5 f0 f1 f2 f3 f4 f5 d0 d1 d2 d3 d4 d5 e0 e1 e2 e3 e4 e5
    refine tail_begin (fun w' => w'.cell? ⟨N, 3, none⟩ = some (.int .i64 D)) 11 (by kernel_rfl) (row6c (show w2.drew.heap[N]? = _ from HF2.out)).2.2.2.1 (fun hS' => ?_)
    have HSd := hide (HS2.out.drew')
    have HZd := hide (show YRow w2.drew w.heap.size 0 0 0 0 0 0 from HZ2.out)
    have HFd := hide (show YRow w2.drew N p k γ D K C from HF2.out)
    have HGd := hide (grown_drew HG2.out)
    obtain ⟨wd, hwd⟩ : ∃ wd, wd = w2.drew := ⟨_, rfl⟩
    rw [← hwd] at hS' HSd HZd HFd HGd ⊢
    clear hwd HS2 HZ2 HF2 HG2
    refine tail_take 0 rfl (by kernel_rfl) (by kernel_rfl) (by kernel_rfl) (by kernel_rfl) (fun _ _ _ h => h) (by rfl) (v := ?_) ?_ (by assumption) ?_
    rotate_left 1
    · intro w' hS'; (try dsimp only at hS'); go_simp; try with_reducible rfl
    try simp only [Act.put, List.setIfInBounds_toArray, List.set_cons_zero, List.set_cons_succ]
    refine tail_take 1 rfl (by kernel_rfl) (by kernel_rfl) (by kernel_rfl) (by kernel_rfl) (fun _ _ _ h => h) (by rfl) (v := ?_) ?_ (by assumption) ?_
    rotate_left 1
    · intro w' hS'; (try dsimp only at hS'); go_simp; try with_reducible rfl
    try simp only [Act.put, List.setIfInBounds_toArray, List.set_cons_zero, List.set_cons_succ]
    refine tail_take 2 rfl (by kernel_rfl) (by kernel_rfl) (by kernel_rfl) (by kernel_rfl) (fun _ _ _ h => h) (by rfl) (v := ?_) ?_ (by assumption) ?_
    rotate_left 1
    · intro w' hS'; (try dsimp only at hS'); go_simp; try with_reducible rfl
    try simp only [Act.put, List.setIfInBounds_toArray, List.set_cons_zero, List.set_cons_succ]
    refine tail_take 3 rfl (by kernel_rfl) (by kernel_rfl) (by kernel_rfl) (by kernel_rfl) (fun _ _ _ h => h) (by rfl) (v := ?_) ?_ (by assumption) ?_
    rotate_left 1
    · intro w' hS'; (try dsimp only at hS'); go_simp; try with_reducible rfl
    try simp only [Act.put, List.setIfInBounds_toArray, List.set_cons_zero, List.set_cons_succ]
    refine tail_take 4 rfl (by kernel_rfl) (by kernel_rfl) (by kernel_rfl) (by kernel_rfl) (fun _ _ _ h => h) (by rfl) (v := ?_) ?_ (by assumption) ?_
    rotate_left 1
    · intro w' hS'; (try dsimp only at hS'); go_simp; try with_reducible rfl
    try simp only [Act.put, List.setIfInBounds_toArray, List.set_cons_zero, List.set_cons_succ]
    refine tail_take 6 rfl (by kernel_rfl) (by kernel_rfl) (by kernel_rfl) (by kernel_rfl) (fun _ _ _ h => h) (by rfl) (v := ?_) ?_ (by assumption) ?_
    rotate_left 1
    · intro w' hS'; (try dsimp only at hS'); go_simp; try with_reducible rfl
    try simp only [Act.put, List.setIfInBounds_toArray, List.set_cons_zero, List.set_cons_succ]
    refine tail_two 5 7 rfl rfl (by kernel_rfl) rfl rfl (fun K' hK => ?_) (fun K' hK => ?_)
    · go_simp
      refine hK.out _ _ (by (try dsimp only); exact (row6c (row_old HFd.out (.cells #[.int .i64 0, .int .i64 D, .int .i64 (D + 1), .int .i64 17] 2))).2.2.2.1) (fun hS' => ?_)
      clear hK K'
      try simp only [Act.put, List.setIfInBounds_toArray, List.set_cons_zero, List.set_cons_succ]
      refine tail_call 7 rfl (by kernel_rfl) rfl (fun K' hK => ?_)
      go_simp
      (go_at_call 45; refine (next_any g Bc A n c code 4 _ (HSd.out.still (World.grownBy_alloc wd (.cells #[.int .i64 0, .int .i64 D, .int .i64 (D + 1), .int .i64 17] 2) none) (by simp)) (by omega)).mono ?_; rintro e w3 ⟨r, rfl, hr0, hr1, hs, hg⟩; obtain ⟨r, rfl⟩ : ∃ m : Nat, r = m := ⟨r.toNat, by omega⟩; have hr2 : (r : Int) < 4 := (by omega); have HS3 := hide hs; have HZ3 := hide (show YRow w3 w.heap.size 0 0 0 0 0 0 from row_grown (row_old HZd.out (.cells #[.int .i64 0, .int .i64 D, .int .i64 (D + 1), .int .i64 17] 2)) hg (by omega)); have HF3 := hide (show YRow w3 N p k γ D K C from row_grown (row_old HFd.out (.cells #[.int .i64 0, .int .i64 D, .int .i64 (D + 1), .int .i64 17] 2)) hg (by omega)); have HG3 := hide (grown_trans (grown_alloc HGd.out (.cells #[.int .i64 0, .int .i64 D, .int .i64 (D + 1), .int .i64 17] 2)) hg))
      refine hK.out _ _ (by (try dsimp only); exact (row6c HF3.out).2.2.2.1) (fun hS' => ?_)
      clear hK K'
      try simp only [Act.put, List.setIfInBounds_toArray, List.set_cons_zero, List.set_cons_succ]
      obtain ⟨x, hx, hxb⟩ : ∃ x, w3.cell? ⟨wd.heap.size, r, none⟩ = some (.int .i64 x) ∧ 0 ≤ x ∧ x ≤ 4000 := by
        have hwd : g < wd.heap.size := HSd.out.lt
        rw [grown_cell hg (by simp) (fun h => by simp at h; omega), World.cell?_alloc_at _ _ _ _ rfl]
        rcases (show r = 0 ∨ r = 1 ∨ r = 2 ∨ r = 3 by omega) with rfl | rfl | rfl | rfl
        · exact ⟨0, rfl, by omega⟩
        · exact ⟨D, rfl, by omega⟩
        · exact ⟨D + 1, rfl, by omega⟩
        · exact ⟨17, rfl, by omega⟩
      clear hs hg
      refine tail_take 8 rfl (by kernel_rfl) (by kernel_rfl) (by kernel_rfl) (by kernel_rfl) (fun _ _ _ h => h) (by rfl) (v := ?_) ?_ (by assumption) ?_
      rotate_left 1
      · intro w' hS'; (try dsimp only at hS'); go_simp; try with_reducible rfl
      try simp only [Act.put, List.setIfInBounds_toArray, List.set_cons_zero, List.set_cons_succ]
      refine tail_call 9 rfl (by kernel_rfl) rfl (fun K' hK => ?_)
      go_simp
      refine hK.out _ _ (by (try dsimp only); exact (row6c HF3.out).2.2.2.1) (fun hS' => ?_)
      clear hK K'
      try simp only [Act.put, List.setIfInBounds_toArray, List.set_cons_zero, List.set_cons_succ]
      obtain ⟨d0, d1, d2, d3, d4, d5, e0, e1, e2, e3, e4, e5⟩ := row6c HF3.out
      refine tail_take 10 rfl (by kernel_rfl) (by kernel_rfl) (by kernel_rfl) (by kernel_rfl) (fun _ _ _ h => h) (by rfl) (v := ?_) ?_ (by assumption) ?_
      rotate_left 1
      · intro w' hS'; (try dsimp only at hS'); go_simp; try with_reducible rfl
      try simp only [Act.put, List.setIfInBounds_toArray, List.set_cons_zero, List.set_cons_succ]
      refine tail_last 11 rfl (by kernel_rfl) (by kernel_rfl) rfl rfl (fun K' hK => ?_)
      go_simp
      refine hK.out _ _ ?_
      clear hK K'
      try simp only [Act.put, List.setIfInBounds_toArray, List.set_cons_zero, List.set_cons_succ]
      have HS9 := hide (set1_src HS3.out hgN 5 (.int .i64 x))
      have HZ9 := hide (show YRow (w3.setCell ⟨N, 5, none⟩ (.int .i64 x)) w.heap.size 0 0 0 0 0 0 from row_set HZ3.out (by omega))
      have HF9 := hide (show YRow (w3.setCell ⟨N, 5, none⟩ (.int .i64 x)) N p k γ D K x from heap_setCell_same _ N 5 _ _ _ HF3.out)
      have HG9 := hide (grown_set2 HG3.out N 5 (.int .i64 x) (by omega))
      clear d0 d1 d2 d3 d4 d5 e0 e1 e2 e3 e4 e5
      obtain ⟨z0, z1, z2, z3, z4, z5, f0, f1, f2, f3, f4, f5⟩ := row6c HZ9.out
      obtain ⟨d0, d1, d2, d3, d4, d5, e0, e1, e2, e3, e4, e5⟩ := row6c HF9.out
      have hz9 := row_set6 HZ9.out (.int .i64 p) (.int .i64 k) (.int .i64 γ) (.int .i64 D) (.int .i64 K) (.int .i64 x)
      unfold set6 at hz9
      obtain ⟨y0, y1, y2, y3, y4, y5, -, -, -, -, -, -⟩ := row6c hz9
      clear hz9
      go_wp2_with fail
      refine bodyPost_ret (v := .agg #[.int .i64 p, .int .i64 k, .int .i64 γ, .int .i64 D, .int .i64 K, .int .i64 x]) (by simp [results, Tryz.results28, go_sem, y0, y1, y2, y3, y4, y5]) rfl ⟨p, k, γ, D, K, x, rfl, by omega, by omega, by omega, by omega, by omega, by omega, src_set6 HS9.out hgl _ _ _ _ _ _, grown_set6 HG9.out _ (Nat.le_refl _) _ _ _ _ _ _⟩
    · go_simp
      (go_at_call 45; refine (next_any g Bc A n c code 4 _ HSd.out (by omega)).mono ?_; rintro e w4 ⟨r, rfl, hr0, hr1, hs, hg⟩; obtain ⟨r, rfl⟩ : ∃ m : Nat, r = m := ⟨r.toNat, by omega⟩; have hr2 : (r : Int) < 4 := (by omega); have HS4 := hide hs; have HZ4 := hide (show YRow w4 w.heap.size 0 0 0 0 0 0 from row_grown HZd.out hg (by omega)); have HF4 := hide (show YRow w4 N p k γ D K C from row_grown HFd.out hg (by omega)); have HG4 := hide (grown_trans HGd.out hg); clear hs hg)
      refine hK.out _ _ (by (try dsimp only); exact (row6c HF4.out).2.2.2.1) (fun hS' => ?_)
      clear hK K'
      try simp only [Act.put, List.setIfInBounds_toArray, List.set_cons_zero, List.set_cons_succ]
      refine tail_call 5 rfl (by kernel_rfl) rfl (fun K' hK => ?_)
      go_simp
      refine hK.out _ _ (by (try dsimp only); exact (row6c (row_old HF4.out (.cells #[.int .i64 0, .int .i64 D, .int .i64 (D + 1), .int .i64 17] 2))).2.2.2.1) (fun hS' => ?_)
      clear hK K'
      try simp only [Act.put, List.setIfInBounds_toArray, List.set_cons_zero, List.set_cons_succ]
      obtain ⟨x, hx, hxb⟩ : ∃ x, (w4.alloc (.cells #[.int .i64 0, .int .i64 D, .int .i64 (D + 1), .int .i64 17] 2)).cell? ⟨w4.heap.size, r, none⟩ = some (.int .i64 x) ∧ 0 ≤ x ∧ x ≤ 4000 := by
        rw [World.cell?_alloc_at _ _ _ _ rfl]
        rcases (show r = 0 ∨ r = 1 ∨ r = 2 ∨ r = 3 by omega) with rfl | rfl | rfl | rfl
        · exact ⟨0, rfl, by omega⟩
        · exact ⟨D, rfl, by omega⟩
        · exact ⟨D + 1, rfl, by omega⟩
        · exact ⟨17, rfl, by omega⟩
      refine tail_take 8 rfl (by kernel_rfl) (by kernel_rfl) (by kernel_rfl) (by kernel_rfl) (fun _ _ _ h => h) (by rfl) (v := ?_) ?_ (by assumption) ?_
      rotate_left 1
      · intro w' hS'; (try dsimp only at hS'); go_simp; try with_reducible rfl
      try simp only [Act.put, List.setIfInBounds_toArray, List.set_cons_zero, List.set_cons_succ]
      refine tail_call 9 rfl (by kernel_rfl) rfl (fun K' hK => ?_)
      go_simp
      refine hK.out _ _ (by (try dsimp only); exact (row6c (row_old HF4.out (.cells #[.int .i64 0, .int .i64 D, .int .i64 (D + 1), .int .i64 17] 2))).2.2.2.1) (fun hS' => ?_)
      clear hK K'
      try simp only [Act.put, List.setIfInBounds_toArray, List.set_cons_zero, List.set_cons_succ]
      have HS3 := hide (HS4.out.still (World.grownBy_alloc w4 (.cells #[.int .i64 0, .int .i64 D, .int .i64 (D + 1), .int .i64 17] 2) none) (by simp))
      have HZ3 := hide (show YRow (w4.alloc (.cells #[.int .i64 0, .int .i64 D, .int .i64 (D + 1), .int .i64 17] 2)) w.heap.size 0 0 0 0 0 0 from row_old HZ4.out _)
      have HF3 := hide (show YRow (w4.alloc (.cells #[.int .i64 0, .int .i64 D, .int .i64 (D + 1), .int .i64 17] 2)) N p k γ D K C from row_old HF4.out _)
      have HG3 := hide (grown_alloc HG4.out (.cells #[.int .i64 0, .int .i64 D, .int .i64 (D + 1), .int .i64 17] 2))
      generalize w4.alloc (.cells #[.int .i64 0, .int .i64 D, .int .i64 (D + 1), .int .i64 17] 2) = w3 at HS3 HZ3 HF3 HG3 hx hS' ⊢
      clear HS4 HZ4 HF4 HG4
      obtain ⟨d0, d1, d2, d3, d4, d5, e0, e1, e2, e3, e4, e5⟩ := row6c HF3.out
      refine tail_take 10 rfl (by kernel_rfl) (by kernel_rfl) (by kernel_rfl) (by kernel_rfl) (fun _ _ _ h => h) (by rfl) (v := ?_) ?_ (by assumption) ?_
      rotate_left 1
      · intro w' hS'; (try dsimp only at hS'); go_simp; try with_reducible rfl
      try simp only [Act.put, List.setIfInBounds_toArray, List.set_cons_zero, List.set_cons_succ]
      refine tail_last 11 rfl (by kernel_rfl) (by kernel_rfl) rfl rfl (fun K' hK => ?_)
      go_simp
      refine hK.out _ _ ?_
      clear hK K'
      try simp only [Act.put, List.setIfInBounds_toArray, List.set_cons_zero, List.set_cons_succ]
      have HS9 := hide (set1_src HS3.out hgN 5 (.int .i64 x))
      have HZ9 := hide (show YRow (w3.setCell ⟨N, 5, none⟩ (.int .i64 x)) w.heap.size 0 0 0 0 0 0 from row_set HZ3.out (by omega))
      have HF9 := hide (show YRow (w3.setCell ⟨N, 5, none⟩ (.int .i64 x)) N p k γ D K x from heap_setCell_same _ N 5 _ _ _ HF3.out)
      have HG9 := hide (grown_set2 HG3.out N 5 (.int .i64 x) (by omega))
      clear d0 d1 d2 d3 d4 d5 e0 e1 e2 e3 e4 e5
      obtain ⟨z0, z1, z2, z3, z4, z5, f0, f1, f2, f3, f4, f5⟩ := row6c HZ9.out
      obtain ⟨d0, d1, d2, d3, d4, d5, e0, e1, e2, e3, e4, e5⟩ := row6c HF9.out
      have hz9 := row_set6 HZ9.out (.int .i64 p) (.int .i64 k) (.int .i64 γ) (.int .i64 D) (.int .i64 K) (.int .i64 x)
      unfold set6 at hz9
      obtain ⟨y0, y1, y2, y3, y4, y5, -, -, -, -, -, -⟩ := row6c hz9
      clear hz9
      go_wp2_with fail
      refine bodyPost_ret (v := .agg #[.int .i64 p, .int .i64 k, .int .i64 γ, .int .i64 D, .int .i64 K, .int .i64 x]) (by simp [results, Tryz.results28, go_sem, y0, y1, y2, y3, y4, y5]) rfl ⟨p, k, γ, D, K, x, rfl, by omega, by omega, by omega, by omega, by omega, by omega, src_set6 HS9.out hgl _ _ _ _ _ _, grown_set6 HG9.out _ (Nat.le_refl _) _ _ _ _ _ _⟩
  by_cases hc1 : y = 1
  · subst hc1
    go_wp2_with fail
    refine (next_any g Bc A n c code 3 _ (HS2.out.still (World.grownBy_alloc w2 (.cells #[.int .i64 0, .int .i64 64, .int .i64 65] 2) none) (by simp)) (by omega)).mono ?_
    rintro e w3 ⟨r, rfl, hr0, hr1, hs, hg⟩
    obtain ⟨r, rfl⟩ : ∃ m : Nat, r = m := ⟨r.toNat, by omega⟩
    have hr2 : (r : Int) < 3 := by omega
    have HS3 := hide hs
    have HZ3 := hide (show YRow w3 w.heap.size 0 0 0 0 0 0 from row_grown (row_old HZ2.out (.cells #[.int .i64 0, .int .i64 64, .int .i64 65] 2)) hg (by omega))
    have HF3 := hide (show YRow w3 N p k γ D K C from row_grown (row_old HF2.out (.cells #[.int .i64 0, .int .i64 64, .int .i64 65] 2)) hg (by omega))
    have HG3 := hide (grown_trans (grown_alloc HG2.out (.cells #[.int .i64 0, .int .i64 64, .int .i64 65] 2)) hg)
    obtain ⟨x, hx, hxb⟩ : ∃ x, w3.cell? ⟨w2.heap.size, r, none⟩ = some (.int .i64 x) ∧ 0 ≤ x ∧ x ≤ 3000 := by
      have hwd : g < w2.heap.size := HS2.out.lt
      rw [grown_cell hg (by simp) (fun h => by simp at h; omega), World.cell?_alloc_at _ _ _ _ rfl]
      rcases (show r = 0 ∨ r = 1 ∨ r = 2 by omega) with rfl | rfl | rfl
      · exact ⟨0, rfl, by omega⟩
      · exact ⟨64, rfl, by omega⟩
      · exact ⟨65, rfl, by omega⟩
    clear hs hg z0 z1 z2 z3 z4 z5 f0 f1 f2 f3 f4 f5 d0 d1 d2 d3 d4 d5 e0 e1 e2 e3 e4 e5
    obtain ⟨z0, z1, z2, z3, z4, z5, f0, f1, f2, f3, f4, f5⟩ := row6c HZ3.out
    obtain ⟨d0, d1, d2, d3, d4, d5, e0, e1, e2, e3, e4, e5⟩ := row6c HF3.out
    have HS9 := hide (set1_src HS3.out hgN 4 (.int .i64 x))
    have HZ9 := hide (show YRow (w3.setCell ⟨N, 4, none⟩ (.int .i64 x)) w.heap.size 0 0 0 0 0 0 from row_set HZ3.out (by omega))
    have HF9 := hide (show YRow (w3.setCell ⟨N, 4, none⟩ (.int .i64 x)) N p k γ D x C from heap_setCell_same _ N 4 _ _ _ HF3.out)
    have HG9 := hide (grown_set2 HG3.out N 4 (.int .i64 x) (by omega))
    clear hy0
    obtain ⟨z0, z1, z2, z3, z4, z5, f0, f1, f2, f3, f4, f5⟩ := row6c HZ9.out
    obtain ⟨d0, d1, d2, d3, d4, d5, e0, e1, e2, e3, e4, e5⟩ := row6c HF9.out
    have hz9 := row_set6 HZ9.out (.int .i64 p) (.int .i64 k) (.int .i64 γ) (.int .i64 D) (.int .i64 x) (.int .i64 C)
    unfold set6 at hz9
    obtain ⟨y0, y1, y2, y3, y4, y5, -, -, -, -, -, -⟩ := row6c hz9
    clear hz9
    go_wp2_with fail
    refine bodyPost_ret (v := .agg #[.int .i64 p, .int .i64 k, .int .i64 γ, .int .i64 D, .int .i64 x, .int .i64 C]) (by simp [results, Tryz.results28, go_sem, y0, y1, y2, y3, y4, y5]) rfl ⟨p, k, γ, D, x, C, rfl, by omega, by omega, by omega, by omega, by omega, by omega, src_set6 HS9.out hgl _ _ _ _ _ _, grown_set6 HG9.out _ (Nat.le_refl _) _ _ _ _ _ _⟩
  by_cases hc2 : y = 2
  · subst hc2
    go_wp2_with fail
    refine (drawAny g Bc A n c code _ HS2.out).mono ?_
    rintro e w3 ⟨p', k', γ', rfl, hs, hg⟩
    have HS3 := hide hs
    have HZ3 := hide (show YRow w3 w.heap.size 0 0 0 0 0 0 from row_grown HZ2.out hg (by omega))
    have HF3 := hide (show YRow w3 N p k γ D K C from row_grown HF2.out hg (by omega))
    have HG3 := hide (grown_trans HG2.out hg)
    clear hs hg z0 z1 z2 z3 z4 z5 f0 f1 f2 f3 f4 f5 d0 d1 d2 d3 d4 d5 e0 e1 e2 e3 e4 e5
    obtain ⟨z0, z1, z2, z3, z4, z5, f0, f1, f2, f3, f4, f5⟩ := row6c HZ3.out
    obtain ⟨d0, d1, d2, d3, d4, d5, e0, e1, e2, e3, e4, e5⟩ := row6c HF3.out
    have HS9 := hide (set1_src (set1_src (set1_src HS3.out hgN 0 (.int .i64 p')) hgN 1 (.int .i64 k')) hgN 2 (.int .i64 γ'))
    have HZ9 := hide (show YRow (((w3.setCell ⟨N, 0, none⟩ (.int .i64 p')).setCell ⟨N, 1, none⟩ (.int .i64 k')).setCell ⟨N, 2, none⟩ (.int .i64 γ')) w.heap.size 0 0 0 0 0 0 from row_set (row_set (row_set HZ3.out (by omega)) (by omega)) (by omega))
    have HF9 := hide (show YRow (((w3.setCell ⟨N, 0, none⟩ (.int .i64 p')).setCell ⟨N, 1, none⟩ (.int .i64 k')).setCell ⟨N, 2, none⟩ (.int .i64 γ')) N p' k' γ' D K C from heap_setCell_same _ N 2 _ _ _ (heap_setCell_same _ N 1 _ _ _ (heap_setCell_same _ N 0 _ _ _ HF3.out)))
    have HG9 := hide (grown_set2 (grown_set2 (grown_set2 HG3.out N 0 (.int .i64 p') (by omega)) N 1 (.int .i64 k') (by omega)) N 2 (.int .i64 γ') (by omega))
    clear hy0
    obtain ⟨z0, z1, z2, z3, z4, z5, f0, f1, f2, f3, f4, f5⟩ := row6c HZ9.out
    obtain ⟨d0, d1, d2, d3, d4, d5, e0, e1, e2, e3, e4, e5⟩ := row6c HF9.out
    have hz9 := row_set6 HZ9.out (.int .i64 p') (.int .i64 k') (.int .i64 γ') (.int .i64 D) (.int .i64 K) (.int .i64 C)
    unfold set6 at hz9
    obtain ⟨y0, y1, y2, y3, y4, y5, -, -, -, -, -, -⟩ := row6c hz9
    clear hz9
    go_wp2_with fail
    refine bodyPost_ret (v := .agg #[.int .i64 p', .int .i64 k', .int .i64 γ', .int .i64 D, .int .i64 K, .int .i64 C]) (by simp [results, Tryz.results28, go_sem, y0, y1, y2, y3, y4, y5]) rfl ⟨p', k', γ', D, K, C, rfl, by omega, by omega, by omega, by omega, by omega, by omega, src_set6 HS9.out hgl _ _ _ _ _ _, grown_set6 HG9.out _ (Nat.le_refl _) _ _ _ _ _ _⟩
  by_cases hc3 : y = 3
  · subst hc3
    go_wp2_with fail
    refine (specFieldOf 256 _).mono ?_
    rintro e w3 ⟨rfl, hb⟩
    have HS3 := hide (HS2.out.below hb HS2.out.lt)
    have HZ3 := hide (show YRow w3 w.heap.size 0 0 0 0 0 0 from HZ2.out.next hb)
    have HF3 := hide (show YRow w3 N p k γ D K C from HF2.out.next hb)
    have HG3 := hide (grown_below HG2.out hb HG2.out.size)
    clear hb z0 z1 z2 z3 z4 z5 f0 f1 f2 f3 f4 f5 d0 d1 d2 d3 d4 d5 e0 e1 e2 e3 e4 e5
    generalize foP 256 = p'
    generalize foK 256 = k'
    generalize foG 256 = γ'
    generalize foC 256 = cc
    have hN3 : N < w3.heap.size := (Array.getElem?_eq_some_iff.1 HF3.out).1
    go_wp2_with fail
    have HF4 := hide (heap_alloc_new w3 (.cells #[.int .i64 p', .int .i64 k', .int .i64 γ'] 25 (0, 0)))
    have HS4 := hide (HS3.out.still (World.grownBy_alloc w3 (.cells #[.int .i64 p', .int .i64 k', .int .i64 γ'] 25) none) (by simp))
    have HZ4 := hide (show YRow (w3.alloc (.cells #[.int .i64 p', .int .i64 k', .int .i64 γ'] 25)) w.heap.size 0 0 0 0 0 0 from row_old HZ3.out _)
    have HL4 := hide (show YRow (w3.alloc (.cells #[.int .i64 p', .int .i64 k', .int .i64 γ'] 25)) N p k γ D K C from row_old HF3.out _)
    have HG4 := hide (grown_alloc HG3.out (.cells #[.int .i64 p', .int .i64 k', .int .i64 γ'] 25))
    obtain ⟨w4, hw4⟩ : ∃ w4, w4 = w3.alloc (.cells #[.int .i64 p', .int .i64 k', .int .i64 γ'] 25) := ⟨_, rfl⟩
    rw [← hw4] at HF4 HS4 HZ4 HL4 HG4 ⊢
    obtain ⟨M, hM⟩ : ∃ M, M = w3.heap.size := ⟨_, rfl⟩
    rw [← hM] at HF4 hN3 ⊢
    clear hw4 hM HS3 HZ3 HF3 HG3
    refine tail_begin (fun w' => w'.cell? ⟨M, 0, none⟩ = some (.int .i64 p') ∧ w'.cell? ⟨M, 1, none⟩ = some (.int .i64 k') ∧ w'.cell? ⟨M, 2, none⟩ = some (.int .i64 γ')) 5 (by kernel_rfl) (cells3 HF4.out) (fun hS' => ?_)
    refine tail_take 0 rfl (by kernel_rfl) (by kernel_rfl) (by kernel_rfl) (by kernel_rfl) (fun _ _ _ h => h) (by rfl) (v := ?_) ?_ (by assumption) ?_
    rotate_left 1
    · intro w' hS'; obtain ⟨q0, q1, q2⟩ := hS'; go_simp; try with_reducible rfl
    try simp only [Act.put, List.setIfInBounds_toArray, List.set_cons_zero, List.set_cons_succ]
    refine tail_take 1 rfl (by kernel_rfl) (by kernel_rfl) (by kernel_rfl) (by kernel_rfl) (fun _ _ _ h => h) (by rfl) (v := ?_) ?_ (by assumption) ?_
    rotate_left 1
    · intro w' hS'; obtain ⟨q0, q1, q2⟩ := hS'; go_simp; try with_reducible rfl
    try simp only [Act.put, List.setIfInBounds_toArray, List.set_cons_zero, List.set_cons_succ]
    refine tail_call 2 rfl (by kernel_rfl) rfl (fun K' hK => ?_)
    go_simp
    go_at_call 45; refine (next_any g Bc A n c code 40 _ HS4.out.drew' (by omega)).mono ?_; rintro e w5 ⟨v, rfl, hv0, hv1, hs, hg⟩; have hv6 : v ≤ 40 := (by omega); have HF5 := hide (row_grown (w := w4.drew) HF4.out hg (by omega)); have HS5 := hide hs; have HZ5 := hide (show YRow w5 w.heap.size 0 0 0 0 0 0 from row_grown (w := w4.drew) HZ4.out hg (by omega)); have HL5 := hide (show YRow w5 N p k γ D K C from row_grown (w := w4.drew) HL4.out hg (by omega)); have HG5 := hide (grown_trans (grown_drew HG4.out) hg); clear hs hg hv1
    refine hK.out _ _ (by (try dsimp only); exact cells3 HF5.out) (fun hS' => ?_)
    clear hK K'
    try simp only [Act.put, List.setIfInBounds_toArray, List.set_cons_zero, List.set_cons_succ]
    have hwv : IntKind.i64.wrap (1470 + v) = 1470 + v := IntWalk.i64_in _ ⟨by omega, by omega⟩
    refine tail_take 3 rfl (by kernel_rfl) (by kernel_rfl) (by kernel_rfl) (by kernel_rfl) (fun _ _ _ h => h) (by rfl) (v := ?_) ?_ (by assumption) ?_
    rotate_left 1
    · intro w' hS'; obtain ⟨q0, q1, q2⟩ := hS'; go_simp; try with_reducible rfl
    try simp only [Act.put, List.setIfInBounds_toArray, List.set_cons_zero, List.set_cons_succ]
    refine tail_take 4 rfl (by kernel_rfl) (by kernel_rfl) (by kernel_rfl) (by kernel_rfl) (fun _ _ _ h => h) (by rfl) (v := ?_) ?_ (by assumption) ?_
    rotate_left 1
    · intro w' hS'; obtain ⟨q0, q1, q2⟩ := hS'; go_simp; try with_reducible rfl
    try simp only [Act.put, List.setIfInBounds_toArray, List.set_cons_zero, List.set_cons_succ]
    obtain ⟨d0, d1, d2, d3, d4, d5, e0, e1, e2, e3, e4, e5⟩ := row6c HL5.out
    refine tail_last 5 rfl (by kernel_rfl) (by kernel_rfl) rfl rfl (fun K' hK => ?_)
    go_simp
    refine hK.out _ _ ?_
    clear hK K'
    try simp only [Act.put, List.setIfInBounds_toArray, List.set_cons_zero, List.set_cons_succ]
    have HF9 := hide (row_set6 HL5.out (.int .i64 p') (.int .i64 k') (.int .i64 γ') (.int .i64 (1470 + v)) (.int .i64 2) (.int .i64 10))
    have HS9 := hide (src_set6 HS5.out hgN (.int .i64 p') (.int .i64 k') (.int .i64 γ') (.int .i64 (1470 + v)) (.int .i64 2) (.int .i64 10))
    have HG9 := hide (grown_set6 HG5.out N (by omega) (.int .i64 p') (.int .i64 k') (.int .i64 γ') (.int .i64 (1470 + v)) (.int .i64 2) (.int .i64 10))
    have HZ9 := hide (show YRow (set6 w5 N (.int .i64 p') (.int .i64 k') (.int .i64 γ') (.int .i64 (1470 + v)) (.int .i64 2) (.int .i64 10)) w.heap.size 0 0 0 0 0 0 by
      unfold set6
      exact row_set (row_set (row_set (row_set (row_set (row_set HZ5.out (by omega)) (by omega)) (by omega)) (by omega)) (by omega)) (by omega))
    have hfold : ((((((w5.setCell ⟨N, 0, none⟩ (.int .i64 p')).setCell ⟨N, 1, none⟩ (.int .i64 k')).setCell ⟨N, 2, none⟩ (.int .i64 γ')).setCell ⟨N, 3, none⟩ (.int .i64 (1470 + v))).setCell ⟨N, 4, none⟩ (.int .i64 2)).setCell ⟨N, 5, none⟩ (.int .i64 10)) = set6 w5 N (.int .i64 p') (.int .i64 k') (.int .i64 γ') (.int .i64 (1470 + v)) (.int .i64 2) (.int .i64 10) := rfl
    rw [hfold]
    generalize set6 w5 N (.int .i64 p') (.int .i64 k') (.int .i64 γ') (.int .i64 (1470 + v)) (.int .i64 2) (.int .i64 10) = w9 at HF9 HS9 HG9 HZ9 ⊢
    clear hfold
    clear d0 d1 d2 d3 d4 d5 e0 e1 e2 e3 e4 e5
    obtain ⟨z0, z1, z2, z3, z4, z5, f0, f1, f2, f3, f4, f5⟩ := row6c HZ9.out
    obtain ⟨d0, d1, d2, d3, d4, d5, e0, e1, e2, e3, e4, e5⟩ := row6c HF9.out
    have hz9 := row_set6 HZ9.out (.int .i64 p') (.int .i64 k') (.int .i64 γ') (.int .i64 (1470 + v)) (.int .i64 2) (.int .i64 10)
    unfold set6 at hz9
    obtain ⟨y0, y1, y2, y3, y4, y5, -, -, -, -, -, -⟩ := row6c hz9
    clear hz9
    go_wp2_with fail
    refine bodyPost_ret (v := .agg #[.int .i64 p', .int .i64 k', .int .i64 γ', .int .i64 (1470 + v), .int .i64 2, .int .i64 10]) (by simp [results, Tryz.results28, go_sem, y0, y1, y2, y3, y4, y5]) rfl ⟨p', k', γ', 1470 + v, 2, 10, rfl, by omega, by omega, by omega, by omega, by omega, by omega, src_set6 HS9.out hgl _ _ _ _ _ _, grown_set6 HG9.out _ (Nat.le_refl _) _ _ _ _ _ _⟩
  · have e1' : (y == 0) = false := by simpa using hc0
    have e2' : (y == 1) = false := by simpa using hc1
    have e3' : (y == 2) = false := by simpa using hc2
    have e4' : (y == 3) = false := by simpa using hc3
    clear hc0 hc1 hc2 hc3
    obtain ⟨z0, z1, z2, z3, z4, z5, f0, f1, f2, f3, f4, f5⟩ := row6c HZ2.out
    obtain ⟨d0, d1, d2, d3, d4, d5, e0, e1, e2, e3, e4, e5⟩ := row6c HF2.out
    have hz9 := row_set6 HZ2.out (.int .i64 p) (.int .i64 k) (.int .i64 γ) (.int .i64 D) (.int .i64 K) (.int .i64 C)
    unfold set6 at hz9
    obtain ⟨y0, y1, y2, y3, y4, y5, -, -, -, -, -, -⟩ := row6c hz9
    clear hz9
    go_wp2_with fail
    refine bodyPost_ret (v := .agg #[.int .i64 p, .int .i64 k, .int .i64 γ, .int .i64 D, .int .i64 K, .int .i64 C]) (by simp [results, Tryz.results28, go_sem, y0, y1, y2, y3, y4, y5]) rfl ⟨p, k, γ, D, K, C, rfl, by omega, by omega, by omega, by omega, by omega, by omega, src_set6 HS2.out hgl _ _ _ _ _ _, grown_set6 HG2.out _ (Nat.le_refl _) _ _ _ _ _ _⟩

end Go.Proofs.YtlphodhecaagbaaGreat

namespace Go.Proofs.YtlphodhecaagbaaGreat
open Go.RowKit
set_option linter.unusedVariables false
set_option linter.unusedSimpArgs false

theorem own_gap7 {wr : World} {base B : Nat} {v : Value} {zs : List Int} (h : Own wr base 2 .i64 v zs) (hB : B < base) : v.ownBlock = none ∨ v.ownBlock ≠ some B := by
  rcases hv : v.ownBlock with _ | b
  · exact .inl rfl
  · refine .inr fun e => ?_
    injection e with e
    have := (h.lt hv).1
    omega
theorem fsize_bd7 (p k g : Int) : 0 ≤ fsize p k g ∧ fsize p k g ≤ 1021 := by
  rcases h : fieldB p k g with _ | _
  · rw [fsize_no h]; omega
  · obtain ⟨q, mul, hK, hq⟩ := size_kd h rfl
    have := hK.big
    omega
/-- The layout that a draw was given lies in its first block; of the blocks before it only the source's was written. -/
def YBs (w wr : World) (p k γ D K C : Int) (g : Nat) : Prop := YRow wr w.heap.size p k γ D K C ∧ w.grownBy wr (some g)
section
variable {w wr wr' : World} {p k γ D K C : Int} {g : Nat}
theorem YBs.lt (h : YBs w wr p k γ D K C g) : w.heap.size < wr.heap.size := (Array.getElem?_eq_some_iff.1 h.1).1
theorem YBs.start (w : World) (p k γ D K C : Int) (g : Nat) : YBs w (w.alloc (.cells #[.int .i64 p, .int .i64 k, .int .i64 γ, .int .i64 D, .int .i64 K, .int .i64 C] 27)) p k γ D K C g := ⟨heap_alloc_new w _, World.grownBy_alloc w _ _⟩
theorem YBs.next (h : YBs w wr p k γ D K C g) (hb : Below wr.heap.size wr wr') : YBs w wr' p k γ D K C g := ⟨YRow.next h.1 hb, grown_below h.2 hb (Nat.le_of_lt h.lt)⟩
theorem YBs.alloc (h : YBs w wr p k γ D K C g) (o : Obj) : YBs w (wr.alloc o) p k γ D K C g := h.next ((Below.refl _ _).alloc (Nat.le_refl _) o)
theorem YBs.src (h : YBs w wr p k γ D K C g) (hg : wr.grownBy wr' (some g)) (hne : g ≠ w.heap.size) : YBs w wr' p k γ D K C g := ⟨row_grown h.1 hg hne, grown_trans h.2 hg⟩
theorem YBs.own {row : Option Nat} (h : YBs w wr p k γ D K C g) (hg : wr.grownBy wr' row) (hr : ∀ b, row = some b → w.heap.size < b) : YBs w wr' p k γ D K C g :=
  ⟨row_grownN h.1 hg (fun e => by have := hr _ e; omega), ⟨hg.os.trans h.2.os, hg.tape.trans h.2.tape, hg.output.trans h.2.output, Nat.le_trans h.2.size hg.size, fun i hi hne => (hg.block i (Nat.lt_of_lt_of_le hi h.2.size) (fun e => by have := hr _ e.symm; omega)).trans (h.2.block i hi hne)⟩⟩
theorem YBs.drew (h : YBs w wr p k γ D K C g) : YBs w wr.drew p k γ D K C g := ⟨h.1, grown_drew h.2⟩
end
def DdRel (w : World) (p k γ D K C : Int) (g Bc : Nat) (A : Option Addr) (n c : Nat) (code : List Int) (v i : Value) (wr : World) : Prop :=
  ∃ (m : Nat) (zs : List Int), i = .int .i64 m ∧ m ≤ 2000 ∧ zs.length = m ∧ Own wr (w.heap.size + 1) 2 .i64 v zs ∧ Src wr g Bc A n c code ∧ YBs w wr p k γ D K C g

set_option maxRecDepth 100000 in
set_option maxHeartbeats 8000000 in
theorem drawData (p k γ D K C : Int) (g Bc : Nat) (A : Option Addr) (n c : Nat) (code : List Int) (w : World) (hS : Src w g Bc A n c code) :
    Calls Tryz.prog 29 #[.pointer (some ⟨g, 0, none⟩), .agg #[.int .i64 p, .int .i64 k, .int .i64 γ, .int .i64 D, .int .i64 K, .int .i64 C]] w (DrawnL g Bc A n c code 2001 w) := by
  have hgl := hS.lt
  have hne : g ≠ w.heap.size := by omega
  have HNE := hide hne
  have HX0 := hide (YBs.start w p k γ D K C g)
  have HX := hide (HX0.out.alloc (.cells #[] 2))
  have HS := hide ((hS.still (World.grownBy_alloc w (.cells #[.int .i64 p, .int .i64 k, .int .i64 γ, .int .i64 D, .int .i64 K, .int .i64 C] 27) none) (by simp)).still (World.grownBy_alloc _ (.cells #[] 2) none) (by simp))
  have HO := hide (Own.lit0 (w.alloc (.cells #[.int .i64 p, .int .i64 k, .int .i64 γ, .int .i64 D, .int .i64 K, .int .i64 C] 27)) 2 .i64)
  rw [alloc_size] at HO
  clear hS hne HX0
  go_enter Tryz.func29, Tryz.ntmps29
  go_wp2_with fail
  go_loopw [5, 6] (fun v i wr => DdRel w p k γ D K C g Bc A n c code v i wr) (fun _ i _ => 2000 - (intOf i).toNat)
  case atStart => exact ⟨0, [], rfl, by omega, rfl, HO.out, HS.out, HX.out⟩
  case round =>
    clear HX HS HO
    obtain ⟨v, rfl⟩ : ∃ v : Value, v = u5 := ⟨_, rfl⟩
    obtain ⟨m, zs, rfl, hm, hL, HO, HS, HX⟩ := hrel
    have HX := hide HX
    have HO := hide HO
    have HS := hide HS
    have HVG := hide (own_gap7 HO.out (B := g) (by omega))
    have HVB := hide (show ∀ b, v.ownBlock = some b → w.heap.size < b from fun b hb => (HO.out.lt hb).1)
    obtain ⟨c0, c1, c2, c3, c4, c5, -, -, -, -, -, -⟩ := row6c HX.out.1
    rcases (show (decide ((m : Int) < D) = true ∧ decide ((m : Int) < 2000) = true) ∨ (decide ((m : Int) < D) = false ∨ (decide ((m : Int) < D) = true ∧ decide ((m : Int) < 2000) = false)) by simp only [decide_eq_false_iff_not, decide_eq_true_eq]; omega) with ⟨h1, h2⟩ | h1
    · have hm2 : m < 2000 := by have := of_decide_eq_true h2; omega
      have hg2 : m < 2000 := hm2
      have hlen : zs.length + 1 ≤ 2001 := by omega
      obtain ⟨fs, hfs⟩ : ∃ fs, fs = fsize p k γ := ⟨_, rfl⟩
      have hfb := fsize_bd7 p k γ
      rw [← hfs] at hfb
      have HFS := hide hfs
      obtain ⟨hf0, hf1⟩ := hfb
      clear hfs
      go_wp2_with fail
      refine (specFieldSize p k γ _).mono ?_
      rw [← HFS.out]
      rintro e w2 ⟨rfl, hb⟩
      have HX2 := hide (HX.out.next hb)
      have HS2 := hide (HS.out.below hb HS.out.lt)
      have HO2 := hide (HO.out.below hb (Nat.le_refl _))
      clear hb c0 c1 c2 c3 c4 c5
      go_wp2_with fail
      refine (next_any g Bc A n c code (max 3 fs) _ HS2.out (by omega)).mono ?_
      rintro e w3 ⟨y, rfl, hy0, hy1, hs, hg⟩
      have HS3 := hide hs
      have HX3 := hide (HX2.out.src hg HNE.out)
      have HO3 := hide (HO2.out.grown hg HVG.out)
      have hwl : w.heap.size + 1 ≤ w3.heap.size := HX3.out.lt
      clear hs hg hy1
      go_wp2_with (at_builtin; refine wpList_app1 w3 rfl _ _ _ rfl elem64 (w.heap.size + 1) v _ rfl HO3.out y rfl (by omega) hwl ?_; intro v4 w4 hown hgrow)
      have HO4 := hide hown
      have HX4 := hide (HX3.out.own hgrow HVB.out)
      have HS4 := hide (HS3.out.still hgrow (fun r hr => Nat.lt_trans hgl (HVB.out r hr)))
      clear hown hgrow
      go_wp2_with fail
      go_roundw
      case rel => exact ⟨m + 1, zs ++ [y], by go_num, by omega, by simp; omega, HO4.out, HS4.out, HX4.out⟩
      case measure => simp [intOf]; omega
    · obtain ⟨Av, cv, rfl, hcv⟩ := HO.out.form
      have hlz : zs.length ≤ 2000 := by omega
      clear hL
      rcases h1 with h1 | ⟨h1, h1'⟩
      all_goals
        go_wp2_with fail
        refine (next_any g Bc A n c code 40 _ HS.out (by omega)).mono ?_
        rintro e w3 ⟨y, rfl, hy0, hy1, hs, hg⟩
        have HS3 := hide hs
        have HX3 := hide (HX.out.src hg HNE.out)
        have HO3 := hide (HO.out.grown hg HVG.out)
        have hlen : zs.length + 1 ≤ 4000 := by omega
        have hwl : w.heap.size + 1 ≤ w3.heap.size := HX3.out.lt
        clear hs hg hy1 c0 c1 c2 c3 c4 c5
        by_cases hy : y = 0
        · subst hy
          go_wp2_with (at_builtin; refine wpList_app1 w3 rfl _ _ _ rfl elem64 (w.heap.size + 1) (.slice Av zs.length cv) _ rfl HO3.out 0 rfl (by omega) hwl ?_; intro v4 w4 hown hgrow)
          have HO4 := hide hown
          have HX4 := hide (HX3.out.own hgrow HVB.out)
          have HS4 := hide (HS3.out.still hgrow (fun r hr => Nat.lt_trans hgl (HVB.out r hr)))
          have HLL := hide (show (zs ++ [(0 : Int)]).length ≤ 2001 by simp; omega)
          clear hown hgrow
          go_wp2_with fail
          go_ret
          exact drawnL_of HO4.out HLL.out (Nat.le_succ _) HS4.out HX4.out.2
        · by_cases hy' : y = 1
          · subst hy'
            rcases Nat.eq_zero_or_pos zs.length with h0 | h0
            · have e5 : decide (0 < zs.length) = false := by rw [decide_eq_false_iff_not]; omega
              have e6 : decide ((0 : Int) < (zs.length : Int)) = false := by rw [decide_eq_false_iff_not]; omega
              clear h0
              go_wp2_with fail
              go_ret
              exact drawnL_of HO3.out (by omega) (Nat.le_succ _) HS3.out HX3.out.2
            · obtain ⟨g1, c1, he, hg1, hg2, hc1⟩ := HO3.out.some_ h0
              simp only [Value.slice.injEq] at he
              obtain ⟨rfl, _, rfl⟩ := he
              have e6 : (0 : Int) < (zs.length : Int) := by omega
              have HGB := hide (And.intro hg1 hg2)
              have hfx := HO3.out.frozenAt 0
              obtain ⟨u, hcx⟩ : ∃ u : Int, w3.cell? ⟨g1, 0, none⟩ = some (.int .i64 u) := ⟨_, HO3.out.cellAt (j := 0) (List.getElem?_eq_getElem h0)⟩
              have HO6 := hide (HO3.out.stored 0 (-1)).1
              have hgs := (HO3.out.stored 0 (-1)).2
              have HX6 := hide (HX3.out.own hgs (fun b hb => by injection hb with hb; omega))
              have HS6 := hide (HS3.out.still hgs (fun r hr => by injection hr with hr; omega))
              clear hgs hg1 hg2
              go_wp2_with fail
              go_ret
              exact drawnL_of (zs := zs.set 0 (-1)) HO6.out (by simp; omega) (Nat.le_succ _) HS6.out HX6.out.2
          · go_wp2_with fail
            go_ret
            exact drawnL_of HO3.out (by omega) (Nat.le_succ _) HS3.out HX3.out.2

/-- What a draw of a layout and a list leaves. -/
def DrawnYL (w : World) (x : Ending) (w' : World) : Prop :=
  ∃ (p k γ D K C : Int) (zs : List Int) (A1 : Option Addr) (c1 : Nat), x = .returned (.tuple #[.agg #[.int .i64 p, .int .i64 k, .int .i64 γ, .int .i64 D, .int .i64 K, .int .i64 C], .slice A1 zs.length c1]) ∧ 0 ≤ D ∧ D ≤ 3000 ∧ 0 ≤ K ∧ K ≤ 3000 ∧ 0 ≤ C ∧ C ≤ 4000 ∧ zs.length ≤ 2001 ∧ zs.length ≤ c1 ∧
    Ints .i64 w' w'.heap.size A1 zs.length zs ∧ Below w.heap.size w w'
/-- What such a draw holds: the source, the zero layout in the first block, the layout in block N. -/
def Yst (w : World) (g Bc : Nat) (A : Option Addr) (n c : Nat) (code : List Int) (N : Nat) (p k γ D K C : Int) (wr : World) : Prop :=
  Src wr g Bc A n c code ∧ YRow wr w.heap.size 0 0 0 0 0 0 ∧ YRow wr N p k γ D K C ∧ Below w.heap.size w wr ∧ w.heap.size < g ∧ g < N
theorem Yst.src {w wr wr' : World} {g Bc N n c : Nat} {A : Option Addr} {code : List Int} {p k γ D K C : Int} (h : Yst w g Bc A n c code N p k γ D K C wr) (hs : Src wr' g Bc A n c code) (hg : wr.grownBy wr' (some g)) : Yst w g Bc A n c code N p k γ D K C wr' := by
  obtain ⟨h1, h2, h3, h4, h5, h6⟩ := h
  exact ⟨hs, row_grown h2 hg (by omega), row_grown h3 hg (by omega), h4.grown hg h4.size (fun r e => by injection e with e; omega), h5, h6⟩
theorem Yst.drew {w wr : World} {g Bc N n c : Nat} {A : Option Addr} {code : List Int} {p k γ D K C : Int} (h : Yst w g Bc A n c code N p k γ D K C wr) : Yst w g Bc A n c code N p k γ D K C wr.drew := by
  obtain ⟨h1, h2, h3, h4, h5, h6⟩ := h
  exact ⟨h1, h2, h3, ⟨h4.os, h4.tape, h4.output, h4.size, h4.block⟩, h5, h6⟩
theorem below_set6 {w wr : World} (h : Below w.heap.size w wr) (x0 x1 x2 x3 x4 x5 : Value) : Below w.heap.size w (set6 wr w.heap.size x0 x1 x2 x3 x4 x5) := by
  unfold set6
  exact (((((h.setCell (Nat.le_refl _) _).setCell (Nat.le_refl _) _).setCell (Nat.le_refl _) _).setCell (Nat.le_refl _) _).setCell (Nat.le_refl _) _).setCell (Nat.le_refl _) _
theorem own_set6 {wr : World} {base M : Nat} {v : Value} {zs : List Int} (h : Own wr base 2 .i64 v zs) (hM : M < base) (x0 x1 x2 x3 x4 x5 : Value) : Own (set6 wr M x0 x1 x2 x3 x4 x5) base 2 .i64 v zs := by
  have hg : ∀ (w' : World) (j : Nat) (u : Value), Own w' base 2 .i64 v zs → Own (w'.setCell ⟨M, j, none⟩ u) base 2 .i64 v zs := fun w' j u ho => ho.grown (grown_set (World.grownBy.refl w' (some M)) j u) (own_gap7 ho hM)
  unfold set6
  exact hg _ _ _ (hg _ _ _ (hg _ _ _ (hg _ _ _ (hg _ _ _ (hg _ _ _ h)))))

set_option maxRecDepth 100000 in
set_option maxHeartbeats 8000000 in
theorem drawEncS (A : Option Addr) (n c : Nat) (code : List Int) (w : World) (hI : Ints .u8 w w.heap.size A n code) (hn : n ≤ 4096) (hby : ∀ b ∈ code, 0 ≤ b ∧ b ≤ 255) :
    Calls Tryz.prog 7 #[.slice A n c] w (DrawnYL w) := by
  have HI := hide ((hI.below ((Below.refl _ _).alloc (Nat.le_refl _) (.cells #[.int .i64 0, .int .i64 0, .int .i64 0, .int .i64 0, .int .i64 0, .int .i64 0] 27))).more (B' := (w.alloc (.cells #[.int .i64 0, .int .i64 0, .int .i64 0, .int .i64 0, .int .i64 0, .int .i64 0] 27)).heap.size) (by rw [alloc_size]; omega))
  have HBY := hide hby
  have HZ := hide (show YRow (w.alloc (.cells #[.int .i64 0, .int .i64 0, .int .i64 0, .int .i64 0, .int .i64 0, .int .i64 0] 27)) w.heap.size 0 0 0 0 0 0 from heap_alloc_new w _)
  clear hI hby
  go_enter Tryz.func7, Tryz.ntmps7
  go_wp2_with fail
  refine (from_any A n c code _ HI.out hn HBY.out).mono ?_
  rintro e w1 ⟨rfl, hs, hb⟩
  have HZ1 := hide (HZ.out.next hb)
  have HB1 := hide (((Below.refl w.heap.size w).alloc (Nat.le_refl _) (.cells #[.int .i64 0, .int .i64 0, .int .i64 0, .int .i64 0, .int .i64 0, .int .i64 0] 27)).trans (hb.mono (by rw [alloc_size]; omega)))
  have hg1 : (w.alloc (.cells #[.int .i64 0, .int .i64 0, .int .i64 0, .int .i64 0, .int .i64 0, .int .i64 0] 27)).heap.size = w.heap.size + 1 := alloc_size _ _
  generalize (w.alloc (.cells #[.int .i64 0, .int .i64 0, .int .i64 0, .int .i64 0, .int .i64 0, .int .i64 0] 27)).heap.size = g at hs hg1 ⊢
  have hgN : w.heap.size < g := by omega
  have HS1 := hide hs
  clear hs hb hg1
  go_wp2_with fail
  refine (drawLayAny g _ A n c code _ HS1.out).mono ?_
  rintro e w2 ⟨p, k, γ, D, K, C, rfl, hD0, hD1, hK0, hK1, hC0, hC1, hs, hg⟩
  have hz2 := row_grown HZ1.out hg (show g ≠ w.heap.size by omega)
  have HD2 := hide (show Yst w g _ A n c code w2.heap.size p k γ D K C (w2.alloc (.cells #[.int .i64 p, .int .i64 k, .int .i64 γ, .int .i64 D, .int .i64 K, .int .i64 C] 27)) from
    ⟨hs.still (World.grownBy_alloc w2 _ none) (by simp), row_old hz2 _, heap_alloc_new w2 _, (below_grown HB1.out hg (by omega)).alloc (Nat.le_of_lt (Array.getElem?_eq_some_iff.1 hz2).1) _, hgN, hs.lt⟩)
  have HIB := hide (show 0 ≤ D ∧ D ≤ 3000 ∧ 0 ≤ K ∧ K ≤ 3000 ∧ 0 ≤ C ∧ C ≤ 4000 from ⟨hD0, hD1, hK0, hK1, hC0, hC1⟩)
  have hg2 : g < w2.heap.size := hs.lt
  clear hs hg HZ1 HB1 HS1 HZ HI hz2
  go_wp2_with fail
  generalize w2.alloc (.cells #[.int .i64 p, .int .i64 k, .int .i64 γ, .int .i64 D, .int .i64 K, .int .i64 C] 27) = ws at HD2 ⊢
  generalize w2.heap.size = N at hg2 HD2 ⊢
  obtain ⟨d0, d1, d2, d3, d4, d5, -, -, -, -, -, -⟩ := row6c HD2.out.2.2.1
  go_wp2_with fail
  refine tail_begin (fun w' => Cells6 w' N p k γ D K C) 6 (by kernel_rfl) ⟨d0, d1, d2, d3, d4, d5⟩ (fun hS' => ?_)
  clear d0 d1 d2 d3 d4 d5
  refine tail_take2 0 rfl (by kernel_rfl) (by kernel_rfl) (by kernel_rfl) (by decide) (fun _ _ _ h => h) (by rfl) (v := ?_) ?_ (by assumption) ?_
  rotate_left 1
  · intro w' hS'; obtain ⟨c0, c1, c2, c3, c4, c5⟩ := hS'; go_simp; try with_reducible rfl
  try simp only [Act.put, List.setIfInBounds_toArray, List.set_cons_zero, List.set_cons_succ]
  refine tail_take2 1 rfl (by kernel_rfl) (by kernel_rfl) (by kernel_rfl) (by decide) (fun _ _ _ h => h) (by rfl) (v := ?_) ?_ (by assumption) ?_
  rotate_left 1
  · intro w' hS'; obtain ⟨c0, c1, c2, c3, c4, c5⟩ := hS'; go_simp; try with_reducible rfl
  try simp only [Act.put, List.setIfInBounds_toArray, List.set_cons_zero, List.set_cons_succ]
  refine tail_take2 2 rfl (by kernel_rfl) (by kernel_rfl) (by kernel_rfl) (by decide) (fun _ _ _ h => h) (by rfl) (v := ?_) ?_ (by assumption) ?_
  rotate_left 1
  · intro w' hS'; obtain ⟨c0, c1, c2, c3, c4, c5⟩ := hS'; go_simp; try with_reducible rfl
  try simp only [Act.put, List.setIfInBounds_toArray, List.set_cons_zero, List.set_cons_succ]
  refine tail_call 3 rfl (by kernel_rfl) rfl (fun K' hK => ?_)
  go_simp
  go_at_call 29; refine (drawData p k γ D K C g _ A n c code _ HD2.out.drew.1).mono ?_; rintro e w3 ⟨z3, A3, c3, rfl, hl3, ho, hs, hg⟩; have HD3 := hide (HD2.out.drew.src hs hg); have HO3 := hide (ho.low (base' := N) (Nat.le_of_lt (Array.getElem?_eq_some_iff.1 HD2.out.2.2.1).1)); clear ho hs hg
  refine hK.out _ _ (by (try dsimp only); exact ⟨(row6c HD3.out.2.2.1).1, (row6c HD3.out.2.2.1).2.1, (row6c HD3.out.2.2.1).2.2.1, (row6c HD3.out.2.2.1).2.2.2.1, (row6c HD3.out.2.2.1).2.2.2.2.1, (row6c HD3.out.2.2.1).2.2.2.2.2.1⟩) (fun hS' => ?_)
  clear hK K'
  try simp only [Act.put, List.setIfInBounds_toArray, List.set_cons_zero, List.set_cons_succ]
  obtain ⟨z0, z1, z2, z3', z4, z5, f0, f1, f2, f3, f4, f5⟩ := row6c HD3.out.2.1
  have HZ9 := hide (row_set6 HD3.out.2.1 (.int .i64 p) (.int .i64 k) (.int .i64 γ) (.int .i64 D) (.int .i64 K) (.int .i64 C))
  have HL9 := hide (show YRow (set6 w3 w.heap.size (.int .i64 p) (.int .i64 k) (.int .i64 γ) (.int .i64 D) (.int .i64 K) (.int .i64 C)) N p k γ D K C by
    have h1 := HD3.out.2.2.1
    have h2 := HD3.out.2.2.2.2.1
    have h3 := HD3.out.2.2.2.2.2
    unfold set6
    exact row_set (row_set (row_set (row_set (row_set (row_set h1 (by omega)) (by omega)) (by omega)) (by omega)) (by omega)) (by omega))
  have HB9 := hide (below_set6 HD3.out.2.2.2.1 (.int .i64 p) (.int .i64 k) (.int .i64 γ) (.int .i64 D) (.int .i64 K) (.int .i64 C))
  have HO9 := hide (own_set6 HO3.out (M := w.heap.size) (by omega) (.int .i64 p) (.int .i64 k) (.int .i64 γ) (.int .i64 D) (.int .i64 K) (.int .i64 C))
  have hfold : ((((((w3.setCell ⟨w.heap.size, 0, none⟩ (.int .i64 p)).setCell ⟨w.heap.size, 1, none⟩ (.int .i64 k)).setCell ⟨w.heap.size, 2, none⟩ (.int .i64 γ)).setCell ⟨w.heap.size, 3, none⟩ (.int .i64 D)).setCell ⟨w.heap.size, 4, none⟩ (.int .i64 K)).setCell ⟨w.heap.size, 5, none⟩ (.int .i64 C)) = set6 w3 w.heap.size (.int .i64 p) (.int .i64 k) (.int .i64 γ) (.int .i64 D) (.int .i64 K) (.int .i64 C) := rfl
  refine tail_call 4 rfl (by kernel_rfl) rfl (fun K' hK => ?_)
  go_simp
  generalize set6 w3 w.heap.size (.int .i64 p) (.int .i64 k) (.int .i64 γ) (.int .i64 D) (.int .i64 K) (.int .i64 C) = w9 at HZ9 HL9 HB9 HO9 ⊢
  clear hfold z0 z1 z2 z3' z4 z5 f0 f1 f2 f3 f4 f5
  refine hK.out _ _ (by (try dsimp only); exact ⟨(row6c HL9.out).1, (row6c HL9.out).2.1, (row6c HL9.out).2.2.1, (row6c HL9.out).2.2.2.1, (row6c HL9.out).2.2.2.2.1, (row6c HL9.out).2.2.2.2.2.1⟩) (fun hS' => ?_)
  clear hK K'
  try simp only [Act.put, List.setIfInBounds_toArray, List.set_cons_zero, List.set_cons_succ]
  refine tail_take2 5 rfl (by kernel_rfl) (by kernel_rfl) (by kernel_rfl) (by decide) (fun _ _ _ h => h) (by rfl) (v := ?_) ?_ (by assumption) ?_
  rotate_left 1
  · intro w' hS'; obtain ⟨c0, c1, c2, c3, c4, c5⟩ := hS'; go_simp; try with_reducible rfl
  try simp only [Act.put, List.setIfInBounds_toArray, List.set_cons_zero, List.set_cons_succ]
  refine tail_end (by kernel_rfl) ?_
  obtain ⟨y0, y1, y2, y3, y4, y5, -, -, -, -, -, -⟩ := row6c HZ9.out
  go_wp2_with fail
  refine bodyPost_ret (v := .tuple #[.agg #[.int .i64 p, .int .i64 k, .int .i64 γ, .int .i64 D, .int .i64 K, .int .i64 C], .slice A3 z3.length c3]) (by simp [results, Tryz.results7, go_sem, y0, y1, y2, y3, y4, y5]) rfl ?_
  have hcap : z3.length ≤ c3 := by
    obtain ⟨A1, c1, he, hc⟩ := HO9.out.form
    simp only [Value.slice.injEq] at he
    omega
  exact ⟨p, k, γ, D, K, C, z3, A3, c3, rfl, hD0, hD1, hK0, hK1, hC0, hC1, hl3, hcap, Own.ints HO9.out, HB9.out⟩
end Go.Proofs.YtlphodhecaagbaaGreat
