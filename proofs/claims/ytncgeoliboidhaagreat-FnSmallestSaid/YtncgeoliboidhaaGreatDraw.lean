/-
  The contracts of the model's source of draws: what is drawn lies in its range, and only the source's own block changes.
  Condition: the code has at most 4096 bytes.
-/
import Derived.Test.YtncgeoliboidhaaGreatProg
import Derived.Test.YtncgeoliboidhaaGreatWords
import Derived.Deep.QuietTactic
import Derived.BigQuiet
import Derived.RegionTactic
import Derived.ChangeAlike
namespace Go.Proofs.YtncgeoliboidhaaGreat
open Go.RowKit

/-- Block g is a source of draws over a code that lies below block Bc. -/
def Src (w : World) (g Bc : Nat) (A : Option Addr) (n c : Nat) (code : List Int) : Prop :=
  Ints .u8 w Bc A n code ∧ Bc ≤ g ∧ n ≤ 4096 ∧ (∀ b ∈ code, 0 ≤ b ∧ b ≤ 255) ∧
  ∃ (p : Nat) (sd : Int), p ≤ n ∧ 0 ≤ sd ∧ sd ≤ 2147483646 ∧ w.heap[g]? = some (.cells #[.slice A n c, .int .i64 p, .int .i64 sd] 81 (0, 0))

theorem Src.still {w w' : World} {g Bc : Nat} {A : Option Addr} {n c : Nat} {code : List Int} {row : Option Nat} (h : Src w g Bc A n c code) (hg : w.grownBy w' row) (hr : ∀ r, row = some r → g < r) : Src w' g Bc A n c code := by
  obtain ⟨h1, h2, h3, h4, p, sd, h5, h6, h7, h8⟩ := h
  have hlt : g < w.heap.size := (Array.getElem?_eq_some_iff.1 h8).1
  refine ⟨h1.keep fun b o hb => ?_, h2, h3, h4, p, sd, h5, h6, h7, ?_⟩
  · exact World.cell?_of_block (hg.block b (by omega) (fun e => by have := hr b e.symm; omega))
  · rw [hg.block g hlt (fun e => by have := hr g e.symm; omega)]; exact h8
theorem Src.below {w w' : World} {g Bc : Nat} {A : Option Addr} {n c : Nat} {code : List Int} {B : Nat} (h : Src w g Bc A n c code) (hb : Below B w w') (hB : g < B) : Src w' g Bc A n c code := by
  obtain ⟨h1, h2, h3, h4, p, sd, h5, h6, h7, h8⟩ := h
  exact ⟨h1.below (hb.mono (by omega)), h2, h3, h4, p, sd, h5, h6, h7, by rw [hb.block g hB]; exact h8⟩
theorem Src.lt {w : World} {g Bc : Nat} {A : Option Addr} {n c : Nat} {code : List Int} (h : Src w g Bc A n c code) : g < w.heap.size := by
  obtain ⟨h1, h2, h3, h4, p, sd, h5, h6, h7, h8⟩ := h
  exact (Array.getElem?_eq_some_iff.1 h8).1

/-- What a draw of a number below m leaves. -/
def Drawn (g Bc : Nat) (A : Option Addr) (n c : Nat) (code : List Int) (m : Int) (w : World) (x : Ending) (w' : World) : Prop :=
  ∃ y : Int, x = .returned (.int .i64 y) ∧ 0 ≤ y ∧ (y < m ∨ y = 0) ∧ Src w' g Bc A n c code ∧ w.grownBy w' (some g)

theorem grown_set {a w : World} {g : Nat} (h : a.grownBy w (some g)) (j : Nat) (u : Value) : a.grownBy (w.setCell ⟨g, j, none⟩ u) (some g) :=
  grown_trans h ⟨rfl, rfl, rfl, by simp [World.setCell], fun i _ hne => Below.heap_setCell w ⟨g, j, none⟩ u i (fun e => hne (by simp [e]))⟩

theorem drawn_mk {g Bc : Nat} {A : Option Addr} {n c : Nat} {code : List Int} {m y sd sd' : Int} {p p' : Nat} {w w' : World}
    (hI : Ints .u8 w Bc A n code) (hBc : Bc ≤ g) (hn : n ≤ 4096) (hb : ∀ b ∈ code, 0 ≤ b ∧ b ≤ 255) (hp : p' ≤ n) (h0 : 0 ≤ sd') (h1 : sd' ≤ 2147483646)
    (hh : w'.heap[g]? = some (.cells #[.slice A n c, .int .i64 p', .int .i64 sd'] 81 (0, 0))) (hg : w.grownBy w' (some g)) (hw : w.heap[g]? = some (.cells #[.slice A n c, .int .i64 p, .int .i64 sd] 81 (0, 0))) (hy0 : 0 ≤ y) (hy : y < m ∨ y = 0) :
    Drawn g Bc A n c code m w (.returned (.int .i64 y)) w' := by
  have hlt : g < w.heap.size := (Array.getElem?_eq_some_iff.1 hw).1
  refine ⟨y, rfl, hy0, hy, ⟨hI.keep fun b o hb => World.cell?_of_block (hg.block b (by omega) (fun e => by injection e; omega)), hBc, hn, hb, p', sd', hp, h0, h1, hh⟩, hg⟩

set_option maxHeartbeats 1000000 in
set_option maxRecDepth 100000 in
theorem next_any (g Bc : Nat) (A : Option Addr) (n c : Nat) (code : List Int) (m : Int) (w : World) (hS : Src w g Bc A n c code) (hm : m ≤ 4611686018427387904) :
    Calls Tryz.prog 34 #[.pointer (some ⟨g, 0, none⟩), .int .i64 m] w (Drawn g Bc A n c code m w) := by
  obtain ⟨hI, hBc, hn, hby, p, sd, hp, hs0, hs1, hh⟩ := hS
  have HI := hide hI
  have hl := hide hI.len
  have HBY := hide hby
  have HH := hide hh
  have c0 : w.cell? ⟨g, 0, none⟩ = some (.slice A n c) := cell_of_row w g 0 _ _ _ hh
  have c1 : w.cell? ⟨g, 1, none⟩ = some (.int .i64 p) := cell_of_row w g 1 _ _ _ hh
  have c2 : w.cell? ⟨g, 2, none⟩ = some (.int .i64 sd) := cell_of_row w g 2 _ _ _ hh
  have f1 : w.frozen? ⟨g, 1, none⟩ = false := frozen_of_row w g 1 _ _ hh
  have f2 : w.frozen? ⟨g, 2, none⟩ = false := frozen_of_row w g 2 _ _ hh
  clear hI hby hh
  by_cases hm1 : m ≤ 1
  · clear c0 c1 c2 f1 f2
    go_enter Tryz.func34, Tryz.ntmps34
    go_wp2
    go_ret
    exact drawn_mk HI hBc hn HBY hp hs0 hs1 HH (World.grownBy.refl _ _) HH (Int.le_refl _) (.inr rfl)
  · by_cases hpn : p < n
    · obtain ⟨b, off, x, rfl, hb, hx, hc⟩ := HI.out.at_ hpn
      have hxb := HBY.out x (List.mem_of_getElem? hx)
      obtain ⟨hx0, hx1⟩ := hxb
      clear hx
      have z1 : (p : Int) < (n : Int) := by omega
      have z0 : (0 : Int) ≤ (p : Int) := by omega
      have hbg : b ≠ g := by omega
      have HBD := hide (show 0 ≤ (sd * 48271 + 11) % 2147483647 ∧ (sd * 48271 + 11) % 2147483647 ≤ 2147483646 by omega)
      by_cases hm2 : m ≤ 256
      · by_cases hpar : (p + 1) % 2 = 0
        · have hq : (((p : Int) + 1) % 2 == 0) = true := by simp; omega
          go_enter Tryz.func34, Tryz.ntmps34
          go_wp2
          go_quiet (fail)
          go_wp2
          go_quiet (fail)
          go_wp2
          go_quiet (fail)
          go_wp2
          go_ret
          exact drawn_mk (p' := p + 1) (sd' := (sd * 48271 + 11) % 2147483647) HI hBc hn HBY (by omega) HBD.out.1 HBD.out.2 (heap_setCell_same _ g 1 _ _ _ (heap_setCell_same w g 2 _ _ _ HH)) (grown_drewN (grown_set (grown_drewN (grown_set (World.grownBy.refl _ _) 2 _) _) 1 _) _) HH (Int.emod_nonneg _ (by omega)) (.inl (Int.emod_lt_of_pos _ (by omega)))
        · have hq : (((p : Int) + 1) % 2 == 0) = false := by simp; omega
          go_enter Tryz.func34, Tryz.ntmps34
          go_wp2
          go_quiet (fail)
          go_wp2
          go_quiet (fail)
          go_wp2
          go_ret
          exact drawn_mk (p' := p + 1) (sd' := (sd * 48271 + 11) % 2147483647) HI hBc hn HBY (by omega) HBD.out.1 HBD.out.2 (heap_setCell_same _ g 1 _ _ _ (heap_setCell_same w g 2 _ _ _ HH)) (grown_drewN (grown_set (grown_set (World.grownBy.refl _ _) 2 _) 1 _) _) HH (Int.emod_nonneg _ (by omega)) (.inl (Int.emod_lt_of_pos _ (by omega)))
      · have hq : decide (m ≤ 256) = false := by simpa using hm2
        go_enter Tryz.func34, Tryz.ntmps34
        go_wp2
        go_quiet (fail)
        go_wp2
        go_quiet (fail)
        go_wp2
        go_ret
        exact drawn_mk (p' := p + 1) (sd' := (sd * 48271 + 11) % 2147483647) HI hBc hn HBY (by omega) HBD.out.1 HBD.out.2 (heap_setCell_same _ g 1 _ _ _ (heap_setCell_same w g 2 _ _ _ HH)) (grown_drewN (grown_set (grown_set (World.grownBy.refl _ _) 2 _) 1 _) _) HH (Int.emod_nonneg _ (by omega)) (.inl (Int.emod_lt_of_pos _ (by omega)))
    · have hd : decide ((p : Int) < (n : Int)) = false := by simp; omega
      have hbd : 0 ≤ (sd * 48271 + 11) % 2147483647 ∧ (sd * 48271 + 11) % 2147483647 ≤ 2147483646 := by omega
      have HBD := hide hbd
      clear hbd
      go_enter Tryz.func34, Tryz.ntmps34
      go_wp2
      go_quiet (fail)
      go_wp2
      go_ret
      exact drawn_mk (p' := p) (sd' := (sd * 48271 + 11) % 2147483647) HI hBc hn HBY hp HBD.out.1 HBD.out.2 (heap_setCell_same w g 2 _ _ _ HH) (grown_drewN (grown_set (World.grownBy.refl _ _) 2 _) _) HH (Int.emod_nonneg _ (by omega)) (.inl (Int.emod_lt_of_pos _ (by omega)))

def FromRel (A : Option Addr) (n c : Nat) (w : World) (i : Value) (wr : World) : Prop :=
  ∃ (k : Nat) (sd : Int), k ≤ n ∧ i = .int .i64 k ∧ 0 ≤ sd ∧ sd ≤ 2147483646 ∧ wr.heap[w.heap.size]? = some (.cells #[.slice A n c, .int .i64 0, .int .i64 sd] 81 (0, 0)) ∧ Below w.heap.size w wr

/-- What the making of a source leaves. -/
def Sourced (A : Option Addr) (n c : Nat) (code : List Int) (w : World) (x : Ending) (w' : World) : Prop :=
  x = .returned (.pointer (some ⟨w.heap.size, 0, none⟩)) ∧ Src w' w.heap.size w.heap.size A n c code ∧ Below w.heap.size w w'

set_option maxHeartbeats 1000000 in
theorem from_any (A : Option Addr) (n c : Nat) (code : List Int) (w : World) (hI : Ints .u8 w w.heap.size A n code) (hn : n ≤ 4096) (hby : ∀ b ∈ code, 0 ≤ b ∧ b ≤ 255) :
    Calls Tryz.prog 17 #[.slice A n c] w (Sourced A n c code w) := by
  have HI := hide hI
  have HBY := hide hby
  clear hI hby
  go_enter Tryz.func17, Tryz.ntmps17
  go_wp2
  go_loopw [4] (fun i wr => FromRel A n c w i wr) (fun i _ => n - (intOf i).toNat)
  case atStart => exact ⟨0, 60617, by omega, rfl, by omega, by omega, heap_alloc_new w _, (Below.refl _ _).alloc (Nat.le_refl _) _⟩
  case round =>
    obtain ⟨k, sd, hk, rfl, hs0, hs1, hh, hBl⟩ := hrel
    have HH := hide hh
    have HBl := hide hBl
    clear hh hBl
    by_cases hlt : k < n
    · by_cases h64 : k < 64
      · obtain ⟨b, off, x, rfl, hb, hx, hc⟩ := (HI.out.below HBl).at_ hlt
        obtain ⟨hx0, hx1⟩ := HBY.out x (List.mem_of_getElem? hx)
        clear hx
        have c2 : wr.cell? ⟨w.heap.size, 2, none⟩ = some (.int .i64 sd) := cell_of_row wr w.heap.size 2 _ _ _ HH
        have f2 : wr.frozen? ⟨w.heap.size, 2, none⟩ = false := frozen_of_row wr w.heap.size 2 _ _ HH
        have z1 : (k : Int) < (n : Int) := by omega
        have z0 : (0 : Int) ≤ (k : Int) := by omega
        have z64 : (k : Int) < 64 := by omega
        go_wp2
        go_region
        go_wp2
        go_roundw
        case rel => exact ⟨k + 1, (sd * 43 + x) % 2147483647, by omega, by go_num, by omega, by omega, heap_setCell_same wr w.heap.size 2 _ _ _ HH, (HBl.out.setCell (Nat.le_refl _) _).drew⟩
        case measure => simp [intOf]; omega
      · have hd : decide ((k : Int) < 64) = false := by simp; omega
        go_wp2
        go_ret
        exact ⟨rfl, ⟨HI.out.below HBl, Nat.le_refl _, hn, HBY, 0, sd, by omega, hs0, hs1, HH⟩, HBl⟩
    · have hd : decide ((k : Int) < (n : Int)) = false := by simp; omega
      go_wp2
      go_ret
      exact ⟨rfl, ⟨HI.out.below HBl, Nat.le_refl _, hn, HBY, 0, sd, by omega, hs0, hs1, HH⟩, HBl⟩
end Go.Proofs.YtncgeoliboidhaaGreat
