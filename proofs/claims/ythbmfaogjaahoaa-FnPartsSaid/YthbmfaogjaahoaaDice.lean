/-
  The contracts of the laws' own dice: what is rolled lies in its range, and only the dice's own block changes.
  Condition: the code has at most 4096 bytes.
-/
import Derived.Test.YthbmfaogjaahoaaDraw
namespace Go.Proofs.Ythbmfaogjaahoaa
open Go.RowKit
set_option linter.unusedVariables false

theorem and24 (a : Int) : 0 ≤ bits .and .u64 a 16777215 ∧ bits .and .u64 a 16777215 ≤ 16777215 := by
  have h : (BitVec.ofInt 64 a &&& BitVec.ofInt 64 ((16777215 : Nat) : Int)).toNat ≤ 16777215 := by
    rw [BitVec.toNat_and, i64Nat 16777215 (by omega)]; exact Nat.and_le_right
  have e : bits .and .u64 a 16777215 = IntKind.u64.wrap (((BitVec.ofInt 64 a &&& BitVec.ofInt 64 ((16777215 : Nat) : Int)).toNat : Nat) : Int) := rfl
  rw [e]
  generalize (BitVec.ofInt 64 a &&& BitVec.ofInt 64 ((16777215 : Nat) : Int)).toNat = m at h
  have : IntKind.u64.wrap (m : Int) = m := by
    rw [IntWalk.u64_in _ ⟨by omega, by omega⟩]
  rw [this]; omega

/-- Block g is a law's dice over a code that lies below block Bc. -/
def Dice (w : World) (g Bc : Nat) (A : Option Addr) (n c : Nat) (code : List Int) : Prop :=
  Ints .u8 w Bc A n code ∧ Bc ≤ g ∧ n ≤ 4096 ∧ (∀ b ∈ code, 0 ≤ b ∧ b ≤ 255) ∧
  ∃ (p : Nat) (h : Int), p ≤ n ∧ w.heap[g]? = some (.cells #[.slice A n c, .int .i64 p, .int .u64 h] 101 (0, 0))

def RollRel (A : Option Addr) (n c : Nat) (w : World) (i : Value) (wr : World) : Prop :=
  ∃ (k : Nat) (h : Int), k ≤ n ∧ i = .int .i64 k ∧ wr.heap[w.heap.size]? = some (.cells #[.slice A n c, .int .i64 0, .int .u64 h] 101 (0, 0)) ∧ Below w.heap.size w wr

/-- What the making of dice leaves. -/
def Rolled (A : Option Addr) (n c : Nat) (code : List Int) (w : World) (x : Ending) (w' : World) : Prop :=
  x = .returned (.pointer (some ⟨w.heap.size, 0, none⟩)) ∧ Dice w' w.heap.size w.heap.size A n c code ∧ Below w.heap.size w w'

set_option maxHeartbeats 1000000 in
theorem roll_any (A : Option Addr) (n c : Nat) (code : List Int) (s : Int) (w : World) (hI : Ints .u8 w w.heap.size A n code) (hn : n ≤ 4096) (hby : ∀ b ∈ code, 0 ≤ b ∧ b ≤ 255) :
    Calls Try.prog 37 #[.slice A n c, .int .u64 s] w (Rolled A n c code w) := by
  have HI := hide hI
  have HBY := hide hby
  clear hI hby
  go_enter Try.func37, Try.ntmps37
  go_wp2
  go_loopw [6] (fun i wr => RollRel A n c w i wr) (fun i _ => n - (intOf i).toNat)
  case atStart => exact ⟨0, _, by omega, rfl, heap_alloc_new w _, (Below.refl _ _).alloc (Nat.le_refl _) _⟩
  case round =>
    obtain ⟨k, h, hk, rfl, hh, hBl⟩ := hrel
    have HH := hide hh
    have HBl := hide hBl
    clear hh hBl
    by_cases hlt : k < n
    · obtain ⟨b, off, x, rfl, hb, hx, hc⟩ := (HI.out.below HBl).at_ hlt
      clear hx
      have c2 : wr.cell? ⟨w.heap.size, 2, none⟩ = some (.int .u64 h) := cell_of_row wr w.heap.size 2 _ _ _ HH
      have f2 : wr.frozen? ⟨w.heap.size, 2, none⟩ = false := frozen_of_row wr w.heap.size 2 _ _ HH
      have z1 : (k : Int) < (n : Int) := by omega
      have z0 : (0 : Int) ≤ (k : Int) := by omega
      go_wp2
      go_region
      go_wp2
      go_roundw
      case rel => exact ⟨k + 1, _, by omega, by go_num, heap_setCell_same wr w.heap.size 2 _ _ _ HH, (HBl.out.setCell (Nat.le_refl _) _).drew⟩
      case measure => simp [intOf]; omega
    · have hd : decide ((k : Int) < (n : Int)) = false := by simp; omega
      go_wp2
      go_ret
      exact ⟨rfl, ⟨HI.out.below HBl, Nat.le_refl _, hn, HBY, 0, h, by omega, HH⟩, HBl⟩

/-- What a throw of the dice leaves. -/
def Thrown (g Bc : Nat) (A : Option Addr) (n c : Nat) (code : List Int) (m : Int) (w : World) (x : Ending) (w' : World) : Prop :=
  ∃ y : Nat, x = .returned (.int .i64 (y : Nat)) ∧ (y : Int) < m ∧ Dice w' g Bc A n c code ∧ w.grownBy w' (some g)

theorem thrown_mk {g Bc : Nat} {A : Option Addr} {n c : Nat} {code : List Int} {m y h h' : Int} {p p' : Nat} {w w' : World}
    (hI : Ints .u8 w Bc A n code) (hBc : Bc ≤ g) (hn : n ≤ 4096) (hb : ∀ b ∈ code, 0 ≤ b ∧ b ≤ 255) (hp : p' ≤ n)
    (hh : w'.heap[g]? = some (.cells #[.slice A n c, .int .i64 p', .int .u64 h'] 101 (0, 0))) (hg : w.grownBy w' (some g)) (hw : w.heap[g]? = some (.cells #[.slice A n c, .int .i64 p, .int .u64 h] 101 (0, 0))) (hy0 : 0 ≤ y) (hy : y < m) :
    Thrown g Bc A n c code m w (.returned (.int .i64 y)) w' := by
  have hlt : g < w.heap.size := (Array.getElem?_eq_some_iff.1 hw).1
  obtain ⟨y, rfl⟩ : ∃ z : Nat, y = z := ⟨y.toNat, by omega⟩
  refine ⟨y, rfl, hy, ⟨hI.keep fun b o hb => World.cell?_of_block (hg.block b (by omega) (fun e => by injection e; omega)), hBc, hn, hb, p', h', hp, hh⟩, hg⟩

set_option maxHeartbeats 1000000 in
theorem below_any (g Bc : Nat) (A : Option Addr) (n c : Nat) (code : List Int) (m : Int) (w : World) (hS : Dice w g Bc A n c code) (hm : 1 ≤ m) (hm2 : m ≤ 4611686018427387904) :
    Calls Try.prog 38 #[.pointer (some ⟨g, 0, none⟩), .int .i64 m] w (Thrown g Bc A n c code m w) := by
  obtain ⟨hI, hBc, hn, hby, p, sd, hp, hh⟩ := hS
  have HI := hide hI
  have hl := hide hI.len
  have HBY := hide hby
  have HH := hide hh
  have c0 : w.cell? ⟨g, 0, none⟩ = some (.slice A n c) := cell_of_row w g 0 _ _ _ hh
  have c1 : w.cell? ⟨g, 1, none⟩ = some (.int .i64 p) := cell_of_row w g 1 _ _ _ hh
  have c2 : w.cell? ⟨g, 2, none⟩ = some (.int .u64 sd) := cell_of_row w g 2 _ _ _ hh
  have f1 : w.frozen? ⟨g, 1, none⟩ = false := frozen_of_row w g 1 _ _ hh
  have f2 : w.frozen? ⟨g, 2, none⟩ = false := frozen_of_row w g 2 _ _ hh
  clear hI hby hh
  by_cases hpn : p < n
  · obtain ⟨b, off, x, rfl, hb, hx, hc⟩ := HI.out.at_ hpn
    have hxb := HBY.out x (List.mem_of_getElem? hx)
    obtain ⟨hx0, hx1⟩ := hxb
    clear hx
    have z1 : (p : Int) < (n : Int) := by omega
    have z0 : (0 : Int) ≤ (p : Int) := by omega
    have hbg : b ≠ g := by omega
    go_enter Try.func38, Try.ntmps38
    go_wp2
    obtain ⟨hv0, hv1⟩ := and24 (IntKind.u64.wrap (IntKind.u64.wrap (sd * 6364136223846793005) + 1442695040888963407) / 8589934592)
    generalize bits .and .u64 (IntKind.u64.wrap (IntKind.u64.wrap (sd * 6364136223846793005) + 1442695040888963407) / 8589934592) 16777215 = v at hv0 hv1 ⊢
    generalize IntKind.u64.wrap (IntKind.u64.wrap (sd * 6364136223846793005) + 1442695040888963407) = h2
    rw [show wrap64 v = v from IntWalk.wrap64_in _ ⟨by omega, by omega⟩]
    go_quiet (fail)
    go_wp2
    go_quiet (fail)
    go_wp2
    go_ret
    exact thrown_mk (p' := p + 1) (h' := h2) HI hBc hn HBY (by omega) (heap_setCell_same _ g 1 _ _ _ (heap_setCell_same w g 2 _ _ _ HH)) (grown_set (grown_drewN (grown_set (World.grownBy.refl _ _) 2 _) _) 1 _) HH (Int.emod_nonneg _ (by omega)) (Int.emod_lt_of_pos _ (by omega))
  · have hd : decide ((p : Int) < (n : Int)) = false := by simp; omega
    go_enter Try.func38, Try.ntmps38
    go_wp2
    obtain ⟨hv0, hv1⟩ := and24 (IntKind.u64.wrap (IntKind.u64.wrap (sd * 6364136223846793005) + 1442695040888963407) / 8589934592)
    generalize bits .and .u64 (IntKind.u64.wrap (IntKind.u64.wrap (sd * 6364136223846793005) + 1442695040888963407) / 8589934592) 16777215 = v at hv0 hv1 ⊢
    generalize IntKind.u64.wrap (IntKind.u64.wrap (sd * 6364136223846793005) + 1442695040888963407) = h2
    rw [show wrap64 v = v from IntWalk.wrap64_in _ ⟨by omega, by omega⟩]
    go_quiet (fail)
    go_wp2
    go_ret
    exact thrown_mk (p' := p) (h' := h2) HI hBc hn HBY hp (heap_setCell_same w g 2 _ _ _ HH) (grown_drewN (grown_set (World.grownBy.refl _ _) 2 _) _) HH (Int.emod_nonneg _ (by omega)) (Int.emod_lt_of_pos _ (by omega))
end Go.Proofs.Ythbmfaogjaahoaa
