/-
  What the walks of the exact laws of segments share: the segment that a law is given is handed on as it is.
  The laws' own functions on slices of segments: their size, their copy, whether two are the same.
  Condition: as each statement says.
-/
import Derived.Test.YthmpfnbcodolcaaSg5
import Derived.Test.YthmpfnbcodolcaaLawKit
import Derived.Test.YthmpfnbcodolcaaSq1
import Derived.Deep.RegionHeld3
namespace Go.Proofs.Ythmpfnbcodolcaa
open Go.RowKit
set_option linter.unusedSimpArgs false
set_option linter.unusedVariables false

end Go.Proofs.Ythmpfnbcodolcaa

namespace Go.Proofs.Ythmpfnbcodolcaa
open Go.RowKit
set_option linter.unusedSimpArgs false
set_option linter.unusedVariables false

def szR (s : ByteArray) (x : Nat) : Int := if s.size ≤ x then ((x - s.size : Nat) : Int) else -1
/-- What the size of a slice tells. -/
def SzS (n : Nat) (T : Nat → ByteArray) (w : World) (x : Ending) (w' : World) : Prop :=
  ∃ r : Int, x = .returned (.int .i64 r) ∧ (r < 0 ∨ (0 ≤ r ∧ n ≤ 1048576 ∧ ∀ j, j < n → (T j).size ≤ 1048576)) ∧ Below w.heap.size w w'
def SzRel (w : World) (n : Nat) (T : Nat → ByteArray) (l i : Value) (wr : World) : Prop :=
  ∃ k x : Nat, k ≤ n ∧ i = .int .i64 k ∧ l = .int .i64 x ∧ x ≤ 1048576 ∧ Hid (∀ j, j < k → (T j).size ≤ 1048576) ∧ Below w.heap.size w wr

/-- A new slice of segments. -/
def NewS (n : Nat) (M : Nat → Int) (T : Nat → ByteArray) (w : World) (x : Ending) (w' : World) : Prop :=
  ∃ A c, x = .returned (.slice A n c) ∧ n ≤ c ∧ c ≤ 9223372036854775807 ∧ OwnS w' w.heap.size (.slice A n c) n (segV M T) ∧ Below w.heap.size w w'
def TsRel (w : World) (n : Nat) (M : Nat → Int) (T : Nat → ByteArray) (i : Value) (wr : World) : Prop :=
  ∃ k : Nat, k ≤ n ∧ i = .int .i64 k ∧ OwnS wr w.heap.size (.slice (some ⟨w.heap.size, 0, none⟩) n n) n (segT M T k) ∧ Below w.heap.size w wr

def EqRelS (w : World) (n : Nat) (i : Value) (wr : World) : Prop := ∃ k : Nat, k ≤ n ∧ i = .int .i64 k ∧ Below w.heap.size w wr
theorem eqSeg_same (m : Int) (s : ByteArray) (w : World) :
    Calls Try.prog 29 #[.agg #[.int .i64 m, .string s], .agg #[.int .i64 m, .string s]] w (Gives (.bool true) w) := by
  have e1 : (m != m) = false := by simp
  go_enter Try.func29, Try.ntmps29
  go_wp2_with fail
  go_ret
  exact ⟨rfl, ((Below.refl _ _).alloc (Nat.le_refl _) _).alloc (by rw [alloc_size]; omega) _⟩
theorem segs_cells {w wr : World} {B n i b off : Nat} {M : Nat → Int} {T : Nat → ByteArray} (hb : b < B) (hB : B ≤ w.heap.size) (hc : ∀ j : Nat, j < n → w.cell? ⟨b, off + j * 2, none⟩ = some (.int .i64 (M j)) ∧ w.cell? ⟨b, off + j * 2 + 1, none⟩ = some (.string (T j))) (hi : i < n) (h : Below w.heap.size w wr) :
    wr.cell? ⟨b, off + i * 2, none⟩ = some (.int .i64 (M i)) ∧ wr.cell? ⟨b, off + i * 2 + 1, none⟩ = some (.string (T i)) :=
  ⟨(h.cell (p := ⟨b, off + i * 2, none⟩) (by show b < _; omega)).trans (hc i hi).1, (h.cell (p := ⟨b, off + i * 2 + 1, none⟩) (by show b < _; omega)).trans (hc i hi).2⟩

set_option maxRecDepth 100000 in
set_option maxHeartbeats 2000000 in
theorem eqSegS_same (A A' : Option Addr) (n c c' B B' : Nat) (M : Nat → Int) (T : Nat → ByteArray) (w : World) (h : Segs w B A n M T) (h' : Segs w B' A' n M T) (hB : B ≤ w.heap.size) (hB' : B' ≤ w.heap.size) (hn : n ≤ 1048576) :
    Calls Try.prog 41 #[.slice A n c, .slice A' n c'] w (Gives (.bool true) w) := by
  have HO := hide h
  have HO' := hide h'
  clear h h'
  go_enter Try.func41, Try.ntmps41
  go_wp2_with fail
  go_loopw [5] (fun i wr => EqRelS w n i wr) (fun i _ => n - (intOf i).toNat)
  case atStart => exact ⟨0, Nat.zero_le _, rfl, Below.refl _ _⟩
  case round =>
    obtain ⟨i, hi, rfl, hb⟩ := hrel
    have HB := hide hb
    clear hb
    by_cases hlt : i < n
    · obtain ⟨b, off, rfl, hb, hc⟩ := HO.out (by omega)
      obtain ⟨b', off', rfl, hb', hc'⟩ := HO'.out (by omega)
      have HCA := hide (fun (wx : World) (hx : Below w.heap.size w wx) => segs_cells hb hB hc hlt hx)
      have HCB := hide (fun (wx : World) (hx : Below w.heap.size w wx) => segs_cells hb' hB' hc' hlt hx)
      clear hb hb' hc hc' HO HO'
      obtain ⟨m, hm⟩ : ∃ m, M i = m := ⟨_, rfl⟩
      obtain ⟨s, hse⟩ : ∃ s, T i = s := ⟨_, rfl⟩
      rw [hm, hse] at HCA HCB
      clear hm hse
      obtain ⟨a0, a1⟩ := HCA.out _ HB.out
      obtain ⟨b0, b1⟩ := HCB.out _ HB.out
      go_wp2_with fail
      go_region_held3 (fun w' => (w'.cell? ⟨b, off + i * 2, none⟩ = some (.int .i64 m) ∧ w'.cell? ⟨b, off + i * 2 + 1, none⟩ = some (.string s)) ∧ (w'.cell? ⟨b', off' + i * 2, none⟩ = some (.int .i64 m) ∧ w'.cell? ⟨b', off' + i * 2 + 1, none⟩ = some (.string s)))
        (first
          | exact ⟨HCA.out _ HB.out.drew, HCB.out _ HB.out.drew⟩
          | exact ⟨HCA.out _ HB2.out, HCB.out _ HB2.out⟩)
        ((go_at_call 29; refine (eqSeg_same m s _).mono ?_; rintro e w2 ⟨rfl, hb2⟩; have HB2 := hide (HB.out.drew.trans (hb2.mono HB.out.drew.size)); clear hb2))
      go_wp2_with fail
      go_roundw
      case rel => exact ⟨i + 1, by omega, by go_num, HB2.out⟩
      case measure => simp [intOf]; omega
    · go_wp2_with fail
      go_ret
      exact ⟨rfl, HB.out⟩
end Go.Proofs.Ythmpfnbcodolcaa
