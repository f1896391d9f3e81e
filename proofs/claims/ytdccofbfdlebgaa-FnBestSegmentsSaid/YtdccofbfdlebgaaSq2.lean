/-
  The laws' own functions on slices of segments: their size, their copy, whether two are the same.
  Condition: as each statement says.
-/
import Derived.Test.YtdccofbfdlebgaaSq1
import Derived.Test.YtdccofbfdlebgaaSgLaw
import Derived.Test.YtdccofbfdlebgaaSg5
import Derived.Deep.RegionHeld3
namespace Go.Proofs.Ytdccofbfdlebgaa
open Go.RowKit
set_option linter.unusedSimpArgs false
set_option linter.unusedVariables false

def szR (s : ByteArray) (x : Nat) : Int := if s.size ≤ x then ((x - s.size : Nat) : Int) else -1
theorem szSegN (m : Int) (s : ByteArray) (x : Nat) (hx : x ≤ 1048576) (hs : s.size ≤ 9223372036854775807) (w : World) :
    Calls Try.prog 69 #[.agg #[.int .i64 m, .string s], .int .i64 x] w (Gives (.int .i64 (szR s x)) w) := by
  by_cases h : s.size ≤ x
  · have HR := hide (show szR s x = (x : Int) - (s.size : Int) by rw [szR, if_pos h]; omega)
    have hn : ¬ ((x : Int) - (s.size : Int)) < 0 := by omega
    go_enter Try.func69, Try.ntmps69
    go_wp2_with fail
    go_ret
    exact ⟨ret_int HR.out, (Below.refl _ _).alloc (Nat.le_refl _) _⟩
  · have HR := hide (show szR s x = -1 by rw [szR, if_neg h])
    have hn : ((x : Int) - (s.size : Int)) < 0 := by omega
    go_enter Try.func69, Try.ntmps69
    go_wp2_with fail
    go_ret
    exact ⟨ret_int HR.out, (Below.refl _ _).alloc (Nat.le_refl _) _⟩

/-- What the size of a slice tells. -/
def SzS (n : Nat) (T : Nat → ByteArray) (w : World) (x : Ending) (w' : World) : Prop :=
  ∃ r : Int, x = .returned (.int .i64 r) ∧ (r < 0 ∨ (0 ≤ r ∧ n ≤ 1048576 ∧ ∀ j, j < n → (T j).size ≤ 1048576)) ∧ Below w.heap.size w w'
def SzRel (w : World) (n : Nat) (T : Nat → ByteArray) (l i : Value) (wr : World) : Prop :=
  ∃ k x : Nat, k ≤ n ∧ i = .int .i64 k ∧ l = .int .i64 x ∧ x ≤ 1048576 ∧ Hid (∀ j, j < k → (T j).size ≤ 1048576) ∧ Below w.heap.size w wr

set_option maxRecDepth 100000 in
set_option maxHeartbeats 1000000 in
theorem szSegS (A : Option Addr) (n c : Nat) (M : Nat → Int) (T : Nat → ByteArray) (w : World) (hI : Segs w w.heap.size A n M T) (hn : n ≤ 9223372036854775807) (hT : ∀ j, j < n → (T j).size ≤ 9223372036854775807) :
    Calls Try.prog 29 #[.slice A n c, .int .i64 1048576] w (SzS n T w) := by
  have HI := hide hI
  have HT := hide hT
  clear hI hT
  by_cases h : n ≤ 1048576
  · have hn1 : ¬ (1048576 - (n : Int)) < 0 := by omega
    go_enter Try.func29, Try.ntmps29
    go_wp2_with fail
    go_loopw [1, 5] (fun l i wr => SzRel w n T l i wr) (fun _ i _ => n - (intOf i).toNat)
    case atStart => exact ⟨0, 1048576 - n, Nat.zero_le _, rfl, by go_num, by omega, hide (fun j hj => absurd hj (by omega)), Below.refl _ _⟩
    case round =>
      obtain ⟨k, x, hk, rfl, rfl, hx, hz, hb⟩ := hrel
      have HB := hide hb
      have HZ := hz
      clear hb hz hn1
      by_cases hlt : k < n
      · obtain ⟨b, off, rfl, hb, hc⟩ := HI.out (by omega)
        have d0 := hc k hlt
        have HD := hide (show wr.cell? ⟨b, off + k * 2, none⟩ = some (.int .i64 (M k)) ∧ wr.cell? ⟨b, off + k * 2 + 1, none⟩ = some (.string (T k)) from ⟨(HB.out.cell (p := ⟨b, off + k * 2, none⟩) hb).trans d0.1, (HB.out.cell (p := ⟨b, off + k * 2 + 1, none⟩) hb).trans d0.2⟩)
        obtain ⟨e0, e1⟩ := HD.out
        have hs := HT.out k hlt
        have HC := hide (szSegN (M k) (T k) x hx hs)
        have HZ1 := hide (fun (h : (T k).size ≤ 1048576) (j : Nat) (hj : j < k + 1) => show (T j).size ≤ 1048576 from if e : j < k then HZ.out j e else by rw [show j = k by omega]; exact h)
        clear hc d0
        obtain ⟨m, hm⟩ : ∃ m, M k = m := ⟨_, rfl⟩
        obtain ⟨s, hse⟩ : ∃ s, T k = s := ⟨_, rfl⟩
        rw [hm] at e0 HC
        rw [hse] at e1 HC hs HZ1
        clear HD hm hse
        go_wp2_with fail
        refine (HC.out _).mono ?_
        rintro e w1 ⟨rfl, hb1⟩
        have HB1 := hide (HB.out.trans (hb1.mono HB.out.size))
        clear hb1 HC e0 e1
        by_cases hq : s.size ≤ x
        · have hr : szR s x = ((x - s.size : Nat) : Int) := by rw [szR, if_pos hq]
          rw [hr]
          clear hr
          have HZ2 := hide (HZ1.out (by omega))
          obtain ⟨y, hy⟩ : ∃ y, x - s.size = y := ⟨_, rfl⟩
          have hy1 : y ≤ 1048576 := by omega
          rw [hy]
          clear hy hq hs HZ1
          go_wp2_with fail
          go_roundw
          case rel => exact ⟨k + 1, y, by omega, by go_num, rfl, hy1, HZ2, HB1.out⟩
          case measure => simp [intOf]; omega
        · have hr : szR s x = -1 := by rw [szR, if_neg hq]
          rw [hr]
          clear hr hq hs HZ1
          have HF := hide (show SzS n T w (.returned (.int .i64 (-1))) w1 from ⟨-1, rfl, .inl (by omega), HB1.out⟩)
          go_wp2_with fail
          go_ret
          exact HF.out
      · have HF := hide (show SzS n T w (.returned (.int .i64 x)) wr from ⟨x, rfl, .inr ⟨by omega, h, fun j hj => HZ.out j (by omega)⟩, HB.out⟩)
        go_wp2_with fail
        go_ret
        exact HF.out
  · have hn1 : (1048576 - (n : Int)) < 0 := by omega
    have HF := hide (show SzS n T w (.returned (.int .i64 (-1))) w from ⟨-1, rfl, .inl (by omega), Below.refl _ _⟩)
    go_enter Try.func29, Try.ntmps29
    go_wp2_with fail
    go_ret
    exact HF.out

/-- A new slice of segments. -/
def NewS (n : Nat) (M : Nat → Int) (T : Nat → ByteArray) (w : World) (x : Ending) (w' : World) : Prop :=
  ∃ A c, x = .returned (.slice A n c) ∧ n ≤ c ∧ c ≤ 9223372036854775807 ∧ OwnS w' w.heap.size (.slice A n c) n (segV M T) ∧ Below w.heap.size w w'
def TsRel (w : World) (n : Nat) (M : Nat → Int) (T : Nat → ByteArray) (i : Value) (wr : World) : Prop :=
  ∃ k : Nat, k ≤ n ∧ i = .int .i64 k ∧ OwnS wr w.heap.size (.slice (some ⟨w.heap.size, 0, none⟩) n n) n (segT M T k) ∧ Below w.heap.size w wr

set_option maxRecDepth 100000 in
set_option maxHeartbeats 1000000 in
theorem toSegS (A : Option Addr) (n c B : Nat) (M : Nat → Int) (T : Nat → ByteArray) (w : World) (hI : Segs w B A n M T) (hB : B ≤ w.heap.size) (hn : n ≤ 1048576) :
    Calls Try.prog 31 #[.slice A n c] w (NewS n M T w) := by
  obtain ⟨w1, hrun, ho, hb1⟩ := make_segs w w.heap.size n M T hn (Nat.le_refl _)
  have HI := hide hI
  have HO := hide ho
  have HB := hide hb1
  clear hI ho hb1
  go_enter Try.func31, Try.ntmps31
  go_wp2_with fail
  clear hrun
  go_loopw [4] (fun i wr => TsRel w n M T i wr) (fun i _ => n - (intOf i).toNat)
  case atStart => exact ⟨0, Nat.zero_le _, rfl, HO.out, HB.out⟩
  case round =>
    clear HO HB
    obtain ⟨k, hk, rfl, ho, hb⟩ := hrel
    have HO := hide ho
    have HB := hide hb
    clear ho hb
    by_cases hlt : k < n
    · obtain ⟨b, off, rfl, hb, hc⟩ := HI.out (by omega)
      have d0 := hc k hlt
      obtain ⟨e0, e1⟩ : wr.cell? ⟨b, off + k * 2, none⟩ = some (.int .i64 (M k)) ∧ wr.cell? ⟨b, off + k * 2 + 1, none⟩ = some (.string (T k)) := ⟨(HB.out.cell (p := ⟨b, off + k * 2, none⟩) (by show b < _; omega)).trans d0.1, (HB.out.cell (p := ⟨b, off + k * 2 + 1, none⟩) (by show b < _; omega)).trans d0.2⟩
      clear hc d0
      have HST := hide (segT_step M T k)
      obtain ⟨m, hm⟩ : ∃ m, M k = m := ⟨_, rfl⟩
      obtain ⟨s, hse⟩ : ∃ s, T k = s := ⟨_, rfl⟩
      rw [hm] at e0 HST
      rw [hse] at e1 HST
      clear hm hse
      go_wp2_with fail
      refine (toSegment m s _).mono ?_
      rintro e w2 ⟨rfl, hb2⟩
      have HB2 := hide (HB.out.trans (hb2.mono HB.out.size))
      have HO2 := hide (HO.out.next hb2)
      clear hb2 e0 e1
      have f0 := HO2.out.frozen (k * 2)
      have f1 := HO2.out.frozen (k * 2 + 1)
      have z0 := HO2.out.cell (i := k * 2) (by omega)
      have z1 := HO2.out.cell (i := k * 2 + 1) (by omega)
      obtain ⟨y0, hy0⟩ : ∃ y, segT M T k (k * 2) = y := ⟨_, rfl⟩
      obtain ⟨y1, hy1⟩ : ∃ y, segT M T k (k * 2 + 1) = y := ⟨_, rfl⟩
      rw [hy0] at z0
      rw [hy1] at z1
      obtain ⟨q1, q2⟩ := HO2.out.put2 (i := k * 2) (.int .i64 m) (.string s)
      rw [HST.out] at q1
      have Q1 := hide q1
      have Q2 := hide (HB2.out.grown q2 HB2.out.size (fun g hg => by cases hg; exact Nat.le_refl _))
      clear q1 q2 hy0 hy1
      go_wp2_with fail
      go_roundw
      case rel => exact ⟨k + 1, by omega, by go_num, Q1.out, Q2.out⟩
      case measure => simp [intOf]; omega
    · obtain rfl : k = n := by omega
      have HF := hide (show NewS k M T w (.returned (.slice (some ⟨w.heap.size, 0, none⟩) k k)) wr from ⟨_, _, rfl, Nat.le_refl _, by omega, HO.out.congr fun i hi => by unfold segT; rw [if_pos hi], HB.out⟩)
      go_wp2_with fail
      go_ret
      exact HF.out

def EqRelS (w : World) (n : Nat) (i : Value) (wr : World) : Prop := ∃ k : Nat, k ≤ n ∧ i = .int .i64 k ∧ Below w.heap.size w wr
theorem eqSeg_same (m : Int) (s : ByteArray) (w : World) :
    Calls Try.prog 18 #[.agg #[.int .i64 m, .string s], .agg #[.int .i64 m, .string s]] w (Gives (.bool true) w) := by
  have e1 : (m != m) = false := by simp
  go_enter Try.func18, Try.ntmps18
  go_wp2_with fail
  go_ret
  exact ⟨rfl, ((Below.refl _ _).alloc (Nat.le_refl _) _).alloc (by rw [alloc_size]; omega) _⟩
theorem segs_cells {w wr : World} {B n i b off : Nat} {M : Nat → Int} {T : Nat → ByteArray} (hb : b < B) (hB : B ≤ w.heap.size) (hc : ∀ j : Nat, j < n → w.cell? ⟨b, off + j * 2, none⟩ = some (.int .i64 (M j)) ∧ w.cell? ⟨b, off + j * 2 + 1, none⟩ = some (.string (T j))) (hi : i < n) (h : Below w.heap.size w wr) :
    wr.cell? ⟨b, off + i * 2, none⟩ = some (.int .i64 (M i)) ∧ wr.cell? ⟨b, off + i * 2 + 1, none⟩ = some (.string (T i)) :=
  ⟨(h.cell (p := ⟨b, off + i * 2, none⟩) (by show b < _; omega)).trans (hc i hi).1, (h.cell (p := ⟨b, off + i * 2 + 1, none⟩) (by show b < _; omega)).trans (hc i hi).2⟩

set_option maxRecDepth 100000 in
set_option maxHeartbeats 2000000 in
theorem eqSegS_same (A A' : Option Addr) (n c c' B B' : Nat) (M : Nat → Int) (T : Nat → ByteArray) (w : World) (h : Segs w B A n M T) (h' : Segs w B' A' n M T) (hB : B ≤ w.heap.size) (hB' : B' ≤ w.heap.size) (hn : n ≤ 1048576) :
    Calls Try.prog 33 #[.slice A n c, .slice A' n c'] w (Gives (.bool true) w) := by
  have HO := hide h
  have HO' := hide h'
  clear h h'
  go_enter Try.func33, Try.ntmps33
  go_wp2_with fail
  go_loopw [5] (fun i wr => EqRelS w n i wr) (fun i _ => n - (intOf i).toNat)
  case atStart => exact ⟨0, Nat.zero_le _, rfl, Below.refl _ _⟩
  case round =>
    obtain ⟨i, hi, rfl, hb⟩ := hrel
    have HB := hide hb
    clear hb
    by_cases hlt : i < n
    · obtain ⟨b, off, rfl, hb, hc⟩ := HO.out (by omega)
      obtain ⟨b', off', rfl, hb', hc'⟩ := HO'.out (by omega)
      have HCA := hide (fun (wx : World) (hx : Below w.heap.size w wx) => segs_cells hb hB hc hlt hx)
      have HCB := hide (fun (wx : World) (hx : Below w.heap.size w wx) => segs_cells hb' hB' hc' hlt hx)
      clear hb hb' hc hc' HO HO'
      obtain ⟨m, hm⟩ : ∃ m, M i = m := ⟨_, rfl⟩
      obtain ⟨s, hse⟩ : ∃ s, T i = s := ⟨_, rfl⟩
      rw [hm, hse] at HCA HCB
      clear hm hse
      obtain ⟨a0, a1⟩ := HCA.out _ HB.out
      obtain ⟨b0, b1⟩ := HCB.out _ HB.out
      go_wp2_with fail
      go_region_held3 (fun w' => (w'.cell? ⟨b, off + i * 2, none⟩ = some (.int .i64 m) ∧ w'.cell? ⟨b, off + i * 2 + 1, none⟩ = some (.string s)) ∧ (w'.cell? ⟨b', off' + i * 2, none⟩ = some (.int .i64 m) ∧ w'.cell? ⟨b', off' + i * 2 + 1, none⟩ = some (.string s)))
        (first
          | exact ⟨HCA.out _ HB.out.drew, HCB.out _ HB.out.drew⟩
          | exact ⟨HCA.out _ HB2.out, HCB.out _ HB2.out⟩)
        ((go_at_call 18; refine (eqSeg_same m s _).mono ?_; rintro e w2 ⟨rfl, hb2⟩; have HB2 := hide (HB.out.drew.trans (hb2.mono HB.out.drew.size)); clear hb2))
      go_wp2_with fail
      go_roundw
      case rel => exact ⟨i + 1, by omega, by go_num, HB2.out⟩
      case measure => simp [intOf]; omega
    · go_wp2_with fail
      go_ret
      exact ⟨rfl, HB.out⟩
end Go.Proofs.Ytdccofbfdlebgaa
