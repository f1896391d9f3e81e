/-
  The laws' own functions on parts and on slices of parts: sizes, copies, whether two are the same.
  Condition: as each statement says.
-/
import Derived.Test.YthbmfaogjaahoaaPt1
import Derived.Test.YthbmfaogjaahoaaLawKit
import Derived.Deep.RegionHeld3
namespace Go.Proofs.Ythbmfaogjaahoaa
open Go.RowKit
set_option linter.unusedSimpArgs false
set_option linter.unusedVariables false

set_option maxHeartbeats 400000 in
theorem toPart (i c p : Int) (t : ByteArray) (w : World) :
    Calls Try.prog 12 #[.agg #[.int .i64 i, .int .i64 c, .int .i64 p, .string t]] w (Gives (.agg #[.int .i64 i, .int .i64 c, .int .i64 p, .string t]) w) := by
  go_enter Try.func12, Try.ntmps12
  go_wp2_with fail
  refine bodyPost_ret (v := .agg #[.int .i64 i, .int .i64 c, .int .i64 p, .string t]) (by simp [results, Try.results12, go_sem]) rfl ⟨rfl, ?_⟩
  exact ((((Below.refl _ _).alloc (Nat.le_refl _) _).alloc (by rw [alloc_size]; omega) _).alloc (by rw [alloc_size, alloc_size]; omega) _)

def szRp (s : ByteArray) (x : Nat) : Int := if s.size ≤ x then ((x - s.size : Nat) : Int) else -1
theorem szPt (i c p : Int) (s : ByteArray) (x : Nat) (hx : x ≤ 1048576) (hs : s.size ≤ 9223372036854775807) (w : World) :
    Calls Try.prog 10 #[.agg #[.int .i64 i, .int .i64 c, .int .i64 p, .string s], .int .i64 x] w (Gives (.int .i64 (szRp s x)) w) := by
  by_cases h : s.size ≤ x
  · have HR := hide (show szRp s x = (x : Int) - (s.size : Int) by rw [szRp, if_pos h]; omega)
    have hn : ¬ ((x : Int) - (s.size : Int)) < 0 := by omega
    go_enter Try.func10, Try.ntmps10
    go_wp2_with fail
    go_ret
    exact ⟨ret_int HR.out, (Below.refl _ _).alloc (Nat.le_refl _) _⟩
  · have HR := hide (show szRp s x = -1 by rw [szRp, if_neg h])
    have hn : ((x : Int) - (s.size : Int)) < 0 := by omega
    go_enter Try.func10, Try.ntmps10
    go_wp2_with fail
    go_ret
    exact ⟨ret_int HR.out, (Below.refl _ _).alloc (Nat.le_refl _) _⟩

/-- What the size of a slice tells. -/
def SzP (n : Nat) (X : Nat → PtV) (w : World) (x : Ending) (w' : World) : Prop :=
  ∃ r : Int, x = .returned (.int .i64 r) ∧ (r < 0 ∨ (0 ≤ r ∧ n ≤ 1048576 ∧ ∀ j, j < n → (X j).t.size ≤ 1048576)) ∧ Below w.heap.size w w'
def SzPRel (w : World) (n : Nat) (X : Nat → PtV) (l i : Value) (wr : World) : Prop :=
  ∃ k x : Nat, k ≤ n ∧ i = .int .i64 k ∧ l = .int .i64 x ∧ x ≤ 1048576 ∧ Hid (∀ j, j < k → (X j).t.size ≤ 1048576) ∧ Below w.heap.size w wr

set_option maxRecDepth 100000 in
set_option maxHeartbeats 1000000 in
theorem szPts (A : Option Addr) (n c : Nat) (X : Nat → PtV) (w : World) (hI : Pts w w.heap.size A n X) (hn : n ≤ 9223372036854775807) (hT : ∀ j, j < n → (X j).t.size ≤ 9223372036854775807) :
    Calls Try.prog 27 #[.slice A n c, .int .i64 1048576] w (SzP n X w) := by
  have HI := hide hI
  have HT := hide hT
  clear hI hT
  by_cases h : n ≤ 1048576
  · have hn1 : ¬ (1048576 - (n : Int)) < 0 := by omega
    go_enter Try.func27, Try.ntmps27
    go_wp2_with fail
    go_loopw [1, 5] (fun l i wr => SzPRel w n X l i wr) (fun _ i _ => n - (intOf i).toNat)
    case atStart => exact ⟨0, 1048576 - n, Nat.zero_le _, rfl, by go_num, by omega, hide (fun j hj => absurd hj (by omega)), Below.refl _ _⟩
    case round =>
      obtain ⟨k, x, hk, rfl, rfl, hx, hz, hb⟩ := hrel
      have HB := hide hb
      have HZ := hz
      clear hb hz hn1
      by_cases hlt : k < n
      · obtain ⟨b, off, rfl, hb, hc⟩ := HI.out (by omega)
        obtain ⟨e0, e1, e2, e3⟩ := (hc k hlt).below HB.out hb
        have hs := HT.out k hlt
        have HZ1 := hide (fun (h : (X k).t.size ≤ 1048576) (j : Nat) (hj : j < k + 1) => show (X j).t.size ≤ 1048576 from if e : j < k then HZ.out j e else by rw [show j = k by omega]; exact h)
        clear hc
        obtain ⟨i0, hi0⟩ : ∃ m, (X k).i = m := ⟨_, rfl⟩
        obtain ⟨c0, hc0⟩ : ∃ m, (X k).c = m := ⟨_, rfl⟩
        obtain ⟨p0, hp0⟩ : ∃ m, (X k).p = m := ⟨_, rfl⟩
        obtain ⟨s, hse⟩ : ∃ s, (X k).t = s := ⟨_, rfl⟩
        rw [hi0] at e0
        rw [hc0] at e1
        rw [hp0] at e2
        rw [hse] at e3 hs HZ1
        have HC := hide (szPt i0 c0 p0 s x hx hs)
        clear hi0 hc0 hp0 hse
        go_wp2_with fail
        refine (HC.out _).mono ?_
        rintro e w1 ⟨rfl, hb1⟩
        have HB1 := hide (HB.out.trans (hb1.mono HB.out.size))
        clear hb1 HC e0 e1 e2 e3
        by_cases hq : s.size ≤ x
        · have hr : szRp s x = ((x - s.size : Nat) : Int) := by rw [szRp, if_pos hq]
          rw [hr]
          clear hr
          have HZ2 := hide (HZ1.out (by omega))
          obtain ⟨y, hy⟩ : ∃ y, x - s.size = y := ⟨_, rfl⟩
          have hy1 : y ≤ 1048576 := by omega
          rw [hy]
          clear hy hq hs HZ1
          go_wp2_with fail
          go_roundw
          case rel => exact ⟨k + 1, y, by omega, by go_num, rfl, hy1, HZ2, HB1.out⟩
          case measure => simp [intOf]; omega
        · have hr : szRp s x = -1 := by rw [szRp, if_neg hq]
          rw [hr]
          clear hr hq hs HZ1
          have HF := hide (show SzP n X w (.returned (.int .i64 (-1))) w1 from ⟨-1, rfl, .inl (by omega), HB1.out⟩)
          go_wp2_with fail
          go_ret
          exact HF.out
      · have HF := hide (show SzP n X w (.returned (.int .i64 x)) wr from ⟨x, rfl, .inr ⟨by omega, h, fun j hj => HZ.out j (by omega)⟩, HB.out⟩)
        go_wp2_with fail
        go_ret
        exact HF.out
  · have hn1 : (1048576 - (n : Int)) < 0 := by omega
    have HF := hide (show SzP n X w (.returned (.int .i64 (-1))) w from ⟨-1, rfl, .inl (by omega), Below.refl _ _⟩)
    go_enter Try.func27, Try.ntmps27
    go_wp2_with fail
    go_ret
    exact HF.out

/-- A new slice of parts. -/
def NewPt (n : Nat) (X : Nat → PtV) (w : World) (x : Ending) (w' : World) : Prop :=
  ∃ A c, x = .returned (.slice A n c) ∧ n ≤ c ∧ c ≤ 9223372036854775807 ∧ OwnPt w' w.heap.size (.slice A n c) n (ptV X) ∧ Below w.heap.size w w'
def TpRel (w : World) (n : Nat) (X : Nat → PtV) (i : Value) (wr : World) : Prop :=
  ∃ k : Nat, k ≤ n ∧ i = .int .i64 k ∧ OwnPt wr w.heap.size (.slice (some ⟨w.heap.size, 0, none⟩) n n) n (ptT X k) ∧ Below w.heap.size w wr

set_option maxRecDepth 100000 in
set_option maxHeartbeats 1000000 in
theorem toPts (A : Option Addr) (n c B : Nat) (X : Nat → PtV) (w : World) (hI : Pts w B A n X) (hB : B ≤ w.heap.size) (hn : n ≤ 1048576) :
    Calls Try.prog 29 #[.slice A n c] w (NewPt n X w) := by
  obtain ⟨w1, hrun, ho, hb1⟩ := make_pts w w.heap.size n X hn (Nat.le_refl _)
  have HI := hide hI
  have HO := hide ho
  have HB := hide hb1
  clear hI ho hb1
  go_enter Try.func29, Try.ntmps29
  go_wp2_with fail
  clear hrun
  go_loopw [4] (fun i wr => TpRel w n X i wr) (fun i _ => n - (intOf i).toNat)
  case atStart => exact ⟨0, Nat.zero_le _, rfl, HO.out, HB.out⟩
  case round =>
    clear HO HB
    obtain ⟨k, hk, rfl, ho, hb⟩ := hrel
    have HO := hide ho
    have HB := hide hb
    clear ho hb
    by_cases hlt : k < n
    · obtain ⟨b, off, rfl, hb, hc⟩ := HI.out (by omega)
      obtain ⟨e0, e1, e2, e3⟩ := (hc k hlt).below HB.out (by omega)
      clear hc
      have HST := hide (ptT_step X k)
      obtain ⟨i0, hi0⟩ : ∃ m, (X k).i = m := ⟨_, rfl⟩
      obtain ⟨c0, hc0⟩ : ∃ m, (X k).c = m := ⟨_, rfl⟩
      obtain ⟨p0, hp0⟩ : ∃ m, (X k).p = m := ⟨_, rfl⟩
      obtain ⟨s, hse⟩ : ∃ s, (X k).t = s := ⟨_, rfl⟩
      rw [hi0] at e0 HST
      rw [hc0] at e1 HST
      rw [hp0] at e2 HST
      rw [hse] at e3 HST
      clear hi0 hc0 hp0 hse
      go_wp2_with fail
      refine (toPart i0 c0 p0 s _).mono ?_
      rintro e w2 ⟨rfl, hb2⟩
      have HB2 := hide (HB.out.trans (hb2.mono HB.out.size))
      have HO2 := hide (HO.out.next hb2)
      clear hb2 e0 e1 e2 e3
      have f0 := HO2.out.frozen (k * 4)
      have f1 := HO2.out.frozen (k * 4 + 1)
      have f2 := HO2.out.frozen (k * 4 + 2)
      have f3 := HO2.out.frozen (k * 4 + 3)
      have z0 := HO2.out.cell (i := k * 4) (by omega)
      have z1 := HO2.out.cell (i := k * 4 + 1) (by omega)
      have z2 := HO2.out.cell (i := k * 4 + 2) (by omega)
      have z3 := HO2.out.cell (i := k * 4 + 3) (by omega)
      obtain ⟨y0, hy0⟩ : ∃ y, ptT X k (k * 4) = y := ⟨_, rfl⟩
      obtain ⟨y1, hy1⟩ : ∃ y, ptT X k (k * 4 + 1) = y := ⟨_, rfl⟩
      obtain ⟨y2, hy2⟩ : ∃ y, ptT X k (k * 4 + 2) = y := ⟨_, rfl⟩
      obtain ⟨y3, hy3⟩ : ∃ y, ptT X k (k * 4 + 3) = y := ⟨_, rfl⟩
      rw [hy0] at z0
      rw [hy1] at z1
      rw [hy2] at z2
      rw [hy3] at z3
      obtain ⟨q1, q2⟩ := HO2.out.put4 (i := k * 4) ⟨i0, c0, p0, s⟩
      rw [HST.out] at q1
      have Q1 := hide q1
      have Q2 := hide (HB2.out.grown q2 HB2.out.size (fun g hg => by cases hg; exact Nat.le_refl _))
      clear q1 q2 hy0 hy1 hy2 hy3
      go_wp2_with fail
      go_roundw
      case rel => exact ⟨k + 1, by omega, by go_num, Q1.out, Q2.out⟩
      case measure => simp [intOf]; omega
    · obtain rfl : k = n := by omega
      have HF := hide (show NewPt k X w (.returned (.slice (some ⟨w.heap.size, 0, none⟩) k k)) wr from ⟨_, _, rfl, Nat.le_refl _, by omega, HO.out.congr fun i hi => by unfold ptT; rw [if_pos hi], HB.out⟩)
      go_wp2_with fail
      go_ret
      exact HF.out

theorem eqPt_same (i c p : Int) (s : ByteArray) (w : World) :
    Calls Try.prog 20 #[.agg #[.int .i64 i, .int .i64 c, .int .i64 p, .string s], .agg #[.int .i64 i, .int .i64 c, .int .i64 p, .string s]] w (Gives (.bool true) w) := by
  have e1 : (i != i) = false := by simp
  have e2 : (c != c) = false := by simp
  have e3 : (p != p) = false := by simp
  go_enter Try.func20, Try.ntmps20
  go_wp2_with fail
  go_ret
  exact ⟨rfl, ((Below.refl _ _).alloc (Nat.le_refl _) _).alloc (by rw [alloc_size]; omega) _⟩
def EqPRel (w : World) (n : Nat) (i : Value) (wr : World) : Prop := ∃ k : Nat, k ≤ n ∧ i = .int .i64 k ∧ Below w.heap.size w wr

set_option maxRecDepth 100000 in
set_option maxHeartbeats 2000000 in
theorem eqPts_same (A A' : Option Addr) (n c c' B B' : Nat) (X : Nat → PtV) (w : World) (h : Pts w B A n X) (h' : Pts w B' A' n X) (hB : B ≤ w.heap.size) (hB' : B' ≤ w.heap.size) (hn : n ≤ 1048576) :
    Calls Try.prog 24 #[.slice A n c, .slice A' n c'] w (Gives (.bool true) w) := by
  have HO := hide h
  have HO' := hide h'
  clear h h'
  go_enter Try.func24, Try.ntmps24
  go_wp2_with fail
  go_loopw [5] (fun i wr => EqPRel w n i wr) (fun i _ => n - (intOf i).toNat)
  case atStart => exact ⟨0, Nat.zero_le _, rfl, Below.refl _ _⟩
  case round =>
    obtain ⟨i, hi, rfl, hb⟩ := hrel
    have HB := hide hb
    clear hb
    by_cases hlt : i < n
    · obtain ⟨b, off, rfl, hb, hc⟩ := HO.out (by omega)
      obtain ⟨b', off', rfl, hb', hc'⟩ := HO'.out (by omega)
      obtain ⟨i0, hi0⟩ : ∃ m, (X i).i = m := ⟨_, rfl⟩
      obtain ⟨c0, hc0⟩ : ∃ m, (X i).c = m := ⟨_, rfl⟩
      obtain ⟨p0, hp0⟩ : ∃ m, (X i).p = m := ⟨_, rfl⟩
      obtain ⟨s, hse⟩ : ∃ s, (X i).t = s := ⟨_, rfl⟩
      have hX : X i = ⟨i0, c0, p0, s⟩ := by rw [← hi0, ← hc0, ← hp0, ← hse]
      have HCA := hide (fun (wx : World) (hx : Below w.heap.size w wx) => (hX ▸ hc i hlt : PtAt w b (off + i * 4) ⟨i0, c0, p0, s⟩).below hx (by omega))
      have HCB := hide (fun (wx : World) (hx : Below w.heap.size w wx) => (hX ▸ hc' i hlt : PtAt w b' (off' + i * 4) ⟨i0, c0, p0, s⟩).below hx (by omega))
      clear hb hb' hc hc' HO HO' hX hi0 hc0 hp0 hse
      obtain ⟨a0, a1, a2, a3⟩ := HCA.out _ HB.out
      obtain ⟨b0, b1, b2, b3⟩ := HCB.out _ HB.out
      simp only at a0 a1 a2 a3 b0 b1 b2 b3
      go_wp2_with fail
      go_region_held3 (fun w' => (w'.cell? ⟨b, off + i * 4, none⟩ = some (.int .i64 i0) ∧ w'.cell? ⟨b, off + i * 4 + 1, none⟩ = some (.int .i64 c0) ∧ w'.cell? ⟨b, off + i * 4 + 2, none⟩ = some (.int .i64 p0) ∧ w'.cell? ⟨b, off + i * 4 + 3, none⟩ = some (.string s)) ∧ (w'.cell? ⟨b', off' + i * 4, none⟩ = some (.int .i64 i0) ∧ w'.cell? ⟨b', off' + i * 4 + 1, none⟩ = some (.int .i64 c0) ∧ w'.cell? ⟨b', off' + i * 4 + 2, none⟩ = some (.int .i64 p0) ∧ w'.cell? ⟨b', off' + i * 4 + 3, none⟩ = some (.string s)))
        (first
          | exact ⟨HCA.out _ HB.out.drew, HCB.out _ HB.out.drew⟩
          | exact ⟨HCA.out _ HB2.out, HCB.out _ HB2.out⟩)
        ((go_at_call 20; refine (eqPt_same i0 c0 p0 s _).mono ?_; rintro e w2 ⟨rfl, hb2⟩; have HB2 := hide (HB.out.drew.trans (hb2.mono HB.out.drew.size)); clear hb2))
      go_wp2_with fail
      go_roundw
      case rel => exact ⟨i + 1, by omega, by go_num, HB2.out⟩
      case measure => simp [intOf]; omega
    · go_wp2_with fail
      go_ret
      exact ⟨rfl, HB.out⟩
end Go.Proofs.Ythbmfaogjaahoaa
