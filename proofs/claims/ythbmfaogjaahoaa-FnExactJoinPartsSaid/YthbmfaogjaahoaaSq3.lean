/-
  The length of a list of segments, on both sides.
  Condition: as each statement says.
-/
import Derived.Test.YthbmfaogjaahoaaSq1
import Derived.Test.YthbmfaogjaahoaaSg5
import Derived.Test.YthbmfaogjaahoaaSg8
import Derived.Test.YthbmfaogjaahoaaSg9
import Derived.Test.YthbmfaogjaahoaaSmMath
namespace Go.Proofs.Ythbmfaogjaahoaa
open Go.RowKit
set_option linter.unusedSimpArgs false
set_option linter.unusedVariables false

def slP (M : Nat → Int) (T : Nat → ByteArray) : Nat → Nat
  | 0 => 0
  | k + 1 => slP M T k + slen (M k) (T k).size
def slAll (M : Nat → Int) (T : Nat → ByteArray) (n : Nat) : Prop := ∀ j, j < n → segB (M j) (bytesI (T j)) = true
open Classical in
/-- The code of SegmentsLength, and its number. -/
noncomputable def slCode (M : Nat → Int) (T : Nat → ByteArray) (n : Nat) : Int := if 400 < n then 3 else if slAll M T n then 0 else 1
noncomputable def slOf (M : Nat → Int) (T : Nat → ByteArray) (n : Nat) : Int := if slCode M T n = 0 then ((slP M T n : Nat) : Int) else 0
theorem sl_long {M : Nat → Int} {T : Nat → ByteArray} {n : Nat} (h : 400 < n) : slCode M T n = 3 ∧ slOf M T n = 0 := by
  have : slCode M T n = 3 := by unfold slCode; rw [if_pos h]
  exact ⟨this, by unfold slOf; rw [this]; rfl⟩
theorem sl_bad {M : Nat → Int} {T : Nat → ByteArray} {n k : Nat} (h : ¬ 400 < n) (hk : k < n) (hb : segB (M k) (bytesI (T k)) = false) : slCode M T n = 1 ∧ slOf M T n = 0 := by
  have : slCode M T n = 1 := by
    unfold slCode; rw [if_neg h, if_neg]
    intro ha
    have := ha k hk
    rw [hb] at this; cases this
  exact ⟨this, by unfold slOf; rw [this]; rfl⟩
theorem sl_ok {M : Nat → Int} {T : Nat → ByteArray} {n : Nat} (h : ¬ 400 < n) (ha : slAll M T n) : slCode M T n = 0 ∧ slOf M T n = ((slP M T n : Nat) : Int) := by
  have : slCode M T n = 0 := by unfold slCode; rw [if_neg h, if_pos ha]
  exact ⟨this, by unfold slOf; rw [if_pos this]⟩
theorem sl_cases (M : Nat → Int) (T : Nat → ByteArray) (n : Nat) : slCode M T n = 3 ∨ slCode M T n = 1 ∨ (slCode M T n = 0 ∧ ¬ 400 < n ∧ slAll M T n) := by
  unfold slCode
  by_cases h : 400 < n
  · rw [if_pos h]; exact .inl rfl
  · rw [if_neg h]
    by_cases ha : slAll M T n
    · rw [if_pos ha]; exact .inr (.inr ⟨rfl, h, ha⟩)
    · rw [if_neg ha]; exact .inr (.inl rfl)
theorem slAll_snoc {M : Nat → Int} {T : Nat → ByteArray} {k : Nat} (h : slAll M T k) (hk : segB (M k) (bytesI (T k)) = true) : slAll M T (k + 1) := fun j hj => by
  by_cases e : j < k
  · exact h j e
  · obtain rfl : j = k := by omega
    exact hk
theorem slP_le {M : Nat → Int} {T : Nat → ByteArray} : ∀ k, slAll M T k → slP M T k ≤ 2827 * k := by
  intro k
  induction k with
  | zero => intro _; simp [slP]
  | succ k ih =>
    intro h
    have h1 := ih (fun j hj => h j (by omega))
    have h2 := seg_ok (h k (by omega))
    have h3 := slen_le (m := M k) (n := (T k).size) (by have := h2.2.1; rw [bytesI_len] at this; omega)
    rw [slP]; omega

def SlRel (w : World) (n : Nat) (M : Nat → Int) (T : Nat → ByteArray) (t i : Value) (wr : World) : Prop :=
  ∃ k x : Nat, k ≤ n ∧ i = .int .i64 k ∧ t = .int .i64 x ∧ x ≤ 1200000 ∧ Hid (slAll M T k) ∧ Hid (slP M T k = x) ∧ Below w.heap.size w wr

set_option maxRecDepth 100000 in
set_option maxHeartbeats 1000000 in
theorem implSl (A : Option Addr) (n c B : Nat) (M : Nat → Int) (T : Nat → ByteArray) (w : World) (hI : Segs w B A n M T) (hB : B ≤ w.heap.size) (hn : n ≤ 1099511627776) (hT : ∀ j, j < n → (T j).size ≤ 1099511627776) :
    Calls Try.prog 102 #[.slice A n c] w (GivesII (slOf M T n) (slCode M T n) w) := by
  have HI := hide hI
  have HT := hide hT
  clear hI hT
  by_cases h : 400 < n
  · obtain ⟨h1, h2⟩ := sl_long (M := M) (T := T) h
    have H1 := hide h1
    have H2 := hide h2
    clear h1 h2
    go_enter Try.func102, Try.ntmps102
    go_wp2_with fail
    go_ret2
    exact ⟨ret_ii H2.out H1.out, Below.refl _ _⟩
  · go_enter Try.func102, Try.ntmps102
    go_wp2_with fail
    go_loopw [4, 12] (fun t i wr => SlRel w n M T t i wr) (fun _ i _ => n - (intOf i).toNat)
    case atStart => exact ⟨0, 0, Nat.zero_le _, rfl, rfl, by omega, hide (fun j hj => absurd hj (by omega)), rfl, Below.refl _ _⟩
    case round =>
      obtain ⟨k, x, hk, rfl, rfl, hx, ha, hp, hb⟩ := hrel
      have HB := hide hb
      have HA := ha
      have HP := hp
      clear hb ha hp
      by_cases hlt : k < n
      · obtain ⟨b, off, rfl, hbb, hc⟩ := HI.out (by omega)
        have HCC := hide hc
        have d0 := hc k hlt
        obtain ⟨e0, e1⟩ : wr.cell? ⟨b, off + k * 2, none⟩ = some (.int .i64 (M k)) ∧ wr.cell? ⟨b, off + k * 2 + 1, none⟩ = some (.string (T k)) := ⟨(HB.out.cell (p := ⟨b, off + k * 2, none⟩) (by show b < _; omega)).trans d0.1, (HB.out.cell (p := ⟨b, off + k * 2 + 1, none⟩) (by show b < _; omega)).trans d0.2⟩
        clear hc d0
        have hsz := HT.out k hlt
        obtain ⟨m, hm⟩ : ∃ m, M k = m := ⟨_, rfl⟩
        obtain ⟨s, hse⟩ : ∃ s, T k = s := ⟨_, rfl⟩
        rw [hm] at e0
        rw [hse] at e1 hsz
        have HM := hide hm
        have HSS := hide hse
        have HV := hide (implSegValid m s hsz)
        have HX := hide (SBox.start wr 107 m s)
        clear hm hse
        go_wp2_with fail
        refine (HV.out _).mono ?_
        rintro e w1 ⟨rfl, hb1⟩
        have HX1 := hide (HX.out.next hb1)
        have HB1 := hide (HB.out.trans (HX1.out.2.mono HB.out.size))
        clear hb1 e0 e1 HV HX
        obtain ⟨c0, c1⟩ := HX1.out.cells
        by_cases hv : segB m (bytesI s) = true
        · have HVV := hide hv
          have hso := seg_ok hv
          have hs255 : s.size ≤ 255 := by have := hso.2.1; rw [bytesI_len] at this; omega
          have HL := hide (implSegLen0 m s hso.1 hs255)
          have hle := slen_le (m := m) hs255
          have HN := hide (show slP M T (k + 1) = x + slen m s.size by rw [slP, HP.out, HM.out, HSS.out])
          have HA1 := hide (slAll_snoc HA.out (by rw [HM.out, HSS.out]; exact hv))
          have hxk : x ≤ 2827 * k := by have := slP_le k HA.out; rw [HP.out] at this; exact this
          obtain ⟨y, hy⟩ : ∃ y, slen m s.size = y := ⟨_, rfl⟩
          rw [hy] at HL HN hle
          rw [hv]
          clear hv hso hy
          go_wp2_with fail
          refine (HL.out _).mono ?_
          rintro e w2 ⟨rfl, hb2⟩
          have HB2 := hide (HB1.out.trans (hb2.mono HB1.out.size))
          clear hb2 c0 c1
          go_wp2_with fail
          go_roundw
          case rel => exact ⟨k + 1, x + y, by omega, by go_num, by go_num, by omega, HA1, HN, HB2.out⟩
          case measure => simp [intOf]; omega
        · have hvf : segB m (bytesI s) = false := by simpa using hv
          obtain ⟨h1, h2⟩ := sl_bad (M := M) (T := T) h hlt (by rw [HM.out, HSS.out]; exact hvf)
          have H1 := hide h1
          have H2 := hide h2
          rw [hvf]
          clear h1 h2 hv hvf
          go_wp2_with fail
          go_ret2
          exact ⟨ret_ii H2.out H1.out, HB1.out⟩
      · obtain rfl : k = n := by omega
        obtain ⟨h1, h2⟩ := sl_ok h HA.out
        have H1 := hide h1
        have H2 := hide (h2.trans (by rw [HP.out]))
        clear h1 h2
        go_wp2_with fail
        go_ret2
        exact ⟨ret_ii H2.out H1.out, HB.out⟩

end Go.Proofs.Ythbmfaogjaahoaa
