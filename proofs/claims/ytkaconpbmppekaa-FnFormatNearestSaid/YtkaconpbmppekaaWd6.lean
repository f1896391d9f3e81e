/-
  Lists with unknown bits: the contracts of hasBitsOrUnknown, knownBits, listError of the program, l08List, l08Away of the model.
  Condition: the lists are shorter than 2^40.
-/
import Derived.Test.YtkaconpbmppekaaWd5
namespace Go.Proofs.Ytkaconpbmppekaa
open Go.RowKit
set_option linter.unusedSimpArgs false
set_option linter.unusedVariables false

theorem tri_no {zs : List Int} {k : Nat} {x : Int} (hx : zs[k]? = some x) (h : isTri x = false) : zs.all isTri = false := by
  rw [List.all_eq_false]
  exact ⟨x, List.mem_of_getElem? hx, by simp [h]⟩
/-- Whether a list fits a code of this length. -/
def okL (L : Nat) (zs : List Int) : Bool := zs.all isTri && decide (zs.length = L)

set_option maxHeartbeats 1000000 in
theorem implHasBits (A : Option Addr) (n c B : Nat) (zs : List Int) (w : World) (hI : Ints .i64 w B A n zs) (hn : n ≤ 1099511627776) :
    Calls Try.prog 66 #[.slice A n c] w fun e w' => e = .returned (.bool (zs.all isTri)) ∧ w = w' := by
  have hl := hide hI.len
  have HI := hide hI
  clear hI
  go_enter Try.func66, Try.ntmps66
  go_wp2
  go_loop [7] (fun i => ∃ k : Nat, k ≤ n ∧ i = .int .i64 k ∧ Hid ((zs.take k).all isTri = true)) (fun i => n - (intOf i).toNat)
  case atStart => exact ⟨0, by omega, rfl, by simp [Hid]⟩
  case round =>
    obtain ⟨k, hk, rfl, hall⟩ := hrel
    by_cases hlt : k < n
    · obtain ⟨b, off, x, rfl, hb, hx, hc⟩ := HI.at_ hlt
      have HX := hide hx
      clear hx
      rcases (show x = -1 ∨ x = 0 ∨ x = 1 ∨ (x ≠ -1 ∧ x ≠ 0 ∧ x ≠ 1) by omega) with rfl | rfl | rfl | ⟨h1, h2, h3⟩
      · go_wp2
        go_round
        case rel => exact ⟨k + 1, by omega, by go_num, all_take_snoc hall HX rfl⟩
        case measure => simp [intOf]; omega
      · go_wp2
        go_round
        case rel => exact ⟨k + 1, by omega, by go_num, all_take_snoc hall HX rfl⟩
        case measure => simp [intOf]; omega
      · go_wp2
        go_round
        case rel => exact ⟨k + 1, by omega, by go_num, all_take_snoc hall HX rfl⟩
        case measure => simp [intOf]; omega
      · have HN := hide (tri_no HX (show isTri x = false by simp only [isTri, decide_eq_false_iff_not]; omega))
        have e0 : (x != -1) = true := by simpa using h1
        have e1 : (x != 0) = true := by simpa using h2
        have e2 : (x != 1) = true := by simpa using h3
        clear h1 h2 h3
        go_wp2
        go_ret
        exact ⟨ret_bool HN, rfl⟩
    · have HY := hide (show zs.all isTri = true by
        have := hall
        unfold Hid at this
        rwa [List.take_of_length_le (by rw [hl.out]; omega)] at this)
      go_wp2
      go_ret
      exact ⟨ret_bool HY, rfl⟩
theorem tri_pos {zs : List Int} (h : zs.all isTri = true) {k : Nat} {x : Int} (hx : zs[k]? = some x) : x = -1 ∨ x = 0 ∨ x = 1 :=
  tri_cases (List.all_eq_true.1 h x (List.mem_of_getElem? hx))
theorem take_lt {zs : List Int} {k : Nat} (hk : k ≤ zs.length) : numK (zs.take k) < 2 ^ k ∧ knwK (zs.take k) < 2 ^ k := tri_lt k _ (by rw [List.length_take]; omega)

set_option maxRecDepth 100000 in
set_option maxHeartbeats 1000000 in
theorem implKnown (A : Option Addr) (n c B : Nat) (zs : List Int) (w : World) (hI : Ints .i64 w B A n zs) (hn : n ≤ 24) (ht : zs.all isTri = true) :
    Calls Try.prog 67 #[.slice A n c] w fun e w' => e = .returned (.tuple #[.int .i64 (numK zs : Nat), .int .i64 (knwK zs : Nat)]) ∧ w = w' := by
  have hl := hide hI.len
  have HI := hide hI
  have HT := hide ht
  clear hI ht
  go_enter Try.func67, Try.ntmps67
  go_wp2
  go_loop [2, 3, 8] (fun a b i => ∃ k x y : Nat, k ≤ n ∧ i = .int .i64 k ∧ a = .int .i64 x ∧ b = .int .i64 y ∧ Hid (x = numK (zs.take k)) ∧ Hid (y = knwK (zs.take k))) (fun _ _ i => n - (intOf i).toNat)
  case atStart => exact ⟨0, 0, 0, by omega, rfl, rfl, rfl, rfl, rfl⟩
  case round =>
    obtain ⟨k, x, y, hk, rfl, rfl, rfl, HX, HY⟩ := hrel
    by_cases hlt : k < n
    · obtain ⟨b, off, z, rfl, hb, hx, hc⟩ := HI.at_ hlt
      have hb1 := take_lt (zs := zs) (k := k) (by rw [hl.out]; omega)
      have hp : 2 ^ k ≤ 8388608 := (Nat.pow_le_pow_right (n := 2) (by decide) (by omega) : 2 ^ k ≤ 2 ^ 23)
      have hx1 : x < 8388608 := by rw [HX.out]; omega
      have hy1 : y < 8388608 := by rw [HY.out]; omega
      have HSX := hide (show numK (zs.take (k + 1)) = 2 * x + (if z = 1 then 1 else 0) by rw [take_snocI hx, numK_snoc, HX.out])
      have HSY := hide (show knwK (zs.take (k + 1)) = 2 * y + (if z < 0 then 0 else 1) by rw [take_snocI hx, knwK_snoc, HY.out])
      have hz := tri_pos HT.out hx
      clear hb1 hp hx
      rcases hz with rfl | rfl | rfl
      · rw [if_neg (by decide)] at HSX
        rw [if_pos (by decide)] at HSY
        go_wp2
        go_round
        case rel => exact ⟨k + 1, 2 * x, 2 * y, by omega, by go_num, by go_num, by go_num, HSX.out.symm, HSY.out.symm⟩
        case measure => simp [intOf]; omega
      · rw [if_neg (by decide)] at HSX
        rw [if_neg (by decide)] at HSY
        have o1 : bits .or .i64 ((x : Int) * 2) 0 = 2 * (x : Int) + 0 := orBit _ _ (by omega) (by omega) (.inl rfl)
        have o2 : bits .or .i64 ((y : Int) * 2) 1 = 2 * (y : Int) + 1 := orBit _ _ (by omega) (by omega) (.inr rfl)
        go_wp2
        go_round
        case rel => exact ⟨k + 1, 2 * x, 2 * y + 1, by omega, by go_num, by go_num, by go_num, HSX.out.symm, HSY.out.symm⟩
        case measure => simp [intOf]; omega
      · rw [if_pos rfl] at HSX
        rw [if_neg (by decide)] at HSY
        have o1 : bits .or .i64 ((x : Int) * 2) 1 = 2 * (x : Int) + 1 := orBit _ _ (by omega) (by omega) (.inr rfl)
        have o2 : bits .or .i64 ((y : Int) * 2) 1 = 2 * (y : Int) + 1 := orBit _ _ (by omega) (by omega) (.inr rfl)
        go_wp2
        go_round
        case rel => exact ⟨k + 1, 2 * x + 1, 2 * y + 1, by omega, by go_num, by go_num, by go_num, HSX.out.symm, HSY.out.symm⟩
        case measure => simp [intOf]; omega
    · have HA := hide (show numK zs = x by
        have := HX.out
        rw [List.take_of_length_le (by rw [hl.out]; omega)] at this; exact this.symm)
      have HB := hide (show knwK zs = y by
        have := HY.out
        rw [List.take_of_length_le (by rw [hl.out]; omega)] at this; exact this.symm)
      go_wp2
      go_ret2
      exact ⟨by rw [HA.out, HB.out]; rfl, rfl⟩

set_option maxRecDepth 100000 in
set_option maxHeartbeats 1000000 in
theorem specList (d l p : Int) (A : Option Addr) (n c B : Nat) (zs : List Int) (w : World) (hI : Ints .i64 w B A n zs) (hB : B ≤ w.heap.size) (hn : n ≤ 1099511627776) (L : Nat) (hL : l = L) :
    Calls Try.prog 57 #[.agg #[.int .i64 d, .int .i64 l, .int .i64 p], .slice A n c] w (Gives (.bool (okL L zs)) w) := by
  subst hL
  have HX := hide (Box.start w 25 d L p)
  obtain ⟨c0, c1, c2⟩ := HX.out.cells
  have hl := hide hI.len
  have HI := hide (hI.below ((Below.refl B w).alloc hB (.cells #[.int .i64 d, .int .i64 L, .int .i64 p] 25)))
  clear hI
  go_enter Try.func57, Try.ntmps57
  go_wp2_with fail
  go_loop [5] (fun i => ∃ k : Nat, k ≤ n ∧ i = .int .i64 k ∧ Hid ((zs.take k).all isTri = true)) (fun i => n - (intOf i).toNat)
  case atStart => exact ⟨0, by omega, rfl, by simp [Hid]⟩
  case round =>
    obtain ⟨k, hk, rfl, hall⟩ := hrel
    by_cases hlt : k < n
    · obtain ⟨b, off, x, rfl, hb, hx, hc⟩ := HI.at_ hlt
      have HXX := hide hx
      clear hx
      rcases ht : inR x (-1) 1 with _ | _
      · have HH := hide ht
        have HN := hide (show okL L zs = false by
          unfold okL; rw [tri_no HXX (show isTri x = false from ht)]; rfl)
        clear ht
        go_wp2_with (go_at_call 48; refine (specIn_is x (-1) 1 false _ HH).mono ?_; rintro e w' ⟨rfl, rfl⟩)
        go_ret
        exact ⟨ret_bool HN, HX.out.2⟩
      · have HH := hide ht
        have HT := hide (show isTri x = true from ht)
        clear ht
        go_wp2_with (go_at_call 48; refine (specIn_is x (-1) 1 true _ HH).mono ?_; rintro e w' ⟨rfl, rfl⟩)
        go_round
        case rel => exact ⟨k + 1, by omega, by go_num, all_take_snoc hall HXX HT⟩
        case measure => simp [intOf]; omega
    · have HY := hide (show okL L zs = ((n : Int) == (L : Int)) by
        have h := hall
        unfold Hid at h
        rw [List.take_of_length_le (by rw [hl.out]; omega)] at h
        unfold okL
        rw [h, Bool.true_and, hl.out, Bool.eq_iff_iff]
        simp
        omega)
      go_wp2_with fail
      go_ret
      exact ⟨ret_bool HY, HX.out.2⟩
end Go.Proofs.Ytkaconpbmppekaa
