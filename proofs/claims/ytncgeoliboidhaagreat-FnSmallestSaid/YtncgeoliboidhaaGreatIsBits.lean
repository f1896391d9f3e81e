/-
  The contracts of IsBits, of the program and of the model: both give isBits of what the slice reads as.
  Condition: the slice is shorter than 2^40.
-/
import Derived.Test.YtncgeoliboidhaaGreatProg
import Derived.Test.YtncgeoliboidhaaGreatWords
import Derived.Test.YtncgeoliboidhaaGreatVC
namespace Go.Proofs.YtncgeoliboidhaaGreat
open Go.RowKit

set_option maxHeartbeats 400000 in
theorem specIsBits (A : Option Addr) (n c B : Nat) (zs : List Int) (w : World) (hI : Ints .i64 w B A n zs) (hn : n ≤ 1099511627776) :
    Calls Tryz.prog 144 #[.slice A n c] w fun e w' => e = .returned (.bool (isBits zs)) ∧ w = w' := by
  have hl := hide hI.len
  have HI := hide hI
  clear hI
  by_cases hbig : 8192 < n
  · go_enter Tryz.func144, Tryz.ntmps144
    go_wp2
    go_ret
    exact ⟨ret_bool (isBits_long (by rw [hl]; exact hbig)), rfl⟩
  · go_enter Tryz.func144, Tryz.ntmps144
    go_wp2
    go_loop [3] (fun i => ∃ k : Nat, k ≤ n ∧ i = .int .i64 k ∧ Hid ((zs.take k).all isBit = true)) (fun i => n - (intOf i).toNat)
    case atStart => exact ⟨0, by omega, rfl, by simp [Hid]⟩
    case round =>
      obtain ⟨k, hk, rfl, hall⟩ := hrel
      by_cases hlt : k < n
      · obtain ⟨b, off, x, rfl, hb, hx, hc⟩ := HI.at_ hlt
        have HX := hide hx
        clear hx
        by_cases hbit : 0 ≤ x ∧ x ≤ 1
        · have HB := hide (show isBit x = true by rcases (show x = 0 ∨ x = 1 by omega) with rfl | rfl <;> rfl)
          obtain ⟨g1, g2⟩ := hbit
          go_wp2_with (go_at_call 26; refine (specIn_yes x 0 1 _ g1 g2).mono ?_; rintro e w' ⟨rfl, rfl⟩)
          go_round
          case rel => exact ⟨k + 1, by omega, by go_num, all_take_snoc hall HX HB⟩
          case measure => simp [intOf]; omega
        · have hb : isBit x = false := by simp [isBit]; omega
          have HN := hide (isBits_no HX hb)
          clear hb
          go_wp2_with (go_at_call 26; refine (specIn_no x 0 1 _ (by omega)).mono ?_; rintro e w' ⟨rfl, rfl⟩)
          go_ret
          exact ⟨ret_bool HN, rfl⟩
      · have HY := hide (isBits_yes hl (by omega) (show (zs.take n).all isBit = true by rw [show n = k by omega]; exact hall))
        go_wp2
        go_ret
        exact ⟨ret_bool HY, rfl⟩

theorem specIsBits_yes (A : Option Addr) (n c B : Nat) (zs : List Int) (w : World) (hI : Ints .i64 w B A n zs) (hn : n ≤ 1099511627776) (h : isBits zs = true) :
    Calls Tryz.prog 144 #[.slice A n c] w fun e w' => e = .returned (.bool true) ∧ w = w' :=
  (specIsBits A n c B zs w hI hn).mono fun _ _ ⟨he, hw⟩ => ⟨by rw [he, h], hw⟩
theorem specIsBits_no (A : Option Addr) (n c B : Nat) (zs : List Int) (w : World) (hI : Ints .i64 w B A n zs) (hn : n ≤ 1099511627776) (h : isBits zs = false) :
    Calls Tryz.prog 144 #[.slice A n c] w fun e w' => e = .returned (.bool false) ∧ w = w' :=
  (specIsBits A n c B zs w hI hn).mono fun _ _ ⟨he, hw⟩ => ⟨by rw [he, h], hw⟩
end Go.Proofs.YtncgeoliboidhaaGreat
