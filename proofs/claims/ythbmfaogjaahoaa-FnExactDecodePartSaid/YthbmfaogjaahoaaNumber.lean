/-
  The contracts of NumberAt and what it calls, of the program and of the model.
  Condition: the slices are shorter than 2^40.
-/
import Derived.Test.YthbmfaogjaahoaaAppend
namespace Go.Proofs.Ythbmfaogjaahoaa
open Go.RowKit

theorem take_num {zs : List Int} {k : Nat} {x s : Int} (h : numVal (zs.take k) = s) (hx : zs[k]? = some x) : numVal (zs.take (k + 1)) = 2 * s + x := by
  rw [take_snocI hx, numVal_snoc, h]
theorem take_small {zs : List Int} {k : Nat} (hk : k ≤ 32) (hb : ∀ x ∈ zs, x = 0 ∨ x = 1) : 0 ≤ numVal (zs.take k) ∧ numVal (zs.take k) ≤ 4294967295 :=
  numVal_small (by rw [List.length_take]; omega) (fun x hx => hb x (List.mem_of_mem_take hx))

set_option maxHeartbeats 400000 in
theorem implNumberOf (A : Option Addr) (n c B : Nat) (zs : List Int) (w : World) (hI : Ints .i64 w B A n zs) (hn : n ≤ 32) (hb : ∀ x ∈ zs, x = 0 ∨ x = 1) :
    Calls Try.prog 75 #[.slice A n c] w fun e w' => e = .returned (.int .i64 (numVal zs)) ∧ w = w' := by
  have HI := hide hI
  have hl := hide hI.len
  have HB := hide hb
  clear hI hb
  go_enter Try.func75, Try.ntmps75
  go_wp2
  go_loop [3, 8] (fun t i => ∃ k : Nat, k ≤ n ∧ i = .int .i64 k ∧ ∃ s : Int, t = .int .i64 s ∧ Hid (numVal (zs.take k) = s)) (fun _ i => n - (intOf i).toNat)
  case atStart => exact ⟨0, by omega, rfl, 0, rfl, by simp [Hid, numVal]⟩
  case round =>
    obtain ⟨k, hk, rfl, s, rfl, HS⟩ := hrel
    have hs := take_small (k := k) (by omega) HB.out
    rw [HS.out] at hs
    obtain ⟨hs0, hs1⟩ := hs
    by_cases hlt : k < n
    · obtain ⟨b, off, x, rfl, hb, hx, hc⟩ := HI.out.at_ hlt
      have hor := orBit s x hs0 (by omega) (HB.out x (List.mem_of_getElem? hx))
      have HN := hide (take_num HS hx)
      clear hx
      generalize 2 * s + x = y at hor HN
      go_wp2
      go_round
      case rel => exact ⟨k + 1, by omega, by go_num, y, rfl, HN⟩
      case measure => simp [intOf]; omega
    · have HF := hide (show numVal zs = s by
        have := HS.out
        rw [List.take_of_length_le (by rw [hl.out]; omega)] at this
        exact this)
      go_wp2
      go_ret
      exact ⟨ret_int HF.out, rfl⟩

set_option maxHeartbeats 400000 in
theorem specNumber (A : Option Addr) (n c B lo wd : Nat) (zs : List Int) (w : World) (hI : Ints .i64 w B A n zs) (hn : n ≤ 1099511627776) (hwd : wd ≤ 32) (hlo : lo + wd ≤ n) (hb : ∀ x ∈ zs, x = 0 ∨ x = 1) :
    Calls Try.prog 43 #[.slice A n c, .int .i64 (lo : Int), .int .i64 (wd : Int)] w fun e w' => e = .returned (.int .i64 (numVal ((zs.drop lo).take wd))) ∧ w = w' := by
  have HI := hide hI
  have hl := hide hI.len
  have HB := hide (show ∀ x ∈ zs.drop lo, x = 0 ∨ x = 1 from fun x hx => hb x (List.mem_of_mem_drop hx))
  clear hI hb
  go_enter Try.func43, Try.ntmps43
  go_wp2
  go_loop [7, 8] (fun t i => ∃ k : Nat, k ≤ wd ∧ i = .int .i64 k ∧ ∃ s : Int, t = .int .i64 s ∧ Hid (numVal ((zs.drop lo).take k) = s)) (fun _ i => wd - (intOf i).toNat)
  case atStart => exact ⟨0, by omega, rfl, 0, rfl, by simp [Hid, numVal]⟩
  case round =>
    obtain ⟨k, hk, rfl, s, rfl, HS⟩ := hrel
    have hs := take_small (k := k) (by omega) HB.out
    rw [HS.out] at hs
    obtain ⟨hs0, hs1⟩ := hs
    by_cases hlt : k < wd
    · obtain ⟨b, off, x, rfl, hb, hx, hc⟩ := HI.out.at_ (j := lo + k) (by omega)
      have hx' : (zs.drop lo)[k]? = some x := by rw [List.getElem?_drop]; exact hx
      have hx01 := HB.out x (List.mem_of_getElem? hx')
      have HN := hide (take_num HS hx')
      clear hx hx'
      have hx0 : 0 ≤ x := by omega
      have hx1 : x ≤ 1 := by omega
      clear hx01
      go_wp2
      go_round
      case rel => exact ⟨k + 1, by omega, by go_num, _, rfl, HN⟩
      case measure => simp [intOf]; omega
    · have HF := hide (show numVal ((zs.drop lo).take wd) = s by
        have := HS.out
        rw [show k = wd by omega] at this
        exact this)
      go_wp2
      go_ret
      exact ⟨ret_int HF.out, rfl⟩

end Go.Proofs.Ythbmfaogjaahoaa
