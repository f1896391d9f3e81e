/-
  The contracts of the laws' own helpers likeInts and big.
  Condition: the slices are shorter than 2^40.
-/
import Derived.Test.YthbmfaogjaahoaaMarks
namespace Go.Proofs.Ythbmfaogjaahoaa
open Go.RowKit

set_option maxHeartbeats 400000 in
theorem likeInts (A : Option Addr) (n c B : Nat) (za : List Int) (A' : Option Addr) (n' c' B' : Nat) (zb : List Int) (w : World) (hI : Ints .i64 w B A n za) (hJ : Ints .i64 w B' A' n' zb) (hn : n ≤ 1099511627776) (hn' : n' ≤ 1099511627776) :
    Calls Try.prog 39 #[.slice A n c, .slice A' n' c'] w (Tells (.bool (sameI za zb)) w) := by
  have hl := hide hI.len
  have hl' := hide hJ.len
  have HI := hide hI
  have HJ := hide hJ
  clear hI hJ
  by_cases hne : n = n'
  · subst hne
    go_enter Try.func39, Try.ntmps39
    go_wp2
    go_loopw [5] (fun i wr => EqRel n za zb w i wr) (fun i _ => n - (intOf i).toNat)
    case atStart => exact ⟨0, by omega, rfl, by simp, 0, rfl⟩
    case round =>
      obtain ⟨k, hk, rfl, htake, m, rfl⟩ := hrel
      have HT := hide htake
      clear htake
      by_cases hlt : k < n
      · obtain ⟨b, off, x, rfl, hb, hx, hc⟩ := HI.out.at_ hlt
        obtain ⟨b', off', y, rfl, hb', hy, hc'⟩ := HJ.out.at_ hlt
        have HX := hide hx
        have HY := hide hy
        clear hx hy
        have z1 : (k : Int) < (n : Int) := by omega
        have z0 : (0 : Int) ≤ (k : Int) := by omega
        by_cases hxy : x = y
        · subst hxy
          go_wp2
          go_quiet (fail)
          go_wp2
          go_roundw
          case rel => exact ⟨k + 1, by omega, by go_num, take_same HT HX HY, _, rfl⟩
          case measure => simp [intOf]; omega
        · have HN := hide (sameI_at HX HY hxy)
          have e0 : (x != y) = true := by simpa using hxy
          go_wp2
          go_quiet (fail)
          go_wp2
          go_ret
          exact ⟨ret_bool HN, _, World.drewN_drewN _ _ _⟩
      · have HH := hide (sameI_yes hl hl' (show za.take n = zb.take n by rw [show n = k by omega]; exact HT))
        go_wp2
        go_ret
        exact ⟨ret_bool HH, m, rfl⟩
  · have HN := hide (sameI_len (a := za) (b := zb) (by rw [hl.out, hl'.out]; exact hne))
    have e0 : ((n : Int) != (n' : Int)) = true := by simp; omega
    go_enter Try.func39, Try.ntmps39
    go_wp2
    go_ret
    exact ⟨ret_bool HN, 0, rfl⟩


theorem likeSame (A : Option Addr) (n c B : Nat) (A' : Option Addr) (n' c' B' : Nat) (zs : List Int) (w : World) (hI : Ints .i64 w B A n zs) (hJ : Ints .i64 w B' A' n' zs) (hn : zs.length ≤ 1099511627776) :
    Calls Try.prog 39 #[.slice A n c, .slice A' n' c'] w (Gives (.bool true) w) :=
  (likeInts A n c B zs A' n' c' B' zs w hI hJ (by rw [← hI.len]; exact hn) (by rw [← hJ.len]; exact hn)).mono fun _ _ ⟨he, m, hw⟩ => ⟨by rw [he, sameI_refl], by rw [hw]; exact below_drewN (Below.refl _ _) m⟩

theorem big_yes (A : Option Addr) (n c : Nat) (w : World) (hn : 4096 < n) (hm : n ≤ 9223372036854775807) :
    Calls Try.prog 35 #[.slice A n c] w fun e w' => e = .returned (.bool true) ∧ w = w' := by
  go_enter Try.func35, Try.ntmps35
  go_wp2
  go_ret
  exact ⟨ret_bool (by simp; omega), rfl⟩
theorem big_no (A : Option Addr) (n c : Nat) (w : World) (hn : n ≤ 4096) :
    Calls Try.prog 35 #[.slice A n c] w fun e w' => e = .returned (.bool false) ∧ w = w' := by
  go_enter Try.func35, Try.ntmps35
  go_wp2
  go_ret
  exact ⟨ret_bool (by simp; omega), rfl⟩
end Go.Proofs.Ythbmfaogjaahoaa
