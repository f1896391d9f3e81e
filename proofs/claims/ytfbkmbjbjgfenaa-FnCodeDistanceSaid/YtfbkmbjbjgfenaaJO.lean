/-
  The contracts of IsBits, of the program and of the model: both give isBits of what the slice reads as.
  The contracts of BitDistance and XorBits, of the program and of the model.
  Condition: as each statement says.
-/
import Derived.Test.YtfbkmbjbjgfenaaProg
import Derived.Test.YtfbkmbjbjgfenaaJA
import Derived.Test.YtfbkmbjbjgfenaaJC
import Derived.Test.YtfbkmbjbjgfenaaJF
import Derived.Deep.RegionHeld3
namespace Go.Proofs.Ytfbkmbjbjgfenaa
open Go.RowKit

end Go.Proofs.Ytfbkmbjbjgfenaa

namespace Go.Proofs.Ytfbkmbjbjgfenaa
open Go.RowKit


/-- What a function leaves that returns a number and a code. -/
def Gives2 (v r : Int) (w : World) (x : Ending) (w' : World) : Prop := x = .returned (.tuple #[.int .i64 v, .int .i64 r]) ∧ Below w.heap.size w w'

def distOf (za zb : List Int) : Int := if pairCode za zb = 0 then (differ za zb : Int) else 0

set_option maxHeartbeats 400000 in
theorem specDiffer (A : Option Addr) (n c B : Nat) (za : List Int) (A' : Option Addr) (c' B' : Nat) (zb : List Int) (w : World) (hI : Ints .i64 w B A n za) (hJ : Ints .i64 w B' A' n zb) (hn : n ≤ 1099511627776) :
    Calls Try.prog 80 #[.slice A n c, .slice A' n c'] w (Tells (.int .i64 (differ za zb : Int)) w) := by
  have hl := hide hI.len
  have hl' := hide hJ.len
  have HI := hide hI
  have HJ := hide hJ
  clear hI hJ
  go_enter Try.func80, Try.ntmps80
  go_wp2
  go_loopw [5, 6] (fun d i wr => ∃ k : Nat, k ≤ n ∧ i = .int .i64 k ∧ (∃ t : Nat, t ≤ k ∧ d = .int .i64 t ∧ Hid (differ (za.take k) (zb.take k) = t)) ∧ ∃ m, wr = w.drewN m) (fun _ i _ => n - (intOf i).toNat)
  case atStart => exact ⟨0, by omega, rfl, ⟨0, by omega, rfl, by simp [Hid, differ]⟩, 0, rfl⟩
  case round =>
    obtain ⟨k, hk, rfl, ⟨t, ht, rfl, HT⟩, m, rfl⟩ := hrel
    by_cases hlt : k < n
    · obtain ⟨b, off, x, rfl, hb, hx, hc⟩ := HI.out.at_ hlt
      obtain ⟨b', off', y, rfl, hb', hy, hc'⟩ := HJ.out.at_ hlt
      have HS := hide (differ_snoc hx hy)
      clear hx hy
      have z1 : (k : Int) < (n : Int) := by omega
      have z0 : (0 : Int) ≤ (k : Int) := by omega
      by_cases hxy : x = y
      · subst hxy
        go_wp2
        go_quiet (fail)
        go_wp2
        go_roundw
        case rel => exact ⟨k + 1, by omega, by go_num, ⟨t, by omega, rfl, by rw [Hid, HS.out, HT.out]; simp⟩, _, rfl⟩
        case measure => simp [intOf]; omega
      · have HN := hide hxy
        have e0 : (x != y) = true := by simpa using hxy
        go_wp2
        go_quiet (fail)
        go_wp2
        go_roundw
        case rel => exact ⟨k + 1, by omega, by go_num, ⟨t + 1, by omega, by go_num, by rw [Hid, HS.out, HT.out, if_neg HN.out]⟩, _, rfl⟩
        case measure => simp [intOf]; omega
    · have HF := hide (show differ za zb = t by
        have := HT.out
        rw [List.take_of_length_le (by rw [hl.out]; omega), List.take_of_length_le (by rw [hl'.out]; omega)] at this
        exact this)
      go_wp2
      go_ret
      exact ⟨ret_int (by rw [HF.out]), m, rfl⟩

/-- What a function leaves that returns a new slice of integers and a code. -/
def NewInts2 (e : TypeId) (k : IntKind) (zs : List Int) (r : Int) (w : World) (x : Ending) (w' : World) : Prop :=
  ∃ A c, x = .returned (.tuple #[.slice A zs.length c, .int .i64 r]) ∧ zs.length ≤ c ∧ Own w' w.heap.size e k (.slice A zs.length c) zs ∧ Below w.heap.size w w'

def xorOf (za zb : List Int) : List Int := if pairCode za zb = 0 then xorL za zb else []

def XorRel (n : Nat) (zs : List Int) (w : World) (i : Value) (wr : World) : Prop :=
  ∃ k : Nat, k ≤ n ∧ i = .int .i64 k ∧ Own wr w.heap.size 2 .i64 (.slice (some ⟨w.heap.size, 0, none⟩) n n) (zs.take k ++ List.replicate (n - k) 0) ∧ Below w.heap.size w wr

theorem nilOwn (w : World) (base : Nat) (e : TypeId) (k : IntKind) : Own w base e k (.slice none 0 0) [] := World.ownsRow_nil w base e 1

def XRel (n : Nat) (zs : List Int) (w : World) (v i : Value) (wr : World) : Prop :=
  ∃ k : Nat, k ≤ n ∧ i = .int .i64 k ∧ Own wr w.heap.size 2 .i64 v (zs.take k) ∧ Below w.heap.size w wr

end Go.Proofs.Ytfbkmbjbjgfenaa
