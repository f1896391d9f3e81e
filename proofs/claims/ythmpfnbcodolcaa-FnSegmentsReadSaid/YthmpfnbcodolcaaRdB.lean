/-
  A slice of bytes from its end: what slices.Backward gives to a loop that ranges over it.
  Condition: the slice has at most 255 bytes.
-/
import Derived.Test.YthmpfnbcodolcaaSgC
namespace Go.Proofs.Ythmpfnbcodolcaa
open Go Go.RowKit
set_option linter.unusedSimpArgs false
set_option linter.unusedVariables false
attribute [local go_sem] Oper.semAt_some

/-- The box of an iterator from the end. -/
def BkRow (W : World) (b bd off n c : Nat) : Prop := W.heap[b]? = some (.cells #[.slice (some ⟨bd, off, none⟩) n c] 22 (0, 0))
theorem BkRow.next {W W' : World} {b bd off n c : Nat} (h : BkRow W b bd off n c) (hb : Below W.heap.size W W') : BkRow W' b bd off n c := (hb.block _ (Array.getElem?_eq_some_iff.1 h).1).trans h
def BkRel (bd off n c Bn : Nat) (J : Nat → World → Prop) (i3 : Value) (wr : World) : Prop :=
  ∃ j : Nat, j ≤ n ∧ i3 = .int .i64 ((n : Int) - 1 - (j : Int)) ∧ BkRow wr Bn bd off n c ∧ J j wr
/-- One round of such a loop: the next index and its byte. -/
def BYield (Bn l n : Nat) (J : Nat → World → Prop) (Jx : World → Prop) (j : Nat) (args : Array Value) (W : World) : Prop :=
  YieldAt Fence.wide (n - 1) Try.prog l args W fun e W' => (e = .returned (.bool true) ∧ J (j + 1) W' ∧ W'.heap[Bn]? = W.heap[Bn]?) ∨ (e = .returned (.bool false) ∧ Jx W')

set_option maxRecDepth 100000 in
theorem implBackward (bd off n c : Nat) (w : World) :
    Calls Try.prog 115 #[.slice (some ⟨bd, off, none⟩) n c] w fun e w' => e = .returned (.func (.func 128) #[] #[.pointer (some ⟨w.heap.size, 0, none⟩)]) ∧ w' = w.alloc (.cells #[.slice (some ⟨bd, off, none⟩) n c] 22) := by
  go_enter Try.func115, Try.ntmps115
  go_wp2_with fail
  go_ret
  exact ⟨rfl, rfl⟩

set_option maxRecDepth 100000 in
set_option maxHeartbeats 2000000 in
theorem back1_in (bd off n c nn l Bn : Nat) (hnn : 1 ≤ nn) (hn : n ≤ 255) (hc : n ≤ c) (hcc : c ≤ 9223372036854775807) (J : Nat → World → Prop) (Jx : World → Prop)
    (hJ : ∀ j W W', J j W → Below W.heap.size W W' → J j W')
    (hC : ∀ j W, J j W → j < n → W.cell? ⟨bd, off + (n - 1 - j), none⟩ = some (.int .u8 0))
    (hY : ∀ (j : Nat) W, j < n → J j W → BYield Bn l nn J Jx j #[.int .i64 (n - 1 - j : Nat), .int .u8 0] W)
    (W : World) (hB : BkRow W Bn bd off n c) (h0 : J 0 W) :
    CallsIn Fence.wide nn Try.prog 128 #[.func (.yield l) #[] #[], .pointer (some ⟨Bn, 0, none⟩)] W (fun e W' => (∃ v, e = .returned v) ∧ (J n W' ∨ Jx W')) := by
  have HJ := hide hJ
  have HC := hide hC
  have HY := hide hY
  have HB := hide hB
  have H0 := hide h0
  have c0 : W.cell? ⟨Bn, 0, none⟩ = some (.slice (some ⟨bd, off, none⟩) n c) := cell_of_row W Bn 0 _ _ _ hB
  have hw0 : IntKind.i64.wrap ((n : Int) - 1) = (n : Int) - 1 := IntWalk.i64_in _ ⟨by omega, by omega⟩
  clear hJ hC hY hB h0
  refine callsIn_of_wp Try.func128 rfl trivial ?_ rfl
  simp only [Try.ntmps128, List.size_toArray, List.length_cons, List.length_nil, Nat.reduceAdd, Nat.reduceSub, Array.replicate_succ, Array.replicate_zero, List.push_toArray, List.append_toArray, List.nil_append, List.cons_append]
  gi_wp2_with fail
  gi_loopw [3] (fun i3 wr => BkRel bd off n c Bn J i3 wr) (fun i3 _ => (intOf i3 + 1).toNat)
  case atStart => exact ⟨0, Nat.zero_le _, by simp, HB.out, H0.out⟩
  case round =>
    clear HB H0 c0
    obtain ⟨j, hj, rfl, hBr, hJr⟩ := hrel
    have HBr := hide hBr
    have HJr := hide hJr
    have c0 : wr.cell? ⟨Bn, 0, none⟩ = some (.slice (some ⟨bd, off, none⟩) n c) := cell_of_row wr Bn 0 _ _ _ hBr
    clear hBr hJr
    by_cases hlt : j < n
    · have hcell := HC.out j wr HJr.out hlt
      have hyy := HY.out j wr hlt HJr.out
      obtain ⟨k, hk⟩ : ∃ k, n - 1 - j = k := ⟨_, rfl⟩
      rw [hk] at hcell hyy
      have hkI : (n : Int) - 1 - (j : Int) = (k : Int) := by omega
      have hkn : k < n := by omega
      rw [hkI]
      have hwk : IntKind.i64.wrap ((k : Int) - 1) = (k : Int) - 1 := IntWalk.i64_in _ ⟨by omega, by omega⟩
      obtain ⟨fn, tmps, assign, body, hy, hR⟩ := hyy
      clear hk
      gi_wp2_with fail
      refine hR.mono ?_
      rintro e'' w3 (⟨rfl, hJ3, hk3⟩ | ⟨rfl, hJx3⟩)
      · have HB3 := hide (show BkRow w3 Bn bd off n c from hk3.trans HBr.out)
        have HJ3 := hide hJ3
        clear hk3 hJ3 hy hR c0 hcell
        gi_wp2_with fail
        go_roundw
        case rel => exact ⟨j + 1, by omega, by go_num, HB3.out, HJ3.out⟩
        case measure => simp [intOf]
      · have HX3 := hide hJx3
        clear hJx3 hy hR
        gi_wp2_with fail
        refine bodyPost_ret (results_none rfl _ _ _) rfl ?_
        exact ⟨⟨_, rfl⟩, .inr HX3.out⟩
    · obtain rfl : j = n := by omega
      have hkI : (j : Int) - 1 - (j : Int) = -1 := by omega
      rw [hkI]
      gi_wp2_with fail
      go_end0
      exact ⟨⟨_, rfl⟩, .inl HJr.out⟩
end Go.Proofs.Ythmpfnbcodolcaa
