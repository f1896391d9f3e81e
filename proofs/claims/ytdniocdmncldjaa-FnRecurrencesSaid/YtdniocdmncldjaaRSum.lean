/-
  The contracts of the sums of a polynomial over a sequence, of the program and of the model.
  Condition: the field is valid; lists are shorter than 2^20; the index lies in the sequence.
-/
import Derived.Test.YtdniocdmncldjaaBmMath
import Derived.Test.YtdniocdmncldjaaJF
import Derived.Test.YtdniocdmncldjaaJG
namespace Go.Proofs.Ytdniocdmncldjaa
open Go.RowKit
set_option linter.unusedSimpArgs false
set_option linter.unusedVariables false

section
variable {R : Fld} {p k g : Int}
/-- The first n summands. -/
def pS (C s : List (El R)) (kk n : Nat) : El R := sumN (fun t => cf C t * cf s (kk - t)) n
theorem pS_all {C s : List (El R)} {kk n : Nat} (h : C.length ≤ n) (h' : n ≤ kk + 1) : pS C s kk n = ps (cf C) (cf s) kk := by
  rw [ps_sum, show kk + 1 = n + (kk + 1 - n) by omega, sumN_more (fun j hj => by rw [cf_out (by omega), e0m])]; rfl
theorem pS_succ (C s : List (El R)) (kk n : Nat) : pS C s kk (n + 1) = pS C s kk n + cf C n * cf s (kk - n) := rfl
def SumRel6 (w : World) (p k g : Int) (n kk : Nat) (C s : List (El R)) (v i : Value) (wr : World) : Prop :=
  ∃ (j : Nat) (y : El R), j ≤ n ∧ j ≤ kk + 1 ∧ i = .int .i64 j ∧ v = .int .i64 (y.val : Nat) ∧ Hid (y = pS C s kk j) ∧ Box w wr 25 p k g

set_option maxHeartbeats 1000000 in
theorem implSumAt (h : FldIs R p k g) (C s : List (El R)) (kk : Nat) (A A' : Option Addr) (n c m c' B : Nat) (w : World) (hI : Ints .i64 w B A n (iv C)) (hJ : Ints .i64 w B A' m (iv s)) (hB : B ≤ w.heap.size) (hk : kk < m) (hnk : n ≤ kk + 1) (hm : m ≤ 1048576) :
    Calls Try.prog 62 #[.slice A n c, .agg #[.int .i64 p, .int .i64 k, .int .i64 g], .slice A' m c', .int .i64 kk] w (Gives (.int .i64 ((ps (cf C) (cf s) kk).val : Nat)) w) := by
  have HX := hide (Box.start w 25 p k g)
  have hcn : C.length = n := by rw [← iv_len]; exact hI.len
  have hsm : s.length = m := by rw [← iv_len]; exact hJ.len
  have HI := hide hI
  have HJ := hide hJ
  have HCN := hide hcn
  clear hI hJ
  go_enter Try.func62, Try.ntmps62
  go_wp2_with fail
  go_loopw [9, 14] (fun v i wr => SumRel6 w p k g n kk C s v i wr) (fun _ i _ => n - (intOf i).toNat)
  case atStart => exact ⟨0, 0, Nat.zero_le _, Nat.zero_le _, rfl, rfl, rfl, HX⟩
  case round =>
    clear HX
    obtain ⟨j, y, hj, hjk, rfl, rfl, HY, HX⟩ := hrel
    have HX := hide HX
    by_cases hlt : j < n
    · obtain ⟨t, ht⟩ : ∃ t, t = kk - j := ⟨_, rfl⟩
      have htm : t < m := by omega
      obtain ⟨b, off, x, rfl, hb, hx, hc⟩ := (HI.out.below (HX.out.2.mono hB)).at_ hlt
      obtain ⟨b', off', x', rfl, hb', hx', hc'⟩ := (HJ.out.below (HX.out.2.mono hB)).at_ htm
      rw [iv_at (by omega)] at hx hx'
      simp only [Option.some.injEq] at hx hx'
      subst hx
      subst hx'
      have hw1 : IntKind.i64.wrap ((kk : Int) - (j : Int)) = (t : Int) := by rw [IntWalk.i64_in _ ⟨by omega, by omega⟩]; omega
      obtain ⟨u, hu⟩ : ∃ u, u = cf C j := ⟨_, rfl⟩
      obtain ⟨z, hz⟩ : ∃ z, z = cf s t := ⟨_, rfl⟩
      rw [← hu] at hc
      rw [← hz] at hc'
      have HN := hide (show y + u * z = pS C s kk (j + 1) by rw [pS_succ, ← HY.out, hu, hz, ht])
      have hbl : b' < wr.heap.size := Nat.lt_of_lt_of_le hb' (Nat.le_trans hB (Nat.le_of_lt HX.out.lt))
      have HC := hide hc'
      clear hu hz ht hc' hcn hsm
      go_wp2_with fail
      go_region_held3 (fun w' => w'.cell? ⟨w.heap.size, 0, none⟩ = some (.int .i64 p) ∧ w'.cell? ⟨w.heap.size, 1, none⟩ = some (.int .i64 k) ∧ w'.cell? ⟨w.heap.size, 2, none⟩ = some (.int .i64 g) ∧ w'.cell? ⟨b', off' + t, none⟩ = some (.int .i64 (z.val : Int)))
        (first
          | exact ⟨HX.out.drew.cells.1, HX.out.drew.cells.2.1, HX.out.drew.cells.2.2, HC.out⟩
          | exact ⟨HX2.out.cells.1, HX2.out.cells.2.1, HX2.out.cells.2.2, HC2.out⟩
          | exact ⟨HX3.out.cells.1, HX3.out.cells.2.1, HX3.out.cells.2.2, HC3.out⟩)
        (first
          | (go_at_call 94; refine (implProdE h u z _).mono ?_; rintro e w2 ⟨rfl, hb2⟩; have HX2 := hide (HX.out.drew.next hb2); have HC2 := hide ((hb2.cell (p := ⟨b', off' + t, none⟩) hbl).trans HC.out); have hbl2 : b' < w2.heap.size := Nat.lt_of_lt_of_le hbl hb2.size; clear hb2)
          | (go_at_call 52; refine (implSumE h y (u * z) _).mono ?_; rintro e w3 ⟨rfl, hb3⟩; have HX3 := hide (HX2.out.next hb3); have HC3 := hide ((hb3.cell (p := ⟨b', off' + t, none⟩) hbl2).trans HC2.out); clear hb3))
      go_wp2_with fail
      go_roundw
      case rel => exact ⟨j + 1, y + u * z, by omega, by omega, by go_num, rfl, HN, HX3⟩
      case measure => simp [intOf]; omega
    · obtain rfl : j = n := by omega
      have HF := hide (show (((ps (cf C) (cf s) kk).val : Nat) : Int) = (y.val : Int) by rw [HY.out, pS_all (by rw [HCN.out]; exact Nat.le_refl _) hjk])
      go_wp2_with fail
      go_ret
      exact ⟨ret_int HF, HX.out.2⟩

set_option maxHeartbeats 1000000 in
theorem specSumAt (h : FldIs R p k g) (C s : List (El R)) (kk : Nat) (A A' : Option Addr) (n c m c' B : Nat) (w : World) (hI : Ints .i64 w B A n (iv C)) (hJ : Ints .i64 w B A' m (iv s)) (hB : B ≤ w.heap.size) (hk : kk < m) (hn : n ≤ 1048576) (hm : m ≤ 1048576) :
    Calls Try.prog 41 #[.agg #[.int .i64 p, .int .i64 k, .int .i64 g], .slice A' m c', .slice A n c, .int .i64 kk] w (Gives (.int .i64 ((ps (cf C) (cf s) kk).val : Nat)) w) := by
  have HX := hide (Box.start w 25 p k g)
  have hcn : C.length = n := by rw [← iv_len]; exact hI.len
  have hsm : s.length = m := by rw [← iv_len]; exact hJ.len
  have HI := hide hI
  have HJ := hide hJ
  have HCN := hide hcn
  clear hI hJ
  go_enter Try.func41, Try.ntmps41
  go_wp2_with fail
  go_loopw [9, 10] (fun v i wr => SumRel6 w p k g n kk C s v i wr) (fun _ i _ => n - (intOf i).toNat)
  case atStart => exact ⟨0, 0, Nat.zero_le _, Nat.zero_le _, rfl, rfl, rfl, HX⟩
  case round =>
    clear HX
    obtain ⟨j, y, hj, hjk, rfl, rfl, HY, HX⟩ := hrel
    have HX := hide HX
    by_cases hlt : j < n
    · by_cases hlk : j ≤ kk
      · obtain ⟨t, ht⟩ : ∃ t, t = kk - j := ⟨_, rfl⟩
        have htm : t < m := by omega
        obtain ⟨b, off, x, rfl, hb, hx, hc⟩ := (HI.out.below (HX.out.2.mono hB)).at_ hlt
        obtain ⟨b', off', x', rfl, hb', hx', hc'⟩ := (HJ.out.below (HX.out.2.mono hB)).at_ htm
        rw [iv_at (by omega)] at hx hx'
        simp only [Option.some.injEq] at hx hx'
        subst hx
        subst hx'
        have hw1 : IntKind.i64.wrap ((kk : Int) - (j : Int)) = (t : Int) := by rw [IntWalk.i64_in _ ⟨by omega, by omega⟩]; omega
        obtain ⟨u, hu⟩ : ∃ u, u = cf C j := ⟨_, rfl⟩
        obtain ⟨z, hz⟩ : ∃ z, z = cf s t := ⟨_, rfl⟩
        rw [← hu] at hc
        rw [← hz] at hc'
        have HN := hide (show y + u * z = pS C s kk (j + 1) by rw [pS_succ, ← HY.out, hu, hz, ht])
        have hbl : b < wr.heap.size := Nat.lt_of_lt_of_le hb (Nat.le_trans hB (Nat.le_of_lt HX.out.lt))
        have hbl' : b' < wr.heap.size := Nat.lt_of_lt_of_le hb' (Nat.le_trans hB (Nat.le_of_lt HX.out.lt))
        have HC := hide hc
        have HD := hide hc'
        clear hu hz ht hc hc' hcn hsm
        go_wp2_with fail
        go_region_held3 (fun w' => w'.cell? ⟨w.heap.size, 0, none⟩ = some (.int .i64 p) ∧ w'.cell? ⟨w.heap.size, 1, none⟩ = some (.int .i64 k) ∧ w'.cell? ⟨w.heap.size, 2, none⟩ = some (.int .i64 g) ∧ w'.cell? ⟨b, off + j, none⟩ = some (.int .i64 (u.val : Int)) ∧ w'.cell? ⟨b', off' + t, none⟩ = some (.int .i64 (z.val : Int)))
          (first
            | exact ⟨HX.out.drew.cells.1, HX.out.drew.cells.2.1, HX.out.drew.cells.2.2, HC.out, HD.out⟩
            | exact ⟨HX2.out.cells.1, HX2.out.cells.2.1, HX2.out.cells.2.2, HC2.out, HD2.out⟩
            | exact ⟨HX3.out.cells.1, HX3.out.cells.2.1, HX3.out.cells.2.2, HC3.out, HD3.out⟩)
          (first
            | (go_at_call 65; refine (specMulE h u z _).mono ?_; rintro e w2 ⟨rfl, hb2⟩; have HX2 := hide (HX.out.drew.next hb2); have HC2 := hide ((hb2.cell (p := ⟨b, off + j, none⟩) hbl).trans HC.out); have HD2 := hide ((hb2.cell (p := ⟨b', off' + t, none⟩) hbl').trans HD.out); have hbl2 : b < w2.heap.size := Nat.lt_of_lt_of_le hbl hb2.size; have hbl2' : b' < w2.heap.size := Nat.lt_of_lt_of_le hbl' hb2.size; clear hb2)
            | (go_at_call 64; refine (specAddE h y (u * z) _).mono ?_; rintro e w3 ⟨rfl, hb3⟩; have HX3 := hide (HX2.out.next hb3); have HC3 := hide ((hb3.cell (p := ⟨b, off + j, none⟩) hbl2).trans HC2.out); have HD3 := hide ((hb3.cell (p := ⟨b', off' + t, none⟩) hbl2').trans HD2.out); clear hb3))
        go_wp2_with fail
        go_roundw
        case rel => exact ⟨j + 1, y + u * z, by omega, by omega, by go_num, rfl, HN, HX3⟩
        case measure => simp [intOf]; omega
      · obtain rfl : j = kk + 1 := by omega
        have HF := hide (show (((ps (cf C) (cf s) kk).val : Nat) : Int) = (y.val : Int) by rw [HY.out, pS, ps_sum])
        go_wp2_with fail
        go_ret
        exact ⟨ret_int HF, HX.out.2⟩
    · obtain rfl : j = n := by omega
      have HF := hide (show (((ps (cf C) (cf s) kk).val : Nat) : Int) = (y.val : Int) by rw [HY.out, pS_all (by rw [HCN.out]; exact Nat.le_refl _) hjk])
      go_wp2_with fail
      go_ret
      exact ⟨ret_int HF, HX.out.2⟩
end
end Go.Proofs.Ytdniocdmncldjaa
