/-
  The library's binary search and maximum over lists of integers; the program's isAmong.
  Condition: the list of a search is strictly increasing.
-/
import Derived.Test.YtlphodhecaagbaaGreatJQ
namespace Go.Proofs.YtlphodhecaagbaaGreat
open Go.RowKit
set_option linter.unusedSimpArgs false
set_option linter.unusedVariables false

set_option maxHeartbeats 2000000 in
theorem implNaN (x : Int) (w : World) : Calls Tryz.prog 149 #[.int .i64 x] w fun e w' => e = .returned (.bool false) ∧ w = w' := by
  have e1 : (x != x) = false := by simp
  go_enter Tryz.func149, Tryz.ntmps149
  go_wp2_with fail
  go_ret
  exact ⟨ret_bool rfl, rfl⟩
set_option maxHeartbeats 2000000 in
theorem implNaN2 (x : Int) (w : World) : Calls Tryz.prog 136 #[.int .i64 x] w fun e w' => e = .returned (.bool false) ∧ w = w' := by
  have e1 : (x != x) = false := by simp
  go_enter Tryz.func136, Tryz.ntmps136
  go_wp2_with fail
  go_ret
  exact ⟨ret_bool rfl, rfl⟩
set_option maxHeartbeats 2000000 in
theorem implLess (x y : Int) (w : World) : Calls Tryz.prog 135 #[.int .i64 x, .int .i64 y] w fun e w' => e = .returned (.bool (decide (x < y))) ∧ w = w' := by
  go_enter Tryz.func135, Tryz.ntmps135
  go_wp2_with fail
  refine (implNaN x _).mono ?_
  rintro e w1 ⟨rfl, rfl⟩
  go_wp2_with fail
  go_ret
  exact ⟨ret_bool rfl, rfl⟩
/-- What the binary search holds. -/
def BsRel (w : World) (n : Nat) (z : Int) (zs : List Int) (i j : Value) (wr : World) : Prop :=
  ∃ a b : Nat, a ≤ b ∧ b ≤ n ∧ i = .int .i64 a ∧ j = .int .i64 b ∧ Hid (∀ t x, t < a → zs[t]? = some x → x < z) ∧ Hid (∀ t x, b ≤ t → zs[t]? = some x → z ≤ x) ∧ w = wr
set_option maxRecDepth 100000 in
set_option maxHeartbeats 4000000 in
theorem implSearch (A : Option Addr) (n c B : Nat) (zs : List Int) (z : Int) (w : World) (hI : Ints .i64 w B A n zs) (hn : n ≤ 1099511627776) (hs : zs.Pairwise (· < ·)) :
    Calls Tryz.prog 106 #[.slice A n c, .int .i64 z] w fun e w' => (∃ i : Int, e = .returned (.tuple #[.int .i64 i, .bool (decide (z ∈ zs))])) ∧ w = w' := by
  have HZ := hide hI.len
  have HI := hide hI
  have HS := hide (fun (a b : Nat) (x y : Int) (hab : a < b) (ha : zs[a]? = some x) (hb : zs[b]? = some y) => (show x < y from by
    obtain ⟨h1, rfl⟩ := List.getElem?_eq_some_iff.1 ha
    obtain ⟨h2, rfl⟩ := List.getElem?_eq_some_iff.1 hb
    exact (List.pairwise_iff_getElem.1 hs) a b h1 h2 hab))
  clear hI hs
  go_enter Tryz.func106, Tryz.ntmps106
  go_wp2_with fail
  go_loopw [7, 8] (fun i j wr => BsRel w n z zs i j wr) (fun i j _ => (intOf j).toNat - (intOf i).toNat)
  case atStart => exact ⟨0, n, Nat.zero_le _, Nat.le_refl _, rfl, rfl, (fun t x ht => absurd ht (Nat.not_lt_zero t)), (fun t x ht hx => absurd (List.getElem?_eq_some_iff.1 hx).1 (by rw [HZ.out]; omega)), rfl⟩
  case round =>
    obtain ⟨a, b, hab, hbn, rfl, rfl, HA, HB, rfl⟩ := hrel
    by_cases hlt : a < b
    · have hw1 : IntKind.i64.wrap ((a : Int) + (b : Int)) = ((a + b : Nat) : Int) := by rw [IntWalk.i64_in _ ⟨by omega, by omega⟩]; omega
      obtain ⟨s, hsm⟩ : ∃ s, a + b = s := ⟨_, rfl⟩
      rw [hsm] at hw1
      obtain ⟨h, hh⟩ : ∃ h, s / 2 = h := ⟨_, rfl⟩
      have hh2 : (s : Int) / 2 = (h : Int) := by omega
      have hah : a ≤ h := by omega
      have hhb : h < b := by omega
      obtain ⟨rb, off, x, rfl, hb, hx, hc⟩ := HI.out.at_ (show h < n by omega)
      have HX := hide hx
      have hhn : h < n := by omega
      clear hh hx
      by_cases hxz : x < z
      · go_wp2_with fail
        refine (implLess x z _).mono ?_
        rintro e w1 ⟨rfl, rfl⟩
        go_wp2_with fail
        go_roundw
        case rel => exact ⟨h + 1, b, by omega, hbn, by go_num, rfl, (fun t y ht hy => by
          rcases Nat.lt_or_ge t h with h1 | h1
          · have := HS.out t h y x h1 hy HX.out; omega
          · obtain rfl : t = h := by omega
            have h2 := HX.out
            rw [hy] at h2; injection h2 with h2; omega), HB, rfl⟩
        case measure => simp [intOf]; omega
      · go_wp2_with fail
        refine (implLess x z _).mono ?_
        rintro e w1 ⟨rfl, rfl⟩
        go_wp2_with fail
        go_roundw
        case rel => exact ⟨a, h, hah, by omega, rfl, rfl, HA, (fun t y ht hy => by
          rcases Nat.lt_or_ge h t with h1 | h1
          · have := HS.out h t x y h1 HX.out hy; omega
          · obtain rfl : t = h := by omega
            have h2 := HX.out
            rw [hy] at h2; injection h2 with h2; omega), rfl⟩
        case measure => simp [intOf]; omega
    · obtain rfl : a = b := by omega
      by_cases han : a < n
      · obtain ⟨rb, off, x, rfl, hb, hx, hc⟩ := HI.out.at_ han
        have HX := hide hx
        clear hx
        by_cases hxz : x = z
        · have e1 : (x == z) = true := by simpa using hxz
          have HM := hide (show decide (z ∈ zs) = true from decide_eq_true (by rw [← hxz]; exact List.mem_iff_getElem?.2 ⟨a, HX.out⟩))
          clear hxz
          go_wp2_with fail
          go_ret2
          exact ⟨⟨a, by rw [HM.out]; rfl⟩, rfl⟩
        · have e1 : (x == z) = false := by simpa using hxz
          have HM := hide (show decide (z ∈ zs) = false from decide_eq_false (fun hm => by
            obtain ⟨t, ht⟩ := List.mem_iff_getElem?.1 hm
            rcases Nat.lt_or_ge t a with h1 | h1
            · have := HA.out t z h1 ht; omega
            · have h2 := HB.out a x (Nat.le_refl _) HX.out
              rcases Nat.lt_or_eq_of_le h1 with h3 | h3
              · have := HS.out a t x z h3 HX.out ht; omega
              · subst h3; have h4 := HX.out; rw [ht] at h4; injection h4 with h4; exact hxz h4.symm))
          clear hxz
          go_wp2_with fail
          refine (implNaN2 x _).mono ?_
          rintro e w1 ⟨rfl, rfl⟩
          go_wp2_with fail
          go_ret2
          exact ⟨⟨a, by rw [HM.out]; rfl⟩, rfl⟩
      · have HM := hide (show decide (z ∈ zs) = false from decide_eq_false (fun hm => by
          obtain ⟨t, ht⟩ := List.mem_iff_getElem?.1 hm
          have h1 := (List.getElem?_eq_some_iff.1 ht).1
          rw [HZ.out] at h1
          have := HA.out t z (by omega) ht; omega))
        go_wp2_with fail
        go_ret2
        exact ⟨⟨a, by rw [HM.out]; rfl⟩, rfl⟩
set_option maxHeartbeats 2000000 in
theorem implAmong (A : Option Addr) (n c B : Nat) (zs : List Int) (z : Int) (w : World) (hI : Ints .i64 w B A n zs) (hn : n ≤ 1099511627776) (hs : zs.Pairwise (· < ·)) :
    Calls Tryz.prog 74 #[.slice A n c, .int .i64 z] w fun e w' => e = .returned (.bool (decide (z ∈ zs))) ∧ w = w' := by
  have HB := hide (fun w' hI' => implSearch A n c B zs z w' hI' hn hs)
  have HI := hide hI
  clear hs hI
  obtain ⟨b, hb⟩ : ∃ b, decide (z ∈ zs) = b := ⟨_, rfl⟩
  rw [hb] at HB ⊢
  clear hb
  go_enter Tryz.func74, Tryz.ntmps74
  go_wp2_with fail
  refine (HB.out _ HI.out).mono ?_
  rintro e w1 ⟨⟨i, rfl⟩, rfl⟩
  go_wp2_with fail
  go_ret
  exact ⟨ret_bool rfl, rfl⟩
/-- What the loop of Max holds. -/
def MxRel (w : World) (n : Nat) (zs : List Int) (m i : Value) (wr : World) : Prop :=
  ∃ (j : Nat) (x : Int), 1 ≤ j ∧ j ≤ n ∧ i = .int .i64 j ∧ m = .int .i64 x ∧ Hid (∀ t y, t < j → zs[t]? = some y → y ≤ x) ∧ Hid (∃ t : Nat, zs[t]? = some x) ∧ w = wr
set_option maxRecDepth 100000 in
set_option maxHeartbeats 4000000 in
theorem implMax (A : Option Addr) (n c B : Nat) (zs : List Int) (w : World) (hI : Ints .i64 w B A n zs) (hn : n ≤ 1099511627776) (h1 : 1 ≤ n) :
    Calls Tryz.prog 75 #[.slice A n c] w fun e w' => (∃ x : Int, e = .returned (.int .i64 x) ∧ (∀ (t : Nat) y, zs[t]? = some y → y ≤ x) ∧ ∃ t : Nat, zs[t]? = some x) ∧ w = w' := by
  have HZ := hide hI.len
  have HI := hide hI
  obtain ⟨rb, off, x0, rfl, hb, hx, hc⟩ := hI.at_ (show 0 < n by omega)
  have HX := hide hx
  rw [Nat.add_zero] at hc
  clear hI hx
  go_enter Tryz.func75, Tryz.ntmps75
  go_wp2_with fail
  go_loopw [3, 4] (fun m i wr => MxRel w n zs m i wr) (fun _ i _ => n - (intOf i).toNat)
  case atStart => exact ⟨1, x0, Nat.le_refl _, h1, rfl, rfl, (fun t y ht hy => by
    obtain rfl : t = 0 := by omega
    have h2 := HX.out
    rw [hy] at h2; injection h2 with h2; omega), ⟨0, HX.out⟩, rfl⟩
  case round =>
    obtain ⟨j, x, hj1, hjn, rfl, rfl, HA, HE, rfl⟩ := hrel
    by_cases hlt : j < n
    · obtain ⟨rb', off', y, hA, hb', hy, hcy⟩ := HI.out.at_ hlt
      simp only [Option.some.injEq, Addr.mk.injEq] at hA
      obtain ⟨rfl, rfl, _⟩ := hA
      have HY := hide hy
      clear hy
      go_wp2_with fail
      go_roundw
      case rel =>
        refine ⟨j + 1, max x y, by omega, by omega, by go_num, rfl, (fun t u ht hu => ?_), ?_, rfl⟩
        · rcases Nat.lt_or_ge t j with h2 | h2
          · have := HA.out t u h2 hu; omega
          · obtain rfl : t = j := by omega
            have h3 := HY.out
            rw [hu] at h3; injection h3 with h3; omega
        · rcases Int.le_total x y with h2 | h2
          · exact ⟨j, by rw [show max x y = y by omega]; exact HY.out⟩
          · obtain ⟨t, ht⟩ := HE.out
            exact ⟨t, by rw [show max x y = x by omega]; exact ht⟩
      case measure => simp [intOf]; omega
    · obtain rfl : j = n := by omega
      go_wp2_with fail
      go_ret
      refine ⟨⟨x, ret_int rfl, fun t y hy => HA.out t y ?_ hy, HE.out⟩, rfl⟩
      have h2 := (List.getElem?_eq_some_iff.1 hy).1
      rw [HZ.out] at h2; exact h2
end Go.Proofs.YtlphodhecaagbaaGreat
