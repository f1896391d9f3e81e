/-
  The contracts of the model's powers, inverses and logarithms.
  Condition: none beyond the kinds that each names.
-/
import Derived.Test.YtbenmgnigeefdaaFSpec3
import Derived.Test.YtbenmgnigeefdaaFImpl7
namespace Go.Proofs.Ytbenmgnigeefdaa
open Go.RowKit
set_option linter.unusedSimpArgs false
set_option linter.unusedVariables false

def SqRel (w : World) (p k g : Int) (q : Nat) (mul : Nat → Nat → Nat) (a n : Nat) (s i o : Value) (wr : World) : Prop :=
  ∃ x m y : Nat, x < q ∧ m ≤ n ∧ y < q ∧ s = .int .i64 x ∧ i = .int .i64 m ∧ o = .int .i64 y ∧ Hid (mul y (pw mul x m) = pw mul a n) ∧ Box w wr 25 p k g

set_option maxHeartbeats 1000000 in
theorem specPow0 {p k g : Int} {q : Nat} {mul : Nat → Nat → Nat} (h : Kd p k g q mul) (a n : Nat) (ha : a < q) (hn : n ≤ 1000000) (w : World) :
    Calls Try.prog 71 #[.agg #[.int .i64 p, .int .i64 k, .int .i64 g], .int .i64 a, .int .i64 n] w (Gives (.int .i64 (pw mul a n : Nat)) w) := by
  obtain ⟨hq3, hq⟩ := h.big
  have M := h.mon
  go_enter Try.func71, Try.ntmps71
  go_wp2_with fail
  go_loopw [1, 2, 7] (fun s i o wr => SqRel w p k g q mul a n s i o wr) (fun _ i _ _ => (intOf i).toNat)
  case atStart => exact ⟨a, n, 1, ha, Nat.le_refl _, by omega, rfl, rfl, rfl, M.one _ (pw_lt M ha n), Box.start w _ _ _ _⟩
  case round =>
    obtain ⟨x, m, y, hx, hm, hy, rfl, rfl, rfl, HR, HX⟩ := hrel
    have HX := hide HX
    obtain ⟨c0, c1, c2⟩ := HX.out.cells
    by_cases hm0 : m = 0
    · subst hm0
      have HF := hide (show ((pw mul a n : Nat) : Int) = (y : Int) by rw [← HR.out]; show ((mul y 1 : Nat) : Int) = _; rw [mul_one M hy])
      go_wp2_with fail
      go_ret
      exact ⟨ret_int HF, HX.out.2⟩
    · have hm1 : (0 : Int) < (m : Int) := by omega
      by_cases hp : m % 2 = 1
      · have e1 : ((m : Int) % 2 == 1) = true := by simp; omega
        have HN := hide (sq_odd M hy hx hp HR.out)
        clear hp
        go_wp2_with fail
        refine (specMul0 h y x hy hx _).mono ?_
        rintro e w1 ⟨rfl, hb⟩
        have HX1 := hide (HX.out.next hb)
        clear hb c0 c1 c2
        obtain ⟨c0, c1, c2⟩ := HX1.out.cells
        go_wp2_with fail
        refine (specMul0 h x x hx hx _).mono ?_
        rintro e w2 ⟨rfl, hb⟩
        have HX2 := hide (HX1.out.next hb)
        clear hb c0 c1 c2
        go_wp2_with fail
        go_roundw
        case rel => exact ⟨mul x x, m / 2, mul y x, M.clo _ _ hx hx, by omega, M.clo _ _ hy hx, rfl, by go_num, rfl, HN, HX2⟩
        case measure => simp [intOf]; omega
      · have e1 : ((m : Int) % 2 == 1) = false := by simp; omega
        have HN := hide (sq_even M hx (show m % 2 = 0 by omega) HR.out)
        clear hp
        go_wp2_with fail
        refine (specMul0 h x x hx hx _).mono ?_
        rintro e w2 ⟨rfl, hb⟩
        have HX2 := hide (HX.out.next hb)
        clear hb c0 c1 c2
        go_wp2_with fail
        go_roundw
        case rel => exact ⟨mul x x, m / 2, y, M.clo _ _ hx hx, by omega, hy, rfl, by go_num, rfl, HN, HX2⟩
        case measure => simp [intOf]; omega

set_option maxHeartbeats 1000000 in
theorem specInverse {p k g : Int} {q : Nat} {mul : Nat → Nat → Nat} (h : Kd p k g q mul) (a : Nat) (ha : a < q) (w : World) :
    Calls Try.prog 56 #[.agg #[.int .i64 p, .int .i64 k, .int .i64 g], .int .i64 a] w (Gives (.int .i64 (pw mul a (q - 2) : Nat)) w) := by
  obtain ⟨hq3, hq⟩ := h.big
  have HX := hide (Box.start w 25 p k g)
  go_enter Try.func56, Try.ntmps56
  go_wp2_with fail
  have hq1 : IntKind.i64.wrap ((q : Int) - 2) = ((q - 2 : Nat) : Int) := by
    rw [IntWalk.i64_in _ ⟨by omega, by omega⟩]; omega
  have hn : q - 2 ≤ 1000000 := by omega
  obtain ⟨m, hm⟩ : ∃ m : Nat, m = q - 2 := ⟨_, rfl⟩
  rw [← hm] at hq1 hn
  have HM := hide hm
  clear hm
  generalize hws : w.alloc (.cells #[.int .i64 p, .int .i64 k, .int .i64 g] 25) = ws at HX ⊢
  clear hws
  go_region_held3 (fun w' => w'.cell? ⟨w.heap.size, 0, none⟩ = some (.int .i64 p) ∧ w'.cell? ⟨w.heap.size, 1, none⟩ = some (.int .i64 k) ∧ w'.cell? ⟨w.heap.size, 2, none⟩ = some (.int .i64 g))
    (first
      | exact ⟨HX.out.drew.cells.1, HX.out.drew.cells.2.1, HX.out.drew.cells.2.2⟩
      | exact ⟨HX2.out.cells.1, HX2.out.cells.2.1, HX2.out.cells.2.2⟩
      | exact ⟨HX3.out.cells.1, HX3.out.cells.2.1, HX3.out.cells.2.2⟩)
    (first
      | (go_at_call 53; refine (specSize h _).mono ?_; rintro e w2 ⟨rfl, hb2⟩; have HX2 := hide (HX.out.drew.next hb2); clear hb2)
      | (go_at_call 71; refine (specPow0 h a m ha hn _).mono ?_; rintro e w3 ⟨rfl, hb3⟩; have HX3 := hide (HX2.out.next hb3); clear hb3))
  go_wp2_with fail
  go_ret
  exact ⟨ret_int (by rw [HM.out]), HX3.out.2⟩

set_option maxHeartbeats 1000000 in
theorem specInv (p k g a : Int) (w : World) :
    Calls Try.prog 26 #[.agg #[.int .i64 p, .int .i64 k, .int .i64 g], .int .i64 a] w (GivesII (fInv p k g a) (invC p k g a) w) := by
  have HXA := hide ((Box.start w 25 p k g).alloc (.cells #[.int .i64 a] 2))
  have HI := hide (box_one w (.cells #[.int .i64 p, .int .i64 k, .int .i64 g] 25) 2 .i64 a)
  rcases err1 p k g a with ⟨c, hc, hne, hne'⟩ | ⟨x, q, mul, γ, hc, rfl, hx, hK, _⟩
  · have HC := hide hc
    have hi := invC_bad hc hne'
    rw [fInv_bad hi hne', hi]
    clear hc hne' hi
    go_enter Try.func26, Try.ntmps26
    go_wp2_with fail
    refine (specCode p k g (some ⟨w.heap.size + 1, 0, none⟩) 1 1 _ [a] _ HI.out (box_size _ _ _) (by omega)).mono ?_
    rw [HC.out]
    rintro e w1 ⟨rfl, hb⟩
    have HX1 := hide (HXA.out.next hb)
    clear hb
    go_wp2_with fail
    go_ret2
    exact ⟨rfl, HX1.out.2⟩
  · have HC := hide hc
    by_cases hx0 : x = 0
    · subst hx0
      have hi : invC p k g ((0 : Nat) : Int) = 5 := invC_zero hc
      rw [fInv_bad hi (by decide), hi]
      clear hc hi
      go_enter Try.func26, Try.ntmps26
      go_wp2_with fail
      refine (specCode p k g (some ⟨w.heap.size + 1, 0, none⟩) 1 1 _ _ _ HI.out (box_size _ _ _) (by omega)).mono ?_
      rw [HC.out]
      rintro e w1 ⟨rfl, hb⟩
      have HX1 := hide (HXA.out.next hb)
      clear hb
      go_wp2_with fail
      go_ret2
      exact ⟨rfl, HX1.out.2⟩
    · have hi := invC_ok hc (show (x : Int) ≠ 0 by omega)
      rw [fInv_ok hi hK, hi]
      have e0 : ((x : Int) == 0) = false := by simp; omega
      clear hc hi hx0
      go_enter Try.func26, Try.ntmps26
      go_wp2_with fail
      refine (specCode p k g (some ⟨w.heap.size + 1, 0, none⟩) 1 1 _ _ _ HI.out (box_size _ _ _) (by omega)).mono ?_
      rw [HC.out]
      rintro e w1 ⟨rfl, hb⟩
      have HX1 := hide (HXA.out.next hb)
      obtain ⟨c0, c1, c2⟩ := HX1.out.cells
      clear hb
      go_wp2_with fail
      refine (specInverse hK x hx _).mono ?_
      rintro e w2 ⟨rfl, hb⟩
      have HX2 := hide (HX1.out.next hb)
      clear hb
      go_wp2_with fail
      go_ret2
      exact ⟨rfl, HX2.out.2⟩

set_option maxHeartbeats 1000000 in
theorem specPow (p k g a n : Int) (w : World) :
    Calls Try.prog 41 #[.agg #[.int .i64 p, .int .i64 k, .int .i64 g], .int .i64 a, .int .i64 n] w (GivesII (fPow p k g a n) (powC p k g a n) w) := by
  have HXA := hide ((Box.start w 25 p k g).alloc (.cells #[.int .i64 a] 2))
  have HI := hide (box_one w (.cells #[.int .i64 p, .int .i64 k, .int .i64 g] 25) 2 .i64 a)
  rcases err1 p k g a with ⟨c, hc, hne, hne'⟩ | ⟨x, q, mul, γ, hc, rfl, hx, hK, h1, h2, h3, h4, h5⟩
  · have HC := hide hc
    have hp := powC_bad (n := n) hc hne'
    have e0 : (c == 0) = false := by simpa using hne'
    rw [fPow_bad hp hne', hp]
    clear hc hne' hp
    go_enter Try.func41, Try.ntmps41
    go_wp2_with fail
    refine (specCode p k g (some ⟨w.heap.size + 1, 0, none⟩) 1 1 _ [a] _ HI.out (box_size _ _ _) (by omega)).mono ?_
    rw [HC.out]
    rintro e w1 ⟨rfl, hb⟩
    have HX1 := hide (HXA.out.next hb)
    clear hb
    go_wp2_with fail
    go_ret2
    exact ⟨rfl, HX1.out.2⟩
  · have HC := hide hc
    by_cases hn : 0 ≤ n ∧ n ≤ 1000000
    · obtain ⟨m, rfl⟩ : ∃ m : Nat, n = m := ⟨n.toNat, by omega⟩
      have hm : m ≤ 1000000 := by omega
      have hp := powC_ok hc hn
      rw [fPow_ok hp hK, hp]
      have HN := hide (inR_yes (x := (m : Int)) (lo := 0) (hi := 1000000) hn.1 hn.2)
      clear hc hp h3 h4 h5 hn
      go_enter Try.func41, Try.ntmps41
      go_wp2_with fail
      refine (specCode p k g (some ⟨w.heap.size + 1, 0, none⟩) 1 1 _ _ _ HI.out (box_size _ _ _) (by omega)).mono ?_
      rw [HC.out]
      rintro e w1 ⟨rfl, hb⟩
      have HX1 := hide (HXA.out.next hb)
      obtain ⟨c0, c1, c2⟩ := HX1.out.cells
      clear hb
      go_wp2_with fail
      refine (specIn_is _ 0 1000000 true _ HN).mono ?_
      rintro e w2 ⟨rfl, rfl⟩
      go_wp2_with fail
      refine (specPow0 hK x m hx hm _).mono ?_
      rintro e w2 ⟨rfl, hb⟩
      have HX2 := hide (HX1.out.next hb)
      clear hb
      go_wp2_with fail
      go_ret2
      exact ⟨rfl, HX2.out.2⟩
    · have hp := powC_out hc hn
      have HN := hide (inR_no (x := n) (lo := 0) (hi := 1000000) (by omega))
      rw [fPow_bad hp (by decide), hp]
      clear hc hp h3 h4 h5 hn
      go_enter Try.func41, Try.ntmps41
      go_wp2_with fail
      refine (specCode p k g (some ⟨w.heap.size + 1, 0, none⟩) 1 1 _ _ _ HI.out (box_size _ _ _) (by omega)).mono ?_
      rw [HC.out]
      rintro e w1 ⟨rfl, hb⟩
      have HX1 := hide (HXA.out.next hb)
      clear hb
      go_wp2_with fail
      refine (specIn_is _ 0 1000000 false _ HN).mono ?_
      rintro e w2 ⟨rfl, rfl⟩
      go_wp2_with fail
      go_ret2
      exact ⟨rfl, HX1.out.2⟩

def SLogRel (w : World) (p k g : Int) (q : Nat) (mul : Nat → Nat → Nat) (γ l : Nat) (s i : Value) (wr : World) : Prop :=
  ∃ j x : Nat, j ≤ l ∧ x < q ∧ s = .int .i64 j ∧ i = .int .i64 x ∧ Hid (x = pw mul γ j) ∧ Box w wr 25 p k g

set_option maxHeartbeats 2000000 in
theorem specLog (p k g a : Int) (w : World) :
    Calls Try.prog 42 #[.agg #[.int .i64 p, .int .i64 k, .int .i64 g], .int .i64 a] w (GivesII (fLog p k g a) (invC p k g a) w) := by
  have HXA := hide ((Box.start w 25 p k g).alloc (.cells #[.int .i64 a] 2))
  have HI := hide (box_one w (.cells #[.int .i64 p, .int .i64 k, .int .i64 g] 25) 2 .i64 a)
  rcases err1 p k g a with ⟨c, hc, hne, hne'⟩ | ⟨x, q, mul, γ, hc, rfl, hx, hK, h1, h2, h3, h4, h5⟩
  · have HC := hide hc
    have hi := invC_bad hc hne'
    rw [fLog_bad hi hne', hi]
    clear hc hne' hi
    go_enter Try.func42, Try.ntmps42
    go_wp2_with fail
    refine (specCode p k g (some ⟨w.heap.size + 1, 0, none⟩) 1 1 _ [a] _ HI.out (box_size _ _ _) (by omega)).mono ?_
    rw [HC.out]
    rintro e w1 ⟨rfl, hb⟩
    have HX1 := hide (HXA.out.next hb)
    clear hb
    go_wp2_with fail
    go_ret2
    exact ⟨rfl, HX1.out.2⟩
  · have HC := hide hc
    by_cases hx0 : x = 0
    · subst hx0
      have hi : invC p k g ((0 : Nat) : Int) = 5 := invC_zero hc
      rw [fLog_bad hi (by decide), hi]
      clear hc hi h3 h4 h5
      go_enter Try.func42, Try.ntmps42
      go_wp2_with fail
      refine (specCode p k g (some ⟨w.heap.size + 1, 0, none⟩) 1 1 _ _ _ HI.out (box_size _ _ _) (by omega)).mono ?_
      rw [HC.out]
      rintro e w1 ⟨rfl, hb⟩
      have HX1 := hide (HXA.out.next hb)
      clear hb
      go_wp2_with fail
      go_ret2
      exact ⟨rfl, HX1.out.2⟩
    · have hi := invC_ok hc (show (x : Int) ≠ 0 by omega)
      have M := hK.mon
      obtain ⟨hq3, hq⟩ := hK.big
      obtain ⟨l, hl, hla⟩ := log_exists M h2 h3 hx hx0
      rw [fLog_ok hi hK h4, hi, logF_is M h2 h3 hl hla]
      have HLA := hide hla
      have H3 := hide h3
      have H5 := hide h5
      have e0 : ((x : Int) == 0) = false := by simp; omega
      clear hc hi hx0 hla h3 h4 h5
      go_enter Try.func42, Try.ntmps42
      go_wp2_with fail
      refine (specCode p k g (some ⟨w.heap.size + 1, 0, none⟩) 1 1 _ _ _ HI.out (box_size _ _ _) (by omega)).mono ?_
      rw [HC.out]
      rintro e w1 ⟨rfl, hb⟩
      have HX1 := hide (HXA.out.next hb)
      clear hb
      go_wp2_with fail
      go_loopw [7, 8] (fun s i wr => SLogRel w p k g q mul γ l s i wr) (fun s _ _ => l - (intOf s).toNat)
      case atStart => exact ⟨0, 1, by omega, by omega, rfl, rfl, rfl, HX1⟩
      case round =>
        clear HX1 HXA HI
        obtain ⟨j, y, hj, hy, rfl, rfl, HY, HX⟩ := hrel
        have HX := hide HX
        obtain ⟨c0, c1, c2⟩ := HX.out.cells
        by_cases hjl : j = l
        · subst hjl
          obtain rfl : y = x := by rw [HY.out, HLA.out]
          go_wp2_with fail
          go_ret2
          exact ⟨rfl, HX.out.2⟩
        · have hne : y ≠ x := by rw [HY.out, ← HLA.out]; exact gen_inj M h2 H3.out (by omega) hl (by omega)
          have e1 : ((y : Int) != (x : Int)) = true := by simp; omega
          clear hne
          go_wp2_with fail
          have HD := hide HX.out.drew
          go_region_held3 (fun w' => w'.cell? ⟨w.heap.size, 0, none⟩ = some (.int .i64 p) ∧ w'.cell? ⟨w.heap.size, 1, none⟩ = some (.int .i64 k) ∧ w'.cell? ⟨w.heap.size, 2, none⟩ = some (.int .i64 g))
            (first
              | exact ⟨HD.out.cells.1, HD.out.cells.2.1, HD.out.cells.2.2⟩
              | exact ⟨HX2.out.cells.1, HX2.out.cells.2.1, HX2.out.cells.2.2⟩
              | exact ⟨HX3.out.cells.1, HX3.out.cells.2.1, HX3.out.cells.2.2⟩)
            (first
              | (go_at_call 72; refine (specGenerator H5.out _).mono ?_; rintro e w2 ⟨rfl, hb2⟩; have HX2 := hide (HD.out.next hb2); clear hb2)
              | (go_at_call 46; refine (specMul0 hK y γ hy h2 _).mono ?_; rintro e w3 ⟨rfl, hb3⟩; have HX3 := hide (HX2.out.next hb3); clear hb3))
          go_wp2_with fail
          go_roundw
          case rel => exact ⟨j + 1, mul y γ, by omega, M.clo _ _ hy h2, by go_num, rfl, by show _ = mul (pw mul γ j) γ; rw [← HY.out], HX3⟩
          case measure => simp [intOf]; omega
end Go.Proofs.Ytbenmgnigeefdaa
