/-
  The contracts of the program's IsField, FieldSize, FieldAdd, FieldNeg, FieldMul and what tells their errors.
  Condition: none.
-/
import Derived.Test.YthafkohopkgckaaFImpl3
import Derived.Test.YthafkohopkgckaaFErr
namespace Go.Proofs.Ythafkohopkgckaa
open Go.RowKit
set_option linter.unusedSimpArgs false

def ElRel (w : World) (p k g : Int) (q n : Nat) (zs : List Int) (i : Value) (wr : World) : Prop :=
  ∃ j : Nat, j ≤ n ∧ i = .int .i64 j ∧ Hid ((zs.take j).all (elB q) = true) ∧ Box w wr 25 p k g

set_option maxHeartbeats 1000000 in
theorem implElem (p k g : Int) (A : Option Addr) (n c B : Nat) (zs : List Int) (w : World) (hI : Ints .i64 w B A n zs) (hB : B ≤ w.heap.size) (hn : n ≤ 1099511627776) :
    Calls Try.prog 58 #[.agg #[.int .i64 p, .int .i64 k, .int .i64 g], .slice A n c] w (Gives (.int .i64 (errC p k g zs)) w) := by
  have HX := hide (Box.start w 25 p k g)
  have HI := hide hI
  have hl := hide hI.len
  clear hI
  rcases h : fieldB p k g with _ | _
  · have HF := hide (errC_no (zs := zs) h)
    have HB := hide h
    clear h
    go_enter Try.func58, Try.ntmps58
    go_wp2_with fail
    refine (implValid p k g _).mono ?_
    rw [HB.out]
    rintro e w1 ⟨rfl, hb⟩
    have HX1 := hide (HX.out.next hb)
    clear hb
    go_wp2_with fail
    go_ret
    exact ⟨ret_int HF, HX1.out.2⟩
  · obtain ⟨q, mul, γ, hK, _⟩ := fieldB_open h
    have HE := hide (errC_is (zs := zs) h hK)
    have HB := hide h
    clear h
    go_enter Try.func58, Try.ntmps58
    go_wp2_with fail
    refine (implValid p k g _).mono ?_
    rw [HB.out]
    rintro e w1 ⟨rfl, hb⟩
    have HX1 := hide (HX.out.next hb)
    clear hb
    go_wp2_with fail
    go_loopw [12] (fun i wr => ElRel w p k g q n zs i wr) (fun i _ => n - (intOf i).toNat)
    case atStart => exact ⟨0, by omega, rfl, by simp [Hid], HX1⟩
    case round =>
      clear HX1
      obtain ⟨j, hj, rfl, HA, HX⟩ := hrel
      have HX := hide HX
      obtain ⟨c0, c1, c2⟩ := HX.out.cells
      by_cases hlt : j < n
      · obtain ⟨b, off, x, rfl, hb, hx, hc⟩ := (HI.out.below (HX.out.2.mono hB)).at_ hlt
        have hx' := hide hx
        clear hx
        rcases he : elB q x with _ | _
        · have HF := hide (show errC p k g zs = 2 by rw [HE.out, all_no hx' he]; rfl)
          have he' : decide (0 ≤ x ∧ x < (q : Int)) = false := he
          go_wp2_with fail
          refine (implHas hK x _).mono ?_
          rw [he']
          clear he he'
          rintro e w2 ⟨rfl, hb2⟩
          have HX2 := hide (HX.out.next hb2)
          clear hb2
          go_wp2_with fail
          go_ret
          exact ⟨ret_int HF, HX2.out.2⟩
        · have HN := hide (all_snoc HA.out hx' he)
          have he' : decide (0 ≤ x ∧ x < (q : Int)) = true := he
          go_wp2_with fail
          refine (implHas hK x _).mono ?_
          rw [he']
          clear he he'
          rintro e w2 ⟨rfl, hb2⟩
          have HX2 := hide (HX.out.next hb2)
          clear hb2
          go_wp2_with fail
          go_roundw
          case rel => exact ⟨j + 1, by omega, by go_num, HN, HX2⟩
          case measure => simp [intOf]; omega
      · have HF := hide (show errC p k g zs = 0 by
          have h1 := HA.out
          rw [List.take_of_length_le (by rw [hl.out]; omega)] at h1
          rw [HE.out, h1]; rfl)
        go_wp2_with fail
        go_ret
        exact ⟨ret_int HF, HX.out.2⟩

set_option maxHeartbeats 400000 in
theorem implSum {p k g : Int} {q : Nat} {mul : Nat → Nat → Nat} (h : Kd p k g q mul) (a b : Nat) (ha : a < q) (hb : b < q) (w : World) :
    Calls Try.prog 59 #[.agg #[.int .i64 p, .int .i64 k, .int .i64 g], .int .i64 a, .int .i64 b] w (Gives (.int .i64 (addF p q a b : Nat)) w) := by
  have HQ := hide h.big
  cases h with
  | one _ _ h3 h =>
    have HX := hide (Box.start w 25 q 1 g)
    have e2 : ((q : Int) == 2) = false := by simp; omega
    go_enter Try.func59, Try.ntmps59
    go_wp2_with fail
    go_ret
    exact ⟨ret_int (by rw [addF, if_neg (by omega)]; simp), HX.out.2⟩
  | two K G h3 h8 hG hG2 =>
    have HX := hide (Box.start w 25 2 K G)
    have HS := hide (pow_small h3 h8)
    have HV := hide (show ((addF 2 (2 ^ K) a b : Nat) : Int) = bits .xor .i64 (a : Int) (b : Int) by
      have := HS.out
      rw [i64xor _ _ (by omega) (by omega), addF, if_pos rfl])
    go_enter Try.func59, Try.ntmps59
    go_wp2_with fail
    go_ret
    exact ⟨ret_int HV, HX.out.2⟩

set_option maxHeartbeats 400000 in
theorem implNegative {p k g : Int} {q : Nat} {mul : Nat → Nat → Nat} (h : Kd p k g q mul) (a : Nat) (ha : a < q) (w : World) :
    Calls Try.prog 103 #[.agg #[.int .i64 p, .int .i64 k, .int .i64 g], .int .i64 a] w (Gives (.int .i64 (negF p q a : Nat)) w) := by
  have HQ := hide h.big
  cases h with
  | one _ _ h3 h =>
    have HX := hide (Box.start w 25 q 1 g)
    have e2 : ((q : Int) == 2) = false := by simp; omega
    go_enter Try.func103, Try.ntmps103
    go_wp2_with fail
    go_ret
    exact ⟨ret_int (negF_1 (by omega) ha), HX.out.2⟩
  | two K G h3 h8 hG hG2 =>
    have HX := hide (Box.start w 25 2 K G)
    go_enter Try.func103, Try.ntmps103
    go_wp2_with fail
    go_ret
    exact ⟨ret_int (by rw [negF, if_pos rfl]), HX.out.2⟩
end Go.Proofs.Ythafkohopkgckaa
