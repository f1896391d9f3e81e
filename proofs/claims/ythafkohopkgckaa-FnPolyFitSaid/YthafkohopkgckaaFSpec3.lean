/-
  The contracts of the model's FieldSize, FieldAdd, FieldNeg and FieldMul, and of what tells their errors.
  Condition: none.
-/
import Derived.Test.YthafkohopkgckaaFSpec2
import Derived.Deep.RegionHeld3
namespace Go.Proofs.Ythafkohopkgckaa
open Go.RowKit
set_option linter.unusedSimpArgs false
set_option linter.unusedVariables false

set_option maxHeartbeats 400000 in
theorem specFieldSize (p k g : Int) (w : World) :
    Calls Try.prog 24 #[.agg #[.int .i64 p, .int .i64 k, .int .i64 g]] w (Gives (.int .i64 (fsize p k g)) w) := by
  have HX := hide (Box.start w 25 p k g)
  rcases h : fieldB p k g with _ | _
  · have HF := hide (fsize_no h)
    have HB := hide h
    clear h
    go_enter Try.func24, Try.ntmps24
    go_wp2_with fail
    refine (specIsField p k g _).mono ?_
    rw [HB.out]
    rintro e w1 ⟨rfl, hb⟩
    have HX1 := hide (HX.out.next hb)
    clear hb
    go_wp2_with fail
    go_ret
    exact ⟨ret_int HF, HX1.out.2⟩
  · obtain ⟨q, mul, γ, hK, _⟩ := fieldB_open h
    have HF := hide (show fsize p k g = (q : Int) by rw [fsize, if_pos h, hK.size])
    have HB := hide h
    clear h
    go_enter Try.func24, Try.ntmps24
    go_wp2_with fail
    refine (specIsField p k g _).mono ?_
    rw [HB.out]
    rintro e w1 ⟨rfl, hb⟩
    have HX1 := hide (HX.out.next hb)
    obtain ⟨c0, c1, c2⟩ := HX1.out.cells
    clear hb
    go_wp2_with fail
    refine (specSize hK _).mono ?_
    rintro e w2 ⟨rfl, hb⟩
    have HX2 := hide (HX1.out.next hb)
    clear hb
    go_wp2_with fail
    go_ret
    exact ⟨ret_int HF, HX2.out.2⟩

theorem in_elB {q : Nat} {x : Int} : inR x 0 ((q : Int) - 1) = elB q x := by
  rw [inR, elB, decide_eq_decide]; omega

def IsRel (w : World) (p k g : Int) (q n : Nat) (zs : List Int) (i : Value) (wr : World) : Prop :=
  ∃ j : Nat, j ≤ n ∧ i = .int .i64 j ∧ Hid ((zs.take j).all (elB q) = true) ∧ Box w wr 25 p k g

set_option maxHeartbeats 2000000 in
theorem specIs {p k g : Int} {q : Nat} {mul : Nat → Nat → Nat} (hK : Kd p k g q mul) (A : Option Addr) (n c B : Nat) (zs : List Int) (w : World) (hI : Ints .i64 w B A n zs) (hB : B ≤ w.heap.size) (hn : n ≤ 1099511627776) :
    Calls Try.prog 83 #[.agg #[.int .i64 p, .int .i64 k, .int .i64 g], .slice A n c] w (Gives (.bool (zs.all (elB q))) w) := by
  have HX := hide (Box.start w 25 p k g)
  have HI := hide hI
  have hl := hide hI.len
  obtain ⟨hq3, hq⟩ := hK.big
  clear hI
  go_enter Try.func83, Try.ntmps83
  go_wp2_with fail
  go_loopw [5] (fun i wr => IsRel w p k g q n zs i wr) (fun i _ => n - (intOf i).toNat)
  case atStart => exact ⟨0, by omega, rfl, by simp [Hid], HX⟩
  case round =>
    clear HX
    obtain ⟨j, hj, rfl, HA, HX⟩ := hrel
    have HX := hide HX
    obtain ⟨c0, c1, c2⟩ := HX.out.cells
    by_cases hlt : j < n
    · obtain ⟨b, off, x, rfl, hb, hx, hc⟩ := (HI.out.below (HX.out.2.mono hB)).at_ hlt
      have hx' := hide hx
      clear hx
      have z1 : (j : Int) < (n : Int) := by omega
      have z0 : (0 : Int) ≤ (j : Int) := by omega
      have hb' : b < wr.heap.size := by have := HX.out.lt; omega
      have HC := hide hc
      rcases he : elB q x with _ | _
      · have HF := hide (show zs.all (elB q) = false from all_no hx' he)
        have HIn := hide (show inR x 0 ((q : Int) - 1) = false by rw [in_elB]; exact he)
        clear he
        go_wp2_with fail
        have hwr : IntKind.i64.wrap ((q : Int) - 1) = (q : Int) - 1 := IntWalk.i64_in _ (by omega)
        go_region_held3 (fun w' => w'.cell? ⟨b, off + j, none⟩ = some (.int .i64 x) ∧ w'.cell? ⟨w.heap.size, 0, none⟩ = some (.int .i64 p) ∧ w'.cell? ⟨w.heap.size, 1, none⟩ = some (.int .i64 k) ∧ w'.cell? ⟨w.heap.size, 2, none⟩ = some (.int .i64 g))
          (first
            | go_keep
            | exact ⟨HC2.out, HX2.out.cells.1, HX2.out.cells.2.1, HX2.out.cells.2.2⟩)
          (first
            | (go_at_call 63; refine (specSize hK _).mono ?_; rintro e w2 ⟨rfl, hb2⟩; have HX2 := hide (HX.out.drew.next hb2); have HC2 := hide ((hb2.cell (p := ⟨b, off + j, none⟩) hb').trans HC.out); clear hb2)
            | (go_at_call 95; refine (specIn_is x 0 ((q : Int) - 1) _ _ HIn).mono ?_; rintro e w3 ⟨rfl, rfl⟩))
        clear hwr
        go_wp2_with fail
        go_ret
        exact ⟨ret_bool HF, HX2.out.2⟩
      · have HN := hide (all_snoc HA.out hx' he)
        have HIn := hide (show inR x 0 ((q : Int) - 1) = true by rw [in_elB]; exact he)
        clear he
        go_wp2_with fail
        have hwr : IntKind.i64.wrap ((q : Int) - 1) = (q : Int) - 1 := IntWalk.i64_in _ (by omega)
        go_region_held3 (fun w' => w'.cell? ⟨b, off + j, none⟩ = some (.int .i64 x) ∧ w'.cell? ⟨w.heap.size, 0, none⟩ = some (.int .i64 p) ∧ w'.cell? ⟨w.heap.size, 1, none⟩ = some (.int .i64 k) ∧ w'.cell? ⟨w.heap.size, 2, none⟩ = some (.int .i64 g))
          (first
            | go_keep
            | exact ⟨HC2.out, HX2.out.cells.1, HX2.out.cells.2.1, HX2.out.cells.2.2⟩)
          (first
            | (go_at_call 63; refine (specSize hK _).mono ?_; rintro e w2 ⟨rfl, hb2⟩; have HX2 := hide (HX.out.drew.next hb2); have HC2 := hide ((hb2.cell (p := ⟨b, off + j, none⟩) hb').trans HC.out); clear hb2)
            | (go_at_call 95; refine (specIn_is x 0 ((q : Int) - 1) _ _ HIn).mono ?_; rintro e w3 ⟨rfl, rfl⟩))
        clear hwr
        go_wp2_with fail
        go_roundw
        case rel => exact ⟨j + 1, by omega, by go_num, HN, HX2⟩
        case measure => simp [intOf]; omega
    · have HF := hide (show zs.all (elB q) = true by
        have h1 := HA.out
        rw [List.take_of_length_le (by rw [hl.out]; omega)] at h1
        exact h1)
      go_wp2_with fail
      go_ret
      exact ⟨ret_bool HF, HX.out.2⟩

set_option maxHeartbeats 1000000 in
theorem specCode (p k g : Int) (A : Option Addr) (n c B : Nat) (zs : List Int) (w : World) (hI : Ints .i64 w B A n zs) (hB : B ≤ w.heap.size) (hn : n ≤ 1099511627776) :
    Calls Try.prog 60 #[.agg #[.int .i64 p, .int .i64 k, .int .i64 g], .slice A n c] w (Gives (.int .i64 (errC p k g zs)) w) := by
  have HX := hide (Box.start w 25 p k g)
  have HI := hide hI
  clear hI
  rcases h : fieldB p k g with _ | _
  · have HF := hide (errC_no (zs := zs) h)
    have HB := hide h
    clear h
    go_enter Try.func60, Try.ntmps60
    go_wp2_with fail
    refine (specIsField p k g _).mono ?_
    rw [HB.out]
    rintro e w1 ⟨rfl, hb⟩
    have HX1 := hide (HX.out.next hb)
    clear hb
    go_wp2_with fail
    go_ret
    exact ⟨ret_int HF, HX1.out.2⟩
  · obtain ⟨q, mul, γ, hK, _⟩ := fieldB_open h
    have HE := hide (errC_is (zs := zs) h hK)
    have HB := hide h
    clear h
    rcases ha : zs.all (elB q) with _ | _
    · have HF := hide (show errC p k g zs = 2 by rw [HE.out, ha]; rfl)
      have HA := hide ha
      clear ha
      go_enter Try.func60, Try.ntmps60
      go_wp2_with fail
      refine (specIsField p k g _).mono ?_
      rw [HB.out]
      rintro e w1 ⟨rfl, hb⟩
      have HX1 := hide (HX.out.next hb)
      obtain ⟨c0, c1, c2⟩ := HX1.out.cells
      clear hb
      go_wp2_with fail
      refine (specIs hK A n c B zs _ (HI.out.below (HX1.out.2.mono hB)) (Nat.le_trans hB (Nat.le_of_lt HX1.out.lt)) hn).mono ?_
      rw [HA.out]
      rintro e w2 ⟨rfl, hb⟩
      have HX2 := hide (HX1.out.next hb)
      clear hb
      go_wp2_with fail
      go_ret
      exact ⟨ret_int HF, HX2.out.2⟩
    · have HF := hide (show errC p k g zs = 0 by rw [HE.out, ha]; rfl)
      have HA := hide ha
      clear ha
      go_enter Try.func60, Try.ntmps60
      go_wp2_with fail
      refine (specIsField p k g _).mono ?_
      rw [HB.out]
      rintro e w1 ⟨rfl, hb⟩
      have HX1 := hide (HX.out.next hb)
      obtain ⟨c0, c1, c2⟩ := HX1.out.cells
      clear hb
      go_wp2_with fail
      refine (specIs hK A n c B zs _ (HI.out.below (HX1.out.2.mono hB)) (Nat.le_trans hB (Nat.le_of_lt HX1.out.lt)) hn).mono ?_
      rw [HA.out]
      rintro e w2 ⟨rfl, hb⟩
      have HX2 := hide (HX1.out.next hb)
      clear hb
      go_wp2_with fail
      go_ret
      exact ⟨ret_int HF, HX2.out.2⟩

set_option maxHeartbeats 1000000 in
theorem specAdd (p k g a b : Int) (w : World) :
    Calls Try.prog 21 #[.agg #[.int .i64 p, .int .i64 k, .int .i64 g], .int .i64 a, .int .i64 b] w (GivesII (fAdd p k g a b) (errC p k g [a, b]) w) := by
  have HXA := hide ((Box.start w 25 p k g).alloc (.cells #[.int .i64 a, .int .i64 b] 2))
  have HI := hide (box_two w (.cells #[.int .i64 p, .int .i64 k, .int .i64 g] 25) 2 .i64 a b)
  rcases err2 p k g a b with ⟨c, hc, hne, hne'⟩ | ⟨x, y, q, mul, hc, rfl, rfl, hx, hy, hK⟩
  · have HC := hide hc
    rw [fAdd_bad hc hne', hc]
    clear hc hne'
    go_enter Try.func21, Try.ntmps21
    go_wp2_with fail
    refine (specCode p k g (some ⟨w.heap.size + 1, 0, none⟩) 2 2 _ [a, b] _ HI.out (box_size _ _ _) (by omega)).mono ?_
    rw [HC.out]
    rintro e w1 ⟨rfl, hb⟩
    have HX1 := hide (HXA.out.next hb)
    clear hb
    go_wp2_with fail
    go_ret2
    exact ⟨rfl, HX1.out.2⟩
  · have HC := hide hc
    rw [fAdd_ok hc hK, hc]
    clear hc
    go_enter Try.func21, Try.ntmps21
    go_wp2_with fail
    refine (specCode p k g (some ⟨w.heap.size + 1, 0, none⟩) 2 2 _ [(x : Int), (y : Int)] _ HI.out (box_size _ _ _) (by omega)).mono ?_
    rw [HC.out]
    rintro e w1 ⟨rfl, hb⟩
    have HX1 := hide (HXA.out.next hb)
    obtain ⟨c0, c1, c2⟩ := HX1.out.cells
    clear hb
    go_wp2_with fail
    refine (specAdd0 hK x y hx hy _).mono ?_
    rintro e w2 ⟨rfl, hb⟩
    have HX2 := hide (HX1.out.next hb)
    clear hb
    go_wp2_with fail
    go_ret2
    exact ⟨rfl, HX2.out.2⟩

end Go.Proofs.Ythafkohopkgckaa
