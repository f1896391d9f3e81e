/-
  The code of a field and a sequence, of the program and of the model.
  Condition: lists shorter than 2^20.
-/
import Derived.Test.YtdniocdmncldjaaRShort
import Derived.Test.YtdniocdmncldjaaJK
namespace Go.Proofs.Ytdniocdmncldjaa
open Go.RowKit
set_option linter.unusedSimpArgs false
set_option linter.unusedVariables false

/-- The code of a field and a sequence. -/
def sqErr (p k g : Int) (z : List Int) : Int := if fieldB p k g = true then (if z.length ≤ 64 ∧ z.all (elB (sizeI p k).toNat) = true then 0 else 2) else 1
theorem sqErr_no {p k g : Int} {z : List Int} (h : fieldB p k g = false) : sqErr p k g z = 1 := by rw [sqErr, h]; rfl
theorem sqErr_is {p k g : Int} {q : Nat} {mul : Nat → Nat → Nat} {z : List Int} (h : fieldB p k g = true) (hK : Kd p k g q mul) : sqErr p k g z = if z.length ≤ 64 ∧ z.all (elB q) = true then 0 else 2 := by
  rw [sqErr, if_pos h, hK.size, Int.toNat_natCast]
/-- A code of a field and a sequence: an error, or it is a sequence. -/
theorem sqErr_cases (p k g : Int) (z : List Int) : (∃ c : Int, sqErr p k g z = c ∧ (c != 0) = true ∧ c ≠ 0) ∨ (sqErr p k g z = 0 ∧ fieldB p k g = true ∧ ∃ (R : Fld) (s : List (El R)), FldIs R p k g ∧ z = iv s ∧ s.length ≤ 64) := by
  rcases h : fieldB p k g with _ | _
  · exact .inl ⟨1, sqErr_no h, rfl, by decide⟩
  · obtain ⟨R, hR⟩ := fld_ex h
    have e := sqErr_is (z := z) h hR.kind
    by_cases hh : z.length ≤ 64 ∧ z.all (elB R.q) = true
    · rw [if_pos hh] at e
      obtain ⟨s, rfl⟩ := iv_of hh.2
      exact .inr ⟨e, rfl, R, s, hR, rfl, by rw [iv_len] at hh; exact hh.1⟩
    · rw [if_neg hh] at e
      exact .inl ⟨2, e, rfl, by decide⟩
theorem sqErr_ok {R : Fld} {p k g : Int} (h : FldIs R p k g) (hf : fieldB p k g = true) {s : List (El R)} (hs : s.length ≤ 64) : sqErr p k g (iv s) = 0 := by
  rw [sqErr_is hf h.kind, if_pos ⟨by rw [iv_len]; exact hs, iv_all s⟩]

set_option maxHeartbeats 1000000 in
theorem implSqErr (p k g : Int) (A : Option Addr) (n c B : Nat) (z : List Int) (w : World) (hI : Ints .i64 w B A n z) (hB : B ≤ w.heap.size) (hn : n ≤ 1099511627776) :
    Calls Try.prog 34 #[.agg #[.int .i64 p, .int .i64 k, .int .i64 g], .slice A n c] w (Gives (.int .i64 (sqErr p k g z)) w) := by
  have HX := hide (Box.start w 25 p k g)
  have hl := hI.len
  have HI := hide hI
  clear hI
  rcases h : fieldB p k g with _ | _
  · have HF := hide (sqErr_no (z := z) h)
    have HB := hide h
    clear h
    go_enter Try.func34, Try.ntmps34
    go_wp2_with fail
    refine (implValid p k g _).mono ?_
    rw [HB.out]
    rintro e w1 ⟨rfl, hb⟩
    have HX1 := hide (HX.out.next hb)
    clear hb
    go_wp2_with fail
    go_ret
    exact ⟨ret_int HF, HX1.out.2⟩
  · obtain ⟨q, mul, γ, hK, _⟩ := fieldB_open h
    have HE := hide (sqErr_is (z := z) h hK)
    have HB := hide h
    clear h
    by_cases h64 : n ≤ 64
    · have h64' : decide ((64 : Int) < (n : Int)) = false := by rw [decide_eq_false_iff_not]; omega
      have HF := hide (show sqErr p k g z = if z.all (elB q) = true then 0 else 2 by rw [HE.out]; simp [hl, h64])
      obtain ⟨b, hb⟩ : ∃ b, z.all (elB q) = b := ⟨_, rfl⟩
      rw [hb] at HF
      have HBB := hide hb
      clear hb hl
      go_enter Try.func34, Try.ntmps34
      go_wp2_with fail
      refine (implValid p k g _).mono ?_
      rw [HB.out]
      rintro e w1 ⟨rfl, hb⟩
      have HX1 := hide (HX.out.next hb)
      obtain ⟨c0, c1, c2⟩ := HX1.out.cells
      clear hb
      go_wp2_with fail
      refine (implHasAll hK A n c B z _ (HI.out.below (HX1.out.2.mono hB)) (Nat.le_trans hB (Nat.le_of_lt HX1.out.lt)) hn).mono ?_
      rw [HBB.out]
      rintro e w2 ⟨rfl, hb⟩
      have HX2 := hide (HX1.out.next hb)
      clear hb c0 c1 c2
      rcases b with _ | _
      · go_wp2_with fail
        go_ret
        exact ⟨ret_int HF.out, HX2.out.2⟩
      · go_wp2_with fail
        go_ret
        exact ⟨ret_int HF.out, HX2.out.2⟩
    · have h64' : decide ((64 : Int) < (n : Int)) = true := by rw [decide_eq_true_eq]; omega
      have HF := hide (show sqErr p k g z = 2 by rw [HE.out, if_neg]; rintro ⟨h1, _⟩; omega)
      clear hl
      go_enter Try.func34, Try.ntmps34
      go_wp2_with fail
      refine (implValid p k g _).mono ?_
      rw [HB.out]
      rintro e w1 ⟨rfl, hb⟩
      have HX1 := hide (HX.out.next hb)
      obtain ⟨c0, c1, c2⟩ := HX1.out.cells
      clear hb
      go_wp2_with fail
      go_ret
      exact ⟨ret_int HF.out, HX1.out.2⟩

set_option maxHeartbeats 1000000 in
theorem specL6Is {p k g : Int} {q : Nat} {mul : Nat → Nat → Nat} (hK : Kd p k g q mul) (A : Option Addr) (n c B : Nat) (z : List Int) (w : World) (hI : Ints .i64 w B A n z) (hB : B ≤ w.heap.size) (hn : n ≤ 1099511627776) :
    Calls Try.prog 63 #[.agg #[.int .i64 p, .int .i64 k, .int .i64 g], .slice A n c] w (Gives (.bool (decide (z.length ≤ 64 ∧ z.all (elB q) = true))) w) := by
  have HX := hide (Box.start w 25 p k g)
  have hl := hI.len
  have HI := hide hI
  clear hI
  by_cases h64 : n ≤ 64
  · have h64' : decide ((n : Int) ≤ 64) = true := by rw [decide_eq_true_eq]; omega
    have HF := hide (show decide (z.length ≤ 64 ∧ z.all (elB q) = true) = z.all (elB q) by rw [Bool.eq_iff_iff, decide_eq_true_eq]; exact ⟨fun h => h.2, fun h => ⟨by omega, h⟩⟩)
    obtain ⟨b, hb⟩ : ∃ b, z.all (elB q) = b := ⟨_, rfl⟩
    have HBB := hide hb
    rw [HF.out, hb]
    have HIa := hide (HI.out.below (HX.out.2.mono hB))
    obtain ⟨c0, c1, c2⟩ := HX.out.cells
    clear hb hl HF
    go_enter Try.func63, Try.ntmps63
    go_wp2_with fail
    refine (specIs hK A n c B z _ HIa.out (by rw [alloc_size]; omega) hn).mono ?_
    rw [HBB.out]
    rintro e w2 ⟨rfl, hb⟩
    have HX2 := hide (HX.out.next hb)
    clear hb c0 c1 c2
    go_wp2_with fail
    go_ret
    exact ⟨rfl, HX2.out.2⟩
  · have h64' : decide ((n : Int) ≤ 64) = false := by rw [decide_eq_false_iff_not]; omega
    have HF := hide (show decide (z.length ≤ 64 ∧ z.all (elB q) = true) = false by rw [decide_eq_false_iff_not]; rintro ⟨h1, _⟩; omega)
    rw [HF.out]
    clear hl
    go_enter Try.func63, Try.ntmps63
    go_wp2_with fail
    go_ret
    exact ⟨rfl, HX.out.2⟩

set_option maxHeartbeats 1000000 in
theorem specSqErr (p k g : Int) (A : Option Addr) (n c B : Nat) (z : List Int) (w : World) (hI : Ints .i64 w B A n z) (hB : B ≤ w.heap.size) (hn : n ≤ 1099511627776) :
    Calls Try.prog 37 #[.agg #[.int .i64 p, .int .i64 k, .int .i64 g], .slice A n c] w (Gives (.int .i64 (sqErr p k g z)) w) := by
  have HX := hide (Box.start w 25 p k g)
  have HI := hide hI
  clear hI
  rcases h : fieldB p k g with _ | _
  · have HF := hide (sqErr_no (z := z) h)
    have HB := hide h
    clear h
    go_enter Try.func37, Try.ntmps37
    go_wp2_with fail
    refine (specIsField p k g _).mono ?_
    rw [HB.out]
    rintro e w1 ⟨rfl, hb⟩
    have HX1 := hide (HX.out.next hb)
    clear hb
    go_wp2_with fail
    go_ret
    exact ⟨ret_int HF, HX1.out.2⟩
  · obtain ⟨q, mul, γ, hK, _⟩ := fieldB_open h
    have HE := hide (sqErr_is (z := z) h hK)
    have HB := hide h
    obtain ⟨b, hb⟩ : ∃ b, decide (z.length ≤ 64 ∧ z.all (elB q) = true) = b := ⟨_, rfl⟩
    have HBB := hide hb
    clear h hb
    go_enter Try.func37, Try.ntmps37
    go_wp2_with fail
    refine (specIsField p k g _).mono ?_
    rw [HB.out]
    rintro e w1 ⟨rfl, hb⟩
    have HX1 := hide (HX.out.next hb)
    obtain ⟨c0, c1, c2⟩ := HX1.out.cells
    clear hb
    go_wp2_with fail
    refine (specL6Is hK A n c B z _ (HI.out.below (HX1.out.2.mono hB)) (Nat.le_trans hB (Nat.le_of_lt HX1.out.lt)) hn).mono ?_
    rw [HBB.out]
    rintro e w2 ⟨rfl, hb⟩
    have HX2 := hide (HX1.out.next hb)
    clear hb c0 c1 c2
    rcases b with _ | _
    · have HF := hide (show sqErr p k g z = 2 by rw [HE.out, if_neg]; have := HBB.out; rwa [decide_eq_false_iff_not] at this)
      go_wp2_with fail
      go_ret
      exact ⟨ret_int HF.out, HX2.out.2⟩
    · have HF := hide (show sqErr p k g z = 0 by rw [HE.out, if_pos]; have := HBB.out; rwa [decide_eq_true_eq] at this)
      go_wp2_with fail
      go_ret
      exact ⟨ret_int HF.out, HX2.out.2⟩
end Go.Proofs.Ytdniocdmncldjaa
