/-
  The contracts of NumberAt and what it calls, of the program and of the model.
  Condition: the slices are shorter than 2^40.
-/
import Derived.Test.YtfjagcalfnjddaaAppend
namespace Go.Proofs.Ytfjagcalfnjddaa
open Go.RowKit

theorem take_num {zs : List Int} {k : Nat} {x s : Int} (h : numVal (zs.take k) = s) (hx : zs[k]? = some x) : numVal (zs.take (k + 1)) = 2 * s + x := by
  rw [take_snocI hx, numVal_snoc, h]
theorem take_small {zs : List Int} {k : Nat} (hk : k ≤ 32) (hb : ∀ x ∈ zs, x = 0 ∨ x = 1) : 0 ≤ numVal (zs.take k) ∧ numVal (zs.take k) ≤ 4294967295 :=
  numVal_small (by rw [List.length_take]; omega) (fun x hx => hb x (List.mem_of_mem_take hx))

set_option maxHeartbeats 400000 in
theorem implNumberOf (A : Option Addr) (n c B : Nat) (zs : List Int) (w : World) (hI : Ints .i64 w B A n zs) (hn : n ≤ 32) (hb : ∀ x ∈ zs, x = 0 ∨ x = 1) :
    Calls Try.prog 50 #[.slice A n c] w fun e w' => e = .returned (.int .i64 (numVal zs)) ∧ w = w' := by
  have HI := hide hI
  have hl := hide hI.len
  have HB := hide hb
  clear hI hb
  go_enter Try.func50, Try.ntmps50
  go_wp2
  go_loop [3, 8] (fun t i => ∃ k : Nat, k ≤ n ∧ i = .int .i64 k ∧ ∃ s : Int, t = .int .i64 s ∧ Hid (numVal (zs.take k) = s)) (fun _ i => n - (intOf i).toNat)
  case atStart => exact ⟨0, by omega, rfl, 0, rfl, by simp [Hid, numVal]⟩
  case round =>
    obtain ⟨k, hk, rfl, s, rfl, HS⟩ := hrel
    have hs := take_small (k := k) (by omega) HB.out
    rw [HS.out] at hs
    obtain ⟨hs0, hs1⟩ := hs
    by_cases hlt : k < n
    · obtain ⟨b, off, x, rfl, hb, hx, hc⟩ := HI.out.at_ hlt
      have hor := orBit s x hs0 (by omega) (HB.out x (List.mem_of_getElem? hx))
      have HN := hide (take_num HS hx)
      clear hx
      generalize 2 * s + x = y at hor HN
      go_wp2
      go_round
      case rel => exact ⟨k + 1, by omega, by go_num, y, rfl, HN⟩
      case measure => simp [intOf]; omega
    · have HF := hide (show numVal zs = s by
        have := HS.out
        rw [List.take_of_length_le (by rw [hl.out]; omega)] at this
        exact this)
      go_wp2
      go_ret
      exact ⟨ret_int HF.out, rfl⟩

set_option maxHeartbeats 400000 in
theorem specNumber (A : Option Addr) (n c B lo wd : Nat) (zs : List Int) (w : World) (hI : Ints .i64 w B A n zs) (hn : n ≤ 1099511627776) (hwd : wd ≤ 32) (hlo : lo + wd ≤ n) (hb : ∀ x ∈ zs, x = 0 ∨ x = 1) :
    Calls Try.prog 58 #[.slice A n c, .int .i64 (lo : Int), .int .i64 (wd : Int)] w fun e w' => e = .returned (.int .i64 (numVal ((zs.drop lo).take wd))) ∧ w = w' := by
  have HI := hide hI
  have hl := hide hI.len
  have HB := hide (show ∀ x ∈ zs.drop lo, x = 0 ∨ x = 1 from fun x hx => hb x (List.mem_of_mem_drop hx))
  clear hI hb
  go_enter Try.func58, Try.ntmps58
  go_wp2
  go_loop [7, 8] (fun t i => ∃ k : Nat, k ≤ wd ∧ i = .int .i64 k ∧ ∃ s : Int, t = .int .i64 s ∧ Hid (numVal ((zs.drop lo).take k) = s)) (fun _ i => wd - (intOf i).toNat)
  case atStart => exact ⟨0, by omega, rfl, 0, rfl, by simp [Hid, numVal]⟩
  case round =>
    obtain ⟨k, hk, rfl, s, rfl, HS⟩ := hrel
    have hs := take_small (k := k) (by omega) HB.out
    rw [HS.out] at hs
    obtain ⟨hs0, hs1⟩ := hs
    by_cases hlt : k < wd
    · obtain ⟨b, off, x, rfl, hb, hx, hc⟩ := HI.out.at_ (j := lo + k) (by omega)
      have hx' : (zs.drop lo)[k]? = some x := by rw [List.getElem?_drop]; exact hx
      have hx01 := HB.out x (List.mem_of_getElem? hx')
      have HN := hide (take_num HS hx')
      clear hx hx'
      have hx0 : 0 ≤ x := by omega
      have hx1 : x ≤ 1 := by omega
      clear hx01
      go_wp2
      go_round
      case rel => exact ⟨k + 1, by omega, by go_num, _, rfl, HN⟩
      case measure => simp [intOf]; omega
    · have HF := hide (show numVal ((zs.drop lo).take wd) = s by
        have := HS.out
        rw [show k = wd by omega] at this
        exact this)
      go_wp2
      go_ret
      exact ⟨ret_int HF.out, rfl⟩

set_option maxHeartbeats 1000000 in
theorem implNumber (A : Option Addr) (n c B : Nat) (zs : List Int) (a wd : Int) (w : World) (hI : Ints .i64 w B A n zs) (hn : n ≤ 1099511627776) (hc : n ≤ c) (hcm : c ≤ 9223372036854775807) :
    Calls Try.prog 20 #[.slice A n c, .int .i64 a, .int .i64 wd] w (Gives2 (numOf zs a wd) (numCode zs a wd) w) := by
  have hl := hide hI.len
  have HI := hide hI
  clear hI
  rcases hb : isBits zs with _ | _
  · have HB := hide hb
    have HR := hide (num_bad hb a wd)
    clear hb
    rw [HR.out, numOf_bad HR (by decide)]
    go_enter Try.func20, Try.ntmps20
    go_wp2_with fail
    refine (implIsBits_no A n c B zs w HI hn HB).mono ?_
    rintro e w ⟨rfl, rfl⟩
    go_wp2_with fail
    go_ret2
    exact ⟨rfl, Below.refl _ _⟩
  · have HB := hide hb
    rcases hw : inR wd 0 32 with _ | _
    · have HW := hide hw
      have HR := hide (num_wide hb a hw)
      clear hb hw
      rw [HR.out, numOf_bad HR (by decide)]
      go_enter Try.func20, Try.ntmps20
      go_wp2_with fail
      refine (implIsBits_yes A n c B zs w HI hn HB).mono ?_
      rintro e w ⟨rfl, rfl⟩
      go_wp2_with fail
      refine (implWidth_is wd false w HW).mono ?_
      rintro e w ⟨rfl, rfl⟩
      go_wp2_with fail
      go_ret2
      exact ⟨rfl, Below.refl _ _⟩
    · obtain ⟨d, rfl⟩ : ∃ d : Nat, wd = d := ⟨wd.toNat, by simp only [inR, decide_eq_true_eq] at hw; omega⟩
      have hd : d ≤ 32 := by simp only [inR, decide_eq_true_eq] at hw; omega
      have HW := hide hw
      by_cases ha0 : a < 0
      · have HR := hide (num_out hb (inR_no (x := a) (lo := 0) (hi := (zs.length : Int) - (d : Int)) (.inl ha0)))
        clear hb hw
        rw [HR.out, numOf_bad HR (by decide)]
        go_enter Try.func20, Try.ntmps20
        go_wp2_with fail
        refine (implIsBits_yes A n c B zs w HI hn HB).mono ?_
        rintro e w ⟨rfl, rfl⟩
        go_wp2_with fail
        refine (implWidth_is _ true w HW).mono ?_
        rintro e w ⟨rfl, rfl⟩
        go_wp2_with fail
        go_ret2
        exact ⟨rfl, Below.refl _ _⟩
      · have hd0 : decide (a < 0) = false := by simpa using ha0
        by_cases ha1 : (n : Int) - (d : Int) < a
        · have HR := hide (num_out hb (inR_no (x := a) (lo := 0) (hi := (zs.length : Int) - (d : Int)) (.inr (by rw [hl.out]; exact ha1))))
          clear hb hw
          rw [HR.out, numOf_bad HR (by decide)]
          go_enter Try.func20, Try.ntmps20
          go_wp2_with fail
          refine (implIsBits_yes A n c B zs w HI hn HB).mono ?_
          rintro e w ⟨rfl, rfl⟩
          go_wp2_with fail
          refine (implWidth_is _ true w HW).mono ?_
          rintro e w ⟨rfl, rfl⟩
          go_wp2_with fail
          go_ret2
          exact ⟨rfl, Below.refl _ _⟩
        · obtain ⟨lo, rfl⟩ : ∃ lo : Nat, a = lo := ⟨a.toNat, by omega⟩
          have hlo : lo + d ≤ n := by omega
          have hd1 : decide ((n : Int) - (d : Int) < (lo : Int)) = false := by simp; omega
          have HR := hide (num_ok hb (a := lo) hw (inR_yes (by omega) (by rw [hl.out]; omega)))
          have HF := hide (show numOf zs lo d = numVal ((zs.drop lo).take d) by rw [numOf, if_pos HR.out, Int.toNat_natCast, Int.toNat_natCast])
          have HS := hide (HI.out.sub hc hlo)
          have HA := hide (show ∀ x ∈ (zs.drop lo).take d, x = 0 ∨ x = 1 from fun x hx => isBits_all hb x (List.mem_of_mem_drop (List.mem_of_mem_take hx)))
          clear hb hw
          rw [HR.out, HF.out]
          by_cases hcl : c = lo
          · have HS2 := hide (show Ints .i64 w B A d ((zs.drop lo).take d) by have := HS.out; rw [subA, if_pos hcl] at this; exact this)
            subst hcl
            go_enter Try.func20, Try.ntmps20
            go_wp2_with fail
            refine (implIsBits_yes A n c B zs w HI hn HB).mono ?_
            rintro e w ⟨rfl, rfl⟩
            go_wp2_with fail
            refine (implWidth_is _ true w HW).mono ?_
            rintro e w ⟨rfl, rfl⟩
            go_wp2_with fail
            refine (implNumberOf _ d _ B _ w HS2 hd HA).mono ?_
            rintro e w ⟨rfl, rfl⟩
            go_wp2_with fail
            go_ret2
            exact ⟨rfl, Below.refl _ _⟩
          · have HS2 := hide (show Ints .i64 w B (A.map (fun x => x.add lo)) d ((zs.drop lo).take d) by have := HS.out; rw [subA, if_neg hcl] at this; exact this)
            go_enter Try.func20, Try.ntmps20
            go_wp2_with fail
            refine (implIsBits_yes A n c B zs w HI hn HB).mono ?_
            rintro e w ⟨rfl, rfl⟩
            go_wp2_with fail
            refine (implWidth_is _ true w HW).mono ?_
            rintro e w ⟨rfl, rfl⟩
            go_wp2_with fail
            refine (implNumberOf _ d _ B _ w HS2 hd HA).mono ?_
            rintro e w ⟨rfl, rfl⟩
            go_wp2_with fail
            go_ret2
            exact ⟨rfl, Below.refl _ _⟩

set_option maxHeartbeats 1000000 in
theorem specNumberAt (A : Option Addr) (n c B : Nat) (zs : List Int) (a wd : Int) (w : World) (hI : Ints .i64 w B A n zs) (hn : n ≤ 1099511627776) :
    Calls Try.prog 38 #[.slice A n c, .int .i64 a, .int .i64 wd] w (Gives2 (numOf zs a wd) (numCode zs a wd) w) := by
  have hl := hide hI.len
  have HI := hide hI
  clear hI
  rcases hb : isBits zs with _ | _
  · have HB := hide hb
    have HR := hide (num_bad hb a wd)
    clear hb
    rw [HR.out, numOf_bad HR (by decide)]
    go_enter Try.func38, Try.ntmps38
    go_wp2_with fail
    refine (specIsBits_no A n c B zs w HI hn HB).mono ?_
    rintro e w ⟨rfl, rfl⟩
    go_wp2_with fail
    go_ret2
    exact ⟨rfl, Below.refl _ _⟩
  · have HB := hide hb
    rcases hw : inR wd 0 32 with _ | _
    · have HW := hide hw
      have HR := hide (num_wide hb a hw)
      clear hb hw
      rw [HR.out, numOf_bad HR (by decide)]
      go_enter Try.func38, Try.ntmps38
      go_wp2_with fail
      refine (specIsBits_yes A n c B zs w HI hn HB).mono ?_
      rintro e w ⟨rfl, rfl⟩
      go_wp2_with fail
      refine (specIn_is wd 0 32 false w HW).mono ?_
      rintro e w ⟨rfl, rfl⟩
      go_wp2_with fail
      go_ret2
      exact ⟨rfl, Below.refl _ _⟩
    · obtain ⟨d, rfl⟩ : ∃ d : Nat, wd = d := ⟨wd.toNat, by simp only [inR, decide_eq_true_eq] at hw; omega⟩
      have hd : d ≤ 32 := by simp only [inR, decide_eq_true_eq] at hw; omega
      have HW := hide hw
      rcases ha : inR a 0 ((n : Int) - (d : Int)) with _ | _
      · have HA := hide ha
        have HR := hide (num_out hb (a := a) (wd := d) (by rw [hl.out]; exact ha))
        clear hb hw ha
        rw [HR.out, numOf_bad HR (by decide)]
        go_enter Try.func38, Try.ntmps38
        go_wp2_with fail
        refine (specIsBits_yes A n c B zs w HI hn HB).mono ?_
        rintro e w ⟨rfl, rfl⟩
        go_wp2_with fail
        refine (specIn_is _ 0 32 true w HW).mono ?_
        rintro e w ⟨rfl, rfl⟩
        go_wp2_with fail
        refine (specIn_is _ 0 _ false w HA).mono ?_
        rintro e w ⟨rfl, rfl⟩
        go_wp2_with fail
        go_ret2
        exact ⟨rfl, Below.refl _ _⟩
      · have hab : 0 ≤ a ∧ a ≤ (n : Int) - (d : Int) := by simpa only [inR, decide_eq_true_eq] using ha
        obtain ⟨lo, rfl⟩ : ∃ lo : Nat, a = lo := ⟨a.toNat, by omega⟩
        have hlo : lo + d ≤ n := by omega
        have HA := hide ha
        have HR := hide (num_ok hb (a := lo) hw (by rw [hl.out]; exact ha))
        have HF := hide (show numOf zs lo d = numVal ((zs.drop lo).take d) by rw [numOf, if_pos HR.out, Int.toNat_natCast, Int.toNat_natCast])
        have HAll := hide (isBits_all hb)
        clear hb hw ha hab
        rw [HR.out, HF.out]
        go_enter Try.func38, Try.ntmps38
        go_wp2_with fail
        refine (specIsBits_yes A n c B zs w HI hn HB).mono ?_
        rintro e w ⟨rfl, rfl⟩
        go_wp2_with fail
        refine (specIn_is _ 0 32 true w HW).mono ?_
        rintro e w ⟨rfl, rfl⟩
        go_wp2_with fail
        refine (specIn_is _ 0 _ true w HA).mono ?_
        rintro e w ⟨rfl, rfl⟩
        go_wp2_with fail
        refine (specNumber A n c B lo d zs w HI hn hd hlo HAll).mono ?_
        rintro e w ⟨rfl, rfl⟩
        go_wp2_with fail
        go_ret2
        exact ⟨rfl, Below.refl _ _⟩
end Go.Proofs.Ytfjagcalfnjddaa
