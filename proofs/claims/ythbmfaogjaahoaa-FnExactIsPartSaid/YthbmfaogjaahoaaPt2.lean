/-
  Whether a part is valid, and the parity of a string: of the model and of the program.
  Condition: as each statement says.
-/
import Derived.Test.YthbmfaogjaahoaaPt1
import Derived.Test.YthbmfaogjaahoaaAppend
import Derived.Test.YthbmfaogjaahoaaSpecIn
import Derived.Test.YthbmfaogjaahoaaSm1
namespace Go.Proofs.Ythbmfaogjaahoaa
open Go.RowKit
set_option linter.unusedSimpArgs false
set_option linter.unusedVariables false

/-- A part is valid. -/
def isPt (x : PtV) : Bool := inR x.c 1 8 && inR x.i 0 (x.c - 1) && inR x.p 0 255 && decide (x.t.size ≤ 400)
theorem isPt_yes {x : PtV} (h : isPt x = true) : (1 ≤ x.c ∧ x.c ≤ 8) ∧ (0 ≤ x.i ∧ x.i < x.c) ∧ (0 ≤ x.p ∧ x.p ≤ 255) ∧ x.t.size ≤ 400 := by
  simp only [isPt, inR, Bool.and_eq_true, decide_eq_true_eq] at h
  omega
theorem isPt_of {x : PtV} (h : (1 ≤ x.c ∧ x.c ≤ 8) ∧ (0 ≤ x.i ∧ x.i < x.c) ∧ (0 ≤ x.p ∧ x.p ≤ 255) ∧ x.t.size ≤ 400) : isPt x = true := by
  simp only [isPt, inR, Bool.and_eq_true, decide_eq_true_eq]
  omega
theorem isPt_no {x : PtV} (h : ¬ ((1 ≤ x.c ∧ x.c ≤ 8) ∧ (0 ≤ x.i ∧ x.i < x.c) ∧ (0 ≤ x.p ∧ x.p ≤ 255) ∧ x.t.size ≤ 400)) : isPt x = false := by
  cases hb : isPt x with
  | false => rfl
  | true => exact absurd (isPt_yes hb) h

set_option maxHeartbeats 1000000 in
theorem implIsVal (i c p : Int) (t : ByteArray) (ht : t.size ≤ 1099511627776) (hc : -9223372036854775808 ≤ c ∧ c ≤ 9223372036854775807) (w : World) :
    Calls Try.prog 41 #[.agg #[.int .i64 i, .int .i64 c, .int .i64 p, .string t]] w (Gives (.bool (isPt ⟨i, c, p, t⟩)) w) := by
  by_cases h1 : 0 ≤ i
  · by_cases h2 : i < c
    · by_cases h3 : c ≤ 8
      · have HC : ∀ (b : Bool), inR p 0 (2 ^ 8 - 1) = b → ∀ w, Calls Try.prog 69 #[.int .i64 p, .int .i64 8] w fun e w' => e = .returned (.bool b) ∧ w = w' := fun b hb w => implFits_is p 8 b w (by omega) hb
        have HC := hide HC
        by_cases h4 : 0 ≤ p ∧ p ≤ 255
        · have HR := hide (show isPt ⟨i, c, p, t⟩ = decide (t.size ≤ 400) by
            cases hd : decide (t.size ≤ 400) with
            | true => exact isPt_of ⟨⟨by show 1 ≤ c; omega, h3⟩, ⟨h1, h2⟩, h4, of_decide_eq_true hd⟩
            | false => exact isPt_no fun h => of_decide_eq_false hd h.2.2.2)
          have HP := hide (inR_yes (x := p) (lo := 0) (hi := 2 ^ 8 - 1) h4.1 (by omega))
          clear h4
          go_enter Try.func41, Try.ntmps41
          go_wp2_with fail
          refine (HC.out true HP.out _).mono ?_
          rintro e _ ⟨rfl, rfl⟩
          go_wp2_with fail
          refine (implIsMsg t ht _).mono ?_
          rintro e _ ⟨rfl, rfl⟩
          go_wp2_with fail
          go_ret
          exact ⟨ret_bool HR.out, (Below.refl _ _).alloc (Nat.le_refl _) _⟩
        · have HR := hide (show isPt ⟨i, c, p, t⟩ = false from isPt_no fun h => h4 h.2.2.1)
          have HP := hide (inR_no (x := p) (lo := 0) (hi := 2 ^ 8 - 1) (by omega))
          clear h4
          go_enter Try.func41, Try.ntmps41
          go_wp2_with fail
          refine (HC.out false HP.out _).mono ?_
          rintro e _ ⟨rfl, rfl⟩
          go_wp2_with fail
          go_ret
          exact ⟨ret_bool HR.out, (Below.refl _ _).alloc (Nat.le_refl _) _⟩
      · have HR := hide (show isPt ⟨i, c, p, t⟩ = false from isPt_no fun h => h3 h.1.2)
        have h3' : decide (c ≤ 8) = false := by simpa using h3
        go_enter Try.func41, Try.ntmps41
        go_wp2_with fail
        go_ret
        exact ⟨ret_bool HR.out, (Below.refl _ _).alloc (Nat.le_refl _) _⟩
    · have HR := hide (show isPt ⟨i, c, p, t⟩ = false from isPt_no fun h => h2 h.2.1.2)
      have h2' : decide (i < c) = false := by simpa using h2
      go_enter Try.func41, Try.ntmps41
      go_wp2_with fail
      go_ret
      exact ⟨ret_bool HR.out, (Below.refl _ _).alloc (Nat.le_refl _) _⟩
  · have HR := hide (show isPt ⟨i, c, p, t⟩ = false from isPt_no fun h => h1 h.2.1.1)
    have h1' : decide (0 ≤ i) = false := by simpa using h1
    go_enter Try.func41, Try.ntmps41
    go_wp2_with fail
    go_ret
    exact ⟨ret_bool HR.out, (Below.refl _ _).alloc (Nat.le_refl _) _⟩

set_option maxHeartbeats 1000000 in
theorem implIsPart (i c p : Int) (t : ByteArray) (ht : t.size ≤ 1099511627776) (hc : -9223372036854775808 ≤ c ∧ c ≤ 9223372036854775807) (w : World) :
    Calls Try.prog 13 #[.agg #[.int .i64 i, .int .i64 c, .int .i64 p, .string t]] w (Gives (.bool (isPt ⟨i, c, p, t⟩)) w) := by
  go_enter Try.func13, Try.ntmps13
  go_wp2_with fail
  refine (implIsVal i c p t ht hc _).mono ?_
  rintro e w1 ⟨rfl, hb1⟩
  have HB := hide (((Below.refl w.heap.size w).alloc (Nat.le_refl _) _).trans (hb1.mono (by rw [alloc_size]; omega)))
  clear hb1
  go_wp2_with fail
  go_ret
  exact ⟨rfl, HB.out⟩

set_option maxHeartbeats 1000000 in
theorem specIsPart (i c p : Int) (t : ByteArray) (ht : t.size ≤ 1099511627776) (hc : -9223372036854775808 ≤ c ∧ c ≤ 9223372036854775807) (w : World) :
    Calls Try.prog 11 #[.agg #[.int .i64 i, .int .i64 c, .int .i64 p, .string t]] w (Gives (.bool (isPt ⟨i, c, p, t⟩)) w) := by
  by_cases h1 : 1 ≤ c ∧ c ≤ 8
  · by_cases h2 : 0 ≤ i ∧ i < c
    · by_cases h4 : 0 ≤ p ∧ p ≤ 255
      · have HR := hide (show isPt ⟨i, c, p, t⟩ = decide ((t.size : Int) ≤ 400) by
          by_cases hd : t.size ≤ 400
          · rw [decide_eq_true (show (t.size : Int) ≤ 400 by omega)]; exact isPt_of ⟨h1, h2, h4, hd⟩
          · rw [decide_eq_false (show ¬ (t.size : Int) ≤ 400 by omega)]; exact isPt_no fun h => hd h.2.2.2)
        obtain ⟨b, hbb⟩ : ∃ b, decide ((t.size : Int) ≤ 400) = b := ⟨_, rfl⟩
        rw [hbb] at HR
        go_enter Try.func11, Try.ntmps11
        go_wp2_with fail
        refine (specIn_yes c 1 8 _ h1.1 h1.2).mono ?_
        rintro e _ ⟨rfl, rfl⟩
        go_wp2_with fail
        refine (specIn_yes i 0 (c - 1) _ h2.1 (by omega)).mono ?_
        rintro e _ ⟨rfl, rfl⟩
        go_wp2_with fail
        refine (specIn_yes p 0 255 _ h4.1 h4.2).mono ?_
        rintro e _ ⟨rfl, rfl⟩
        clear h4 h2 h1
        cases b
        · have hbn : ¬ (t.size : Int) ≤ 400 := of_decide_eq_false hbb
          clear hbb
          go_wp2_with fail
          go_ret
          exact ⟨ret_bool (by first | exact HR.out | (rw [HR.out]; simp; omega)), (Below.refl _ _).alloc (Nat.le_refl _) _⟩
        · have hbn : (t.size : Int) ≤ 400 := of_decide_eq_true hbb
          clear hbb
          go_wp2_with fail
          go_ret
          exact ⟨ret_bool (by first | exact HR.out | (rw [HR.out]; simp; omega)), (Below.refl _ _).alloc (Nat.le_refl _) _⟩
      · have HR := hide (show isPt ⟨i, c, p, t⟩ = false from isPt_no fun h => h4 h.2.2.1)
        go_enter Try.func11, Try.ntmps11
        go_wp2_with fail
        refine (specIn_yes c 1 8 _ h1.1 h1.2).mono ?_
        rintro e _ ⟨rfl, rfl⟩
        go_wp2_with fail
        refine (specIn_yes i 0 (c - 1) _ h2.1 (by omega)).mono ?_
        rintro e _ ⟨rfl, rfl⟩
        go_wp2_with fail
        refine (specIn_no p 0 255 _ (by omega)).mono ?_
        rintro e _ ⟨rfl, rfl⟩
        go_wp2_with fail
        go_ret
        exact ⟨ret_bool HR.out, (Below.refl _ _).alloc (Nat.le_refl _) _⟩
    · have HR := hide (show isPt ⟨i, c, p, t⟩ = false from isPt_no fun h => h2 h.2.1)
      go_enter Try.func11, Try.ntmps11
      go_wp2_with fail
      refine (specIn_yes c 1 8 _ h1.1 h1.2).mono ?_
      rintro e _ ⟨rfl, rfl⟩
      go_wp2_with fail
      refine (specIn_no i 0 (c - 1) _ (by omega)).mono ?_
      rintro e _ ⟨rfl, rfl⟩
      go_wp2_with fail
      go_ret
      exact ⟨ret_bool HR.out, (Below.refl _ _).alloc (Nat.le_refl _) _⟩
  · have HR := hide (show isPt ⟨i, c, p, t⟩ = false from isPt_no fun h => h1 h.1)
    go_enter Try.func11, Try.ntmps11
    go_wp2_with fail
    refine (specIn_no c 1 8 _ (by omega)).mono ?_
    rintro e _ ⟨rfl, rfl⟩
    go_wp2_with fail
    go_ret
    exact ⟨ret_bool HR.out, (Below.refl _ _).alloc (Nat.le_refl _) _⟩

/-- The exclusive or of numbers. -/
def parI (bs : List Int) : Int := bs.foldl (fun a b => bits .xor .u8 a b) 0
def parT (bs : List Int) (k : Nat) : Int := parI (bs.take k)
theorem parT_step {bs : List Int} {k : Nat} {y : Int} (h : bs[k]? = some y) : parT bs (k + 1) = bits .xor .u8 (parT bs k) y := by
  unfold parT parI
  rw [List.take_add_one, h]
  simp [List.foldl_append]
theorem parT_bd (bs : List Int) (k : Nat) : 0 ≤ parT bs k ∧ parT bs k ≤ 255 := by
  unfold parT parI
  rcases List.eq_nil_or_concat (bs.take k) with h | ⟨l, a, h⟩
  · rw [h]; decide
  · rw [h, List.concat_eq_append, List.foldl_append]
    simp only [List.foldl_cons, List.foldl_nil]
    exact ⟨Go.bits_lo_u8 _ _ _, Go.bits_hi_u8 _ _ _⟩
theorem parT_all (bs : List Int) : parT bs bs.length = parI bs := by unfold parT; rw [List.take_length]
theorem par_bd (bs : List Int) : 0 ≤ parI bs ∧ parI bs ≤ 255 := parT_all bs ▸ parT_bd bs bs.length
def MpRel (w : World) (s : ByteArray) (a i : Value) (wr : World) : Prop :=
  ∃ (k : Nat) (x : Int), k ≤ s.size ∧ i = .int .i64 k ∧ a = .int .u8 x ∧ (0 ≤ x ∧ x ≤ 255) ∧ Hid (x = parT (bytesI s) k) ∧ w = wr

set_option maxHeartbeats 1000000 in
theorem implPar (s : ByteArray) (hs : s.size ≤ 1099511627776) (w : World) :
    Calls Try.prog 15 #[.string s] w fun e w' => e = .returned (.int .i64 (parI (bytesI s))) ∧ w = w' := by
  go_enter Try.func15, Try.ntmps15
  go_wp2_with fail
  go_loopw [3, 7] (fun a i wr => MpRel w s a i wr) (fun _ i _ => s.size - (intOf i).toNat)
  case atStart => exact ⟨0, 0, Nat.zero_le _, rfl, rfl, by omega, hide (by rfl), rfl⟩
  case round =>
    obtain ⟨k, x, hk, rfl, rfl, hx, hp, rfl⟩ := hrel
    have HP := hp
    clear hp
    by_cases hlt : k < s.size
    · obtain ⟨y, hy, hy2, hy0, hy1⟩ := byteAt s hlt
      have HS := hide (show bits .xor .u8 x y = parT (bytesI s) (k + 1) by rw [parT_step hy2, ← HP.out])
      have hb := parT_bd (bytesI s) (k + 1)
      obtain ⟨z, hz⟩ : ∃ z, bits .xor .u8 x y = z := ⟨_, rfl⟩
      rw [hz] at HS
      rw [← HS.out] at hb
      clear hy2
      go_wp2_with fail
      go_roundw
      case rel => exact ⟨k + 1, z, by omega, by go_num, by first | rfl | rw [hz], hb, HS, rfl⟩
      case measure => simp [intOf]; omega
    · have HE := hide (show x = parI (bytesI s) by rw [HP.out, ← parT_all, bytesI_len, show k = s.size by omega])
      go_wp2_with fail
      go_ret
      exact ⟨ret_int HE.out.symm, rfl⟩

set_option maxHeartbeats 1000000 in
theorem specPar (s : ByteArray) (hs : s.size ≤ 1099511627776) (w : World) :
    Calls Try.prog 14 #[.string s] w fun e w' => e = .returned (.int .i64 (parI (bytesI s))) ∧ w = w' := by
  go_enter Try.func14, Try.ntmps14
  go_wp2_with fail
  go_loopw [3, 4] (fun a i wr => MpRel w s a i wr) (fun _ i _ => s.size - (intOf i).toNat)
  case atStart => exact ⟨0, 0, Nat.zero_le _, rfl, rfl, by omega, hide (by rfl), rfl⟩
  case round =>
    obtain ⟨k, x, hk, rfl, rfl, hx, hp, rfl⟩ := hrel
    have HP := hp
    clear hp
    by_cases hlt : k < s.size
    · obtain ⟨y, hy, hy2, hy0, hy1⟩ := byteAt s hlt
      have HS := hide (show bits .xor .u8 x y = parT (bytesI s) (k + 1) by rw [parT_step hy2, ← HP.out])
      have hb := parT_bd (bytesI s) (k + 1)
      obtain ⟨z, hz⟩ : ∃ z, bits .xor .u8 x y = z := ⟨_, rfl⟩
      rw [hz] at HS
      rw [← HS.out] at hb
      clear hy2
      go_wp2_with fail
      go_roundw
      case rel => exact ⟨k + 1, z, by omega, by go_num, by first | rfl | rw [hz], hb, HS, rfl⟩
      case measure => simp [intOf]; omega
    · have HE := hide (show x = parI (bytesI s) by rw [HP.out, ← parT_all, bytesI_len, show k = s.size by omega])
      go_wp2_with fail
      go_ret
      exact ⟨ret_int HE.out.symm, rfl⟩
end Go.Proofs.Ythbmfaogjaahoaa
