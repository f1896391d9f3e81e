/-
  Messages, and the bound that their narrowest mode gives.
  Condition: as each statement says.
-/
import Derived.Test.YtdccofbfdlebgaaSg6
import Derived.Test.YtdccofbfdlebgaaSg8
import Derived.Test.YtdccofbfdlebgaaSg9
import Derived.Test.YtdccofbfdlebgaaSmMath
import Derived.WalkSpells
namespace Go.Proofs.Ytdccofbfdlebgaa
open Go.RowKit
set_option linter.unusedSimpArgs false
set_option linter.unusedVariables false

theorem implIsMsg (s : ByteArray) (hs : s.size ≤ 1099511627776) (w : World) :
    Calls Try.prog 72 #[.string s] w fun e w' => e = .returned (.bool (decide (s.size ≤ 400))) ∧ w = w' := by
  by_cases h : s.size ≤ 400
  · have HD := hide (show decide ((s.size : Int) ≤ 400) = true from decide_eq_true (by omega))
    go_enter Try.func72, Try.ntmps72
    go_wp2_with fail
    go_ret
    exact ⟨ret_bool (by have := HD.out; simp at this ⊢; omega), rfl⟩
  · have HD := hide (show decide ((s.size : Int) ≤ 400) = false from decide_eq_false (by omega))
    go_enter Try.func72, Try.ntmps72
    go_wp2_with fail
    go_ret
    exact ⟨ret_bool (by have := HD.out; simp at this ⊢; omega), rfl⟩
theorem implIsMsg_yes (s : ByteArray) (hs : s.size ≤ 400) (w : World) :
    Calls Try.prog 72 #[.string s] w fun e w' => e = .returned (.bool true) ∧ w = w' :=
  (implIsMsg s (by omega) w).mono fun _ _ ⟨he, hw⟩ => ⟨by rw [he, decide_eq_true hs], hw⟩
theorem implIsMsg_no (s : ByteArray) (hs : s.size ≤ 1099511627776) (h : ¬ s.size ≤ 400) (w : World) :
    Calls Try.prog 72 #[.string s] w fun e w' => e = .returned (.bool false) ∧ w = w' :=
  (implIsMsg s hs w).mono fun _ _ ⟨he, hw⟩ => ⟨by rw [he, decide_eq_false h], hw⟩

theorem narrow_in (bs : List Int) : 1 ≤ narrow bs ∧ narrow bs ≤ 4 := by unfold narrow; (repeat' split) <;> omega

/-- What LengthBound gives. -/
def lbOf (s : ByteArray) : Int := if s.size ≤ 400 then ((lbd (narrow (bytesI s)) s.size : Nat) : Int) else 0
def lbCode (s : ByteArray) : Int := if s.size ≤ 400 then 0 else 3
theorem nonempty_of {q : ByteArray} (h : q.size ≠ 0) : (!q.toList.isEmpty) = true := by
  have h1 : q.toList = q.data.toList := Go.ByteArray.toList_eq q
  rw [h1]
  cases h2 : q.data.toList with
  | nil =>
    have h3 : q.data.toList.length = q.size := rfl
    rw [h2] at h3; exact absurd h3.symm h
  | cons a l => rfl
theorem implSegLenN (m : Int) (s : ByteArray) (n : Nat) (hm : 1 ≤ m ∧ m ≤ 4) (h : s.size = n) (hn : n ≤ 255) (w : World) :
    Calls Try.prog 59 #[.agg #[.int .i64 m, .string s]] w (Gives (.int .i64 (slen m n : Nat)) w) := by
  subst h; exact implSegLen0 m s hm hn w
def LbdRel (w : World) (m : Int) (n : Nat) (t r : Value) (wr : World) : Prop :=
  ∃ (q : ByteArray) (x : Nat), q.size ≤ n ∧ r = .string q ∧ t = .int .i64 (x : Nat) ∧ x ≤ 6000 ∧ Hid (x + lbd m q.size = lbd m n) ∧ Below w.heap.size w wr

set_option maxRecDepth 100000 in
set_option maxHeartbeats 1000000 in
theorem implLb (s : ByteArray) (hs : s.size ≤ 1099511627776) (w : World) :
    Calls Try.prog 39 #[.string s] w (GivesII (lbOf s) (lbCode s) w) := by
  by_cases hn : s.size ≤ 400
  · have H1 := hide (show lbOf s = ((lbd (narrow (bytesI s)) s.size : Nat) : Int) by rw [lbOf, if_pos hn])
    have H2 := hide (show lbCode s = 0 by rw [lbCode, if_pos hn])
    have HM := hide (narrow_in (bytesI s))
    go_enter Try.func39, Try.ntmps39
    go_wp2_with fail
    refine (implIsMsg_yes s hn _).mono ?_
    rintro e _ ⟨rfl, rfl⟩
    go_wp2_with fail
    refine (implNarrow s (by omega) _).mono ?_
    rintro e w1 ⟨rfl, hb1⟩
    have HB1 := hide hb1
    clear hb1
    obtain ⟨m, hm⟩ : ∃ m, narrow (bytesI s) = m := ⟨_, rfl⟩
    rw [hm] at H1 HM ⊢
    clear hm
    go_wp2_with fail
    go_loopw [5, 6] (fun t r wr => LbdRel w m s.size t r wr) (fun _ r _ => match r with | .string q => q.size | _ => 0)
    case atStart => exact ⟨s, 0, Nat.le_refl _, rfl, rfl, by omega, hide (by omega), HB1.out⟩
    case round =>
      clear HB1
      obtain ⟨q, x, hq, rfl, rfl, hx, hl, hb⟩ := hrel
      have HL := hl
      have HB := hide hb
      clear hl hb
      by_cases h0 : q.size = 0
      · have e0 : q = ⟨#[]⟩ := by
          obtain ⟨d⟩ := q
          have : d.size = 0 := h0
          rw [Array.eq_empty_of_size_eq_zero this]
        have HE := hide (show x = lbd m s.size by have h := HL.out; rw [h0, lbd_zero] at h; omega)
        subst e0
        clear h0 HL
        go_wp2_with fail
        go_ret2
        exact ⟨ret_ii (by rw [H1.out, HE.out]) H2.out, HB.out⟩
      · have h0' := nonempty_of h0
        have H0 := hide (show 0 < q.size by omega)
        have HS := hide (lbd_step (m := m) (n := q.size) (by omega) (by omega))
        have hle := lbd_le (m := m) (n := s.size) (by omega)
        obtain ⟨L, hLe⟩ : ∃ L, slen m (min q.size 255) = L := ⟨_, rfl⟩
        obtain ⟨R, hRe⟩ : ∃ R, lbd m (q.size - min q.size 255) = R := ⟨_, rfl⟩
        have hX : x + L + R = lbd m s.size ∧ x + L ≤ 6000 := by
          have h1 := HS.out; have h2 := HL.out; rw [hLe, hRe] at h1; omega
        have HR := hide hRe
        have HLL := hide hLe
        have HX := hide hX
        have hxl := hX.2
        clear hLe hRe hX HL HS h0 hle
        by_cases hc : q.size ≤ 255
        · have HC := hide (implSegLenN m q q.size HM.out rfl hc)
          rw [show min q.size 255 = q.size by omega] at HLL HR
          rw [HLL.out] at HC
          have HRR := hide (show R = 0 by have h := HR.out; rw [Nat.sub_self, lbd_zero] at h; exact h.symm)
          clear HR HLL
          go_wp2_with fail
          refine (HC.out _).mono ?_
          rintro e w2 ⟨rfl, hb2⟩
          have HB2 := hide (HB.out.trans (hb2.mono HB.out.size))
          clear hb2
          go_wp2_with fail
          go_roundw
          case rel => exact ⟨⟨#[]⟩, x + L, Nat.zero_le _, rfl, by go_num, by omega, by have h := HX.out; rw [HRR.out] at h; exact h.1, HB2.out⟩
          case measure => exact H0.out
        · have hsz : (q.extract 0 255).size = 255 := by simp; omega
          have hsz2 : (q.extract 255 q.size).size = q.size - 255 := by simp
          have HZ2 := hide hsz2
          have HC := hide (implSegLenN m (q.extract 0 255) 255 HM.out hsz (by omega))
          rw [show min q.size 255 = 255 by omega] at HLL HR
          rw [HLL.out] at HC
          clear HLL hsz hsz2
          go_wp2_with fail
          refine (HC.out _).mono ?_
          rintro e w2 ⟨rfl, hb2⟩
          have HB2 := hide (HB.out.trans (hb2.mono HB.out.size))
          clear hb2
          go_wp2_with fail
          go_roundw
          case rel => exact ⟨q.extract 255 q.size, x + L, by rw [HZ2.out]; omega, rfl, by go_num, by omega, by rw [HZ2.out, HR.out]; exact HX.out.1, HB2.out⟩
          case measure => show (q.extract 255 q.size).size < q.size; rw [HZ2.out]; omega
  · have H1 := hide (show lbOf s = 0 by rw [lbOf, if_neg hn])
    have H2 := hide (show lbCode s = 3 by rw [lbCode, if_neg hn])
    go_enter Try.func39, Try.ntmps39
    go_wp2_with fail
    refine (implIsMsg_no s hs hn _).mono ?_
    rintro e _ ⟨rfl, rfl⟩
    go_wp2_with fail
    go_ret2
    exact ⟨ret_ii H1.out H2.out, Below.refl _ _⟩

def LbdRel2 (w : World) (m : Int) (n : Nat) (t r : Value) (wr : World) : Prop :=
  ∃ (q : Int) (x : Nat), q ≤ n ∧ -255 < q ∧ r = .int .i64 q ∧ t = .int .i64 (x : Nat) ∧ x ≤ 6000 ∧ Hid (x + lbd m q.toNat = lbd m n) ∧ Below w.heap.size w wr

set_option maxRecDepth 100000 in
set_option maxHeartbeats 1000000 in
theorem specLb (s : ByteArray) (hs : s.size ≤ 1099511627776) (w : World) :
    Calls Try.prog 38 #[.string s] w (GivesII (lbOf s) (lbCode s) w) := by
  by_cases hn : s.size ≤ 400
  · have H1 := hide (show lbOf s = ((lbd (narrow (bytesI s)) s.size : Nat) : Int) by rw [lbOf, if_pos hn])
    have H2 := hide (show lbCode s = 0 by rw [lbCode, if_pos hn])
    have HM := hide (narrow_in (bytesI s))
    have hn' : ¬ 400 < s.size := by omega
    go_enter Try.func38, Try.ntmps38
    go_wp2_with fail
    refine (specNarrow s (by omega) _).mono ?_
    rintro e w1 ⟨rfl, hb1⟩
    have HB1 := hide hb1
    clear hb1
    obtain ⟨m, hm⟩ : ∃ m, narrow (bytesI s) = m := ⟨_, rfl⟩
    rw [hm] at H1 HM ⊢
    clear hm
    go_wp2_with fail
    go_loopw [5, 6] (fun t r wr => LbdRel2 w m s.size t r wr) (fun _ r _ => (intOf r + 255).toNat)
    case atStart => exact ⟨s.size, 0, by omega, by omega, rfl, rfl, by omega, hide (by simp), HB1.out⟩
    case round =>
      clear HB1
      obtain ⟨q, x, hq, hq1, rfl, rfl, hx, hl, hb⟩ := hrel
      have HL := hl
      have HB := hide hb
      clear hl hb
      by_cases h0 : q ≤ 0
      · have HE := hide (show x = lbd m s.size by have h := HL.out; rw [show q.toNat = 0 by omega, lbd_zero] at h; omega)
        clear HL
        go_wp2_with fail
        go_ret2
        exact ⟨ret_ii (by rw [H1.out, HE.out]) H2.out, HB.out⟩
      · obtain ⟨p, rfl⟩ := Int.eq_ofNat_of_zero_le (show 0 ≤ q by omega)
        have HS := hide (lbd_step (m := m) (n := p) (by omega) (by omega))
        have hle := lbd_le (m := m) (n := s.size) (by omega)
        obtain ⟨L, hLe⟩ : ∃ L, slen m (min p 255) = L := ⟨_, rfl⟩
        obtain ⟨R, hRe⟩ : ∃ R, lbd m (p - min p 255) = R := ⟨_, rfl⟩
        have hX : x + L + R = lbd m s.size ∧ x + L ≤ 6000 := by
          have h1 := HS.out; have h2 := HL.out; rw [hLe, hRe] at h1; rw [Int.toNat_natCast] at h2; omega
        have HR := hide hRe
        have HLL := hide hLe
        have HX := hide hX
        have hxl := hX.2
        clear hLe hRe hX HL HS hle
        by_cases hc : p ≤ 255
        · have HC := hide (specLength m HM.out p hc)
          rw [show min p 255 = p by omega] at HLL HR
          rw [HLL.out] at HC
          have HRR := hide (show R = 0 by have h := HR.out; rw [Nat.sub_self, lbd_zero] at h; exact h.symm)
          clear HR HLL
          go_wp2_with fail
          refine (HC.out _).mono ?_
          rintro e w2 ⟨rfl, hb2⟩
          have HB2 := hide (HB.out.trans (hb2.mono HB.out.size))
          clear hb2
          go_wp2_with fail
          go_roundw
          case rel => exact ⟨(p : Int) - 255, x + L, by omega, by omega, rfl, by go_num, by omega, by have h := HX.out; rw [HRR.out] at h; rw [show ((p : Int) - 255).toNat = 0 by omega]; exact h.1, HB2.out⟩
          case measure => simp [intOf]; omega
        · have HC := hide (specLength m HM.out 255 (by omega))
          rw [show min p 255 = 255 by omega] at HLL HR
          rw [HLL.out] at HC
          clear HLL
          go_wp2_with fail
          refine (HC.out _).mono ?_
          rintro e w2 ⟨rfl, hb2⟩
          have HB2 := hide (HB.out.trans (hb2.mono HB.out.size))
          clear hb2
          go_wp2_with fail
          go_roundw
          case rel => exact ⟨(p : Int) - 255, x + L, by omega, by omega, rfl, by go_num, by omega, by rw [show ((p : Int) - 255).toNat = p - 255 by omega, HR.out]; exact HX.out.1, HB2.out⟩
          case measure => simp [intOf]; omega
  · have H1 := hide (show lbOf s = 0 by rw [lbOf, if_neg hn])
    have H2 := hide (show lbCode s = 3 by rw [lbCode, if_neg hn])
    have hn' : 400 < s.size := by omega
    go_enter Try.func38, Try.ntmps38
    go_wp2_with fail
    go_ret2
    exact ⟨ret_ii H1.out H2.out, Below.refl _ _⟩
end Go.Proofs.Ytdccofbfdlebgaa
