/-
  FormatText of the program and of the model.
  Condition: none.
-/
import Derived.Test.YtkaconpbmppekaaWd4
import Derived.Test.YtkaconpbmppekaaStr3
namespace Go.Proofs.Ytkaconpbmppekaa
open Go.RowKit
set_option linter.unusedSimpArgs false
set_option linter.unusedVariables false

/-- What FormatText gives. -/
def ftS (r : List Int) (k : Int) : ByteArray := if k = 0 then textOf r else ByteArray.empty

set_option maxRecDepth 100000 in
set_option maxHeartbeats 4000000 in
theorem implFt (d l p v : Int) (r : List Int) (k : Int) (hr : r.length ≤ 1099511627776) (h : V0i 14 d l p v (NewInts2 2 .i64 r k)) (w : World) :
    Calls Try.prog 17 #[.agg #[.int .i64 d, .int .i64 l, .int .i64 p], .int .i64 v] w (Gives (.string (ftS r k)) w) := by
  have HX := hide (Box.start w 25 d l p)
  have HW := hide h
  clear h
  by_cases hk : k = 0
  · have HS := hide (show ftS r k = textOf r by rw [ftS, if_pos hk])
    have e0 : (k != 0) = false := by simpa using hk
    clear hk
    go_enter Try.func17, Try.ntmps17
    go_wp2_with fail
    refine (HW.out _).mono ?_
    rintro e w1 ⟨A1, m1, rfl, hm1, hown, hb⟩
    have HX1 := hide (HX.out.next hb)
    have HI1 := hide (Own.ints hown)
    clear hb hown
    go_wp2_with fail
    refine (implText A1 _ m1 _ r w1 HI1.out (Nat.le_refl _) hr).mono ?_
    rintro e w2 ⟨rfl, hb⟩
    have HX2 := hide (HX1.out.next hb)
    clear hb
    go_wp2_with fail
    go_ret
    exact ⟨by rw [HS.out]; rfl, HX2.out.2⟩
  · have HS := hide (show ftS r k = ByteArray.empty by rw [ftS, if_neg hk])
    have e0 : (k != 0) = true := by simpa using hk
    clear hk
    go_enter Try.func17, Try.ntmps17
    go_wp2_with fail
    refine (HW.out _).mono ?_
    rintro e w1 ⟨A1, m1, rfl, hm1, hown, hb⟩
    have HX1 := hide (HX.out.next hb)
    clear hb hown
    go_wp2_with fail
    go_ret
    exact ⟨by rw [HS.out]; rfl, HX1.out.2⟩
set_option maxRecDepth 100000 in
set_option maxHeartbeats 4000000 in
theorem specFt (d l p v : Int) (r : List Int) (k : Int) (hr : r.length ≤ 1099511627776) (h : V0i 15 d l p v (NewInts2 2 .i64 r k)) (w : World) :
    Calls Try.prog 18 #[.agg #[.int .i64 d, .int .i64 l, .int .i64 p], .int .i64 v] w (Gives (.string (ftS r k)) w) := by
  have HX := hide (Box.start w 25 d l p)
  have HW := hide h
  clear h
  by_cases hk : k = 0
  · have HS := hide (show ftS r k = textOf r by rw [ftS, if_pos hk])
    have e0 : (k != 0) = false := by simpa using hk
    clear hk
    go_enter Try.func18, Try.ntmps18
    go_wp2_with fail
    refine (HW.out _).mono ?_
    rintro e w1 ⟨A1, m1, rfl, hm1, hown, hb⟩
    have HX1 := hide (HX.out.next hb)
    have HI1 := hide (Own.ints hown)
    clear hb hown
    go_wp2_with fail
    refine (specText A1 _ m1 _ r w1 HI1.out (Nat.le_refl _) hr).mono ?_
    rintro e w2 ⟨rfl, hb⟩
    have HX2 := hide (HX1.out.next hb)
    clear hb
    go_wp2_with fail
    go_ret
    exact ⟨by rw [HS.out]; rfl, HX2.out.2⟩
  · have HS := hide (show ftS r k = ByteArray.empty by rw [ftS, if_neg hk])
    have e0 : (k != 0) = true := by simpa using hk
    clear hk
    go_enter Try.func18, Try.ntmps18
    go_wp2_with fail
    refine (HW.out _).mono ?_
    rintro e w1 ⟨A1, m1, rfl, hm1, hown, hb⟩
    have HX1 := hide (HX.out.next hb)
    clear hb hown
    go_wp2_with fail
    go_ret
    exact ⟨by rw [HS.out]; rfl, HX1.out.2⟩
theorem ft_both (d l p v : Int) (hl : -9223372036854775808 ≤ l ∧ l ≤ 9223372036854775807) :
    ∃ s : ByteArray, V0i 18 d l p v (Gives (.string s)) ∧ V0i 17 d l p v (Gives (.string s)) := by
  obtain ⟨r, k, hr, hs, hi⟩ := fw_both d l p v hl
  exact ⟨ftS r k, fun w => specFt d l p v r k hr hs w, fun w => implFt d l p v r k hr hi w⟩
end Go.Proofs.Ytkaconpbmppekaa
