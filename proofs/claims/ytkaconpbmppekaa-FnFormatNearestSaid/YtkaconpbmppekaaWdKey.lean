/-
  FormatWord, FormatDistance, FormatText, NearestFormat and FormatShare, with what they give, case by case.
  Condition: none.
-/
import Derived.Test.YtkaconpbmppekaaWdT
import Derived.Test.YtkaconpbmppekaaWdB
namespace Go.Proofs.Ytkaconpbmppekaa
open Go.RowKit
set_option linter.unusedSimpArgs false
set_option linter.unusedVariables false

/-- The word of a number. -/
def wdL (D L P K v : Nat) : List Int := bitsOf (wordF D K P v : Nat) L
theorem wdL_len (D L P K v : Nat) : (wdL D L P K v).length = L := bitsOf_len _ _
theorem fw_key (d l p v : Int) (hl : -9223372036854775808 ≤ l ∧ l ≤ 9223372036854775807) :
    ∃ (r : List Int) (k : Int), r.length ≤ 100 ∧ V0i 15 d l p v (NewInts2 2 .i64 r k) ∧ V0i 14 d l p v (NewInts2 2 .i64 r k) ∧
      (k ≠ 0 ∨ (k = 0 ∧ ∃ D L P K V : Nat, d = D ∧ l = L ∧ p = P ∧ v = V ∧ FcIs D L P K ∧ V < 2 ^ D ∧ r = wdL D L P K V)) := by
  rcases fw_cases d l p v with ⟨h, _⟩ | ⟨D, L, P, K, rfl, rfl, rfl, h, hv, _⟩ | ⟨D, L, P, K, V, rfl, rfl, rfl, rfl, h, hv, _⟩
  · exact ⟨_, _, by simp, fun w => specFw_bad d l p v hl.1 h w, fun w => implFw_bad d l p v h w, .inl (by decide)⟩
  · exact ⟨_, _, by simp, fun w => specFw_out h v hv w, fun w => implFw_out h v hv w, .inl (by decide)⟩
  · exact ⟨_, _, by have := h.l24; rw [bitsOf_len]; omega, fun w => specFw_ok h V hv w, fun w => implFw_ok h V hv w, .inr ⟨rfl, D, L, P, K, V, rfl, rfl, rfl, rfl, h, hv, rfl⟩⟩
theorem ft_key (d l p v : Int) (r : List Int) (k : Int) (hr : r.length ≤ 100) (hs : V0i 15 d l p v (NewInts2 2 .i64 r k)) (hi : V0i 14 d l p v (NewInts2 2 .i64 r k)) :
    ∃ s : ByteArray, V0i 18 d l p v (Gives (.string s)) ∧ V0i 17 d l p v (Gives (.string s)) :=
  ⟨ftS r k, fun w => specFt d l p v r k (by omega) hs w, fun w => implFt d l p v r k (by omega) hi w⟩

set_option maxRecDepth 100000 in
set_option maxHeartbeats 4000000 in
theorem implFd_ok {D L P K : Nat} (h : FcIs D L P K) (w : World) :
    Calls Try.prog 25 #[.agg #[.int .i64 D, .int .i64 L, .int .i64 P]] w (GivesII (minD D L P K : Nat) 0 w) := by
  have HX := hide (Box.start w 25 D L P)
  have HV := hide (fun w' => implFcValid D L P w')
  rw [fcB_of h] at HV
  have HF := hide h
  clear h
  go_enter Try.func25, Try.ntmps25
  go_wp2_with fail
  refine (HV.out _).mono ?_
  rintro e w1 ⟨rfl, hb⟩
  have HX1 := hide (HX.out.next hb)
  obtain ⟨c0, c1, c2⟩ := HX1.out.cells
  clear hb
  go_wp2_with fail
  refine (implMin HF.out _).mono ?_
  rintro e w1 ⟨rfl, hb⟩
  have HX2 := hide (HX1.out.next hb)
  clear hb
  go_wp2_with fail
  go_ret2
  exact ⟨rfl, HX2.out.2⟩
set_option maxRecDepth 100000 in
set_option maxHeartbeats 4000000 in
theorem specFd_ok {D L P K : Nat} (h : FcIs D L P K) (w : World) :
    Calls Try.prog 29 #[.agg #[.int .i64 D, .int .i64 L, .int .i64 P]] w (GivesII (minD D L P K : Nat) 0 w) := by
  have HX := hide (Box.start w 25 D L P)
  have HV := hide (fun w' => specFcIs D L P (by omega) w')
  rw [fcB_of h] at HV
  have HF := hide h
  clear h
  go_enter Try.func29, Try.ntmps29
  go_wp2_with fail
  refine (HV.out _).mono ?_
  rintro e w1 ⟨rfl, hb⟩
  have HX1 := hide (HX.out.next hb)
  obtain ⟨c0, c1, c2⟩ := HX1.out.cells
  clear hb
  go_wp2_with fail
  refine (specMin HF.out _).mono ?_
  rintro e w1 ⟨rfl, hb⟩
  have HX2 := hide (HX1.out.next hb)
  clear hb
  go_wp2_with fail
  go_ret2
  exact ⟨rfl, HX2.out.2⟩

theorem bits_isBits (x : Int) {n : Nat} (h : n ≤ 100) : isBits (bitsOf x n) = true := by
  unfold isBits
  rw [Bool.and_eq_true, decide_eq_true_eq, bitsOf_len]
  refine ⟨by omega, List.all_eq_true.2 fun z hz => ?_⟩
  rcases bitsOf_bitN hz with rfl | rfl <;> rfl
/-- Two words: their sum and their distance. -/
theorem wd_pair {D L P K u v : Nat} (h : FcIs D L P K) (hu : u < 2 ^ D) (hv : v < 2 ^ D) :
    pairCode (wdL D L P K u) (wdL D L P K v) = 0 ∧ xorOf (wdL D L P K u) (wdL D L P K v) = wdL D L P K (u ^^^ v) ∧ distOf (wdL D L P K u) (wdL D L P K v) = (popN L (wordF D K P u ^^^ wordF D K P v) : Nat) ∧ (u ≠ v → minD D L P K ≤ popN L (wordF D K P u ^^^ wordF D K P v)) := by
  have hL := h.l24
  have hp : pairCode (wdL D L P K u) (wdL D L P K v) = 0 := pair_ok (bits_isBits _ (by omega)) (bits_isBits _ (by omega)) (by rw [wdL_len, wdL_len])
  refine ⟨hp, ?_, ?_, fun hne => word_far h.p1 h.p2 hu hv hne⟩
  · rw [xorOf, if_pos hp]
    unfold wdL
    rw [xorL_bits, word_xor h.p1 h.p2 hu hv]
  · rw [distOf, if_pos hp]
    unfold wdL
    rw [differ_pop]
end Go.Proofs.Ytkaconpbmppekaa
