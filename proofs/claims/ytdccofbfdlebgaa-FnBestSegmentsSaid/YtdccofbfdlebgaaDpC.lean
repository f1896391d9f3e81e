/-
  BestSegments on both sides; the marks of a slice of segments.
  Condition: as each statement says.
-/
import Derived.Test.YtdccofbfdlebgaaDpB
namespace Go.Proofs.Ytdccofbfdlebgaa
open Go Go.RowKit
set_option linter.unusedSimpArgs false
set_option linter.unusedVariables false

/-- What a function leaves that returns a new slice of segments and a code. -/
def NewSI (n : Nat) (M : Nat → Int) (T : Nat → ByteArray) (cd : Int) (w : World) (x : Ending) (w' : World) : Prop :=
  ∃ A c, x = .returned (.tuple #[.slice A n c, .int .i64 cd]) ∧ n ≤ c ∧ c ≤ 9223372036854775807 ∧ OwnS w' w.heap.size (.slice A n c) n (segV M T) ∧ Below w.heap.size w w'
def bsN (s : ByteArray) : Nat := if s.size ≤ 400 then sgN s else 0
theorem bsN_le (s : ByteArray) : bsN s ≤ 400 := by
  unfold bsN
  split
  · have := sgN_le s; omega
  · omega

set_option maxRecDepth 100000 in
set_option maxHeartbeats 1000000 in
theorem specBs (s : ByteArray) (hs : s.size ≤ 1099511627776) (w : World) :
    Calls Try.prog 42 #[.string s] w (NewSI (bsN s) (sgM s) (sgT s) (lbCode s) w) := by
  by_cases hn : s.size ≤ 400
  · have H1 : bsN s = sgN s := by rw [bsN, if_pos hn]
    have H2 : lbCode s = 0 := by rw [lbCode, if_pos hn]
    rw [H1, H2]
    have HC := hide (specBest s hn)
    have hn' : ¬ 400 < s.size := by omega
    clear H1 H2
    go_enter Try.func42, Try.ntmps42
    go_wp2_with fail
    refine (HC.out _).mono ?_
    rintro e w1 ⟨A, c, rfl, hc1, hc2, ho, hb⟩
    have HF := hide (show NewSI (sgN s) (sgM s) (sgT s) 0 w (.returned (.tuple #[.slice A (sgN s) c, .int .i64 0])) w1 from ⟨A, c, rfl, hc1, hc2, ho, hb⟩)
    clear ho hb HC
    go_wp2_with fail
    go_ret2
    exact HF.out
  · have H1 : bsN s = 0 := by rw [bsN, if_neg hn]
    have H2 : lbCode s = 3 := by rw [lbCode, if_neg hn]
    rw [H1, H2]
    have hn' : 400 < s.size := by omega
    have HF := hide (show NewSI 0 (sgM s) (sgT s) 3 w (.returned (.tuple #[.slice none 0 0, .int .i64 3])) w from ⟨none, 0, rfl, Nat.le_refl _, by omega, OwnS.nil _ _ _, Below.refl _ _⟩)
    clear H1 H2
    go_enter Try.func42, Try.ntmps42
    go_wp2_with fail
    go_ret2
    exact HF.out

/-- A table that a call was given by value lies in a block of its own. -/
theorem row_of {w w0 : World} {cs Z : Array Value} {b : Nat} {t : Nat → Cel} (hZ : w.heap[b]? = some (.cells Z 104 (0, 0))) (ht : TabQ cs 401 t) : RowQ (w.setRow b cs) b 104 401 t := ⟨cs, setRow_heap _ _ _ _ _ _ hZ, ht⟩
theorem below_row {w wx : World} {b : Nat} (h : Below w.heap.size w wx) (hb : w.heap.size ≤ b) (cs : Array Value) : Below w.heap.size w (wx.setRow b cs) :=
  ⟨h.os, h.tape, h.output, by simp; exact h.size, fun i hi => (setRow_other wx b i cs (by omega)).trans (h.block i hi)⟩

set_option maxRecDepth 100000 in
set_option maxHeartbeats 1000000 in
theorem implBs (s : ByteArray) (hs : s.size ≤ 1099511627776) (w : World) :
    Calls Try.prog 43 #[.string s] w (NewSI (bsN s) (sgM s) (sgT s) (lbCode s) w) := by
  by_cases hn : s.size ≤ 400
  · have H1 : bsN s = sgN s := by rw [bsN, if_pos hn]
    have H2 : lbCode s = 0 := by rw [lbCode, if_pos hn]
    rw [H1, H2]
    have HC := hide (implChoices s hn)
    obtain ⟨Z, hZ, hz⟩ := zero_table
    have HZ := hide hZ
    clear H1 H2 hZ
    go_enter Try.func43, Try.ntmps43
    go_wp2_with fail
    refine (implIsMsg_yes s hn _).mono ?_
    rintro e _ ⟨rfl, rfl⟩
    go_wp2_with fail
    refine (HC.out _).mono ?_
    rintro e w1 ⟨cs, rfl, ht, hb1⟩
    have HT := hide ht
    have HB1 := hide hb1
    have HS := hide (show (Try.prog.info? 104).map (·.size) = some cs.size by rw [ht.1]; exact size_table)
    have HZS := hide (show Z.size = cs.size by rw [ht.1, HZ.out.1])
    have HRZ := hide (heap_alloc_new w1 (.cells Z 104))
    have HT2 := hide (show tabN (bytesI s) s.size = bsT s by unfold bsT tabT; rw [bytesI_len])
    clear ht hb1 HC
    go_wp2_with (first
      | (with_reducible refine wpList_store_row rfl 104 (.tmp 4) (.tmp 9) rfl w1.heap.size cs rfl rfl 104 Z HRZ.out HS.out HZS.out HT.out.one ?_))
    have HROW := hide (show RowQ ((w1.alloc (.cells Z 104)).setRow w1.heap.size cs) w1.heap.size 104 401 (bsT s) from row_of (w0 := w1) HRZ.out (by rw [← HT2.out]; exact HT.out))
    have HB2 := hide (below_row (HB1.out.alloc HB1.out.size (.cells Z 104)) HB1.out.size cs)
    refine (implSegments s hn w1.heap.size _ HROW.out).mono ?_
    rintro e w3 ⟨A, c, rfl, hc1, hc2, ho, hb⟩
    have HF := hide (show NewSI (sgN s) (sgM s) (sgT s) 0 w (.returned (.tuple #[.slice A (sgN s) c, .int .i64 0])) w3 from ⟨A, c, rfl, hc1, hc2, ho.low HB2.out.size, HB2.out.trans (hb.mono HB2.out.size)⟩)
    clear ho hb
    go_wp2_with fail
    go_ret2
    exact HF.out
  · have H1 : bsN s = 0 := by rw [bsN, if_neg hn]
    have H2 : lbCode s = 3 := by rw [lbCode, if_neg hn]
    rw [H1, H2]
    have HF := hide (show NewSI 0 (sgM s) (sgT s) 3 w (.returned (.tuple #[.slice none 0 0, .int .i64 3])) w from ⟨none, 0, rfl, Nat.le_refl _, by omega, OwnS.nil _ _ _, Below.refl _ _⟩)
    clear H1 H2
    go_enter Try.func43, Try.ntmps43
    go_wp2_with fail
    refine (implIsMsg_no s hs hn _).mono ?_
    rintro e _ ⟨rfl, rfl⟩
    go_wp2_with fail
    go_ret2
    exact HF.out
end Go.Proofs.Ytdccofbfdlebgaa
