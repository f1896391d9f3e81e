/-
  The length of the best segmentation, on both sides.
  Condition: as each statement says.
-/
import Derived.Test.YthmpfnbcodolcaaDp8
import Derived.Test.YthmpfnbcodolcaaSm1
namespace Go.Proofs.Ythmpfnbcodolcaa
open Go Go.RowKit
set_option linter.unusedSimpArgs false
set_option linter.unusedVariables false

theorem index_first {cs : Array Value} {t : Nat → Cel} (h : TabQ cs 401 t) (w : World) : (Instr.index 136 (.agg cs) (.int .i64 0)).run Try.prog w = .ok (CV (t 0)) w := by
  have hi : (Try.prog.info? 134).map (fun i => i.size) = some 4 := by kernel_rfl
  have hs : (sizeOf 134).run Try.prog w = .ok 4 w := by
    cases hq : Try.prog.info? 134 with
    | none => simp [hq] at hi
    | some i => simp [hq] at hi; simp [sizeOf, typeInfo, hq, hi]
  have hagg : (isAgg 134).run Try.prog w = .ok true w := by
    unfold isAgg
    rw [Sem.run_bind, run_underlying Try.underlying134 w]
    rfl
  obtain ⟨h0, h1, h2, h3⟩ := h.2 0 (by omega)
  have hsz := h.1
  simp [Instr.index, asIntOf, run_underlying Try.underlying136, hs, part, hagg]
  unfold CV
  refine congrArg Value.agg (Array.ext_getElem? fun i => ?_)
  rw [Array.getElem?_extract]
  match i with
  | 0 => simpa [hsz] using h0
  | 1 => simpa [hsz] using h1
  | 2 => simpa [hsz] using h2
  | 3 => simpa [hsz] using h3
  | k + 4 => rw [if_neg (by omega)]; rfl

theorem field_total (a b c d : Int) (w : World) : (Instr.field 134 (.agg #[.int .i64 a, .int .i64 b, .int .i64 c, .int .i64 d]) 0).run Try.prog w = .ok (.agg #[.int .i64 a, .int .i64 b]) w := by kernel_rfl
theorem field_bits (a b : Int) (w : World) : (Instr.field 132 (.agg #[.int .i64 a, .int .i64 b]) 0).run Try.prog w = .ok (.int .i64 a) w := by kernel_rfl
/-- What BestLength gives. -/
def blOf (s : ByteArray) : Int := if s.size ≤ 400 then (((tabN (bytesI s) s.size 0).l : Nat) : Int) else 0
set_option maxRecDepth 100000 in
set_option maxHeartbeats 1000000 in
theorem implBl (s : ByteArray) (hs : s.size ≤ 1099511627776) (w : World) :
    Calls Try.prog 71 #[.string s] w (GivesII (blOf s) (lbCode s) w) := by
  by_cases hn : s.size ≤ 400
  · have H1 := hide (show blOf s = (((tabN (bytesI s) s.size 0).l : Nat) : Int) by rw [blOf, if_pos hn])
    have H2 := hide (show lbCode s = 0 by rw [lbCode, if_pos hn])
    have HC := hide (implChoices s hn)
    go_enter Try.func71, Try.ntmps71
    go_wp2_with fail
    refine (implIsMsg_yes s hn _).mono ?_
    rintro e _ ⟨rfl, rfl⟩
    go_wp2_with fail
    refine (HC.out _).mono ?_
    rintro e w1 ⟨cs, rfl, ht, hb1⟩
    have hix := index_first ht w1
    unfold CV at hix
    have hf1 := fun a b c d => field_total a b c d w1
    have hf2 := fun a b => field_bits a b w1
    have HB1 := hide hb1
    clear hb1 ht HC
    go_wp2_with fail
    go_ret2
    exact ⟨ret_ii H1.out H2.out, HB1.out⟩
  · have H1 := hide (show blOf s = 0 by rw [blOf, if_neg hn])
    have H2 := hide (show lbCode s = 3 by rw [lbCode, if_neg hn])
    go_enter Try.func71, Try.ntmps71
    go_wp2_with fail
    refine (implIsMsg_no s hs hn _).mono ?_
    rintro e _ ⟨rfl, rfl⟩
    go_wp2_with fail
    go_ret2
    exact ⟨ret_ii H1.out H2.out, Below.refl _ _⟩
set_option maxRecDepth 100000 in
set_option maxHeartbeats 1000000 in
theorem specBl (s : ByteArray) (hs : s.size ≤ 1099511627776) (w : World) :
    Calls Try.prog 70 #[.string s] w (GivesII (blOf s) (lbCode s) w) := by
  by_cases hn : s.size ≤ 400
  · have H1 := hide (show blOf s = (((tabN (bytesI s) s.size 0).l : Nat) : Int) by rw [blOf, if_pos hn])
    have H2 := hide (show lbCode s = 0 by rw [lbCode, if_pos hn])
    have HC := hide (specTable s hn)
    have hn' : ¬ 400 < s.size := by omega
    go_enter Try.func70, Try.ntmps70
    go_wp2_with fail
    refine (HC.out _).mono ?_
    rintro e w1 ⟨rfl, hr, hb1⟩
    obtain ⟨d0, _⟩ := hr.cells (i := 0) (by omega)
    rw [Nat.zero_mul] at d0
    have HB1 := hide hb1
    clear hb1 hr HC
    go_wp2_with fail
    go_ret2
    exact ⟨ret_ii H1.out H2.out, HB1.out⟩
  · have H1 := hide (show blOf s = 0 by rw [blOf, if_neg hn])
    have H2 := hide (show lbCode s = 3 by rw [lbCode, if_neg hn])
    have hn' : 400 < s.size := by omega
    go_enter Try.func70, Try.ntmps70
    go_wp2_with fail
    go_ret2
    exact ⟨ret_ii H1.out H2.out, Below.refl _ _⟩
end Go.Proofs.Ythmpfnbcodolcaa
