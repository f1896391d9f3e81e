/-
  The program's reaches: one step back.
  Condition: as each statement says.
-/
import Derived.Test.YthbmfaogjaahoaaDp2
import Derived.Test.YthbmfaogjaahoaaSg7
import Derived.Test.YthbmfaogjaahoaaSg8
namespace Go.Proofs.Ythbmfaogjaahoaa
open Go.RowKit
set_option linter.unusedSimpArgs false
set_option linter.unusedVariables false

/-- How far a mode reaches one index before. -/
def stb (m y : Int) (sz : Nat) : Nat := if cval m y < 0 then 0 else min (sz + 1) 255
/-- What a step back leaves: one cell has changed. -/
def StepPost (g o ns : Nat) (w : World) (e : Ending) (w' : World) : Prop := e = .returned (.tuple #[]) ∧ ∃ w1, Below w.heap.size w w1 ∧ w' = w1.setCell ⟨g, o + 3, none⟩ (.int .i64 ns)

set_option maxRecDepth 100000 in
set_option maxHeartbeats 2000000 in
theorem implStepA (m : Int) (a : ByteArray) (zz : Int) (g o sz : Nat) (y : Int) (w : World) (hy0 : 0 ≤ y) (hy1 : y ≤ 255) (hsz : sz ≤ 255) (hg : g < w.heap.size)
    (hV : ∀ b w, Calls Try.prog 152 #[.agg #[.string a, .int .i64 zz], .int .i64 b] w (Gives (.int .i64 (cval m b)) w))
    (h1 : w.cell? ⟨g, o + 1, none⟩ = some (.iface 170 (.agg #[.string a, .int .i64 zz]))) (h3 : w.cell? ⟨g, o + 3, none⟩ = some (.int .i64 sz)) (hf : w.frozen? ⟨g, o + 3, none⟩ = false) :
    Calls Try.prog 120 #[.pointer (some ⟨g, o, none⟩), .int .u8 y] w (StepPost g o (stb m y sz) w) := by
  have hmd := mdW_a
  have hwy : IntKind.i64.wrap y = y := IntWalk.i64_in _ ⟨by omega, by omega⟩
  have HV := hide (hV y)
  have HN := hide (fun (wx : World) (hx : Below w.heap.size w wx) => show wx.cell? ⟨g, o + 3, none⟩ = some (.int .i64 sz) ∧ wx.frozen? ⟨g, o + 3, none⟩ = false from ⟨(hx.cell (p := ⟨g, o + 3, none⟩) hg).trans h3, (hx.frozen (p := ⟨g, o + 3, none⟩) hg).trans hf⟩)
  have hcc := cval_cases m y
  clear hV
  go_enter Try.func120, Try.ntmps120
  go_wp2_with fail
  refine (HV.out _).mono ?_
  rintro e w1 ⟨rfl, hb1⟩
  obtain ⟨d3, df⟩ := HN.out w1 hb1
  have HB1 := hide hb1
  clear hb1 h1 h3 hf HV
  by_cases hc : cval m y < 0
  · have HS := hide (show stb m y sz = 0 by unfold stb; rw [if_pos hc])
    have hcv : cval m y = -1 := by omega
    rw [hcv]
    clear hc hcc hcv
    go_wp2_with fail
    first | (refine bodyPost_ret (results_none rfl _ _ _) rfl ?_) | go_end0
    exact ⟨rfl, w1, HB1.out, by rw [HS.out]; rfl⟩
  · have HS := hide (show stb m y sz = min (sz + 1) 255 by unfold stb; rw [if_neg hc])
    obtain ⟨cv, hcv⟩ : ∃ cv, cval m y = cv := ⟨_, rfl⟩
    have hne : (cv == -1) = false := by rw [← hcv]; simp; omega
    rw [hcv]
    clear hc hcc hcv
    by_cases h5 : sz + 1 ≤ 255
    · have HS2 := hide (show stb m y sz = sz + 1 by rw [HS.out]; omega)
      clear HS
      go_wp2_with fail
      first | (refine bodyPost_ret (results_none rfl _ _ _) rfl ?_) | go_end0
      exact ⟨rfl, w1, HB1.out, by rw [HS2.out]; rfl⟩
    · have HS2 := hide (show stb m y sz = 255 by rw [HS.out]; omega)
      have h5' : sz = 255 := by omega
      subst h5'
      clear HS
      go_wp2_with fail
      first | (refine bodyPost_ret (results_none rfl _ _ _) rfl ?_) | go_end0
      exact ⟨rfl, w1, HB1.out, by rw [HS2.out]; rfl⟩

set_option maxRecDepth 100000 in
set_option maxHeartbeats 2000000 in
theorem implStepB (g o sz : Nat) (y : Int) (w : World) (hy0 : 0 ≤ y) (hy1 : y ≤ 255) (hsz : sz ≤ 255) (hg : g < w.heap.size)
    (h1 : w.cell? ⟨g, o + 1, none⟩ = some (.iface 172 (.agg #[]))) (h3 : w.cell? ⟨g, o + 3, none⟩ = some (.int .i64 sz)) (hf : w.frozen? ⟨g, o + 3, none⟩ = false) :
    Calls Try.prog 120 #[.pointer (some ⟨g, o, none⟩), .int .u8 y] w (StepPost g o (stb 4 y sz) w) := by
  have hmd := mdW_b
  have hwy : IntKind.i64.wrap y = y := IntWalk.i64_in _ ⟨by omega, by omega⟩
  have HV := hide (fun w' => implValueB y w')
  have HN := hide (fun (wx : World) (hx : Below w.heap.size w wx) => show wx.cell? ⟨g, o + 3, none⟩ = some (.int .i64 sz) ∧ wx.frozen? ⟨g, o + 3, none⟩ = false from ⟨(hx.cell (p := ⟨g, o + 3, none⟩) hg).trans h3, (hx.frozen (p := ⟨g, o + 3, none⟩) hg).trans hf⟩)
  have hcc := cval_byte hy0 hy1
  rw [hcc] at HV
  have HS := hide (show stb 4 y sz = min (sz + 1) 255 by unfold stb; rw [hcc, if_neg (by omega)])
  have hne : (y == -1) = false := by simp; omega
  clear hcc
  go_enter Try.func120, Try.ntmps120
  go_wp2_with fail
  refine (HV.out _).mono ?_
  rintro e w1 ⟨rfl, hb1⟩
  obtain ⟨d3, df⟩ := HN.out w1 hb1
  have HB1 := hide hb1
  clear hb1 h1 h3 hf HV
  by_cases h5 : sz + 1 ≤ 255
  · have HS2 := hide (show stb 4 y sz = sz + 1 by rw [HS.out]; omega)
    clear HS
    go_wp2_with fail
    first | (refine bodyPost_ret (results_none rfl _ _ _) rfl ?_) | go_end0
    exact ⟨rfl, w1, HB1.out, by rw [HS2.out]; rfl⟩
  · have HS2 := hide (show stb 4 y sz = 255 by rw [HS.out]; omega)
    have h5' : sz = 255 := by omega
    subst h5'
    clear HS
    go_wp2_with fail
    first | (refine bodyPost_ret (results_none rfl _ _ _) rfl ?_) | go_end0
    exact ⟨rfl, w1, HB1.out, by rw [HS2.out]; rfl⟩
/-- One step back, in whatever mode. -/
theorem implStep (m : Int) (hm : 1 ≤ m ∧ m ≤ 4) (g o sz : Nat) (y : Int) (w : World) (hy0 : 0 ≤ y) (hy1 : y ≤ 255) (hsz : sz ≤ 255) (hg : g < w.heap.size)
    (h1 : w.cell? ⟨g, o + 1, none⟩ = some (MV m)) (h3 : w.cell? ⟨g, o + 3, none⟩ = some (.int .i64 sz)) (hf : w.frozen? ⟨g, o + 3, none⟩ = false) :
    Calls Try.prog 120 #[.pointer (some ⟨g, o, none⟩), .int .u8 y] w (StepPost g o (stb m y sz) w) := by
  by_cases h4 : m = 4
  · subst h4; rw [MV_b] at h1; exact implStepB g o sz y w hy0 hy1 hsz hg h1 h3 hf
  · have hm3 : m = 1 ∨ m = 2 ∨ m = 3 := by omega
    rw [MV_a hm3] at h1
    refine implStepA m _ _ g o sz y w hy0 hy1 hsz hg (fun b w' => ?_) h1 h3 hf
    have h := implValueA (stS m) ((gsz m : Nat) : Int) b (by rw [stS_chars hm3]; exact ch_lt m) (by rw [stS_size hm3]; rcases hm3 with rfl | rfl | rfl <;> decide) w'
    rw [stS_chars hm3, ← cval_pos hm3] at h
    exact h
end Go.Proofs.Ythbmfaogjaahoaa
