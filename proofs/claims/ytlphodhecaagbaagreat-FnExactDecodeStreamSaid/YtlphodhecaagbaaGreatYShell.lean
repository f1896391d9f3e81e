/-
  A layout that came in as an argument of a law: a field and three integers, opened and shut.
  No condition.
-/
import Derived.Test.YtlphodhecaagbaaGreatJH
namespace Go.Proofs.YtlphodhecaagbaaGreat
open Go.ChangeShapes Go.WideShapes Go.ChangeAt Go.RowKit Go.Joins Go.Deep

set_option maxRecDepth 8000 in
theorem openLayout {H : Type} {enc : TypeId × Value → H} {W : World} {base b0 : Nat} {sp : Nat → Bool} {held : Bool} {r : Reach} {v : Value} {d : DataW H} {ps : List MemPlace}
    (hv : Value.okWide Tryz.prog W r b0 50 v) (h : DataW.Trod enc Tryz.prog W base sp held 50 v d ps) :
    ∃ x y z d' k c : Int, v = .agg #[.int .i64 x, .int .i64 y, .int .i64 z, .int .i64 d', .int .i64 k, .int .i64 c] ∧ d = .agg [.agg [.lit (.int .i64 x), .lit (.int .i64 y), .lit (.int .i64 z)], .lit (.int .i64 d'), .lit (.int .i64 k), .lit (.int .i64 c)] ∧ ps = [] ∧
      (Lit.int .i64 x).wf = true ∧ (Lit.int .i64 y).wf = true ∧ (Lit.int .i64 z).wf = true ∧ (Lit.int .i64 d').wf = true ∧ (Lit.int .i64 k).wf = true ∧ (Lit.int .i64 c).wf = true := by
  have k0 : Tryz.prog.cellsOf 50 = 6 := by kernel_rfl
  have k1 : Tryz.prog.cellsOf 48 = 3 := by kernel_rfl
  have k2 : Tryz.prog.cellsOf 2 = 1 := by kernel_rfl
  obtain ⟨cs, rfl, hsz⟩ := okWide_struct Tryz.underlying50 hv
  obtain ⟨cl⟩ := cs
  match cl, hsz.trans k0 with
  | [q0, q1, q2, q3, q4, q5], _ =>
    obtain ⟨fuel, hf⟩ := h
    obtain ⟨y0, y1, y2, y3, n, hx, _, h0, h1, h2, h3⟩ := trod_struct4 Tryz.underlying50 hf
    simp only [k1, k2, Value.cells, List.drop_zero, List.take_succ_cons, List.take_zero, List.drop_succ_cons] at h0 h1 h2 h3
    obtain ⟨z0, z1, z2, m, hy, _, g0, g1, g2⟩ := trod_struct3 Tryz.underlying48 h0
    simp only [k2, List.drop_zero, List.take_succ_cons, List.take_zero, List.drop_succ_cons] at g0 g1 g2
    obtain ⟨x, hx0, hy0, wx⟩ := DataW.trod_int Tryz.underlying2 g0
    obtain ⟨y, hx1, hy1, wy⟩ := DataW.trod_int Tryz.underlying2 g1
    obtain ⟨z, hx2, hy2, wz⟩ := DataW.trod_int Tryz.underlying2 g2
    obtain ⟨d', hx3, hy3, wd⟩ := DataW.trod_int Tryz.underlying2 h1
    obtain ⟨k, hx4, hy4, wk⟩ := DataW.trod_int Tryz.underlying2 h2
    obtain ⟨c, hx5, hy5, wc⟩ := DataW.trod_int Tryz.underlying2 h3
    simp only [List.cons.injEq, and_true] at hx0 hx1 hx2 hx3 hx4 hx5
    subst hx0 hx1 hx2 hx3 hx4 hx5 hy0 hy1 hy2 hy3 hy4 hy5 hy
    simp only [Prod.mk.injEq] at hx
    exact ⟨x, y, z, d', k, c, rfl, hx.1, hx.2, wx, wy, wz, wd, wk, wc⟩
set_option maxRecDepth 8000 in
theorem shutLayout {H : Type} {enc : TypeId × Value → H} {W : World} {base : Nat} {sp : Nat → Bool} {held : Bool} {x y z d k c : Int} (wx : (Lit.int .i64 x).wf = true) (wy : (Lit.int .i64 y).wf = true) (wz : (Lit.int .i64 z).wf = true) (wd : (Lit.int .i64 d).wf = true) (wk : (Lit.int .i64 k).wf = true) (wc : (Lit.int .i64 c).wf = true) :
    DataW.Trod enc Tryz.prog W base sp held 50 (.agg #[.int .i64 x, .int .i64 y, .int .i64 z, .int .i64 d, .int .i64 k, .int .i64 c]) (.agg [.agg [.lit (.int .i64 x), .lit (.int .i64 y), .lit (.int .i64 z)], .lit (.int .i64 d), .lit (.int .i64 k), .lit (.int .i64 c)]) [] := by
  have k0 : Tryz.prog.cellsOf 50 = 6 := by kernel_rfl
  have k1 : Tryz.prog.cellsOf 48 = 3 := by kernel_rfl
  have k2 : Tryz.prog.cellsOf 2 = 1 := by kernel_rfl
  have hF : ∀ n, DataW.trod enc Tryz.prog W base sp held (n + 2) 48 [.int .i64 x, .int .i64 y, .int .i64 z] = some (.agg [.lit (.int .i64 x), .lit (.int .i64 y), .lit (.int .i64 z)], []) := by
    intro n
    have k3 : Tryz.prog.cellsOf 48 = 3 := k1
    have := trod_struct3_mk (enc := enc) (w := W) (base := base) (spare := sp) (held := held) (n := n + 1) (cs := [.int .i64 x, .int .i64 y, .int .i64 z]) (y0 := (.lit (.int .i64 x), [])) (y1 := (.lit (.int .i64 y), [])) (y2 := (.lit (.int .i64 z), [])) Tryz.underlying48 (by rw [k3]; rfl)
      (by simp [k2, DataW.trod, Tryz.underlying2, wx]) (by simp [k2, DataW.trod, Tryz.underlying2, wy]) (by simp [k2, DataW.trod, Tryz.underlying2, wz])
    simpa using this
  have := trod_struct4_mk (enc := enc) (w := W) (base := base) (spare := sp) (held := held) (n := 2) (cs := [.int .i64 x, .int .i64 y, .int .i64 z, .int .i64 d, .int .i64 k, .int .i64 c]) (y0 := (.agg [.lit (.int .i64 x), .lit (.int .i64 y), .lit (.int .i64 z)], [])) (y1 := (.lit (.int .i64 d), [])) (y2 := (.lit (.int .i64 k), [])) (y3 := (.lit (.int .i64 c), [])) Tryz.underlying50 (by rw [k0]; rfl)
    (by simpa [k1] using hF 0) (by simp [k2, DataW.trod, Tryz.underlying2, wd]) (by simp [k2, DataW.trod, Tryz.underlying2, wk]) (by simp [k2, DataW.trod, Tryz.underlying2, wc])
  exact ⟨3, by simpa [Value.cells] using this⟩
end Go.Proofs.YtlphodhecaagbaaGreat
