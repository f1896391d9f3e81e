/-
  A field that came in as an argument of a law: three integers, opened and shut.
  A family that came in as an argument of a law: opened.
  Condition: as each statement says.
-/
import Derived.Test.YtncgeoliboidhaaShell
import Derived.Lib.SmallJoins
namespace Go.Proofs.Ytncgeoliboidhaa
open Go.ChangeShapes Go.WideShapes Go.ChangeAt Go.RowKit Go.Joins

set_option maxRecDepth 8000 in
theorem openField {H : Type} {enc : TypeId × Value → H} {W : World} {base b0 : Nat} {sp : Nat → Bool} {held : Bool} {r : Reach} {v : Value} {d : DataW H} {ps : List MemPlace}
    (hv : Value.okWide Try.prog W r b0 23 v) (h : DataW.Trod enc Try.prog W base sp held 23 v d ps) :
    ∃ x y z : Int, v = .agg #[.int .i64 x, .int .i64 y, .int .i64 z] ∧ d = .agg [.lit (.int .i64 x), .lit (.int .i64 y), .lit (.int .i64 z)] ∧ ps = [] ∧ (Lit.int .i64 x).wf = true ∧ (Lit.int .i64 y).wf = true ∧ (Lit.int .i64 z).wf = true := by
  obtain ⟨v0, v1, v2, y0, y1, y2, n, rfl, rfl, rfl, t0, t1, t2⟩ := open_agg3 Try.underlying23 (by kernel_rfl) (by kernel_rfl) hv h
  obtain ⟨x, hx, hy, wx⟩ := DataW.trod_int Try.underlying2 t0
  obtain ⟨y, hx1, hy1, wy⟩ := DataW.trod_int Try.underlying2 t1
  obtain ⟨z, hx2, hy2, wz⟩ := DataW.trod_int Try.underlying2 t2
  simp only [List.cons.injEq, and_true] at hx hx1 hx2
  subst hx hx1 hx2 hy hy1 hy2
  exact ⟨x, y, z, rfl, rfl, rfl, wx, wy, wz⟩
set_option maxRecDepth 8000 in
theorem shutField {H : Type} {enc : TypeId × Value → H} {W : World} {base : Nat} {sp : Nat → Bool} {held : Bool} {x y z : Int} (wx : (Lit.int .i64 x).wf = true) (wy : (Lit.int .i64 y).wf = true) (wz : (Lit.int .i64 z).wf = true) :
    DataW.Trod enc Try.prog W base sp held 23 (.agg #[.int .i64 x, .int .i64 y, .int .i64 z]) (.agg [.lit (.int .i64 x), .lit (.int .i64 y), .lit (.int .i64 z)]) [] := by
  simpa using shut_agg3 (enc := enc) (w := W) (base := base) (spare := sp) (held := held) (y0 := (.lit (.int .i64 x), [])) (y1 := (.lit (.int .i64 y), [])) (y2 := (.lit (.int .i64 z), [])) Try.underlying23 (by kernel_rfl) (by kernel_rfl)
    ⟨1, by simp [DataW.trod, Try.underlying2, wx]⟩ ⟨1, by simp [DataW.trod, Try.underlying2, wy]⟩ ⟨1, by simp [DataW.trod, Try.underlying2, wz]⟩
end Go.Proofs.Ytncgeoliboidhaa

namespace Go.Proofs.Ytncgeoliboidhaa
open Go.ChangeShapes Go.WideShapes Go.ChangeAt Go.RowKit Go.Joins Go.Deep

set_option maxRecDepth 8000 in
theorem openFamily {H : Type} {enc : TypeId × Value → H} {W : World} {base b0 : Nat} {sp : Nat → Bool} {held : Bool} {r : Reach} {v : Value} {d : DataW H} {ps : List MemPlace}
    (hv : Value.okWide Try.prog W r b0 26 v) (h : DataW.Trod enc Try.prog W base sp held 26 v d ps) :
    ∃ (s : ByteArray) (κ x y z : Int) (A : Option Addr) (n c : Nat) (C : Int) (A' : Option Addr) (n' c' : Nat) (zs ls : List Int),
      v = .agg #[.string s, .int .i64 κ, .int .i64 x, .int .i64 y, .int .i64 z, .slice A n c, .int .i64 C, .slice A' n' c'] ∧ s.size ≤ maxLen ∧
      ((Lit.int .i64 κ).wf = true ∧ (Lit.int .i64 x).wf = true ∧ (Lit.int .i64 y).wf = true ∧ (Lit.int .i64 z).wf = true ∧ (Lit.int .i64 C).wf = true) ∧ Came .i64 W A n c zs ∧ Came .i64 W A' n' c' ls := by
  have k0 : Try.prog.cellsOf 26 = 8 := by kernel_rfl
  have k1 : Try.prog.cellsOf 23 = 3 := by kernel_rfl
  have k2 : Try.prog.cellsOf 2 = 1 := by kernel_rfl
  have k3 : Try.prog.cellsOf 9 = 1 := by kernel_rfl
  have k4 : Try.prog.cellsOf 24 = 1 := by kernel_rfl
  obtain ⟨cs, rfl, hsz⟩ := okWide_struct Try.underlying26 hv
  obtain ⟨cl⟩ := cs
  match cl, hsz.trans k0 with
  | [q0, q1, q2, q3, q4, q5, q6, q7], _ =>
    obtain ⟨fuel, hf⟩ := h
    obtain ⟨xs, n, _, hx, _, hlen, hg⟩ := DataW.trod_struct Try.underlying26 hf
    match xs, hlen with
    | [y0, y1, y2, y3, y4, y5], _ =>
      have h0 : DataW.trod enc Try.prog W base sp held n 9 ((([q0, q1, q2, q3, q4, q5, q6, q7] : List Value).drop 0).take (Try.prog.cellsOf 9)) = some y0 := hg 0 _ rfl
      have h1 : DataW.trod enc Try.prog W base sp held n 2 ((([q0, q1, q2, q3, q4, q5, q6, q7] : List Value).drop 1).take (Try.prog.cellsOf 2)) = some y1 := hg 1 _ rfl
      have h2 : DataW.trod enc Try.prog W base sp held n 23 ((([q0, q1, q2, q3, q4, q5, q6, q7] : List Value).drop 2).take (Try.prog.cellsOf 23)) = some y2 := hg 2 _ rfl
      have h3 : DataW.trod enc Try.prog W base sp held n 24 ((([q0, q1, q2, q3, q4, q5, q6, q7] : List Value).drop 5).take (Try.prog.cellsOf 24)) = some y3 := hg 3 _ rfl
      have h4 : DataW.trod enc Try.prog W base sp held n 2 ((([q0, q1, q2, q3, q4, q5, q6, q7] : List Value).drop 6).take (Try.prog.cellsOf 2)) = some y4 := hg 4 _ rfl
      have h5 : DataW.trod enc Try.prog W base sp held n 24 ((([q0, q1, q2, q3, q4, q5, q6, q7] : List Value).drop 7).take (Try.prog.cellsOf 24)) = some y5 := hg 5 _ rfl
      simp only [k1, k2, k3, k4, List.drop_zero, List.take_succ_cons, List.take_zero, List.drop_succ_cons] at h0 h1 h2 h3 h4 h5
      obtain ⟨z0, z1, z2, m, hy, _, g0, g1, g2⟩ := trod_struct3 Try.underlying23 h2
      simp only [k2, List.drop_zero, List.take_succ_cons, List.take_zero, List.drop_succ_cons] at g0 g1 g2
      obtain ⟨s, hs, _, ws⟩ := DataW.trod_string Try.underlying9 h0
      obtain ⟨κ, hk, _, wk⟩ := DataW.trod_int Try.underlying2 h1
      obtain ⟨x, hx0, _, wx⟩ := DataW.trod_int Try.underlying2 g0
      obtain ⟨y, hx1, _, wy⟩ := DataW.trod_int Try.underlying2 g1
      obtain ⟨z, hx2, _, wz⟩ := DataW.trod_int Try.underlying2 g2
      obtain ⟨C, hx3, _, wC⟩ := DataW.trod_int Try.underlying2 h4
      simp only [List.cons.injEq, and_true] at hs hk hx0 hx1 hx2 hx3
      subst hs hk hx0 hx1 hx2 hx3
      have sl : ∀ {u : Value} {y : DataW H × List MemPlace}, DataW.trod enc Try.prog W base sp held n 24 [u] = some y → ∃ A c l zs, u = .slice A l c ∧ Came .i64 W A l c zs := by
        intro u y hu
        rcases DataW.trod_slice Try.underlying24 hu with ⟨e, _⟩ | ⟨a, l, c, _, _, _, _, e, _⟩
        · simp only [List.cons.injEq, and_true] at e
          subst e
          obtain ⟨zs, hz⟩ := came_of (k := .i64) Try.underlying24 Try.underlying2 (by kernel_rfl) (show DataW.Trod enc Try.prog W base sp held 24 (.slice none 0 0) y.1 y.2 from ⟨n, hu⟩)
          exact ⟨_, _, _, zs, rfl, hz⟩
        · simp only [List.cons.injEq, and_true] at e
          subst e
          obtain ⟨zs, hz⟩ := came_of (k := .i64) Try.underlying24 Try.underlying2 (by kernel_rfl) (show DataW.Trod enc Try.prog W base sp held 24 (.slice (some a) l c) y.1 y.2 from ⟨n, hu⟩)
          exact ⟨_, _, _, zs, rfl, hz⟩
      obtain ⟨A, c, l, zs, rfl, hz⟩ := sl h3
      obtain ⟨A', c', l', ls, rfl, hl⟩ := sl h5
      exact ⟨s, κ, x, y, z, A, l, c, C, A', l', c', zs, ls, rfl, ws, ⟨wk, wx, wy, wz, wC⟩, hz, hl⟩
end Go.Proofs.Ytncgeoliboidhaa
