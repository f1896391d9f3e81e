/-
  A part, and a slice of parts, that came in as an argument of a law: opened and shut.
  No condition.
-/
import Derived.Test.YthbmfaogjaahoaaShell
import Derived.Test.YthbmfaogjaahoaaRA
import Derived.Lib.SmallJoins
import Derived.Deep.Slices
import Derived.Deep.SlicePairs
namespace Go.Proofs.Ythbmfaogjaahoaa
open Go.ChangeShapes Go.WideShapes Go.ChangeAt Go.RowKit Go.Joins Go.Deep

set_option maxRecDepth 8000 in
theorem openPart {H : Type} {enc : TypeId × Value → H} {W : World} {base b0 : Nat} {sp : Nat → Bool} {held : Bool} {r : Reach} {v : Value} {d : DataW H} {ps : List MemPlace}
    (hv : Value.okWide Try.prog W r b0 23 v) (h : DataW.Trod enc Try.prog W base sp held 23 v d ps) :
    ∃ (x y z : Int) (s : ByteArray), v = .agg #[.int .i64 x, .int .i64 y, .int .i64 z, .string s] ∧ d = .agg [.lit (.int .i64 x), .lit (.int .i64 y), .lit (.int .i64 z), .lit (.string s.data.toList)] ∧ ps = [] ∧
      (Lit.int .i64 x).wf = true ∧ (Lit.int .i64 y).wf = true ∧ (Lit.int .i64 z).wf = true ∧ s.size ≤ maxLen := by
  obtain ⟨v0, v1, v2, v3, y0, y1, y2, y3, n, rfl, rfl, rfl, t0, t1, t2, t3⟩ := open_agg4 Try.underlying23 (by kernel_rfl) (by kernel_rfl) hv h
  obtain ⟨x, hx, hy, wx⟩ := DataW.trod_int Try.underlying2 t0
  obtain ⟨x', hx', hy', wx'⟩ := DataW.trod_int Try.underlying2 t1
  obtain ⟨x2, hx2, hy2, wx2⟩ := DataW.trod_int Try.underlying2 t2
  obtain ⟨s, hs, hz, ws⟩ := DataW.trod_string Try.underlying9 t3
  simp only [List.cons.injEq, and_true] at hx hx' hx2 hs
  subst hx hx' hx2 hs hy hy' hy2 hz
  exact ⟨x, x', x2, s, rfl, rfl, rfl, wx, wx', wx2, ws⟩
set_option maxRecDepth 8000 in
theorem shutPart {H : Type} {enc : TypeId × Value → H} {W : World} {base : Nat} {sp : Nat → Bool} {held : Bool} {x y z : Int} {s : ByteArray} (wx : (Lit.int .i64 x).wf = true) (wy : (Lit.int .i64 y).wf = true) (wz : (Lit.int .i64 z).wf = true) (ws : s.size ≤ maxLen) :
    DataW.Trod enc Try.prog W base sp held 23 (.agg #[.int .i64 x, .int .i64 y, .int .i64 z, .string s]) (.agg [.lit (.int .i64 x), .lit (.int .i64 y), .lit (.int .i64 z), .lit (.string s.data.toList)]) [] := by
  simpa using shut_agg4 (enc := enc) (w := W) (base := base) (spare := sp) (held := held) (y0 := (.lit (.int .i64 x), [])) (y1 := (.lit (.int .i64 y), [])) (y2 := (.lit (.int .i64 z), [])) (y3 := (.lit (.string s.data.toList), [])) Try.underlying23 (by kernel_rfl) (by kernel_rfl)
    ⟨1, by simp [DataW.trod, Try.underlying2, wx]⟩ ⟨1, by simp [DataW.trod, Try.underlying2, wy]⟩ ⟨1, by simp [DataW.trod, Try.underlying2, wz]⟩ (Go.Deep.shut_string_cell Try.underlying9 ws)

/-- A slice of parts that came in. -/
def CamePt (w : World) (A : Option Addr) (n c : Nat) (X : Nat → PtV) : Prop :=
  Pts w w.heap.size A n X ∧ n ≤ c ∧ c ≤ maxLen ∧ ∀ j, j < n → (X j).wf
def intVp (v : Value) : Int := match v with | .int _ x => x | _ => 0
def strVp (v : Value) : ByteArray := match v with | .string s => s | _ => ByteArray.empty

set_option maxRecDepth 8000 in
theorem camePt_of {H : Type} {enc : TypeId × Value → H} {W : World} {base : Nat} {sp : Nat → Bool} {held : Bool} {A : Option Addr} {n c : Nat} {d : DataW H} {ps : List MemPlace}
    (h : DataW.Trod enc Try.prog W base sp held 48 (.slice A n c) d ps) : ∃ X, CamePt W A n c X := by
  obtain ⟨fuel, hf⟩ := h
  rcases open_slice Try.underlying48 hf with ⟨hcs, _⟩ | ⟨a, len, cap, m, nf, D, Pl, hcs, _, hl, hm, hmm, _, hx⟩
  · simp [Value.cells] at hcs
    obtain ⟨rfl, rfl, rfl⟩ := hcs
    exact ⟨fun _ => PtV.zero, fun h => absurd h (by omega), by omega, by unfold maxLen; omega, fun j hj => absurd hj (by omega)⟩
  · simp [Value.cells] at hcs
    obtain ⟨rfl, rfl, rfl⟩ := hcs
    have hlm : n ≤ m := by rw [hmm]; split <;> omega
    have ce : Try.prog.cellsOf 23 = 4 := by kernel_rfl
    have ci : Try.prog.cellsOf 2 = 1 := by kernel_rfl
    have cs1 : Try.prog.cellsOf 9 = 1 := by kernel_rfl
    have each : ∀ i, i < m → ∃ q : PtV, W.cell? (a.add (i * 4)) = some (.int .i64 q.i) ∧ W.cell? (a.add (i * 4 + 1)) = some (.int .i64 q.c) ∧ W.cell? (a.add (i * 4 + 2)) = some (.int .i64 q.p) ∧ W.cell? (a.add (i * 4 + 3)) = some (.string q.t) ∧ q.wf := by
      intro i hi
      obtain ⟨cs', h1, h2⟩ := hx i hi
      rw [ce] at h1
      obtain ⟨_, hlen, hcell⟩ := World.cells?_some h1
      obtain ⟨y0, y1, y2, y3, k, _, _, g0, g1, g2, g3⟩ := trod_struct4 Try.underlying23 h2
      match cs', hlen with
      | [v0, v1, v2, v3], _ =>
        simp only [ci, cs1, List.drop_zero, List.take_succ_cons, List.take_zero, List.drop_succ_cons] at g0 g1 g2 g3
        obtain ⟨x0, hx0, _, wx0⟩ := DataW.trod_int Try.underlying2 g0
        obtain ⟨x1, hx1, _, wx1⟩ := DataW.trod_int Try.underlying2 g1
        obtain ⟨x2, hx2, _, wx2⟩ := DataW.trod_int Try.underlying2 g2
        obtain ⟨s, hs, _, ws⟩ := DataW.trod_string Try.underlying9 g3
        simp only [List.cons.injEq, and_true] at hx0 hx1 hx2 hs
        subst hx0 hx1 hx2 hs
        have e0 := hcell 0 (by omega)
        have e1 := hcell 1 (by omega)
        have e2 := hcell 2 (by omega)
        have e3 := hcell 3 (by omega)
        rw [add_add] at e0 e1 e2 e3
        exact ⟨⟨x0, x1, x2, s⟩, by simpa using e0, by simpa using e1, by simpa using e2, by simpa using e3, ⟨wx0, wx1, wx2⟩, ws⟩
    haveI : Inhabited PtV := ⟨PtV.zero⟩
    obtain ⟨q, hq⟩ := choose_lt each
    refine ⟨q, fun hn => ?_, hl, hm, fun j hj => (hq j (by omega)).2.2.2.2⟩
    obtain ⟨b, off, spot⟩ := a
    have hc0 := (hq 0 (by omega)).1
    have hspot : spot = none := by simpa [Addr.add] using World.cell?_spot hc0
    subst hspot
    refine ⟨b, off, rfl, World.block_lt_of_cell? W _ (by simpa [Addr.add] using hc0), fun j hj => ?_⟩
    obtain ⟨k0, k1, k2, k3, _⟩ := hq j (by omega)
    rw [addr_add] at k0 k1 k2 k3
    exact ⟨k0, by rw [Nat.add_assoc]; exact k1, by rw [Nat.add_assoc]; exact k2, by rw [Nat.add_assoc]; exact k3⟩
end Go.Proofs.Ythbmfaogjaahoaa
