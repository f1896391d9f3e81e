/-
  A slice of segments that came in as an argument of a law.
  No condition.
-/
import Derived.Test.YtdccofbfdlebgaaShell
import Derived.Test.YtdccofbfdlebgaaSq1
import Derived.Deep.SlicePairs
namespace Go.Proofs.Ytdccofbfdlebgaa
open Go.ChangeShapes Go.WideShapes Go.ChangeAt Go.RowKit

/-- A slice of segments that came in. -/
def CameS (w : World) (A : Option Addr) (n c : Nat) (M : Nat → Int) (T : Nat → ByteArray) : Prop :=
  Segs w w.heap.size A n M T ∧ n ≤ c ∧ c ≤ maxLen ∧ ∀ j, j < n → (T j).size ≤ maxLen
def intV (v : Value) : Int := match v with | .int _ x => x | _ => 0
def strV (v : Value) : ByteArray := match v with | .string s => s | _ => ByteArray.empty

set_option maxRecDepth 8000 in
theorem cameS_of {H : Type} {enc : TypeId × Value → H} {W : World} {base : Nat} {sp : Nat → Bool} {held : Bool} {A : Option Addr} {n c : Nat} {d : DataW H} {ps : List MemPlace}
    (h : DataW.Trod enc Try.prog W base sp held 40 (.slice A n c) d ps) : ∃ M T, CameS W A n c M T := by
  obtain ⟨fuel, hf⟩ := h
  rcases Go.Deep.open_slice_pairs Try.underlying40 Try.underlying83 (by kernel_rfl) rfl rfl (by kernel_rfl) (by kernel_rfl) hf with ⟨hcs, _⟩ | ⟨a, len, cap, m, nf, V0, V1, D0, D1, P0, P1, hcs, _, hl, hm, hmm, _, hi⟩
  · simp [Value.cells] at hcs
    obtain ⟨rfl, rfl, rfl⟩ := hcs
    exact ⟨fun _ => 0, fun _ => ByteArray.empty, fun h => absurd h (by omega), by omega, by unfold maxLen; omega, fun j hj => absurd hj (by omega)⟩
  · simp [Value.cells] at hcs
    obtain ⟨rfl, rfl, rfl⟩ := hcs
    have hlm : n ≤ m := by rw [hmm]; split <;> omega
    have key : ∀ i, i < n → W.cell? (a.add (i * 2)) = some (.int .i64 (intV (V0 i))) ∧ W.cell? (a.add (i * 2 + 1)) = some (.string (strV (V1 i))) ∧ (strV (V1 i)).size ≤ maxLen := fun i hin => by
      obtain ⟨c0, c1, t0, t1⟩ := hi i (by omega)
      obtain ⟨x, hx, _, _⟩ := DataW.trod_int Try.underlying2 t0
      obtain ⟨s, hs, _, ws⟩ := DataW.trod_string Try.underlying9 t1
      simp only [List.cons.injEq, and_true] at hx hs
      rw [hx] at c0 ⊢
      rw [hs] at c1 ⊢
      exact ⟨c0, c1, ws⟩
    refine ⟨fun i => intV (V0 i), fun i => strV (V1 i), fun hn => ?_, hl, hm, fun j hj => (key j hj).2.2⟩
    obtain ⟨b, off, spot⟩ := a
    have hc0 := (key 0 hn).1
    have hspot : spot = none := by simpa [Addr.add] using World.cell?_spot hc0
    subst hspot
    refine ⟨b, off, rfl, World.block_lt_of_cell? W _ (by simpa [Addr.add] using hc0), fun j hj => ?_⟩
    obtain ⟨k0, k1, _⟩ := key j hj
    rw [addr_add] at k0 k1
    exact ⟨k0, by rw [Nat.add_assoc]; exact k1⟩
end Go.Proofs.Ytdccofbfdlebgaa
