/-
  What CorrectWord, IsCorrectable and DamageOf return, of the model and of the program, side by side.
  Condition: lists shorter than 2^20; the numbers are int64s.
-/
import Derived.Test.YtdniocdmncldjaaDBoth2
import Derived.Test.YtdniocdmncldjaaDSpec4
namespace Go.Proofs.Ytdniocdmncldjaa
open Go.RowKit
set_option linter.unusedSimpArgs false
set_option linter.unusedVariables false

/-- What a function leaves that returns two new lists and a code. -/
def NewIIK (r s : List Int) (cd : Int) (w : World) (x : Ending) (w' : World) : Prop :=
  ∃ A m A' m', x = .returned (.tuple #[.slice A r.length m, .slice A' s.length m', .int .i64 cd]) ∧ r.length ≤ m ∧ s.length ≤ m' ∧ Own w' w.heap.size 2 .i64 (.slice A r.length m) r ∧ Own w' w.heap.size 2 .i64 (.slice A' s.length m') s ∧
    (((Value.slice A r.length m).ownBlock = none ∨ (Value.slice A r.length m).ownBlock ≠ (Value.slice A' s.length m').ownBlock) ∧ ((Value.slice A' s.length m').ownBlock = none ∨ (Value.slice A' s.length m').ownBlock ≠ (Value.slice A r.length m).ownBlock)) ∧ Below w.heap.size w w'
theorem newIIK_of {r s : List Int} {cd : Int} {w w' : World} {v v' : Value} {base : Nat} (h : Own w' base 2 .i64 v r) (h' : Own w' base 2 .i64 v' s) (hne : v.ownBlock = none ∨ v.ownBlock ≠ v'.ownBlock) (hb : Below w.heap.size w w') (hB : w.heap.size ≤ base) : NewIIK r s cd w (.returned (.tuple #[v, v', .int .i64 cd])) w' := by
  obtain ⟨A, m, rfl, hc⟩ := h.form
  obtain ⟨A', m', rfl, hc'⟩ := h'.form
  exact ⟨A, m, A', m', rfl, hc, hc', h.low hB, h'.low hB, ⟨hne, ne_swap hne⟩, hb⟩
theorem newIIK_nil {cd : Int} {w w' : World} (hb : Below w.heap.size w w') : NewIIK [] [] cd w (.returned (.tuple #[.slice none 0 0, .slice none 0 0, .int .i64 cd])) w' :=
  newIIK_of (base := w.heap.size) (World.ownsRow_nil _ _ _ _) (World.ownsRow_nil _ _ _ _) (.inl rfl) hb (Nat.le_refl _)
section
variable {R : Fld} {γ : El R} {l c : Nat} {E : List Nat} {ws cw : List (El R)} {w w' : World} {x : Ending}
theorem coPost_yes (ho : Okw γ l c E ws cw) (h : CoPost γ l c E ws w x w') : NewIB (iv cw) true w x w' := by
  rcases h with ⟨out, h1, _, _, h4⟩ | ⟨_, h2⟩
  · rw [← h4 cw ho]; exact h1
  · exact absurd ho (h2 cw)
theorem coPost_no (ho : ∀ cw, ¬ Okw γ l c E ws cw) (h : CoPost γ l c E ws w x w') : NewIB [] false w x w' := by
  rcases h with ⟨out, _, _, h3, _⟩ | ⟨h1, _⟩
  · exact absurd h3 (ho out)
  · exact h1
theorem scPost_yes (ho : Okw γ l c E ws cw) (h : ScPost γ l c E ws w x w') : NewIIB (iv cw) (nv (difs ws cw)) true w x w' := by
  rcases h with ⟨out, h1, _, _, h4⟩ | ⟨_, _, _, h2⟩
  · rw [← h4 cw ho]; exact h1
  · exact absurd ho (h2 cw)
theorem scPost_no (ho : ∀ cw, ¬ Okw γ l c E ws cw) (h : ScPost γ l c E ws w x w') : ∃ r s, NewIIB r s false w x w' := by
  rcases h with ⟨out, _, _, h3, _⟩ | ⟨r, s, h1, _⟩
  · exact absurd h3 (ho out)
  · exact ⟨r, s, h1⟩
end

def InRel (n : Nat) (z : Int) (zs : List Int) (i : Value) : Prop := ∃ j : Nat, j ≤ n ∧ i = .int .i64 j ∧ Hid (z ∈ zs.drop j ↔ z ∈ zs)
/-- Where an element is found. -/
def FoundAt (b : Bool) (w : World) (x : Ending) (w' : World) : Prop := ∃ m : Int, x = .returned (.int .i64 m) ∧ decide (0 ≤ m) = b ∧ w = w'
/-- A function of a code and three lists: its contract, whatever the lists' memory. -/
def D3 (f : Nat) (p k g L C : Int) (z z' z'' : List Int) (Post : World → Ending → World → Prop) : Prop :=
  ∀ (A : Option Addr) (n c : Nat) (A' : Option Addr) (n' c' : Nat) (A'' : Option Addr) (n'' c'' B : Nat) (w : World), Ints .i64 w B A n z → Ints .i64 w B A' n' z' → Ints .i64 w B A'' n'' z'' → n ≤ c → n' ≤ c' → n'' ≤ c'' → B ≤ w.heap.size → Calls Try.prog f #[.agg #[.int .i64 p, .int .i64 k, .int .i64 g, .int .i64 L, .int .i64 C], .slice A n c, .slice A' n' c', .slice A'' n'' c''] w (Post w)
section
variable {R : Fld}
theorem errs_difs {l : Nat} {E : List Nat} {ws ss : List (El R)} (h : ws.length = l) : errs l E ws ss = (difs ws ss).filter fun i => !decide (i ∈ E) := by
  unfold errs difs
  rw [List.filter_filter, h]
def DmRel (w : World) (p k g L C : Int) (N m : Nat) (A1 : Option Addr) (E D : List Nat) (d i : Value) (wr : World) : Prop :=
  ∃ j : Nat, j ≤ m ∧ i = .int .i64 j ∧ d = .int .i64 (E.length + 2 * ((D.take j).filter fun i => !decide (i ∈ E)).length : Nat) ∧ Ints .i64 wr N A1 m (nv D) ∧ CBox w wr p k g L C
def DsRel (w : World) (p k g L C : Int) (n : Nat) (E : List Nat) (ws ss : List (El R)) (d i : Value) (wr : World) : Prop :=
  ∃ j : Nat, j ≤ n ∧ i = .int .i64 j ∧ d = .int .i64 (E.length + 2 * (erN E ws ss j).length : Nat) ∧ CBox w wr p k g L C
end
end Go.Proofs.Ytdniocdmncldjaa
