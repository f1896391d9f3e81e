/-
  The contracts of what tells whether lists are words of a code, of the model and of the program.
  Condition: the field is valid where a list is looked at, and lists are shorter than 2^40.
-/
import Derived.Test.YtlphodhecaagbaaGreatCode1
import Derived.Test.YtlphodhecaagbaaGreatJG
namespace Go.Proofs.YtlphodhecaagbaaGreat
open Go.RowKit
set_option linter.unusedSimpArgs false
set_option linter.unusedVariables false

/-- Whether a list has so many elements, all of a field with q elements. -/
def wordB (q : Nat) (L : Int) (zs : List Int) : Bool := decide ((zs.length : Int) = L) && zs.all (elB q)
theorem wordB_len {q : Nat} {L : Int} {zs : List Int} (h : ¬ (zs.length : Int) = L) : wordB q L zs = false := by rw [wordB, show decide ((zs.length : Int) = L) = false by simpa using h]; rfl
theorem wordB_all {q : Nat} {L : Int} {zs : List Int} (h : (zs.length : Int) = L) : wordB q L zs = zs.all (elB q) := by rw [wordB, show decide ((zs.length : Int) = L) = true by simpa using h]; rfl
theorem word_open {R : Fld} {l : Nat} {zs : List Int} (h : wordB R.q l zs = true) : ∃ ws : List (El R), zs = iv ws ∧ ws.length = l := by
  rw [wordB, Bool.and_eq_true, decide_eq_true_eq] at h
  obtain ⟨ws, rfl⟩ := iv_of h.2
  exact ⟨ws, rfl, by have := h.1; rw [iv_len] at this; omega⟩
theorem word_shut {R : Fld} (ws : List (El R)) : wordB R.q (ws.length : Nat) (iv ws) = true := by
  rw [wordB, iv_len, iv_all]; simp

set_option maxHeartbeats 1000000 in
theorem implMsgLen (p k g : Int) (l c : Nat) (hl : l ≤ 255) (hc : c < l) (w : World) :
    Calls Tryz.prog 63 #[.agg #[.int .i64 p, .int .i64 k, .int .i64 g, .int .i64 l, .int .i64 c]] w (Gives (.int .i64 (l - c : Nat)) w) := by
  have HX := hide (CBox.start w p k g l c)
  obtain ⟨c0, c1, c2, c3, c4⟩ := HX.out.cells
  have HF := hide (show ((l - c : Nat) : Int) = (l : Int) - (c : Int) by omega)
  go_enter Tryz.func63, Tryz.ntmps63
  go_wp2_with fail
  go_ret
  exact ⟨ret_int HF, HX.out.2⟩

/-- The code of a code and lists. -/
def wErr (p k g L C : Int) (Z : List (List Int)) : Int := if codeB p k g L C = true then (if ∀ zs ∈ Z, wordB (sizeI p k).toNat L zs = true then 0 else 2) else 1
theorem wErr_no {p k g L C : Int} {Z : List (List Int)} (h : codeB p k g L C = false) : wErr p k g L C Z = 1 := by rw [wErr, h]; rfl
theorem wErr_bad {p k g L C : Int} {q : Nat} {mul : Nat → Nat → Nat} {Z : List (List Int)} {zs : List Int} (h : codeB p k g L C = true) (hK : Kd p k g q mul) (hz : zs ∈ Z) (hp : wordB q L zs = false) : wErr p k g L C Z = 2 := by
  rw [wErr, if_pos h, if_neg]
  intro h
  have := h zs hz
  rw [hK.size, Int.toNat_natCast, hp] at this
  cases this
theorem wErr_ok {p k g L C : Int} {q : Nat} {mul : Nat → Nat → Nat} {Z : List (List Int)} (h : codeB p k g L C = true) (hK : Kd p k g q mul) (hz : ∀ zs ∈ Z, wordB q L zs = true) : wErr p k g L C Z = 0 := by
  rw [wErr, if_pos h, if_pos]
  rw [hK.size, Int.toNat_natCast]
  exact hz
theorem wErr_cases (p k g L C : Int) (Z : List (List Int)) : (wErr p k g L C Z = 1 ∧ codeB p k g L C = false) ∨ (wErr p k g L C Z = 2 ∧ codeB p k g L C = true) ∨
    (wErr p k g L C Z = 0 ∧ ∃ (R : Fld) (γ : El R) (l c : Nat), L = l ∧ C = c ∧ CodeIs R γ p k g l c ∧ ∀ zs ∈ Z, ∃ ws : List (El R), zs = iv ws ∧ ws.length = l) := by
  rcases h : codeB p k g L C with _ | _
  · exact .inl ⟨wErr_no h, rfl⟩
  · obtain ⟨R, γ, l, c, rfl, rfl, hc⟩ := codeB_open h
    by_cases hz : ∀ zs ∈ Z, wordB R.q l zs = true
    · exact .inr (.inr ⟨wErr_ok h hc.fld.kind hz, R, γ, l, c, rfl, rfl, hc, fun zs hm => word_open (hz zs hm)⟩)
    · refine .inr (.inl ⟨?_, rfl⟩)
      rw [wErr, if_pos h, if_neg]
      rw [hc.fld.kind.size, Int.toNat_natCast]
      exact hz

def WeRel (w : World) (p k g L C : Int) (q n : Nat) (Z : List (Option Addr × Nat × Nat × List Int)) (i : Value) (wr : World) : Prop :=
  ∃ j : Nat, j ≤ n ∧ i = .int .i64 j ∧ Hid (∀ e ∈ Z.take j, wordB q L e.2.2.2 = true) ∧ CBox w wr p k g L C

theorem take_all {α : Type} {Z : List α} {j : Nat} {e : α} {P : α → Prop} (h : ∀ x ∈ Z.take j, P x) (he : Z[j]? = some e) (hp : P e) : ∀ x ∈ Z.take (j + 1), P x := by
  intro x hm
  rw [List.take_add_one, he] at hm
  simp only [Option.toList_some, List.mem_append, List.mem_singleton] at hm
  rcases hm with hm | rfl
  · exact h x hm
  · exact hp

end Go.Proofs.YtlphodhecaagbaaGreat
