/-
  What the laws of fields with a code share: the test of the code's size, a draw of a number, what FieldOf finds.
  Condition: the code has at most 4096 bytes.
-/
import Derived.Test.YtncgeoliboidhaaDraw
import Derived.Test.YtncgeoliboidhaaShell
import Derived.Test.YtncgeoliboidhaaLike
import Derived.Test.YtncgeoliboidhaaVA
namespace Go.Proofs.Ytncgeoliboidhaa
open Go.RowKit
set_option linter.unusedVariables false

theorem bd_u8 {n : Int} (h : (Lit.int .u8 n).wf = true) : 0 ≤ n ∧ n ≤ 255 := by
  simp [Lit.wf, IntKind.min, IntKind.max, IntKind.signed, IntKind.bits] at h
  omega
theorem below_src {w w1 w2 : World} (h : Below w.heap.size w w1) (hg : w1.grownBy w2 (some w.heap.size)) : Below w.heap.size w w2 :=
  h.grown hg h.size (fun k hk => by injection hk; omega)

theorem fo_cases (s : Int) : (foC s = 4 ∧ foP s = 0 ∧ foK s = 0 ∧ foG s = 0) ∨
    (foC s = 0 ∧ fieldB (foP s) (foK s) (foG s) = true ∧ fsize (foP s) (foK s) (foG s) = s ∧ fieldB (foP s) (foK s) (foG s - 1) = false ∧ 1 ≤ foG s ∧ foG s ≤ 2000) := by
  rcases h1 : k1B s 1 with _ | _
  · rcases hp : isPow s with _ | K
    · have h := fo_0 h1 hp
      exact .inl ⟨h.2.2.2, h.1, h.2.1, h.2.2.1⟩
    · have h := fo_2 h1 hp
      by_cases hG : powG K = 0
      · simp only [lowP, lowK, lowC, hG, if_true] at h
        exact .inl ⟨h.2.2.2, h.1, h.2.1, h.2.2.1⟩
      · have hK : 3 ≤ K ∧ K ≤ 8 ∧ s = 2 ^ K := by
          rw [isPow, List.find?_range_eq_some] at hp
          obtain ⟨h2, h3, _⟩ := hp
          simp only [Bool.and_eq_true, decide_eq_true_eq] at h2
          have := List.mem_range.1 h3
          exact ⟨h2.1, by omega, h2.2⟩
        obtain ⟨h3, h8, hs⟩ := hK
        obtain ⟨g1, g2, g3, g4⟩ := powG_spec hG
        have hsm := pow_small h3 h8
        simp only [lowP, lowK, lowC, hG, if_false] at h
        obtain ⟨e1, e2, e3, e4⟩ := h
        rw [e1, e2, e3, e4]
        have hp2 : 2 ^ (K + 1) = 2 * 2 ^ K := by rw [Nat.pow_succ]; omega
        refine .inr ⟨rfl, g3, ?_, ?_, by omega, by omega⟩
        · rw [fsize, if_pos g3, sizeI, if_pos rfl, Int.toNat_natCast, hs]
        · obtain ⟨j, hj⟩ : ∃ j : Nat, powG K = j + 1 := ⟨powG K - 1, by omega⟩
          rw [hj, show ((j + 1 : Nat) : Int) - 1 = (j : Int) by omega]
          rcases Nat.lt_or_ge j (2 ^ K) with h5 | h5
          · refine fieldB_0 ?_ ?_
            · rw [k1B, Bool.and_eq_false_iff]; left; simp
            · rw [k2B, decide_eq_false_iff_not, Int.toNat_natCast]
              intro hh
              have h6 : ((2 ^ K : Nat) : Int) ≤ (j : Int) := by push_cast; exact hh.2.2.2.1
              omega
          · exact g4 j (by omega) h5
  · obtain ⟨P, rfl, _, h3, h4, hp⟩ := k1_open h1
    obtain ⟨e1, e2, e3, e4⟩ := fo_1 h1
    obtain ⟨l1, l2, l3, _⟩ := least_spec (prime_gen h3 h4 hp)
    rw [e1, e2, e3, e4]
    have hF : fieldB P 1 (least P (mul1 P) : Nat) = true := by rw [fieldB_1 h3 h4 hp]; simp
    refine .inr ⟨rfl, hF, ?_, ?_, by omega, by omega⟩
    · rw [fsize, if_pos hF, sizeI, if_neg (by omega)]
    · rw [fieldB_1 h3 h4 hp, decide_eq_false_iff_not]; omega

def DrawnN (w : World) (x : Ending) (w' : World) : Prop := ∃ z : Int, x = .returned (.int .i64 z) ∧ Below w.heap.size w w'

end Go.Proofs.Ytncgeoliboidhaa
