/-
  One move more for regions that draw their order: two operations may come up.
  No condition.
-/
import Derived.Test.YtfbkmbjbjgfenaaJG
namespace Go.Proofs.Ytfbkmbjbjgfenaa
open Go.RowKit
section
variable {P : Program} {Q : Exit → Act → World → Prop} {md : Region.Mode} {S : World → Prop} {z : Nat}
/-- Two operations may come up: each of them is walked. -/
theorem tail_two {l r r' : List Oper} {oi oj : Oper} {n : Nat} {listed : Array Bool} {a : Act} {w : World} (i j : Nat) (hi : l.drop i = oi :: r) (hj : l.drop j = oj :: r')
    (hr : Region.ready md l.toArray listed = [i, j]) (hg : oi.guard = none) (hg' : oj.guard = none)
    (h : ∀ K : Act → World → Prop, Hid (∀ b v, S v → (S v → wpTail P md l.toArray Q S z n (listed.setIfInBounds i true) b v) → K b v) → Oper.wp P oi a w K Q)
    (h' : ∀ K : Act → World → Prop, Hid (∀ b v, S v → (S v → wpTail P md l.toArray Q S z n (listed.setIfInBounds j true) b v) → K b v) → Oper.wp P oj a w K Q) : wpTail P md l.toArray Q S z (n + 1) listed a w := by
  refine ⟨fun e => by rw [hr] at e; simp at e, fun k hk => ?_⟩
  rw [hr] at hk
  rcases (show k = i ∨ k = j by simpa using hk) with rfl | rfl
  · refine wpOp_step (at_drop hi) fun K hK => ?_
    rw [if_pos (by simp [Region.wanted, hg])]
    exact h K (fun b v hS hT => hK b v ⟨fun _ => hS, hT hS⟩)
  · refine wpOp_step (at_drop hj) fun K hK => ?_
    rw [if_pos (by simp [Region.wanted, hg'])]
    exact h' K (fun b v hS hT => hK b v ⟨fun _ => hS, hT hS⟩)
end
end Go.Proofs.Ytfbkmbjbjgfenaa
