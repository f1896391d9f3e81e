/-
  One move more for regions that draw their order: two operations may come up.
  No condition.
-/
import Derived.Test.YtncgeoliboidhaaGreatTail
namespace Go.Proofs.YtncgeoliboidhaaGreat
open Go.RowKit
section
variable {P : Program} {Q : Exit → Act → World → Prop} {md : Region.Mode} {S : World → Prop} {z : Nat}
/-- Two operations may come up: each of them is walked. -/
theorem tail_two {l r r' : List Oper} {oi oj : Oper} {n : Nat} {listed : Array Bool} {a : Act} {w : World} (i j : Nat) (hi : l.drop i = oi :: r) (hj : l.drop j = oj :: r')
    (hr : Region.ready md l.toArray listed = [i, j]) (hg : oi.guard = none) (hg' : oj.guard = none)
    (h : ∀ K : Act → World → Prop, Hid (∀ b v, S v → (S v → wpTail P md l.toArray Q S z n (listed.setIfInBounds i true) b v) → K b v) → Oper.wp P oi a w K Q)
    (h' : ∀ K : Act → World → Prop, Hid (∀ b v, S v → (S v → wpTail P md l.toArray Q S z n (listed.setIfInBounds j true) b v) → K b v) → Oper.wp P oj a w K Q) : wpTail P md l.toArray Q S z (n + 1) listed a w := by
  refine ⟨fun e => by rw [hr] at e; simp at e, fun k hk => ?_⟩
  rw [hr] at hk
  rcases (show k = i ∨ k = j by simpa using hk) with rfl | rfl
  · refine wpOp_step (at_drop hi) fun K hK => ?_
    rw [if_pos (by simp [Region.wanted, hg])]
    exact h K (fun b v hS hT => hK b v ⟨fun _ => hS, hT hS⟩)
  · refine wpOp_step (at_drop hj) fun K hK => ?_
    rw [if_pos (by simp [Region.wanted, hg'])]
    exact h' K (fun b v hS hT => hK b v ⟨fun _ => hS, hT hS⟩)

/-! Where no operation is the last one (z lies behind them all): S holds behind each. -/
section
variable {ops : Array Oper}
theorem tail_first2 {i : Nat} {oi : Oper} {v : Value} (hi : ops[i]? = some oi) (hsel : Region.noSelect ops = true) (hz : ops.size ≤ z)
    (hQ : ∀ c a w, Q (.panic c) (a.put oi.dst v) w → Q (.panic c) a w) (n : Nat) : ∀ (listed : Array Bool) (a : Act) (w : World),
    (∀ j oj, ops[j]? = some oj → j ≠ i → listed.getD j true = false → (∀ e ∈ oj.after, Region.binds md e = true → e.on ≠ i) → oi.apart ops oj = true) →
    i ∈ Region.ready md ops listed → YieldsIf P ops S oi v a → S w →
    wpTail P md ops Q S z n (listed.setIfInBounds i true) (a.put oi.dst v) w → wpTail P md ops Q S z (n + 1) listed a w := by
  induction n with
  | zero =>
    intro listed a w _ hr hy hS H
    refine ⟨fun e => by rw [e] at hr; simp at hr, fun j hj => ?_⟩
    by_cases e : j = i
    · subst e; exact hy.wpOp hi hS ⟨fun _ => hS, H⟩
    · have hm := ready_mono hj e
      rw [H.1] at hm
      simp at hm
  | succ n ih =>
    intro listed a w hfree hr hy hS H
    refine ⟨fun e => by rw [e] at hr; simp at hr, fun j hj => ?_⟩
    by_cases e : j = i
    · subst e; exact hy.wpOp hi hS ⟨fun _ => hS, H⟩
    · have hstep := H.2 j (ready_mono hj e)
      obtain ⟨hun, oj, hoj, hall⟩ := mem_ready.1 hj
      have hjz : j ≠ z := fun h => by
        have := (Array.getElem?_eq_some_iff.1 hoj).1
        omega
      have hnot : ∀ x ∈ oj.after, Region.binds md x = true → x.on ≠ i := by
        intro x hx hb he
        have hw : waitB md ops j i = true := by
          unfold waitB; rw [hoj]
          exact Array.any_eq_true'.2 ⟨x, hx, by simp [hb, he]⟩
        exact waits_not hw hr hj
      have hput := wpOp_putIf hoj (hfree j oj hoj e hun hnot) (fun cs b => Region.noSelect_spec hsel i oi cs b hi) (fun cs b => Region.noSelect_spec hsel j oj cs b hoj) hQ hy hstep
      have hstill : i ∈ Region.ready md ops (listed.setIfInBounds j true) := ready_mono hr (Ne.symm e)
      have hfree' : ∀ k ok, ops[k]? = some ok → k ≠ i → (listed.setIfInBounds j true).getD k true = false → (∀ x ∈ ok.after, Region.binds md x = true → x.on ≠ i) → oi.apart ops ok = true := by
        intro k ok hk hki hunk hno
        refine hfree k ok hk hki ?_ hno
        by_cases ejk : j = k
        · subst ejk; exact hun
        · rwa [getD_set_ne true ejk] at hunk
      exact wpOp_mono (fun b u hu => ⟨fun _ => hu.2.1 hjz, ih _ b u hfree' hstill hu.1 (hu.2.1 hjz) (by rw [Array.setIfInBounds_comm _ _ e]; exact hu.2.2)⟩) hput
end
theorem tail_take2 {l r : List Oper} {oi : Oper} {v : Value} {n : Nat} {listed : Array Bool} {a : Act} {w : World} (i : Nat) (hi : l.drop i = oi :: r) (hsel : Region.noSelect l.toArray = true)
    (hf : Region.free md l.toArray listed i = true) (hr : (Region.ready md l.toArray listed).contains i = true) (hz : l.length ≤ z) (hQ : ∀ c a w, Q (.panic c) (a.put oi.dst v) w → Q (.panic c) a w)
    (hw : Region.wanted oi (yielded l.toArray a.tmps) = true) (hy : ∀ w, S w → (execOp a.eval oi).run P w = .ok (.value v) w) (hS : S w)
    (h : wpTail P md l.toArray Q S z n (listed.setIfInBounds i true) (a.put oi.dst v) w) : wpTail P md l.toArray Q S z (n + 1) listed a w :=
  tail_first2 (at_drop hi) hsel (by simpa using hz) hQ n listed a w (Region.free_spec (at_drop hi) hf) (by simpa using hr) (.inl ⟨hw, hy⟩) hS h
/-- An operation whose guard says no. -/
theorem tail_skip {l r : List Oper} {oi : Oper} {n : Nat} {listed : Array Bool} {a : Act} {w : World} (i : Nat) (hi : l.drop i = oi :: r) (hsel : Region.noSelect l.toArray = true)
    (hf : Region.free md l.toArray listed i = true) (hr : (Region.ready md l.toArray listed).contains i = true) (hz : l.length ≤ z) (hQ : ∀ c a w, Q (.panic c) (a.put oi.dst undef) w → Q (.panic c) a w)
    (hw : Region.wanted oi (yielded l.toArray a.tmps) = false) (hS : S w)
    (h : wpTail P md l.toArray Q S z n (listed.setIfInBounds i true) (a.put oi.dst undef) w) : wpTail P md l.toArray Q S z (n + 1) listed a w :=
  tail_first2 (at_drop hi) hsel (by simpa using hz) hQ n listed a w (Region.free_spec (at_drop hi) hf) (by simpa using hr) (.inr ⟨hw, rfl⟩) hS h
/-- A call whose guard says yes. -/
theorem tail_callG {l r : List Oper} {oi : Oper} {n : Nat} {listed : Array Bool} {a : Act} {w : World} (i : Nat) (hi : l.drop i = oi :: r)
    (hr : Region.ready md l.toArray listed = [i]) (hw : Region.wanted oi (yielded l.toArray a.tmps) = true)
    (h : ∀ K : Act → World → Prop, Hid (∀ b v, S v → (S v → wpTail P md l.toArray Q S z n (listed.setIfInBounds i true) b v) → K b v) → Oper.wp P oi a w K Q) : wpTail P md l.toArray Q S z (n + 1) listed a w := by
  refine ⟨fun e => by rw [hr] at e; simp at e, fun j hj => ?_⟩
  rw [hr] at hj
  obtain rfl : j = i := by simpa using hj
  refine wpOp_step (at_drop hi) fun K hK => ?_
  rw [if_pos hw]
  exact h K (fun b v hS hT => hK b v ⟨fun _ => hS, hT hS⟩)
theorem tail_end {l : List Oper} {listed : Array Bool} {a : Act} {w : World} (hr : Region.ready md l.toArray listed = []) (h : Q .normal a w) : wpTail P md l.toArray Q S z 0 listed a w := ⟨hr, h⟩
end
end Go.Proofs.YtncgeoliboidhaaGreat
