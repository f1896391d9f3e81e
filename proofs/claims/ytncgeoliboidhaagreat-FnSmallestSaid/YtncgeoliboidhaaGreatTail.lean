/-
  A region that draws its order, whose last operation writes what was loaded in it: one condition on the world is held behind each operation but that one.
  Condition: those of the laws themselves.
-/
import Derived.OrdersHeld
import Derived.RegionTactic
import Derived.Lib.Hide
namespace Go.Proofs.YtncgeoliboidhaaGreat
open Go Go.RowKit

section
variable {P : Program} {ops : Array Oper} {Q : Exit → Act → World → Prop} {md : Region.Mode} {S : World → Prop} {z : Nat}

/-- Whatever order is picked from here on; S holds behind each operation but number z. -/
def wpTail (P : Program) (md : Region.Mode) (ops : Array Oper) (Q : Exit → Act → World → Prop) (S : World → Prop) (z : Nat) : Nat → Array Bool → Act → World → Prop
  | 0, listed, a, w => Region.ready md ops listed = [] ∧ Q .normal a w
  | n + 1, listed, a, w =>
    (Region.ready md ops listed = [] → Q .normal a w) ∧
    ∀ i ∈ Region.ready md ops listed, wpOp P ops Q i (fun b v => (i ≠ z → S v) ∧ wpTail P md ops Q S z n (listed.setIfInBounds i true) b v) a w

theorem tail_any : ∀ (n : Nat) (listed : Array Bool) (a : Act) (w : World), wpTail P md ops Q S z n listed a w → wpAny P md ops Q n listed a w := by
  intro n
  induction n with
  | zero => exact fun _ _ _ h => h
  | succ n ih => exact fun _ _ _ h => ⟨h.1, fun i hi => wpOp_mono (fun b v hv => ih _ b v hv.2) (h.2 i hi)⟩

/-- Operation j waits for operation i. -/
def waitB (md : Region.Mode) (ops : Array Oper) (j i : Nat) : Bool := ((ops[j]?).map fun o => o.after.any fun x => Region.binds md x && x.on == i).getD false
/-- Who waits for an operation that has not come up does not come up. -/
theorem waits_not {i j : Nat} {listed : Array Bool} (hw : waitB md ops j i = true) (hi : i ∈ Region.ready md ops listed) : j ∉ Region.ready md ops listed := by
  intro hj
  obtain ⟨_, oj, hoj, hall⟩ := mem_ready.1 hj
  unfold waitB at hw
  rw [hoj] at hw
  obtain ⟨x, hx, hxe⟩ := Array.any_eq_true'.1 hw
  simp only [Bool.and_eq_true, beq_iff_eq] at hxe
  obtain ⟨hb, he⟩ := hxe
  have a1 := hall x hx hb
  have a0 := (mem_ready.1 hi).1
  rw [he] at a1
  rcases Nat.lt_or_ge i listed.size with hl | hl
  · simp [hl] at a0 a1; rw [a0] at a1; cases a1
  · simp [Array.getElem?_eq_none hl] at a1

theorem tail_first {i : Nat} {oi : Oper} {v : Value} (hi : ops[i]? = some oi) (hsel : Region.noSelect ops = true) (hz : waitB md ops z i = true)
    (hQ : ∀ c a w, Q (.panic c) (a.put oi.dst v) w → Q (.panic c) a w) (n : Nat) : ∀ (listed : Array Bool) (a : Act) (w : World),
    (∀ j oj, ops[j]? = some oj → j ≠ i → listed.getD j true = false → (∀ e ∈ oj.after, Region.binds md e = true → e.on ≠ i) → oi.apart ops oj = true) →
    i ∈ Region.ready md ops listed → YieldsIf P ops S oi v a → S w →
    wpTail P md ops Q S z n (listed.setIfInBounds i true) (a.put oi.dst v) w → wpTail P md ops Q S z (n + 1) listed a w := by
  induction n with
  | zero =>
    intro listed a w _ hr hy hS H
    refine ⟨fun e => by rw [e] at hr; simp at hr, fun j hj => ?_⟩
    by_cases e : j = i
    · subst e; exact hy.wpOp hi hS ⟨fun _ => hS, H⟩
    · have hm := ready_mono hj e
      rw [H.1] at hm
      simp at hm
  | succ n ih =>
    intro listed a w hfree hr hy hS H
    refine ⟨fun e => by rw [e] at hr; simp at hr, fun j hj => ?_⟩
    by_cases e : j = i
    · subst e; exact hy.wpOp hi hS ⟨fun _ => hS, H⟩
    · have hstep := H.2 j (ready_mono hj e)
      have hjz : j ≠ z := fun h => waits_not hz hr (h ▸ hj)
      obtain ⟨hun, oj, hoj, hall⟩ := mem_ready.1 hj
      have hnot : ∀ x ∈ oj.after, Region.binds md x = true → x.on ≠ i := by
        intro x hx hb he
        have hw : waitB md ops j i = true := by
          unfold waitB; rw [hoj]
          exact Array.any_eq_true'.2 ⟨x, hx, by simp [hb, he]⟩
        exact waits_not hw hr hj
      have hput := wpOp_putIf hoj (hfree j oj hoj e hun hnot) (fun cs b => Region.noSelect_spec hsel i oi cs b hi) (fun cs b => Region.noSelect_spec hsel j oj cs b hoj) hQ hy hstep
      have hstill : i ∈ Region.ready md ops (listed.setIfInBounds j true) := ready_mono hr (Ne.symm e)
      have hfree' : ∀ k ok, ops[k]? = some ok → k ≠ i → (listed.setIfInBounds j true).getD k true = false → (∀ x ∈ ok.after, Region.binds md x = true → x.on ≠ i) → oi.apart ops ok = true := by
        intro k ok hk hki hunk hno
        refine hfree k ok hk hki ?_ hno
        by_cases ejk : j = k
        · subst ejk; exact hun
        · rwa [getD_set_ne true ejk] at hunk
      exact wpOp_mono (fun b u hu => ⟨fun _ => hu.2.1 hjz, ih _ b u hfree' hstill hu.1 (hu.2.1 hjz) (by rw [Array.setIfInBounds_comm _ _ e]; exact hu.2.2)⟩) hput

/-! The moves. -/
theorem tail_begin {id : Nat} {l : List Oper} {a : Act} {w : World} (S : World → Prop) (z : Nat) (hm : P.follows .mixedOrders = true) (hS : S w.drew)
    (h : S w.drew → wpTail P .any l.toArray Q S z l.length (Array.replicate l.length false) a w.drew) : (Code.region id l.toArray true).wp P Q a w :=
  wp_region_any hm (by have := tail_any _ _ _ _ (h hS); simpa using this)
theorem at_drop {l r : List Oper} {i : Nat} {o : Oper} (h : l.drop i = o :: r) : l.toArray[i]? = some o := by
  have : (l.drop i)[0]? = some o := by rw [h]; rfl
  rw [List.getElem?_drop, Nat.add_zero] at this
  simpa using this
theorem tail_take {l r : List Oper} {oi : Oper} {v : Value} {n : Nat} {listed : Array Bool} {a : Act} {w : World} (i : Nat) (hi : l.drop i = oi :: r) (hsel : Region.noSelect l.toArray = true)
    (hf : Region.free md l.toArray listed i = true) (hr : (Region.ready md l.toArray listed).contains i = true) (hz : waitB md l.toArray z i = true) (hQ : ∀ c a w, Q (.panic c) (a.put oi.dst v) w → Q (.panic c) a w)
    (hw : Region.wanted oi (yielded l.toArray a.tmps) = true) (hy : ∀ w, S w → (execOp a.eval oi).run P w = .ok (.value v) w) (hS : S w)
    (h : wpTail P md l.toArray Q S z n (listed.setIfInBounds i true) (a.put oi.dst v) w) : wpTail P md l.toArray Q S z (n + 1) listed a w :=
  tail_first (at_drop hi) hsel hz hQ n listed a w (Region.free_spec (at_drop hi) hf) (by simpa using hr) (.inl ⟨hw, hy⟩) hS h
/-- The only operation that may come up: a call. -/
theorem tail_call {l r : List Oper} {oi : Oper} {n : Nat} {listed : Array Bool} {a : Act} {w : World} (i : Nat) (hi : l.drop i = oi :: r)
    (hr : Region.ready md l.toArray listed = [i]) (hg : oi.guard = none)
    (h : ∀ K : Act → World → Prop, Hid (∀ b v, S v → (S v → wpTail P md l.toArray Q S z n (listed.setIfInBounds i true) b v) → K b v) → Oper.wp P oi a w K Q) : wpTail P md l.toArray Q S z (n + 1) listed a w := by
  refine ⟨fun e => by rw [hr] at e; simp at e, fun j hj => ?_⟩
  rw [hr] at hj
  obtain rfl : j = i := by simpa using hj
  refine wpOp_step (at_drop hi) fun K hK => ?_
  rw [if_pos (by simp [Region.wanted, hg])]
  exact h K (fun b v hS hT => hK b v ⟨fun _ => hS, hT hS⟩)
/-- The last operation. -/
theorem tail_last {l r : List Oper} {oi : Oper} {n : Nat} {listed : Array Bool} {a : Act} {w : World} (i : Nat) (hi : l.drop i = oi :: r)
    (hr : Region.ready md l.toArray listed = [i]) (hl : Region.ready md l.toArray (listed.setIfInBounds i true) = []) (hz : i = z) (hg : oi.guard = none)
    (h : ∀ K : Act → World → Prop, Hid (∀ b v, Q .normal b v → K b v) → Oper.wp P oi a w K Q) : wpTail P md l.toArray Q S z (n + 1) listed a w := by
  refine ⟨fun e => by rw [hr] at e; simp at e, fun j hj => ?_⟩
  rw [hr] at hj
  obtain rfl : j = i := by simpa using hj
  refine wpOp_step (at_drop hi) fun K hK => ?_
  rw [if_pos (by simp [Region.wanted, hg])]
  refine h K (fun b v hq => hK b v ⟨fun hne => absurd hz hne, ?_⟩)
  cases n with
  | zero => exact ⟨hl, hq⟩
  | succ n => exact ⟨fun _ => hq, fun k hk => by rw [hl] at hk; simp at hk⟩
end
end Go.Proofs.YtncgeoliboidhaaGreat
