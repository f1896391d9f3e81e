/-
  Messages, and the bound that their narrowest mode gives.
  Condition: as each statement says.
-/
import Derived.Test.YthbmfaogjaahoaaSg6
import Derived.Test.YthbmfaogjaahoaaSg8
import Derived.Test.YthbmfaogjaahoaaSg9
import Derived.Test.YthbmfaogjaahoaaSmMath
import Derived.WalkSpells
namespace Go.Proofs.Ythbmfaogjaahoaa
open Go.RowKit
set_option linter.unusedSimpArgs false
set_option linter.unusedVariables false

theorem implIsMsg (s : ByteArray) (hs : s.size ≤ 1099511627776) (w : World) :
    Calls Try.prog 58 #[.string s] w fun e w' => e = .returned (.bool (decide (s.size ≤ 400))) ∧ w = w' := by
  by_cases h : s.size ≤ 400
  · have HD := hide (show decide ((s.size : Int) ≤ 400) = true from decide_eq_true (by omega))
    go_enter Try.func58, Try.ntmps58
    go_wp2_with fail
    go_ret
    exact ⟨ret_bool (by have := HD.out; simp at this ⊢; omega), rfl⟩
  · have HD := hide (show decide ((s.size : Int) ≤ 400) = false from decide_eq_false (by omega))
    go_enter Try.func58, Try.ntmps58
    go_wp2_with fail
    go_ret
    exact ⟨ret_bool (by have := HD.out; simp at this ⊢; omega), rfl⟩
theorem implIsMsg_yes (s : ByteArray) (hs : s.size ≤ 400) (w : World) :
    Calls Try.prog 58 #[.string s] w fun e w' => e = .returned (.bool true) ∧ w = w' :=
  (implIsMsg s (by omega) w).mono fun _ _ ⟨he, hw⟩ => ⟨by rw [he, decide_eq_true hs], hw⟩
theorem implIsMsg_no (s : ByteArray) (hs : s.size ≤ 1099511627776) (h : ¬ s.size ≤ 400) (w : World) :
    Calls Try.prog 58 #[.string s] w fun e w' => e = .returned (.bool false) ∧ w = w' :=
  (implIsMsg s hs w).mono fun _ _ ⟨he, hw⟩ => ⟨by rw [he, decide_eq_false h], hw⟩

theorem narrow_in (bs : List Int) : 1 ≤ narrow bs ∧ narrow bs ≤ 4 := by unfold narrow; (repeat' split) <;> omega

/-- What LengthBound gives. -/
def lbOf (s : ByteArray) : Int := if s.size ≤ 400 then ((lbd (narrow (bytesI s)) s.size : Nat) : Int) else 0
def lbCode (s : ByteArray) : Int := if s.size ≤ 400 then 0 else 3
theorem nonempty_of {q : ByteArray} (h : q.size ≠ 0) : (!q.toList.isEmpty) = true := by
  have h1 : q.toList = q.data.toList := Go.ByteArray.toList_eq q
  rw [h1]
  cases h2 : q.data.toList with
  | nil =>
    have h3 : q.data.toList.length = q.size := rfl
    rw [h2] at h3; exact absurd h3.symm h
  | cons a l => rfl
theorem implSegLenN (m : Int) (s : ByteArray) (n : Nat) (hm : 1 ≤ m ∧ m ≤ 4) (h : s.size = n) (hn : n ≤ 255) (w : World) :
    Calls Try.prog 101 #[.agg #[.int .i64 m, .string s]] w (Gives (.int .i64 (slen m n : Nat)) w) := by
  subst h; exact implSegLen0 m s hm hn w
def LbdRel (w : World) (m : Int) (n : Nat) (t r : Value) (wr : World) : Prop :=
  ∃ (q : ByteArray) (x : Nat), q.size ≤ n ∧ r = .string q ∧ t = .int .i64 (x : Nat) ∧ x ≤ 6000 ∧ Hid (x + lbd m q.size = lbd m n) ∧ Below w.heap.size w wr

def LbdRel2 (w : World) (m : Int) (n : Nat) (t r : Value) (wr : World) : Prop :=
  ∃ (q : Int) (x : Nat), q ≤ n ∧ -255 < q ∧ r = .int .i64 q ∧ t = .int .i64 (x : Nat) ∧ x ≤ 6000 ∧ Hid (x + lbd m q.toNat = lbd m n) ∧ Below w.heap.size w wr

end Go.Proofs.Ythbmfaogjaahoaa
