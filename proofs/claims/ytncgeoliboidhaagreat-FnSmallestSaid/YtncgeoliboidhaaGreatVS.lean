/-
  The narrowest mode of a text: the program and the model.
  Messages, and the bound that their narrowest mode gives.
  The length of the best segmentation, on both sides.
  PayloadSize, of the model and of the program.
  How much room a message of at most 400 bytes needs: plain mathematics.
  Condition: as each statement says.
-/
import Derived.Test.YtncgeoliboidhaaGreatVO
import Derived.Test.YtncgeoliboidhaaGreatVP
import Derived.Test.YtncgeoliboidhaaGreatVN
import Derived.WalkSpells
import Derived.Test.YtncgeoliboidhaaGreatVR
import Derived.Test.YtncgeoliboidhaaGreatPy1
import Derived.Test.YtncgeoliboidhaaGreatTail2
namespace Go.Proofs.YtncgeoliboidhaaGreat
open Go.RowKit
set_option linter.unusedSimpArgs false
set_option linter.unusedVariables false

/-- The three modes that are looked at lie in a block. -/
def NRow (w wr : World) : Prop := wr.heap[w.heap.size]? = some (.cells #[.int .i64 1, .int .i64 3, .int .i64 2] 2 (0, 0)) ∧ Below w.heap.size w wr
theorem NRow.cells {w wr : World} (h : NRow w wr) : wr.cell? ⟨w.heap.size, 0, none⟩ = some (.int .i64 1) ∧ wr.cell? ⟨w.heap.size, 1, none⟩ = some (.int .i64 3) ∧ wr.cell? ⟨w.heap.size, 2, none⟩ = some (.int .i64 2) := cells3 h.1
theorem NRow.next {w wr wr' : World} (h : NRow w wr) (hb : Below wr.heap.size wr wr') : NRow w wr' := by
  have hlt := (Array.getElem?_eq_some_iff.1 h.1).1
  exact ⟨by rw [hb.block _ hlt]; exact h.1, h.2.trans (hb.mono (Nat.le_of_lt hlt))⟩
/-- What the rounds have found. -/
def narAt (bs : List Int) (k : Nat) : Prop := (1 ≤ k → allV 1 bs = false) ∧ (2 ≤ k → allV 3 bs = false) ∧ (3 ≤ k → allV 2 bs = false)

end Go.Proofs.YtncgeoliboidhaaGreat

namespace Go.Proofs.YtncgeoliboidhaaGreat
open Go.RowKit
set_option linter.unusedSimpArgs false
set_option linter.unusedVariables false

theorem implIsMsg (s : ByteArray) (hs : s.size ≤ 1099511627776) (w : World) :
    Calls Tryz.prog 79 #[.string s] w fun e w' => e = .returned (.bool (decide (s.size ≤ 400))) ∧ w = w' := by
  by_cases h : s.size ≤ 400
  · have HD := hide (show decide ((s.size : Int) ≤ 400) = true from decide_eq_true (by omega))
    go_enter Tryz.func79, Tryz.ntmps79
    go_wp2_with fail
    go_ret
    exact ⟨ret_bool (by have := HD.out; simp at this ⊢; omega), rfl⟩
  · have HD := hide (show decide ((s.size : Int) ≤ 400) = false from decide_eq_false (by omega))
    go_enter Tryz.func79, Tryz.ntmps79
    go_wp2_with fail
    go_ret
    exact ⟨ret_bool (by have := HD.out; simp at this ⊢; omega), rfl⟩
theorem implIsMsg_yes (s : ByteArray) (hs : s.size ≤ 400) (w : World) :
    Calls Tryz.prog 79 #[.string s] w fun e w' => e = .returned (.bool true) ∧ w = w' :=
  (implIsMsg s (by omega) w).mono fun _ _ ⟨he, hw⟩ => ⟨by rw [he, decide_eq_true hs], hw⟩
theorem implIsMsg_no (s : ByteArray) (hs : s.size ≤ 1099511627776) (h : ¬ s.size ≤ 400) (w : World) :
    Calls Tryz.prog 79 #[.string s] w fun e w' => e = .returned (.bool false) ∧ w = w' :=
  (implIsMsg s hs w).mono fun _ _ ⟨he, hw⟩ => ⟨by rw [he, decide_eq_false h], hw⟩

theorem narrow_in (bs : List Int) : 1 ≤ narrow bs ∧ narrow bs ≤ 4 := by unfold narrow; (repeat' split) <;> omega

/-- What LengthBound gives. -/
def lbOf (s : ByteArray) : Int := if s.size ≤ 400 then ((lbd (narrow (bytesI s)) s.size : Nat) : Int) else 0
def lbCode (s : ByteArray) : Int := if s.size ≤ 400 then 0 else 3
theorem nonempty_of {q : ByteArray} (h : q.size ≠ 0) : (!q.toList.isEmpty) = true := by
  have h1 : q.toList = q.data.toList := Go.ByteArray.toList_eq q
  rw [h1]
  cases h2 : q.data.toList with
  | nil =>
    have h3 : q.data.toList.length = q.size := rfl
    rw [h2] at h3; exact absurd h3.symm h
  | cons a l => rfl
theorem implSegLenN (m : Int) (s : ByteArray) (n : Nat) (hm : 1 ≤ m ∧ m ≤ 4) (h : s.size = n) (hn : n ≤ 255) (w : World) :
    Calls Tryz.prog 126 #[.agg #[.int .i64 m, .string s]] w (Gives (.int .i64 (slen m n : Nat)) w) := by
  subst h; exact implSegLen0 m s hm hn w
def LbdRel (w : World) (m : Int) (n : Nat) (t r : Value) (wr : World) : Prop :=
  ∃ (q : ByteArray) (x : Nat), q.size ≤ n ∧ r = .string q ∧ t = .int .i64 (x : Nat) ∧ x ≤ 6000 ∧ Hid (x + lbd m q.size = lbd m n) ∧ Below w.heap.size w wr

def LbdRel2 (w : World) (m : Int) (n : Nat) (t r : Value) (wr : World) : Prop :=
  ∃ (q : Int) (x : Nat), q ≤ n ∧ -255 < q ∧ r = .int .i64 q ∧ t = .int .i64 (x : Nat) ∧ x ≤ 6000 ∧ Hid (x + lbd m q.toNat = lbd m n) ∧ Below w.heap.size w wr

end Go.Proofs.YtncgeoliboidhaaGreat

namespace Go.Proofs.YtncgeoliboidhaaGreat
open Go Go.RowKit
set_option linter.unusedSimpArgs false
set_option linter.unusedVariables false

theorem index_first {cs : Array Value} {t : Nat → Cel} (h : TabQ cs 401 t) (w : World) : (Instr.index 103 (.agg cs) (.int .i64 0)).run Tryz.prog w = .ok (CV (t 0)) w := by
  have hi : (Tryz.prog.info? 101).map (fun i => i.size) = some 4 := by kernel_rfl
  have hs : (sizeOf 101).run Tryz.prog w = .ok 4 w := by
    cases hq : Tryz.prog.info? 101 with
    | none => simp [hq] at hi
    | some i => simp [hq] at hi; simp [sizeOf, typeInfo, hq, hi]
  have hagg : (isAgg 101).run Tryz.prog w = .ok true w := by
    unfold isAgg
    rw [Sem.run_bind, run_underlying Tryz.underlying101 w]
    rfl
  obtain ⟨h0, h1, h2, h3⟩ := h.2 0 (by omega)
  have hsz := h.1
  simp [Instr.index, asIntOf, run_underlying Tryz.underlying103, hs, part, hagg]
  unfold CV
  refine congrArg Value.agg (Array.ext_getElem? fun i => ?_)
  rw [Array.getElem?_extract]
  match i with
  | 0 => simpa [hsz] using h0
  | 1 => simpa [hsz] using h1
  | 2 => simpa [hsz] using h2
  | 3 => simpa [hsz] using h3
  | k + 4 => rw [if_neg (by omega)]; rfl

theorem field_total (a b c d : Int) (w : World) : (Instr.field 101 (.agg #[.int .i64 a, .int .i64 b, .int .i64 c, .int .i64 d]) 0).run Tryz.prog w = .ok (.agg #[.int .i64 a, .int .i64 b]) w := by kernel_rfl
theorem field_bits (a b : Int) (w : World) : (Instr.field 99 (.agg #[.int .i64 a, .int .i64 b]) 0).run Tryz.prog w = .ok (.int .i64 a) w := by kernel_rfl
/-- What BestLength gives. -/
def blOf (s : ByteArray) : Int := if s.size ≤ 400 then (((tabN (bytesI s) s.size 0).l : Nat) : Int) else 0
set_option maxRecDepth 100000 in
set_option maxHeartbeats 1000000 in
theorem implBl (s : ByteArray) (hs : s.size ≤ 1099511627776) (w : World) :
    Calls Tryz.prog 30 #[.string s] w (GivesII (blOf s) (lbCode s) w) := by
  by_cases hn : s.size ≤ 400
  · have H1 := hide (show blOf s = (((tabN (bytesI s) s.size 0).l : Nat) : Int) by rw [blOf, if_pos hn])
    have H2 := hide (show lbCode s = 0 by rw [lbCode, if_pos hn])
    have HC := hide (implChoices s hn)
    go_enter Tryz.func30, Tryz.ntmps30
    go_wp2_with fail
    refine (implIsMsg_yes s hn _).mono ?_
    rintro e _ ⟨rfl, rfl⟩
    go_wp2_with fail
    refine (HC.out _).mono ?_
    rintro e w1 ⟨cs, rfl, ht, hb1⟩
    have hix := index_first ht w1
    unfold CV at hix
    have hf1 := fun a b c d => field_total a b c d w1
    have hf2 := fun a b => field_bits a b w1
    have HB1 := hide hb1
    clear hb1 ht HC
    go_wp2_with fail
    go_ret2
    exact ⟨ret_ii H1.out H2.out, HB1.out⟩
  · have H1 := hide (show blOf s = 0 by rw [blOf, if_neg hn])
    have H2 := hide (show lbCode s = 3 by rw [lbCode, if_neg hn])
    go_enter Tryz.func30, Tryz.ntmps30
    go_wp2_with fail
    refine (implIsMsg_no s hs hn _).mono ?_
    rintro e _ ⟨rfl, rfl⟩
    go_wp2_with fail
    go_ret2
    exact ⟨ret_ii H1.out H2.out, Below.refl _ _⟩
set_option maxRecDepth 100000 in
set_option maxHeartbeats 1000000 in
theorem specBl (s : ByteArray) (hs : s.size ≤ 1099511627776) (w : World) :
    Calls Tryz.prog 70 #[.string s] w (GivesII (blOf s) (lbCode s) w) := by
  by_cases hn : s.size ≤ 400
  · have H1 := hide (show blOf s = (((tabN (bytesI s) s.size 0).l : Nat) : Int) by rw [blOf, if_pos hn])
    have H2 := hide (show lbCode s = 0 by rw [lbCode, if_pos hn])
    have HC := hide (specTable s hn)
    have hn' : ¬ 400 < s.size := by omega
    go_enter Tryz.func70, Tryz.ntmps70
    go_wp2_with fail
    refine (HC.out _).mono ?_
    rintro e w1 ⟨rfl, hr, hb1⟩
    obtain ⟨d0, _⟩ := hr.cells (i := 0) (by omega)
    rw [Nat.zero_mul] at d0
    have HB1 := hide hb1
    clear hb1 hr HC
    go_wp2_with fail
    go_ret2
    exact ⟨ret_ii H1.out H2.out, HB1.out⟩
  · have H1 := hide (show blOf s = 0 by rw [blOf, if_neg hn])
    have H2 := hide (show lbCode s = 3 by rw [lbCode, if_neg hn])
    have hn' : 400 < s.size := by omega
    go_enter Tryz.func70, Tryz.ntmps70
    go_wp2_with fail
    go_ret2
    exact ⟨ret_ii H1.out H2.out, Below.refl _ _⟩
end Go.Proofs.YtncgeoliboidhaaGreat

namespace Go.Proofs.YtncgeoliboidhaaGreat
open Go Go.RowKit
set_option linter.unusedSimpArgs false
set_option linter.unusedVariables false

/-- The best length as a number, and its bound. -/
theorem bl_nat (s : ByteArray) : ∃ L : Nat, blOf s = (L : Int) ∧ L ≤ 1130800 := by
  unfold blOf
  split
  · rename_i h
    refine ⟨_, rfl, ?_⟩
    have h2 := (ok_tab (bytesI s) s.size 0).2.1
    rw [bytesI_len] at h2
    omega
  · exact ⟨0, rfl, by omega⟩
/-- The least capacity for so many bits. -/
def capN (L W : Nat) : Nat := max 1 ((L + W - 1) / W)
def psK (W : Nat) (s : ByteArray) : Int := if lbCode s = 0 ∧ capN (blOf s).toNat W ≤ 1500 then 0 else 3
def psV (W : Nat) (s : ByteArray) : Int := if psK W s = 0 then ((capN (blOf s).toNat W : Nat) : Int) else 0
theorem ps_bad {W : Nat} {s : ByteArray} (h : ¬ (lbCode s = 0 ∧ capN (blOf s).toNat W ≤ 1500)) : psK W s = 3 ∧ psV W s = 0 := by
  have : psK W s = 3 := by unfold psK; rw [if_neg h]
  exact ⟨this, by unfold psV; rw [this]; rfl⟩
theorem ps_ok {W : Nat} {s : ByteArray} (h : lbCode s = 0 ∧ capN (blOf s).toNat W ≤ 1500) : psK W s = 0 ∧ psV W s = ((capN (blOf s).toNat W : Nat) : Int) := by
  have : psK W s = 0 := by unfold psK; rw [if_pos h]
  exact ⟨this, by unfold psV; rw [this]; rfl⟩
theorem lb_two (s : ByteArray) : lbCode s = 0 ∨ lbCode s = 3 := by unfold lbCode; split <;> simp

set_option maxRecDepth 100000 in
set_option maxHeartbeats 4000000 in
theorem implPs {p k g : Int} {q : Nat} {mul : Nat → Nat → Nat} (hb : fieldB p k g = true) (hK : Kd p k g q mul) (s : ByteArray) (hs : s.size ≤ 1099511627776) (w : World) :
    Calls Tryz.prog 9 #[.agg #[.int .i64 p, .int .i64 k, .int .i64 g], .string s] w (GivesII (psV (wdt q) s) (psK (wdt q) s) w) := by
  have HX := hide (Box.start w 25 p k g)
  obtain ⟨c0, c1, c2⟩ := HX.out.cells
  have HV := hide (show ∀ w, Calls Tryz.prog 29 #[.agg #[.int .i64 p, .int .i64 k, .int .i64 g]] w (Gives (.bool true) w) from fun w => by rw [← hb]; exact implValid p k g w)
  have HW := hide (fun w => implWd hK w)
  have HBL := hide (fun w => implBl s hs w)
  obtain ⟨hq3, hq⟩ := hK.big
  obtain ⟨hw1, hw9, _, _⟩ := wdt_is hq3 hq
  obtain ⟨L, hL, hL2⟩ := bl_nat s
  have HBAD := hide (ps_bad (W := wdt q) (s := s))
  have HOK := hide (ps_ok (W := wdt q) (s := s))
  obtain ⟨W, hW⟩ : ∃ W, wdt q = W := ⟨_, rfl⟩
  rw [hW] at HW hw1 hw9 HBAD HOK
  rw [hL] at HBL HBAD HOK
  rw [Int.toNat_natCast] at HBAD HOK
  rw [hW]
  clear hW hL
  rcases lb_two s with hlb | hlb
  · rw [hlb] at HBL HBAD HOK
    have hdm := Nat.div_le_self (L + W - 1) W
    have HCN := hide (show capN L W = max 1 ((L + W - 1) / W) from rfl)
    obtain ⟨a1, ha1⟩ : ∃ a1, L + W = a1 := ⟨_, rfl⟩
    obtain ⟨a2, ha2⟩ : ∃ a2, a1 - 1 = a2 := ⟨_, rfl⟩
    rw [ha1, ha2] at hdm HCN
    have hwa : IntKind.i64.wrap ((L : Int) + (W : Int)) = (a1 : Int) := by rw [IntWalk.i64_in _ ⟨by omega, by omega⟩]; omega
    have hws : IntKind.i64.wrap ((a1 : Int) - 1) = (a2 : Int) := by rw [IntWalk.i64_in _ ⟨by omega, by omega⟩]; omega
    have hW0 : W ≠ 0 := by omega
    have hWi : ¬ (W : Int) = 0 := by omega
    have htd : (a2 : Int).tdiv (W : Int) = ((a2 / W : Nat) : Int) := by rw [Int.tdiv_eq_ediv_of_nonneg (by omega)]; rfl
    obtain ⟨Q, hQ⟩ : ∃ Q, a2 / W = Q := ⟨_, rfl⟩
    rw [hQ] at htd hdm HCN
    have hwq : IntKind.i64.wrap (Q : Int) = (Q : Int) := IntWalk.i64_in _ ⟨by omega, by omega⟩
    have hwqt : IntKind.i64.wrap ((a2 : Int).tdiv (W : Int)) = (Q : Int) := by rw [htd]; exact hwq
    obtain ⟨M, hM⟩ : ∃ M, capN L W = M := ⟨_, rfl⟩
    rw [hM] at HBAD HOK HCN
    have HCP := hide (fun w => implCap (M : Int) w)
    have HMM := HCN
    clear hM hQ ha1 ha2 hlb
    go_enter Tryz.func9, Tryz.ntmps9
    go_wp2_with fail
    refine (HV.out _).mono ?_
    rintro e w1 ⟨rfl, hb1⟩
    have HX1 := hide (HX.out.next hb1)
    clear hb1 c0 c1 c2
    go_wp2_with fail
    refine (HBL.out _).mono ?_
    rintro e w2 ⟨rfl, hb2⟩
    have HX2 := hide (HX1.out.next hb2)
    clear hb2
    have HXd := hide HX2.out.drew
    go_wp2_with fail
    refine tail_begin (fun w' => w'.cell? ⟨w.heap.size, 0, none⟩ = some (.int .i64 p) ∧ w'.cell? ⟨w.heap.size, 1, none⟩ = some (.int .i64 k) ∧ w'.cell? ⟨w.heap.size, 2, none⟩ = some (.int .i64 g)) 10 (by kernel_rfl) HXd.out.cells (fun hS' => ?_)
    refine tail_take2 0 rfl (by kernel_rfl) (by kernel_rfl) (by kernel_rfl) (by decide) (fun _ _ _ h => h) (by rfl) (v := ?_) ?_ (by assumption) ?_
    rotate_left 1
    · intro w' hS'; obtain ⟨d0, d1, d2⟩ := hS'; go_simp; try with_reducible rfl
    try simp only [Act.put, List.setIfInBounds_toArray, List.set_cons_zero, List.set_cons_succ]
    refine tail_take2 1 rfl (by kernel_rfl) (by kernel_rfl) (by kernel_rfl) (by decide) (fun _ _ _ h => h) (by rfl) (v := ?_) ?_ (by assumption) ?_
    rotate_left 1
    · intro w' hS'; obtain ⟨d0, d1, d2⟩ := hS'; go_simp; try with_reducible rfl
    try simp only [Act.put, List.setIfInBounds_toArray, List.set_cons_zero, List.set_cons_succ]
    refine tail_take2 5 rfl (by kernel_rfl) (by kernel_rfl) (by kernel_rfl) (by decide) (fun _ _ _ h => h) (by rfl) (v := ?_) ?_ (by assumption) ?_
    rotate_left 1
    · intro w' hS'; obtain ⟨d0, d1, d2⟩ := hS'; go_simp; try with_reducible rfl
    try simp only [Act.put, List.setIfInBounds_toArray, List.set_cons_zero, List.set_cons_succ]
    refine tail_call 2 rfl (by kernel_rfl) rfl (fun K hK => ?_)
    go_simp
    (go_at_call 31; refine (HW.out _).mono ?_; rintro e w5 ⟨rfl, hb5⟩; have HX5 := hide (HXd.out.next hb5); clear hb5)
    refine hK.out _ _ (by (try dsimp only); exact HX5.out.cells) (fun hS' => ?_)
    clear hK K
    try simp only [Act.put, List.setIfInBounds_toArray, List.set_cons_zero, List.set_cons_succ]
    refine tail_take2 3 rfl (by kernel_rfl) (by kernel_rfl) (by kernel_rfl) (by decide) (fun _ _ _ h => h) (by rfl) (v := ?_) ?_ (by assumption) ?_
    rotate_left 1
    · intro w' hS'; (try dsimp only at hS'); go_simp; try with_reducible rfl
    try simp only [Act.put, List.setIfInBounds_toArray, List.set_cons_zero, List.set_cons_succ]
    refine tail_take2 4 rfl (by kernel_rfl) (by kernel_rfl) (by kernel_rfl) (by decide) (fun _ _ _ h => h) (by rfl) (v := ?_) ?_ (by assumption) ?_
    rotate_left 1
    · intro w' hS'; (try dsimp only at hS'); go_simp; try with_reducible rfl
    try simp only [Act.put, List.setIfInBounds_toArray, List.set_cons_zero, List.set_cons_succ]
    refine tail_call 6 rfl (by kernel_rfl) rfl (fun K hK => ?_)
    go_simp
    (go_at_call 31; refine (HW.out _).mono ?_; rintro e w6 ⟨rfl, hb6⟩; have HX6 := hide (HX5.out.next hb6); clear hb6)
    refine hK.out _ _ (by (try dsimp only); exact HX6.out.cells) (fun hS' => ?_)
    clear hK K
    try simp only [Act.put, List.setIfInBounds_toArray, List.set_cons_zero, List.set_cons_succ]
    refine tail_take2 7 rfl (by kernel_rfl) (by kernel_rfl) (by kernel_rfl) (by decide) (fun _ _ _ h => h) (by rfl) (v := ?_) ?_ (by assumption) ?_
    rotate_left 1
    · intro w' hS'; (try dsimp only at hS'); go_simp; try with_reducible rfl
    try simp only [Act.put, List.setIfInBounds_toArray, List.set_cons_zero, List.set_cons_succ]
    refine tail_take2 8 rfl (by kernel_rfl) (by kernel_rfl) (by kernel_rfl) (by decide) (fun _ _ _ h => h) (by rfl) (v := ?_) ?_ (by assumption) ?_
    rotate_left 1
    · intro w' hS'; (try dsimp only at hS'); go_simp; try with_reducible rfl
    try simp only [Act.put, List.setIfInBounds_toArray, List.set_cons_zero, List.set_cons_succ]
    refine tail_take2 9 rfl (by kernel_rfl) (by kernel_rfl) (by kernel_rfl) (by decide) (fun _ _ _ h => h) (by rfl) (v := ?_) ?_ (by assumption) ?_
    rotate_left 1
    · intro w' hS'; (try dsimp only at hS'); go_simp; try with_reducible rfl
    try simp only [Act.put, List.setIfInBounds_toArray, List.set_cons_zero, List.set_cons_succ]
    refine tail_end (by kernel_rfl) ?_
    clear hS'
    first
      | rw [show (if (1 : Int) < (Q : Int) then (Q : Int) else 1) = (M : Int) by have := HMM.out; split <;> omega]
      | rw [show max (1 : Int) (Q : Int) = (M : Int) by have := HMM.out; omega]
    go_wp2_with fail
    refine (HCP.out _).mono ?_
    rintro e _ ⟨rfl, rfl⟩
    by_cases hc : M ≤ 1500
    · have hM1 : 1 ≤ M := by have := HMM.out; omega
      rw [inR_yes (by omega) (by omega)]
      have HO := hide (HOK.out ⟨by trivial, hc⟩)
      go_wp2_with fail
      go_ret2
      rw [HO.out.1, HO.out.2]
      exact ⟨rfl, HX6.out.2⟩
    · rw [inR_no (.inr (by omega))]
      have HO := hide (HBAD.out (fun h => hc h.2))
      go_wp2_with fail
      go_ret2
      rw [HO.out.1, HO.out.2]
      exact ⟨rfl, HX6.out.2⟩
  · rw [hlb] at HBL HBAD
    have HO := hide (HBAD.out (fun h => by have := h.1; omega))
    clear hlb
    go_enter Tryz.func9, Tryz.ntmps9
    go_wp2_with fail
    refine (HV.out _).mono ?_
    rintro e w1 ⟨rfl, hb1⟩
    have HX1 := hide (HX.out.next hb1)
    clear hb1 c0 c1 c2
    go_wp2_with fail
    refine (HBL.out _).mono ?_
    rintro e w2 ⟨rfl, hb2⟩
    have HX2 := hide (HX1.out.next hb2)
    clear hb2
    go_wp2_with fail
    go_ret2
    rw [HO.out.1, HO.out.2]
    exact ⟨rfl, HX2.out.2⟩

set_option maxRecDepth 100000 in
set_option maxHeartbeats 4000000 in
theorem specPs {p k g : Int} {q : Nat} {mul : Nat → Nat → Nat} (hb : fieldB p k g = true) (hK : Kd p k g q mul) (s : ByteArray) (hs : s.size ≤ 1099511627776) (w : World) :
    Calls Tryz.prog 27 #[.agg #[.int .i64 p, .int .i64 k, .int .i64 g], .string s] w (GivesII (psV (wdt q) s) (psK (wdt q) s) w) := by
  have HX := hide (Box.start w 25 p k g)
  obtain ⟨c0, c1, c2⟩ := HX.out.cells
  have HV := hide (show ∀ w, Calls Tryz.prog 68 #[.agg #[.int .i64 p, .int .i64 k, .int .i64 g]] w (Gives (.bool true) w) from fun w => by rw [← hb]; exact specIsField p k g w)
  have HW := hide (fun w => specWd hK w)
  have HBL := hide (fun w => specBl s hs w)
  obtain ⟨hq3, hq⟩ := hK.big
  obtain ⟨hw1, hw9, _, _⟩ := wdt_is hq3 hq
  obtain ⟨L, hL, hL2⟩ := bl_nat s
  have HBAD := hide (ps_bad (W := wdt q) (s := s))
  have HOK := hide (ps_ok (W := wdt q) (s := s))
  obtain ⟨W, hW⟩ : ∃ W, wdt q = W := ⟨_, rfl⟩
  rw [hW] at HW hw1 hw9 HBAD HOK
  rw [hL] at HBL HBAD HOK
  rw [Int.toNat_natCast] at HBAD HOK
  rw [hW]
  clear hW hL
  have hdm := Nat.div_le_self (L + W - 1) W
  have HCN := hide (show capN L W = max 1 ((L + W - 1) / W) from rfl)
  obtain ⟨a1, ha1⟩ : ∃ a1, L + W = a1 := ⟨_, rfl⟩
  obtain ⟨a2, ha2⟩ : ∃ a2, a1 - 1 = a2 := ⟨_, rfl⟩
  rw [ha1, ha2] at hdm HCN
  have hwa : IntKind.i64.wrap ((L : Int) + (W : Int)) = (a1 : Int) := by rw [IntWalk.i64_in _ ⟨by omega, by omega⟩]; omega
  have hws : IntKind.i64.wrap ((a1 : Int) - 1) = (a2 : Int) := by rw [IntWalk.i64_in _ ⟨by omega, by omega⟩]; omega
  have hW0 : W ≠ 0 := by omega
  have hWi : ¬ (W : Int) = 0 := by omega
  have htd : (a2 : Int).tdiv (W : Int) = ((a2 / W : Nat) : Int) := by rw [Int.tdiv_eq_ediv_of_nonneg (by omega)]; rfl
  obtain ⟨Q, hQ⟩ : ∃ Q, a2 / W = Q := ⟨_, rfl⟩
  rw [hQ] at htd hdm HCN
  have hwq : IntKind.i64.wrap (Q : Int) = (Q : Int) := IntWalk.i64_in _ ⟨by omega, by omega⟩
  have hwqt : IntKind.i64.wrap ((a2 : Int).tdiv (W : Int)) = (Q : Int) := by rw [htd]; exact hwq
  have hdv : (a2 : Int) / (W : Int) = (Q : Int) := by rw [← hQ]; rfl
  obtain ⟨M, hM⟩ : ∃ M, capN L W = M := ⟨_, rfl⟩
  rw [hM] at HBAD HOK HCN
  have hmq : (1 < Q ∧ M = Q) ∨ (¬ 1 < Q ∧ M = 1) := by have := HCN.out; omega
  obtain ⟨lb, hlbe⟩ : ∃ lb, lbCode s = lb := ⟨_, rfl⟩
  have hlb := lb_two s
  rw [hlbe] at HBL HBAD HOK hlb
  clear hM hQ ha1 ha2 hlbe
  go_enter Tryz.func27, Tryz.ntmps27
  go_wp2_with fail
  refine (HV.out _).mono ?_
  rintro e w1 ⟨rfl, hb1⟩
  have HX1 := hide (HX.out.next hb1)
  clear hb1 c0 c1 c2
  go_wp2_with fail
  refine (HBL.out _).mono ?_
  rintro e w2 ⟨rfl, hb2⟩
  have HX2 := hide (HX1.out.next hb2)
  clear hb2
  obtain ⟨c0, c1, c2⟩ := HX2.out.cells
  go_wp2_with fail
  refine (HW.out _).mono ?_
  rintro e w3 ⟨rfl, hb3⟩
  have HX3 := hide (HX2.out.next hb3)
  clear hb3 c0 c1 c2
  have hMs : ∀ h : 1 ≤ 2, True := fun _ => trivial
  clear hMs
  rcases hmq with ⟨h1, rfl⟩ | ⟨h1, rfl⟩
  · have h1i : (1 : Int) < (M : Int) := by omega
    have hmx : max (1 : Int) (M : Int) = (M : Int) := by omega
    rcases hlb with rfl | rfl
    · by_cases hc : M ≤ 1500
      · have hci : ¬ (1500 : Int) < (M : Int) := by omega
        have HO := hide (HOK.out ⟨rfl, hc⟩)
        go_wp2_with fail
        go_ret2
        rw [HO.out.1, HO.out.2]
        exact ⟨rfl, HX3.out.2⟩
      · have hci : (1500 : Int) < (M : Int) := by omega
        have HO := hide (HBAD.out (fun h => hc h.2))
        go_wp2_with fail
        go_ret2
        rw [HO.out.1, HO.out.2]
        exact ⟨rfl, HX3.out.2⟩
    · have HO := hide (HBAD.out (fun h => by have := h.1; omega))
      go_wp2_with fail
      go_ret2
      rw [HO.out.1, HO.out.2]
      exact ⟨rfl, HX3.out.2⟩
  · have h1i : ¬ (1 : Int) < (Q : Int) := by omega
    have hmx : max (1 : Int) (Q : Int) = 1 := by omega
    rcases hlb with rfl | rfl
    · have HO := hide (HOK.out ⟨rfl, by omega⟩)
      go_wp2_with fail
      go_ret2
      rw [HO.out.1, HO.out.2]
      exact ⟨rfl, HX3.out.2⟩
    · have HO := hide (HBAD.out (fun h => by have := h.1; omega))
      go_wp2_with fail
      go_ret2
      rw [HO.out.1, HO.out.2]
      exact ⟨rfl, HX3.out.2⟩

set_option maxRecDepth 100000 in
set_option maxHeartbeats 1000000 in
theorem ps_noS {p k g : Int} (hb : fieldB p k g = false) (s : ByteArray) (w : World) :
    Calls Tryz.prog 27 #[.agg #[.int .i64 p, .int .i64 k, .int .i64 g], .string s] w (GivesII 0 1 w) := by
  have HX := hide (Box.start w 25 p k g)
  obtain ⟨c0, c1, c2⟩ := HX.out.cells
  have HV := hide (show ∀ w, Calls Tryz.prog 68 #[.agg #[.int .i64 p, .int .i64 k, .int .i64 g]] w (Gives (.bool false) w) from fun w => by rw [← hb]; exact specIsField p k g w)
  go_enter Tryz.func27, Tryz.ntmps27
  go_wp2_with fail
  refine (HV.out _).mono ?_
  rintro e w1 ⟨rfl, hb1⟩
  have HX1 := hide (HX.out.next hb1)
  clear hb1 c0 c1 c2
  go_wp2_with fail
  go_ret2
  exact ⟨rfl, HX1.out.2⟩

set_option maxRecDepth 100000 in
set_option maxHeartbeats 1000000 in
theorem ps_noI {p k g : Int} (hb : fieldB p k g = false) (s : ByteArray) (w : World) :
    Calls Tryz.prog 9 #[.agg #[.int .i64 p, .int .i64 k, .int .i64 g], .string s] w (GivesII 0 1 w) := by
  have HX := hide (Box.start w 25 p k g)
  obtain ⟨c0, c1, c2⟩ := HX.out.cells
  have HV := hide (show ∀ w, Calls Tryz.prog 29 #[.agg #[.int .i64 p, .int .i64 k, .int .i64 g]] w (Gives (.bool false) w) from fun w => by rw [← hb]; exact implValid p k g w)
  go_enter Tryz.func9, Tryz.ntmps9
  go_wp2_with fail
  refine (HV.out _).mono ?_
  rintro e w1 ⟨rfl, hb1⟩
  have HX1 := hide (HX.out.next hb1)
  clear hb1 c0 c1 c2
  go_wp2_with fail
  go_ret2
  exact ⟨rfl, HX1.out.2⟩

/-- PayloadSize, of both. -/
theorem ps_both (p k g : Int) (s : ByteArray) (hs : s.size ≤ 1099511627776) : ∃ (v c : Int),
    (∀ w, Calls Tryz.prog 27 #[.agg #[.int .i64 p, .int .i64 k, .int .i64 g], .string s] w (GivesII v c w)) ∧
    (∀ w, Calls Tryz.prog 9 #[.agg #[.int .i64 p, .int .i64 k, .int .i64 g], .string s] w (GivesII v c w)) := by
  rcases hb : fieldB p k g with _ | _
  · exact ⟨0, 1, fun w => ps_noS hb s w, fun w => ps_noI hb s w⟩
  · obtain ⟨q, mul, γ, hK, _⟩ := fieldB_open hb
    exact ⟨_, _, fun w => specPs hb hK s hs w, fun w => implPs hb hK s hs w⟩
end Go.Proofs.YtncgeoliboidhaaGreat

namespace Go.Proofs.YtncgeoliboidhaaGreat
open Go.RowKit

theorem bytes_inF (s : ByteArray) : ∀ x ∈ bytesI s, 0 ≤ x ∧ x ≤ 255 := by
  intro x hx
  unfold bytesI at hx
  rw [List.mem_map] at hx
  obtain ⟨b, _, rfl⟩ := hx
  have := b.toNat_lt
  omega
theorem cval_byteF {x : Int} (h : 0 ≤ x ∧ x ≤ 255) : 0 ≤ cval 4 x := by
  unfold cval
  rw [inR_yes h.1 h.2, inR_yes (by decide) (by decide)]
  simp only [Bool.and_self, if_true]
  exact h.1
theorem slen_byte (n : Nat) : slen 4 n = 11 + 8 * n := by
  unfold slen twid
  have h1 : gsz 4 = 1 := by decide
  have h2 : wid 4 1 = 8 := by decide
  have h3 : wid 4 0 = 0 := by decide
  rw [h1, Nat.div_one, Nat.mod_one]
  simp [h2, h3]
  try omega
theorem reach_byte {bs : List Int} (hb : ∀ x ∈ bs, 0 ≤ x ∧ x ≤ 255) {i k : Nat} (hk : k ≤ 255) (hik : i + k ≤ bs.length) : k ≤ rch 4 (bs.drop i) := by
  rw [rch_iff 4 (bs.drop i) k hk (by rw [List.length_drop]; omega)]
  intro j x _ hx
  rw [List.getElem?_drop] at hx
  exact cval_byteF (hb x (List.mem_of_getElem? hx))
theorem tab_400 {bs : List Int} (hb : ∀ x ∈ bs, 0 ≤ x ∧ x ≤ 255) (hl : bs.length ≤ 400) : (tabT bs 0).l ≤ 3222 := by
  have hz : ∀ i, bs.length ≤ i → (tabT bs i).l = 0 := fun i h => by rw [tabT_end h]; rfl
  rcases Nat.eq_zero_or_pos bs.length with h0 | h0
  · rw [hz 0 (by omega)]; omega
  by_cases h1 : bs.length ≤ 255
  · have h := tab_min (bs := bs) (i := 0) (m := 4) (k := bs.length) (by decide) (by decide) h0 (reach_byte hb h1 (by omega))
    rw [hz (0 + bs.length) (by omega)] at h
    have e := slen_byte bs.length
    rw [show ((4 : Nat) : Int) = 4 from rfl] at h
    omega
  · have h := tab_min (bs := bs) (i := 0) (m := 4) (k := 255) (by decide) (by decide) (by decide) (reach_byte hb (by decide) (by omega))
    have h' := tab_min (bs := bs) (i := 0 + 255) (m := 4) (k := bs.length - 255) (by decide) (by decide) (by omega) (reach_byte hb (by omega) (by omega))
    rw [hz (0 + 255 + (bs.length - 255)) (by omega)] at h'
    have e := slen_byte 255
    have e' := slen_byte (bs.length - 255)
    rw [show ((4 : Nat) : Int) = 4 from rfl] at h h'
    omega
theorem bl_400 {s : ByteArray} (hs : s.size ≤ 400) : ∃ L : Nat, blOf s = (L : Int) ∧ L ≤ 3222 := by
  unfold blOf
  rw [if_pos hs]
  refine ⟨_, rfl, ?_⟩
  have h := tab_400 (bs := bytesI s) (bytes_inF s) (by rw [bytesI_len]; exact hs)
  unfold tabT at h
  rw [bytesI_len] at h
  exact h
theorem wdt_3 {q : Nat} (h : 8 ≤ q) (hq : q ≤ 1021) : 3 ≤ wdt q := by
  obtain ⟨_, _, _, h4⟩ := wdt_is (q := q) (by omega) hq
  refine Decidable.byContradiction fun hn => ?_
  have : 2 ^ (wdt q + 1) ≤ 2 ^ 3 := Nat.pow_le_pow_right (by decide) (by omega)
  omega
theorem pay_ok {s : ByteArray} (hs : s.size ≤ 400) {W : Nat} (hW : 3 ≤ W) : psK W s = 0 ∧ ∃ nd : Nat, psV W s = (nd : Int) ∧ nd ≤ 1500 := by
  obtain ⟨L, hL, hL2⟩ := bl_400 hs
  have hc : capN L W ≤ 1500 := by
    unfold capN
    have : (L + W - 1) / W ≤ 1500 := by
      rw [Nat.div_le_iff_le_mul_add_pred (by omega)]
      have : 3 * 1500 ≤ W * 1500 := Nat.mul_le_mul_right _ hW
      omega
    omega
  have h := ps_ok (W := W) (s := s) ⟨by unfold lbCode; rw [if_pos hs], by rw [hL, Int.toNat_natCast]; exact hc⟩
  exact ⟨h.1, _, h.2, by rw [hL, Int.toNat_natCast]; exact hc⟩
theorem pay_no {s : ByteArray} (hs : 400 < s.size) {W : Nat} : psK W s = 3 ∧ psV W s = 0 := by
  exact ps_bad (W := W) (s := s) (fun h => by have := h.1; unfold lbCode at this; rw [if_neg (by omega)] at this; cases this)
end Go.Proofs.YtncgeoliboidhaaGreat
