/-
  The contracts of the indices that a polynomial locates, of evaluators and of the values of errors, of the program.
  Condition: the code is valid.
-/
import Derived.Test.YtpheembgjdgniaaDImpl2
import Derived.Test.YtpheembgjdgniaaJK
namespace Go.Proofs.Ytpheembgjdgniaa
open Go.RowKit
set_option linter.unusedSimpArgs false
set_option linter.unusedVariables false

section
variable {R : Fld} {γ : El R} {p k g : Int} {l c : Nat}
theorem num_zero (h : FldIs R p k g) : numE h 0 = 0 := El.eq (by rw [num_val, Nat.zero_mod]; rfl)
theorem num_succ (h : FldIs R p k g) (j : Nat) : numE h (j + 1) = numE h j + 1 := by
  refine El.eq ?_
  rw [val_add, num_val, num_val, h.add, val_one]
  have hk := h.kind
  generalize R.q = q at hk ⊢
  generalize R.mul = mul at hk
  cases hk with
  | one _ _ h3 h =>
    rw [addF_1 h3, Int.toNat_natCast, Nat.mod_add_mod]
  | two K G h3 h8 hG hG2 =>
    rw [addF, if_pos rfl]
    show (j + 1) % 2 = j % 2 ^^^ 1
    rcases (show j % 2 = 0 ∨ j % 2 = 1 by omega) with h | h
    · rw [h, show (j + 1) % 2 = 1 by omega]; rfl
    · rw [h, show (j + 1) % 2 = 0 by omega]; rfl
theorem derP_is (h : FldIs R p k g) (ps : List (El R)) : derP h ps = derG (numE h) ps := rfl

/-- What a function leaves that returns a new list and a bool. -/
def NewIB (r : List Int) (b : Bool) (w : World) (x : Ending) (w' : World) : Prop :=
  ∃ A m, x = .returned (.tuple #[.slice A r.length m, .bool b]) ∧ r.length ≤ m ∧ Own w' w.heap.size 2 .i64 (.slice A r.length m) r ∧ Below w.heap.size w w'
theorem newIB_of {r : List Int} {c : Bool} {w w' : World} {v : Value} {base : Nat} (h : Own w' base 2 .i64 v r) (hb : Below w.heap.size w w') (hB : w.heap.size ≤ base) : NewIB r c w (.returned (.tuple #[v, .bool c])) w' := by
  obtain ⟨A, m, rfl, hc⟩ := h.form
  exact ⟨A, m, rfl, hc, h.low hB, hb⟩
theorem newIB_nil {c : Bool} {w w' : World} (hb : Below w.heap.size w w') : NewIB [] c w (.returned (.tuple #[.slice none 0 0, .bool c])) w' :=
  newIB_of (base := w.heap.size) (World.ownsRow_nil _ _ _ _) hb (Nat.le_refl _)

/-- The indices below n that a polynomial locates. -/
def hitN (γ : El R) (l n : Nat) (p : List (El R)) : List Nat := (List.range n).filter fun i => decide (ev (lcE γ l i).inv p = 0)
theorem hitN_succ (γ : El R) (l n : Nat) (p : List (El R)) : hitN γ l (n + 1) p = hitN γ l n p ++ (if ev (lcE γ l n).inv p = 0 then [n] else []) := by
  unfold hitN
  rw [List.range_succ, List.filter_append]
  congr 1
  by_cases h : ev (lcE γ l n).inv p = 0
  · rw [if_pos h]; simp [h]
  · rw [if_neg h]; simp [h]
theorem hitN_len (γ : El R) (l n : Nat) (p : List (El R)) : (hitN γ l n p).length ≤ n := by
  have := List.length_filter_le (fun i => decide (ev (lcE γ l i).inv p = 0)) (List.range n)
  rw [List.length_range] at this; exact this

def LbRel (w : World) (p k g : Int) (l c : Nat) (γ : El R) (N : Nat) (A1 : Option Addr) (ps : List (El R)) (v i : Value) (wr : World) : Prop :=
  ∃ j : Nat, j ≤ l ∧ i = .int .i64 j ∧ Own wr N 2 .i64 v (nv (hitN γ l j ps)) ∧ Ints .i64 wr N A1 l (iv (invT γ l)) ∧ N ≤ wr.heap.size ∧ CBox w wr p k g l c

theorem locB_none {ps : List (El R)} (h : ps.length = 0) : locB γ l ps = false := by
  simp only [locB, decide_eq_false_iff_not]; omega
theorem locB_first {ps : List (El R)} (h : cf ps 0 ≠ 1) : locB γ l ps = false := by
  simp only [locB, decide_eq_false_iff_not]; exact fun h' => h h'.2.1
theorem one_val {x : El R} : ((x.val : Int) != 1) = !decide (x = 1) := by
  by_cases h : x = 1
  · subst h; rfl
  · have : x.val ≠ 1 := fun e => h (El.eq e)
    simp [h]; omega

/-- The indices that are returned for a polynomial. -/
def locJ (γ : El R) (l : Nat) (ps : List (El R)) : List Nat := if locB γ l ps = true then hits γ l ps else []

set_option maxRecDepth 100000 in
set_option maxHeartbeats 4000000 in
theorem implLocatedBy (h : CodeIs R γ p k g l c) (ps : List (El R)) (A : Option Addr) (n cc B : Nat) (w : World) (hI : Ints .i64 w B A n (iv ps)) (hB : B ≤ w.heap.size) (hn : n ≤ 549755813888) :
    Calls Try.prog 71 #[.agg #[.int .i64 p, .int .i64 k, .int .i64 g, .int .i64 l, .int .i64 c], .slice A n cc] w (NewIB (nv (locJ γ l ps)) (locB γ l ps) w) := by
  have HX := hide (CBox.start w p k g l c)
  have hl255 := h.l255
  have hpn : ps.length = n := by rw [← iv_len]; exact hI.len
  have HPN := hide hpn
  have HI := hide hI
  clear hI hpn
  obtain ⟨c0, c1, c2, c3, c4⟩ := HX.out.cells
  rcases Nat.eq_zero_or_pos n with h0 | h0
  · subst h0
    have HB := hide (locB_none (γ := γ) (l := l) HPN.out)
    have HJ := hide (show locJ γ l ps = [] by rw [locJ, HB.out]; rfl)
    rw [HB.out, HJ.out]
    go_enter Try.func71, Try.ntmps71
    go_wp2_with fail
    go_ret2
    exact newIB_nil HX.out.2
  · obtain ⟨b0, o0, x0, rfl, hb0, hx0, hc0⟩ := (HI.out.below (HX.out.2.mono hB)).at_ h0
    rw [iv_at (by rw [HPN.out]; exact h0)] at hx0
    simp only [Option.some.injEq] at hx0
    subst hx0
    obtain ⟨x, hx⟩ : ∃ x, x = cf ps 0 := ⟨_, rfl⟩
    rw [← hx, Nat.add_zero] at hc0
    have e0 : ((n : Int) == 0) = false := by simp; omega
    have hx1 := one_val (x := x)
    by_cases h1 : x = 1
    · have HC1 := hide (show cf ps 0 = 1 by rw [← hx]; exact h1)
      rw [h1] at hx1 hc0
      have hx1' : (((1 : El R).val : Int) != 1) = false := rfl
      clear hx hx1 h1
      go_enter Try.func71, Try.ntmps71
      go_wp2_with fail
      refine (implInvLocators h _).mono ?_
      rintro e w1 ⟨A1, m1, rfl, hm1, ho, hb⟩
      rw [invT_len] at ho hm1 ⊢
      have HX1 := hide (HX.out.next hb)
      have HT1 := hide ho.intsE
      clear ho hb hm1 c0 c1 c2 c3 c4 hc0
      go_wp2_with fail
      go_loopw [6, 21] (fun v i wr => LbRel w p k g l c γ w1.heap.size A1 ps v i wr) (fun _ i _ => l - (intOf i).toNat)
      case atStart => exact ⟨0, by omega, rfl, World.ownsRow_nil _ _ _ _, HT1.out, Nat.le_refl _, HX1.out⟩
      case round =>
        have HNW := hide HX1.out.lt
        clear HX HX1 HT1
        obtain ⟨v, rfl⟩ : ∃ v : Value, v = u6 := ⟨_, rfl⟩
        obtain ⟨j, hj, rfl, HO, HT, HS, HX⟩ := hrel
        have HX := hide HX
        have HO := hide HO
        have HT := hide HT
        have HS := hide HS
        by_cases hlt : j < l
        · obtain ⟨b5, o5, x, rfl, hb5, hx, hc5⟩ := HT.out.at_ hlt
          rw [iv_at (by rw [invT_len]; exact hlt), invT_at hlt] at hx
          simp only [Option.some.injEq] at hx
          subst hx
          obtain ⟨x, hx⟩ : ∃ x, x = (lcE γ l j).inv := ⟨_, rfl⟩
          rw [← hx] at hc5
          have HSU := hide (hitN_succ γ l j ps)
          rw [← hx] at HSU
          have HI1 := hide (HI.out.below (HX.out.2.mono hB))
          obtain ⟨c0, c1, c2, c3, c4⟩ := HX.out.cells
          clear hx
          go_wp2_with fail
          refine (implValueAt h.fld x ps (some ⟨b0, o0, none⟩) n cc B _ HI1.out (Nat.le_trans hB (Nat.le_of_lt HX.out.lt)) (by omega)).mono ?_
          rintro e w2 ⟨rfl, hb2⟩
          have HX2 := hide (HX.out.next hb2)
          have HO2 := hide (HO.out.below hb2 (Nat.le_refl _))
          have HT2 := hide (HT.out.below (hb2.mono HS.out))
          have HS2 := hide (Nat.le_trans HS.out hb2.size)
          have hwl : w1.heap.size ≤ w2.heap.size := HS2.out
          have HVB := hide (show ∀ b, v.ownBlock = some b → w.heap.size < b from fun b hb => Nat.lt_of_lt_of_le HNW.out (HO2.out.lt hb).1)
          have HVN := hide (show ∀ b, v.ownBlock = some b → w1.heap.size ≤ b from fun b hb => (HO2.out.lt hb).1)
          have hlen : (nv (hitN γ l j ps)).length + 1 ≤ 100000 := by rw [nv_len]; have := hitN_len γ l j ps; omega
          clear hb2 c0 c1 c2 c3 c4 hc5
          by_cases hz : ev x ps = 0
          · have HZ := hide (show hitN γ l (j + 1) ps = hitN γ l j ps ++ [j] by rw [HSU.out, if_pos hz])
            rw [hz]
            clear hz HSU
            go_wp2_with (at_builtin; refine wpList_app1 w2 rfl _ _ _ rfl elem64 w1.heap.size v _ rfl HO2.out (j : Int) rfl (by omega) hwl ?_; intro v3 w3 hown hgrow)
            have HO3 := hide (show Own w3 w1.heap.size 2 .i64 v3 (nv (hitN γ l (j + 1) ps)) by rw [HZ.out, nv_app]; exact hown)
            have HX3 := hide (HX2.out.grow hgrow HVB.out)
            have HT3 := hide (HT2.out.grown hgrow HS2.out HVN.out)
            have HS3 := hide (Nat.le_trans HS2.out hgrow.size)
            clear hown hgrow
            go_wp2_with fail
            go_roundw
            case rel => exact ⟨j + 1, by omega, by go_num, HO3.out, HT3.out, HS3.out, HX3.out⟩
            case measure => simp [intOf]; omega
          · have HZ := hide (show hitN γ l (j + 1) ps = hitN γ l j ps by rw [HSU.out, if_neg hz, List.append_nil])
            have hv : ((((ev x ps).val : Nat) : Int) == 0) = false := by have := val_ne hz; simp; omega
            have HO3 := hide (show Own w2 w1.heap.size 2 .i64 v (nv (hitN γ l (j + 1) ps)) by rw [HZ.out]; exact HO2.out)
            clear hz HSU
            go_wp2_with fail
            go_roundw
            case rel => exact ⟨j + 1, by omega, by go_num, HO3.out, HT2.out, HS2.out, HX2.out⟩
            case measure => simp [intOf]; omega
        · obtain rfl : j = l := by omega
          obtain ⟨m, hm⟩ : ∃ m, m = (hits γ j ps).length := ⟨_, rfl⟩
          have HF := hide HO.out.form
          obtain ⟨Av, cv, rfl, hcv⟩ := HF.out
          have hml : (nv (hitN γ j j ps)).length = m := by rw [nv_len, hm]; rfl
          rw [hml] at HO hcv ⊢
          have hmj : m ≤ j := by rw [hm]; exact hitN_len γ j j ps
          by_cases hq : m + 1 = n
          · have HB := hide (show locB γ j ps = true by
              simp only [locB, decide_eq_true_eq]; rw [HPN.out, ← hm]; exact ⟨h0, HC1.out, hq⟩)
            have HJ := hide (show locJ γ j ps = hits γ j ps by rw [locJ, HB.out]; rfl)
            have HE := hide (show NewIB (nv (locJ γ j ps)) (locB γ j ps) w (.returned (.tuple #[.slice Av m cv, .bool true])) wr by rw [HB.out, HJ.out]; exact newIB_of (w := w) (c := true) HO.out HX.out.2 (Nat.le_of_lt HNW.out))
            have z1 : ((m : Int) != (n : Int) - 1) = false := by simp; omega
            clear hm hml hq
            go_wp2_with fail
            go_ret2
            exact HE.out
          · have HB := hide (show locB γ j ps = false by
              simp only [locB, decide_eq_false_iff_not]; rw [HPN.out, ← hm]; exact fun h' => hq h'.2.2)
            have HJ := hide (show locJ γ j ps = [] by rw [locJ, HB.out]; rfl)
            have z1 : ((m : Int) != (n : Int) - 1) = true := by simp; omega
            have HE := hide (show NewIB (nv (locJ γ j ps)) (locB γ j ps) w (.returned (.tuple #[.slice none 0 0, .bool false])) wr by rw [HB.out, HJ.out]; exact newIB_nil HX.out.2)
            clear hm hml hq
            go_wp2_with fail
            go_ret2
            exact HE.out
    · have HB := hide (locB_first (γ := γ) (l := l) (ps := ps) (by rw [← hx]; exact h1))
      have HJ := hide (show locJ γ l ps = [] by rw [locJ, HB.out]; rfl)
      rw [decide_eq_false h1] at hx1
      simp only [Bool.not_false] at hx1
      rw [HB.out, HJ.out]
      clear hx h1
      go_enter Try.func71, Try.ntmps71
      go_wp2_with fail
      go_ret2
      exact newIB_nil HX.out.2
end
end Go.Proofs.Ytpheembgjdgniaa
