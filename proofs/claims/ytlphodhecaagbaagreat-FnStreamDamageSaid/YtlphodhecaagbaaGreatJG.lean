/-
  The contracts of the model's functions that tell whether lists are polynomials, and of its small functions on lists.
  The contracts of the model's copies, shortened lists, coefficients and sums of polynomials.
  A region that draws its order, whose last operation writes what was loaded in it: one condition on the world is held behind each operation but that one.
  The contract of the model's products of polynomials.
  The contract of the model's quotients of polynomials.
  Condition: as each statement says.
-/
import Derived.Test.YtlphodhecaagbaaGreatJF
import Derived.Test.YtlphodhecaagbaaGreatJE
import Derived.OrdersHeld
import Derived.RegionTactic
import Derived.Lib.Hide
namespace Go.Proofs.YtlphodhecaagbaaGreat
open Go.RowKit
set_option linter.unusedSimpArgs false

def PcRel (w : World) (p k g : Int) (q n : Nat) (L : List (Option Addr × Nat × Nat × List Int)) (i : Value) (wr : World) : Prop :=
  ∃ j : Nat, j ≤ n ∧ i = .int .i64 j ∧ Hid (∀ e ∈ L.take j, polyB q e.2.2.2 = true) ∧ Box w wr 25 p k g

end Go.Proofs.YtlphodhecaagbaaGreat

namespace Go.Proofs.YtlphodhecaagbaaGreat
open Go.RowKit
set_option linter.unusedSimpArgs false
set_option linter.unusedVariables false

section
variable {R : Fld} {p k g : Int}
/-- What a function leaves that returns a new list of elements. -/
def NewE (ps : List (El R)) (w : World) (x : Ending) (w' : World) : Prop :=
  ∃ A c, x = .returned (.slice A ps.length c) ∧ ps.length ≤ c ∧ Own w' w.heap.size 2 .i64 (.slice A ps.length c) (iv ps) ∧ Below w.heap.size w w'
theorem newE_of {ps : List (El R)} {w w' : World} {v : Value} {base : Nat} (h : Own w' base 2 .i64 v (iv ps)) (hb : Below w.heap.size w w') (hB : w.heap.size ≤ base) : NewE ps w (.returned v) w' := by
  obtain ⟨A, c, rfl, hc⟩ := h.form
  rw [iv_len] at h hc ⊢
  exact ⟨A, c, rfl, hc, h.low hB, hb⟩
theorem Own.intsE {w : World} {base n c : Nat} {e : TypeId} {A : Option Addr} {ps : List (El R)} (h : Own w base e .i64 (.slice A n c) (iv ps)) : Ints .i64 w w.heap.size A n (iv ps) := by
  have := h.len; subst this; exact h.ints

set_option maxHeartbeats 1000000 in
theorem specOwnE (A : Option Addr) (n c B : Nat) (ps : List (El R)) (w : World) (hI : Ints .i64 w B A n (iv ps)) (hB : B ≤ w.heap.size) (hn : n ≤ 1099511627776) :
    Calls Tryz.prog 84 #[.slice A n c] w (NewE ps w) := by
  have HI := hide hI
  clear hI
  go_enter Tryz.func84, Tryz.ntmps84
  go_wp2_with (at_builtin; refine wpList_appL _ rfl _ _ _ rfl elem64 w.heap.size _ [] rfl (Own.lit0 w _ _) B A n c (iv ps) rfl (HI.out.below ((Below.refl B w).alloc hB _)) (by simp; omega) (by simp) ?_; intro v2 w2 hown hgr)
  have HO := hide (show Own w2 w.heap.size 2 .i64 v2 (iv ps) by simpa using hown)
  have HBl := hide (((Below.refl w.heap.size w).alloc (Nat.le_refl _) _).grown hgr (by simp) (fun g hg => ((Own.lit0 w 2 .i64).lt hg).1))
  clear hown hgr
  go_wp2_with fail
  go_ret
  exact newE_of HO HBl (Nat.le_refl _)

def StRel (n : Nat) (ps : List (El R)) (v : Value) : Prop :=
  ∃ m : Nat, m ≤ n ∧ v = .int .i64 m ∧ Hid (trim (ps.take m) = trim ps)

set_option maxHeartbeats 1000000 in
theorem specTrimE (A : Option Addr) (n c B : Nat) (ps : List (El R)) (w : World) (hI : Ints .i64 w B A n (iv ps)) (hB : B ≤ w.heap.size) (hn : n ≤ 1099511627776) (hc : n ≤ c) :
    Calls Tryz.prog 82 #[.slice A n c] w (NewE (trim ps) w) := by
  have hl : ps.length = n := by have := hI.len; rw [iv_len] at this; exact this
  have HI := hide hI
  clear hI
  go_enter Tryz.func82, Tryz.ntmps82
  go_wp2_with fail
  go_loop [3] (fun v => StRel n ps v) (fun v => (intOf v).toNat)
  case atStart => exact ⟨n, Nat.le_refl _, rfl, by rw [List.take_of_length_le (by omega)]; rfl⟩
  case round =>
    obtain ⟨m, hm, rfl, HT⟩ := hrel
    have hsub : Ints .i64 w B A m (iv (ps.take m)) := by
      refine ⟨by rw [iv_len, List.length_take]; omega, fun hp => ?_⟩
      obtain ⟨b, off, rfl, hb, hcell⟩ := HI.out.2 (by omega)
      refine ⟨b, off, rfl, hb, fun j x hx => hcell j x ?_⟩
      rw [← iv_take, List.getElem?_take] at hx
      split at hx
      · exact hx
      · cases hx
    have HS := hide hsub
    clear hsub
    rcases Nat.eq_zero_or_pos m with rfl | hp
    · have HF := hide (show ps.take 0 = trim ps by rw [← HT.out]; rfl)
      go_wp2_with fail
      refine (specOwnE A 0 c B (ps.take 0) w HS.out hB (by omega)).mono ?_
      rw [HF.out]
      rintro e w1 ⟨A1, c1, rfl, hc1, ho1, hb1⟩
      have HO1 := hide ho1
      have HB1 := hide hb1
      clear ho1 hb1
      go_wp2_with fail
      go_ret
      exact ⟨A1, c1, rfl, hc1, HO1, HB1⟩
    · obtain ⟨i, hi⟩ : ∃ i, m = i + 1 := ⟨m - 1, by omega⟩
      have hw1 : IntKind.i64.wrap ((m : Int) - 1) = (i : Int) := by rw [IntWalk.i64_in _ ⟨by omega, by omega⟩]; omega
      have hin : i < n := by omega
      have hz : (0 : Int) < (m : Int) := by omega
      have hsn : ps.take m = ps.take i ++ [cf ps i] := by rw [hi, List.take_add_one, at_cf (by omega)]; rfl
      have him : i < m := by omega
      have HSN := hide hsn
      obtain ⟨b, off, x, rfl, hb, hx, hcc⟩ := HI.out.at_ hin
      rw [iv_at (by omega)] at hx
      simp only [Option.some.injEq] at hx
      subst hx
      clear hi hsn
      by_cases hz0 : cf ps i = 0
      · have HN := hide (show trim (ps.take i) = trim ps by rw [← HT.out, HSN.out, hz0, trim_zero])
        rw [hz0] at hcc
        clear hz0
        go_wp2_with fail
        go_round
        case rel => exact ⟨i, by omega, rfl, HN⟩
        case measure => simp [intOf]; omega
      · have HF := hide (show ps.take m = trim ps by rw [← HT.out, HSN.out, trim_more _ hz0])
        have hv : ((((cf ps i).val : Nat) : Int) == 0) = false := by have := val_ne hz0; simp; omega
        clear hz0
        go_wp2_with fail
        refine (specOwnE _ m c B (ps.take m) w HS.out hB (by omega)).mono ?_
        rw [HF.out]
        rintro e w1 ⟨A1, c1, rfl, hc1, ho1, hb1⟩
        have HO1 := hide ho1
        have HB1 := hide hb1
        clear ho1 hb1
        go_wp2_with fail
        go_ret
        exact ⟨A1, c1, rfl, hc1, HO1, HB1⟩

theorem specAtE (A : Option Addr) (n c B j : Nat) (ps : List (El R)) (w : World) (hI : Ints .i64 w B A n (iv ps)) (hj : j ≤ 1099511627776) (hn : n ≤ 1099511627776) :
    Calls Tryz.prog 86 #[.slice A n c, .int .i64 j] w fun e w' => e = .returned (.int .i64 ((cf ps j).val : Nat)) ∧ w = w' := by
  have hl : ps.length = n := by have := hI.len; rw [iv_len] at this; exact this
  have HI := hide hI
  clear hI
  have z0 : decide ((j : Int) < 0) = false := by simp
  by_cases hlt : j < n
  · obtain ⟨b, off, x, rfl, hb, hx, hc⟩ := HI.out.at_ hlt
    rw [iv_at (by omega)] at hx
    simp only [Option.some.injEq] at hx
    subst hx
    have z1 : decide ((n : Int) ≤ (j : Int)) = false := by simp; omega
    go_enter Tryz.func86, Tryz.ntmps86
    go_wp2
    go_ret
    exact ⟨rfl, rfl⟩
  · have z1 : (n : Int) ≤ (j : Int) := by omega
    have HF := hide (show ((((cf ps j).val : Nat)) : Int) = 0 by rw [cf_out (by omega)]; rfl)
    go_enter Tryz.func86, Tryz.ntmps86
    go_wp2
    go_ret
    exact ⟨ret_int HF, rfl⟩

def AdRel (w : World) (p k g : Int) (N : Nat) (f : Nat → El R) (v i : Value) (wr : World) : Prop :=
  ∃ j : Nat, j ≤ N ∧ i = .int .i64 j ∧ Own wr (w.heap.size + 1) 2 .i64 v (iv (tab j f)) ∧ Box w wr 25 p k g

set_option maxRecDepth 100000 in
set_option maxHeartbeats 4000000 in
theorem specAddE' (h : FldIs R p k g) (ps qs : List (El R)) (A A' : Option Addr) (n c m c' B : Nat) (w : World) (hI : Ints .i64 w B A n (iv ps)) (hJ : Ints .i64 w B A' m (iv qs)) (hB : B ≤ w.heap.size) (hn : n ≤ 549755813888) (hm : m ≤ 549755813888) :
    Calls Tryz.prog 142 #[.agg #[.int .i64 p, .int .i64 k, .int .i64 g], .slice A n c, .slice A' m c'] w (NewE (addP ps qs) w) := by
  have HX := hide (Box.start w 25 p k g)
  have hpn : ps.length = n := by rw [← iv_len]; exact hI.len
  have hqm : qs.length = m := by rw [← iv_len]; exact hJ.len
  have HI := hide hI
  have HJ := hide hJ
  clear hI hJ
  obtain ⟨N, hN⟩ : ∃ N, max n m = N := ⟨_, rfl⟩
  have hNn : n ≤ N := by omega
  have hNm : m ≤ N := by omega
  have hNb : N ≤ 549755813888 := by omega
  have hNx : N ≤ n ∨ N ≤ m := by omega
  have HA := hide (show trim (tab N fun i => cf ps i + cf qs i) = addP ps qs by rw [addP, hpn, hqm, hN])
  clear hN
  go_enter Tryz.func142, Tryz.ntmps142
  go_wp2_with fail
  have HXs := hide (HX.out.alloc (.cells #[] 2))
  have HOs := hide (Own.lit0 (w.alloc (.cells #[.int .i64 p, .int .i64 k, .int .i64 g] 25)) 2 .i64)
  go_loopw [7, 8] (fun v i wr => AdRel w p k g N (fun i => cf ps i + cf qs i) v i wr) (fun _ i _ => N - (intOf i).toNat)
  case atStart => exact ⟨0, by omega, rfl, by rw [← alloc_size w (.cells #[.int .i64 p, .int .i64 k, .int .i64 g] 25)]; exact HOs.out, HXs.out⟩
  case round =>
    clear HX HXs HOs
    obtain ⟨v, rfl⟩ : ∃ v : Value, v = u7 := ⟨_, rfl⟩
    obtain ⟨j, hj, rfl, HO, HX⟩ := hrel
    have HX := hide HX
    have HO := hide HO
    rcases (show (j < n) ∨ (decide (j < n) = false ∧ j < m) ∨ (decide (j < n) = false ∧ decide (j < m) = false) by simp only [decide_eq_false_iff_not]; omega) with z1 | ⟨z1, z2⟩ | ⟨z1, z2⟩
    rotate_left 2
    · have hjN : j = N := by simp only [decide_eq_false_iff_not] at z1 z2; omega
      have HE := hide (show trim (tab j fun i => cf ps i + cf qs i) = addP ps qs by rw [hjN]; exact HA.out)
      have HF := hide HO.out.form
      obtain ⟨Av, cv, rfl, hcv⟩ := HF.out
      rw [iv_len, tab_len] at hcv HO ⊢
      clear hjN
      go_wp2_with fail
      refine (specTrimE Av j cv wr.heap.size (tab j fun i => cf ps i + cf qs i) wr HO.out.intsE (Nat.le_refl _) (by omega) hcv).mono ?_
      rw [HE.out]
      rintro e w1 ⟨A1, c1, rfl, hc1, ho1, hb1⟩
      have HX1 := hide (HX.out.next hb1)
      have HO1 := hide (ho1.low (Nat.le_of_lt HX.out.lt))
      clear ho1 hb1
      go_wp2_with fail
      go_ret
      exact ⟨A1, c1, rfl, hc1, HO1, HX1.out.2⟩
    all_goals
      have HI1 := hide (HI.out.below (HX.out.2.mono hB))
      have HJ1 := hide (HJ.out.below (HX.out.2.mono hB))
      obtain ⟨x, hx⟩ : ∃ x, x = cf ps j := ⟨_, rfl⟩
      obtain ⟨y, hy⟩ : ∃ y, y = cf qs j := ⟨_, rfl⟩
      have HXY := hide (And.intro hx hy)
      have hjb : j < N := by omega
      have hwl : w.heap.size < wr.heap.size := HX.out.lt
      have HVB := hide (show ∀ b, v.ownBlock = some b → w.heap.size < b from fun b hb => (HO.out.lt hb).1)
      clear hx hy
      go_wp2_with fail
      go_region_held3 (fun w' => w'.cell? ⟨w.heap.size, 0, none⟩ = some (.int .i64 p) ∧ w'.cell? ⟨w.heap.size, 1, none⟩ = some (.int .i64 k) ∧ w'.cell? ⟨w.heap.size, 2, none⟩ = some (.int .i64 g))
        (first
          | exact ⟨HX.out.drew.cells.1, HX.out.drew.cells.2.1, HX.out.drew.cells.2.2⟩
          | exact ⟨HX2.out.cells.1, HX2.out.cells.2.1, HX2.out.cells.2.2⟩
          | exact ⟨(HX2.out.alloc _).cells.1, (HX2.out.alloc _).cells.2.1, (HX2.out.alloc _).cells.2.2⟩
          | exact ⟨HX3.out.cells.1, HX3.out.cells.2.1, HX3.out.cells.2.2⟩)
        (first
          | (go_at_call 86; have hm1 := HM1; refine (specAtE A' m c' B j qs _ HJ1.out.drew (by omega) (by omega)).mono ?_; rw [← HXY.out.2]; rintro e wb ⟨rfl, rfl⟩)
          | (go_at_call 86; refine (specAtE A n c B j ps _ HI1.out.drew (by omega) (by omega)).mono ?_; rw [← HXY.out.1]; rintro e wa ⟨rfl, rfl⟩; have HM1 : True := trivial)
          | (go_at_call 112; refine (specAddE h x y _).mono ?_; rintro e w2 ⟨rfl, hb2⟩; have HX2 := hide (HX.out.drew.next hb2); have HO2 := hide (HO.out.drew.below hb2 (Nat.le_refl _)); clear hb2)
          | (refine step_appL _ (by rfl) _ _ _ (by rfl) elem64 (w.heap.size + 1) v (iv (tab j fun i => cf ps i + cf qs i)) (by rfl) (HO2.out.alloc _) (w2.heap.size + 1) (some ⟨w2.heap.size, 0, none⟩) 1 1 [((x + y).val : Int)] (by rfl) (ints_one w2 2 .i64 ((x + y).val : Int)) (by rw [iv_len, tab_len]; omega) (by have := HX2.out.lt; rw [alloc_size]; omega) ?_; intro v3 w3 hown3 hgrow; have HX3 := hide ((HX2.out.alloc _).grow' hgrow HVB.out); have HO3 := hide hown3; clear hown3 hgrow))
      have HOn := hide (show Own w3 (w.heap.size + 1) 2 .i64 v3 (iv (tab (j + 1) fun i => cf ps i + cf qs i)) by
        have := HO3.out; rw [tab_snoc, iv_app, iv_one, ← HXY.out.1, ← HXY.out.2]; exact this)
      clear HO3
      go_wp2_with fail
      go_roundw
      case rel => exact ⟨j + 1, by omega, by go_num, HOn.out, HX3.out⟩
      case measure => simp [intOf]; omega
end
end Go.Proofs.YtlphodhecaagbaaGreat

namespace Go.Proofs.YtlphodhecaagbaaGreat
open Go Go.RowKit

section
variable {P : Program} {ops : Array Oper} {Q : Exit → Act → World → Prop} {md : Region.Mode} {S : World → Prop} {z : Nat}

/-- Whatever order is picked from here on; S holds behind each operation but number z. -/
def wpTail (P : Program) (md : Region.Mode) (ops : Array Oper) (Q : Exit → Act → World → Prop) (S : World → Prop) (z : Nat) : Nat → Array Bool → Act → World → Prop
  | 0, listed, a, w => Region.ready md ops listed = [] ∧ Q .normal a w
  | n + 1, listed, a, w =>
    (Region.ready md ops listed = [] → Q .normal a w) ∧
    ∀ i ∈ Region.ready md ops listed, wpOp P ops Q i (fun b v => (i ≠ z → S v) ∧ wpTail P md ops Q S z n (listed.setIfInBounds i true) b v) a w

theorem tail_any : ∀ (n : Nat) (listed : Array Bool) (a : Act) (w : World), wpTail P md ops Q S z n listed a w → wpAny P md ops Q n listed a w := by
  intro n
  induction n with
  | zero => exact fun _ _ _ h => h
  | succ n ih => exact fun _ _ _ h => ⟨h.1, fun i hi => wpOp_mono (fun b v hv => ih _ b v hv.2) (h.2 i hi)⟩

/-- Operation j waits for operation i. -/
def waitB (md : Region.Mode) (ops : Array Oper) (j i : Nat) : Bool := ((ops[j]?).map fun o => o.after.any fun x => Region.binds md x && x.on == i).getD false
/-- Who waits for an operation that has not come up does not come up. -/
theorem waits_not {i j : Nat} {listed : Array Bool} (hw : waitB md ops j i = true) (hi : i ∈ Region.ready md ops listed) : j ∉ Region.ready md ops listed := by
  intro hj
  obtain ⟨_, oj, hoj, hall⟩ := mem_ready.1 hj
  unfold waitB at hw
  rw [hoj] at hw
  obtain ⟨x, hx, hxe⟩ := Array.any_eq_true'.1 hw
  simp only [Bool.and_eq_true, beq_iff_eq] at hxe
  obtain ⟨hb, he⟩ := hxe
  have a1 := hall x hx hb
  have a0 := (mem_ready.1 hi).1
  rw [he] at a1
  rcases Nat.lt_or_ge i listed.size with hl | hl
  · simp [hl] at a0 a1; rw [a0] at a1; cases a1
  · simp [Array.getElem?_eq_none hl] at a1

theorem tail_first {i : Nat} {oi : Oper} {v : Value} (hi : ops[i]? = some oi) (hsel : Region.noSelect ops = true) (hz : waitB md ops z i = true)
    (hQ : ∀ c a w, Q (.panic c) (a.put oi.dst v) w → Q (.panic c) a w) (n : Nat) : ∀ (listed : Array Bool) (a : Act) (w : World),
    (∀ j oj, ops[j]? = some oj → j ≠ i → listed.getD j true = false → (∀ e ∈ oj.after, Region.binds md e = true → e.on ≠ i) → oi.apart ops oj = true) →
    i ∈ Region.ready md ops listed → YieldsIf P ops S oi v a → S w →
    wpTail P md ops Q S z n (listed.setIfInBounds i true) (a.put oi.dst v) w → wpTail P md ops Q S z (n + 1) listed a w := by
  induction n with
  | zero =>
    intro listed a w _ hr hy hS H
    refine ⟨fun e => by rw [e] at hr; simp at hr, fun j hj => ?_⟩
    by_cases e : j = i
    · subst e; exact hy.wpOp hi hS ⟨fun _ => hS, H⟩
    · have hm := ready_mono hj e
      rw [H.1] at hm
      simp at hm
  | succ n ih =>
    intro listed a w hfree hr hy hS H
    refine ⟨fun e => by rw [e] at hr; simp at hr, fun j hj => ?_⟩
    by_cases e : j = i
    · subst e; exact hy.wpOp hi hS ⟨fun _ => hS, H⟩
    · have hstep := H.2 j (ready_mono hj e)
      have hjz : j ≠ z := fun h => waits_not hz hr (h ▸ hj)
      obtain ⟨hun, oj, hoj, hall⟩ := mem_ready.1 hj
      have hnot : ∀ x ∈ oj.after, Region.binds md x = true → x.on ≠ i := by
        intro x hx hb he
        have hw : waitB md ops j i = true := by
          unfold waitB; rw [hoj]
          exact Array.any_eq_true'.2 ⟨x, hx, by simp [hb, he]⟩
        exact waits_not hw hr hj
      have hput := wpOp_putIf hoj (hfree j oj hoj e hun hnot) (fun cs b => Region.noSelect_spec hsel i oi cs b hi) (fun cs b => Region.noSelect_spec hsel j oj cs b hoj) hQ hy hstep
      have hstill : i ∈ Region.ready md ops (listed.setIfInBounds j true) := ready_mono hr (Ne.symm e)
      have hfree' : ∀ k ok, ops[k]? = some ok → k ≠ i → (listed.setIfInBounds j true).getD k true = false → (∀ x ∈ ok.after, Region.binds md x = true → x.on ≠ i) → oi.apart ops ok = true := by
        intro k ok hk hki hunk hno
        refine hfree k ok hk hki ?_ hno
        by_cases ejk : j = k
        · subst ejk; exact hun
        · rwa [getD_set_ne true ejk] at hunk
      exact wpOp_mono (fun b u hu => ⟨fun _ => hu.2.1 hjz, ih _ b u hfree' hstill hu.1 (hu.2.1 hjz) (by rw [Array.setIfInBounds_comm _ _ e]; exact hu.2.2)⟩) hput

/-! The moves. -/
theorem tail_begin {id : Nat} {l : List Oper} {a : Act} {w : World} (S : World → Prop) (z : Nat) (hm : P.follows .mixedOrders = true) (hS : S w.drew)
    (h : S w.drew → wpTail P .any l.toArray Q S z l.length (Array.replicate l.length false) a w.drew) : (Code.region id l.toArray true).wp P Q a w :=
  wp_region_any hm (by have := tail_any _ _ _ _ (h hS); simpa using this)
theorem at_drop {l r : List Oper} {i : Nat} {o : Oper} (h : l.drop i = o :: r) : l.toArray[i]? = some o := by
  have : (l.drop i)[0]? = some o := by rw [h]; rfl
  rw [List.getElem?_drop, Nat.add_zero] at this
  simpa using this
theorem tail_take {l r : List Oper} {oi : Oper} {v : Value} {n : Nat} {listed : Array Bool} {a : Act} {w : World} (i : Nat) (hi : l.drop i = oi :: r) (hsel : Region.noSelect l.toArray = true)
    (hf : Region.free md l.toArray listed i = true) (hr : (Region.ready md l.toArray listed).contains i = true) (hz : waitB md l.toArray z i = true) (hQ : ∀ c a w, Q (.panic c) (a.put oi.dst v) w → Q (.panic c) a w)
    (hw : Region.wanted oi (yielded l.toArray a.tmps) = true) (hy : ∀ w, S w → (execOp a.eval oi).run P w = .ok (.value v) w) (hS : S w)
    (h : wpTail P md l.toArray Q S z n (listed.setIfInBounds i true) (a.put oi.dst v) w) : wpTail P md l.toArray Q S z (n + 1) listed a w :=
  tail_first (at_drop hi) hsel hz hQ n listed a w (Region.free_spec (at_drop hi) hf) (by simpa using hr) (.inl ⟨hw, hy⟩) hS h
/-- The only operation that may come up: a call. -/
theorem tail_call {l r : List Oper} {oi : Oper} {n : Nat} {listed : Array Bool} {a : Act} {w : World} (i : Nat) (hi : l.drop i = oi :: r)
    (hr : Region.ready md l.toArray listed = [i]) (hg : oi.guard = none)
    (h : ∀ K : Act → World → Prop, Hid (∀ b v, S v → (S v → wpTail P md l.toArray Q S z n (listed.setIfInBounds i true) b v) → K b v) → Oper.wp P oi a w K Q) : wpTail P md l.toArray Q S z (n + 1) listed a w := by
  refine ⟨fun e => by rw [hr] at e; simp at e, fun j hj => ?_⟩
  rw [hr] at hj
  obtain rfl : j = i := by simpa using hj
  refine wpOp_step (at_drop hi) fun K hK => ?_
  rw [if_pos (by simp [Region.wanted, hg])]
  exact h K (fun b v hS hT => hK b v ⟨fun _ => hS, hT hS⟩)
/-- The last operation. -/
theorem tail_last {l r : List Oper} {oi : Oper} {n : Nat} {listed : Array Bool} {a : Act} {w : World} (i : Nat) (hi : l.drop i = oi :: r)
    (hr : Region.ready md l.toArray listed = [i]) (hl : Region.ready md l.toArray (listed.setIfInBounds i true) = []) (hz : i = z) (hg : oi.guard = none)
    (h : ∀ K : Act → World → Prop, Hid (∀ b v, Q .normal b v → K b v) → Oper.wp P oi a w K Q) : wpTail P md l.toArray Q S z (n + 1) listed a w := by
  refine ⟨fun e => by rw [hr] at e; simp at e, fun j hj => ?_⟩
  rw [hr] at hj
  obtain rfl : j = i := by simpa using hj
  refine wpOp_step (at_drop hi) fun K hK => ?_
  rw [if_pos (by simp [Region.wanted, hg])]
  refine h K (fun b v hq => hK b v ⟨fun hne => absurd hz hne, ?_⟩)
  cases n with
  | zero => exact ⟨hl, hq⟩
  | succ n => exact ⟨fun _ => hq, fun k hk => by rw [hl] at hk; simp at hk⟩
end
end Go.Proofs.YtlphodhecaagbaaGreat

namespace Go.Proofs.YtlphodhecaagbaaGreat
open Go.RowKit
set_option linter.unusedSimpArgs false
set_option linter.unusedVariables false

section
variable {R : Fld} {p k g : Int}
/-- The sum of the multiples of q by the coefficients of p that have been taken. -/
def MuRel (w : World) (p k g : Int) (N n : Nat) (ps qs : List (El R)) (i : Value) (wr : World) : Prop :=
  ∃ j : Nat, j ≤ n ∧ i = .int .i64 j ∧ Own wr (w.heap.size + 1) 2 .i64 (.slice (some ⟨w.heap.size + 1, 0, none⟩) N N) (iv (tab N (mulN (cf ps) (cf qs) j))) ∧ Box w wr 25 p k g
def MiRel (w : World) (p k g : Int) (N m s : Nat) (a : El R) (f : Nat → El R) (qs : List (El R)) (i : Value) (wr : World) : Prop :=
  ∃ j : Nat, j ≤ m ∧ i = .int .i64 j ∧ Own wr (w.heap.size + 1) 2 .i64 (.slice (some ⟨w.heap.size + 1, 0, none⟩) N N) (iv (tab N fun i => f i + up s a (cf (qs.take j)) i)) ∧ Box w wr 25 p k g
theorem Box.set' {w wr : World} {t : TypeId} {b : Nat} (h : Box w wr t p k g) (hb : w.heap.size < b) (j : Nat) (u : Value) : Box w (wr.setCell ⟨b, j, none⟩ u) t p k g :=
  h.grow' (set_grown wr b j u) (fun r hr => by simp only [Option.some.injEq] at hr; omega)

set_option maxRecDepth 100000 in
set_option maxHeartbeats 8000000 in
theorem specMulE' (h : FldIs R p k g) (ps qs : List (El R)) (A A' : Option Addr) (n c m c' B : Nat) (w : World) (hI : Ints .i64 w B A n (iv ps)) (hJ : Ints .i64 w B A' m (iv qs)) (hB : B ≤ w.heap.size) (hn : n ≤ 549755813888) (hm : m ≤ 549755813888) :
    Calls Tryz.prog 116 #[.agg #[.int .i64 p, .int .i64 k, .int .i64 g], .slice A n c, .slice A' m c'] w (NewE (trim (mulP ps qs)) w) := by
  have HX := hide (Box.start w 25 p k g)
  have hpn : ps.length = n := by rw [← iv_len]; exact hI.len
  have hqm : qs.length = m := by rw [← iv_len]; exact hJ.len
  have HI := hide hI
  have HJ := hide hJ
  clear hI hJ
  by_cases h0 : n = 0 ∨ m = 0
  · have HE := hide (show trim (mulP ps qs) = [] by
      rw [show mulP ps qs = [] from List.eq_nil_of_length_eq_zero (by rw [mulP, tab_len, plen_0 (by omega)])]; rfl)
    have hOs := Own.lit0 (w.alloc (.cells #[.int .i64 p, .int .i64 k, .int .i64 g] 25)) 2 .i64
    rw [alloc_size] at hOs
    have HOs := hide hOs
    clear hOs
    have HXs := hide (HX.out.alloc (.cells #[] 2))
    rw [HE.out]
    rcases Nat.eq_zero_or_pos n with e0 | e0
    · subst e0
      go_enter Tryz.func116, Tryz.ntmps116
      go_wp2_with fail
      go_ret
      exact ⟨_, _, rfl, Nat.le_refl _, HOs.out.low (Nat.le_succ _), HXs.out.2⟩
    · obtain rfl : m = 0 := by omega
      have e1 : ((n : Int) == 0) = false := by simp; omega
      go_enter Tryz.func116, Tryz.ntmps116
      go_wp2_with fail
      go_ret
      exact ⟨_, _, rfl, Nat.le_refl _, HOs.out.low (Nat.le_succ _), HXs.out.2⟩
  have hn0 : 0 < n := by omega
  have hm0 : 0 < m := by omega
  have e1 : ((n : Int) == 0) = false := by simp; omega
  have e2 : ((m : Int) == 0) = false := by simp; omega
  obtain ⟨N, hN⟩ : ∃ N, N = n + m - 1 := ⟨_, rfl⟩
  have hNn : n ≤ N := by omega
  have hNm : m ≤ N := by omega
  have hNb : N ≤ 1099511627776 := by omega
  have hNx : N + 1 = n + m := by omega
  have HN := hide (show plen ps qs = N by rw [plen_1 (by omega) (by omega), hpn, hqm, hN])
  have hNw : IntKind.i64.wrap (IntKind.i64.wrap ((n : Int) + (m : Int)) - 1) = (N : Int) := by
    rw [IntWalk.i64_in ((n : Int) + (m : Int)) ⟨by omega, by omega⟩, IntWalk.i64_in _ ⟨by omega, by omega⟩]; omega
  have hNw2 : (n : Int) + (m : Int) - 1 = (N : Int) := by omega
  clear hN h0
  go_enter Tryz.func116, Tryz.ntmps116
  go_wp2_with (refine wpList_mkN _ rfl (.tmp 24) (.tmp 24) 28 rfl elem64 .i64 .i64 _ _ N rfl rfl (by omega) (by omega) (by omega) fun w1 h1 h2 => ?_; have HX1 := hide (HX.out.next h2); rw [alloc_size, iv_zeros (R := R)] at h1; have HO1 := hide h1; clear h1 h2)
  go_loopw [8] (fun i wr => MuRel w p k g N n ps qs i wr) (fun i _ => n - (intOf i).toNat)
  case atStart => exact ⟨0, by omega, rfl, HO1.out, HX1.out⟩
  case round =>
    clear HX1 HO1
    obtain ⟨wo, rfl⟩ : ∃ wo : World, wo = wr := ⟨_, rfl⟩
    obtain ⟨s, hs, rfl, HO, HX⟩ := hrel
    have HX := hide HX
    have HO := hide HO
    by_cases hlt : s < n
    · obtain ⟨a, ha⟩ : ∃ a, a = cf ps s := ⟨_, rfl⟩
      obtain ⟨f, hf⟩ : ∃ f, f = mulN (cf ps) (cf qs) s := ⟨_, rfl⟩
      have HA := hide ha
      have HFF := hide hf
      rw [← hf] at HO
      clear ha hf
      go_wp2_with fail
      go_loopw [9] (fun i wr => MiRel w p k g N m s a f qs i wr) (fun i _ => m - (intOf i).toNat)
      case atStart => exact ⟨0, by omega, rfl, by rw [← add_none]; exact HO.out, HX.out⟩
      case round =>
        clear HX HO
        obtain ⟨j, hj, rfl, HO, HX⟩ := hrel
        have HX := hide HX
        have HO := hide HO
        by_cases hlj : j < m
        · obtain ⟨b, off, x, rfl, hb, hx, hc⟩ := (HI.out.below (HX.out.2.mono hB)).at_ hlt
          obtain ⟨b', off', x', rfl, hb', hx', hc'⟩ := (HJ.out.below (HX.out.2.mono hB)).at_ hlj
          rw [iv_at (by omega)] at hx hx'
          simp only [Option.some.injEq] at hx hx'
          subst hx
          subst hx'
          obtain ⟨y, hy⟩ : ∃ y, y = cf qs j := ⟨_, rfl⟩
          rw [← hy] at hc'
          rw [← HA.out] at hc
          have HY := hide hy
          obtain ⟨c0, c1, c2⟩ := HX.out.cells
          have hcx := HO.out.cellAt (j := s + j) (x := ((f (s + j)).val : Int)) (by rw [iv, List.getElem?_map, add_at (by omega)]; rfl)
          have hfx := HO.out.frozenAt (s + j)
          obtain ⟨t, ht⟩ : ∃ t, t = s + j := ⟨_, rfl⟩
          obtain ⟨u, hu⟩ : ∃ u, u = f (s + j) := ⟨_, rfl⟩
          rw [← hu, ← ht] at hcx
          rw [← ht] at hfx
          have htn : t < N := by omega
          have HT := hide ht
          have HU := hide hu
          have hbl : b < wr.heap.size := Nat.lt_of_lt_of_le hb (Nat.le_trans hB (Nat.le_of_lt HX.out.lt))
          have hbl' : b' < wr.heap.size := Nat.lt_of_lt_of_le hb' (Nat.le_trans hB (Nat.le_of_lt HX.out.lt))
          have hgl : w.heap.size + 1 < wr.heap.size := (HO.out.lt (g := w.heap.size + 1) rfl).2
          have hw1 : IntKind.i64.wrap ((s : Int) + (j : Int)) = (t : Int) := by rw [IntWalk.i64_in _ ⟨by omega, by omega⟩]; omega
          have HCP := hide hc
          have HCQ := hide hc'
          have HFZ := hide hfx
          have HCX := hide hcx
          clear hu ht hy c0 c1 c2 hfx hcx hc hc'
          go_wp2_with fail
          refine tail_begin (fun w' => w'.cell? ⟨w.heap.size, 0, none⟩ = some (.int .i64 p) ∧ w'.cell? ⟨w.heap.size, 1, none⟩ = some (.int .i64 k) ∧ w'.cell? ⟨w.heap.size, 2, none⟩ = some (.int .i64 g) ∧ w'.cell? ⟨b, off + s, none⟩ = some (.int .i64 (a.val : Int)) ∧ w'.cell? ⟨b', off' + j, none⟩ = some (.int .i64 (y.val : Int)) ∧ w'.cell? ⟨w.heap.size + 1, t, none⟩ = some (.int .i64 (u.val : Int))) 23 (by kernel_rfl) ⟨HX.out.drew.cells.1, HX.out.drew.cells.2.1, HX.out.drew.cells.2.2, HCP.out, HCQ.out, HCX.out⟩ (fun hS' => ?_)
          refine tail_take 0 rfl (by kernel_rfl) (by kernel_rfl) (by kernel_rfl) (by kernel_rfl) (fun _ _ _ h => h) (by rfl) (v := ?_) ?_ (by assumption) ?_
          rotate_left 1
          · intro w' hS'; (try dsimp only at hS'); go_simp; try with_reducible rfl
          try simp only [Act.put, List.setIfInBounds_toArray, List.set_cons_zero, List.set_cons_succ]
          refine tail_take 1 rfl (by kernel_rfl) (by kernel_rfl) (by kernel_rfl) (by kernel_rfl) (fun _ _ _ h => h) (by rfl) (v := ?_) ?_ (by assumption) ?_
          rotate_left 1
          · intro w' hS'; (try dsimp only at hS'); go_simp; try with_reducible rfl
          try simp only [Act.put, List.setIfInBounds_toArray, List.set_cons_zero, List.set_cons_succ]
          refine tail_take 2 rfl (by kernel_rfl) (by kernel_rfl) (by kernel_rfl) (by kernel_rfl) (fun _ _ _ h => h) (by rfl) (v := ?_) ?_ (by assumption) ?_
          rotate_left 1
          · intro w' hS'; (try dsimp only at hS'); go_simp; try with_reducible rfl
          try simp only [Act.put, List.setIfInBounds_toArray, List.set_cons_zero, List.set_cons_succ]
          refine tail_take 3 rfl (by kernel_rfl) (by kernel_rfl) (by kernel_rfl) (by kernel_rfl) (fun _ _ _ h => h) (by rfl) (v := ?_) ?_ (by assumption) ?_
          rotate_left 1
          · intro w' hS'; (try dsimp only at hS'); go_simp; try with_reducible rfl
          try simp only [Act.put, List.setIfInBounds_toArray, List.set_cons_zero, List.set_cons_succ]
          refine tail_take 4 rfl (by kernel_rfl) (by kernel_rfl) (by kernel_rfl) (by kernel_rfl) (fun _ _ _ h => h) (by rfl) (v := ?_) ?_ (by assumption) ?_
          rotate_left 1
          · intro w' hS'; (try dsimp only at hS'); go_simp; try with_reducible rfl
          try simp only [Act.put, List.setIfInBounds_toArray, List.set_cons_zero, List.set_cons_succ]
          refine tail_take 5 rfl (by kernel_rfl) (by kernel_rfl) (by kernel_rfl) (by kernel_rfl) (fun _ _ _ h => h) (by rfl) (v := ?_) ?_ (by assumption) ?_
          rotate_left 1
          · intro w' hS'; (try dsimp only at hS'); go_simp; try with_reducible rfl
          try simp only [Act.put, List.setIfInBounds_toArray, List.set_cons_zero, List.set_cons_succ]
          refine tail_take 6 rfl (by kernel_rfl) (by kernel_rfl) (by kernel_rfl) (by kernel_rfl) (fun _ _ _ h => h) (by rfl) (v := ?_) ?_ (by assumption) ?_
          rotate_left 1
          · intro w' hS'; (try dsimp only at hS'); go_simp; try with_reducible rfl
          try simp only [Act.put, List.setIfInBounds_toArray, List.set_cons_zero, List.set_cons_succ]
          refine tail_take 7 rfl (by kernel_rfl) (by kernel_rfl) (by kernel_rfl) (by kernel_rfl) (fun _ _ _ h => h) (by rfl) (v := ?_) ?_ (by assumption) ?_
          rotate_left 1
          · intro w' hS'; (try dsimp only at hS'); go_simp; try with_reducible rfl
          try simp only [Act.put, List.setIfInBounds_toArray, List.set_cons_zero, List.set_cons_succ]
          refine tail_take 8 rfl (by kernel_rfl) (by kernel_rfl) (by kernel_rfl) (by kernel_rfl) (fun _ _ _ h => h) (by rfl) (v := ?_) ?_ (by assumption) ?_
          rotate_left 1
          · intro w' hS'; (try dsimp only at hS'); go_simp; try with_reducible rfl
          try simp only [Act.put, List.setIfInBounds_toArray, List.set_cons_zero, List.set_cons_succ]
          refine tail_take 9 rfl (by kernel_rfl) (by kernel_rfl) (by kernel_rfl) (by kernel_rfl) (fun _ _ _ h => h) (by rfl) (v := ?_) ?_ (by assumption) ?_
          rotate_left 1
          · intro w' hS'; (try dsimp only at hS'); go_simp; try with_reducible rfl
          try simp only [Act.put, List.setIfInBounds_toArray, List.set_cons_zero, List.set_cons_succ]
          refine tail_take 10 rfl (by kernel_rfl) (by kernel_rfl) (by kernel_rfl) (by kernel_rfl) (fun _ _ _ h => h) (by rfl) (v := ?_) ?_ (by assumption) ?_
          rotate_left 1
          · intro w' hS'; (try dsimp only at hS'); go_simp; try with_reducible rfl
          try simp only [Act.put, List.setIfInBounds_toArray, List.set_cons_zero, List.set_cons_succ]
          refine tail_take 11 rfl (by kernel_rfl) (by kernel_rfl) (by kernel_rfl) (by kernel_rfl) (fun _ _ _ h => h) (by rfl) (v := ?_) ?_ (by assumption) ?_
          rotate_left 1
          · intro w' hS'; (try dsimp only at hS'); go_simp; try with_reducible rfl
          try simp only [Act.put, List.setIfInBounds_toArray, List.set_cons_zero, List.set_cons_succ]
          refine tail_take 12 rfl (by kernel_rfl) (by kernel_rfl) (by kernel_rfl) (by kernel_rfl) (fun _ _ _ h => h) (by rfl) (v := ?_) ?_ (by assumption) ?_
          rotate_left 1
          · intro w' hS'; (try dsimp only at hS'); go_simp; try with_reducible rfl
          try simp only [Act.put, List.setIfInBounds_toArray, List.set_cons_zero, List.set_cons_succ]
          refine tail_take 13 rfl (by kernel_rfl) (by kernel_rfl) (by kernel_rfl) (by kernel_rfl) (fun _ _ _ h => h) (by rfl) (v := ?_) ?_ (by assumption) ?_
          rotate_left 1
          · intro w' hS'; (try dsimp only at hS'); go_simp; try with_reducible rfl
          try simp only [Act.put, List.setIfInBounds_toArray, List.set_cons_zero, List.set_cons_succ]
          refine tail_take 14 rfl (by kernel_rfl) (by kernel_rfl) (by kernel_rfl) (by kernel_rfl) (fun _ _ _ h => h) (by rfl) (v := ?_) ?_ (by assumption) ?_
          rotate_left 1
          · intro w' hS'; (try dsimp only at hS'); go_simp; try with_reducible rfl
          try simp only [Act.put, List.setIfInBounds_toArray, List.set_cons_zero, List.set_cons_succ]
          refine tail_take 15 rfl (by kernel_rfl) (by kernel_rfl) (by kernel_rfl) (by kernel_rfl) (fun _ _ _ h => h) (by rfl) (v := ?_) ?_ (by assumption) ?_
          rotate_left 1
          · intro w' hS'; (try dsimp only at hS'); go_simp; try with_reducible rfl
          try simp only [Act.put, List.setIfInBounds_toArray, List.set_cons_zero, List.set_cons_succ]
          refine tail_take 16 rfl (by kernel_rfl) (by kernel_rfl) (by kernel_rfl) (by kernel_rfl) (fun _ _ _ h => h) (by rfl) (v := ?_) ?_ (by assumption) ?_
          rotate_left 1
          · intro w' hS'; (try dsimp only at hS'); go_simp; try with_reducible rfl
          try simp only [Act.put, List.setIfInBounds_toArray, List.set_cons_zero, List.set_cons_succ]
          refine tail_take 17 rfl (by kernel_rfl) (by kernel_rfl) (by kernel_rfl) (by kernel_rfl) (fun _ _ _ h => h) (by rfl) (v := ?_) ?_ (by assumption) ?_
          rotate_left 1
          · intro w' hS'; (try dsimp only at hS'); go_simp; try with_reducible rfl
          try simp only [Act.put, List.setIfInBounds_toArray, List.set_cons_zero, List.set_cons_succ]
          refine tail_take 18 rfl (by kernel_rfl) (by kernel_rfl) (by kernel_rfl) (by kernel_rfl) (fun _ _ _ h => h) (by rfl) (v := ?_) ?_ (by assumption) ?_
          rotate_left 1
          · intro w' hS'; (try dsimp only at hS'); go_simp; try with_reducible rfl
          try simp only [Act.put, List.setIfInBounds_toArray, List.set_cons_zero, List.set_cons_succ]
          refine tail_take 19 rfl (by kernel_rfl) (by kernel_rfl) (by kernel_rfl) (by kernel_rfl) (fun _ _ _ h => h) (by rfl) (v := ?_) ?_ (by assumption) ?_
          rotate_left 1
          · intro w' hS'; (try dsimp only at hS'); go_simp; try with_reducible rfl
          try simp only [Act.put, List.setIfInBounds_toArray, List.set_cons_zero, List.set_cons_succ]
          refine tail_call 20 rfl (by kernel_rfl) rfl (fun K hK => ?_)
          go_simp
          go_at_call 96; refine (specMulE h a y _).mono ?_; rintro e w2 ⟨rfl, hb2⟩; have HX2 := hide (HX.out.drew.next hb2); have HO2 := hide (HO.out.drew.below hb2 (Nat.le_refl _)); have HCP2 := hide ((hb2.cell (p := ⟨b, off + s, none⟩) hbl).trans HCP.out); have HCQ2 := hide ((hb2.cell (p := ⟨b', off' + j, none⟩) hbl').trans HCQ.out); have HCX2 := hide ((hb2.cell (p := ⟨w.heap.size + 1, t, none⟩) hgl).trans HCX.out); have hgl2 := Nat.lt_of_lt_of_le hgl hb2.size; have hbl2 := Nat.lt_of_lt_of_le hbl hb2.size; have hbl2' := Nat.lt_of_lt_of_le hbl' hb2.size; clear hb2
          refine hK.out _ _ (by (try dsimp only); exact ⟨HX2.out.cells.1, HX2.out.cells.2.1, HX2.out.cells.2.2, HCP2.out, HCQ2.out, HCX2.out⟩) (fun hS' => ?_)
          clear hK K
          try simp only [Act.put, List.setIfInBounds_toArray, List.set_cons_zero, List.set_cons_succ]
          refine tail_call 21 rfl (by kernel_rfl) rfl (fun K hK => ?_)
          go_simp
          go_at_call 112; refine (specAddE h u (a * y) _).mono ?_; rintro e w3 ⟨rfl, hb3⟩; have HX3 := hide (HX2.out.next hb3); have HO3 := hide (HO2.out.below hb3 (Nat.le_refl _)); have HCP3 := hide ((hb3.cell (p := ⟨b, off + s, none⟩) hbl2).trans HCP2.out); have HCQ3 := hide ((hb3.cell (p := ⟨b', off' + j, none⟩) hbl2').trans HCQ2.out); have HCX3 := hide ((hb3.cell (p := ⟨w.heap.size + 1, t, none⟩) hgl2).trans HCX2.out); clear hb3
          refine hK.out _ _ (by (try dsimp only); exact ⟨HX3.out.cells.1, HX3.out.cells.2.1, HX3.out.cells.2.2, HCP3.out, HCQ3.out, HCX3.out⟩) (fun hS' => ?_)
          clear hK K
          try simp only [Act.put, List.setIfInBounds_toArray, List.set_cons_zero, List.set_cons_succ]
          refine tail_take 22 rfl (by kernel_rfl) (by kernel_rfl) (by kernel_rfl) (by kernel_rfl) (fun _ _ _ h => h) (by rfl) (v := ?_) ?_ (by assumption) ?_
          rotate_left 1
          · intro w' hS'; (try dsimp only at hS'); go_simp; try with_reducible rfl
          try simp only [Act.put, List.setIfInBounds_toArray, List.set_cons_zero, List.set_cons_succ]
          have hcx3 := HCX3.out
          have hfx3 := HO3.out.frozenAt t
          refine tail_last 23 rfl (by kernel_rfl) (by kernel_rfl) rfl rfl (fun K hK => ?_)
          go_simp
          refine hK.out _ _ ?_
          clear hK K
          try simp only [Act.put, List.setIfInBounds_toArray, List.set_cons_zero, List.set_cons_succ]
          have HOn := hide (am_next HT.out HU.out HY.out HO3.out)
          have HX4 := hide (HX3.out.set' (b := w.heap.size + 1) (by omega) t (.int .i64 ((u + a * y).val : Nat)))
          clear HCP HCQ HFZ HCX HCP2 HCQ2 HCX2 HCP3 HCQ3 HCX3 HO2 HO3 HX2 HX3 hcx3 hfx3
          go_wp2_with fail
          go_roundw
          case rel => exact ⟨j + 1, by omega, by go_num, HOn.out, HX4.out⟩
          case measure => simp [intOf]; omega
        · obtain rfl : j = m := by omega
          have HOn := hide (show Own wr (w.heap.size + 1) 2 .i64 (.slice (some ⟨w.heap.size + 1, 0, none⟩) N N) (iv (tab N (mulN (cf ps) (cf qs) (s + 1)))) by
            have := HO.out
            rw [List.take_of_length_le (by omega), HFF.out, HA.out] at this
            exact this)
          clear HO
          go_wp2_with fail
          go_roundw
          case rel => exact ⟨s + 1, by omega, by go_num, HOn.out, HX.out⟩
          case measure => simp [intOf]; omega
    · obtain rfl : s = n := by omega
      have HP := hide (show tab N (mulN (cf ps) (cf qs) s) = mulP ps qs by rw [mulP, HN.out, hpn])
      rw [HP.out] at HO
      go_wp2_with fail
      refine (specTrimE _ N N wo.heap.size (mulP ps qs) wo HO.out.intsE (Nat.le_refl _) (by omega) (Nat.le_refl _)).mono ?_
      rintro e w1 ⟨A1, c1, rfl, hc1, ho1, hb1⟩
      have HX1 := hide (HX.out.next hb1)
      have HO1 := hide (ho1.low (Nat.le_of_lt HX.out.lt))
      clear ho1 hb1
      go_wp2_with fail
      go_ret
      exact ⟨A1, c1, rfl, hc1, HO1, HX1.out.2⟩
end
end Go.Proofs.YtlphodhecaagbaaGreat

namespace Go.Proofs.YtlphodhecaagbaaGreat
open Go.RowKit
set_option linter.unusedSimpArgs false
set_option linter.unusedVariables false

section
variable {R : Fld} {p k g : Int}
/-- What a function leaves that returns two new lists of elements. -/
def NewEE (qs rs : List (El R)) (w : World) (x : Ending) (w' : World) : Prop :=
  ∃ A c A' c', x = .returned (.tuple #[.slice A qs.length c, .slice A' rs.length c']) ∧ qs.length ≤ c ∧ rs.length ≤ c' ∧ Own w' w.heap.size 2 .i64 (.slice A qs.length c) (iv qs) ∧ Own w' w.heap.size 2 .i64 (.slice A' rs.length c') (iv rs) ∧
    (((Value.slice A qs.length c).ownBlock = none ∨ (Value.slice A qs.length c).ownBlock ≠ (Value.slice A' rs.length c').ownBlock) ∧ ((Value.slice A' rs.length c').ownBlock = none ∨ (Value.slice A' rs.length c').ownBlock ≠ (Value.slice A qs.length c).ownBlock)) ∧ Below w.heap.size w w'

def SvRel (w : World) (p k g : Int) (gr cr gq n K d : Nat) (ps qs : List (El R)) (v : El R) (i : Value) (wr : World) : Prop :=
  ∃ (j : Nat) (kk : Int) (f t : Nat → El R), j ≤ K ∧ kk = (j : Int) - 1 ∧ i = .int .i64 kk ∧ Hid (dvs (cf qs) d v j f = dvs (cf qs) d v K (cf ps)) ∧ Hid (∀ i, (if i < j then dvq (cf qs) d v j f i else t i) = dvq (cf qs) d v K (cf ps) i) ∧
    Own wr gr 2 .i64 (.slice (some ⟨gr, 0, none⟩) n cr) (iv (tab n f)) ∧ Own wr gq 2 .i64 (.slice (some ⟨gq, 0, none⟩) K K) (iv (tab K t)) ∧ Box w wr 25 p k g
def SiRel (w : World) (p k g : Int) (gr cr gq n m K s : Nat) (a : El R) (f t : Nat → El R) (qs : List (El R)) (i : Value) (wr : World) : Prop :=
  ∃ j : Nat, j ≤ m ∧ i = .int .i64 j ∧ Own wr gr 2 .i64 (.slice (some ⟨gr, 0, none⟩) n cr) (iv (tab n fun i => f i + up s a (cf (qs.take j)) i)) ∧ Own wr gq 2 .i64 (.slice (some ⟨gq, 0, none⟩) K K) (iv (tab K t)) ∧ Box w wr 25 p k g
theorem Own.at_block {w : World} {base g n c : Nat} {e : TypeId} {k : IntKind} {zs : List Int} (h : Own w base e k (.slice (some ⟨g, 0, none⟩) n c) zs) : Own w g e k (.slice (some ⟨g, 0, none⟩) n c) zs := by
  refine ⟨h.1, ?_⟩
  rcases h.2 with ⟨h0, _⟩ | ⟨g', cap, cur, h1, h2, h3⟩
  · cases h0
  · refine .inr ⟨g', cap, cur, h1, ?_, h3⟩
    simp only [Value.slice.injEq, Option.some.injEq, Addr.mk.injEq, and_true] at h1
    omega
theorem Box.set'' {w wr : World} {t : TypeId} {b : Nat} (h : Box w wr t p k g) (hb : w.heap.size < b) (j : Nat) (u : Value) : Box w (wr.setCell ⟨b, j, none⟩ u) t p k g :=
  h.grow' (set_grown wr b j u) (fun r hr => by simp only [Option.some.injEq] at hr; omega)

set_option maxRecDepth 100000 in
set_option maxHeartbeats 8000000 in
theorem specDivE (h : FldIs R p k g) (ps qs : List (El R)) (A A' : Option Addr) (n c m c' B : Nat) (w : World) (hI : Ints .i64 w B A n (iv ps)) (hJ : Ints .i64 w B A' m (iv qs)) (hB : B ≤ w.heap.size) (hn : n ≤ 549755813888) (hm : m ≤ 549755813888) (hm0 : 0 < m) :
    Calls Tryz.prog 81 #[.agg #[.int .i64 p, .int .i64 k, .int .i64 g], .slice A n c, .slice A' m c'] w (NewEE (trim (quoP ps qs)) (remP ps qs) w) := by
  have HX := hide (Box.start w 25 p k g)
  have hpn : ps.length = n := by rw [← iv_len]; exact hI.len
  have hqm : qs.length = m := by rw [← iv_len]; exact hJ.len
  have HI := hide hI
  have HJ := hide hJ
  have HIa := hide (hI.below ((Below.refl _ _).alloc hB (.cells #[.int .i64 p, .int .i64 k, .int .i64 g] 25)))
  clear hI hJ
  by_cases hlt : n < m
  · have HQ := hide (show trim (quoP ps qs) = [] by rw [quoP, if_pos (by omega)]; rfl)
    have HR := hide (show remP ps qs = ps by rw [remP, if_pos (by omega)])
    rw [HQ.out, HR.out]
    go_enter Tryz.func81, Tryz.ntmps81
    go_wp2_with fail
    refine (specOwnE A n c B ps _ HIa.out (by rw [alloc_size]; omega) (by omega)).mono ?_
    rintro e w1 ⟨A1, c1, rfl, hc1, ho1, hb1⟩
    have HX1 := hide (HX.out.next hb1)
    have hO2 := Own.lit0 w1 2 .i64
    have HO2 := hide (hO2.low (Nat.le_of_lt HX1.out.lt))
    have HO1 := hide ((ho1.low (base' := w.heap.size) (by rw [alloc_size]; omega)).alloc (.cells #[] 2))
    have HN1 := hide (ho1.ne hO2 (Nat.le_refl _))
    have HN2 := hide (ho1.ne' hO2 (Nat.le_refl _))
    have HX2 := hide (HX1.out.alloc (.cells #[] 2))
    clear ho1 hb1 hO2
    go_wp2_with fail
    go_ret2
    exact ⟨_, _, _, _, by rw [hpn]; rfl, Nat.le_refl _, hc1, HO2.out, HO1.out, ⟨HN2.out, HN1.out⟩, HX2.out.2⟩
  · obtain ⟨K, hK⟩ : ∃ K, K = n - m + 1 := ⟨_, rfl⟩
    obtain ⟨v, hv⟩ : ∃ v, v = (lastE qs).inv := ⟨_, rfl⟩
    have HQ := hide (show quoP ps qs = tab K (dvq (cf qs) (qs.length - 1) v K (cf ps)) by rw [quoP, if_neg (by omega), hpn, hqm, ← hK, ← hv])
    have HR := hide (show remP ps qs = trim (tab n (dvs (cf qs) (qs.length - 1) v K (cf ps))) by rw [remP, if_neg (by omega), hpn, hqm, ← hK, ← hv])
    obtain ⟨d, hd⟩ : ∃ d, m = d + 1 := ⟨m - 1, by omega⟩
    rw [hqm, show m - 1 = d by omega] at HQ HR
    have hd1 : d + 1 ≤ m := by omega
    have hd2 : m ≤ d + 1 := by omega
    have hd3 : d < m := by omega
    have hmd : IntKind.i64.wrap ((m : Int) - 1) = (d : Int) := by rw [IntWalk.i64_in _ ⟨by omega, by omega⟩]; omega
    clear hd
    have HV := hide hv
    have hKn : (n : Int) - (m : Int) + 1 = (K : Int) := by omega
    have hK1 : 1 ≤ K := by omega
    have hKm : K + m = n + 1 := by omega
    clear hK hv
    go_enter Tryz.func81, Tryz.ntmps81
    go_wp2_with fail
    refine (specOwnE A n c B ps _ HIa.out (by rw [alloc_size]; omega) (by omega)).mono ?_
    rintro e w1 ⟨A1, cr, rfl, hc1, ho1, hb1⟩
    rw [hpn] at ho1 hc1 ⊢
    have HX1 := hide (HX.out.next hb1)
    obtain ⟨gr, cr', hA1, hgr, hgl, hx3⟩ := ho1.some_ (by rw [iv_len]; omega)
    simp only [Value.slice.injEq] at hA1
    obtain ⟨rfl, hx2, rfl⟩ := hA1
    clear hx2 hx3
    have HO1 := hide ho1.at_block
    rw [alloc_size] at hgr
    clear ho1 hb1
    go_wp2_with (refine wpList_mkN _ rfl (.tmp 29) (.tmp 29) 28 rfl elem64 .i64 .i64 _ _ K rfl rfl (by omega) (by omega) (by omega) fun w3 h1 h2 => ?_; have HX3 := hide (HX1.out.next h2); rw [iv_zeros (R := R)] at h1; have HO3 := hide (HO1.out.below h2 (Nat.le_refl _)); have HQ3 := hide h1; clear h1 h2)
    obtain ⟨b, off, x, rfl, hb, hx, hc⟩ := (HJ.out.below (HX3.out.2.mono hB)).at_ hd3
    rw [iv_at (by omega)] at hx
    simp only [Option.some.injEq] at hx
    subst hx
    obtain ⟨le, hle⟩ : ∃ le, le = lastE qs := ⟨_, rfl⟩
    have hle2 : cf qs d = le := by rw [hle, lastE, hqm, show m - 1 = d by omega]
    rw [hle2] at hc
    have HV2 := hide (show v = le.inv by rw [HV.out, hle])
    have hbl : b < w3.heap.size := Nat.lt_of_lt_of_le hb (Nat.le_trans hB (Nat.le_of_lt HX3.out.lt))
    have HC := hide hc
    clear hc hle hle2
    go_region_held3 (fun w' => w'.cell? ⟨w.heap.size, 0, none⟩ = some (.int .i64 p) ∧ w'.cell? ⟨w.heap.size, 1, none⟩ = some (.int .i64 k) ∧ w'.cell? ⟨w.heap.size, 2, none⟩ = some (.int .i64 g) ∧ w'.cell? ⟨b, off + d, none⟩ = some (.int .i64 (le.val : Int)))
      (first
        | exact ⟨HX3.out.drew.cells.1, HX3.out.drew.cells.2.1, HX3.out.drew.cells.2.2, HC.out⟩
        | exact ⟨HX5.out.cells.1, HX5.out.cells.2.1, HX5.out.cells.2.2, HC5.out⟩)
      ((go_at_call 114; refine (specInvE h le _).mono ?_; rw [← HV2.out]; rintro e w5 ⟨rfl, hb5⟩; have HX5 := hide (HX3.out.drew.next hb5); have HO5 := hide (HO3.out.drew.below hb5 (Nat.le_refl _)); have HQ5 := hide (HQ3.out.drew.below hb5 (Nat.le_refl _)); have HC5 := hide ((hb5.cell (p := ⟨b, off + d, none⟩) hbl).trans HC.out); clear hb5))
    generalize hgq : w1.heap.size = gq at HQ5 hgl ⊢
    clear hgq HX3 HO3 HQ3 HX1 HO1 HC HC5 hbl
    go_wp2_with fail
    go_loopw [12] (fun i wr => SvRel w p k g gr cr gq n K d ps qs v i wr) (fun i _ => (intOf i + 1).toNat)
    case atStart => exact ⟨K, _, cf ps, fun _ => 0, Nat.le_refl _, rfl, rfl, rfl, fun i => by split; rfl; exact (dvq_out _ _ _ _ _ _ (by omega)).symm, by have := HO5.out; rw [← tab_cf ps, hpn] at this; exact this, HQ5.out, HX5.out⟩
    case round =>
      clear HX5 HO5 HQ5
      obtain ⟨wo, rfl⟩ : ∃ wo : World, wo = wr := ⟨_, rfl⟩
      obtain ⟨j, kk, f, t, hj, hkk, rfl, HD, HE, HO, HT, HX⟩ := hrel
      have HX := hide HX
      have HO := hide HO
      have HT := hide HT
      by_cases hj0 : j = 0
      · subst hj0
        obtain rfl : kk = -1 := by omega
        have HQQ := hide (show tab K t = quoP ps qs by rw [HQ.out]; exact tab_congr fun i _ => by have := HE.out i; rw [if_neg (by omega)] at this; exact this)
        have HRR := hide (show trim (tab n f) = remP ps qs by rw [HR.out, ← HD.out]; rfl)
        clear hkk
        go_wp2_with fail
        refine (specTrimE _ K K wo.heap.size (tab K t) wo HT.out.intsE (Nat.le_refl _) (by omega) (Nat.le_refl _)).mono ?_
        rw [HQQ.out]
        rintro e w3 ⟨A3, c3, rfl, hc3, ho3, hb3⟩
        have HX3 := hide (HX.out.next hb3)
        have HO3 := hide ho3
        have HO4 := hide (HO.out.below hb3 (Nat.le_refl _))
        clear ho3 hb3
        go_wp2_with fail
        refine (specTrimE _ n cr w3.heap.size (tab n f) w3 HO4.out.intsE (Nat.le_refl _) (by omega) hc1).mono ?_
        rw [HRR.out]
        rintro e w5 ⟨A5, c5, rfl, hc5, ho5, hb5⟩
        have HX5 := hide (HX3.out.next hb5)
        have HN1 := hide (HO3.out.ne ho5 (Nat.le_refl _))
        have HN2 := hide (HO3.out.ne' ho5 (Nat.le_refl _))
        have HO5 := hide (ho5.low (Nat.le_of_lt HX3.out.lt))
        have HO6 := hide ((HO3.out.below hb5 (Nat.le_refl _)).low (Nat.le_of_lt HX.out.lt))
        clear ho5 hb5
        go_wp2_with fail
        go_ret2
        exact ⟨_, _, _, _, rfl, hc3, hc5, HO6.out, HO5.out, ⟨HN1.out, HN2.out⟩, HX5.out.2⟩
      · obtain ⟨i, rfl⟩ : ∃ i, j = i + 1 := ⟨j - 1, by omega⟩
        obtain rfl : kk = (i : Int) := by omega
        clear hkk
        obtain ⟨tt, htt⟩ : ∃ tt, tt = i + d := ⟨_, rfl⟩
        obtain ⟨s, hs⟩ : ∃ s, s = i + m := ⟨_, rfl⟩
        obtain ⟨u, hu⟩ : ∃ u, u = f (i + d) := ⟨_, rfl⟩
        have hw1 : IntKind.i64.wrap ((i : Int) + (m : Int)) = (s : Int) := by rw [IntWalk.i64_in _ ⟨by omega, by omega⟩]; omega
        have hw2 : IntKind.i64.wrap ((s : Int) - 1) = (tt : Int) := by rw [IntWalk.i64_in _ ⟨by omega, by omega⟩]; omega
        have htn : tt < n := by omega
        have hiK : i < K := by omega
        have HCR := hide (show wo.cell? ⟨gr, tt, none⟩ = some (.int .i64 (u.val : Int)) from HO.out.cellAt (by rw [iv, List.getElem?_map, tab_at _ htn, htt, hu]; rfl))
        have HU := hide hu
        have HGL := hide (HO.out.lt (g := gr) rfl).2
        have HIM := hide (show i + m ≤ n by omega)
        clear htt hs hu
        go_wp2_with fail
        go_region_held3 (fun w' => w'.cell? ⟨w.heap.size, 0, none⟩ = some (.int .i64 p) ∧ w'.cell? ⟨w.heap.size, 1, none⟩ = some (.int .i64 k) ∧ w'.cell? ⟨w.heap.size, 2, none⟩ = some (.int .i64 g) ∧ w'.cell? ⟨gr, tt, none⟩ = some (.int .i64 (u.val : Int)))
          (first
            | exact ⟨HX.out.drew.cells.1, HX.out.drew.cells.2.1, HX.out.drew.cells.2.2, HCR.out⟩
            | exact ⟨HX2.out.cells.1, HX2.out.cells.2.1, HX2.out.cells.2.2, HC2.out⟩)
          ((go_at_call 96; refine (specMulE h u v _).mono ?_; rintro e w2 ⟨rfl, hb2⟩; have HX2 := hide (HX.out.drew.next hb2); have HO2 := hide (HO.out.drew.below hb2 (Nat.le_refl _)); have HT2 := hide (HT.out.drew.below hb2 (Nat.le_refl _)); have HC2 := hide ((hb2.cell (p := ⟨gr, tt, none⟩) HGL.out).trans HCR.out); clear hb2))
        obtain ⟨X, hX⟩ : ∃ X, X = u * v := ⟨_, rfl⟩
        rw [← hX]
        have HXX := hide hX
        clear hX
        have hq2 : w2.cell? ⟨gq, i, none⟩ = some (.int .i64 ((t i).val : Int)) := HT2.out.cellAt (by rw [iv, List.getElem?_map, tab_at _ hiK]; rfl)
        have hf2 := HT2.out.frozenAt i
        have HT4 := hide (show Own (w2.setCell ⟨gq, i, none⟩ (.int .i64 (X.val : Int))) gq 2 .i64 (.slice (some ⟨gq, 0, none⟩) K K) (iv (tab K fun l => if l = i then X else t l)) by
          have := (HT2.out.stored i (X.val : Nat)).1; rw [iv_set, tab_set] at this; exact this)
        have HG4 := hide (HT2.out.stored i (X.val : Nat)).2
        have HX4 := hide (HX2.out.set'' (b := gq) (by omega) i (.int .i64 (X.val : Int)))
        have HO4 := hide (HO2.out.grown HG4.out (.inr (by show some gr ≠ some gq; intro e; injection e; omega)))
        have HTF := hide (dvq_step HU.out HE.out)
        have HD4 := hide HD.out
        rw [← HXX.out] at HTF
        clear HC2 HO2 HT2 HX2 HCR HG4 HE HD HT HO HX
        go_wp2_with fail
        clear hq2 hf2
        generalize w2.setCell ⟨gq, i, none⟩ (.int .i64 (X.val : Int)) = w4 at HT4 HO4 HX4 ⊢
        go_loopw [14] (fun i' wr => SiRel w p k g gr cr gq n m K i (-X) f (fun l => if l = i then X else t l) qs i' wr) (fun i _ => m - (intOf i).toNat)
        case atStart => exact ⟨0, by omega, rfl, by rw [← add_none]; exact HO4.out, HT4.out, HX4.out⟩
        case round =>
          clear HX4 HO4 HT4
          obtain ⟨l, hl, rfl, HO, HT, HX⟩ := hrel
          have HX := hide HX
          have HO := hide HO
          have HT := hide HT
          by_cases hll : l < m
          · obtain ⟨b', off', x', hA', hb', hx', hc'⟩ := (HJ.out.below (HX.out.2.mono hB)).at_ hll
            rw [iv_at (by omega)] at hx'
            simp only [Option.some.injEq] at hx' hA'
            subst hx'
            simp only [Addr.mk.injEq, and_true] at hA'
            obtain ⟨rfl, rfl⟩ := hA'
            obtain ⟨y, hy⟩ : ∃ y, y = cf qs l := ⟨_, rfl⟩
            rw [← hy] at hc'
            have HY := hide hy
            have hcx := HO.out.cellAt (j := i + l) (x := ((f (i + l)).val : Int)) (by rw [iv, List.getElem?_map, add_at (by have := HIM.out; omega)]; rfl)
            obtain ⟨t2, ht2⟩ : ∃ t2, t2 = i + l := ⟨_, rfl⟩
            obtain ⟨u2, hu2⟩ : ∃ u2, u2 = f (i + l) := ⟨_, rfl⟩
            rw [← hu2, ← ht2] at hcx
            have ht2n : t2 < n := by have := HIM.out; omega
            have HT2 := hide ht2
            have HU2 := hide hu2
            have hbl' : b < wr.heap.size := Nat.lt_of_lt_of_le hb' (Nat.le_trans hB (Nat.le_of_lt HX.out.lt))
            have hgl' : gr < wr.heap.size := (HO.out.lt (g := gr) rfl).2
            have hw3 : IntKind.i64.wrap ((i : Int) + (l : Int)) = (t2 : Int) := by rw [IntWalk.i64_in _ ⟨by omega, by omega⟩]; omega
            have HCQ := hide hc'
            have HCX := hide hcx
            clear hu2 ht2 hy hcx hc'
            go_wp2_with fail
            refine tail_begin (fun w' => w'.cell? ⟨w.heap.size, 0, none⟩ = some (.int .i64 p) ∧ w'.cell? ⟨w.heap.size, 1, none⟩ = some (.int .i64 k) ∧ w'.cell? ⟨w.heap.size, 2, none⟩ = some (.int .i64 g) ∧ w'.cell? ⟨b, off + l, none⟩ = some (.int .i64 (y.val : Int)) ∧ w'.cell? ⟨gr, t2, none⟩ = some (.int .i64 (u2.val : Int))) 22 (by kernel_rfl) ⟨HX.out.drew.cells.1, HX.out.drew.cells.2.1, HX.out.drew.cells.2.2, HCQ.out, HCX.out⟩ (fun hS' => ?_)
            refine tail_take 0 rfl (by kernel_rfl) (by kernel_rfl) (by kernel_rfl) (by kernel_rfl) (fun _ _ _ h => h) (by rfl) (v := ?_) ?_ (by assumption) ?_
            rotate_left 1
            · intro w' hS'; (try dsimp only at hS'); go_simp; try with_reducible rfl
            try simp only [Act.put, List.setIfInBounds_toArray, List.set_cons_zero, List.set_cons_succ]
            refine tail_take 1 rfl (by kernel_rfl) (by kernel_rfl) (by kernel_rfl) (by kernel_rfl) (fun _ _ _ h => h) (by rfl) (v := ?_) ?_ (by assumption) ?_
            rotate_left 1
            · intro w' hS'; (try dsimp only at hS'); go_simp; try with_reducible rfl
            try simp only [Act.put, List.setIfInBounds_toArray, List.set_cons_zero, List.set_cons_succ]
            refine tail_take 2 rfl (by kernel_rfl) (by kernel_rfl) (by kernel_rfl) (by kernel_rfl) (fun _ _ _ h => h) (by rfl) (v := ?_) ?_ (by assumption) ?_
            rotate_left 1
            · intro w' hS'; (try dsimp only at hS'); go_simp; try with_reducible rfl
            try simp only [Act.put, List.setIfInBounds_toArray, List.set_cons_zero, List.set_cons_succ]
            refine tail_take 3 rfl (by kernel_rfl) (by kernel_rfl) (by kernel_rfl) (by kernel_rfl) (fun _ _ _ h => h) (by rfl) (v := ?_) ?_ (by assumption) ?_
            rotate_left 1
            · intro w' hS'; (try dsimp only at hS'); go_simp; try with_reducible rfl
            try simp only [Act.put, List.setIfInBounds_toArray, List.set_cons_zero, List.set_cons_succ]
            refine tail_take 4 rfl (by kernel_rfl) (by kernel_rfl) (by kernel_rfl) (by kernel_rfl) (fun _ _ _ h => h) (by rfl) (v := ?_) ?_ (by assumption) ?_
            rotate_left 1
            · intro w' hS'; (try dsimp only at hS'); go_simp; try with_reducible rfl
            try simp only [Act.put, List.setIfInBounds_toArray, List.set_cons_zero, List.set_cons_succ]
            refine tail_take 5 rfl (by kernel_rfl) (by kernel_rfl) (by kernel_rfl) (by kernel_rfl) (fun _ _ _ h => h) (by rfl) (v := ?_) ?_ (by assumption) ?_
            rotate_left 1
            · intro w' hS'; (try dsimp only at hS'); go_simp; try with_reducible rfl
            try simp only [Act.put, List.setIfInBounds_toArray, List.set_cons_zero, List.set_cons_succ]
            refine tail_take 6 rfl (by kernel_rfl) (by kernel_rfl) (by kernel_rfl) (by kernel_rfl) (fun _ _ _ h => h) (by rfl) (v := ?_) ?_ (by assumption) ?_
            rotate_left 1
            · intro w' hS'; (try dsimp only at hS'); go_simp; try with_reducible rfl
            try simp only [Act.put, List.setIfInBounds_toArray, List.set_cons_zero, List.set_cons_succ]
            refine tail_take 7 rfl (by kernel_rfl) (by kernel_rfl) (by kernel_rfl) (by kernel_rfl) (fun _ _ _ h => h) (by rfl) (v := ?_) ?_ (by assumption) ?_
            rotate_left 1
            · intro w' hS'; (try dsimp only at hS'); go_simp; try with_reducible rfl
            try simp only [Act.put, List.setIfInBounds_toArray, List.set_cons_zero, List.set_cons_succ]
            refine tail_take 8 rfl (by kernel_rfl) (by kernel_rfl) (by kernel_rfl) (by kernel_rfl) (fun _ _ _ h => h) (by rfl) (v := ?_) ?_ (by assumption) ?_
            rotate_left 1
            · intro w' hS'; (try dsimp only at hS'); go_simp; try with_reducible rfl
            try simp only [Act.put, List.setIfInBounds_toArray, List.set_cons_zero, List.set_cons_succ]
            refine tail_take 9 rfl (by kernel_rfl) (by kernel_rfl) (by kernel_rfl) (by kernel_rfl) (fun _ _ _ h => h) (by rfl) (v := ?_) ?_ (by assumption) ?_
            rotate_left 1
            · intro w' hS'; (try dsimp only at hS'); go_simp; try with_reducible rfl
            try simp only [Act.put, List.setIfInBounds_toArray, List.set_cons_zero, List.set_cons_succ]
            refine tail_take 10 rfl (by kernel_rfl) (by kernel_rfl) (by kernel_rfl) (by kernel_rfl) (fun _ _ _ h => h) (by rfl) (v := ?_) ?_ (by assumption) ?_
            rotate_left 1
            · intro w' hS'; (try dsimp only at hS'); go_simp; try with_reducible rfl
            try simp only [Act.put, List.setIfInBounds_toArray, List.set_cons_zero, List.set_cons_succ]
            refine tail_take 11 rfl (by kernel_rfl) (by kernel_rfl) (by kernel_rfl) (by kernel_rfl) (fun _ _ _ h => h) (by rfl) (v := ?_) ?_ (by assumption) ?_
            rotate_left 1
            · intro w' hS'; (try dsimp only at hS'); go_simp; try with_reducible rfl
            try simp only [Act.put, List.setIfInBounds_toArray, List.set_cons_zero, List.set_cons_succ]
            refine tail_take 12 rfl (by kernel_rfl) (by kernel_rfl) (by kernel_rfl) (by kernel_rfl) (fun _ _ _ h => h) (by rfl) (v := ?_) ?_ (by assumption) ?_
            rotate_left 1
            · intro w' hS'; (try dsimp only at hS'); go_simp; try with_reducible rfl
            try simp only [Act.put, List.setIfInBounds_toArray, List.set_cons_zero, List.set_cons_succ]
            refine tail_take 13 rfl (by kernel_rfl) (by kernel_rfl) (by kernel_rfl) (by kernel_rfl) (fun _ _ _ h => h) (by rfl) (v := ?_) ?_ (by assumption) ?_
            rotate_left 1
            · intro w' hS'; (try dsimp only at hS'); go_simp; try with_reducible rfl
            try simp only [Act.put, List.setIfInBounds_toArray, List.set_cons_zero, List.set_cons_succ]
            refine tail_take 14 rfl (by kernel_rfl) (by kernel_rfl) (by kernel_rfl) (by kernel_rfl) (fun _ _ _ h => h) (by rfl) (v := ?_) ?_ (by assumption) ?_
            rotate_left 1
            · intro w' hS'; (try dsimp only at hS'); go_simp; try with_reducible rfl
            try simp only [Act.put, List.setIfInBounds_toArray, List.set_cons_zero, List.set_cons_succ]
            refine tail_take 15 rfl (by kernel_rfl) (by kernel_rfl) (by kernel_rfl) (by kernel_rfl) (fun _ _ _ h => h) (by rfl) (v := ?_) ?_ (by assumption) ?_
            rotate_left 1
            · intro w' hS'; (try dsimp only at hS'); go_simp; try with_reducible rfl
            try simp only [Act.put, List.setIfInBounds_toArray, List.set_cons_zero, List.set_cons_succ]
            refine tail_take 16 rfl (by kernel_rfl) (by kernel_rfl) (by kernel_rfl) (by kernel_rfl) (fun _ _ _ h => h) (by rfl) (v := ?_) ?_ (by assumption) ?_
            rotate_left 1
            · intro w' hS'; (try dsimp only at hS'); go_simp; try with_reducible rfl
            try simp only [Act.put, List.setIfInBounds_toArray, List.set_cons_zero, List.set_cons_succ]
            refine tail_take 17 rfl (by kernel_rfl) (by kernel_rfl) (by kernel_rfl) (by kernel_rfl) (fun _ _ _ h => h) (by rfl) (v := ?_) ?_ (by assumption) ?_
            rotate_left 1
            · intro w' hS'; (try dsimp only at hS'); go_simp; try with_reducible rfl
            try simp only [Act.put, List.setIfInBounds_toArray, List.set_cons_zero, List.set_cons_succ]
            refine tail_call 18 rfl (by kernel_rfl) rfl (fun K hK => ?_)
            go_simp
            go_at_call 96; refine (specMulE h X y _).mono ?_; rintro e w6 ⟨rfl, hb6⟩; have HX6 := hide (HX.out.drew.next hb6); have HO6 := hide (HO.out.drew.below hb6 (Nat.le_refl _)); have HT6' := hide (HT.out.drew.below hb6 (Nat.le_refl _)); have HCQ6 := hide ((hb6.cell (p := ⟨b, off + l, none⟩) hbl').trans HCQ.out); have HCX6 := hide ((hb6.cell (p := ⟨gr, t2, none⟩) hgl').trans HCX.out); have hbl6 := Nat.lt_of_lt_of_le hbl' hb6.size; have hgl6 := Nat.lt_of_lt_of_le hgl' hb6.size; clear hb6
            refine hK.out _ _ (by (try dsimp only); exact ⟨HX6.out.cells.1, HX6.out.cells.2.1, HX6.out.cells.2.2, HCQ6.out, HCX6.out⟩) (fun hS' => ?_)
            clear hK K
            try simp only [Act.put, List.setIfInBounds_toArray, List.set_cons_zero, List.set_cons_succ]
            refine tail_call 19 rfl (by kernel_rfl) rfl (fun K hK => ?_)
            go_simp
            go_at_call 85; refine (specNegE h (X * y) _).mono ?_; rintro e w7 ⟨rfl, hb7⟩; have HX7 := hide (HX6.out.next hb7); have HO7 := hide (HO6.out.below hb7 (Nat.le_refl _)); have HT7' := hide (HT6'.out.below hb7 (Nat.le_refl _)); have HCQ7 := hide ((hb7.cell (p := ⟨b, off + l, none⟩) hbl6).trans HCQ6.out); have HCX7 := hide ((hb7.cell (p := ⟨gr, t2, none⟩) hgl6).trans HCX6.out); have hbl7 := Nat.lt_of_lt_of_le hbl6 hb7.size; have hgl7 := Nat.lt_of_lt_of_le hgl6 hb7.size; clear hb7
            refine hK.out _ _ (by (try dsimp only); exact ⟨HX7.out.cells.1, HX7.out.cells.2.1, HX7.out.cells.2.2, HCQ7.out, HCX7.out⟩) (fun hS' => ?_)
            clear hK K
            try simp only [Act.put, List.setIfInBounds_toArray, List.set_cons_zero, List.set_cons_succ]
            refine tail_call 20 rfl (by kernel_rfl) rfl (fun K hK => ?_)
            go_simp
            go_at_call 112; refine (specAddE h u2 (-(X * y)) _).mono ?_; rintro e w8 ⟨rfl, hb8⟩; have HX8 := hide (HX7.out.next hb8); have HO8 := hide (HO7.out.below hb8 (Nat.le_refl _)); have HT8' := hide (HT7'.out.below hb8 (Nat.le_refl _)); have HCQ8 := hide ((hb8.cell (p := ⟨b, off + l, none⟩) hbl7).trans HCQ7.out); have HCX8 := hide ((hb8.cell (p := ⟨gr, t2, none⟩) hgl7).trans HCX7.out); have hbl8 := Nat.lt_of_lt_of_le hbl7 hb8.size; have hgl8 := Nat.lt_of_lt_of_le hgl7 hb8.size; clear hb8
            refine hK.out _ _ (by (try dsimp only); exact ⟨HX8.out.cells.1, HX8.out.cells.2.1, HX8.out.cells.2.2, HCQ8.out, HCX8.out⟩) (fun hS' => ?_)
            clear hK K
            try simp only [Act.put, List.setIfInBounds_toArray, List.set_cons_zero, List.set_cons_succ]
            refine tail_take 21 rfl (by kernel_rfl) (by kernel_rfl) (by kernel_rfl) (by kernel_rfl) (fun _ _ _ h => h) (by rfl) (v := ?_) ?_ (by assumption) ?_
            rotate_left 1
            · intro w' hS'; (try dsimp only at hS'); go_simp; try with_reducible rfl
            try simp only [Act.put, List.setIfInBounds_toArray, List.set_cons_zero, List.set_cons_succ]
            have hcx3 := HCX8.out
            have hfx3 := HO8.out.frozenAt t2
            refine tail_last 22 rfl (by kernel_rfl) (by kernel_rfl) rfl rfl (fun K hK => ?_)
            go_simp
            refine hK.out _ _ ?_
            clear hK K
            try simp only [Act.put, List.setIfInBounds_toArray, List.set_cons_zero, List.set_cons_succ]
            have HOn := hide (am_next (a := -X) HT2.out HU2.out HY.out HO8.out)
            rw [enm] at HOn
            have HG9 := hide (HO8.out.stored t2 ((u2 + -(X * y)).val : Nat)).2
            have HT9 := hide (HT8'.out.grown HG9.out (.inr (by show some gq ≠ some gr; intro e; injection e; omega)))
            have HX9 := hide (HX8.out.set'' (b := gr) (by omega) t2 (.int .i64 ((u2 + -(X * y)).val : Nat)))
            clear HCQ HCX HCQ6 HCX6 HCQ7 HCX7 HCQ8 HCX8 HO6 HO7 HO8 HX6 HX7 HX8 HT6' HT7' HT8' HG9 hcx3 hfx3
            go_wp2_with fail
            go_roundw
            case rel => exact ⟨l + 1, by omega, by go_num, HOn.out, HT9.out, HX9.out⟩
            case measure => simp [intOf]; omega
          · obtain rfl : l = m := by omega
            have HOn := hide (show Own wr gr 2 .i64 (.slice (some ⟨gr, 0, none⟩) n cr) (iv (tab n fun l' => f l' + up i (-X) (cf qs) l')) by
              have := HO.out
              rw [List.take_of_length_le (by omega)] at this
              exact this)
            clear HO
            go_wp2_with fail
            go_roundw
            case rel => exact ⟨i, _, _, _, by omega, rfl, rfl, (by have h1 := HD4.out; rw [HXX.out, HU.out]; exact h1), (by rw [HXX.out]; rw [HXX.out] at HTF; exact HTF.out), HOn.out, HT.out, HX.out⟩
            case measure => simp [intOf]
end
end Go.Proofs.YtlphodhecaagbaaGreat
