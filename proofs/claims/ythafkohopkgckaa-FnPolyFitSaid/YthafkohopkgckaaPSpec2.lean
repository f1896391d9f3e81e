/-
  The contracts of the model's copies, shortened lists, coefficients and sums of polynomials.
  Condition: the field is valid, and lists are shorter than 2^39.
-/
import Derived.Test.YthafkohopkgckaaPSpec1
namespace Go.Proofs.Ythafkohopkgckaa
open Go.RowKit
set_option linter.unusedSimpArgs false
set_option linter.unusedVariables false

theorem Box.grow' {w wr wr' : World} {t : TypeId} {p k g : Int} {row : Option Nat} (h : Box w wr t p k g) (hg : wr.grownBy wr' row) (hr : ∀ b, row = some b → w.heap.size < b) : Box w wr' t p k g :=
  ⟨by rw [hg.block _ h.lt (by intro e; have := hr _ e.symm; omega)]; exact h.1, h.2.grown hg (Nat.le_of_lt h.lt) (fun r hr' => by have := hr r hr'; omega)⟩
section
variable {R : Fld} {p k g : Int}
/-- What a function leaves that returns a new list of elements. -/
def NewE (ps : List (El R)) (w : World) (x : Ending) (w' : World) : Prop :=
  ∃ A c, x = .returned (.slice A ps.length c) ∧ ps.length ≤ c ∧ Own w' w.heap.size 2 .i64 (.slice A ps.length c) (iv ps) ∧ Below w.heap.size w w'
theorem newE_of {ps : List (El R)} {w w' : World} {v : Value} {base : Nat} (h : Own w' base 2 .i64 v (iv ps)) (hb : Below w.heap.size w w') (hB : w.heap.size ≤ base) : NewE ps w (.returned v) w' := by
  obtain ⟨A, c, rfl, hc⟩ := h.form
  rw [iv_len] at h hc ⊢
  exact ⟨A, c, rfl, hc, h.low hB, hb⟩
theorem Own.intsE {w : World} {base n c : Nat} {e : TypeId} {A : Option Addr} {ps : List (El R)} (h : Own w base e .i64 (.slice A n c) (iv ps)) : Ints .i64 w w.heap.size A n (iv ps) := by
  have := h.len; subst this; exact h.ints

set_option maxHeartbeats 1000000 in
theorem specOwnE (A : Option Addr) (n c B : Nat) (ps : List (El R)) (w : World) (hI : Ints .i64 w B A n (iv ps)) (hB : B ≤ w.heap.size) (hn : n ≤ 1099511627776) :
    Calls Try.prog 91 #[.slice A n c] w (NewE ps w) := by
  have HI := hide hI
  clear hI
  go_enter Try.func91, Try.ntmps91
  go_wp2_with (at_builtin; refine wpList_appL _ rfl _ _ _ rfl elem64 w.heap.size _ [] rfl (Own.lit0 w _ _) B A n c (iv ps) rfl (HI.out.below ((Below.refl B w).alloc hB _)) (by simp; omega) (by simp) ?_; intro v2 w2 hown hgr)
  have HO := hide (show Own w2 w.heap.size 2 .i64 v2 (iv ps) by simpa using hown)
  have HBl := hide (((Below.refl w.heap.size w).alloc (Nat.le_refl _) _).grown hgr (by simp) (fun g hg => ((Own.lit0 w 2 .i64).lt hg).1))
  clear hown hgr
  go_wp2_with fail
  go_ret
  exact newE_of HO HBl (Nat.le_refl _)

def StRel (n : Nat) (ps : List (El R)) (v : Value) : Prop :=
  ∃ m : Nat, m ≤ n ∧ v = .int .i64 m ∧ Hid (trim (ps.take m) = trim ps)

set_option maxHeartbeats 1000000 in
theorem specTrimE (A : Option Addr) (n c B : Nat) (ps : List (El R)) (w : World) (hI : Ints .i64 w B A n (iv ps)) (hB : B ≤ w.heap.size) (hn : n ≤ 1099511627776) (hc : n ≤ c) :
    Calls Try.prog 88 #[.slice A n c] w (NewE (trim ps) w) := by
  have hl : ps.length = n := by have := hI.len; rw [iv_len] at this; exact this
  have HI := hide hI
  clear hI
  go_enter Try.func88, Try.ntmps88
  go_wp2_with fail
  go_loop [3] (fun v => StRel n ps v) (fun v => (intOf v).toNat)
  case atStart => exact ⟨n, Nat.le_refl _, rfl, by rw [List.take_of_length_le (by omega)]; rfl⟩
  case round =>
    obtain ⟨m, hm, rfl, HT⟩ := hrel
    have hsub : Ints .i64 w B A m (iv (ps.take m)) := by
      refine ⟨by rw [iv_len, List.length_take]; omega, fun hp => ?_⟩
      obtain ⟨b, off, rfl, hb, hcell⟩ := HI.out.2 (by omega)
      refine ⟨b, off, rfl, hb, fun j x hx => hcell j x ?_⟩
      rw [← iv_take, List.getElem?_take] at hx
      split at hx
      · exact hx
      · cases hx
    have HS := hide hsub
    clear hsub
    rcases Nat.eq_zero_or_pos m with rfl | hp
    · have HF := hide (show ps.take 0 = trim ps by rw [← HT.out]; rfl)
      go_wp2_with fail
      refine (specOwnE A 0 c B (ps.take 0) w HS.out hB (by omega)).mono ?_
      rw [HF.out]
      rintro e w1 ⟨A1, c1, rfl, hc1, ho1, hb1⟩
      have HO1 := hide ho1
      have HB1 := hide hb1
      clear ho1 hb1
      go_wp2_with fail
      go_ret
      exact ⟨A1, c1, rfl, hc1, HO1, HB1⟩
    · obtain ⟨i, hi⟩ : ∃ i, m = i + 1 := ⟨m - 1, by omega⟩
      have hw1 : IntKind.i64.wrap ((m : Int) - 1) = (i : Int) := by rw [IntWalk.i64_in _ ⟨by omega, by omega⟩]; omega
      have hin : i < n := by omega
      have hz : (0 : Int) < (m : Int) := by omega
      have hsn : ps.take m = ps.take i ++ [cf ps i] := by rw [hi, List.take_add_one, at_cf (by omega)]; rfl
      have him : i < m := by omega
      have HSN := hide hsn
      obtain ⟨b, off, x, rfl, hb, hx, hcc⟩ := HI.out.at_ hin
      rw [iv_at (by omega)] at hx
      simp only [Option.some.injEq] at hx
      subst hx
      clear hi hsn
      by_cases hz0 : cf ps i = 0
      · have HN := hide (show trim (ps.take i) = trim ps by rw [← HT.out, HSN.out, hz0, trim_zero])
        rw [hz0] at hcc
        clear hz0
        go_wp2_with fail
        go_round
        case rel => exact ⟨i, by omega, rfl, HN⟩
        case measure => simp [intOf]; omega
      · have HF := hide (show ps.take m = trim ps by rw [← HT.out, HSN.out, trim_more _ hz0])
        have hv : ((((cf ps i).val : Nat) : Int) == 0) = false := by have := val_ne hz0; simp; omega
        clear hz0
        go_wp2_with fail
        refine (specOwnE _ m c B (ps.take m) w HS.out hB (by omega)).mono ?_
        rw [HF.out]
        rintro e w1 ⟨A1, c1, rfl, hc1, ho1, hb1⟩
        have HO1 := hide ho1
        have HB1 := hide hb1
        clear ho1 hb1
        go_wp2_with fail
        go_ret
        exact ⟨A1, c1, rfl, hc1, HO1, HB1⟩

theorem specAtE (A : Option Addr) (n c B j : Nat) (ps : List (El R)) (w : World) (hI : Ints .i64 w B A n (iv ps)) (hj : j ≤ 1099511627776) (hn : n ≤ 1099511627776) :
    Calls Try.prog 112 #[.slice A n c, .int .i64 j] w fun e w' => e = .returned (.int .i64 ((cf ps j).val : Nat)) ∧ w = w' := by
  have hl : ps.length = n := by have := hI.len; rw [iv_len] at this; exact this
  have HI := hide hI
  clear hI
  have z0 : decide ((j : Int) < 0) = false := by simp
  by_cases hlt : j < n
  · obtain ⟨b, off, x, rfl, hb, hx, hc⟩ := HI.out.at_ hlt
    rw [iv_at (by omega)] at hx
    simp only [Option.some.injEq] at hx
    subst hx
    have z1 : decide ((n : Int) ≤ (j : Int)) = false := by simp; omega
    go_enter Try.func112, Try.ntmps112
    go_wp2
    go_ret
    exact ⟨rfl, rfl⟩
  · have z1 : (n : Int) ≤ (j : Int) := by omega
    have HF := hide (show ((((cf ps j).val : Nat)) : Int) = 0 by rw [cf_out (by omega)]; rfl)
    go_enter Try.func112, Try.ntmps112
    go_wp2
    go_ret
    exact ⟨ret_int HF, rfl⟩

def AdRel (w : World) (p k g : Int) (N : Nat) (f : Nat → El R) (v i : Value) (wr : World) : Prop :=
  ∃ j : Nat, j ≤ N ∧ i = .int .i64 j ∧ Own wr (w.heap.size + 1) 2 .i64 v (iv (tab j f)) ∧ Box w wr 25 p k g

set_option maxRecDepth 100000 in
set_option maxHeartbeats 4000000 in
theorem specAddE' (h : FldIs R p k g) (ps qs : List (El R)) (A A' : Option Addr) (n c m c' B : Nat) (w : World) (hI : Ints .i64 w B A n (iv ps)) (hJ : Ints .i64 w B A' m (iv qs)) (hB : B ≤ w.heap.size) (hn : n ≤ 549755813888) (hm : m ≤ 549755813888) :
    Calls Try.prog 87 #[.agg #[.int .i64 p, .int .i64 k, .int .i64 g], .slice A n c, .slice A' m c'] w (NewE (addP ps qs) w) := by
  have HX := hide (Box.start w 25 p k g)
  have hpn : ps.length = n := by rw [← iv_len]; exact hI.len
  have hqm : qs.length = m := by rw [← iv_len]; exact hJ.len
  have HI := hide hI
  have HJ := hide hJ
  clear hI hJ
  obtain ⟨N, hN⟩ : ∃ N, max n m = N := ⟨_, rfl⟩
  have hNn : n ≤ N := by omega
  have hNm : m ≤ N := by omega
  have hNb : N ≤ 549755813888 := by omega
  have hNx : N ≤ n ∨ N ≤ m := by omega
  have HA := hide (show trim (tab N fun i => cf ps i + cf qs i) = addP ps qs by rw [addP, hpn, hqm, hN])
  clear hN
  go_enter Try.func87, Try.ntmps87
  go_wp2_with fail
  have HXs := hide (HX.out.alloc (.cells #[] 2))
  have HOs := hide (Own.lit0 (w.alloc (.cells #[.int .i64 p, .int .i64 k, .int .i64 g] 25)) 2 .i64)
  go_loopw [7, 8] (fun v i wr => AdRel w p k g N (fun i => cf ps i + cf qs i) v i wr) (fun _ i _ => N - (intOf i).toNat)
  case atStart => exact ⟨0, by omega, rfl, by rw [← alloc_size w (.cells #[.int .i64 p, .int .i64 k, .int .i64 g] 25)]; exact HOs.out, HXs.out⟩
  case round =>
    clear HX HXs HOs
    obtain ⟨v, rfl⟩ : ∃ v : Value, v = u7 := ⟨_, rfl⟩
    obtain ⟨j, hj, rfl, HO, HX⟩ := hrel
    have HX := hide HX
    have HO := hide HO
    rcases (show (j < n) ∨ (decide (j < n) = false ∧ j < m) ∨ (decide (j < n) = false ∧ decide (j < m) = false) by simp only [decide_eq_false_iff_not]; omega) with z1 | ⟨z1, z2⟩ | ⟨z1, z2⟩
    rotate_left 2
    · have hjN : j = N := by simp only [decide_eq_false_iff_not] at z1 z2; omega
      have HE := hide (show trim (tab j fun i => cf ps i + cf qs i) = addP ps qs by rw [hjN]; exact HA.out)
      have HF := hide HO.out.form
      obtain ⟨Av, cv, rfl, hcv⟩ := HF.out
      rw [iv_len, tab_len] at hcv HO ⊢
      clear hjN
      go_wp2_with fail
      refine (specTrimE Av j cv wr.heap.size (tab j fun i => cf ps i + cf qs i) wr HO.out.intsE (Nat.le_refl _) (by omega) hcv).mono ?_
      rw [HE.out]
      rintro e w1 ⟨A1, c1, rfl, hc1, ho1, hb1⟩
      have HX1 := hide (HX.out.next hb1)
      have HO1 := hide (ho1.low (Nat.le_of_lt HX.out.lt))
      clear ho1 hb1
      go_wp2_with fail
      go_ret
      exact ⟨A1, c1, rfl, hc1, HO1, HX1.out.2⟩
    all_goals
      have HI1 := hide (HI.out.below (HX.out.2.mono hB))
      have HJ1 := hide (HJ.out.below (HX.out.2.mono hB))
      obtain ⟨x, hx⟩ : ∃ x, x = cf ps j := ⟨_, rfl⟩
      obtain ⟨y, hy⟩ : ∃ y, y = cf qs j := ⟨_, rfl⟩
      have HXY := hide (And.intro hx hy)
      have hjb : j < N := by omega
      have hwl : w.heap.size < wr.heap.size := HX.out.lt
      have HVB := hide (show ∀ b, v.ownBlock = some b → w.heap.size < b from fun b hb => (HO.out.lt hb).1)
      clear hx hy
      go_wp2_with fail
      go_region_held3 (fun w' => w'.cell? ⟨w.heap.size, 0, none⟩ = some (.int .i64 p) ∧ w'.cell? ⟨w.heap.size, 1, none⟩ = some (.int .i64 k) ∧ w'.cell? ⟨w.heap.size, 2, none⟩ = some (.int .i64 g))
        (first
          | exact ⟨HX.out.drew.cells.1, HX.out.drew.cells.2.1, HX.out.drew.cells.2.2⟩
          | exact ⟨HX2.out.cells.1, HX2.out.cells.2.1, HX2.out.cells.2.2⟩
          | exact ⟨(HX2.out.alloc _).cells.1, (HX2.out.alloc _).cells.2.1, (HX2.out.alloc _).cells.2.2⟩
          | exact ⟨HX3.out.cells.1, HX3.out.cells.2.1, HX3.out.cells.2.2⟩)
        (first
          | (go_at_call 112; have hm1 := HM1; refine (specAtE A' m c' B j qs _ HJ1.out.drew (by omega) (by omega)).mono ?_; rw [← HXY.out.2]; rintro e wb ⟨rfl, rfl⟩)
          | (go_at_call 112; refine (specAtE A n c B j ps _ HI1.out.drew (by omega) (by omega)).mono ?_; rw [← HXY.out.1]; rintro e wa ⟨rfl, rfl⟩; have HM1 : True := trivial)
          | (go_at_call 61; refine (specAddE h x y _).mono ?_; rintro e w2 ⟨rfl, hb2⟩; have HX2 := hide (HX.out.drew.next hb2); have HO2 := hide (HO.out.drew.below hb2 (Nat.le_refl _)); clear hb2)
          | (refine step_appL _ (by rfl) _ _ _ (by rfl) elem64 (w.heap.size + 1) v (iv (tab j fun i => cf ps i + cf qs i)) (by rfl) (HO2.out.alloc _) (w2.heap.size + 1) (some ⟨w2.heap.size, 0, none⟩) 1 1 [((x + y).val : Int)] (by rfl) (ints_one w2 2 .i64 ((x + y).val : Int)) (by rw [iv_len, tab_len]; omega) (by have := HX2.out.lt; rw [alloc_size]; omega) ?_; intro v3 w3 hown3 hgrow; have HX3 := hide ((HX2.out.alloc _).grow' hgrow HVB.out); have HO3 := hide hown3; clear hown3 hgrow))
      have HOn := hide (show Own w3 (w.heap.size + 1) 2 .i64 v3 (iv (tab (j + 1) fun i => cf ps i + cf qs i)) by
        have := HO3.out; rw [tab_snoc, iv_app, iv_one, ← HXY.out.1, ← HXY.out.2]; exact this)
      clear HO3
      go_wp2_with fail
      go_roundw
      case rel => exact ⟨j + 1, by omega, by go_num, HOn.out, HX3.out⟩
      case measure => simp [intOf]; omega
end
end Go.Proofs.Ythafkohopkgckaa
