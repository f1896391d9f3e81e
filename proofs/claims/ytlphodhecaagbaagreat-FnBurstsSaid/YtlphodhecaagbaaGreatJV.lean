/-
  The bound of bursts, as the model finds it.
  The bound of bursts, as the program finds it.
  Condition: as each statement says.
-/
import Derived.Test.YtlphodhecaagbaaGreatJU
import Derived.Test.YtlphodhecaagbaaGreatLayL
namespace Go.Proofs.YtlphodhecaagbaaGreat
open Go.RowKit
set_option linter.unusedSimpArgs false
set_option linter.unusedVariables false

/-- The elements of each block within a part of the stream. -/
def cntL (D C f i : Nat) : List Int := (List.range 16).map fun k => ((ecnt D C k i - ecnt D C k f : Nat) : Int)
theorem cntL_at {D C f i k : Nat} (hk : k < 16) : (cntL D C f i)[k]? = some ((ecnt D C k i - ecnt D C k f : Nat) : Int) := by
  unfold cntL; rw [List.getElem?_map, List.getElem?_range hk]; rfl
theorem cntL_len (D C f i : Nat) : (cntL D C f i).length = 16 := by unfold cntL; rw [List.length_map, List.length_range]
theorem cntL_start (D C f : Nat) : cntL D C f f = List.replicate 16 0 := by
  unfold cntL
  apply List.ext_getElem?
  intro j
  by_cases hj : j < 16
  · rw [List.getElem?_map, List.getElem?_range hj, List.getElem?_replicate, if_pos hj]; simp
  · rw [List.getElem?_eq_none (by simp; omega), List.getElem?_eq_none (by simp; omega)]
theorem cntL_step {D C f i x : Nat} (hf : f ≤ i) (hx : (pairOf D C i).1 = x) (hx16 : x < 16) : (cntL D C f i).set x ((ecnt D C x i - ecnt D C x f + 1 : Nat) : Int) = cntL D C f (i + 1) := by
  apply List.ext_getElem?
  intro j
  by_cases hj : j < 16
  · by_cases hjx : j = x
    · subst hjx
      rw [List.getElem?_set_self (by rw [cntL_len]; exact hj), cntL_at hj, ecnt_yes hx]
      have := ecnt_mono (D := D) (C := C) (k := j) hf
      congr 2
      omega
    · rw [List.getElem?_set_ne (Ne.symm hjx), cntL_at hj, cntL_at hj, ecnt_no (by rw [hx]; exact Ne.symm hjx)]
  · rw [List.getElem?_eq_none (by rw [List.length_set, cntL_len]; omega), List.getElem?_eq_none (by rw [cntL_len]; omega)]
/-- What the loop of the model's l07Most holds. -/
def M1Rel (w : World) (D C f t gC : Nat) (mo i : Value) (wr : World) : Prop :=
  ∃ (j M : Nat), f ≤ j ∧ j ≤ t ∧ M ≤ j ∧ i = .int .i64 j ∧ mo = .int .i64 M ∧ Own wr w.heap.size 2 .i64 (.slice (some ⟨gC, 0, none⟩) 16 16) (cntL D C f j) ∧ (∀ k, k < C → ecnt D C k j - ecnt D C k f ≤ M) ∧ (∃ k, k < C ∧ M ≤ ecnt D C k j - ecnt D C k f) ∧ Below w.heap.size w wr
def GivesMost (D C f t : Nat) (w : World) (x : Ending) (w' : World) : Prop :=
  ∃ M : Nat, x = .returned (.int .i64 M) ∧ M ≤ 1500 ∧ (∀ k, k < C → ecnt D C k t - ecnt D C k f ≤ M) ∧ (∃ k, k < C ∧ M ≤ ecnt D C k t - ecnt D C k f) ∧ Below w.heap.size w w'

set_option maxRecDepth 100000 in
set_option maxHeartbeats 4000000 in
theorem specMost {D C N f t go co : Nat} (h1 : 1 ≤ C) (h2 : C ≤ 16) (hN : N ≤ 1500) (hft : f ≤ t) (htN : t ≤ N) (base : Nat) (os : List Value) (w : World) (hMO : Mat w base (.slice (some ⟨go, 0, none⟩) N co) N os (ordZ D C)) :
    Calls Tryz.prog 38 #[.slice (some ⟨go, 0, none⟩) N co, .int .i64 f, .int .i64 t] w (GivesMost D C f t w) := by
  have HMO := hide hMO
  have hgo := (World.ownsRow.lt hMO.row go rfl).2
  clear hMO
  obtain ⟨ti, hi, hz0, hz1, hz2⟩ := info_parts elem64.info
  obtain ⟨w1, hrun, ho, hg⟩ := run_make_full (P := Tryz.prog) w w.heap.size 28 2 ti _ 1 Tryz.underlying28 hi hz0 hz1 .i64 .i64 16 (by rw [hz2]; decide) (by simp only [maxLen]; omega) (Nat.le_refl _)
  have hb1 : Below w.heap.size w w1 := (Below.refl w.heap.size w).grown hg (Nat.le_refl _) (by simp)
  have HO1 := hide (made_own ho)
  rw [← cntL_start D C f] at HO1
  have HB1 := hide hb1
  have hrun' : (Instr.makeSlice 28 (.int .i64 16) (.int .i64 16)).run Tryz.prog w = .ok (.slice (some ⟨w.heap.size, 0, none⟩) 16 16) w1 := hrun
  clear ho hg hi hz0 hz1 hz2 hb1 hrun
  go_enter Tryz.func38, Tryz.ntmps38
  go_wp2_with fail
  clear hrun'
  go_loopw [8, 9] (fun mo i wr => M1Rel w D C f t w.heap.size mo i wr) (fun _ i _ => t - (intOf i).toNat)
  case atStart => exact ⟨f, 0, Nat.le_refl _, hft, Nat.zero_le _, rfl, rfl, HO1.out, (fun k _ => by omega), ⟨0, h1, Nat.zero_le _⟩, HB1.out⟩
  case round =>
    clear HO1 HB1
    obtain ⟨j, M, hfj, hjt, hMj, rfl, rfl, ho, hall, hex, hbl⟩ := hrel
    have HO := hide ho
    have HBL := hide hbl
    have HALL := hide hall
    have HEX := hide hex
    clear ho hbl hex
    by_cases hlt : j < t
    · have hjN : j < N := by omega
      obtain ⟨Ao, mo, hos, hoc, hoo, hom⟩ := (HMO.out.below HBL.out (Nat.le_refl _)).at_ hjN
      obtain ⟨ro, mo', hA, hro1, hro2, _⟩ := hoo.some_ (show 0 < 2 by decide)
      simp only [Value.slice.injEq] at hA
      obtain ⟨rfl, _, rfl⟩ := hA
      have hmo2 : 2 ≤ mo := hom
      have d0 : wr.cell? ⟨go, j, none⟩ = some (.slice (some ⟨ro, 0, none⟩) 2 mo) := hoc
      have d1 : wr.cell? ⟨ro, 0, none⟩ = some (.int .i64 ((pairOf D C j).1 : Nat)) := hoo.cellAt (j := 0) rfl
      have hro3 : ro < w.heap.size := by
        have := (HMO.out.rows.lt hos (by rfl : (Value.slice (some ⟨ro, 0, none⟩) 2 mo).ownBlock = some ro)).2
        exact this
      have hpk := pair_lt (D := D) h1 j
      obtain ⟨px, hpx⟩ : ∃ q, (pairOf D C j).1 = q := ⟨_, rfl⟩
      rw [hpx] at hpk d1
      have hp16 : px < 16 := by omega
      have he := hall px hpk
      have hst := cntL_step (f := f) hfj hpx hp16
      have hyes : ecnt D C px (j + 1) = ecnt D C px j + 1 := ecnt_yes hpx
      have hmon := ecnt_mono (D := D) (C := C) (k := px) hfj
      have hno : ∀ k, k ≠ px → ecnt D C k (j + 1) = ecnt D C k j := fun k hk => ecnt_no (by rw [hpx]; exact Ne.symm hk)
      have hcx := HO.out.cellAt (cntL_at (D := D) (C := C) (f := f) (i := j) hp16)
      have hfx := HO.out.frozenAt px
      obtain ⟨hm5, hg5⟩ := HO.out.stored px ((ecnt D C px j - ecnt D C px f + 1 : Nat) : Int)
      rw [hst] at hm5
      have HE1 := hide (show ecnt D C px (j + 1) - ecnt D C px f = ecnt D C px j - ecnt D C px f + 1 by omega)
      have hc2 := hm5.cellAt (cntL_at (D := D) (C := C) (f := f) (i := j + 1) hp16)
      rw [HE1.out] at hc2
      have HNO := hide hno
      obtain ⟨e, hee⟩ : ∃ e, ecnt D C px j - ecnt D C px f = e := ⟨_, rfl⟩
      have HEE := hide hee
      rw [hee] at he hcx hm5 hg5 hc2 HE1
      have hw1 : IntKind.i64.wrap ((e : Int) + 1) = ((e + 1 : Nat) : Int) := by rw [IntWalk.i64_in _ ⟨by omega, by omega⟩]; omega
      have d0' : (wr.setCell ⟨w.heap.size, px, none⟩ (.int .i64 ((e + 1 : Nat) : Int))).cell? ⟨go, j, none⟩ = some (.slice (some ⟨ro, 0, none⟩) 2 mo) := (grown_cell (p := ⟨go, j, none⟩) hg5 (by have := HBL.out.size; show go < wr.heap.size; omega) (show some w.heap.size ≠ some go by intro e; injection e with e; omega)).trans d0
      have d1' : (wr.setCell ⟨w.heap.size, px, none⟩ (.int .i64 ((e + 1 : Nat) : Int))).cell? ⟨ro, 0, none⟩ = some (.int .i64 (px : Nat)) := (grown_cell (p := ⟨ro, 0, none⟩) hg5 hro2 (show some w.heap.size ≠ some ro by intro e; injection e with e; omega)).trans d1
      rw [show ((e + 1 : Nat) : Int) = (e : Int) + 1 by omega] at hm5 hg5
      have HO5 := hide hm5
      have HB5 := hide (HBL.out.grown hg5 HBL.out.size (fun r e => by injection e with e; omega))
      clear hoo hoc hos hst hm5 hg5 hno hee hyes hmon hall
      have HMX := hide (show ((max M (e + 1) : Nat) : Int) = max (M : Int) ((e : Int) + 1) by omega)
      go_wp2_with fail
      go_roundw
      case rel =>
        refine ⟨j + 1, max M (e + 1), by omega, by omega, by omega, by go_num, by rw [HMX.out], HO5.out, fun k hk => ?_, ?_, HB5.out⟩
        · by_cases hkx : k = px
          · subst hkx; rw [HE1.out]; omega
          · rw [HNO.out k hkx]; have := HALL.out k hk; omega
        · by_cases hM : M ≤ e + 1
          · exact ⟨px, hpk, by rw [HE1.out]; omega⟩
          · obtain ⟨k, hk, hkM⟩ := HEX.out
            refine ⟨k, hk, ?_⟩
            by_cases hkx : k = px
            · rw [hkx] at hkM ⊢; rw [HE1.out]; have := HEE.out; omega
            · rw [HNO.out k hkx]; omega
      case measure => simp [intOf]; omega
    · obtain rfl : j = t := by omega
      go_wp2_with fail
      go_ret
      exact ⟨M, rfl, by omega, HALL.out, HEX.out, HBL.out⟩

/-- The loops of the model's BurstBound. -/
def G1Rel (D C K N : Nat) (w2 : World) (i : Value) (wr : World) : Prop := ∃ b : Nat, 1 ≤ b ∧ b ≤ burst D C K + 1 ∧ i = .int .i64 b ∧ Below w2.heap.size w2 wr
def G2Rel (D C K N b : Nat) (w2 : World) (i : Value) (wr : World) : Prop := ∃ f : Nat, f + b ≤ N + 1 ∧ i = .int .i64 f ∧ Hid (∀ s, s < f → ∀ k, k < C → ecnt D C k (s + b) - ecnt D C k s ≤ K / 2) ∧ Below w2.heap.size w2 wr
set_option maxRecDepth 100000 in
set_option maxHeartbeats 4000000 in
theorem bbS_bad (p k g D K C : Int) (h : layB p k g D K C = false) (w : World) : Calls Tryz.prog 11 #[.agg #[.int .i64 p, .int .i64 k, .int .i64 g, .int .i64 D, .int .i64 K, .int .i64 C]] w (GivesII 0 1 w) := by
  have HX := hide (YBox.start w p k g D K C)
  obtain ⟨c0, c1, c2, c3, c4, c5⟩ := HX.out.cells
  have HV := hide (fun w' => specIsLayout p k g D K C w')
  rw [h] at HV
  go_enter Tryz.func11, Tryz.ntmps11
  go_wp2_with fail
  refine (HV.out _).mono ?_
  rintro x w1 ⟨rfl, hb1⟩
  have HX1 := hide (HX.out.next hb1)
  clear hb1 c0 c1 c2 c3 c4 c5
  go_wp2_with fail
  go_ret2
  exact ⟨rfl, HX1.out.2⟩
set_option maxRecDepth 100000 in
set_option maxHeartbeats 4000000 in
theorem bbS_val {R : Fld} {γ : El R} {p k g : Int} {D K C : Nat} (h : LayIs R γ p k g D K C) (w : World) : Calls Tryz.prog 11 #[.agg #[.int .i64 p, .int .i64 k, .int .i64 g, .int .i64 D, .int .i64 K, .int .i64 C]] w (GivesII (burst D C K : Nat) 0 w) := by
  have h1 := h.c1; have h2 := h.c16; have h3 := h.cd; have h4 := h.tot; have h5 := h.k1; have h6 := h.d1500
  have HX := hide (YBox.start w p k g D K C)
  obtain ⟨c0, c1, c2, c3, c4, c5⟩ := HX.out.cells
  have HV := hide (fun w' => specIsLayout p k g D K C w')
  rw [layB_is h] at HV
  have hblt := burst_le (K := K) (by omega) h3 (by omega)
  clear h
  go_enter Tryz.func11, Tryz.ntmps11
  go_wp2_with fail
  refine (HV.out _).mono ?_
  rintro x w1 ⟨rfl, hb1⟩
  have HX1 := hide (HX.out.next hb1)
  clear hb1 c0 c1 c2 c3 c4 c5
  obtain ⟨c0, c1, c2, c3, c4, c5⟩ := HX1.out.cells
  go_wp2_with fail
  refine (specOrder p k g D K C h1 h2 h3 (by omega) h4 w1).mono ?_
  rintro e w2 ⟨vo, os, rfl, hmo, hb2⟩
  have HX2 := hide (HX1.out.next hb2)
  have HMO := hide hmo
  obtain ⟨N, hN⟩ : ∃ N, D + C * K = N := ⟨_, rfl⟩
  rw [hN] at HMO h4 hblt
  have HNN := hide hN
  have hN0 : 0 < N := by omega
  obtain ⟨go, co, rfl, hgo1, hgo2, hgo3⟩ := HMO.out.form hN0
  clear hmo hb2 hN c0 c1 c2 c3 c4 c5
  go_wp2_with fail
  have hq := quoN K 2
  have hq2 : (K : Int).tdiv 2 = ((K / 2 : Nat) : Int) := hq
  have hBF := fun k s b (hk : k < C) (hb : b ≤ burst D C K) => burst_few (D := D) (K := K) (s := s) hk hb
  have HBF := hide hBF
  have HBM := hide (burst_most (K := K) (by omega) h3 (by omega))
  rw [HNN.out] at HBM
  obtain ⟨T, hT⟩ : ∃ T, K / 2 = T := ⟨_, rfl⟩
  rw [hT] at hq2 HBF HBM
  have HT := hide hT
  obtain ⟨BU, hBU⟩ : ∃ BU, burst D C K = BU := ⟨_, rfl⟩
  rw [hBU] at HBF HBM hblt ⊢
  have HBU := hide hBU
  have hT1 : T ≤ 64 := by omega
  clear hBF hT hBU hq
  go_loopw [5] (fun i wr => G1Rel D C K N w2 i wr) (fun i _ => N + 1 - (intOf i).toNat)
  case atStart => exact ⟨1, Nat.le_refl _, by omega, rfl, Below.refl _ _⟩
  case round =>
    obtain ⟨b, hb1, hb2, rfl, hbl⟩ := hrel
    rw [HBU.out] at hb2
    have HBL := hide hbl
    clear hbl
    have hbN : b ≤ N := by omega
    go_wp2_with fail
    go_loopw [6] (fun i wr => G2Rel D C K N b w2 i wr) (fun i _ => N + 1 - (intOf i).toNat)
    case atStart => exact ⟨0, by omega, rfl, (fun s hs => absurd hs (Nat.not_lt_zero s)), HBL.out⟩
    case round =>
      clear HBL
      obtain ⟨f, hf, rfl, HALL, hbl⟩ := hrel
      rw [HT.out] at HALL
      have HBL := hide hbl
      clear hbl
      have HXr := hide (HX2.out.next HBL.out)
      obtain ⟨c0, c1, c2, c3, c4, c5⟩ := HXr.out.cells
      by_cases hlt : f + b ≤ N
      · obtain ⟨fb, hfb⟩ : ∃ fb, f + b = fb := ⟨_, rfl⟩
        have hw1 : IntKind.i64.wrap ((f : Int) + (b : Int)) = (fb : Int) := by rw [IntWalk.i64_in _ ⟨by omega, by omega⟩]; omega
        have HFB := hide hfb
        have HMO2 := hide (HMO.out.below HBL.out (Nat.le_refl _))
        go_wp2_with fail
        refine tail_begin (fun w' => Cells6 w' w.heap.size p k g D K C) 10 (by kernel_rfl) ⟨c0, c1, c2, c3, c4, c5⟩ (fun hS' => ?_)
        clear c0 c1 c2 c3 c4 c5
        refine tail_take2 0 rfl (by kernel_rfl) (by kernel_rfl) (by kernel_rfl) (by decide) (fun _ _ _ h => h) (by rfl) (v := ?_) ?_ (by assumption) ?_
        rotate_left 1
        · intro w' hS'; obtain ⟨c0, c1, c2, c3, c4, c5⟩ := hS'; go_simp; try with_reducible rfl
        try simp only [Act.put, List.setIfInBounds_toArray, List.set_cons_zero, List.set_cons_succ]
        refine tail_take2 1 rfl (by kernel_rfl) (by kernel_rfl) (by kernel_rfl) (by decide) (fun _ _ _ h => h) (by rfl) (v := ?_) ?_ (by assumption) ?_
        rotate_left 1
        · intro w' hS'; obtain ⟨c0, c1, c2, c3, c4, c5⟩ := hS'; go_simp; try with_reducible rfl
        try simp only [Act.put, List.setIfInBounds_toArray, List.set_cons_zero, List.set_cons_succ]
        refine tail_take2 2 rfl (by kernel_rfl) (by kernel_rfl) (by kernel_rfl) (by decide) (fun _ _ _ h => h) (by rfl) (v := ?_) ?_ (by assumption) ?_
        rotate_left 1
        · intro w' hS'; obtain ⟨c0, c1, c2, c3, c4, c5⟩ := hS'; go_simp; try with_reducible rfl
        try simp only [Act.put, List.setIfInBounds_toArray, List.set_cons_zero, List.set_cons_succ]
        refine tail_take2 3 rfl (by kernel_rfl) (by kernel_rfl) (by kernel_rfl) (by decide) (fun _ _ _ h => h) (by rfl) (v := ?_) ?_ (by assumption) ?_
        rotate_left 1
        · intro w' hS'; obtain ⟨c0, c1, c2, c3, c4, c5⟩ := hS'; go_simp; try with_reducible rfl
        try simp only [Act.put, List.setIfInBounds_toArray, List.set_cons_zero, List.set_cons_succ]
        refine tail_take2 4 rfl (by kernel_rfl) (by kernel_rfl) (by kernel_rfl) (by decide) (fun _ _ _ h => h) (by rfl) (v := ?_) ?_ (by assumption) ?_
        rotate_left 1
        · intro w' hS'; obtain ⟨c0, c1, c2, c3, c4, c5⟩ := hS'; go_simp; try with_reducible rfl
        try simp only [Act.put, List.setIfInBounds_toArray, List.set_cons_zero, List.set_cons_succ]
        refine tail_take2 6 rfl (by kernel_rfl) (by kernel_rfl) (by kernel_rfl) (by decide) (fun _ _ _ h => h) (by rfl) (v := ?_) ?_ (by assumption) ?_
        rotate_left 1
        · intro w' hS'; obtain ⟨c0, c1, c2, c3, c4, c5⟩ := hS'; go_simp; try with_reducible rfl
        try simp only [Act.put, List.setIfInBounds_toArray, List.set_cons_zero, List.set_cons_succ]
        refine tail_take2 7 rfl (by kernel_rfl) (by kernel_rfl) (by kernel_rfl) (by decide) (fun _ _ _ h => h) (by rfl) (v := ?_) ?_ (by assumption) ?_
        rotate_left 1
        · intro w' hS'; obtain ⟨c0, c1, c2, c3, c4, c5⟩ := hS'; go_simp; try with_reducible rfl
        try simp only [Act.put, List.setIfInBounds_toArray, List.set_cons_zero, List.set_cons_succ]
        refine tail_take2 8 rfl (by kernel_rfl) (by kernel_rfl) (by kernel_rfl) (by decide) (fun _ _ _ h => h) (by rfl) (v := ?_) ?_ (by assumption) ?_
        rotate_left 1
        · intro w' hS'; obtain ⟨c0, c1, c2, c3, c4, c5⟩ := hS'; go_simp; try with_reducible rfl
        try simp only [Act.put, List.setIfInBounds_toArray, List.set_cons_zero, List.set_cons_succ]
        refine tail_call 5 rfl (by kernel_rfl) rfl (fun K hK => ?_)
        go_simp
        go_at_call 38; refine (specMost h1 h2 h4 (show f ≤ fb by omega) (show fb ≤ N by omega) _ os _ HMO2.out.drew).mono ?_; rintro e w3 ⟨M, rfl, hM15, hMa, hMe, hb3⟩; have HX3 := hide (HXr.out.drew.next hb3); have hb3' : Below wr.heap.size wr w3 := ⟨hb3.os, hb3.tape, hb3.output, hb3.size, hb3.block⟩; have HB3 := hide (HBL.out.trans (hb3'.mono HBL.out.size)); clear hb3'; have HMA := hide hMa; have HME := hide hMe; clear hb3 hMa hMe
        refine hK.out _ _ (by (try dsimp only); exact HX3.out.cells) (fun hS' => ?_)
        clear hK K
        try simp only [Act.put, List.setIfInBounds_toArray, List.set_cons_zero, List.set_cons_succ]
        refine tail_take2 9 rfl (by kernel_rfl) (by kernel_rfl) (by kernel_rfl) (by decide) (fun _ _ _ h => h) (by rfl) (v := ?_) ?_ (by assumption) ?_
        rotate_left 1
        · intro w' hS'; obtain ⟨c0, c1, c2, c3, c4, c5⟩ := hS'; go_simp; try with_reducible rfl
        try simp only [Act.put, List.setIfInBounds_toArray, List.set_cons_zero, List.set_cons_succ]
        refine tail_end (by kernel_rfl) ?_
        have hwT : IntKind.i64.wrap (T : Int) = (T : Int) := IntWalk.i64_in _ ⟨by omega, by omega⟩
        by_cases hMT : T < M
        · have hz1 : ((T : Int) < (M : Int)) := by omega
          have hbe : b = BU + 1 := by
            have : ¬ b ≤ BU := fun hb' => by
              obtain ⟨k', hk', hM'⟩ := HME.out
              have := HBF.out k' f b hk' hb'
              rw [HFB.out] at this
              omega
            omega
          have hw2 : IntKind.i64.wrap ((b : Int) - 1) = (BU : Int) := by rw [IntWalk.i64_in _ ⟨by omega, by omega⟩]; omega
          go_wp2_with fail
          go_ret2
          exact ⟨rfl, HX3.out.2⟩
        · have hz1 : ¬ ((T : Int) < (M : Int)) := by omega
          go_wp2_with fail
          go_roundw
          case rel => exact ⟨f + 1, by omega, by go_num, (fun s hs k' hk' => by
            by_cases hsf : s < f
            · have := HALL.out s hsf k' hk'; have := HT.out; omega
            · obtain rfl : s = f := by omega
              have h1' := HMA.out k' hk'
              rw [← HFB.out] at h1'
              have := HT.out
              omega), HB3.out⟩
          case measure => simp [intOf]; omega
      · have hw1 : IntKind.i64.wrap ((f : Int) + (b : Int)) = (f : Int) + (b : Int) := by rw [IntWalk.i64_in _ ⟨by omega, by omega⟩]
        have hz1 : ¬ ((f : Int) + (b : Int) ≤ (N : Int)) := by omega
        have hbB : b ≤ BU := by
          rcases Nat.lt_or_ge BU b with hh | hh
          · obtain ⟨k', s, hk', hs, hsn⟩ := HBM.out
            have hbb : b = BU + 1 := by omega
            have := HALL.out s (by omega) k' hk'
            rw [hbb] at this
            omega
          · exact hh
        go_wp2_with fail
        go_roundw
        case rel => exact ⟨b + 1, by omega, by rw [HBU.out]; omega, by go_num, HBL.out⟩
        case measure => simp [intOf]; omega
end Go.Proofs.YtlphodhecaagbaaGreat

namespace Go.Proofs.YtlphodhecaagbaaGreat
open Go.RowKit
set_option linter.unusedSimpArgs false
set_option linter.unusedVariables false

/-- The numbers from 0 on, of which the first i are laid. -/
def numT (N i : Nat) : List Int := (List.range N).map fun j => if j < i then (j : Int) else 0
theorem numT_len (N i : Nat) : (numT N i).length = N := by unfold numT; rw [List.length_map, List.length_range]
theorem numT_zero (N : Nat) : numT N 0 = List.replicate N 0 := by
  unfold numT
  apply List.ext_getElem?
  intro j
  by_cases hj : j < N
  · rw [List.getElem?_map, List.getElem?_range hj, List.getElem?_replicate, if_pos hj]; simp
  · rw [List.getElem?_eq_none (by simp; omega), List.getElem?_eq_none (by simp; omega)]
theorem numT_step {N i : Nat} (hi : i < N) : (numT N i).set i (i : Int) = numT N (i + 1) := by
  apply List.ext_getElem?
  intro j
  by_cases hj : j < N
  · by_cases hji : j = i
    · subst hji
      rw [List.getElem?_set_self (by rw [numT_len]; exact hj)]
      unfold numT
      rw [List.getElem?_map, List.getElem?_range hj]; simp
    · rw [List.getElem?_set_ne (Ne.symm hji)]
      unfold numT
      rw [List.getElem?_map, List.getElem?_map, List.getElem?_range hj]
      have : (j < i + 1) = (j < i) := by apply propext; omega
      simp [this]
  · rw [List.getElem?_eq_none (by rw [List.length_set, numT_len]; omega), List.getElem?_eq_none (by rw [numT_len]; omega)]
/-- The indices of a block. -/
def idxZ (D C K k : Nat) : List Int := (List.range (lsz D C k + K)).map fun e => (sidx D C k e : Int)
theorem idxZ_len (D C K k : Nat) : (idxZ D C K k).length = lsz D C k + K := by unfold idxZ; rw [List.length_map, List.length_range]
theorem idxZ_at {D C K k e : Nat} (he : e < lsz D C k + K) : (idxZ D C K k)[e]? = some (sidx D C k e : Int) := by unfold idxZ; rw [List.getElem?_map, List.getElem?_range he]; rfl
theorem wrdZ_num {D C K k : Nat} (hk : k < C) : wrdZ D C K (numT (D + C * K) (D + C * K)) k = idxZ D C K k := by
  unfold wrdZ idxZ
  refine List.map_congr_left fun e he => ?_
  have h := (sidx_lt (D := D) (K := K) hk).2 (List.mem_range.1 he)
  rw [List.getD_eq_getElem?_getD]
  unfold numT
  rw [List.getElem?_map, List.getElem?_range h]
  simp [h]
theorem gap_ge {D C K k e : Nat} (hk : k < C) : sidx D C k e + burst D C K ≤ sidx D C k (e + K / 2) := by
  unfold burst
  split
  · rename_i h0; rw [h0]; exact Nat.le_refl _
  · exact sidx_gap hk (by omega)
theorem gap_hit {D C K : Nat} (hC : 0 < C) (hD : C ≤ D) (hK : 0 < K) : ∃ k e, k < C ∧ e + K / 2 < lsz D C k + K ∧ sidx D C k (e + K / 2) ≤ sidx D C k e + burst D C K := by
  obtain ⟨k, s, hk, hs, hn⟩ := burst_most (K := K) hC hD hK
  have h1 := (ecnt_iff (D := D) hk (s + (burst D C K + 1)) (ecnt D C k s + K / 2)).1 (by omega)
  have h2 : ¬ sidx D C k (ecnt D C k s) < s := fun h => Nat.lt_irrefl _ ((ecnt_iff (D := D) hk s (ecnt D C k s)).2 h)
  exact ⟨k, ecnt D C k s, hk, (sidx_lt hk).1 (by omega), by omega⟩
def O7Rel (D C K N T BU : Nat) (w4 : World) (bo i : Value) (wr : World) : Prop :=
  ∃ k b : Nat, k ≤ C ∧ i = .int .i64 k ∧ bo = .int .i64 b ∧ BU ≤ b ∧ b ≤ N ∧ Hid (∀ k', k' < k → ∀ e, e + T < lsz D C k' + K → b + sidx D C k' e ≤ sidx D C k' (e + T)) ∧ w4 = wr
def I7Rel (D C K N T BU k : Nat) (w4 : World) (bo i : Value) (wr : World) : Prop :=
  ∃ f b : Nat, f + T ≤ lsz D C k + K ∧ i = .int .i64 f ∧ bo = .int .i64 b ∧ BU ≤ b ∧ b ≤ N ∧ Hid (∀ k', k' < k → ∀ e, e + T < lsz D C k' + K → b + sidx D C k' e ≤ sidx D C k' (e + T)) ∧ Hid (∀ e, e < f → b + sidx D C k e ≤ sidx D C k (e + T)) ∧ w4 = wr
def N7Rel (w : World) (p k g : Int) (D K C N gN : Nat) (i : Value) (wr : World) : Prop :=
  ∃ j : Nat, j ≤ N ∧ i = .int .i64 j ∧ Own wr (w.heap.size + 1) 2 .i64 (.slice (some ⟨gN, 0, none⟩) N N) (numT N j) ∧ YBox w wr p k g D K C

set_option maxRecDepth 100000 in
set_option maxHeartbeats 4000000 in
theorem implBurst {R : Fld} {γ : El R} {p k g : Int} {D K C : Nat} (h : LayIs R γ p k g D K C) (w : World) : Calls Tryz.prog 36 #[.agg #[.int .i64 p, .int .i64 k, .int .i64 g, .int .i64 D, .int .i64 K, .int .i64 C]] w (Gives (.int .i64 (burst D C K : Nat)) w) := by
  have h1 := h.c1; have h2 := h.c16; have h3 := h.cd; have h4 := h.tot; have h5 := h.k1; have h6 := h.d1500
  have HX := hide (YBox.start w p k g D K C)
  obtain ⟨c0, c1, c2, c3, c4, c5⟩ := HX.out.cells
  have HSN := hide (stN_is h)
  have HST := hide (fun w' => implStreamLen p k g D K C _ HSN.out w')
  have HH := hide h
  obtain ⟨N, hN⟩ : ∃ N, D + C * K = N := ⟨_, rfl⟩
  have HNN := hide hN
  rw [hN] at HST h4
  clear h hN
  go_enter Tryz.func36, Tryz.ntmps36
  go_wp2_with fail
  refine (HST.out _).mono ?_
  rintro x w1 ⟨rfl, hb1⟩
  have HX1 := hide (HX.out.next hb1)
  clear hb1 c0 c1 c2 c3 c4 c5
  have hlt1 := HX1.out.lt
  obtain ⟨ti, hi, hz0, hz1, hz2⟩ := info_parts elem64.info
  obtain ⟨w2, hrun, ho, hg⟩ := run_make_full (P := Tryz.prog) w1 w1.heap.size 28 2 ti _ 1 Tryz.underlying28 hi hz0 hz1 .i64 .i64 N (by rw [hz2]; omega) (by simp only [maxLen]; omega) (Nat.le_refl _)
  have hb2 : Below w1.heap.size w1 w2 := (Below.refl w1.heap.size w1).grown hg (Nat.le_refl _) (by simp)
  have HX2 := hide (HX1.out.next hb2)
  have HO2 := hide ((made_own ho).low (base' := w.heap.size + 1) (by omega))
  rw [← numT_zero] at HO2
  clear ho hg hi hz0 hz1 hz2 hb2
  go_wp2_with fail
  have hgN : w.heap.size < w1.heap.size := hlt1
  obtain ⟨gN, hgn⟩ : ∃ gN, w1.heap.size = gN := ⟨_, rfl⟩
  rw [hgn] at HO2 hgN
  rw [hgn]
  go_loopw [15] (fun i wr => N7Rel w p k g D K C N gN i wr) (fun i _ => N - (intOf i).toNat)
  case atStart => exact ⟨0, Nat.zero_le _, rfl, HO2.out, HX2.out⟩
  case round =>
    clear HO2 HX2 HX1 HX
    obtain ⟨j, hj, rfl, ho, hx⟩ := hrel
    have HO := hide ho
    have HX := hide hx
    clear ho hx
    by_cases hlt : j < N
    · have hcx := HO.out.cellAt (List.getElem?_eq_getElem (show j < (numT N j).length by rw [numT_len]; exact hlt))
      have hfx := HO.out.frozenAt j
      obtain ⟨hm5, hg5⟩ := HO.out.stored j (j : Int)
      rw [numT_step hlt] at hm5
      have HO5 := hide hm5
      have HX5 := hide (HX.out.grow hg5 (fun r e => by injection e with e; omega))
      clear hm5 hg5
      go_wp2_with fail
      go_roundw
      case rel => exact ⟨j + 1, by omega, by go_num, HO5.out, HX5.out⟩
      case measure => simp [intOf]; omega
    · obtain rfl : j = N := by omega
      obtain ⟨c0, c1, c2, c3, c4, c5⟩ := HX.out.cells
      go_wp2_with fail
      refine (HST.out _).mono ?_
      rintro x w3 ⟨rfl, hb3⟩
      have HX3 := hide (HX.out.next hb3)
      have HO3 := hide (HO.out.below hb3 (Nat.le_refl _))
      clear hb3 c0 c1 c2 c3 c4 c5
      obtain ⟨c0, c1, c2, c3, c4, c5⟩ := HX3.out.cells
      go_wp2_with fail
      refine (implSplit HH.out (some ⟨gN, 0, none⟩) j j w3.heap.size (numT j j) w3 (show Ints .i64 w3 w3.heap.size (some ⟨gN, 0, none⟩) j (numT j j) by have := Own.ints HO3.out; rw [numT_len] at this; exact this) (Nat.le_refl _) HNN.out.symm).mono ?_
      rintro x w4 ⟨vm, vs, rfl, hm, hb4⟩
      have HX4 := hide (HX3.out.next hb4)
      have HM4 := hide (hm.congr (Y := idxZ D C K) fun i hi => by have := wrdZ_num (D := D) (K := K) hi; rw [HNN.out] at this; exact this.symm)
      clear hm hb4 c0 c1 c2 c3 c4 c5
      obtain ⟨gv, cv, rfl, hgv1, hgv2, hgv3⟩ := HM4.out.form h1
      go_wp2_with fail
      have hblt := burst_le (K := K) (by omega) h3 (by omega)
      have hq2 : (K : Int).tdiv 2 = ((K / 2 : Nat) : Int) := quoN K 2
      have HGE := hide (fun k e (hk : k < C) => gap_ge (D := D) (K := K) (e := e) hk)
      have HGH := hide (gap_hit (K := K) (by omega) h3 (by omega))
      rw [HNN.out] at hblt
      obtain ⟨T, hT⟩ : ∃ T, K / 2 = T := ⟨_, rfl⟩
      have hTK : T < K := by omega
      rw [hT] at hq2 HGE HGH
      obtain ⟨BU, hBU⟩ : ∃ BU, burst D C K = BU := ⟨_, rfl⟩
      rw [hBU] at HGE HGH hblt ⊢
      have hwT : IntKind.i64.wrap (T : Int) = (T : Int) := IntWalk.i64_in _ ⟨by omega, by omega⟩
      have HBU := hide hBU
      clear hT hBU HO HO3 HX HX3 HST
      obtain ⟨c0, c1, c2, c3, c4, c5⟩ := HX4.out.cells
      go_loopw [5, 29] (fun bo i wr => O7Rel D C K j T BU w4 bo i wr) (fun _ i _ => C - (intOf i).toNat)
      case atStart => exact ⟨0, j, Nat.zero_le _, rfl, rfl, by omega, Nat.le_refl _, (fun k hk => absurd hk (Nat.not_lt_zero k)), rfl⟩
      case round =>
        obtain ⟨b, bo, hb, rfl, rfl, hlo, hhi, HALL, rfl⟩ := hrel
        by_cases hlt : b < C
        · obtain ⟨Ar, mr, hvs, hrc, hro, hmr⟩ := HM4.out.at_ hlt
          have hls := lsz_le D C b
          have hdd := Nat.div_le_self D C
          have hlsz := idxZ_len D C K b
          rw [hlsz] at hvs hrc hro hmr
          obtain ⟨L, hL⟩ : ∃ L, lsz D C b + K = L := ⟨_, rfl⟩
          rw [hL] at hvs hrc hro hmr
          have hLT : T < L := by omega
          obtain ⟨rb, cr, hAr, hrb1, hrb2, _⟩ := hro.some_ (by rw [hlsz]; omega)
          rw [hlsz, hL] at hAr
          simp only [Value.slice.injEq] at hAr
          obtain ⟨rfl, hAl, rfl⟩ := hAr
          have hcut : ∀ w', (Instr.sliceAt 28 (.slice (some ⟨rb, 0, none⟩) L mr) (some (.int .i64 (T : Int))) none none).run Tryz.prog w' = .ok (.slice (some ⟨rb, T, none⟩) (L - T) (mr - T)) w' := fun w' => by
            rw [run_cut_l _ _ _ _ (Nat.le_of_lt hLT), subA, if_neg (by omega)]
            rw [Option.map_some, addr_add, Nat.zero_add]
          have HCE := hide (fun e (he : e < L) => hro.cellAt (idxZ_at (D := D) (C := C) (K := K) (k := b) (e := e) (by rw [hL]; exact he)))
          clear hro hvs hAl
          go_wp2_with fail
          go_loopw [5, 39] (fun bo i wr => I7Rel D C K j T BU b w4 bo i wr) (fun _ i _ => L - T - (intOf i).toNat)
          case atStart => exact ⟨0, bo, by omega, rfl, rfl, hlo, hhi, HALL, (fun e he => absurd he (Nat.not_lt_zero e)), rfl⟩
          case round =>
            clear HALL hlo hhi
            obtain ⟨f, bi, hf, rfl, rfl, hlo, hhi, HALL, HIN, rfl⟩ := hrel
            rw [hL] at hf
            by_cases hfl : f + T < L
            · have d1 := HCE.out (T + f) (by omega)
              have d2 := HCE.out f (by omega)
              have hge := HGE.out b f hlt
              rw [Nat.add_comm f T] at hge
              have hsm : sidx D C b (T + f) < j := by rw [← HNN.out]; exact (sidx_lt hlt).2 (by rw [hL]; omega)
              have HS1 := hide (show f + T = T + f from Nat.add_comm _ _)
              obtain ⟨x1, hx1⟩ : ∃ x, sidx D C b (T + f) = x := ⟨_, rfl⟩
              obtain ⟨x2, hx2⟩ : ∃ x, sidx D C b f = x := ⟨_, rfl⟩
              rw [hx1] at d1 hge hsm
              rw [hx2] at d2 hge
              have HX1 := hide hx1
              have HX2 := hide hx2
              have hw2 : IntKind.i64.wrap ((x1 : Int) - (x2 : Int)) = ((x1 - x2 : Nat) : Int) := by rw [IntWalk.i64_in _ ⟨by omega, by omega⟩]; omega
              obtain ⟨gp, hgp⟩ : ∃ gp, x1 - x2 = gp := ⟨_, rfl⟩
              rw [hgp] at hw2
              have HMN := hide (show ((min bi gp : Nat) : Int) = min (bi : Int) (gp : Int) by omega)
              have hfl2 : f < L - T := by omega
              clear hx1 hx2
              go_wp2_with fail
              go_roundw
              case rel =>
                refine ⟨f + 1, min bi gp, by omega, by go_num, by rw [HMN.out], by omega, by omega, (fun k' hk' e he => by have := HALL.out k' hk' e he; omega), (fun e he => ?_), rfl⟩
                by_cases hef : e < f
                · have := HIN.out e hef; omega
                · obtain rfl : e = f := by omega
                  rw [HS1.out, HX1.out, HX2.out]; omega
              case measure => simp [intOf]; omega
            · have hfl2 : f = L - T := by omega
              subst hfl2
              go_wp2_with fail
              go_roundw
              case rel => exact ⟨b + 1, bi, by omega, by go_num, rfl, hlo, hhi, (fun k' hk' e he => by
                by_cases hkb : k' < b
                · exact HALL.out k' hkb e he
                · obtain rfl : k' = b := by omega
                  exact HIN.out e (by omega)), rfl⟩
              case measure => simp [intOf]; omega
        · obtain rfl : b = C := by omega
          obtain ⟨k', e, hk', he, hs⟩ := HGH.out
          have := HALL.out k' hk' e he
          obtain rfl : bo = BU := by omega
          go_wp2_with fail
          go_ret
          exact ⟨ret_int (by rw [HBU.out]), HX4.out.2⟩

set_option maxRecDepth 100000 in
set_option maxHeartbeats 4000000 in
theorem bbI_bad (p k g D K C : Int) (h : layB p k g D K C = false) (hD : -9223372036854775808 ≤ D ∧ D ≤ 9223372036854775807) (hC : -9223372036854775808 ≤ C ∧ C ≤ 9223372036854775807) (w : World) : Calls Tryz.prog 10 #[.agg #[.int .i64 p, .int .i64 k, .int .i64 g, .int .i64 D, .int .i64 K, .int .i64 C]] w (GivesII 0 1 w) := by
  have HX := hide (YBox.start w p k g D K C)
  obtain ⟨c0, c1, c2, c3, c4, c5⟩ := HX.out.cells
  have HV := hide (fun w' => implLayValid p k g D K C w' hC hD)
  rw [h] at HV
  go_enter Tryz.func10, Tryz.ntmps10
  go_wp2_with fail
  refine (HV.out _).mono ?_
  rintro x w1 ⟨rfl, hb1⟩
  have HX1 := hide (HX.out.next hb1)
  clear hb1 c0 c1 c2 c3 c4 c5
  go_wp2_with fail
  go_ret2
  exact ⟨rfl, HX1.out.2⟩
set_option maxRecDepth 100000 in
set_option maxHeartbeats 4000000 in
theorem bbI_val {R : Fld} {γ : El R} {p k g : Int} {D K C : Nat} (h : LayIs R γ p k g D K C) (w : World) : Calls Tryz.prog 10 #[.agg #[.int .i64 p, .int .i64 k, .int .i64 g, .int .i64 D, .int .i64 K, .int .i64 C]] w (GivesII (burst D C K : Nat) 0 w) := by
  have h2 := h.c16; have h3 := h.cd; have h6 := h.d1500
  have HX := hide (YBox.start w p k g D K C)
  obtain ⟨c0, c1, c2, c3, c4, c5⟩ := HX.out.cells
  have HV := hide (fun w' => implLayValid p k g D K C w' (by omega) (by omega))
  rw [layB_is h] at HV
  have HBU := hide (fun w' => implBurst h w')
  obtain ⟨BU, hBU⟩ : ∃ BU, burst D C K = BU := ⟨_, rfl⟩
  rw [hBU] at HBU ⊢
  clear h hBU
  go_enter Tryz.func10, Tryz.ntmps10
  go_wp2_with fail
  refine (HV.out _).mono ?_
  rintro x w1 ⟨rfl, hb1⟩
  have HX1 := hide (HX.out.next hb1)
  clear hb1 c0 c1 c2 c3 c4 c5
  obtain ⟨c0, c1, c2, c3, c4, c5⟩ := HX1.out.cells
  go_wp2_with fail
  refine (HBU.out _).mono ?_
  rintro x w2 ⟨rfl, hb2⟩
  have HX2 := hide (HX1.out.next hb2)
  clear hb2 c0 c1 c2 c3 c4 c5
  go_wp2_with fail
  go_ret2
  exact ⟨rfl, HX2.out.2⟩
theorem bb_both (p k g D K C : Int) (hD : -9223372036854775808 ≤ D ∧ D ≤ 9223372036854775807) (hC : -9223372036854775808 ≤ C ∧ C ≤ 9223372036854775807) :
    ∃ a b : Int, (∀ w, Calls Tryz.prog 11 #[.agg #[.int .i64 p, .int .i64 k, .int .i64 g, .int .i64 D, .int .i64 K, .int .i64 C]] w (GivesII a b w)) ∧ (∀ w, Calls Tryz.prog 10 #[.agg #[.int .i64 p, .int .i64 k, .int .i64 g, .int .i64 D, .int .i64 K, .int .i64 C]] w (GivesII a b w)) := by
  rcases h : layB p k g D K C with _ | _
  · exact ⟨0, 1, bbS_bad p k g D K C h, bbI_bad p k g D K C h hD hC⟩
  · obtain ⟨R, γ, d, c, m, rfl, rfl, rfl, hI⟩ := layB_open h
    exact ⟨_, 0, bbS_val hI, bbI_val hI⟩
end Go.Proofs.YtlphodhecaagbaaGreat
