/-
  The bound of bursts, as the model finds it.
  Condition: the layout is valid.
-/
import Derived.Test.YtkdpkbnhckpnoaaLayB
namespace Go.Proofs.Ytkdpkbnhckpnoaa
open Go.RowKit
set_option linter.unusedSimpArgs false
set_option linter.unusedVariables false

/-- The elements of each block within a part of the stream. -/
def cntL (D C f i : Nat) : List Int := (List.range 16).map fun k => ((ecnt D C k i - ecnt D C k f : Nat) : Int)
theorem cntL_at {D C f i k : Nat} (hk : k < 16) : (cntL D C f i)[k]? = some ((ecnt D C k i - ecnt D C k f : Nat) : Int) := by
  unfold cntL; rw [List.getElem?_map, List.getElem?_range hk]; rfl
theorem cntL_len (D C f i : Nat) : (cntL D C f i).length = 16 := by unfold cntL; rw [List.length_map, List.length_range]
theorem cntL_start (D C f : Nat) : cntL D C f f = List.replicate 16 0 := by
  unfold cntL
  apply List.ext_getElem?
  intro j
  by_cases hj : j < 16
  · rw [List.getElem?_map, List.getElem?_range hj, List.getElem?_replicate, if_pos hj]; simp
  · rw [List.getElem?_eq_none (by simp; omega), List.getElem?_eq_none (by simp; omega)]
theorem cntL_step {D C f i x : Nat} (hf : f ≤ i) (hx : (pairOf D C i).1 = x) (hx16 : x < 16) : (cntL D C f i).set x ((ecnt D C x i - ecnt D C x f + 1 : Nat) : Int) = cntL D C f (i + 1) := by
  apply List.ext_getElem?
  intro j
  by_cases hj : j < 16
  · by_cases hjx : j = x
    · subst hjx
      rw [List.getElem?_set_self (by rw [cntL_len]; exact hj), cntL_at hj, ecnt_yes hx]
      have := ecnt_mono (D := D) (C := C) (k := j) hf
      congr 2
      omega
    · rw [List.getElem?_set_ne (Ne.symm hjx), cntL_at hj, cntL_at hj, ecnt_no (by rw [hx]; exact Ne.symm hjx)]
  · rw [List.getElem?_eq_none (by rw [List.length_set, cntL_len]; omega), List.getElem?_eq_none (by rw [cntL_len]; omega)]
/-- What the loop of the model's l07Most holds. -/
def M1Rel (w : World) (D C f t gC : Nat) (mo i : Value) (wr : World) : Prop :=
  ∃ (j M : Nat), f ≤ j ∧ j ≤ t ∧ M ≤ j ∧ i = .int .i64 j ∧ mo = .int .i64 M ∧ Own wr w.heap.size 2 .i64 (.slice (some ⟨gC, 0, none⟩) 16 16) (cntL D C f j) ∧ (∀ k, k < C → ecnt D C k j - ecnt D C k f ≤ M) ∧ (∃ k, k < C ∧ M ≤ ecnt D C k j - ecnt D C k f) ∧ Below w.heap.size w wr
def GivesMost (D C f t : Nat) (w : World) (x : Ending) (w' : World) : Prop :=
  ∃ M : Nat, x = .returned (.int .i64 M) ∧ M ≤ 1500 ∧ (∀ k, k < C → ecnt D C k t - ecnt D C k f ≤ M) ∧ (∃ k, k < C ∧ M ≤ ecnt D C k t - ecnt D C k f) ∧ Below w.heap.size w w'

set_option maxRecDepth 100000 in
set_option maxHeartbeats 4000000 in
theorem specMost {D C N f t go co : Nat} (h1 : 1 ≤ C) (h2 : C ≤ 16) (hN : N ≤ 1500) (hft : f ≤ t) (htN : t ≤ N) (base : Nat) (os : List Value) (w : World) (hMO : Mat w base (.slice (some ⟨go, 0, none⟩) N co) N os (ordZ D C)) :
    Calls Try.prog 62 #[.slice (some ⟨go, 0, none⟩) N co, .int .i64 f, .int .i64 t] w (GivesMost D C f t w) := by
  have HMO := hide hMO
  have hgo := (World.ownsRow.lt hMO.row go rfl).2
  clear hMO
  obtain ⟨ti, hi, hz0, hz1, hz2⟩ := info_parts elem64.info
  obtain ⟨w1, hrun, ho, hg⟩ := run_make_full (P := Try.prog) w w.heap.size 28 2 ti _ 1 Try.underlying28 hi hz0 hz1 .i64 .i64 16 (by rw [hz2]; decide) (by simp only [maxLen]; omega) (Nat.le_refl _)
  have hb1 : Below w.heap.size w w1 := (Below.refl w.heap.size w).grown hg (Nat.le_refl _) (by simp)
  have HO1 := hide (made_own ho)
  rw [← cntL_start D C f] at HO1
  have HB1 := hide hb1
  have hrun' : (Instr.makeSlice 28 (.int .i64 16) (.int .i64 16)).run Try.prog w = .ok (.slice (some ⟨w.heap.size, 0, none⟩) 16 16) w1 := hrun
  clear ho hg hi hz0 hz1 hz2 hb1 hrun
  go_enter Try.func62, Try.ntmps62
  go_wp2_with fail
  clear hrun'
  go_loopw [8, 9] (fun mo i wr => M1Rel w D C f t w.heap.size mo i wr) (fun _ i _ => t - (intOf i).toNat)
  case atStart => exact ⟨f, 0, Nat.le_refl _, hft, Nat.zero_le _, rfl, rfl, HO1.out, (fun k _ => by omega), ⟨0, h1, Nat.zero_le _⟩, HB1.out⟩
  case round =>
    clear HO1 HB1
    obtain ⟨j, M, hfj, hjt, hMj, rfl, rfl, ho, hall, hex, hbl⟩ := hrel
    have HO := hide ho
    have HBL := hide hbl
    have HALL := hide hall
    have HEX := hide hex
    clear ho hbl hex
    by_cases hlt : j < t
    · have hjN : j < N := by omega
      obtain ⟨Ao, mo, hos, hoc, hoo, hom⟩ := (HMO.out.below HBL.out (Nat.le_refl _)).at_ hjN
      obtain ⟨ro, mo', hA, hro1, hro2, _⟩ := hoo.some_ (show 0 < 2 by decide)
      simp only [Value.slice.injEq] at hA
      obtain ⟨rfl, _, rfl⟩ := hA
      have hmo2 : 2 ≤ mo := hom
      have d0 : wr.cell? ⟨go, j, none⟩ = some (.slice (some ⟨ro, 0, none⟩) 2 mo) := hoc
      have d1 : wr.cell? ⟨ro, 0, none⟩ = some (.int .i64 ((pairOf D C j).1 : Nat)) := hoo.cellAt (j := 0) rfl
      have hro3 : ro < w.heap.size := by
        have := (HMO.out.rows.lt hos (by rfl : (Value.slice (some ⟨ro, 0, none⟩) 2 mo).ownBlock = some ro)).2
        exact this
      have hpk := pair_lt (D := D) h1 j
      obtain ⟨px, hpx⟩ : ∃ q, (pairOf D C j).1 = q := ⟨_, rfl⟩
      rw [hpx] at hpk d1
      have hp16 : px < 16 := by omega
      have he := hall px hpk
      have hst := cntL_step (f := f) hfj hpx hp16
      have hyes : ecnt D C px (j + 1) = ecnt D C px j + 1 := ecnt_yes hpx
      have hmon := ecnt_mono (D := D) (C := C) (k := px) hfj
      have hno : ∀ k, k ≠ px → ecnt D C k (j + 1) = ecnt D C k j := fun k hk => ecnt_no (by rw [hpx]; exact Ne.symm hk)
      have hcx := HO.out.cellAt (cntL_at (D := D) (C := C) (f := f) (i := j) hp16)
      have hfx := HO.out.frozenAt px
      obtain ⟨hm5, hg5⟩ := HO.out.stored px ((ecnt D C px j - ecnt D C px f + 1 : Nat) : Int)
      rw [hst] at hm5
      have HE1 := hide (show ecnt D C px (j + 1) - ecnt D C px f = ecnt D C px j - ecnt D C px f + 1 by omega)
      have hc2 := hm5.cellAt (cntL_at (D := D) (C := C) (f := f) (i := j + 1) hp16)
      rw [HE1.out] at hc2
      have HNO := hide hno
      obtain ⟨e, hee⟩ : ∃ e, ecnt D C px j - ecnt D C px f = e := ⟨_, rfl⟩
      have HEE := hide hee
      rw [hee] at he hcx hm5 hg5 hc2 HE1
      have hw1 : IntKind.i64.wrap ((e : Int) + 1) = ((e + 1 : Nat) : Int) := by rw [IntWalk.i64_in _ ⟨by omega, by omega⟩]; omega
      have d0' : (wr.setCell ⟨w.heap.size, px, none⟩ (.int .i64 ((e + 1 : Nat) : Int))).cell? ⟨go, j, none⟩ = some (.slice (some ⟨ro, 0, none⟩) 2 mo) := (grown_cell (p := ⟨go, j, none⟩) hg5 (by have := HBL.out.size; show go < wr.heap.size; omega) (show some w.heap.size ≠ some go by intro e; injection e with e; omega)).trans d0
      have d1' : (wr.setCell ⟨w.heap.size, px, none⟩ (.int .i64 ((e + 1 : Nat) : Int))).cell? ⟨ro, 0, none⟩ = some (.int .i64 (px : Nat)) := (grown_cell (p := ⟨ro, 0, none⟩) hg5 hro2 (show some w.heap.size ≠ some ro by intro e; injection e with e; omega)).trans d1
      rw [show ((e + 1 : Nat) : Int) = (e : Int) + 1 by omega] at hm5 hg5
      have HO5 := hide hm5
      have HB5 := hide (HBL.out.grown hg5 HBL.out.size (fun r e => by injection e with e; omega))
      clear hoo hoc hos hst hm5 hg5 hno hee hyes hmon hall
      have HMX := hide (show ((max M (e + 1) : Nat) : Int) = max (M : Int) ((e : Int) + 1) by omega)
      go_wp2_with fail
      go_roundw
      case rel =>
        refine ⟨j + 1, max M (e + 1), by omega, by omega, by omega, by go_num, by rw [HMX.out], HO5.out, fun k hk => ?_, ?_, HB5.out⟩
        · by_cases hkx : k = px
          · subst hkx; rw [HE1.out]; omega
          · rw [HNO.out k hkx]; have := HALL.out k hk; omega
        · by_cases hM : M ≤ e + 1
          · exact ⟨px, hpk, by rw [HE1.out]; omega⟩
          · obtain ⟨k, hk, hkM⟩ := HEX.out
            refine ⟨k, hk, ?_⟩
            by_cases hkx : k = px
            · rw [hkx] at hkM ⊢; rw [HE1.out]; have := HEE.out; omega
            · rw [HNO.out k hkx]; omega
      case measure => simp [intOf]; omega
    · obtain rfl : j = t := by omega
      go_wp2_with fail
      go_ret
      exact ⟨M, rfl, by omega, HALL.out, HEX.out, HBL.out⟩

/-- The loops of the model's BurstBound. -/
def G1Rel (D C K N : Nat) (w2 : World) (i : Value) (wr : World) : Prop := ∃ b : Nat, 1 ≤ b ∧ b ≤ burst D C K + 1 ∧ i = .int .i64 b ∧ Below w2.heap.size w2 wr
def G2Rel (D C K N b : Nat) (w2 : World) (i : Value) (wr : World) : Prop := ∃ f : Nat, f + b ≤ N + 1 ∧ i = .int .i64 f ∧ Hid (∀ s, s < f → ∀ k, k < C → ecnt D C k (s + b) - ecnt D C k s ≤ K / 2) ∧ Below w2.heap.size w2 wr
set_option maxRecDepth 100000 in
set_option maxHeartbeats 4000000 in
theorem bbS_bad (p k g D K C : Int) (h : layB p k g D K C = false) (w : World) : Calls Try.prog 36 #[.agg #[.int .i64 p, .int .i64 k, .int .i64 g, .int .i64 D, .int .i64 K, .int .i64 C]] w (GivesII 0 1 w) := by
  have HX := hide (YBox.start w p k g D K C)
  obtain ⟨c0, c1, c2, c3, c4, c5⟩ := HX.out.cells
  have HV := hide (fun w' => specIsLayout p k g D K C w')
  rw [h] at HV
  go_enter Try.func36, Try.ntmps36
  go_wp2_with fail
  refine (HV.out _).mono ?_
  rintro x w1 ⟨rfl, hb1⟩
  have HX1 := hide (HX.out.next hb1)
  clear hb1 c0 c1 c2 c3 c4 c5
  go_wp2_with fail
  go_ret2
  exact ⟨rfl, HX1.out.2⟩
set_option maxRecDepth 100000 in
set_option maxHeartbeats 4000000 in
theorem bbS_val {R : Fld} {γ : El R} {p k g : Int} {D K C : Nat} (h : LayIs R γ p k g D K C) (w : World) : Calls Try.prog 36 #[.agg #[.int .i64 p, .int .i64 k, .int .i64 g, .int .i64 D, .int .i64 K, .int .i64 C]] w (GivesII (burst D C K : Nat) 0 w) := by
  have h1 := h.c1; have h2 := h.c16; have h3 := h.cd; have h4 := h.tot; have h5 := h.k1; have h6 := h.d1500
  have HX := hide (YBox.start w p k g D K C)
  obtain ⟨c0, c1, c2, c3, c4, c5⟩ := HX.out.cells
  have HV := hide (fun w' => specIsLayout p k g D K C w')
  rw [layB_is h] at HV
  have hblt := burst_le (K := K) (by omega) h3 (by omega)
  clear h
  go_enter Try.func36, Try.ntmps36
  go_wp2_with fail
  refine (HV.out _).mono ?_
  rintro x w1 ⟨rfl, hb1⟩
  have HX1 := hide (HX.out.next hb1)
  clear hb1 c0 c1 c2 c3 c4 c5
  obtain ⟨c0, c1, c2, c3, c4, c5⟩ := HX1.out.cells
  go_wp2_with fail
  refine (specOrder p k g D K C h1 h2 h3 (by omega) h4 w1).mono ?_
  rintro e w2 ⟨vo, os, rfl, hmo, hb2⟩
  have HX2 := hide (HX1.out.next hb2)
  have HMO := hide hmo
  obtain ⟨N, hN⟩ : ∃ N, D + C * K = N := ⟨_, rfl⟩
  rw [hN] at HMO h4 hblt
  have HNN := hide hN
  have hN0 : 0 < N := by omega
  obtain ⟨go, co, rfl, hgo1, hgo2, hgo3⟩ := HMO.out.form hN0
  clear hmo hb2 hN c0 c1 c2 c3 c4 c5
  go_wp2_with fail
  have hq := quoN K 2
  have hq2 : (K : Int).tdiv 2 = ((K / 2 : Nat) : Int) := hq
  have hBF := fun k s b (hk : k < C) (hb : b ≤ burst D C K) => burst_few (D := D) (K := K) (s := s) hk hb
  have HBF := hide hBF
  have HBM := hide (burst_most (K := K) (by omega) h3 (by omega))
  rw [HNN.out] at HBM
  obtain ⟨T, hT⟩ : ∃ T, K / 2 = T := ⟨_, rfl⟩
  rw [hT] at hq2 HBF HBM
  have HT := hide hT
  obtain ⟨BU, hBU⟩ : ∃ BU, burst D C K = BU := ⟨_, rfl⟩
  rw [hBU] at HBF HBM hblt ⊢
  have HBU := hide hBU
  have hT1 : T ≤ 64 := by omega
  clear hBF hT hBU hq
  go_loopw [5] (fun i wr => G1Rel D C K N w2 i wr) (fun i _ => N + 1 - (intOf i).toNat)
  case atStart => exact ⟨1, Nat.le_refl _, by omega, rfl, Below.refl _ _⟩
  case round =>
    obtain ⟨b, hb1, hb2, rfl, hbl⟩ := hrel
    rw [HBU.out] at hb2
    have HBL := hide hbl
    clear hbl
    have hbN : b ≤ N := by omega
    go_wp2_with fail
    go_loopw [6] (fun i wr => G2Rel D C K N b w2 i wr) (fun i _ => N + 1 - (intOf i).toNat)
    case atStart => exact ⟨0, by omega, rfl, (fun s hs => absurd hs (Nat.not_lt_zero s)), HBL.out⟩
    case round =>
      clear HBL
      obtain ⟨f, hf, rfl, HALL, hbl⟩ := hrel
      rw [HT.out] at HALL
      have HBL := hide hbl
      clear hbl
      have HXr := hide (HX2.out.next HBL.out)
      obtain ⟨c0, c1, c2, c3, c4, c5⟩ := HXr.out.cells
      by_cases hlt : f + b ≤ N
      · obtain ⟨fb, hfb⟩ : ∃ fb, f + b = fb := ⟨_, rfl⟩
        have hw1 : IntKind.i64.wrap ((f : Int) + (b : Int)) = (fb : Int) := by rw [IntWalk.i64_in _ ⟨by omega, by omega⟩]; omega
        have HFB := hide hfb
        have HMO2 := hide (HMO.out.below HBL.out (Nat.le_refl _))
        go_wp2_with fail
        refine tail_begin (fun w' => Cells6 w' w.heap.size p k g D K C) 10 (by kernel_rfl) ⟨c0, c1, c2, c3, c4, c5⟩ (fun hS' => ?_)
        clear c0 c1 c2 c3 c4 c5
        refine tail_take2 0 rfl (by kernel_rfl) (by kernel_rfl) (by kernel_rfl) (by decide) (fun _ _ _ h => h) (by rfl) (v := ?_) ?_ (by assumption) ?_
        rotate_left 1
        · intro w' hS'; obtain ⟨c0, c1, c2, c3, c4, c5⟩ := hS'; go_simp; try with_reducible rfl
        try simp only [Act.put, List.setIfInBounds_toArray, List.set_cons_zero, List.set_cons_succ]
        refine tail_take2 1 rfl (by kernel_rfl) (by kernel_rfl) (by kernel_rfl) (by decide) (fun _ _ _ h => h) (by rfl) (v := ?_) ?_ (by assumption) ?_
        rotate_left 1
        · intro w' hS'; obtain ⟨c0, c1, c2, c3, c4, c5⟩ := hS'; go_simp; try with_reducible rfl
        try simp only [Act.put, List.setIfInBounds_toArray, List.set_cons_zero, List.set_cons_succ]
        refine tail_take2 2 rfl (by kernel_rfl) (by kernel_rfl) (by kernel_rfl) (by decide) (fun _ _ _ h => h) (by rfl) (v := ?_) ?_ (by assumption) ?_
        rotate_left 1
        · intro w' hS'; obtain ⟨c0, c1, c2, c3, c4, c5⟩ := hS'; go_simp; try with_reducible rfl
        try simp only [Act.put, List.setIfInBounds_toArray, List.set_cons_zero, List.set_cons_succ]
        refine tail_take2 3 rfl (by kernel_rfl) (by kernel_rfl) (by kernel_rfl) (by decide) (fun _ _ _ h => h) (by rfl) (v := ?_) ?_ (by assumption) ?_
        rotate_left 1
        · intro w' hS'; obtain ⟨c0, c1, c2, c3, c4, c5⟩ := hS'; go_simp; try with_reducible rfl
        try simp only [Act.put, List.setIfInBounds_toArray, List.set_cons_zero, List.set_cons_succ]
        refine tail_take2 4 rfl (by kernel_rfl) (by kernel_rfl) (by kernel_rfl) (by decide) (fun _ _ _ h => h) (by rfl) (v := ?_) ?_ (by assumption) ?_
        rotate_left 1
        · intro w' hS'; obtain ⟨c0, c1, c2, c3, c4, c5⟩ := hS'; go_simp; try with_reducible rfl
        try simp only [Act.put, List.setIfInBounds_toArray, List.set_cons_zero, List.set_cons_succ]
        refine tail_take2 6 rfl (by kernel_rfl) (by kernel_rfl) (by kernel_rfl) (by decide) (fun _ _ _ h => h) (by rfl) (v := ?_) ?_ (by assumption) ?_
        rotate_left 1
        · intro w' hS'; obtain ⟨c0, c1, c2, c3, c4, c5⟩ := hS'; go_simp; try with_reducible rfl
        try simp only [Act.put, List.setIfInBounds_toArray, List.set_cons_zero, List.set_cons_succ]
        refine tail_take2 7 rfl (by kernel_rfl) (by kernel_rfl) (by kernel_rfl) (by decide) (fun _ _ _ h => h) (by rfl) (v := ?_) ?_ (by assumption) ?_
        rotate_left 1
        · intro w' hS'; obtain ⟨c0, c1, c2, c3, c4, c5⟩ := hS'; go_simp; try with_reducible rfl
        try simp only [Act.put, List.setIfInBounds_toArray, List.set_cons_zero, List.set_cons_succ]
        refine tail_take2 8 rfl (by kernel_rfl) (by kernel_rfl) (by kernel_rfl) (by decide) (fun _ _ _ h => h) (by rfl) (v := ?_) ?_ (by assumption) ?_
        rotate_left 1
        · intro w' hS'; obtain ⟨c0, c1, c2, c3, c4, c5⟩ := hS'; go_simp; try with_reducible rfl
        try simp only [Act.put, List.setIfInBounds_toArray, List.set_cons_zero, List.set_cons_succ]
        refine tail_call 5 rfl (by kernel_rfl) rfl (fun K hK => ?_)
        go_simp
        go_at_call 62; refine (specMost h1 h2 h4 (show f ≤ fb by omega) (show fb ≤ N by omega) _ os _ HMO2.out.drew).mono ?_; rintro e w3 ⟨M, rfl, hM15, hMa, hMe, hb3⟩; have HX3 := hide (HXr.out.drew.next hb3); have hb3' : Below wr.heap.size wr w3 := ⟨hb3.os, hb3.tape, hb3.output, hb3.size, hb3.block⟩; have HB3 := hide (HBL.out.trans (hb3'.mono HBL.out.size)); clear hb3'; have HMA := hide hMa; have HME := hide hMe; clear hb3 hMa hMe
        refine hK.out _ _ (by (try dsimp only); exact HX3.out.cells) (fun hS' => ?_)
        clear hK K
        try simp only [Act.put, List.setIfInBounds_toArray, List.set_cons_zero, List.set_cons_succ]
        refine tail_take2 9 rfl (by kernel_rfl) (by kernel_rfl) (by kernel_rfl) (by decide) (fun _ _ _ h => h) (by rfl) (v := ?_) ?_ (by assumption) ?_
        rotate_left 1
        · intro w' hS'; obtain ⟨c0, c1, c2, c3, c4, c5⟩ := hS'; go_simp; try with_reducible rfl
        try simp only [Act.put, List.setIfInBounds_toArray, List.set_cons_zero, List.set_cons_succ]
        refine tail_end (by kernel_rfl) ?_
        have hwT : IntKind.i64.wrap (T : Int) = (T : Int) := IntWalk.i64_in _ ⟨by omega, by omega⟩
        by_cases hMT : T < M
        · have hz1 : ((T : Int) < (M : Int)) := by omega
          have hbe : b = BU + 1 := by
            have : ¬ b ≤ BU := fun hb' => by
              obtain ⟨k', hk', hM'⟩ := HME.out
              have := HBF.out k' f b hk' hb'
              rw [HFB.out] at this
              omega
            omega
          have hw2 : IntKind.i64.wrap ((b : Int) - 1) = (BU : Int) := by rw [IntWalk.i64_in _ ⟨by omega, by omega⟩]; omega
          go_wp2_with fail
          go_ret2
          exact ⟨rfl, HX3.out.2⟩
        · have hz1 : ¬ ((T : Int) < (M : Int)) := by omega
          go_wp2_with fail
          go_roundw
          case rel => exact ⟨f + 1, by omega, by go_num, (fun s hs k' hk' => by
            by_cases hsf : s < f
            · have := HALL.out s hsf k' hk'; have := HT.out; omega
            · obtain rfl : s = f := by omega
              have h1' := HMA.out k' hk'
              rw [← HFB.out] at h1'
              have := HT.out
              omega), HB3.out⟩
          case measure => simp [intOf]; omega
      · have hw1 : IntKind.i64.wrap ((f : Int) + (b : Int)) = (f : Int) + (b : Int) := by rw [IntWalk.i64_in _ ⟨by omega, by omega⟩]
        have hz1 : ¬ ((f : Int) + (b : Int) ≤ (N : Int)) := by omega
        have hbB : b ≤ BU := by
          rcases Nat.lt_or_ge BU b with hh | hh
          · obtain ⟨k', s, hk', hs, hsn⟩ := HBM.out
            have hbb : b = BU + 1 := by omega
            have := HALL.out s (by omega) k' hk'
            rw [hbb] at this
            omega
          · exact hh
        go_wp2_with fail
        go_roundw
        case rel => exact ⟨b + 1, by omega, by rw [HBU.out]; omega, by go_num, HBL.out⟩
        case measure => simp [intOf]; omega
end Go.Proofs.Ytkdpkbnhckpnoaa
