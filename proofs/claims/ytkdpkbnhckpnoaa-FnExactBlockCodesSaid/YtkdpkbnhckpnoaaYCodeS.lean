/-
  What the walk of the law of BlockCodes needs: slices of codes compared, marked and looked at.
  Condition: at most 10000 codes.
-/
import Derived.Test.YtkdpkbnhckpnoaaLay8
import Derived.Test.YtkdpkbnhckpnoaaYLaw
namespace Go.Proofs.Ytkdpkbnhckpnoaa
open Go.RowKit
set_option linter.unusedSimpArgs false
set_option linter.unusedVariables false

set_option maxRecDepth 100000 in
set_option maxHeartbeats 2000000 in
theorem eqField_same (x y z : Int) (w : World) :
    Calls Try.prog 89 #[.agg #[.int .i64 x, .int .i64 y, .int .i64 z], .agg #[.int .i64 x, .int .i64 y, .int .i64 z]] w (Gives (.bool true) w) := by
  have e1 : (x != x) = false := by simp
  have e2 : (y != y) = false := by simp
  have e3 : (z != z) = false := by simp
  go_enter Try.func89, Try.ntmps89
  go_wp2_with fail
  go_ret
  exact ⟨rfl, ((Below.refl _ _).alloc (Nat.le_refl _) _).alloc (by rw [alloc_size]; omega) _⟩
set_option maxRecDepth 100000 in
set_option maxHeartbeats 2000000 in
theorem eqCode_same (x y z l c : Int) (w : World) :
    Calls Try.prog 58 #[.agg #[.int .i64 x, .int .i64 y, .int .i64 z, .int .i64 l, .int .i64 c], .agg #[.int .i64 x, .int .i64 y, .int .i64 z, .int .i64 l, .int .i64 c]] w (Gives (.bool true) w) := by
  have e1 : (l != l) = false := by simp
  have e2 : (c != c) = false := by simp
  obtain ⟨w0, hw0⟩ : ∃ w0, w0 = (w.alloc (.cells #[.int .i64 x, .int .i64 y, .int .i64 z, .int .i64 l, .int .i64 c] 43)).alloc (.cells #[.int .i64 x, .int .i64 y, .int .i64 z, .int .i64 l, .int .i64 c] 43) := ⟨_, rfl⟩
  have hs : w0.heap.size = w.heap.size + 2 := by rw [hw0, alloc_size, alloc_size]
  have r1 : w0.heap[w.heap.size]? = some (.cells #[.int .i64 x, .int .i64 y, .int .i64 z, .int .i64 l, .int .i64 c] 43 (0, 0)) := by rw [hw0]; exact row_up (heap_alloc_new w _) _
  have r2 : w0.heap[w.heap.size + 1]? = some (.cells #[.int .i64 x, .int .i64 y, .int .i64 z, .int .i64 l, .int .i64 c] 43 (0, 0)) := by
    rw [hw0]; have h1 := heap_alloc_new (w.alloc (.cells #[.int .i64 x, .int .i64 y, .int .i64 z, .int .i64 l, .int .i64 c] 43)) (.cells #[.int .i64 x, .int .i64 y, .int .i64 z, .int .i64 l, .int .i64 c] 43); rw [alloc_size] at h1; exact h1
  have HB := hide (show Below w.heap.size w w0 by rw [hw0]; exact ((Below.refl _ _).alloc (Nat.le_refl _) _).alloc (by rw [alloc_size]; omega) _)
  have HR1 := hide r1
  have HR2 := hide r2
  have HW := hide hw0
  have HS := hide hs
  clear r1 r2 hw0 hs
  go_enter Try.func58, Try.ntmps58
  go_wp2_with fail
  rw [← HW.out]
  refine (eqField_same x y z w0).mono ?_
  rintro e w1 ⟨rfl, hb⟩
  obtain ⟨a0, a1, a2, a3, a4, _, _, _, _, _⟩ := row5 (show w1.heap[w.heap.size]? = _ by rw [hb.block _ (by rw [HS.out]; omega)]; exact HR1.out)
  obtain ⟨b0, b1, b2, b3, b4, _, _, _, _, _⟩ := row5 (show w1.heap[w.heap.size + 1]? = _ by rw [hb.block _ (by rw [HS.out]; omega)]; exact HR2.out)
  have HB1 := hide (HB.out.trans (hb.mono (by rw [HS.out]; omega)))
  clear hb HW HR1 HR2 HB
  go_wp2_with fail
  go_ret
  exact ⟨rfl, HB1.out⟩

def EcRel (w : World) (n : Nat) (i : Value) (wr : World) : Prop := ∃ j : Nat, j ≤ n ∧ i = .int .i64 j ∧ Below w.heap.size w wr
theorem cells5 {w wr : World} {base g c n i : Nat} {f : Nat → Int} (h : OwnC w base (.slice (some ⟨g, 0, none⟩) n c) n f) (hi : i < n) (hb : Below w.heap.size w wr) :
    wr.cell? ⟨g, i * 5, none⟩ = some (.int .i64 (f (i * 5))) ∧ wr.cell? ⟨g, i * 5 + 1, none⟩ = some (.int .i64 (f (i * 5 + 1))) ∧ wr.cell? ⟨g, i * 5 + 2, none⟩ = some (.int .i64 (f (i * 5 + 2))) ∧ wr.cell? ⟨g, i * 5 + 3, none⟩ = some (.int .i64 (f (i * 5 + 3))) ∧ wr.cell? ⟨g, i * 5 + 4, none⟩ = some (.int .i64 (f (i * 5 + 4))) := by
  have h' := h.next hb
  exact ⟨h'.cell (by omega), h'.cell (by omega), h'.cell (by omega), h'.cell (by omega), h'.cell (by omega)⟩

set_option maxRecDepth 100000 in
set_option maxHeartbeats 2000000 in
theorem eqCodes_same (v v' : Value) (n base base' : Nat) (f : Nat → Int) (w : World) (h : OwnC w base v n f) (h' : OwnC w base' v' n f) (hn : n ≤ 10000) :
    Calls Try.prog 24 #[v, v'] w (Gives (.bool true) w) := by
  rcases Nat.eq_zero_or_pos n with rfl | hn0
  · obtain ⟨A, c, rfl, _⟩ := h.form0
    obtain ⟨A', c', rfl, _⟩ := h'.form0
    clear h h'
    go_enter Try.func24, Try.ntmps24
    go_wp2_with fail
    go_loopw [5] (fun i wr => EcRel w 0 i wr) (fun i _ => 0 - (intOf i).toNat)
    case atStart => exact ⟨0, Nat.le_refl _, rfl, Below.refl _ _⟩
    case round =>
      obtain ⟨j, hj, rfl, hb⟩ := hrel
      obtain rfl : j = 0 := by omega
      have HB := hide hb
      clear hb
      go_wp2_with fail
      go_ret
      exact ⟨rfl, HB.out⟩
  · obtain ⟨g, c, rfl, _⟩ := h.form hn0
    obtain ⟨g', c', rfl, _⟩ := h'.form hn0
    have HO := hide h
    have HO' := hide h'
    clear h h'
    go_enter Try.func24, Try.ntmps24
    go_wp2_with fail
    go_loopw [5] (fun i wr => EcRel w n i wr) (fun i _ => n - (intOf i).toNat)
    case atStart => exact ⟨0, Nat.zero_le _, rfl, Below.refl _ _⟩
    case round =>
      obtain ⟨i, hi, rfl, hb⟩ := hrel
      have HB := hide hb
      clear hb
      by_cases hlt : i < n
      · have hC := cells5 HO.out hlt HB.out
        have hC' := cells5 HO'.out hlt HB.out
        have HC := hide hC
        have HC' := hide hC'
        obtain ⟨a0, a1, a2, a3, a4⟩ := hC
        obtain ⟨b0, b1, b2, b3, b4⟩ := hC'
        obtain ⟨x0, hx0⟩ : ∃ x, f (i * 5) = x := ⟨_, rfl⟩
        obtain ⟨x1, hx1⟩ : ∃ x, f (i * 5 + 1) = x := ⟨_, rfl⟩
        obtain ⟨x2, hx2⟩ : ∃ x, f (i * 5 + 2) = x := ⟨_, rfl⟩
        obtain ⟨x3, hx3⟩ : ∃ x, f (i * 5 + 3) = x := ⟨_, rfl⟩
        obtain ⟨x4, hx4⟩ : ∃ x, f (i * 5 + 4) = x := ⟨_, rfl⟩
        rw [hx0] at a0 b0 HC HC'
        have HX0 := hide hx0
        rw [hx1] at a1 b1 HC HC'
        have HX1 := hide hx1
        rw [hx2] at a2 b2 HC HC'
        have HX2 := hide hx2
        rw [hx3] at a3 b3 HC HC'
        have HX3 := hide hx3
        rw [hx4] at a4 b4 HC HC'
        have HX4 := hide hx4
        clear hx0 hx1 hx2 hx3 hx4
        go_wp2_with fail
        go_region_held3 (fun w' => (w'.cell? ⟨g, i * 5, none⟩ = some (.int .i64 x0) ∧ w'.cell? ⟨g, i * 5 + 1, none⟩ = some (.int .i64 x1) ∧ w'.cell? ⟨g, i * 5 + 2, none⟩ = some (.int .i64 x2) ∧ w'.cell? ⟨g, i * 5 + 3, none⟩ = some (.int .i64 x3) ∧ w'.cell? ⟨g, i * 5 + 4, none⟩ = some (.int .i64 x4)) ∧ (w'.cell? ⟨g', i * 5, none⟩ = some (.int .i64 x0) ∧ w'.cell? ⟨g', i * 5 + 1, none⟩ = some (.int .i64 x1) ∧ w'.cell? ⟨g', i * 5 + 2, none⟩ = some (.int .i64 x2) ∧ w'.cell? ⟨g', i * 5 + 3, none⟩ = some (.int .i64 x3) ∧ w'.cell? ⟨g', i * 5 + 4, none⟩ = some (.int .i64 x4)))
          (first
            | exact ⟨HC.out, HC'.out⟩
            | exact HCC.out)
          ((go_at_call 58; refine (eqCode_same x0 x1 x2 x3 x4 _).mono ?_; rintro e w2 ⟨rfl, hb2⟩; have HB2 := hide (HB.out.drew.trans (hb2.mono HB.out.drew.size)); have HCC := hide (show _ ∧ _ from ⟨by have q := cells5 HO.out hlt HB2.out; rw [HX0.out, HX1.out, HX2.out, HX3.out, HX4.out] at q; exact q, by have q := cells5 HO'.out hlt HB2.out; rw [HX0.out, HX1.out, HX2.out, HX3.out, HX4.out] at q; exact q⟩); clear hb2))
        go_wp2_with fail
        go_roundw
        case rel => exact ⟨i + 1, by omega, by go_num, HB2.out⟩
        case measure => simp [intOf]; omega
      · obtain rfl : i = n := by omega
        go_wp2_with fail
        go_ret
        exact ⟨rfl, HB.out⟩

/-- The marks laid so far. -/
def mkT (k0 : Nat) (f : Nat → Int) (j i : Nat) : Int := if i < j then ((k0 + i : Nat) : Int) else f i
theorem mkT_step (k0 : Nat) (f : Nat → Int) (i : Nat) : (fun j => if j = i * 5 + 4 then ((k0 + (i * 5 + 4) : Nat) : Int) else if j = i * 5 + 3 then ((k0 + (i * 5 + 3) : Nat) : Int) else if j = i * 5 + 2 then ((k0 + (i * 5 + 2) : Nat) : Int) else if j = i * 5 + 1 then ((k0 + (i * 5 + 1) : Nat) : Int) else if j = i * 5 then ((k0 + i * 5 : Nat) : Int) else mkT k0 f (i * 5) j) = mkT k0 f ((i + 1) * 5) := by
  funext j
  unfold mkT
  split
  · subst j; rw [if_pos (by omega)]
  · split
    · subst j; rw [if_pos (by omega)]
    · split
      · subst j; rw [if_pos (by omega)]
      · split
        · subst j; rw [if_pos (by omega)]
        · split
          · subst j; rw [if_pos (by omega)]
          · by_cases hj : j < i * 5
            · rw [if_pos hj, if_pos (by omega)]
            · rw [if_neg hj, if_neg (by omega)]
def McRel (w : World) (base g c n k0 : Nat) (f : Nat → Int) (i k : Value) (wr : World) : Prop :=
  ∃ j : Nat, j ≤ n ∧ i = .int .i64 j ∧ k = .int .i64 (k0 + j * 5 : Nat) ∧ OwnC wr base (.slice (some ⟨g, 0, none⟩) n c) n (mkT k0 f (j * 5)) ∧ w.grownBy wr (some g)

set_option maxRecDepth 100000 in
set_option maxHeartbeats 4000000 in
theorem markCodes (v : Value) (n base k0 : Nat) (k : Int) (hk : k = (k0 : Nat)) (f : Nat → Int) (w : World) (h : OwnC w base v n f) (hn : n ≤ 10000) (hk0 : k0 ≤ 1099511627776) :
    Calls Try.prog 25 #[v, .int .i64 k] w fun x w' => x = .returned (.int .i64 (k0 + n * 5 : Nat)) ∧ OwnC w' base v n (fun i => ((k0 + i : Nat) : Int)) ∧ w.grownBy w' v.ownBlock := by
  subst hk
  rcases Nat.eq_zero_or_pos n with rfl | hn0
  · have h' : OwnC w base v 0 (fun i => ((k0 + i : Nat) : Int)) := h.congr fun i hi => by omega
    obtain ⟨A, c, rfl, _⟩ := h.form0
    have HO := hide h'
    clear h h'
    go_enter Try.func25, Try.ntmps25
    go_wp2_with fail
    go_loopw [5, 1] (fun i k wr => i = .int .i64 (0 : Nat) ∧ k = .int .i64 (k0 : Nat) ∧ w = wr) (fun i _ _ => 0)
    case atStart => exact ⟨rfl, rfl, rfl⟩
    case round =>
      obtain ⟨rfl, rfl, rfl⟩ := hrel
      go_wp2_with fail
      go_ret
      exact ⟨ret_int (by omega), HO.out, World.grownBy.refl w _⟩
  · obtain ⟨g, c, rfl, hg1, hg2, _⟩ := h.form hn0
    have HO := hide (show OwnC w base (.slice (some ⟨g, 0, none⟩) n c) n (mkT k0 f (0 * 5)) from h.congr fun i hi => by unfold mkT; rw [if_neg (by omega)])
    clear h
    go_enter Try.func25, Try.ntmps25
    go_wp2_with fail
    go_loopw [5, 1] (fun i k wr => McRel w base g c n k0 f i k wr) (fun i _ _ => n - (intOf i).toNat)
    case atStart => exact ⟨0, Nat.zero_le _, rfl, rfl, HO.out, World.grownBy.refl w _⟩
    case round =>
      clear HO
      obtain ⟨i, hi, rfl, rfl, ho, hg⟩ := hrel
      have HO := hide ho
      have HG := hide hg
      clear ho hg
      by_cases hlt : i < n
      · have f0 := HO.out.frozen (i * 5)
        have f1 := HO.out.frozen (i * 5 + 1)
        have f2 := HO.out.frozen (i * 5 + 2)
        have f3 := HO.out.frozen (i * 5 + 3)
        have f4 := HO.out.frozen (i * 5 + 4)
        have z0 := HO.out.cell (i := i * 5) (by omega)
        have z1 := HO.out.cell (i := i * 5 + 1) (by omega)
        have z2 := HO.out.cell (i := i * 5 + 2) (by omega)
        have z3 := HO.out.cell (i := i * 5 + 3) (by omega)
        have z4 := HO.out.cell (i := i * 5 + 4) (by omega)
        obtain ⟨t, ht⟩ : ∃ t : Nat, k0 + i * 5 = t := ⟨_, rfl⟩
        have hst := mkT_step k0 f i
        rw [show k0 + (i * 5 + 4) = t + 4 by omega, show k0 + (i * 5 + 3) = t + 3 by omega, show k0 + (i * 5 + 2) = t + 2 by omega, show k0 + (i * 5 + 1) = t + 1 by omega, ht] at hst
        rw [show ((t + 4 : Nat) : Int) = (t : Int) + 1 + 1 + 1 + 1 by omega, show ((t + 3 : Nat) : Int) = (t : Int) + 1 + 1 + 1 by omega, show ((t + 2 : Nat) : Int) = (t : Int) + 1 + 1 by omega, show ((t + 1 : Nat) : Int) = (t : Int) + 1 by omega] at hst
        obtain ⟨q1, q2⟩ := HO.out.put5 (i := i * 5) (t : Int) ((t : Int) + 1) ((t : Int) + 1 + 1) ((t : Int) + 1 + 1 + 1) ((t : Int) + 1 + 1 + 1 + 1)
        rw [hst] at q1
        rw [ht]
        have HT := hide (show k0 + (i + 1) * 5 = t + 5 by omega)
        have ht64 : t ≤ 1099511727776 := by omega
        have Q1 := hide q1
        have Q2 := hide q2
        clear q1 q2 hst ht
        go_wp2_with fail
        go_roundw
        case rel => exact ⟨i + 1, by omega, by go_num, by rw [HT.out]; go_num, Q1.out, grown_trans HG.out Q2.out⟩
        case measure => simp [intOf]; omega
      · obtain rfl : i = n := by omega
        have HF := hide (HO.out.congr (f' := fun j => ((k0 + j : Nat) : Int)) fun j hj => by unfold mkT; rw [if_pos hj])
        go_wp2_with fail
        go_ret
        exact ⟨rfl, HF.out, HG.out⟩

def HcRel (n k0 : Nat) (i k : Value) : Prop := ∃ j : Nat, j ≤ n ∧ i = .int .i64 j ∧ k = .int .i64 (k0 + j * 5 : Nat)
set_option maxRecDepth 100000 in
set_option maxHeartbeats 4000000 in
theorem heldCodes (v : Value) (n base k0 : Nat) (k : Int) (hk : k = (k0 : Nat)) (w : World) (h : OwnC w base v n (fun i => ((k0 + i : Nat) : Int))) (hn : n ≤ 10000) (hk0 : k0 ≤ 1099511627776) :
    Calls Try.prog 26 #[v, .int .i64 k] w fun x w' => x = .returned (.int .i64 (k0 + n * 5 : Nat)) ∧ w = w' := by
  subst hk
  rcases Nat.eq_zero_or_pos n with rfl | hn0
  · obtain ⟨A, c, rfl, _⟩ := h.form0
    clear h
    go_enter Try.func26, Try.ntmps26
    go_wp2_with fail
    go_loop [5, 1] (fun i k => i = .int .i64 (0 : Nat) ∧ k = .int .i64 (k0 : Nat)) (fun i _ => 0)
    case atStart => exact ⟨rfl, rfl⟩
    case round =>
      obtain ⟨rfl, rfl⟩ := hrel
      go_wp2_with fail
      go_ret
      exact ⟨ret_int (by omega), rfl⟩
  · obtain ⟨g, c, rfl, hg1, hg2, _⟩ := h.form hn0
    have HO := hide h
    clear h
    go_enter Try.func26, Try.ntmps26
    go_wp2_with fail
    go_loop [5, 1] (fun i k => HcRel n k0 i k) (fun i _ => n - (intOf i).toNat)
    case atStart => exact ⟨0, Nat.zero_le _, rfl, rfl⟩
    case round =>
      obtain ⟨i, hi, rfl, rfl⟩ := hrel
      by_cases hlt : i < n
      · have z0 := HO.out.cell (i := i * 5) (by omega)
        have z1 := HO.out.cell (i := i * 5 + 1) (by omega)
        have z2 := HO.out.cell (i := i * 5 + 2) (by omega)
        have z3 := HO.out.cell (i := i * 5 + 3) (by omega)
        have z4 := HO.out.cell (i := i * 5 + 4) (by omega)
        obtain ⟨t, ht⟩ : ∃ t : Nat, k0 + i * 5 = t := ⟨_, rfl⟩
        rw [ht] at z0 ⊢
        rw [show ((k0 + (i * 5 + 1) : Nat) : Int) = (t : Int) + 1 by omega] at z1
        rw [show ((k0 + (i * 5 + 2) : Nat) : Int) = (t : Int) + 1 + 1 by omega] at z2
        rw [show ((k0 + (i * 5 + 3) : Nat) : Int) = (t : Int) + 1 + 1 + 1 by omega] at z3
        rw [show ((k0 + (i * 5 + 4) : Nat) : Int) = (t : Int) + 1 + 1 + 1 + 1 by omega] at z4
        have HT := hide (show k0 + (i + 1) * 5 = t + 5 by omega)
        have ht64 : t ≤ 1099511727776 := by omega
        have y0 : ((t : Int) != (t : Int)) = false := by simp
        have y1 : ((t : Int) + 1 != (t : Int) + 1) = false := by simp
        have y2 : ((t : Int) + 1 + 1 != (t : Int) + 1 + 1) = false := by simp
        have y3 : ((t : Int) + 1 + 1 + 1 != (t : Int) + 1 + 1 + 1) = false := by simp
        have y4 : ((t : Int) + 1 + 1 + 1 + 1 != (t : Int) + 1 + 1 + 1 + 1) = false := by simp
        clear ht
        go_wp2_with fail
        go_round
        case rel => exact ⟨i + 1, by omega, by go_num, by rw [HT.out]; go_num⟩
        case measure => simp [intOf]; omega
      · obtain rfl : i = n := by omega
        go_wp2_with fail
        go_ret
        exact ⟨rfl, rfl⟩
end Go.Proofs.Ytkdpkbnhckpnoaa
