/-
  What the walk of the law of SplitStream needs: slices of slices compared, marked and looked at.
  Condition: at most 16 rows of at most 1600 numbers.
-/
import Derived.Test.YtkdpkbnhckpnoaaLayL
import Derived.Test.YtkdpkbnhckpnoaaYLaw
import Derived.Test.YtkdpkbnhckpnoaaJH
namespace Go.Proofs.Ytkdpkbnhckpnoaa
open Go.RowKit
set_option linter.unusedSimpArgs false
set_option linter.unusedVariables false

/-- A row holds something else, in its own block. -/
theorem Mat.redo {w w' : World} {base n k : Nat} {v t : Value} {vs : List Value} {Z : Nat → List Int} {zs : List Int} (h : Mat w base v n vs Z) (ht : vs[k]? = some t) (hg : w.grownBy w' t.ownBlock) (hu : Own w' base 2 .i64 t zs) :
    Mat w' base v n vs (fun i => if i = k then zs else Z i) := by
  have ho := h.out k t ht
  have hrz := h.rows.put ht hg hu (.inr (.inl rfl))
  have h4 : vs.set k t = vs := by
    rw [List.getElem?_eq_some_iff] at ht
    obtain ⟨hh, e⟩ := ht
    rw [← e]; exact List.set_getElem_self hh
  rw [h4] at hrz
  exact ⟨World.ownsRow.kept h.row hg ho.2, hrz, h.out⟩

def EsRel7 (w : World) (n : Nat) (i : Value) (wr : World) : Prop := ∃ j : Nat, j ≤ n ∧ i = .int .i64 j ∧ Below w.heap.size w wr
set_option maxRecDepth 100000 in
set_option maxHeartbeats 2000000 in
theorem eqSS_same (v v' : Value) (n base base' : Nat) (vs vs' : List Value) (Z : Nat → List Int) (w : World) (h : Mat w base v n vs Z) (h' : Mat w base' v' n vs' Z) (hn : n ≤ 16) (hZ : ∀ i, (Z i).length ≤ 1600) :
    Calls Try.prog 33 #[v, v'] w (Gives (.bool true) w) := by
  rcases Nat.eq_zero_or_pos n with rfl | hn0
  · obtain ⟨A, c, rfl, _⟩ := h.form0
    obtain ⟨A', c', rfl, _⟩ := h'.form0
    clear h h'
    go_enter Try.func33, Try.ntmps33
    go_wp2_with fail
    go_loopw [5] (fun i wr => EsRel7 w 0 i wr) (fun i _ => 0 - (intOf i).toNat)
    case atStart => exact ⟨0, Nat.le_refl _, rfl, Below.refl _ _⟩
    case round =>
      obtain ⟨j, hj, rfl, hb⟩ := hrel
      obtain rfl : j = 0 := by omega
      have HB := hide hb
      clear hb
      go_wp2_with fail
      go_ret
      exact ⟨rfl, HB.out⟩
  · obtain ⟨g, c, rfl, _⟩ := h.form hn0
    obtain ⟨g', c', rfl, _⟩ := h'.form hn0
    have HO := hide h
    have HO' := hide h'
    have HZ := hide hZ
    clear h h' hZ
    go_enter Try.func33, Try.ntmps33
    go_wp2_with fail
    go_loopw [5] (fun i wr => EsRel7 w n i wr) (fun i _ => n - (intOf i).toNat)
    case atStart => exact ⟨0, Nat.zero_le _, rfl, Below.refl _ _⟩
    case round =>
      obtain ⟨i, hi, rfl, hb⟩ := hrel
      have HB := hide hb
      clear hb
      by_cases hlt : i < n
      · obtain ⟨A1, m1, _, a0, ho1, _⟩ := (HO.out.next HB.out).at_ hlt
        obtain ⟨A2, m2, _, b0, ho2, _⟩ := (HO'.out.next HB.out).at_ hlt
        have hL := HZ.out i
        have HI1 := hide ho1.ints
        have HI2 := hide ho2.ints
        obtain ⟨zs, hzs⟩ : ∃ zs, Z i = zs := ⟨_, rfl⟩
        rw [hzs] at a0 b0 hL HI1 HI2
        obtain ⟨L, hLL⟩ : ∃ L, zs.length = L := ⟨_, rfl⟩
        rw [hLL] at a0 b0 HI1 HI2
        have hzL := hide (show zs.length ≤ 1099511627776 by omega)
        have HC1 := hide a0
        have HC2 := hide b0
        clear ho1 ho2 hzs hLL hL
        go_wp2_with fail
        go_region_held3 (fun w' => w'.cell? ⟨g, i, none⟩ = some (.slice A1 L m1) ∧ w'.cell? ⟨g', i, none⟩ = some (.slice A2 L m2))
          (first
            | exact ⟨HC1.out, HC2.out⟩
            | exact HCC.out)
          ((go_at_call 29; refine (eqSame A1 L m1 _ A2 L m2 _ zs _ HI1.out.drew HI2.out.drew hzL.out).mono ?_; rintro e w2 ⟨rfl, hb2⟩; have HB2 := hide (HB.out.drew.trans (hb2.mono HB.out.drew.size)); have HCC := hide (show _ ∧ _ from ⟨(hb2.cell (p := ⟨g, i, none⟩) (World.block_lt_of_cell? _ _ HC1.out)).trans HC1.out, (hb2.cell (p := ⟨g', i, none⟩) (World.block_lt_of_cell? _ _ HC2.out)).trans HC2.out⟩); clear hb2))
        go_wp2_with fail
        go_roundw
        case rel => exact ⟨i + 1, by omega, by go_num, HB2.out⟩
        case measure => simp [intOf]; omega
      · obtain rfl : i = n := by omega
        go_wp2_with fail
        go_ret
        exact ⟨rfl, HB.out⟩

/-- Where a row's marks begin. -/
def offS (Z : Nat → List Int) : Nat → Nat
  | 0 => 0
  | j + 1 => offS Z j + (Z j).length
theorem offS_le {Z : Nat → List Int} (hZ : ∀ i, (Z i).length ≤ 1600) : ∀ j, offS Z j ≤ j * 1600
  | 0 => Nat.le_refl _
  | j + 1 => by have := offS_le hZ j; have := hZ j; show offS Z j + (Z j).length ≤ _; omega
/-- The rows with the marks. -/
def mkZ (Z : Nat → List Int) (k0 i : Nat) : List Int := marks (k0 + offS Z i) (Z i).length
def MsRel (base : Nat) (v : Value) (vs : List Value) (n k0 : Nat) (Z : Nat → List Int) (w : World) (i k : Value) (wr : World) : Prop :=
  ∃ j : Nat, j ≤ n ∧ i = .int .i64 j ∧ k = .int .i64 (k0 + offS Z j : Nat) ∧ Mat wr base v n vs (fun r => if r < j then mkZ Z k0 r else Z r) ∧ Below base w wr
set_option maxRecDepth 100000 in
set_option maxHeartbeats 4000000 in
theorem markSS (v : Value) (n base k0 : Nat) (k : Int) (hk : k = (k0 : Nat)) (vs : List Value) (Z : Nat → List Int) (w : World) (h : Mat w base v n vs Z) (hbw : base ≤ w.heap.size) (hn : n ≤ 16) (hZ : ∀ i, (Z i).length ≤ 1600) (hk0 : k0 ≤ 1000000) :
    Calls Try.prog 34 #[v, .int .i64 k] w fun x w' => x = .returned (.int .i64 (k0 + offS Z n : Nat)) ∧ Mat w' base v n vs (mkZ Z k0) ∧ Below base w w' := by
  subst hk
  rcases Nat.eq_zero_or_pos n with rfl | hn0
  · obtain ⟨A, c, rfl, _⟩ := h.form0
    have HO := hide (h.congr (Y := mkZ Z k0) fun i hi => by omega)
    clear h
    go_enter Try.func34, Try.ntmps34
    go_wp2_with fail
    go_loopw [5, 1] (fun i k wr => i = .int .i64 (0 : Nat) ∧ k = .int .i64 (k0 : Nat) ∧ w = wr) (fun i _ _ => 0)
    case atStart => exact ⟨rfl, rfl, rfl⟩
    case round =>
      obtain ⟨rfl, rfl, rfl⟩ := hrel
      go_wp2_with fail
      go_ret
      exact ⟨rfl, HO.out, Below.refl _ _⟩
  · obtain ⟨g, c, rfl, _⟩ := h.form hn0
    have HO := hide (h.congr (Y := fun r => if r < 0 then mkZ Z k0 r else Z r) fun i hi => by simp)
    have HZ := hide hZ
    clear h hZ
    go_enter Try.func34, Try.ntmps34
    go_wp2_with fail
    go_loopw [5, 1] (fun i k wr => MsRel base (.slice (some ⟨g, 0, none⟩) n c) vs n k0 Z w i k wr) (fun i _ _ => n - (intOf i).toNat)
    case atStart => exact ⟨0, Nat.zero_le _, rfl, rfl, HO.out, Below.refl _ _⟩
    case round =>
      clear HO
      obtain ⟨i, hi, rfl, rfl, hm, hb⟩ := hrel
      have HM := hide hm
      have HB := hide hb
      clear hm hb
      by_cases hlt : i < n
      · obtain ⟨A1, m1, hvs, a0, ho1, _⟩ := HM.out.at_ hlt
        rw [if_neg (Nat.lt_irrefl i)] at hvs a0 ho1
        have hL := HZ.out i
        have hoff := offS_le HZ.out i
        have HST := hide (show k0 + offS Z (i + 1) = (k0 + offS Z i) + (Z i).length from by show k0 + (offS Z i + (Z i).length) = _; omega)
        have HMK := hide (show mkZ Z k0 i = marks (k0 + offS Z i) (Z i).length from rfl)
        obtain ⟨t, ht⟩ : ∃ t, k0 + offS Z i = t := ⟨_, rfl⟩
        obtain ⟨zs, hzs⟩ : ∃ zs, Z i = zs := ⟨_, rfl⟩
        rw [ht] at HST HMK ⊢
        rw [hzs] at hvs a0 ho1 hL HST HMK
        have HO1 := hide ho1
        have HVS := hide hvs
        have ht40 : t ≤ 1025600 := by omega
        have hls : zs.length ≤ 1600 := hL
        obtain ⟨L, hLL⟩ : ∃ L, zs.length = L := ⟨_, rfl⟩
        rw [hLL] at a0 HST hls
        have HLL := hide hLL
        clear ho1 hvs hzs ht hL hLL hoff
        go_wp2_with fail
        refine (markInts A1 L m1 base t zs wr (by have := HO1.out; rw [HLL.out] at this; exact this) (by rw [← HLL.out] at hls; rw [← HLL.out]; omega) (by omega)).mono ?_
        rintro e w2 ⟨rfl, ho2, hg2⟩
        have HM2 := hide ((HM.out.redo HVS.out (by rw [HLL.out]; exact hg2) (by rw [HLL.out]; exact ho2)).congr (Y := fun r => if r < i + 1 then mkZ Z k0 r else Z r) fun r hr => by
          by_cases h1 : r = i
          · subst h1; simp [HMK.out, HLL.out]
          · by_cases h2 : r < i
            · simp [h1, h2, show r < i + 1 by omega]
            · simp [h1, h2, show ¬ r < i + 1 by omega])
        have HB2 := hide (HB.out.grown hg2 (Nat.le_trans hbw HB.out.size) (fun b hb => (HO1.out.lt (by rw [HLL.out]; exact hb)).1))
        clear ho2 hg2
        go_wp2_with fail
        go_roundw
        case rel => exact ⟨i + 1, by omega, by go_num, by rw [HST.out]; go_num, HM2.out, HB2.out⟩
        case measure => simp [intOf]; omega
      · obtain rfl : i = n := by omega
        have HF := hide (HM.out.congr (Y := mkZ Z k0) fun r hr => by simp [hr])
        go_wp2_with fail
        go_ret
        exact ⟨rfl, HF.out, HB.out⟩
def HsRel7 (n k0 : Nat) (Z : Nat → List Int) (i k : Value) : Prop := ∃ j : Nat, j ≤ n ∧ i = .int .i64 j ∧ k = .int .i64 (k0 + offS Z j : Nat)
set_option maxRecDepth 100000 in
set_option maxHeartbeats 4000000 in
theorem heldSS (v : Value) (n base k0 : Nat) (k : Int) (hk : k = (k0 : Nat)) (vs : List Value) (Z : Nat → List Int) (w : World) (h : Mat w base v n vs (mkZ Z k0)) (hn : n ≤ 16) (hZ : ∀ i, (Z i).length ≤ 1600) (hk0 : k0 ≤ 1000000) :
    Calls Try.prog 35 #[v, .int .i64 k] w fun x w' => x = .returned (.int .i64 (k0 + offS Z n : Nat)) ∧ w = w' := by
  subst hk
  rcases Nat.eq_zero_or_pos n with rfl | hn0
  · obtain ⟨A, c, rfl, _⟩ := h.form0
    clear h
    go_enter Try.func35, Try.ntmps35
    go_wp2_with fail
    go_loop [5, 1] (fun i k => i = .int .i64 (0 : Nat) ∧ k = .int .i64 (k0 : Nat)) (fun i _ => 0)
    case atStart => exact ⟨rfl, rfl⟩
    case round =>
      obtain ⟨rfl, rfl⟩ := hrel
      go_wp2_with fail
      go_ret
      exact ⟨rfl, rfl⟩
  · obtain ⟨g, c, rfl, _⟩ := h.form hn0
    have HO := hide h
    have HZ := hide hZ
    clear h hZ
    go_enter Try.func35, Try.ntmps35
    go_wp2_with fail
    go_loop [5, 1] (fun i k => HsRel7 n k0 Z i k) (fun i _ => n - (intOf i).toNat)
    case atStart => exact ⟨0, Nat.zero_le _, rfl, rfl⟩
    case round =>
      obtain ⟨i, hi, rfl, rfl⟩ := hrel
      by_cases hlt : i < n
      · obtain ⟨A1, m1, hvs, a0, ho1, _⟩ := HO.out.at_ hlt
        have hL := HZ.out i
        have hoff := offS_le HZ.out i
        have HST := hide (show k0 + offS Z (i + 1) = (k0 + offS Z i) + (Z i).length from by show k0 + (offS Z i + (Z i).length) = _; omega)
        have hmk : mkZ Z k0 i = marks (k0 + offS Z i) (Z i).length := rfl
        rw [hmk, marks_len] at a0 ho1
        have HI := hide (ho1.ints' (marks_len _ _))
        obtain ⟨t, ht⟩ : ∃ t, k0 + offS Z i = t := ⟨_, rfl⟩
        rw [ht] at HST HI ⊢
        obtain ⟨L, hLL⟩ : ∃ L, (Z i).length = L := ⟨_, rfl⟩
        rw [hLL] at a0 HST HI hL
        have ht40 : t ≤ 1025600 := by omega
        clear ho1 hvs ht hLL hoff hmk
        go_wp2_with fail
        refine (heldInts A1 L m1 _ t w HI.out (by omega) (by omega)).mono ?_
        rintro e w2 ⟨rfl, rfl⟩
        go_wp2_with fail
        go_round
        case rel => exact ⟨i + 1, by omega, by go_num, by rw [HST.out]; go_num⟩
        case measure => simp [intOf]; omega
      · obtain rfl : i = n := by omega
        go_wp2_with fail
        go_ret
        exact ⟨rfl, rfl⟩
end Go.Proofs.Ytkdpkbnhckpnoaa
