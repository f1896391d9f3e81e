/-
  The contracts of the generator polynomial, values, syndromes and the test of zeros, of the model.
  Condition: the code is valid, and lists are words of it.
-/
import Derived.Test.YtlphodhecaagbaaGreatCode4
import Derived.Test.YtlphodhecaagbaaGreatJG
namespace Go.Proofs.YtlphodhecaagbaaGreat
open Go.RowKit
set_option linter.unusedSimpArgs false
set_option linter.unusedVariables false

section
variable {R : Fld} {γ : El R} {p k g : Int} {l c : Nat}
def SgRel (w : World) (p k g : Int) (l c : Nat) (γ : El R) (v r i : Value) (wr : World) : Prop :=
  ∃ (j : Nat) (x : El R) (Ap : Option Addr) (cp : Nat), j ≤ c ∧ i = .int .i64 j ∧ v = .slice Ap (j + 1) cp ∧ r = .int .i64 (x.val : Nat) ∧ Hid (x = epw γ j) ∧ Own wr (w.heap.size + 1) 2 .i64 (.slice Ap (j + 1) cp) (iv (genP γ j)) ∧ CBox w wr p k g l c

set_option maxRecDepth 100000 in
set_option maxHeartbeats 4000000 in
theorem specGenPoly (h : CodeIs R γ p k g l c) (w : World) :
    Calls Tryz.prog 83 #[.agg #[.int .i64 p, .int .i64 k, .int .i64 g, .int .i64 l, .int .i64 c]] w (NewE (genP γ c) w) := by
  have HX := hide (CBox.start w p k g l c)
  have hc64 := h.c64
  have HXa := hide (HX.out.alloc (.cells #[.int .i64 1] 2))
  have HOa := hide (own_lit1 (w.alloc (.cells #[.int .i64 p, .int .i64 k, .int .i64 g, .int .i64 l, .int .i64 c] 89)) 2 .i64 1)
  rw [alloc_size] at HOa
  go_enter Tryz.func83, Tryz.ntmps83
  go_wp2_with fail
  go_loopw [3, 4, 5] (fun v r i wr => SgRel w p k g l c γ v r i wr) (fun _ _ i _ => c - (intOf i).toNat)
  case atStart => exact ⟨0, 1, _, 1, by omega, rfl, rfl, rfl, rfl, HOa.out, HXa.out⟩
  case round =>
    clear HX HXa HOa
    obtain ⟨j, x, Ap, cp, hj, rfl, rfl, rfl, HR, HO, HX⟩ := hrel
    have HX := hide HX
    have HO := hide HO
    obtain ⟨c0, c1, c2, c3, c4⟩ := HX.out.cells
    by_cases hlt : j < c
    · obtain ⟨y, hy⟩ : ∃ y, y = x * γ := ⟨_, rfl⟩
      have HY := hide hy
      have HR2 := hide (show y = epw γ (j + 1) by rw [hy, HR.out]; rfl)
      have HN := hide (show trim (mulP (genP γ j) (lin y)) = genP γ (j + 1) by rw [HR2.out]; exact trim_id (tr_gen γ (j + 1)))
      have HGL := hide (gen_len γ (j + 1))
      have hwl : w.heap.size + 1 ≤ wr.heap.size := HX.out.lt
      clear hy
      go_wp2_with fail
      go_region_held3 (fun w' => w'.cell? ⟨w.heap.size, 0, none⟩ = some (.int .i64 p) ∧ w'.cell? ⟨w.heap.size, 1, none⟩ = some (.int .i64 k) ∧ w'.cell? ⟨w.heap.size, 2, none⟩ = some (.int .i64 g))
        (first
          | exact ⟨HX.out.drew.cells.1, HX.out.drew.cells.2.1, HX.out.drew.cells.2.2.1⟩
          | exact ⟨HX2.out.cells.1, HX2.out.cells.2.1, HX2.out.cells.2.2.1⟩
          | exact ⟨HX3.out.cells.1, HX3.out.cells.2.1, HX3.out.cells.2.2.1⟩)
        (first
          | (go_at_call 115; refine (specGenerator h.gval _).mono ?_; rintro e w2 ⟨rfl, hb2⟩; have HX2 := hide (HX.out.drew.next hb2); have HO2 := hide (HO.out.drew.below hb2 (Nat.le_refl _)); clear hb2)
          | (go_at_call 96; refine (specMulE h.fld x γ _).mono ?_; rw [← HY.out]; rintro e w3 ⟨rfl, hb3⟩; have HX3 := hide (HX2.out.next hb3); have HO3 := hide (HO2.out.below hb3 (Nat.le_refl _)); clear hb3))
      clear c0 c1 c2 c3 c4
      have hwl3 : w.heap.size + 1 ≤ w3.heap.size := HX3.out.lt
      go_wp2_with fail
      go_region_held3 (fun w' => w'.cell? ⟨w.heap.size, 0, none⟩ = some (.int .i64 p) ∧ w'.cell? ⟨w.heap.size, 1, none⟩ = some (.int .i64 k) ∧ w'.cell? ⟨w.heap.size, 2, none⟩ = some (.int .i64 g))
        (first
          | exact ⟨HX3.out.drew.cells.1, HX3.out.drew.cells.2.1, HX3.out.drew.cells.2.2.1⟩
          | exact ⟨HX4.out.cells.1, HX4.out.cells.2.1, HX4.out.cells.2.2.1⟩
          | exact ⟨(HX4.out.alloc _).cells.1, (HX4.out.alloc _).cells.2.1, (HX4.out.alloc _).cells.2.2.1⟩
          | exact ⟨HX5.out.cells.1, HX5.out.cells.2.1, HX5.out.cells.2.2.1⟩)
        (first
          | (go_at_call 85; refine (specNegE h.fld y _).mono ?_; rintro e w4 ⟨rfl, hb4⟩; have HX4 := hide (HX3.out.drew.next hb4); have HO4 := hide (HO3.out.drew.below hb4 (Nat.le_refl _)); clear hb4)
          | (go_at_call 116; refine (specMulE' h.fld (genP γ j) (lin y) Ap (some ⟨w4.heap.size, 0, none⟩) (j + 1) cp 2 2 (w4.heap.size + 1) _ (by have := (HO4.out.alloc (.cells #[.int .i64 ((-y).val : Int), .int .i64 1] 2)).intsE; rw [alloc_size] at this; exact this) (ints_two w4 2 .i64 ((-y).val : Int) 1) (by rw [alloc_size]; exact Nat.le_refl _) (by omega) (by omega)).mono ?_; rw [HN.out]; rintro e w5 ⟨A5, c5, rfl, hc5, ho5, hb5⟩; rw [HGL.out] at ho5 ⊢; have HX5 := hide ((HX4.out.alloc _).next hb5); have HO5 := hide (ho5.low (base' := w.heap.size + 1) (by have := HX4.out.lt; rw [alloc_size]; omega)); clear ho5 hc5 hb5))
      go_wp2_with fail
      go_roundw
      case rel => exact ⟨j + 1, y, _, c5, by omega, by go_num, rfl, rfl, HR2, HO5.out, HX5.out⟩
      case measure => simp [intOf]; omega
    · obtain rfl : j = c := by omega
      have HGL := hide (gen_len γ j)
      have HF := hide (newE_of (w := w) HO.out HX.out.2 (Nat.le_succ _))
      go_wp2_with fail
      go_ret
      exact HF.out

def SvRel4 (w : World) (p k g L C : Int) (n : Nat) (x : El R) (ws : List (El R)) (v i : Value) (wr : World) : Prop :=
  ∃ (j : Nat) (y : El R), j ≤ n ∧ i = .int .i64 j ∧ v = .int .i64 (y.val : Nat) ∧ Hid (y = ev x (ws.take j).reverse) ∧ CBox w wr p k g L C

set_option maxRecDepth 100000 in
set_option maxHeartbeats 2000000 in
theorem specWordValue (h : FldIs R p k g) (L C : Int) (x : El R) (ws : List (El R)) (A : Option Addr) (n cw B : Nat) (w : World) (hI : Ints .i64 w B A n (iv ws)) (hB : B ≤ w.heap.size) (hn : n ≤ 1099511627776) :
    Calls Tryz.prog 137 #[.agg #[.int .i64 p, .int .i64 k, .int .i64 g, .int .i64 L, .int .i64 C], .slice A n cw, .int .i64 x.val] w (Gives (.int .i64 ((ev x ws.reverse).val : Nat)) w) := by
  have HX := hide (CBox.start w p k g L C)
  have hl : ws.length = n := by rw [← iv_len]; exact hI.len
  have HL := hide hl
  have HI := hide hI
  clear hI hl
  go_enter Tryz.func137, Tryz.ntmps137
  go_wp2_with fail
  go_loopw [7, 8] (fun v i wr => SvRel4 w p k g L C n x ws v i wr) (fun _ i _ => n - (intOf i).toNat)
  case atStart => exact ⟨0, 0, by omega, rfl, rfl, rfl, HX.out⟩
  case round =>
    clear HX
    obtain ⟨j, y, hj, rfl, rfl, HY, HX⟩ := hrel
    have HX := hide HX
    by_cases hlt : j < n
    · obtain ⟨b, off, z, rfl, hb, hz, hc⟩ := (HI.out.below (HX.out.2.mono hB)).at_ hlt
      rw [iv_at (by rw [HL.out]; exact hlt)] at hz
      simp only [Option.some.injEq] at hz
      subst hz
      obtain ⟨u, hu⟩ : ∃ u, u = cf ws j := ⟨_, rfl⟩
      rw [← hu] at hc
      have HN := hide (show y * x + u = ev x (ws.take (j + 1)).reverse by rw [ev_next (by rw [HL.out]; exact hlt), ← HY.out, hu])
      have hbl : b < wr.heap.size := Nat.lt_of_lt_of_le hb (Nat.le_trans hB (Nat.le_of_lt HX.out.lt))
      have HC := hide hc
      clear hu hc
      go_wp2_with fail
      go_region_held3 (fun w' => w'.cell? ⟨w.heap.size, 0, none⟩ = some (.int .i64 p) ∧ w'.cell? ⟨w.heap.size, 1, none⟩ = some (.int .i64 k) ∧ w'.cell? ⟨w.heap.size, 2, none⟩ = some (.int .i64 g) ∧ w'.cell? ⟨b, off + j, none⟩ = some (.int .i64 (u.val : Int)))
        (first
          | exact ⟨HX.out.drew.cells.1, HX.out.drew.cells.2.1, HX.out.drew.cells.2.2.1, HC.out⟩
          | exact ⟨HX2.out.cells.1, HX2.out.cells.2.1, HX2.out.cells.2.2.1, HC2.out⟩
          | exact ⟨HX3.out.cells.1, HX3.out.cells.2.1, HX3.out.cells.2.2.1, HC3.out⟩)
        (first
          | (go_at_call 96; refine (specMulE h y x _).mono ?_; rintro e w2 ⟨rfl, hb2⟩; have HX2 := hide (HX.out.drew.next hb2); have HC2 := hide ((hb2.cell (p := ⟨b, off + j, none⟩) hbl).trans HC.out); have hbl2 : b < w2.heap.size := Nat.lt_of_lt_of_le hbl hb2.size; clear hb2)
          | (go_at_call 112; refine (specAddE h (y * x) u _).mono ?_; rintro e w3 ⟨rfl, hb3⟩; have HX3 := hide (HX2.out.next hb3); have HC3 := hide ((hb3.cell (p := ⟨b, off + j, none⟩) hbl2).trans HC2.out); clear hb3))
      go_wp2_with fail
      go_roundw
      case rel => exact ⟨j + 1, y * x + u, by omega, by go_num, rfl, HN, HX3.out⟩
      case measure => simp [intOf]; omega
    · have HF := hide (show y = ev x ws.reverse by
        have h1 := HY.out
        rwa [List.take_of_length_le (by rw [HL.out]; omega)] at h1)
      go_wp2_with fail
      go_ret
      exact ⟨ret_int (by rw [HF.out]), HX.out.2⟩

def SsRel (w : World) (p k g : Int) (l c : Nat) (γ : El R) (ws : List (El R)) (v r i : Value) (wr : World) : Prop :=
  ∃ (j : Nat) (x : El R), j ≤ c ∧ i = .int .i64 j ∧ r = .int .i64 (x.val : Nat) ∧ Hid (x = epw γ j) ∧ Own wr (w.heap.size + 1) 2 .i64 v (iv (tab j fun i => ev (epw γ (i + 1)) ws.reverse)) ∧ CBox w wr p k g l c

set_option maxRecDepth 100000 in
set_option maxHeartbeats 4000000 in
theorem specSyndromes (h : CodeIs R γ p k g l c) (ws : List (El R)) (A : Option Addr) (n cm B : Nat) (w : World) (hI : Ints .i64 w B A n (iv ws)) (hB : B ≤ w.heap.size) (hn : n ≤ 1099511627776) :
    Calls Tryz.prog 107 #[.agg #[.int .i64 p, .int .i64 k, .int .i64 g, .int .i64 l, .int .i64 c], .slice A n cm] w (NewE (synW γ c ws) w) := by
  have HX := hide (CBox.start w p k g l c)
  have hc64 := h.c64
  have HI := hide hI
  have HXa := hide (HX.out.alloc (.cells #[] 2))
  have HOa := hide (Own.lit0 (w.alloc (.cells #[.int .i64 p, .int .i64 k, .int .i64 g, .int .i64 l, .int .i64 c] 89)) 2 .i64)
  rw [alloc_size] at HOa
  clear hI
  go_enter Tryz.func107, Tryz.ntmps107
  go_wp2_with fail
  go_loopw [5, 6, 7] (fun v r i wr => SsRel w p k g l c γ ws v r i wr) (fun _ _ i _ => c - (intOf i).toNat)
  case atStart => exact ⟨0, 1, by omega, rfl, rfl, rfl, HOa.out, HXa.out⟩
  case round =>
    clear HX HXa HOa
    obtain ⟨v, rfl⟩ : ∃ v : Value, v = u5 := ⟨_, rfl⟩
    obtain ⟨j, x, hj, rfl, rfl, HR, HO, HX⟩ := hrel
    have HX := hide HX
    have HO := hide HO
    obtain ⟨c0, c1, c2, c3, c4⟩ := HX.out.cells
    by_cases hlt : j < c
    · obtain ⟨y, hy⟩ : ∃ y, y = x * γ := ⟨_, rfl⟩
      have HY := hide hy
      have HR2 := hide (show y = epw γ (j + 1) by rw [hy, HR.out]; rfl)
      have hwl : w.heap.size + 1 ≤ wr.heap.size := HX.out.lt
      obtain ⟨z, hz⟩ : ∃ z, z = ev y ws.reverse := ⟨_, rfl⟩
      have HZ := hide hz
      have HN := hide (show iv (tab j fun i => ev (epw γ (i + 1)) ws.reverse) ++ [(z.val : Int)] = iv (tab (j + 1) fun i => ev (epw γ (i + 1)) ws.reverse) by rw [tab_snoc, iv_app, iv_one, hz, HR2.out])
      have hlen : (iv (tab j fun i => ev (epw γ (i + 1)) ws.reverse)).length + 1 ≤ 1000 := by rw [iv_len, tab_len]; omega
      clear hy hz
      go_wp2_with fail
      go_region_held3 (fun w' => w'.cell? ⟨w.heap.size, 0, none⟩ = some (.int .i64 p) ∧ w'.cell? ⟨w.heap.size, 1, none⟩ = some (.int .i64 k) ∧ w'.cell? ⟨w.heap.size, 2, none⟩ = some (.int .i64 g))
        (first
          | exact ⟨HX.out.drew.cells.1, HX.out.drew.cells.2.1, HX.out.drew.cells.2.2.1⟩
          | exact ⟨HX2.out.cells.1, HX2.out.cells.2.1, HX2.out.cells.2.2.1⟩
          | exact ⟨HX3.out.cells.1, HX3.out.cells.2.1, HX3.out.cells.2.2.1⟩)
        (first
          | (go_at_call 115; refine (specGenerator h.gval _).mono ?_; rintro e w2 ⟨rfl, hb2⟩; have HX2 := hide (HX.out.drew.next hb2); have HO2 := hide (HO.out.drew.below hb2 (Nat.le_refl _)); clear hb2)
          | (go_at_call 96; refine (specMulE h.fld x γ _).mono ?_; rw [← HY.out]; rintro e w3 ⟨rfl, hb3⟩; have HX3 := hide (HX2.out.next hb3); have HO3 := hide (HO2.out.below hb3 (Nat.le_refl _)); clear hb3))
      clear c0 c1 c2 c3 c4
      obtain ⟨c0, c1, c2, c3, c4⟩ := HX3.out.cells
      go_wp2_with fail
      refine (specWordValue h.fld l c y ws A n cm B w3 (HI.out.below (HX3.out.2.mono hB)) (Nat.le_trans hB (Nat.le_of_lt HX3.out.lt)) hn).mono ?_
      rw [← HZ.out]
      rintro e w4 ⟨rfl, hb4⟩
      have HX4 := hide (HX3.out.next hb4)
      have HO4 := hide (HO3.out.below hb4 (Nat.le_refl _))
      have hwl4 : w.heap.size + 1 ≤ w4.heap.size := HX4.out.lt
      have HVB := hide (show ∀ b, v.ownBlock = some b → w.heap.size < b from fun b hb => (HO4.out.lt hb).1)
      clear hb4 c0 c1 c2 c3 c4
      go_wp2_with (at_builtin; refine wpList_app1 w4 rfl _ _ _ rfl elem64 (w.heap.size + 1) v _ rfl HO4.out (z.val : Int) rfl (by omega) hwl4 ?_; intro v5 w5 hown hgrow)
      rw [HN.out] at hown
      have HO5 := hide hown
      have HX5 := hide (HX4.out.grow hgrow HVB.out)
      clear hown hgrow
      go_wp2_with fail
      go_roundw
      case rel => exact ⟨j + 1, y, by omega, by go_num, rfl, HR2, HO5.out, HX5.out⟩
      case measure => simp [intOf]; omega
    · obtain rfl : j = c := by omega
      have HF := hide (newE_of (w := w) (ps := synW γ j ws) HO.out HX.out.2 (Nat.le_succ _))
      go_wp2_with fail
      go_ret
      exact HF.out

set_option maxHeartbeats 1000000 in
theorem specZeroL (ps : List (El R)) (A : Option Addr) (n c B : Nat) (w : World) (hI : Ints .i64 w B A n (iv ps)) (hn : n ≤ 1099511627776) :
    Calls Tryz.prog 113 #[.slice A n c] w fun e w' => e = .returned (.bool (zeroL ps)) ∧ w = w' := by
  have hl : ps.length = n := by rw [← iv_len]; exact hI.len
  have HL := hide hl
  have HI := hide hI
  clear hI hl
  go_enter Tryz.func113, Tryz.ntmps113
  go_wp2_with fail
  go_loop [3] (fun i => ∃ j : Nat, j ≤ n ∧ i = .int .i64 j ∧ Hid (∀ i, i < j → cf ps i = 0)) (fun i => n - (intOf i).toNat)
  case atStart => exact ⟨0, by omega, rfl, fun i hi => absurd hi (by omega)⟩
  case round =>
    obtain ⟨j, hj, rfl, HA⟩ := hrel
    by_cases hlt : j < n
    · obtain ⟨b, off, x, rfl, hb, hx, hc⟩ := HI.out.at_ hlt
      rw [iv_at (by rw [HL.out]; exact hlt)] at hx
      simp only [Option.some.injEq] at hx
      subst hx
      by_cases hz : cf ps j = 0
      · have HN := hide (show ∀ i, i < j + 1 → cf ps i = 0 by
          intro i hi
          rcases Nat.lt_or_ge i j with h1 | h1
          · exact HA.out i h1
          · obtain rfl : i = j := by omega
            exact hz)
        rw [hz] at hc
        clear hz
        go_wp2_with fail
        go_round
        case rel => exact ⟨j + 1, by omega, by go_num, HN⟩
        case measure => simp [intOf]; omega
      · have HF := hide (show zeroL ps = false from zeroL_no hz)
        have hv : ((((cf ps j).val : Nat) : Int) != 0) = true := by have := val_ne hz; simp; omega
        clear hz
        go_wp2_with fail
        go_ret
        exact ⟨ret_bool HF.out, rfl⟩
    · have HF := hide (show zeroL ps = true from zeroL_of fun i hi => HA.out i (by rw [HL.out] at hi; omega))
      go_wp2_with fail
      go_ret
      exact ⟨ret_bool HF.out, rfl⟩
end
end Go.Proofs.YtlphodhecaagbaaGreat
