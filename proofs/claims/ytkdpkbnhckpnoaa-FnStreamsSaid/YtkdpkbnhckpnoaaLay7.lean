/-
  StreamIndex of the model; IsLayout and StreamIndex, the model's and the program's answer.
  Condition: none.
-/
import Derived.Test.YtkdpkbnhckpnoaaLay5
import Derived.Test.YtkdpkbnhckpnoaaLay6
namespace Go.Proofs.Ytkdpkbnhckpnoaa
open Go.RowKit
set_option linter.unusedSimpArgs false
set_option linter.unusedVariables false

/-- A row of the model's order, read. -/
theorem Mat.pair_at {w : World} {base n g c i D C : Nat} {vs : List Value} (h : Mat w base (.slice (some ⟨g, 0, none⟩) n c) n vs (ordZ D C)) (hi : i < n) :
    ∃ (b m : Nat), w.cell? ⟨g, i, none⟩ = some (.slice (some ⟨b, 0, none⟩) 2 m) ∧ w.cell? ⟨b, 0, none⟩ = some (.int .i64 ((pairOf D C i).1 : Nat)) ∧ w.cell? ⟨b, 1, none⟩ = some (.int .i64 ((pairOf D C i).2 : Nat)) ∧ 2 ≤ m ∧ base ≤ b ∧ b < w.heap.size := by
  obtain ⟨A, m, h1, h2, h3, h4⟩ := h.at_ hi
  obtain ⟨b, m', h5, h6, h7, h8⟩ := h3.some_ (show 0 < 2 by decide)
  simp only [Value.slice.injEq] at h5
  obtain ⟨rfl, _, rfl⟩ := h5
  exact ⟨b, m, h2, h3.cellAt (j := 0) rfl, h3.cellAt (j := 1) rfl, h4, h6, h7⟩

/-- What StreamIndex answers. -/
def SiPost (D C K : Nat) (b e : Int) (w : World) (x : Ending) (w' : World) : Prop :=
  ((∃ i, i < D + C * K ∧ atI D C b e i = true ∧ x = .returned (.tuple #[.int .i64 (i : Nat), .int .i64 0])) ∨ ((∀ i, i < D + C * K → atI D C b e i = false) ∧ x = .returned (.tuple #[.int .i64 0, .int .i64 2]))) ∧ Below w.heap.size w w'
def SsiRel (N D C : Nat) (b e : Int) (i9 : Value) : Prop := ∃ i : Nat, i ≤ N ∧ i9 = .int .i64 i ∧ Hid (∀ j, j < i → atI D C b e j = false)

set_option maxRecDepth 100000 in
set_option maxHeartbeats 4000000 in
theorem specSI (R : Fld) (γ : El R) (p k g : Int) (D K C : Nat) (b e : Int) (h : LayIs R γ p k g D K C) (w : World) :
    Calls Try.prog 27 #[.agg #[.int .i64 p, .int .i64 k, .int .i64 g, .int .i64 D, .int .i64 K, .int .i64 C], .int .i64 b, .int .i64 e] w (SiPost D C K b e w) := by
  have h1 := h.c1; have h2 := h.c16; have h3 := h.cd; have h4 := h.tot; have h5 := h.k1; have h6 := h.d1500
  have HV := hide (fun w' => specIsLayout p k g D K C w')
  rw [layB_is h] at HV
  have HX := hide (YBox.start w p k g D K C)
  obtain ⟨c0, c1, c2, c3, c4, c5⟩ := HX.out.cells
  clear h
  go_enter Try.func27, Try.ntmps27
  go_wp2_with fail
  refine (HV.out _).mono ?_
  rintro x w1 ⟨rfl, hb1⟩
  have HX1 := hide (HX.out.next hb1)
  clear hb1 c0 c1 c2 c3 c4 c5 HX
  obtain ⟨c0, c1, c2, c3, c4, c5⟩ := HX1.out.cells
  go_wp2_with fail
  refine (specOrder p k g D K C h1 h2 h3 (by omega) h4 w1).mono ?_
  rintro x w2 ⟨v, vs, rfl, hm, hb2⟩
  have HX2 := hide (HX1.out.next hb2)
  obtain ⟨N, hN⟩ : ∃ N, D + C * K = N := ⟨_, rfl⟩
  have HN := hide hN
  rw [hN] at hm h4
  have hN0 : 0 < N := by omega
  obtain ⟨gv, cv, rfl, hgv1, hgv2, hgv3⟩ := hm.form hN0
  have HM := hide hm
  clear hb2 hm hN c0 c1 c2 c3 c4 c5
  go_wp2_with fail
  go_loop [9] (fun i9 => SsiRel N D C b e i9) (fun i9 => N - (intOf i9).toNat)
  case atStart => exact ⟨0, Nat.zero_le _, rfl, fun j hj => by omega⟩
  case round =>
    obtain ⟨i, hi, rfl, HA⟩ := hrel
    by_cases hlt : i < N
    · obtain ⟨rb, rm, d0, d1, d2, hrm, hrb1, hrb2⟩ := HM.out.pair_at hlt
      obtain ⟨px, hpx⟩ : ∃ q, (pairOf D C i).1 = q := ⟨_, rfl⟩
      obtain ⟨py, hpy⟩ : ∃ q, (pairOf D C i).2 = q := ⟨_, rfl⟩
      have HPX := hide hpx
      have HPY := hide hpy
      rw [hpx] at d1
      rw [hpy] at d2
      clear hpx hpy
      rcases hb : decide ((px : Int) = b) with _ | _
      · have hb' : ((px : Int) == b) = false := hb
        have HF := hide (show atI D C b e i = false by rw [atI, HPX.out, hb]; rfl)
        have HA2 := hide (show ∀ j, j < i + 1 → atI D C b e j = false from fun j hj => by
          rcases Nat.lt_or_ge j i with hh | hh
          · exact HA.out j hh
          · rw [show j = i by omega]; exact HF.out)
        clear hb
        go_wp2_with fail
        go_round
        case rel => exact ⟨i + 1, by omega, by go_num, HA2.out⟩
        case measure => simp [intOf]; omega
      · rcases he : decide ((py : Int) = e) with _ | _
        · have hb' : ((px : Int) == b) = true := hb
          have he' : ((py : Int) == e) = false := he
          have HF := hide (show atI D C b e i = false by rw [atI, HPX.out, hb, HPY.out, he]; rfl)
          have HA2 := hide (show ∀ j, j < i + 1 → atI D C b e j = false from fun j hj => by
            rcases Nat.lt_or_ge j i with hh | hh
            · exact HA.out j hh
            · rw [show j = i by omega]; exact HF.out)
          clear hb he
          go_wp2_with fail
          go_round
          case rel => exact ⟨i + 1, by omega, by go_num, HA2.out⟩
          case measure => simp [intOf]; omega
        · have hb' : ((px : Int) == b) = true := hb
          have he' : ((py : Int) == e) = true := he
          have HF := hide (show SiPost D C K b e w (.returned (.tuple #[.int .i64 (i : Nat), .int .i64 0])) w2 from ⟨.inl ⟨i, by rw [HN.out]; exact hlt, by rw [atI, HPX.out, hb, HPY.out, he]; rfl, rfl⟩, HX2.out.2⟩)
          clear hb he
          go_wp2_with fail
          go_ret2
          exact HF.out
    · obtain rfl : i = N := by omega
      have HF := hide (show SiPost D C K b e w (.returned (.tuple #[.int .i64 0, .int .i64 2])) w2 from ⟨.inr ⟨by rw [HN.out]; exact HA.out, rfl⟩, HX2.out.2⟩)
      go_wp2_with fail
      go_ret2
      exact HF.out

/-- A function of a layout: its contract. -/
def E0 (f : Nat) (p k g D K C : Int) (Post : World → Ending → World → Prop) : Prop :=
  ∀ w : World, Calls Try.prog f #[.agg #[.int .i64 p, .int .i64 k, .int .i64 g, .int .i64 D, .int .i64 K, .int .i64 C]] w (Post w)
def E0ii (f : Nat) (p k g D K C x y : Int) (Post : World → Ending → World → Prop) : Prop :=
  ∀ w : World, Calls Try.prog f #[.agg #[.int .i64 p, .int .i64 k, .int .i64 g, .int .i64 D, .int .i64 K, .int .i64 C], .int .i64 x, .int .i64 y] w (Post w)
theorem isLay_both (p k g D K C : Int) (hD : -9223372036854775808 ≤ D ∧ D ≤ 9223372036854775807) (hC : -9223372036854775808 ≤ C ∧ C ≤ 9223372036854775807) :
    ∃ b : Bool, E0 17 p k g D K C (Gives (.bool b)) ∧ E0 16 p k g D K C (Gives (.bool b)) :=
  ⟨_, fun w => specIsLayout p k g D K C w, fun w => implIsLayout p k g D K C w hC hD⟩

set_option maxRecDepth 100000 in
set_option maxHeartbeats 2000000 in
theorem specSI_bad (p k g D K C : Int) (b e : Int) (h : layB p k g D K C = false) (w : World) :
    Calls Try.prog 27 #[.agg #[.int .i64 p, .int .i64 k, .int .i64 g, .int .i64 D, .int .i64 K, .int .i64 C], .int .i64 b, .int .i64 e] w (GivesII 0 1 w) := by
  have HV := hide (fun w' => specIsLayout p k g D K C w')
  rw [h] at HV
  have HX := hide (YBox.start w p k g D K C)
  obtain ⟨c0, c1, c2, c3, c4, c5⟩ := HX.out.cells
  clear h
  go_enter Try.func27, Try.ntmps27
  go_wp2_with fail
  refine (HV.out _).mono ?_
  rintro x w1 ⟨rfl, hb1⟩
  have HX1 := hide (HX.out.next hb1)
  clear hb1 c0 c1 c2 c3 c4 c5 HX
  go_wp2_with fail
  go_ret2
  exact ⟨rfl, HX1.out.2⟩
theorem si_both (p k g D K C b e : Int) (hD : -9223372036854775808 ≤ D ∧ D ≤ 9223372036854775807) (hC : -9223372036854775808 ≤ C ∧ C ≤ 9223372036854775807) :
    ∃ v cd : Int, E0ii 27 p k g D K C b e (GivesII v cd) ∧ E0ii 21 p k g D K C b e (GivesII v cd) := by
  rcases hv : layB p k g D K C with _ | _
  · exact ⟨0, 1, fun w => specSI_bad p k g D K C b e hv w, fun w => implSI_bad p k g D K C b e hv hD hC w⟩
  · obtain ⟨R, γ, d, c, m, rfl, rfl, rfl, hI⟩ := layB_open hv
    have put : ∀ {w x w'}, SiPost d m c b e w x w' → (∀ i, i < d + m * c → atI d m b e i = true → GivesII (i : Nat) 0 w x w') ∧ ((∀ i, i < d + m * c → atI d m b e i = false) → GivesII 0 2 w x w') := by
      rintro w x w' ⟨(⟨i, hi, ha, rfl⟩ | ⟨hn, rfl⟩), hb⟩
      · refine ⟨fun j hj hja => ?_, fun hh => by rw [hh i hi] at ha; cases ha⟩
        rw [atI_one hI.c1 hja ha]
        exact ⟨rfl, hb⟩
      · exact ⟨fun j hj hja => (by rw [hn j hj] at hja; cases hja), fun _ => ⟨rfl, hb⟩⟩
    by_cases hex : ∃ i, i < d + m * c ∧ atI d m b e i = true
    · obtain ⟨i, hi, ha⟩ := hex
      exact ⟨(i : Nat), 0, fun w => (specSI R γ p k g d c m b e hI w).mono fun x w' hh => (put hh).1 i hi ha, fun w => (implSI R γ p k g d c m b e hI w).mono fun x w' hh => (put hh).1 i hi ha⟩
    · have hall : ∀ i, i < d + m * c → atI d m b e i = false := fun i hi => by
        rcases hh : atI d m b e i with _ | _
        · rfl
        · exact absurd ⟨i, hi, hh⟩ hex
      exact ⟨0, 2, fun w => (specSI R γ p k g d c m b e hI w).mono fun x w' hh => (put hh).2 hall, fun w => (implSI R γ p k g d c m b e hI w).mono fun x w' hh => (put hh).2 hall⟩
end Go.Proofs.Ytkdpkbnhckpnoaa
