/-
  Fitting: the model's function, and both contracts side by side.
  Condition: none.
-/
import Derived.Test.YthafkohopkgckaaPFitA
import Derived.Test.YthafkohopkgckaaPBoth1
namespace Go.Proofs.Ythafkohopkgckaa
open Go.RowKit
set_option linter.unusedSimpArgs false
set_option linter.unusedVariables false

section
variable {R : Fld} {p k g : Int}
def DoRel (w : World) (p k g : Int) (n : Nat) (zs : List Int) (i : Value) (wr : World) : Prop :=
  ∃ j : Nat, j ≤ n ∧ i = .int .i64 j ∧ Box w wr 25 p k g
def DnRel (w : World) (p k g : Int) (j : Nat) (zs : List Int) (i : Value) (wr : World) : Prop :=
  ∃ l : Nat, l ≤ j ∧ i = .int .i64 l ∧ Box w wr 25 p k g
def SmRel (w : World) (p k g : Int) (m : Nat) (xs ys : List (El R)) (u i : Value) (wr : World) : Prop :=
  ∃ (j : Nat) (A : Option Addr) (n c : Nat) (out : List (El R)), j ≤ m ∧ i = .int .i64 j ∧ u = .slice A n c ∧ Own wr (w.heap.size + 1) 2 .i64 (.slice A n c) (iv out) ∧ Hid (Summed xs ys j out) ∧ n ≤ 100 ∧ Box w wr 25 p k g
def TeRel (w : World) (p k g : Int) (m i : Nat) (xs : List (El R)) (Ao : Option Addr) (no co : Nat) (out : List (El R)) (u v l : Value) (wr : World) : Prop :=
  ∃ (j : Nat) (A : Option Addr) (n c : Nat) (term : List (El R)) (under : El R), j ≤ m ∧ l = .int .i64 j ∧ u = .slice A n c ∧ v = .int .i64 (under.val : Int) ∧ Own wr (w.heap.size + 1) 2 .i64 (.slice A n c) (iv term) ∧ Own wr (w.heap.size + 1) 2 .i64 (.slice Ao no co) (iv out) ∧ Hid (Term xs i j term under) ∧ n ≤ 100 ∧ Box w wr 25 p k g

set_option maxRecDepth 100000 in
set_option maxHeartbeats 8000000 in
theorem specFitE (h : FldIs R p k g) (hf : fieldB p k g = true) (xs ys fit rooted : List (El R)) (ha : Apart xs) (hfit : Fitted xs ys xs.length fit rooted) (A A' : Option Addr) (m c c' B : Nat) (w : World) (hI : Ints .i64 w B A m (iv xs)) (hJ : Ints .i64 w B A' m (iv ys)) (hB : B ≤ w.heap.size) (hm : m ≤ 64) :
    Calls Try.prog 41 #[.agg #[.int .i64 p, .int .i64 k, .int .i64 g], .slice A m c, .slice A' m c'] w (NewIK (iv fit) 0 w) := by
  have HX := hide (Box.start w 25 p k g)
  have HXM := hide (show xs.length = m by rw [← iv_len]; exact hI.len)
  have HYM := hide (show ys.length = m by rw [← iv_len]; exact hJ.len)
  have HAX := hide (iv_all xs)
  have HAY := hide (iv_all ys)
  have HI := hide hI
  have HJ := hide hJ
  have HA := hide ha
  have HFT := hide hfit
  have HB := hide hf
  have h64 : decide (64 < m) = false := by simp; omega
  clear hI hJ ha hfit hf
  go_enter Try.func41, Try.ntmps41
  go_wp2_with fail
  refine (specIsField p k g _).mono ?_
  rw [HB.out]
  rintro e w1 ⟨rfl, hb⟩
  have HX1 := hide (HX.out.next hb)
  obtain ⟨c0, c1, c2⟩ := HX1.out.cells
  clear hb
  go_wp2_with fail
  refine (specIs h.kind A m c B (iv xs) _ (HI.out.below (HX1.out.2.mono hB)) (Nat.le_trans hB (Nat.le_of_lt HX1.out.lt)) (by omega)).mono ?_
  rw [HAX.out]
  rintro e w2 ⟨rfl, hb⟩
  have HX2 := hide (HX1.out.next hb)
  clear hb c0 c1 c2
  obtain ⟨c0, c1, c2⟩ := HX2.out.cells
  go_wp2_with fail
  refine (specIs h.kind A' m c' B (iv ys) _ (HJ.out.below (HX2.out.2.mono hB)) (Nat.le_trans hB (Nat.le_of_lt HX2.out.lt)) (by omega)).mono ?_
  rw [HAY.out]
  rintro e w3 ⟨rfl, hb⟩
  have HX3 := hide (HX2.out.next hb)
  clear hb c0 c1 c2
  go_wp2_with fail
  go_loopw [8] (fun i wr => DoRel w p k g m (iv xs) i wr) (fun i _ => m - (intOf i).toNat)
  case atStart => exact ⟨0, by omega, rfl, HX3.out⟩
  case round =>
    clear HX HX1 HX2 HX3
    obtain ⟨wo, rfl⟩ : ∃ wo : World, wo = wr := ⟨_, rfl⟩
    obtain ⟨j, hj, rfl, HX⟩ := hrel
    have HX := hide HX
    by_cases hlt : j < m
    · go_wp2_with fail
      go_loopw [9] (fun i wr => DnRel w p k g j (iv xs) i wr) (fun i _ => j - (intOf i).toNat)
      case atStart => exact ⟨0, by omega, rfl, HX.out⟩
      case round =>
        clear HX
        obtain ⟨l, hl, rfl, HX⟩ := hrel
        have HX := hide HX
        by_cases hlj : l < j
        · have hlm : l < m := by omega
          obtain ⟨b, off, x, rfl, hb, hx, hc⟩ := (HI.out.below (HX.out.2.mono hB)).at_ hlt
          obtain ⟨b', off', x', hA', hb', hx', hc'⟩ := (HI.out.below (HX.out.2.mono hB)).at_ hlm
          rw [iv_at (by rw [HXM.out]; omega)] at hx hx'
          simp only [Option.some.injEq] at hx hx' hA'
          simp only [Addr.mk.injEq, and_true] at hA'
          obtain ⟨rfl, rfl⟩ := hA'
          have hne : x ≠ x' := by
            intro e
            refine HA.out l j hlj (by rw [HXM.out]; exact hlt) (El.eq ?_)
            rw [e, ← hx'] at hx
            omega
          have e0 : (x == x') = false := by simpa using hne
          have z0 : (0 : Int) ≤ (j : Int) := by omega
          have z1 : (j : Int) < (m : Int) := by omega
          have z2 : (0 : Int) ≤ (l : Int) := by omega
          have z3 : (l : Int) < (m : Int) := by omega
          clear hx hx' hne
          go_wp2_with fail
          go_quiet (fail)
          go_wp2_with fail
          go_roundw
          case rel => exact ⟨l + 1, by omega, by go_num, HX.out.drewN _⟩
          case measure => simp [intOf]; omega
        · have hd : decide (l < j) = false := by simpa using hlj
          clear hlj
          go_wp2_with fail
          go_roundw
          case rel => exact ⟨j + 1, by omega, by go_num, HX.out⟩
          case measure => simp [intOf]; omega
    · have hd : decide (j < m) = false := by simpa using hlt
      clear hlt
      have HXs := hide (HX.out.alloc (.cells #[] 2))
      have HOs := hide ((Own.lit0 wo 2 .i64).low (base' := w.heap.size + 1) HX.out.lt)
      go_wp2_with fail
      go_loopw [10, 11] (fun u i wr => SmRel w p k g m xs ys u i wr) (fun _ i _ => m - (intOf i).toNat)
      case atStart => exact ⟨0, _, 0, 0, [], by omega, rfl, rfl, HOs.out, summed_0 xs ys, by omega, HXs.out⟩
      case round =>
        clear HX HXs HOs hd hj
        obtain ⟨i, Ao, no, co, out, hi, rfl, rfl, HO, HS, hno, HX⟩ := hrel
        have HX := hide HX
        have HO := hide HO
        by_cases hlt : i < m
        · have hl1 := own_one wr 2 .i64 1
          have HL1 := hide (hl1.low (base' := w.heap.size + 1) HX.out.lt)
          have HXs := hide (HX.out.alloc (.cells #[.int .i64 1] 2))
          have HOs := hide (HO.out.alloc (.cells #[.int .i64 1] 2))
          clear hl1
          go_wp2_with fail
          go_loopw [12, 13, 14] (fun u v l wr => TeRel w p k g m i xs Ao no co out u v l wr) (fun _ _ l _ => m - (intOf l).toNat)
          case atStart => exact ⟨0, _, 1, 1, [1], 1, by omega, rfl, rfl, rfl, HL1.out, HOs.out, term_0 xs i, by omega, HXs.out⟩
          case round =>
            clear HX HO HXs HOs HL1
            obtain ⟨l, At, nt, ct, term, under, hl, rfl, rfl, rfl, HT, HO, HTM, hnt, HX⟩ := hrel
            have HX := hide HX
            have HO := hide HO
            have HT := hide HT
            obtain ⟨b, off, xi, rfl, hb, hx, hc⟩ := (HI.out.below (HX.out.2.mono hB)).at_ hlt
            rw [iv_at (by rw [HXM.out]; omega)] at hx
            simp only [Option.some.injEq] at hx
            subst hx
            obtain ⟨Xi, hXi⟩ : ∃ Xi, Xi = cf xs i := ⟨_, rfl⟩
            rw [← hXi] at hc
            by_cases hlm : l < m
            · by_cases hli : l = i
              · have hTS := HTM.out
                rw [hli] at hTS
                have HTS := hide (term_skip hTS)
                have e0 : ((l : Int) != (i : Int)) = false := by simp [hli]
                have HLI := hide hli
                clear hli hTS hXi hc hb
                go_wp2_with fail
                go_roundw
                case rel => exact ⟨l + 1, _, _, _, term, under, by omega, by go_num, rfl, rfl, HT.out, HO.out, by rw [HLI.out]; exact HTS, hnt, HX.out⟩
                case measure => simp [intOf]; omega
              · have HTS := hide (term_step HA.out (by rw [HXM.out]; exact hlt) (by rw [HXM.out]; exact hlm) hli HTM.out)
                have e0 : ((l : Int) != (i : Int)) = true := by simp; omega
                obtain ⟨b2, off2, xl, hA2, hb2, hx2, hc2⟩ := (HI.out.below (HX.out.2.mono hB)).at_ hlm
                rw [iv_at (by rw [HXM.out]; omega)] at hx2
                simp only [Option.some.injEq, Addr.mk.injEq, and_true] at hx2 hA2
                obtain ⟨rfl, rfl⟩ := hA2
                subst hx2
                obtain ⟨Xl, hXl⟩ : ∃ Xl, Xl = cf xs l := ⟨_, rfl⟩
                rw [← hXl] at hc2 HTS
                rw [← hXi] at HTS
                have HCI := hide hc
                have HCL := hide hc2
                have hbl : b < wr.heap.size := Nat.lt_of_lt_of_le hb (Nat.le_trans hB (Nat.le_of_lt HX.out.lt))
                have hTL : (trim (mulP term (lin Xl))).length ≤ 100 := by
                  have h1 := HTS.out.len
                  split at h1 <;> omega
                clear hli hXi hXl hc hc2 hb hb2
                go_wp2_with fail
                go_region_held3 (fun w' => w'.cell? ⟨w.heap.size, 0, none⟩ = some (.int .i64 p) ∧ w'.cell? ⟨w.heap.size, 1, none⟩ = some (.int .i64 k) ∧ w'.cell? ⟨w.heap.size, 2, none⟩ = some (.int .i64 g) ∧ w'.cell? ⟨b, off + l, none⟩ = some (.int .i64 (Xl.val : Int)))
                  (first
                    | exact ⟨HX.out.drew.cells.1, HX.out.drew.cells.2.1, HX.out.drew.cells.2.2, HCL.out⟩
                    | exact ⟨HX4.out.cells.1, HX4.out.cells.2.1, HX4.out.cells.2.2, HCL4.out⟩
                    | exact ⟨HX4a.out.cells.1, HX4a.out.cells.2.1, HX4a.out.cells.2.2, HCL4a.out⟩
                    | exact ⟨HX5.out.cells.1, HX5.out.cells.2.1, HX5.out.cells.2.2, HCL5.out⟩)
                  (first
                    | (go_at_call 84; refine (specNegE h Xl _).mono ?_; rintro e w4 ⟨rfl, hb4⟩; have HX4 := hide (HX.out.drew.next hb4); have HT4 := hide (HT.out.drew.below hb4 (Nat.le_refl _)); have HO4 := hide (HO.out.drew.below hb4 (Nat.le_refl _)); have HCL4 := hide ((hb4.cell (p := ⟨b, off + l, none⟩) hbl).trans HCL.out); have HCI4 := hide ((hb4.cell (p := ⟨b, off + i, none⟩) hbl).trans HCI.out); have hbl4 := Nat.lt_of_lt_of_le hbl hb4.size; have hba := (Below.refl w4.heap.size w4).alloc (Nat.le_refl _) (.cells #[.int .i64 ((-Xl).val : Int), .int .i64 1] 2); have HX4a := hide (HX4.out.next hba); have HT4a := hide (HT4.out.below hba (Nat.le_refl _)); have HO4a := hide (HO4.out.below hba (Nat.le_refl _)); have HCL4a := hide ((hba.cell (p := ⟨b, off + l, none⟩) hbl4).trans HCL4.out); have HCI4a := hide ((hba.cell (p := ⟨b, off + i, none⟩) hbl4).trans HCI4.out); have HTW := hide (ints_two w4 2 .i64 ((-Xl).val : Int) 1); clear hb4 hba)
                    | (go_at_call 71; refine (specMulE' h term (lin Xl) At (some ⟨w4.heap.size, 0, none⟩) nt ct 2 2 (w4.heap.size + 1) _ (by have := HT4a.out.intsE; rw [alloc_size] at this; exact this) HTW.out (by rw [alloc_size]; exact Nat.le_refl _) (by omega) (by omega)).mono ?_; rintro e w5 ⟨A5, c5, rfl, hc5, ho5, hb5⟩; have HX5 := hide (HX4a.out.next hb5); have HO5 := hide (HO4a.out.below hb5 (Nat.le_refl _)); have HT5 := hide (ho5.low (base' := w.heap.size + 1) HX4a.out.lt); have hbl5 : b < (w4.alloc (.cells #[.int .i64 ((-Xl).val : Int), .int .i64 1] 2)).heap.size := (by rw [alloc_size]; exact Nat.lt_succ_of_lt hbl4); have HCL5 := hide ((hb5.cell (p := ⟨b, off + l, none⟩) hbl5).trans HCL4a.out); have HCI5 := hide ((hb5.cell (p := ⟨b, off + i, none⟩) hbl5).trans HCI4a.out); have hbl6 := Nat.lt_of_lt_of_le hbl5 hb5.size; clear ho5 hb5))
                clear HX HT HO HX4 HT4 HO4 HX4a HT4a HO4a HCL HCI HCL4 HCI4 HCL4a HCI4a HTW
                go_wp2_with fail
                go_region_held3 (fun w' => w'.cell? ⟨w.heap.size, 0, none⟩ = some (.int .i64 p) ∧ w'.cell? ⟨w.heap.size, 1, none⟩ = some (.int .i64 k) ∧ w'.cell? ⟨w.heap.size, 2, none⟩ = some (.int .i64 g) ∧ w'.cell? ⟨b, off + l, none⟩ = some (.int .i64 (Xl.val : Int)) ∧ w'.cell? ⟨b, off + i, none⟩ = some (.int .i64 (Xi.val : Int)))
                  (first
                    | exact ⟨HX5.out.drew.cells.1, HX5.out.drew.cells.2.1, HX5.out.drew.cells.2.2, HCL5.out, HCI5.out⟩
                    | exact ⟨HX6.out.cells.1, HX6.out.cells.2.1, HX6.out.cells.2.2, HCL6.out, HCI6.out⟩
                    | exact ⟨HX7.out.cells.1, HX7.out.cells.2.1, HX7.out.cells.2.2, HCL7.out, HCI7.out⟩
                    | exact ⟨HX8.out.cells.1, HX8.out.cells.2.1, HX8.out.cells.2.2, HCL8.out, HCI8.out⟩)
                  (first
                    | (go_at_call 84; refine (specNegE h Xl _).mono ?_; rintro e w6 ⟨rfl, hb6⟩; have HX6 := hide (HX5.out.drew.next hb6); have HT6 := hide (HT5.out.drew.below hb6 (Nat.le_refl _)); have HO6 := hide (HO5.out.drew.below hb6 (Nat.le_refl _)); have HCL6 := hide ((hb6.cell (p := ⟨b, off + l, none⟩) hbl6).trans HCL5.out); have HCI6 := hide ((hb6.cell (p := ⟨b, off + i, none⟩) hbl6).trans HCI5.out); have hbl7 := Nat.lt_of_lt_of_le hbl6 hb6.size; clear hb6)
                    | (go_at_call 61; refine (specAddE h Xi (-Xl) _).mono ?_; rintro e w7 ⟨rfl, hb7⟩; have HX7 := hide (HX6.out.next hb7); have HT7 := hide (HT6.out.below hb7 (Nat.le_refl _)); have HO7 := hide (HO6.out.below hb7 (Nat.le_refl _)); have HCL7 := hide ((hb7.cell (p := ⟨b, off + l, none⟩) hbl7).trans HCL6.out); have HCI7 := hide ((hb7.cell (p := ⟨b, off + i, none⟩) hbl7).trans HCI6.out); have hbl8 := Nat.lt_of_lt_of_le hbl7 hb7.size; clear hb7)
                    | (go_at_call 85; refine (specMulE h under (Xi + -Xl) _).mono ?_; rintro e w8 ⟨rfl, hb8⟩; have HX8 := hide (HX7.out.next hb8); have HT8 := hide (HT7.out.below hb8 (Nat.le_refl _)); have HO8 := hide (HO7.out.below hb8 (Nat.le_refl _)); have HCL8 := hide ((hb8.cell (p := ⟨b, off + l, none⟩) hbl8).trans HCL7.out); have HCI8 := hide ((hb8.cell (p := ⟨b, off + i, none⟩) hbl8).trans HCI7.out); clear hb8))
                clear HX5 HT5 HO5 HX6 HT6 HO6 HX7 HT7 HO7 HCL5 HCI5 HCL6 HCI6 HCL7 HCI7 HCL8 HCI8
                go_wp2_with fail
                go_roundw
                case rel => exact ⟨l + 1, _, _, _, _, _, by omega, by go_num, rfl, rfl, HT8.out, HO8.out, HTS, hTL, HX8.out⟩
                case measure => simp [intOf]; omega
            · have hd : decide (l < m) = false := by simpa using hlm
              have hlm' : l = m := by omega
              have hTM := HTM.out
              rw [hlm', ← HXM.out] at hTM
              obtain ⟨b3, off3, yi, rfl, hb3, hy3, hc3⟩ := (HJ.out.below (HX.out.2.mono hB)).at_ hlt
              rw [iv_at (by rw [HYM.out]; omega)] at hy3
              simp only [Option.some.injEq] at hy3
              subst hy3
              have HSS := hide (summed_step (by rw [HXM.out]; exact hlt) HS.out hTM)
              obtain ⟨Yi, hYi⟩ : ∃ Yi, Yi = cf ys i := ⟨_, rfl⟩
              rw [← hYi] at hc3 HSS
              have hcl : (addP out (trim (mulP term (trim [Yi * under.inv])))).length ≤ 100 := by have h1 := HSS.out.len; rw [HXM.out] at h1; omega
              have HT1 := hide (show (trim [Yi * under.inv]).length ≤ 1 from trim_le _)
              have HT2 := hide (show (trim (mulP term (trim [Yi * under.inv]))).length ≤ 200 by
                have h1 := trim_le (mulP term (trim [Yi * under.inv]))
                rw [mulP, tab_len] at h1
                have h2 : plen term (trim [Yi * under.inv]) ≤ term.length + 1 := by unfold plen; split <;> (have := HT1.out; omega)
                have h3 := HT.out.len
                rw [iv_len] at h3
                rw [mulP]; omega)
              have HCY := hide hc3
              have hbl : b3 < wr.heap.size := Nat.lt_of_lt_of_le hb3 (Nat.le_trans hB (Nat.le_of_lt HX.out.lt))
              clear hlm hlm' hTM hXi hYi hc hb hc3 hb3
              go_wp2_with fail
              go_region_held3 (fun w' => w'.cell? ⟨w.heap.size, 0, none⟩ = some (.int .i64 p) ∧ w'.cell? ⟨w.heap.size, 1, none⟩ = some (.int .i64 k) ∧ w'.cell? ⟨w.heap.size, 2, none⟩ = some (.int .i64 g) ∧ w'.cell? ⟨b3, off3 + i, none⟩ = some (.int .i64 (Yi.val : Int)))
                (first
                  | exact ⟨HX.out.drew.cells.1, HX.out.drew.cells.2.1, HX.out.drew.cells.2.2, HCY.out⟩
                  | exact ⟨HX4.out.cells.1, HX4.out.cells.2.1, HX4.out.cells.2.2, HCY4.out⟩
                  | exact ⟨HX5.out.cells.1, HX5.out.cells.2.1, HX5.out.cells.2.2, HCY5.out⟩)
                (first
                  | (go_at_call 86; refine (specInvE h under _).mono ?_; rintro e w4 ⟨rfl, hb4⟩; have HX4 := hide (HX.out.drew.next hb4); have HT4 := hide (HT.out.drew.below hb4 (Nat.le_refl _)); have HO4 := hide (HO.out.drew.below hb4 (Nat.le_refl _)); have HCY4 := hide ((hb4.cell (p := ⟨b3, off3 + i, none⟩) hbl).trans HCY.out); have hbl4 := Nat.lt_of_lt_of_le hbl hb4.size; clear hb4)
                  | (go_at_call 85; refine (specMulE h Yi under.inv _).mono ?_; rintro e w5 ⟨rfl, hb5⟩; have HX5 := hide (HX4.out.next hb5); have HT5 := hide (HT4.out.below hb5 (Nat.le_refl _)); have HO5 := hide (HO4.out.below hb5 (Nat.le_refl _)); have HCY5 := hide ((hb5.cell (p := ⟨b3, off3 + i, none⟩) hbl4).trans HCY4.out); clear hb5))
              obtain ⟨Sc, hSc⟩ : ∃ Sc, Sc = Yi * under.inv := ⟨_, rfl⟩
              rw [← hSc] at hcl HSS HT1 HT2 ⊢
              clear HX HT HO HX4 HT4 HO4 HCY HCY4 HCY5 hSc
              go_wp2_with fail
              go_region_held3 (fun w' => w'.cell? ⟨w.heap.size, 0, none⟩ = some (.int .i64 p) ∧ w'.cell? ⟨w.heap.size, 1, none⟩ = some (.int .i64 k) ∧ w'.cell? ⟨w.heap.size, 2, none⟩ = some (.int .i64 g))
                (first
                  | exact ⟨HX5.out.drew.cells.1, HX5.out.drew.cells.2.1, HX5.out.drew.cells.2.2⟩
                  | exact ⟨HX5a.out.cells.1, HX5a.out.cells.2.1, HX5a.out.cells.2.2⟩
                  | exact ⟨HX6.out.cells.1, HX6.out.cells.2.1, HX6.out.cells.2.2⟩
                  | exact ⟨HX7.out.cells.1, HX7.out.cells.2.1, HX7.out.cells.2.2⟩
                  | exact ⟨HX8.out.cells.1, HX8.out.cells.2.1, HX8.out.cells.2.2⟩
                  | exact ⟨(HX5.out.drew.alloc _).cells.1, (HX5.out.drew.alloc _).cells.2.1, (HX5.out.drew.alloc _).cells.2.2⟩)
                (first
                  | (go_at_call 88; have hl1 := own_one w5.drew 2 .i64 (Sc.val : Int); have HX5a := hide (HX5.out.drew.alloc (.cells #[.int .i64 (Sc.val : Int)] 2)); have HT5a := hide (HT5.out.drew.alloc (.cells #[.int .i64 (Sc.val : Int)] 2)); have HO5a := hide (HO5.out.drew.alloc (.cells #[.int .i64 (Sc.val : Int)] 2)); refine (specTrimE _ 1 1 _ [Sc] _ (hl1.intsE (ps := [Sc])) (Nat.le_refl _) (by omega) (Nat.le_refl _)).mono ?_; rintro e w6 ⟨A6, c6, rfl, hc6, ho6, hb6⟩; have HX6 := hide (HX5a.out.next hb6); have HT6 := hide (HT5a.out.below hb6 (Nat.le_refl _)); have HO6 := hide (HO5a.out.below hb6 (Nat.le_refl _)); have HS6 := hide ho6; clear ho6 hb6 hl1)
                  | (go_at_call 71; refine (specMulE' h term (trim [Sc]) At A6 nt ct (trim [Sc]).length c6 w6.heap.size _ HT6.out.intsE HS6.out.intsE (Nat.le_refl _) (by omega) (by have := HT1.out; omega)).mono ?_; rintro e w7 ⟨A7, c7, rfl, hc7, ho7, hb7⟩; have HX7 := hide (HX6.out.next hb7); have HO7 := hide (HO6.out.below hb7 (Nat.le_refl _)); have HT7 := hide ho7; clear ho7 hb7)
                  | (go_at_call 87; refine (specAddE' h out (trim (mulP term (trim [Sc]))) Ao A7 no co (trim (mulP term (trim [Sc]))).length c7 w7.heap.size _ HO7.out.intsE HT7.out.intsE (Nat.le_refl _) (by omega) (by have := HT2.out; omega)).mono ?_; rintro e w8 ⟨A8, c8, rfl, hc8, ho8, hb8⟩; have HX8 := hide (HX7.out.next hb8); have HO8 := hide (ho8.low (base' := w.heap.size + 1) HX7.out.lt); clear ho8 hb8))
              clear HX5 HT5 HO5 HX5a HT5a HO5a HX6 HT6 HO6 HS6 HX7 HO7 HT7
              go_wp2_with fail
              go_roundw
              case rel => exact ⟨i + 1, _, _, _, _, by omega, by go_num, rfl, HO8.out, HSS, hcl, HX8.out⟩
              case measure => simp [intOf]; omega
        · obtain rfl : i = m := by omega
          have HE := hide (show out = fit from fit_same HA.out HFT.out (by rw [HXM.out]; exact HS.out))
          have HF := hide (newIK_of (c := 0) (w := w) HO.out HX.out.2 (Nat.le_succ _))
          rw [HE.out] at HF
          go_wp2_with fail
          go_ret2
          exact HF
end
end Go.Proofs.Ythafkohopkgckaa

namespace Go.Proofs.Ythafkohopkgckaa
open Go.RowKit
set_option linter.unusedSimpArgs false
set_option linter.unusedVariables false

/-- A function of a field and two lists whose memory may be cut: its contract. -/
def C2c (f : Nat) (p k g : Int) (z z' : List Int) (Post : World → Ending → World → Prop) : Prop :=
  ∀ (A : Option Addr) (n c : Nat) (A' : Option Addr) (n' c' B : Nat) (w : World), Ints .i64 w B A n z → Ints .i64 w B A' n' z' → n ≤ c → n' ≤ c' → B ≤ w.heap.size → Calls Try.prog f #[.agg #[.int .i64 p, .int .i64 k, .int .i64 g], .slice A n c, .slice A' n' c'] w (Post w)
theorem apart_iv {R : Fld} {xs : List (El R)} (h : twB (iv xs) = false) : Apart xs := by
  have hd : (iv xs).Nodup := by simpa [twB] using h
  intro i j hij hj e
  rw [List.nodup_iff_pairwise_ne, List.pairwise_iff_getElem] at hd
  refine hd i j (by rw [iv_len]; omega) (by rw [iv_len]; exact hj) hij ?_
  have h1 := iv_at (ps := xs) (i := i) (by omega)
  have h2 := iv_at hj
  rw [List.getElem?_eq_getElem (by rw [iv_len]; omega)] at h1
  rw [List.getElem?_eq_getElem (by rw [iv_len]; exact hj)] at h2
  injection h1 with h1
  injection h2 with h2
  rw [h1, h2, e]
def FoRel (w : World) (p k g : Int) (n : Nat) (zs : List Int) (i : Value) (wr : World) : Prop :=
  ∃ j : Nat, j ≤ n ∧ i = .int .i64 j ∧ Hid ((zs.take j).Nodup) ∧ Box w wr 25 p k g
def FnRel (w : World) (p k g : Int) (j : Nat) (x : Int) (zs : List Int) (i : Value) (wr : World) : Prop :=
  ∃ l : Nat, l ≤ j ∧ i = .int .i64 l ∧ Hid (x ∉ zs.take l) ∧ Box w wr 25 p k g
theorem mem_take {zs : List Int} {l j : Nat} {x : Int} (hx : zs[l]? = some x) (h : l < j) : x ∈ zs.take j := by
  refine List.mem_of_getElem? (i := l) ?_
  rw [List.getElem?_take, if_pos h]; exact hx

set_option maxHeartbeats 4000000 in
theorem fit_1 (p k g : Int) (z z' : List Int) (hz : z.length ≤ 1048576) (hz' : z'.length ≤ 1048576) (hf : fieldB p k g = false) : C2c 41 p k g z z' (NewIK [] 1) ∧ C2c 40 p k g z z' (NewIK [] 1) := by
  refine ⟨?_, ?_⟩
  · intro A n c A' n' c' B w hI hJ hc hc' hB
    have HX := hide (Box.start w 25 p k g)
    have hn : n ≤ 1048576 := by rw [← hI.len]; exact hz
    have hn' : n' ≤ 1048576 := by rw [← hJ.len]; exact hz'
    have hzn : z.length = n := hI.len
    have hzn' : z'.length = n' := hJ.len
    have HI := hide hI
    have HJ := hide hJ
    have HB := hide hf
    clear hI hJ hzn hzn'
    go_enter Try.func41, Try.ntmps41
    go_wp2_with fail
    refine (specIsField p k g _).mono ?_
    rw [HB.out]
    rintro e w1 ⟨rfl, hb⟩
    have HX1 := hide (HX.out.next hb)
    obtain ⟨c0, c1, c2⟩ := HX1.out.cells
    clear hb
    go_wp2_with fail
    go_ret2
    exact newIK_nil HX1.out.2
  · intro A n c A' n' c' B w hI hJ hc hc' hB
    have HX := hide (Box.start w 25 p k g)
    have hn : n ≤ 1048576 := by rw [← hI.len]; exact hz
    have hn' : n' ≤ 1048576 := by rw [← hJ.len]; exact hz'
    have hzn : z.length = n := hI.len
    have hzn' : z'.length = n' := hJ.len
    have HI := hide hI
    have HJ := hide hJ
    have HB := hide hf
    clear hI hJ hzn hzn'
    go_enter Try.func40, Try.ntmps40
    go_wp2_with fail
    refine (implValid p k g _).mono ?_
    rw [HB.out]
    rintro e w1 ⟨rfl, hb⟩
    have HX1 := hide (HX.out.next hb)
    obtain ⟨c0, c1, c2⟩ := HX1.out.cells
    clear hb
    go_wp2_with fail
    go_ret2
    exact newIK_nil HX1.out.2

set_option maxHeartbeats 4000000 in
theorem fit_3 (p k g : Int) (z z' : List Int) (hz : z.length ≤ 1048576) (hz' : z'.length ≤ 1048576) (hf : fieldB p k g = true) (h64 : 64 < z.length) : C2c 41 p k g z z' (NewIK [] 3) ∧ C2c 40 p k g z z' (NewIK [] 3) := by
  refine ⟨?_, ?_⟩
  · intro A n c A' n' c' B w hI hJ hc hc' hB
    have HX := hide (Box.start w 25 p k g)
    have hn : n ≤ 1048576 := by rw [← hI.len]; exact hz
    have hn' : n' ≤ 1048576 := by rw [← hJ.len]; exact hz'
    have hzn : z.length = n := hI.len
    have hzn' : z'.length = n' := hJ.len
    have HI := hide hI
    have HJ := hide hJ
    have HB := hide hf
    have h64' : 64 < n := by omega
    clear hI hJ hzn hzn'
    go_enter Try.func41, Try.ntmps41
    go_wp2_with fail
    refine (specIsField p k g _).mono ?_
    rw [HB.out]
    rintro e w1 ⟨rfl, hb⟩
    have HX1 := hide (HX.out.next hb)
    obtain ⟨c0, c1, c2⟩ := HX1.out.cells
    clear hb
    go_wp2_with fail
    go_ret2
    exact newIK_nil HX1.out.2
  · intro A n c A' n' c' B w hI hJ hc hc' hB
    have HX := hide (Box.start w 25 p k g)
    have hn : n ≤ 1048576 := by rw [← hI.len]; exact hz
    have hn' : n' ≤ 1048576 := by rw [← hJ.len]; exact hz'
    have hzn : z.length = n := hI.len
    have hzn' : z'.length = n' := hJ.len
    have HI := hide hI
    have HJ := hide hJ
    have HB := hide hf
    have h64' : 64 < n := by omega
    clear hI hJ hzn hzn'
    go_enter Try.func40, Try.ntmps40
    go_wp2_with fail
    refine (implValid p k g _).mono ?_
    rw [HB.out]
    rintro e w1 ⟨rfl, hb⟩
    have HX1 := hide (HX.out.next hb)
    obtain ⟨c0, c1, c2⟩ := HX1.out.cells
    clear hb
    go_wp2_with fail
    go_ret2
    exact newIK_nil HX1.out.2

set_option maxHeartbeats 4000000 in
theorem fit_2a (p k g : Int) (z z' : List Int) (hz : z.length ≤ 1048576) (hz' : z'.length ≤ 1048576) (hf : fieldB p k g = true) (h64 : z.length ≤ 64) {R : Fld} (hR : FldIs R p k g) (hx : z.all (elB R.q) = false) : C2c 41 p k g z z' (NewIK [] 2) ∧ C2c 40 p k g z z' (NewIK [] 2) := by
  refine ⟨?_, ?_⟩
  · intro A n c A' n' c' B w hI hJ hc hc' hB
    have HX := hide (Box.start w 25 p k g)
    have hn : n ≤ 1048576 := by rw [← hI.len]; exact hz
    have hn' : n' ≤ 1048576 := by rw [← hJ.len]; exact hz'
    have hzn : z.length = n := hI.len
    have hzn' : z'.length = n' := hJ.len
    have HI := hide hI
    have HJ := hide hJ
    have HB := hide hf
    have h64' : decide ((64 : Int) < (n : Int)) = false := by rw [decide_eq_false_iff_not]; omega
    have HAX := hide hx
    clear hI hJ hzn hzn'
    go_enter Try.func41, Try.ntmps41
    go_wp2_with fail
    refine (specIsField p k g _).mono ?_
    rw [HB.out]
    rintro e w1 ⟨rfl, hb⟩
    have HX1 := hide (HX.out.next hb)
    obtain ⟨c0, c1, c2⟩ := HX1.out.cells
    clear hb
    go_wp2_with fail
    refine (specIs hR.kind A n c B z _ (HI.out.below (HX1.out.2.mono hB)) (Nat.le_trans hB (Nat.le_of_lt HX1.out.lt)) (by omega)).mono ?_
    rw [HAX.out]
    rintro e w2 ⟨rfl, hb⟩
    have HX2 := hide (HX1.out.next hb)
    clear hb c0 c1 c2
    obtain ⟨c0, c1, c2⟩ := HX2.out.cells
    go_wp2_with fail
    go_ret2
    exact newIK_nil HX2.out.2
  · intro A n c A' n' c' B w hI hJ hc hc' hB
    have HX := hide (Box.start w 25 p k g)
    have hn : n ≤ 1048576 := by rw [← hI.len]; exact hz
    have hn' : n' ≤ 1048576 := by rw [← hJ.len]; exact hz'
    have hzn : z.length = n := hI.len
    have hzn' : z'.length = n' := hJ.len
    have HI := hide hI
    have HJ := hide hJ
    have HB := hide hf
    have h64' : decide ((64 : Int) < (n : Int)) = false := by rw [decide_eq_false_iff_not]; omega
    have HAX := hide hx
    clear hI hJ hzn hzn'
    go_enter Try.func40, Try.ntmps40
    go_wp2_with fail
    refine (implValid p k g _).mono ?_
    rw [HB.out]
    rintro e w1 ⟨rfl, hb⟩
    have HX1 := hide (HX.out.next hb)
    obtain ⟨c0, c1, c2⟩ := HX1.out.cells
    clear hb
    go_wp2_with fail
    refine (implHasAll hR.kind A n c B z _ (HI.out.below (HX1.out.2.mono hB)) (Nat.le_trans hB (Nat.le_of_lt HX1.out.lt)) (by omega)).mono ?_
    rw [HAX.out]
    rintro e w2 ⟨rfl, hb⟩
    have HX2 := hide (HX1.out.next hb)
    clear hb c0 c1 c2
    obtain ⟨c0, c1, c2⟩ := HX2.out.cells
    go_wp2_with fail
    go_ret2
    exact newIK_nil HX2.out.2

set_option maxHeartbeats 4000000 in
theorem fit_2b (p k g : Int) (z z' : List Int) (hz : z.length ≤ 1048576) (hz' : z'.length ≤ 1048576) (hf : fieldB p k g = true) (h64 : z.length ≤ 64) {R : Fld} (hR : FldIs R p k g) (hx : z.all (elB R.q) = true) (hy : z'.all (elB R.q) = false) : C2c 41 p k g z z' (NewIK [] 2) ∧ C2c 40 p k g z z' (NewIK [] 2) := by
  refine ⟨?_, ?_⟩
  · intro A n c A' n' c' B w hI hJ hc hc' hB
    have HX := hide (Box.start w 25 p k g)
    have hn : n ≤ 1048576 := by rw [← hI.len]; exact hz
    have hn' : n' ≤ 1048576 := by rw [← hJ.len]; exact hz'
    have hzn : z.length = n := hI.len
    have hzn' : z'.length = n' := hJ.len
    have HI := hide hI
    have HJ := hide hJ
    have HB := hide hf
    have h64' : decide ((64 : Int) < (n : Int)) = false := by rw [decide_eq_false_iff_not]; omega
    have HAX := hide hx
    have HAY := hide hy
    clear hI hJ hzn hzn'
    go_enter Try.func41, Try.ntmps41
    go_wp2_with fail
    refine (specIsField p k g _).mono ?_
    rw [HB.out]
    rintro e w1 ⟨rfl, hb⟩
    have HX1 := hide (HX.out.next hb)
    obtain ⟨c0, c1, c2⟩ := HX1.out.cells
    clear hb
    go_wp2_with fail
    refine (specIs hR.kind A n c B z _ (HI.out.below (HX1.out.2.mono hB)) (Nat.le_trans hB (Nat.le_of_lt HX1.out.lt)) (by omega)).mono ?_
    rw [HAX.out]
    rintro e w2 ⟨rfl, hb⟩
    have HX2 := hide (HX1.out.next hb)
    clear hb c0 c1 c2
    obtain ⟨c0, c1, c2⟩ := HX2.out.cells
    go_wp2_with fail
    refine (specIs hR.kind A' n' c' B z' _ (HJ.out.below (HX2.out.2.mono hB)) (Nat.le_trans hB (Nat.le_of_lt HX2.out.lt)) (by omega)).mono ?_
    rw [HAY.out]
    rintro e w3 ⟨rfl, hb⟩
    have HX3 := hide (HX2.out.next hb)
    clear hb c0 c1 c2
    obtain ⟨c0, c1, c2⟩ := HX3.out.cells
    go_wp2_with fail
    go_ret2
    exact newIK_nil HX3.out.2
  · intro A n c A' n' c' B w hI hJ hc hc' hB
    have HX := hide (Box.start w 25 p k g)
    have hn : n ≤ 1048576 := by rw [← hI.len]; exact hz
    have hn' : n' ≤ 1048576 := by rw [← hJ.len]; exact hz'
    have hzn : z.length = n := hI.len
    have hzn' : z'.length = n' := hJ.len
    have HI := hide hI
    have HJ := hide hJ
    have HB := hide hf
    have h64' : decide ((64 : Int) < (n : Int)) = false := by rw [decide_eq_false_iff_not]; omega
    have HAX := hide hx
    have HAY := hide hy
    clear hI hJ hzn hzn'
    go_enter Try.func40, Try.ntmps40
    go_wp2_with fail
    refine (implValid p k g _).mono ?_
    rw [HB.out]
    rintro e w1 ⟨rfl, hb⟩
    have HX1 := hide (HX.out.next hb)
    obtain ⟨c0, c1, c2⟩ := HX1.out.cells
    clear hb
    go_wp2_with fail
    refine (implHasAll hR.kind A n c B z _ (HI.out.below (HX1.out.2.mono hB)) (Nat.le_trans hB (Nat.le_of_lt HX1.out.lt)) (by omega)).mono ?_
    rw [HAX.out]
    rintro e w2 ⟨rfl, hb⟩
    have HX2 := hide (HX1.out.next hb)
    clear hb c0 c1 c2
    obtain ⟨c0, c1, c2⟩ := HX2.out.cells
    go_wp2_with fail
    refine (implHasAll hR.kind A' n' c' B z' _ (HJ.out.below (HX2.out.2.mono hB)) (Nat.le_trans hB (Nat.le_of_lt HX2.out.lt)) (by omega)).mono ?_
    rw [HAY.out]
    rintro e w3 ⟨rfl, hb⟩
    have HX3 := hide (HX2.out.next hb)
    clear hb c0 c1 c2
    obtain ⟨c0, c1, c2⟩ := HX3.out.cells
    go_wp2_with fail
    go_ret2
    exact newIK_nil HX3.out.2

set_option maxHeartbeats 4000000 in
theorem fit_5a (p k g : Int) (z z' : List Int) (hz : z.length ≤ 1048576) (hz' : z'.length ≤ 1048576) (hf : fieldB p k g = true) (h64 : z.length ≤ 64) {R : Fld} (hR : FldIs R p k g) (hx : z.all (elB R.q) = true) (hy : z'.all (elB R.q) = true) (hl : z.length ≠ z'.length) : C2c 41 p k g z z' (NewIK [] 5) ∧ C2c 40 p k g z z' (NewIK [] 5) := by
  refine ⟨?_, ?_⟩
  · intro A n c A' n' c' B w hI hJ hc hc' hB
    have HX := hide (Box.start w 25 p k g)
    have hn : n ≤ 1048576 := by rw [← hI.len]; exact hz
    have hn' : n' ≤ 1048576 := by rw [← hJ.len]; exact hz'
    have hzn : z.length = n := hI.len
    have hzn' : z'.length = n' := hJ.len
    have HI := hide hI
    have HJ := hide hJ
    have HB := hide hf
    have h64' : decide ((64 : Int) < (n : Int)) = false := by rw [decide_eq_false_iff_not]; omega
    have HAX := hide hx
    have HAY := hide hy
    have e5 : ((n : Int) != (n' : Int)) = true := by simp; omega
    clear hI hJ hzn hzn'
    go_enter Try.func41, Try.ntmps41
    go_wp2_with fail
    refine (specIsField p k g _).mono ?_
    rw [HB.out]
    rintro e w1 ⟨rfl, hb⟩
    have HX1 := hide (HX.out.next hb)
    obtain ⟨c0, c1, c2⟩ := HX1.out.cells
    clear hb
    go_wp2_with fail
    refine (specIs hR.kind A n c B z _ (HI.out.below (HX1.out.2.mono hB)) (Nat.le_trans hB (Nat.le_of_lt HX1.out.lt)) (by omega)).mono ?_
    rw [HAX.out]
    rintro e w2 ⟨rfl, hb⟩
    have HX2 := hide (HX1.out.next hb)
    clear hb c0 c1 c2
    obtain ⟨c0, c1, c2⟩ := HX2.out.cells
    go_wp2_with fail
    refine (specIs hR.kind A' n' c' B z' _ (HJ.out.below (HX2.out.2.mono hB)) (Nat.le_trans hB (Nat.le_of_lt HX2.out.lt)) (by omega)).mono ?_
    rw [HAY.out]
    rintro e w3 ⟨rfl, hb⟩
    have HX3 := hide (HX2.out.next hb)
    clear hb c0 c1 c2
    obtain ⟨c0, c1, c2⟩ := HX3.out.cells
    go_wp2_with fail
    go_ret2
    exact newIK_nil HX3.out.2
  · intro A n c A' n' c' B w hI hJ hc hc' hB
    have HX := hide (Box.start w 25 p k g)
    have hn : n ≤ 1048576 := by rw [← hI.len]; exact hz
    have hn' : n' ≤ 1048576 := by rw [← hJ.len]; exact hz'
    have hzn : z.length = n := hI.len
    have hzn' : z'.length = n' := hJ.len
    have HI := hide hI
    have HJ := hide hJ
    have HB := hide hf
    have h64' : decide ((64 : Int) < (n : Int)) = false := by rw [decide_eq_false_iff_not]; omega
    have HAX := hide hx
    have HAY := hide hy
    have e5 : ((n : Int) != (n' : Int)) = true := by simp; omega
    clear hI hJ hzn hzn'
    go_enter Try.func40, Try.ntmps40
    go_wp2_with fail
    refine (implValid p k g _).mono ?_
    rw [HB.out]
    rintro e w1 ⟨rfl, hb⟩
    have HX1 := hide (HX.out.next hb)
    obtain ⟨c0, c1, c2⟩ := HX1.out.cells
    clear hb
    go_wp2_with fail
    refine (implHasAll hR.kind A n c B z _ (HI.out.below (HX1.out.2.mono hB)) (Nat.le_trans hB (Nat.le_of_lt HX1.out.lt)) (by omega)).mono ?_
    rw [HAX.out]
    rintro e w2 ⟨rfl, hb⟩
    have HX2 := hide (HX1.out.next hb)
    clear hb c0 c1 c2
    obtain ⟨c0, c1, c2⟩ := HX2.out.cells
    go_wp2_with fail
    refine (implHasAll hR.kind A' n' c' B z' _ (HJ.out.below (HX2.out.2.mono hB)) (Nat.le_trans hB (Nat.le_of_lt HX2.out.lt)) (by omega)).mono ?_
    rw [HAY.out]
    rintro e w3 ⟨rfl, hb⟩
    have HX3 := hide (HX2.out.next hb)
    clear hb c0 c1 c2
    obtain ⟨c0, c1, c2⟩ := HX3.out.cells
    go_wp2_with fail
    go_ret2
    exact newIK_nil HX3.out.2

set_option maxHeartbeats 4000000 in
theorem fit_5b (p k g : Int) (z z' : List Int) (hz : z.length ≤ 1048576) (hz' : z'.length ≤ 1048576) (hf : fieldB p k g = true) (h64 : z.length ≤ 64) {R : Fld} (hR : FldIs R p k g) (hx : z.all (elB R.q) = true) (hy : z'.all (elB R.q) = true) (hl : z.length = z'.length) (ht : twB z = true) : C2c 41 p k g z z' (NewIK [] 5) ∧ C2c 40 p k g z z' (NewIK [] 5) := by
  refine ⟨?_, ?_⟩
  · intro A n c A' n' c' B w hI hJ hc hc' hB
    have HX := hide (Box.start w 25 p k g)
    have hn : n ≤ 1048576 := by rw [← hI.len]; exact hz
    have hn' : n' ≤ 1048576 := by rw [← hJ.len]; exact hz'
    have hzn : z.length = n := hI.len
    have hzn' : z'.length = n' := hJ.len
    have HI := hide hI
    have HJ := hide hJ
    have HB := hide hf
    have h64' : decide ((64 : Int) < (n : Int)) = false := by rw [decide_eq_false_iff_not]; omega
    have HAX := hide hx
    have HAY := hide hy
    have e5 : ((n : Int) != (n' : Int)) = false := by simp; omega
    have HTW := hide ht
    have HZN := hide hzn
    clear hI hJ hzn hzn'
    go_enter Try.func41, Try.ntmps41
    go_wp2_with fail
    refine (specIsField p k g _).mono ?_
    rw [HB.out]
    rintro e w1 ⟨rfl, hb⟩
    have HX1 := hide (HX.out.next hb)
    obtain ⟨c0, c1, c2⟩ := HX1.out.cells
    clear hb
    go_wp2_with fail
    refine (specIs hR.kind A n c B z _ (HI.out.below (HX1.out.2.mono hB)) (Nat.le_trans hB (Nat.le_of_lt HX1.out.lt)) (by omega)).mono ?_
    rw [HAX.out]
    rintro e w2 ⟨rfl, hb⟩
    have HX2 := hide (HX1.out.next hb)
    clear hb c0 c1 c2
    obtain ⟨c0, c1, c2⟩ := HX2.out.cells
    go_wp2_with fail
    refine (specIs hR.kind A' n' c' B z' _ (HJ.out.below (HX2.out.2.mono hB)) (Nat.le_trans hB (Nat.le_of_lt HX2.out.lt)) (by omega)).mono ?_
    rw [HAY.out]
    rintro e w3 ⟨rfl, hb⟩
    have HX3 := hide (HX2.out.next hb)
    clear hb c0 c1 c2
    obtain ⟨c0, c1, c2⟩ := HX3.out.cells
    go_wp2_with fail
    go_loopw [8] (fun i wr => FoRel w p k g n z i wr) (fun i _ => n - (intOf i).toNat)
    case atStart => exact ⟨0, by omega, rfl, by simp [Hid], HX3.out⟩
    case round =>
      clear HX HX1 HX2 HX3 c0 c1 c2
      obtain ⟨wo, rfl⟩ : ∃ wo : World, wo = wr := ⟨_, rfl⟩
      obtain ⟨j, hj, rfl, HND, HX⟩ := hrel
      have HX := hide HX
      by_cases hlt : j < n
      · obtain ⟨xj, hxj⟩ : ∃ xj, z[j]? = some xj := ⟨_, List.getElem?_eq_getElem (by rw [HZN.out]; exact hlt)⟩
        have HXJ := hide hxj
        clear hxj
        go_wp2_with fail
        go_loopw [9] (fun i wr => FnRel w p k g j xj z i wr) (fun i _ => j - (intOf i).toNat)
        case atStart => exact ⟨0, by omega, rfl, by simp [Hid], HX.out⟩
        case round =>
          clear HX
          obtain ⟨l, hl, rfl, HNM, HX⟩ := hrel
          have HX := hide HX
          by_cases hlj : l < j
          · have hlm : l < n := by omega
            obtain ⟨b, off, x, rfl, hb, hx, hc⟩ := (HI.out.below (HX.out.2.mono hB)).at_ hlt
            obtain ⟨b', off', x', hA', hb', hx', hc'⟩ := (HI.out.below (HX.out.2.mono hB)).at_ hlm
            simp only [Option.some.injEq, Addr.mk.injEq, and_true] at hA'
            obtain ⟨rfl, rfl⟩ := hA'
            obtain rfl : x = xj := by have h1 := HXJ.out; rw [hx] at h1; injection h1
            have HXL := hide hx'
            have z0 : (0 : Int) ≤ (j : Int) := by omega
            have z1 : (j : Int) < (n : Int) := by omega
            have z2 : (0 : Int) ≤ (l : Int) := by omega
            have z3 : (l : Int) < (n : Int) := by omega
            clear hx hx'
            by_cases hne : x = x'
            · subst hne
              go_wp2_with fail
              go_quiet (fail)
              go_wp2_with fail
              go_ret2
              exact newIK_nil (HX.out.drewN _).2
            · have e0 : (x == x') = false := by simpa using hne
              have HN2 := hide (mem_snoc HXL.out HNM.out hne)
              clear hne
              go_wp2_with fail
              go_quiet (fail)
              go_wp2_with fail
              go_roundw
              case rel => exact ⟨l + 1, by omega, by go_num, HN2, HX.out.drewN _⟩
              case measure => simp [intOf]; omega
          · have hd : decide (l < j) = false := by simpa using hlj
            have hlj' : l = j := by omega
            have HN2 := hide (show (z.take (j + 1)).Nodup from nodup_snoc HXJ.out HND.out (by have h1 := HNM.out; rw [hlj'] at h1; exact h1))
            clear hlj hlj'
            go_wp2_with fail
            go_roundw
            case rel => exact ⟨j + 1, by omega, by go_num, HN2, HX.out⟩
            case measure => simp [intOf]; omega
      · have h1 := HND.out
        rw [List.take_of_length_le (by rw [HZN.out]; omega)] at h1
        have h2 := HTW.out
        simp [twB, h1] at h2
  · intro A n c A' n' c' B w hI hJ hc hc' hB
    have HX := hide (Box.start w 25 p k g)
    have hn : n ≤ 1048576 := by rw [← hI.len]; exact hz
    have hn' : n' ≤ 1048576 := by rw [← hJ.len]; exact hz'
    have hzn : z.length = n := hI.len
    have hzn' : z'.length = n' := hJ.len
    have HI := hide hI
    have HJ := hide hJ
    have HB := hide hf
    have h64' : decide ((64 : Int) < (n : Int)) = false := by rw [decide_eq_false_iff_not]; omega
    have HAX := hide hx
    have HAY := hide hy
    have e5 : ((n : Int) != (n' : Int)) = false := by simp; omega
    have HTW := hide ht
    have HZN := hide hzn
    clear hI hJ hzn hzn'
    go_enter Try.func40, Try.ntmps40
    go_wp2_with fail
    refine (implValid p k g _).mono ?_
    rw [HB.out]
    rintro e w1 ⟨rfl, hb⟩
    have HX1 := hide (HX.out.next hb)
    obtain ⟨c0, c1, c2⟩ := HX1.out.cells
    clear hb
    go_wp2_with fail
    refine (implHasAll hR.kind A n c B z _ (HI.out.below (HX1.out.2.mono hB)) (Nat.le_trans hB (Nat.le_of_lt HX1.out.lt)) (by omega)).mono ?_
    rw [HAX.out]
    rintro e w2 ⟨rfl, hb⟩
    have HX2 := hide (HX1.out.next hb)
    clear hb c0 c1 c2
    obtain ⟨c0, c1, c2⟩ := HX2.out.cells
    go_wp2_with fail
    refine (implHasAll hR.kind A' n' c' B z' _ (HJ.out.below (HX2.out.2.mono hB)) (Nat.le_trans hB (Nat.le_of_lt HX2.out.lt)) (by omega)).mono ?_
    rw [HAY.out]
    rintro e w3 ⟨rfl, hb⟩
    have HX3 := hide (HX2.out.next hb)
    clear hb c0 c1 c2
    obtain ⟨c0, c1, c2⟩ := HX3.out.cells
    go_wp2_with fail
    refine (implTwice A n c B z _ (HI.out.below (HX3.out.2.mono hB)) (by omega) hc).mono ?_
    rw [HTW.out]
    rintro e w4 ⟨rfl, rfl⟩
    go_wp2_with fail
    go_ret2
    exact newIK_nil HX3.out.2

set_option maxHeartbeats 4000000 in
theorem fit_0 (p k g : Int) (z z' : List Int) (hz : z.length ≤ 1048576) (hz' : z'.length ≤ 1048576) (hf : fieldB p k g = true) (h64 : z.length ≤ 64) {R : Fld} (hR : FldIs R p k g) (xs ys : List (El R)) (hxs : z = iv xs) (hys : z' = iv ys) (hl : z.length = z'.length) (ht : twB z = false) :
    ∃ fit rooted : List (El R), Fitted xs ys xs.length fit rooted ∧ C2c 41 p k g z z' (NewIK (iv fit) 0) ∧ C2c 40 p k g z z' (NewIK (iv fit) 0) := by
  have ha : Apart xs := apart_iv (by rw [← hxs]; exact ht)
  have hall : ∃ fit rooted : List (El R), Fitted xs ys xs.length fit rooted := by
    have hgo : ∀ i, i ≤ xs.length → ∃ fit rooted : List (El R), Fitted xs ys i fit rooted := by
      intro i
      induction i with
      | zero => exact fun _ => ⟨[], [1], fitted_0 xs ys⟩
      | succ i ih =>
        intro h
        obtain ⟨f, r, hfr⟩ := ih (by omega)
        exact ⟨_, _, fitted_step ha (by omega) hfr⟩
    exact hgo _ (Nat.le_refl _)
  obtain ⟨fit, rooted, hfit⟩ := hall
  refine ⟨fit, rooted, hfit, ?_, ?_⟩
  · intro A n c A' n' c' B w hI hJ hc hc' hB
    subst hxs hys
    obtain rfl : n = n' := by rw [← hI.len, ← hJ.len]; exact hl
    exact specFitE hR hf xs ys fit rooted ha hfit A A' n c c' B w hI hJ hB (by rw [← hI.len]; exact h64)
  · intro A n c A' n' c' B w hI hJ hc hc' hB
    have HX := hide (Box.start w 25 p k g)
    have hn : n ≤ 1048576 := by rw [← hI.len]; exact hz
    have hn' : n' ≤ 1048576 := by rw [← hJ.len]; exact hz'
    have hzn : z.length = n := hI.len
    have hzn' : z'.length = n' := hJ.len
    have HI := hide hI
    have HJ := hide hJ
    subst hxs hys
    have HB := hide hf
    have h64' : decide ((64 : Int) < (n : Int)) = false := by rw [decide_eq_false_iff_not]; omega
    have HAX := hide (iv_all xs)
    have HAY := hide (iv_all ys)
    obtain rfl : n = n' := by omega
    have HTW := hide ht
    have hn64 : n ≤ 64 := by omega
    have HFT := hide hfit
    have HAP := hide ha
    clear hI hJ hzn hzn'
    go_enter Try.func40, Try.ntmps40
    go_wp2_with fail
    refine (implValid p k g _).mono ?_
    rw [HB.out]
    rintro e w1 ⟨rfl, hb⟩
    have HX1 := hide (HX.out.next hb)
    obtain ⟨c0, c1, c2⟩ := HX1.out.cells
    clear hb
    go_wp2_with fail
    refine (implHasAll hR.kind A n c B (iv xs) _ (HI.out.below (HX1.out.2.mono hB)) (Nat.le_trans hB (Nat.le_of_lt HX1.out.lt)) (by omega)).mono ?_
    rw [HAX.out]
    rintro e w2 ⟨rfl, hb⟩
    have HX2 := hide (HX1.out.next hb)
    clear hb c0 c1 c2
    obtain ⟨c0, c1, c2⟩ := HX2.out.cells
    go_wp2_with fail
    refine (implHasAll hR.kind A' n c' B (iv ys) _ (HJ.out.below (HX2.out.2.mono hB)) (Nat.le_trans hB (Nat.le_of_lt HX2.out.lt)) (by omega)).mono ?_
    rw [HAY.out]
    rintro e w3 ⟨rfl, hb⟩
    have HX3 := hide (HX2.out.next hb)
    clear hb c0 c1 c2
    obtain ⟨c0, c1, c2⟩ := HX3.out.cells
    go_wp2_with fail
    refine (implTwice A n c B (iv xs) _ (HI.out.below (HX3.out.2.mono hB)) (by omega) hc).mono ?_
    rw [HTW.out]
    rintro e w4 ⟨rfl, rfl⟩
    go_wp2_with fail
    refine (implFitted hR xs ys HAP.out A A' n c c' B _ (HI.out.below (HX3.out.2.mono hB)) (HJ.out.below (HX3.out.2.mono hB)) (Nat.le_trans hB (Nat.le_of_lt HX3.out.lt)) hn64).mono ?_
    rintro e w5 ⟨f2, r2, ⟨A1, m1, rfl, hm1, ho, hb⟩, hf2⟩
    have HX5 := hide (HX3.out.next hb)
    have hsame : f2 = fit := fit_only hf2.trF HFT.out.trF hf2.lenF HFT.out.lenF (apart_nodup HAP.out) (fun x hx => by obtain ⟨j, hj, rfl⟩ := List.getElem_of_mem hx; rw [(cf_at (List.getElem?_eq_getElem hj)).symm, hf2.valF j hj, HFT.out.valF j hj])
    subst hsame
    have HO := hide (newIK_of (c := 0) (w := w) ho HX5.out.2 (Nat.le_of_lt HX3.out.lt))
    clear ho hb hf2 c0 c1 c2
    go_wp2_with fail
    go_ret2
    exact HO

theorem fit_both (p k g : Int) (z z' : List Int) (hz : z.length ≤ 1048576) (hz' : z'.length ≤ 1048576) : ∃ (r : List Int) (c : Int), r.length ≤ 1048576 ∧ C2c 41 p k g z z' (NewIK r c) ∧ C2c 40 p k g z z' (NewIK r c) ∧
    (c ≠ 0 ∨ (c = 0 ∧ fieldB p k g = true ∧ ∃ (R : Fld) (xs ys fit rooted : List (El R)), FldIs R p k g ∧ z = iv xs ∧ z' = iv ys ∧ xs.length = ys.length ∧ xs.length ≤ 64 ∧ r = iv fit ∧ Fitted xs ys xs.length fit rooted)) := by
  rcases hf : fieldB p k g with _ | _
  · have h := fit_1 p k g z z' hz hz' hf
    exact ⟨[], 1, by simp, h.1, h.2, .inl (by decide)⟩
  · by_cases h64 : 64 < z.length
    · have h := fit_3 p k g z z' hz hz' hf h64
      exact ⟨[], 3, by simp, h.1, h.2, .inl (by decide)⟩
    · obtain ⟨R, hR⟩ := fld_ex hf
      rcases hx : z.all (elB R.q) with _ | _
      · have h := fit_2a p k g z z' hz hz' hf (by omega) hR hx
        exact ⟨[], 2, by simp, h.1, h.2, .inl (by decide)⟩
      · rcases hy : z'.all (elB R.q) with _ | _
        · have h := fit_2b p k g z z' hz hz' hf (by omega) hR hx hy
          exact ⟨[], 2, by simp, h.1, h.2, .inl (by decide)⟩
        · by_cases hl : z.length = z'.length
          · rcases ht : twB z with _ | _
            · obtain ⟨xs, hxs⟩ := iv_of hx
              obtain ⟨ys, hys⟩ := iv_of hy
              obtain ⟨fit, rooted, hfit, h1, h2⟩ := fit_0 p k g z z' hz hz' hf (by omega) hR xs ys hxs hys hl ht
              have hxl : xs.length ≤ 64 := by rw [hxs, iv_len] at h64; omega
              exact ⟨iv fit, 0, by rw [iv_len]; have := hfit.lenF; omega, h1, h2, .inr ⟨rfl, rfl, R, xs, ys, fit, rooted, hR, hxs, hys, by rw [hxs, hys, iv_len, iv_len] at hl; exact hl, hxl, rfl, hfit⟩⟩
            · have h := fit_5b p k g z z' hz hz' hf (by omega) hR hx hy hl ht
              exact ⟨[], 5, by simp, h.1, h.2, .inl (by decide)⟩
          · have h := fit_5a p k g z z' hz hz' hf (by omega) hR hx hy hl
            exact ⟨[], 5, by simp, h.1, h.2, .inl (by decide)⟩
theorem fit_both2 (p k g : Int) (z z' : List Int) (hz : z.length ≤ 1048576) (hz' : z'.length ≤ 1048576) : ∃ (r : List Int) (c : Int), r.length ≤ 1048576 ∧ C2c 41 p k g z z' (NewIK r c) ∧ C2c 40 p k g z z' (NewIK r c) := by
  obtain ⟨r, c, h1, h2, h3, _⟩ := fit_both p k g z z' hz hz'
  exact ⟨r, c, h1, h2, h3⟩
end Go.Proofs.Ythafkohopkgckaa
