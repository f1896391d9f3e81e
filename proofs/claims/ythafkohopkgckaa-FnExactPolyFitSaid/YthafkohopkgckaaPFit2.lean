/-
  The contract of the program's fitted polynomials.
  Condition: the field is valid, the elements differ, and there are at most 64.
-/
import Derived.Test.YthafkohopkgckaaPFit1
namespace Go.Proofs.Ythafkohopkgckaa
open Go.RowKit
set_option linter.unusedSimpArgs false
set_option linter.unusedVariables false

section
variable {R : Fld} {p k g : Int}
theorem own_one (w : World) (e : TypeId) (k : IntKind) (y : Int) : Own (w.alloc (.cells #[.int k y] e)) w.heap.size e k (.slice (some ⟨w.heap.size, 0, none⟩) 1 1) [y] :=
  Own.intro (World.ownsRow_lit w #[.int k y] 1 (by simp) (by simp [maxLen]) (by simp)) rfl rfl
def FtRel (w : World) (p k g : Int) (m : Nat) (xs ys : List (El R)) (u v i : Value) (wr : World) : Prop :=
  ∃ (j : Nat) (A A' : Option Addr) (n c n' c' : Nat) (fit rooted : List (El R)), j ≤ m ∧ i = .int .i64 j ∧ u = .slice A n c ∧ v = .slice A' n' c' ∧
    Own wr (w.heap.size + 1) 2 .i64 (.slice A n c) (iv fit) ∧ Own wr (w.heap.size + 1) 2 .i64 (.slice A' n' c') (iv rooted) ∧ Hid (Fitted xs ys j fit rooted) ∧ n ≤ 100 ∧ n' ≤ 100 ∧ Box w wr 25 p k g

set_option maxRecDepth 100000 in
set_option maxHeartbeats 8000000 in
theorem implFitted (h : FldIs R p k g) (xs ys : List (El R)) (ha : Apart xs) (A A' : Option Addr) (m c c' B : Nat) (w : World) (hI : Ints .i64 w B A m (iv xs)) (hJ : Ints .i64 w B A' m (iv ys)) (hB : B ≤ w.heap.size) (hm : m ≤ 64) :
    Calls Try.prog 82 #[.agg #[.int .i64 p, .int .i64 k, .int .i64 g], .slice A m c, .slice A' m c'] w fun e w' => ∃ fit rooted : List (El R), NewE fit w e w' ∧ Fitted xs ys xs.length fit rooted := by
  have HX := hide (Box.start w 25 p k g)
  have hxm : xs.length = m := by rw [← iv_len]; exact hI.len
  have hym : ys.length = m := by rw [← iv_len]; exact hJ.len
  have HI := hide hI
  have HJ := hide hJ
  have HA := hide ha
  have HXM := hide hxm
  have HYM := hide hym
  clear hI hJ ha hxm hym
  go_enter Try.func82, Try.ntmps82
  go_wp2_with fail
  have hl1 := own_one (w.alloc (.cells #[.int .i64 p, .int .i64 k, .int .i64 g] 25)) 2 .i64 1
  rw [alloc_size] at hl1
  have HL1 := hide hl1
  have HXs := hide (HX.out.alloc (.cells #[.int .i64 1] 2))
  clear hl1
  go_loopw [7, 8, 16] (fun u v i wr => FtRel w p k g m xs ys u v i wr) (fun _ _ i _ => m - (intOf i).toNat)
  case atStart => exact ⟨0, none, _, 0, 0, 1, 1, [], [1], by omega, rfl, rfl, rfl, World.ownsRow_nil _ _ _ _, HL1.out, fitted_0 xs ys, by omega, by omega, HXs.out⟩
  case round =>
    clear HX HL1 HXs
    obtain ⟨j, Af, Ar, nf, cf_, nr, cr, fit, rooted, hj, rfl, rfl, rfl, HF, HR, HFT, hnf, hnr, HX⟩ := hrel
    have HX := hide HX
    have HF := hide HF
    have HR := hide HR
    by_cases hlt : j < m
    · obtain ⟨b, off, x, rfl, hb, hx, hc⟩ := (HI.out.below (HX.out.2.mono hB)).at_ hlt
      obtain ⟨b', off', x', rfl, hb', hx', hc'⟩ := (HJ.out.below (HX.out.2.mono hB)).at_ hlt
      rw [iv_at (by rw [HXM.out]; omega)] at hx
      rw [iv_at (by rw [HYM.out]; omega)] at hx'
      simp only [Option.some.injEq] at hx hx'
      subst hx
      subst hx'
      obtain ⟨X, hX⟩ : ∃ X, X = cf xs j := ⟨_, rfl⟩
      obtain ⟨Y, hY⟩ : ∃ Y, Y = cf ys j := ⟨_, rfl⟩
      rw [← hX] at hc
      rw [← hY] at hc'
      have HST := hide (fitted_step HA.out (by rw [HXM.out]; exact hlt) HFT.out)
      obtain ⟨K, hK⟩ : ∃ K, K = (Y + -(ev X fit)) * (ev X rooted).inv := ⟨_, rfl⟩
      have hKK : fitK xs ys j fit rooted = K := by rw [fitK, ← hX, ← hY, hK]
      rw [hKK, ← hX] at HST
      obtain ⟨sp, hsp⟩ : ∃ sp, sp = scaP K rooted := ⟨_, rfl⟩
      rw [← hsp] at HST
      have hspl : sp.length ≤ nr := by rw [hsp]; have := sca_le K rooted; have h2 := HR.out.len; rw [iv_len] at h2; omega
      have HKK := hide hK
      have HCY := hide hc'
      have hbl' : b' < wr.heap.size := Nat.lt_of_lt_of_le hb' (Nat.le_trans hB (Nat.le_of_lt HX.out.lt))
      have HFL := hide (show fit.length = nf by have := HF.out.len; rw [iv_len] at this; omega)
      have HRL := hide (show rooted.length = nr by have := HR.out.len; rw [iv_len] at this; omega)
      have HSE := hide (show trim (tab nr fun i => K * cf rooted i) = sp by rw [hsp, scaP, HRL.out])
      clear hX hY hK hKK hb hb' hc' hsp
      go_wp2_with fail
      go_region_held3 (fun w' => w'.cell? ⟨w.heap.size, 0, none⟩ = some (.int .i64 p) ∧ w'.cell? ⟨w.heap.size, 1, none⟩ = some (.int .i64 k) ∧ w'.cell? ⟨w.heap.size, 2, none⟩ = some (.int .i64 g) ∧ w'.cell? ⟨b', off' + j, none⟩ = some (.int .i64 (Y.val : Int)))
        (first
          | exact ⟨HX.out.drew.cells.1, HX.out.drew.cells.2.1, HX.out.drew.cells.2.2, HCY.out⟩
          | exact ⟨HX2.out.cells.1, HX2.out.cells.2.1, HX2.out.cells.2.2, HC2.out⟩
          | exact ⟨HX3.out.cells.1, HX3.out.cells.2.1, HX3.out.cells.2.2, HC3.out⟩
          | exact ⟨HX4.out.cells.1, HX4.out.cells.2.1, HX4.out.cells.2.2, HC4.out⟩)
        (first
          | (go_at_call 73; refine (implValueAt h X fit Af nf cf_ wr.heap.size _ (HF.out.drew.intsE) (Nat.le_refl _) (by omega)).mono ?_; rintro e w2 ⟨rfl, hb2⟩; have HX2 := hide (HX.out.drew.next hb2); have HF2 := hide (HF.out.drew.below hb2 (Nat.le_refl _)); have HR2 := hide (HR.out.drew.below hb2 (Nat.le_refl _)); have HC2 := hide ((hb2.cell (p := ⟨b', off' + j, none⟩) hbl').trans HCY.out); have hbl2 := Nat.lt_of_lt_of_le hbl' hb2.size; clear hb2)
          | (go_at_call 103; refine (implNegE h (ev X fit) _).mono ?_; rintro e w3 ⟨rfl, hb3⟩; have HX3 := hide (HX2.out.next hb3); have HF3 := hide (HF2.out.below hb3 (Nat.le_refl _)); have HR3 := hide (HR2.out.below hb3 (Nat.le_refl _)); have HC3 := hide ((hb3.cell (p := ⟨b', off' + j, none⟩) hbl2).trans HC2.out); have hbl3 := Nat.lt_of_lt_of_le hbl2 hb3.size; clear hb3)
          | (go_at_call 59; refine (implSumE h Y (-(ev X fit)) _).mono ?_; rintro e w4 ⟨rfl, hb4⟩; have HX4 := hide (HX3.out.next hb4); have HF4 := hide (HF3.out.below hb4 (Nat.le_refl _)); have HR4 := hide (HR3.out.below hb4 (Nat.le_refl _)); have HC4 := hide ((hb4.cell (p := ⟨b', off' + j, none⟩) hbl3).trans HC3.out); clear hb4))
      obtain ⟨M, hM⟩ : ∃ M, M = Y + -(ev X fit) := ⟨_, rfl⟩
      rw [← hM] at HKK ⊢
      clear hM HX HF HR HX2 HF2 HR2 HX3 HF3 HR3 HCY HC2 HC3 HC4
      go_wp2_with fail
      go_region_held3 (fun w' => w'.cell? ⟨w.heap.size, 0, none⟩ = some (.int .i64 p) ∧ w'.cell? ⟨w.heap.size, 1, none⟩ = some (.int .i64 k) ∧ w'.cell? ⟨w.heap.size, 2, none⟩ = some (.int .i64 g))
        (first
          | exact ⟨HX4.out.drew.cells.1, HX4.out.drew.cells.2.1, HX4.out.drew.cells.2.2⟩
          | exact ⟨HX5.out.cells.1, HX5.out.cells.2.1, HX5.out.cells.2.2⟩
          | exact ⟨HX6.out.cells.1, HX6.out.cells.2.1, HX6.out.cells.2.2⟩
          | exact ⟨HX7.out.cells.1, HX7.out.cells.2.1, HX7.out.cells.2.2⟩)
        (first
          | (go_at_call 73; refine (implValueAt h X rooted Ar nr cr w4.heap.size _ (HR4.out.drew.intsE) (Nat.le_refl _) (by omega)).mono ?_; rintro e w5 ⟨rfl, hb5⟩; have HX5 := hide (HX4.out.drew.next hb5); have HF5 := hide (HF4.out.drew.below hb5 (Nat.le_refl _)); have HR5 := hide (HR4.out.drew.below hb5 (Nat.le_refl _)); clear hb5)
          | (go_at_call 101; refine (implInvE h (ev X rooted) _).mono ?_; rintro e w6 ⟨rfl, hb6⟩; have HX6 := hide (HX5.out.next hb6); have HF6 := hide (HF5.out.below hb6 (Nat.le_refl _)); have HR6 := hide (HR5.out.below hb6 (Nat.le_refl _)); clear hb6)
          | (go_at_call 64; refine (implProdE h M (ev X rooted).inv _).mono ?_; rw [← HKK.out]; rintro e w7 ⟨rfl, hb7⟩; have HX7 := hide (HX6.out.next hb7); have HF7 := hide (HF6.out.below hb7 (Nat.le_refl _)); have HR7 := hide (HR6.out.below hb7 (Nat.le_refl _)); clear hb7))
      clear HX4 HF4 HR4 HX5 HF5 HR5 HX6 HF6 HR6
      go_wp2_with fail
      go_region_held3 (fun w' => w'.cell? ⟨w.heap.size, 0, none⟩ = some (.int .i64 p) ∧ w'.cell? ⟨w.heap.size, 1, none⟩ = some (.int .i64 k) ∧ w'.cell? ⟨w.heap.size, 2, none⟩ = some (.int .i64 g))
        (first
          | exact ⟨HX7.out.drew.cells.1, HX7.out.drew.cells.2.1, HX7.out.drew.cells.2.2⟩
          | exact ⟨HX8.out.cells.1, HX8.out.cells.2.1, HX8.out.cells.2.2⟩
          | exact ⟨HX8a.out.cells.1, HX8a.out.cells.2.1, HX8a.out.cells.2.2⟩
          | exact ⟨HX9.out.cells.1, HX9.out.cells.2.1, HX9.out.cells.2.2⟩)
        (first
          | (go_at_call 110; refine (implScaled h K rooted Ar nr cr w7.heap.size _ (HR7.out.drew.intsE) (Nat.le_refl _) (by omega)).mono ?_; rw [HSE.out]; rintro e w8 ⟨gS, cS, rfl, hoS, hgS, hb8⟩; have HX8 := hide (HX7.out.drew.next hb8); have HF8 := hide (HF7.out.drew.below hb8 (Nat.le_refl _)); have HR8 := hide (HR7.out.drew.below hb8 (Nat.le_refl _)); have HOS := hide hoS; have HX8a := hide (HX8.out.alloc (.cells #[.slice (some ⟨gS, 0, none⟩) sp.length cS] 70)); have HF8a := hide (HF8.out.alloc (.cells #[.slice (some ⟨gS, 0, none⟩) sp.length cS] 70)); have HR8a := hide (HR8.out.alloc (.cells #[.slice (some ⟨gS, 0, none⟩) sp.length cS] 70)); have HOSa := hide (HOS.out.alloc (.cells #[.slice (some ⟨gS, 0, none⟩) sp.length cS] 70)); clear hoS hb8)
          | (go_at_call 76; refine (implPlus h fit sp Af (some ⟨gS, 0, none⟩) nf cf_ sp.length cS (w8.heap.size + 1) w8.heap.size _ (by have := HF8a.out.intsE; rw [alloc_size] at this; exact this) (by have := HOSa.out.intsE; rw [alloc_size] at this; exact this) (by rw [alloc_size]; exact Nat.lt_succ_self _) (by rw [World.cell?_alloc_at _ _ _ _ rfl]; rfl) (by rw [alloc_size]; exact Nat.le_refl _) (by omega) (by omega)).mono ?_; rintro e w9 ⟨gP, cP, rfl, hoP, hgP, hb9⟩; have HX9 := hide (HX8a.out.next hb9); have HR9 := hide (HR8a.out.below hb9 (Nat.le_refl _)); have HOP := hide (hoP.low (base' := w.heap.size + 1) HX8a.out.lt); clear hoP hb9))
      clear HX7 HF7 HR7 HX8 HF8 HR8 HX8a HF8a HR8a HOS HOSa
      go_wp2_with fail
      go_region_held3 (fun w' => w'.cell? ⟨w.heap.size, 0, none⟩ = some (.int .i64 p) ∧ w'.cell? ⟨w.heap.size, 1, none⟩ = some (.int .i64 k) ∧ w'.cell? ⟨w.heap.size, 2, none⟩ = some (.int .i64 g))
        (first
          | exact ⟨HX9.out.drew.cells.1, HX9.out.drew.cells.2.1, HX9.out.drew.cells.2.2⟩
          | exact ⟨HX10.out.cells.1, HX10.out.cells.2.1, HX10.out.cells.2.2⟩
          | exact ⟨HX10a.out.cells.1, HX10a.out.cells.2.1, HX10a.out.cells.2.2⟩
          | exact ⟨HX11.out.cells.1, HX11.out.cells.2.1, HX11.out.cells.2.2⟩)
        (first
          | (go_at_call 103; refine (implNegE h X _).mono ?_; rintro e w10 ⟨rfl, hb10⟩; have HX10 := hide (HX9.out.drew.next hb10); have HP10 := hide (HOP.out.drew.below hb10 (Nat.le_refl _)); have HR10 := hide (HR9.out.drew.below hb10 (Nat.le_refl _)); have HX10a := hide (HX10.out.alloc (.cells #[.int .i64 ((-X).val : Int), .int .i64 1] 2)); have HP10a := hide (HP10.out.alloc (.cells #[.int .i64 ((-X).val : Int), .int .i64 1] 2)); have HR10a := hide (HR10.out.alloc (.cells #[.int .i64 ((-X).val : Int), .int .i64 1] 2)); have HT10 := hide (ints_two w10 2 .i64 ((-X).val : Int) 1); clear hb10)
          | (go_at_call 69; refine (implTimes h rooted (lin X) Ar (some ⟨w10.heap.size, 0, none⟩) nr cr 2 2 (w10.heap.size + 1) _ (by have := HR10a.out.intsE; rw [alloc_size] at this; exact this) HT10.out (by rw [alloc_size]; exact Nat.le_refl _) (by omega) (by omega)).mono ?_; rintro e w11 ⟨gT, cT, rfl, hoT, hgT, hb11⟩; have HX11 := hide (HX10a.out.next hb11); have HP11 := hide (HP10a.out.below hb11 (Nat.le_refl _)); have HOT := hide (hoT.low (base' := w.heap.size + 1) HX10a.out.lt); clear hoT hb11))
      have hn1 : (addP fit sp).length ≤ 100 := by have := HST.out.lenF; omega
      have hn2 : (mulP rooted (lin X)).length ≤ 100 := by have := HST.out.lenR; omega
      clear HX9 HX10 HX10a HP10 HP10a HR9 HR10 HR10a HOP HT10
      go_wp2_with fail
      go_roundw
      case rel => exact ⟨j + 1, _, _, _, _, _, _, _, _, by omega, by go_num, rfl, rfl, HP11.out, HOT.out, HST, hn1, hn2, HX11.out⟩
      case measure => simp [intOf]; omega
    · obtain rfl : j = m := by omega
      have HE := hide (newE_of (w := w) HF.out HX.out.2 (Nat.le_succ _))
      have HFE := hide (show Fitted xs ys xs.length fit rooted by rw [HXM.out]; exact HFT.out)
      go_wp2_with fail
      go_ret
      exact ⟨fit, rooted, HE, HFE⟩
end
end Go.Proofs.Ythafkohopkgckaa
