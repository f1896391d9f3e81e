/-
  The contract of encoded words, of the model.
  Condition: the code is valid, and the list is a message of it.
-/
import Derived.Test.YtkdpkbnhckpnoaaCode7
namespace Go.Proofs.Ytkdpkbnhckpnoaa
open Go.RowKit
set_option linter.unusedSimpArgs false
set_option linter.unusedVariables false

section
variable {R : Fld} {γ : El R} {p k g : Int} {l c : Nat}
/-- A turned message with zeros ahead, of which the first elements are laid. -/
def hiF (ms : List (El R)) (n j : Nat) (i : Nat) : El R := if n - j ≤ i then cf ms (n - 1 - i) else 0
theorem hiF_zero (ms : List (El R)) (n : Nat) : tab n (hiF ms n 0) = tab n fun _ => 0 := tab_congr fun i hi => if_neg (by omega)
theorem hiF_step {ms : List (El R)} {n j : Nat} (hj : j < n) : (tab n (hiF ms n j)).set (n - 1 - j) (cf ms j) = tab n (hiF ms n (j + 1)) := by
  rw [tab_set]
  refine tab_congr fun i hi => ?_
  unfold hiF
  by_cases h : i = n - 1 - j
  · rw [if_pos h, if_pos (by omega), show n - 1 - i = j by omega]
  · rw [if_neg h]
    by_cases h2 : n - j ≤ i
    · rw [if_pos h2, if_pos (by omega)]
    · rw [if_neg h2, if_neg (by omega)]
theorem hiF_end {ms : List (El R)} {c : Nat} : trim (tab (ms.length + c) (hiF ms (ms.length + c) ms.length)) = wpoly (padW c ms) := by
  unfold wpoly
  congr 1
  refine List.ext_getElem? fun i => ?_
  rcases Nat.lt_or_ge i (ms.length + c) with hi | hi
  · rw [tab_at _ hi, List.getElem?_reverse (by rw [pad_len]; exact hi), pad_len, hiF]
    split
    · rw [padW, List.getElem?_append_left (by omega), at_cf (by omega)]
    · rw [padW, List.getElem?_append_right (by omega), tab_at _ (by omega)]
  · rw [List.getElem?_eq_none (by rw [tab_len]; exact hi), List.getElem?_eq_none (by rw [List.length_reverse, pad_len]; exact hi)]

def H1Rel (w : World) (p k g : Int) (l c n : Nat) (ms : List (El R)) (i : Value) (wr : World) : Prop :=
  ∃ j : Nat, j ≤ n ∧ i = .int .i64 j ∧ Own wr (w.heap.size + 1) 2 .i64 (.slice (some ⟨w.heap.size + 1, 0, none⟩) l l) (iv (tab l (hiF ms l j))) ∧ CBox w wr p k g l c
def H2Rel (w : World) (p k g : Int) (l c m N : Nat) (Ar : Option Addr) (ms rest : List (El R)) (v i : Value) (wr : World) : Prop :=
  ∃ (j : Nat) (kk : Int), j ≤ c ∧ Hid (kk = (c : Int) - 1 - (j : Int)) ∧ i = .int .i64 kk ∧ Own wr N 2 .i64 v (iv (ms ++ tab j fun i => -(cf rest (c - 1 - i)))) ∧ Ints .i64 wr N Ar m (iv rest) ∧ N ≤ wr.heap.size ∧ CBox w wr p k g l c

set_option maxRecDepth 100000 in
set_option maxHeartbeats 4000000 in
theorem specEncode (h : CodeIs R γ p k g l c) (ms : List (El R)) (A : Option Addr) (n cm B : Nat) (w : World) (hI : Ints .i64 w B A n (iv ms)) (hB : B ≤ w.heap.size) (hn : n + c = l) :
    Calls Try.prog 79 #[.agg #[.int .i64 p, .int .i64 k, .int .i64 g, .int .i64 l, .int .i64 c], .slice A n cm] w (NewE (encW γ c ms) w) := by
  have HX := hide (CBox.start w p k g l c)
  have hl255 := h.l255
  have hc64 := h.c64
  have hcl := h.cl
  have hml : ms.length = n := by rw [← iv_len]; exact hI.len
  have HML := hide hml
  have HI := hide hI
  have HZE := hide (show trim (tab l (hiF ms l n)) = wpoly (padW c ms) by rw [← hn, ← hml]; exact hiF_end)
  obtain ⟨m, hm⟩ : ∃ m, (restW γ c ms).length = m := ⟨_, rfl⟩
  have HM := hide hm
  have hmc : m ≤ c := by rw [← hm]; exact rest_le γ c ms
  have HGL := hide (gen_len γ c)
  have HWL := hide (show (wpoly (padW c ms)).length ≤ l by have h1 := wpoly_le (padW c ms); rw [pad_len] at h1; omega)
  have HRE := hide (show remP (wpoly (padW c ms)) (genP γ c) = restW γ c ms from rfl)
  clear hI hml hm
  obtain ⟨c0, c1, c2, c3, c4⟩ := HX.out.cells
  go_enter Try.func79, Try.ntmps79
  go_wp2_with (refine wpList_mkN _ rfl (.tmp 12) (.tmp 12) 28 rfl elem64 .i64 .i64 _ _ l rfl rfl rfl rfl (by omega) fun w1 h1 h2 => ?_; have HX1 := hide (HX.out.next h2); rw [alloc_size, iv_zeros (R := R)] at h1; have HO1 := hide h1; clear h1 h2)
  go_loopw [6] (fun i wr => H1Rel w p k g l c n ms i wr) (fun i _ => n - (intOf i).toNat)
  case atStart => exact ⟨0, by omega, rfl, by rw [hiF_zero]; exact HO1.out, HX1.out⟩
  case round =>
    clear HX HX1 HO1 c0 c1 c2 c3 c4
    obtain ⟨j, hj, rfl, HO, HX⟩ := hrel
    have HX := hide HX
    have HO := hide HO
    obtain ⟨c0, c1, c2, c3, c4⟩ := HX.out.cells
    by_cases hlt : j < n
    · obtain ⟨b, off, x, rfl, hb, hx, hc⟩ := (HI.out.below (HX.out.2.mono hB)).at_ hlt
      rw [iv_at (by rw [HML.out]; exact hlt)] at hx
      simp only [Option.some.injEq] at hx
      subst hx
      obtain ⟨x, hx⟩ : ∃ x, x = cf ms j := ⟨_, rfl⟩
      rw [← hx] at hc
      obtain ⟨t, ht⟩ : ∃ t, t = l - 1 - j := ⟨_, rfl⟩
      have hw0 : IntKind.i64.wrap ((l : Int) - 1) = (l : Int) - 1 := IntWalk.i64_in _ ⟨by omega, by omega⟩
      have hw1 : IntKind.i64.wrap ((l : Int) - 1 - (j : Int)) = (t : Int) := by rw [IntWalk.i64_in _ ⟨by omega, by omega⟩]; omega
      have hw2 : (l : Int) - 1 - (j : Int) = (t : Int) := by omega
      have htl : t < l := by omega
      have HT := hide (show (tab l (hiF ms l j)).set t x = tab l (hiF ms l (j + 1)) by rw [hx, ht]; exact hiF_step (by omega))
      have hfx := HO.out.frozenAt t
      obtain ⟨u, hcx⟩ : ∃ u : Int, wr.cell? ⟨w.heap.size + 1, t, none⟩ = some (.int .i64 u) := ⟨_, HO.out.cellAt (j := t) (iv_at (by rw [tab_len]; exact htl))⟩
      have HO7 := hide (HO.out.drew.stored t (x.val : Nat)).1
      rw [iv_set, HT.out] at HO7
      have HX7 := hide (HX.out.drew.set (b := w.heap.size + 1) (by omega) t (.int .i64 (x.val : Nat)))
      clear hx ht
      go_wp2_with fail
      go_region
      all_goals
        go_wp2_with fail
        go_roundw
        case rel => exact ⟨j + 1, by omega, by go_num, HO7.out, HX7.out⟩
        case measure => simp [intOf]; omega
    · obtain rfl : j = n := by omega
      have hd : decide (j < j) = false := by simp
      have hcap : l ≤ l := Nat.le_refl _
      clear hlt
      go_wp2_with fail
      go_region_held3 (fun w' => w'.cell? ⟨w.heap.size, 0, none⟩ = some (.int .i64 p) ∧ w'.cell? ⟨w.heap.size, 1, none⟩ = some (.int .i64 k) ∧ w'.cell? ⟨w.heap.size, 2, none⟩ = some (.int .i64 g) ∧ w'.cell? ⟨w.heap.size, 3, none⟩ = some (.int .i64 l) ∧ w'.cell? ⟨w.heap.size, 4, none⟩ = some (.int .i64 c))
        (first
          | exact HX.out.drew.cells
          | exact HX3.out.cells
          | exact HX4.out.cells
          | exact HX5.out.cells)
        (first
          | (go_at_call 101; refine (specTrimE (some ⟨w.heap.size + 1, 0, none⟩) l l wr.heap.size (tab l (hiF ms l j)) _ (HO.out.drew.intsE) (Nat.le_refl _) (by omega) hcap).mono ?_; rw [HZE.out]; rintro e w3 ⟨A3, c3', rfl, hc3, ho3, hb3⟩; have HX3 := hide (HX.out.drew.next hb3); have HQ3 := hide (ho3.intsE); clear ho3 hc3 hb3)
          | (go_at_call 102; refine (specGenPoly h _).mono ?_; rintro e w4 ⟨A4, c4', rfl, hc4, ho4, hb4⟩; rw [HGL.out] at ho4 ⊢; have HX4 := hide (HX3.out.next hb4); have HQ4 := hide ((HQ3.out.below hb4).more hb4.size); have HG4 := hide ho4.intsE; clear ho4 hc4 hb4)
          | (go_at_call 100; refine (specDivE h.fld (wpoly (padW c ms)) (genP γ c) A3 A4 _ c3' (c + 1) c4' w4.heap.size _ HQ4.out HG4.out (Nat.le_refl _) (by have := HWL.out; omega) (by omega) (by omega)).mono ?_; rw [HRE.out]; rintro e w5 ⟨Aq, cq, Ar, cr, rfl, hcq, hcr, hoq, hor, hne, hb5⟩; rw [HM.out] at hor ⊢; have HX5 := hide (HX4.out.next hb5); have HR5 := hide (hor.intsE); clear hoq hor hne hb5 hcr hcq))
      clear c0 c1 c2 c3 c4
      go_wp2_with fail
      refine (specOwnE A j cm B ms w5 (HI.out.below (HX5.out.2.mono hB)) (Nat.le_trans hB (Nat.le_of_lt HX5.out.lt)) (by omega)).mono ?_
      rintro e w6 ⟨A6, c6, rfl, hc6, ho6, hb6⟩
      rw [HML.out] at ho6 ⊢
      have HX6 := hide (HX5.out.next hb6)
      have HO6 := hide ho6
      have HR6 := hide (HR5.out.below hb6)
      have HNW := hide HX5.out.lt
      have HS6 := hide hb6.size
      clear ho6 hc6 hb6
      obtain ⟨c0, c1, c2, c3, c4⟩ := HX6.out.cells
      go_wp2_with fail
      clear c0 c1 c2 c3 c4
      go_loopw [9, 10] (fun v i wr => H2Rel w p k g l c m w5.heap.size Ar ms (restW γ c ms) v i wr) (fun _ i _ => (intOf i + 1).toNat)
      case atStart => exact ⟨0, (c : Int) - 1, by omega, by show (c : Int) - 1 = (c : Int) - 1 - ((0 : Nat) : Int); omega, rfl, by rw [show (tab 0 fun i => -(cf (restW γ c ms) (c - 1 - i))) = [] from rfl, List.append_nil]; exact HO6.out, HR6.out, HS6.out, HX6.out⟩
      case round =>
        clear HX HO HX3 HX4 HX5 HX6 HO6 HR6 HR5 HQ3 HQ4 HG4
        obtain ⟨v, rfl⟩ : ∃ v : Value, v = u9 := ⟨_, rfl⟩
        obtain ⟨i, kk, hi, HK, rfl, HO, HR, HWS, HX⟩ := hrel
        have HWS := hide HWS
        have HX := hide HX
        have HO := hide HO
        have HR := hide HR
        by_cases hlt : 0 ≤ kk
        · obtain ⟨t, rfl⟩ : ∃ t : Nat, kk = t := ⟨kk.toNat, by omega⟩
          have hti : t + i + 1 = c := by have := HK.out; omega
          obtain ⟨x, hx⟩ : ∃ x, x = cf (restW γ c ms) t := ⟨_, rfl⟩
          have HXE := hide hx
          have HN := hide (show iv (ms ++ tab i fun i => -(cf (restW γ c ms) (c - 1 - i))) ++ [((-x).val : Int)] = iv (ms ++ tab (i + 1) fun i => -(cf (restW γ c ms) (c - 1 - i))) by
            rw [tab_snoc, ← List.append_assoc, iv_app (ms ++ _), iv_one, hx, show c - 1 - i = t by omega])
          have hlen : (iv (ms ++ tab i fun i => -(cf (restW γ c ms) (c - 1 - i)))).length + 1 ≤ 1000 := by rw [iv_len, List.length_append, tab_len, HML.out]; omega
          have htb : t ≤ 1099511627776 := by omega
          have HVB := hide (show ∀ b, v.ownBlock = some b → w5.heap.size ≤ b from fun b hb => (HO.out.lt hb).1)
          have hNW := HNW.out
          clear hx
          go_wp2_with fail
          go_region_held3 (fun w' => w'.cell? ⟨w.heap.size, 0, none⟩ = some (.int .i64 p) ∧ w'.cell? ⟨w.heap.size, 1, none⟩ = some (.int .i64 k) ∧ w'.cell? ⟨w.heap.size, 2, none⟩ = some (.int .i64 g))
            (first
              | exact ⟨HX.out.drew.cells.1, HX.out.drew.cells.2.1, HX.out.drew.cells.2.2.1⟩
              | exact ⟨HX2.out.cells.1, HX2.out.cells.2.1, HX2.out.cells.2.2.1⟩
              | exact ⟨(HX2.out.alloc _).cells.1, (HX2.out.alloc _).cells.2.1, (HX2.out.alloc _).cells.2.2.1⟩
              | exact ⟨HX3.out.cells.1, HX3.out.cells.2.1, HX3.out.cells.2.2.1⟩)
            (first
              | (go_at_call 105; refine (specAtE Ar m cr w5.heap.size t (restW γ c ms) _ HR.out.drew htb (by omega)).mono ?_; rw [← HXE.out]; rintro e wa ⟨rfl, rfl⟩)
              | (go_at_call 104; refine (specNegE h.fld x _).mono ?_; rintro e w2 ⟨rfl, hb2⟩; have HX2 := hide (HX.out.drew.next hb2); have HO2 := hide (HO.out.drew.below hb2 (Nat.le_refl _)); have HS2 := hide hb2.size; have HR2 := hide (HR.out.drew.below (hb2.mono HWS.out)); clear hb2)
              | (refine step_appL _ (by rfl) _ _ _ (by rfl) elem64 w5.heap.size v (iv (ms ++ tab i fun i => -(cf (restW γ c ms) (c - 1 - i)))) (by rfl) (HO2.out.alloc _) (w2.heap.size + 1) (some ⟨w2.heap.size, 0, none⟩) 1 1 [((-x).val : Int)] (by rfl) (ints_one w2 2 .i64 ((-x).val : Int)) (by omega) (by rw [alloc_size]; exact Nat.le_trans HWS.out (Nat.le_trans HS2.out (Nat.le_succ _))) ?_; intro v3 w3 hown3 hgrow; rw [HN.out] at hown3; have HX3 := hide ((HX2.out.alloc _).grow hgrow (fun b hb => by have := HVB.out b hb; omega)); have HS3 := hide (show w5.heap.size ≤ w3.heap.size by have h1 := hgrow.size; rw [alloc_size] at h1; have h2 := HS2.out; have h3 := HWS.out; exact Nat.le_trans h3 (Nat.le_trans h2 (Nat.le_trans (Nat.le_succ _) h1))); have HO3 := hide hown3; have HR3 := hide ((HR2.out.below ((Below.refl w5.heap.size w2).alloc (Nat.le_trans HWS.out HS2.out) _)).grown hgrow (by rw [alloc_size]; exact Nat.le_trans HWS.out (Nat.le_trans HS2.out (Nat.le_succ _))) HVB.out); clear hown3 hgrow))
          go_wp2_with fail
          go_roundw
          case rel => exact ⟨i + 1, (t : Int) - 1, by omega, by show (t : Int) - 1 = (c : Int) - 1 - ((i + 1 : Nat) : Int); omega, rfl, HO3.out, HR3.out, HS3.out, HX3.out⟩
          case measure => simp [intOf]
        · have hic : i = c := by have := HK.out; omega
          have hd : decide (0 ≤ kk) = false := by simpa using hlt
          have HF := hide (newE_of (w := w) (ps := encW γ c ms) (by have h1 := HO.out; rw [hic] at h1; exact h1) HX.out.2 (Nat.le_of_lt HNW.out))
          clear hlt
          go_wp2_with fail
          go_ret
          exact HF.out
end
end Go.Proofs.Ytkdpkbnhckpnoaa
