/-
  What AddWords returns for two words, and what WordDistance and IsWithin return, of the model and of the program, side by side.
  Condition: lists shorter than 2^20; the numbers are int64s.
-/
import Derived.Test.YtfbkmbjbjgfenaaCBoth2
namespace Go.Proofs.Ytfbkmbjbjgfenaa
open Go.RowKit
set_option linter.unusedSimpArgs false
set_option linter.unusedVariables false

section
variable {R : Fld} {γ : El R} {p k g : Int} {l c : Nat}
set_option maxRecDepth 100000 in
set_option maxHeartbeats 4000000 in
theorem addw_impl (h : CodeIs R γ p k g l c) (a b : List (El R)) (ha : a.length = l) (hb : b.length = l) :
    D2 27 p k g l c (iv a) (iv b) (NewIK (iv (addW a b)) 0) := by
  have HE := hide (wErr_is h (Z := [iv a, iv b]) (fun z hz => by
    simp only [List.mem_cons, List.not_mem_nil, or_false] at hz
    rcases hz with rfl | rfl
    · exact ⟨a, rfl, ha⟩
    · exact ⟨b, rfl, hb⟩))
  have HC := hide (c_bd h)
  have hl255 := h.l255
  intro A n cw A' n' cw' B w hI hJ hcap hcap' hB
  have HX := hide (CBox.start w p k g l c)
  have hal : a.length = n := by rw [← iv_len]; exact hI.len
  have hbl : b.length = n' := by rw [← iv_len]; exact hJ.len
  obtain rfl : n = l := by omega
  obtain rfl : n' = n := by omega
  have HR := hide (rws2b (c := cw) (c' := cw') (.cells #[.int .i64 p, .int .i64 k, .int .i64 g, .int .i64 n', .int .i64 c] 27) 28 hI hJ hB (by omega) (by omega))
  have HXr := hide (HX.out.alloc (.cells #[.slice A n' cw, .slice A' n' cw'] 28))
  have HI := hide hI
  have HJ := hide hJ
  have HAL := hide hal
  have HBL := hide hbl
  clear hI hJ hal hbl ha hb hcap hcap'
  go_enter Try.func27, Try.ntmps27
  go_wp2_with fail
  refine (implWErr p k g n' c _ 2 2 _ _ _ HR.out rfl (box_size _ _ _) (by omega)).mono ?_
  rw [show lists [(A, n', cw, iv a), (A', n', cw', iv b)] = [iv a, iv b] from rfl, HE.out]
  rintro e w1 ⟨rfl, hb⟩
  have HX1 := hide (HXr.out.next hb)
  clear hb
  go_wp2_with (refine wpList_mkN _ rfl (.tmp 21) (.tmp 21) 28 rfl elem64 .i64 .i64 _ _ n' rfl rfl rfl rfl (by omega) fun w2 h1 h2 => ?_; have HX2 := hide (HX1.out.next h2); rw [iv_zeros (R := R)] at h1; have HO2 := hide h1; clear h1 h2)
  have HNW := hide HX1.out.lt
  have HS2 := hide (show w1.heap.size ≤ w2.heap.size from Nat.le_of_lt (HO2.out.lt (g := w1.heap.size) rfl).2)
  go_loopw [25] (fun i wr => AwRel w p k g n' c w1.heap.size a b i wr) (fun i _ => n' - (intOf i).toNat)
  case atStart => exact ⟨0, by omega, rfl, HO2.out, HS2.out, HX2.out⟩
  case round =>
    clear HX HX1 HX2 HO2 HS2 HXr HR
    obtain ⟨j, hj, rfl, HO, HS, HX⟩ := hrel
    have HX := hide HX
    have HO := hide HO
    have HS := hide HS
    by_cases hlt : j < n'
    · obtain ⟨b1, o1, x, rfl, hb1, hx, hc1⟩ := (HI.out.below (HX.out.2.mono hB)).at_ hlt
      obtain ⟨b2, o2, y, rfl, hb2, hy, hc2⟩ := (HJ.out.below (HX.out.2.mono hB)).at_ hlt
      rw [iv_at (by rw [HAL.out]; exact hlt)] at hx
      rw [iv_at (by rw [HBL.out]; exact hlt)] at hy
      simp only [Option.some.injEq] at hx hy
      subst hx hy
      obtain ⟨x, hx⟩ : ∃ x, x = cf a j := ⟨_, rfl⟩
      obtain ⟨y, hy⟩ : ∃ y, y = cf b j := ⟨_, rfl⟩
      rw [← hx] at hc1
      rw [← hy] at hc2
      have HT := hide (aw_step (l := n') hx hy)
      have HCP := hide hc2
      have HFZ := hide (HO.out.frozenAt j)
      obtain ⟨u, hcx⟩ : ∃ u : Int, wr.cell? ⟨w1.heap.size, j, none⟩ = some (.int .i64 u) := ⟨_, HO.out.cellAt (j := j) (iv_at (by rw [tab_len]; exact hlt))⟩
      have HCX := hide hcx
      have hbl : b2 < wr.heap.size := Nat.lt_of_lt_of_le hb2 (Nat.le_trans hB (Nat.le_of_lt HX.out.lt))
      have hgl := (HO.out.lt (g := w1.heap.size) rfl).2
      have HNB := hide (show (some w1.heap.size : Option Nat) ≠ some b2 by intro e; injection e; have := HNW.out; omega)
      clear hx hy hc2 hcx
      go_wp2_with fail
      go_region_held3 (fun w' => w'.cell? ⟨w.heap.size, 0, none⟩ = some (.int .i64 p) ∧ w'.cell? ⟨w.heap.size, 1, none⟩ = some (.int .i64 k) ∧ w'.cell? ⟨w.heap.size, 2, none⟩ = some (.int .i64 g) ∧ w'.cell? ⟨b2, o2 + j, none⟩ = some (.int .i64 (y.val : Int)) ∧ w'.frozen? ⟨w1.heap.size, j, none⟩ = false)
        (first
          | exact ⟨HX.out.drew.cells.1, HX.out.drew.cells.2.1, HX.out.drew.cells.2.2.1, HCP.out, HFZ.out⟩
          | exact ⟨HX2.out.cells.1, HX2.out.cells.2.1, HX2.out.cells.2.2.1, HCP2.out, HF2.out⟩
          | exact HS4.out)
        ((go_at_call 67; refine (implSumE h.fld x y _).mono ?_; rintro e2 w2 ⟨rfl, hb2⟩; have HX2 := hide (HX.out.drew.next hb2); have HO2 := hide (HO.out.drew.below hb2 (Nat.le_refl _)); have HCP2 := hide ((hb2.cell (p := ⟨b2, o2 + j, none⟩) hbl).trans HCP.out); have HF2 := hide (HO2.out.frozenAt j); have hcx2 := (hb2.cell (p := ⟨w1.heap.size, j, none⟩) hgl).trans HCX.out; have HO4 := hide (HO2.out.stored j ((x + y).val : Nat)).1; have HG4 := hide (HO2.out.stored j ((x + y).val : Nat)).2; have HX4 := hide (HX2.out.grow HG4.out (fun r hr => by injection hr with hr; have := HNW.out; omega)); have HS4 := hide (And.intro HX4.out.cells.1 (And.intro HX4.out.cells.2.1 (And.intro HX4.out.cells.2.2.1 (And.intro ((grown_cell (p := ⟨b2, o2 + j, none⟩) HG4.out (Nat.lt_of_lt_of_le hbl hb2.size) HNB.out).trans HCP2.out) (HO4.out.frozenAt j))))); have HSZ := hide (Nat.le_trans HS.out (Nat.le_trans hb2.size HG4.out.size)); clear hb2))
      rw [iv_set, HT.out] at HO4
      clear HCP HFZ HCX HCP2 HF2 hcx2 HO2 HG4 HX2 HS4
      go_wp2_with fail
      go_roundw
      case rel => exact ⟨j + 1, by omega, by go_num, HO4.out, HSZ.out, HX4.out⟩
      case measure => simp [intOf]; omega
    · obtain rfl : j = n' := by omega
      have HF := hide (show (tab j fun i => if i < j then cf a i + cf b i else 0) = addW a b by rw [addW, HAL.out]; exact tab_congr fun i hi => if_pos hi)
      have HO8 := hide HO.out
      rw [HF.out] at HO8
      have HK := hide (newIK_of (w := w) (c := 0) HO8.out HX.out.2 (Nat.le_of_lt HNW.out))
      go_wp2_with fail
      go_ret2
      exact HK.out

set_option maxRecDepth 100000 in
set_option maxHeartbeats 4000000 in
theorem addw_spec (h : CodeIs R γ p k g l c) (a b : List (El R)) (ha : a.length = l) (hb : b.length = l) :
    D2 28 p k g l c (iv a) (iv b) (NewIK (iv (addW a b)) 0) := by
  have HE := hide (wErr_is h (Z := [iv a, iv b]) (fun z hz => by
    simp only [List.mem_cons, List.not_mem_nil, or_false] at hz
    rcases hz with rfl | rfl
    · exact ⟨a, rfl, ha⟩
    · exact ⟨b, rfl, hb⟩))
  have HC := hide (c_bd h)
  have hl255 := h.l255
  intro A n cw A' n' cw' B w hI hJ hcap hcap' hB
  have HX := hide (CBox.start w p k g l c)
  have hal : a.length = n := by rw [← iv_len]; exact hI.len
  have hbl : b.length = n' := by rw [← iv_len]; exact hJ.len
  obtain rfl : n = l := by omega
  obtain rfl : n' = n := by omega
  have HR := hide (rws2b (c := cw) (c' := cw') (.cells #[.int .i64 p, .int .i64 k, .int .i64 g, .int .i64 n', .int .i64 c] 27) 28 hI hJ hB (by omega) (by omega))
  have HXr := hide (HX.out.alloc (.cells #[.slice A n' cw, .slice A' n' cw'] 28))
  have HI := hide hI
  have HJ := hide hJ
  have HAL := hide hal
  have HBL := hide hbl
  clear hI hJ hal hbl ha hb hcap hcap'
  go_enter Try.func28, Try.ntmps28
  go_wp2_with fail
  refine (specWErr p k g n' c HC.out _ 2 2 _ _ _ HR.out rfl (box_size _ _ _) (by omega)).mono ?_
  rw [show lists [(A, n', cw, iv a), (A', n', cw', iv b)] = [iv a, iv b] from rfl, HE.out]
  rintro e w1 ⟨rfl, hb⟩
  have HX1 := hide (HXr.out.next hb)
  have HX2 := hide (HX1.out.alloc (.cells #[] 2))
  have HO2 := hide ((Own.lit0 w1 2 .i64).low (base' := w.heap.size + 1) HX1.out.lt)
  clear hb
  go_wp2_with fail
  go_loopw [9, 10] (fun v i wr => BwRel w p k g n' c a b v i wr) (fun _ i _ => n' - (intOf i).toNat)
  case atStart => exact ⟨0, by omega, rfl, HO2.out, HX2.out⟩
  case round =>
    clear HX HX1 HX2 HO2 HXr HR
    obtain ⟨v, rfl⟩ : ∃ v : Value, v = u9 := ⟨_, rfl⟩
    obtain ⟨j, hj, rfl, HO, HX⟩ := hrel
    have HX := hide HX
    have HO := hide HO
    by_cases hlt : j < n'
    · obtain ⟨b1, o1, x, rfl, hb1, hx, hc1⟩ := (HI.out.below (HX.out.2.mono hB)).at_ hlt
      obtain ⟨b2, o2, y, rfl, hb2, hy, hc2⟩ := (HJ.out.below (HX.out.2.mono hB)).at_ hlt
      rw [iv_at (by rw [HAL.out]; exact hlt)] at hx
      rw [iv_at (by rw [HBL.out]; exact hlt)] at hy
      simp only [Option.some.injEq] at hx hy
      subst hx hy
      obtain ⟨x, hx⟩ : ∃ x, x = cf a j := ⟨_, rfl⟩
      obtain ⟨y, hy⟩ : ∃ y, y = cf b j := ⟨_, rfl⟩
      rw [← hx] at hc1
      rw [← hy] at hc2
      have HN := hide (show iv (tab j fun i => cf a i + cf b i) ++ [((x + y).val : Int)] = iv (tab (j + 1) fun i => cf a i + cf b i) by rw [tab_snoc, iv_app, iv_one, hx, hy])
      have HC1 := hide hc1
      have HC2 := hide hc2
      have hbl1 : b1 < wr.heap.size := Nat.lt_of_lt_of_le hb1 (Nat.le_trans hB (Nat.le_of_lt HX.out.lt))
      have hbl2 : b2 < wr.heap.size := Nat.lt_of_lt_of_le hb2 (Nat.le_trans hB (Nat.le_of_lt HX.out.lt))
      have HNV1 := hide (show ∀ b, v.ownBlock = some b → b1 < b from fun b hb => by have := (HO.out.lt hb).1; omega)
      have HNV2 := hide (show ∀ b, v.ownBlock = some b → b2 < b from fun b hb => by have := (HO.out.lt hb).1; omega)
      have HVB := hide (show ∀ b, v.ownBlock = some b → w.heap.size < b from fun b hb => (HO.out.lt hb).1)
      have hlen : (iv (tab j fun i => cf a i + cf b i)).length + 1 ≤ 1000 := by rw [iv_len, tab_len]; omega
      have hwl : w.heap.size + 1 ≤ wr.heap.size := HX.out.lt
      clear hx hy hc1 hc2
      go_wp2_with fail
      go_region_held3 (fun w' => w'.cell? ⟨w.heap.size, 0, none⟩ = some (.int .i64 p) ∧ w'.cell? ⟨w.heap.size, 1, none⟩ = some (.int .i64 k) ∧ w'.cell? ⟨w.heap.size, 2, none⟩ = some (.int .i64 g) ∧ w'.cell? ⟨b1, o1 + j, none⟩ = some (.int .i64 (x.val : Int)) ∧ w'.cell? ⟨b2, o2 + j, none⟩ = some (.int .i64 (y.val : Int)))
        (first
          | exact ⟨HX.out.drew.cells.1, HX.out.drew.cells.2.1, HX.out.drew.cells.2.2.1, HC1.out, HC2.out⟩
          | exact ⟨HX2.out.cells.1, HX2.out.cells.2.1, HX2.out.cells.2.2.1, HD1.out, HD2.out⟩
          | exact ⟨(HX2.out.alloc _).cells.1, (HX2.out.alloc _).cells.2.1, (HX2.out.alloc _).cells.2.2.1, HE1.out, HE2.out⟩
          | exact ⟨HX3.out.cells.1, HX3.out.cells.2.1, HX3.out.cells.2.2.1, HF1.out, HF2.out⟩)
        (first
          | (go_at_call 69; refine (specAddE h.fld x y _).mono ?_; rintro e w2 ⟨rfl, hb⟩; have HX2 := hide (HX.out.drew.next hb); have HO2 := hide (HO.out.drew.below hb (Nat.le_refl _)); have HS2 := hide hb.size; have HD1 := hide ((hb.cell (p := ⟨b1, o1 + j, none⟩) hbl1).trans HC1.out); have HD2 := hide ((hb.cell (p := ⟨b2, o2 + j, none⟩) hbl2).trans HC2.out); have HBl := hide ((Below.refl w2.heap.size w2).alloc (Nat.le_refl _) (.cells #[.int .i64 ((x + y).val : Int)] 2)); have HE1 := hide ((HBl.out.cell (p := ⟨b1, o1 + j, none⟩) (Nat.lt_of_lt_of_le hbl1 hb.size)).trans HD1.out); have HE2 := hide ((HBl.out.cell (p := ⟨b2, o2 + j, none⟩) (Nat.lt_of_lt_of_le hbl2 hb.size)).trans HD2.out); clear hb)
          | (refine step_appL _ (by rfl) _ _ _ (by rfl) elem64 (w.heap.size + 1) v (iv (tab j fun i => cf a i + cf b i)) (by rfl) (HO2.out.alloc _) (w2.heap.size + 1) (some ⟨w2.heap.size, 0, none⟩) 1 1 [((x + y).val : Int)] (by rfl) (ints_one w2 2 .i64 ((x + y).val : Int)) (by omega) (by have := HX2.out.lt; rw [alloc_size]; omega) ?_; intro v3 w3 hown3 hgrow; rw [HN.out] at hown3; have HX3 := hide ((HX2.out.alloc _).grow hgrow HVB.out); have HO3 := hide hown3; have HF1 := hide ((grown_cell (p := ⟨b1, o1 + j, none⟩) hgrow (by rw [alloc_size]; exact Nat.lt_succ_of_lt (Nat.lt_of_lt_of_le hbl1 HS2.out)) (fun e => absurd (HNV1.out b1 e) (Nat.lt_irrefl _))).trans HE1.out); have HF2 := hide ((grown_cell (p := ⟨b2, o2 + j, none⟩) hgrow (by rw [alloc_size]; exact Nat.lt_succ_of_lt (Nat.lt_of_lt_of_le hbl2 HS2.out)) (fun e => absurd (HNV2.out b2 e) (Nat.lt_irrefl _))).trans HE2.out); clear hown3 hgrow))
      clear HC1 HC2 HD1 HD2 HE1 HE2 HF1 HF2 HX2 HO2
      go_wp2_with fail
      go_roundw
      case rel => exact ⟨j + 1, by omega, by go_num, HO3.out, HX3.out⟩
      case measure => simp [intOf]; omega
    · obtain rfl : j = n' := by omega
      have HF := hide (show (tab j fun i => cf a i + cf b i) = addW a b by rw [addW, HAL.out])
      have HO8 := hide HO.out
      rw [HF.out] at HO8
      have HK := hide (newIK_of (w := w) (c := 0) HO8.out HX.out.2 (Nat.le_succ _))
      go_wp2_with fail
      go_ret2
      exact HK.out
end

/-- A function of two lists: its contract, whatever the lists' memory. -/
def E2 (f : Nat) (z z' : List Int) (Post : World → Ending → World → Prop) : Prop :=
  ∀ (A : Option Addr) (n c : Nat) (A' : Option Addr) (n' c' B : Nat) (w : World), Ints .i64 w B A n z → Ints .i64 w B A' n' z' → n ≤ c → n' ≤ c' → B ≤ w.heap.size → Calls Try.prog f #[.slice A n c, .slice A' n' c'] w (Post w)
/-- The code of two lists that are held against each other. -/
def disC (z z' : List Int) : Int := if 255 < z.length ∨ 255 < z'.length then 3 else if z.length = z'.length then 0 else 5
def disV (z z' : List Int) : Int := if disC z z' = 0 then (differ z z' : Int) else 0
theorem dis_cases (z z' : List Int) : ((255 < z.length ∨ z.length ≤ 255 ∧ 255 < z'.length) ∧ disC z z' = 3 ∧ disV z z' = 0) ∨ (z.length ≤ 255 ∧ z'.length ≤ 255 ∧ z.length ≠ z'.length ∧ disC z z' = 5 ∧ disV z z' = 0) ∨
    (z.length ≤ 255 ∧ z'.length ≤ 255 ∧ z.length = z'.length ∧ disC z z' = 0 ∧ disV z z' = (differ z z' : Int)) := by
  by_cases h1 : 255 < z.length ∨ 255 < z'.length
  · have e : disC z z' = 3 := if_pos h1
    exact .inl ⟨by omega, e, by rw [disV, e]; rfl⟩
  · by_cases h2 : z.length = z'.length
    · have e : disC z z' = 0 := by rw [disC, if_neg h1, if_pos h2]
      exact .inr (.inr ⟨by omega, by omega, h2, e, by rw [disV, if_pos e]⟩)
    · have e : disC z z' = 5 := by rw [disC, if_neg h1, if_neg h2]
      exact .inr (.inl ⟨by omega, by omega, h2, e, by rw [disV, e]; rfl⟩)
def WdRel (n : Nat) (za zb : List Int) (d i : Value) : Prop := ∃ j t : Nat, j ≤ n ∧ t ≤ j ∧ i = .int .i64 j ∧ d = .int .i64 t ∧ Hid (differ (za.take j) (zb.take j) = t)

set_option maxRecDepth 100000 in
set_option maxHeartbeats 4000000 in
theorem dist_both (z z' : List Int) (hz : z.length ≤ 1048576) (hz' : z'.length ≤ 1048576) :
    E2 47 z z' (GivesII (disV z z') (disC z z')) ∧ E2 33 z z' (GivesII (disV z z') (disC z z')) := by
  rcases dis_cases z z' with ⟨h, e1, e2⟩ | ⟨h1, h2, h3, e1, e2⟩ | ⟨h1, h2, h3, e1, e2⟩
  · rw [e1, e2]
    refine ⟨?_, ?_⟩ <;>
    · intro A n c A' n' c' B w hI hJ hcap hcap' hB
      have hl := hI.len
      have hl' := hJ.len
      rw [hl, hl'] at h
      rw [hl] at hz
      rw [hl'] at hz'
      clear hI hJ hl hl' e1 e2
      rcases h with h | ⟨h, h'⟩
      · have z1 : decide ((255 : Int) < (n : Int)) = true := by simp; omega
        first
          | go_enter Try.func47, Try.ntmps47
          | go_enter Try.func33, Try.ntmps33
        go_wp2_with fail
        go_ret2
        exact ⟨rfl, Below.refl _ _⟩
      · have z1 : decide ((255 : Int) < (n : Int)) = false := by simp; omega
        have z2 : decide ((255 : Int) < (n' : Int)) = true := by simp; omega
        first
          | go_enter Try.func47, Try.ntmps47
          | go_enter Try.func33, Try.ntmps33
        go_wp2_with fail
        go_ret2
        exact ⟨rfl, Below.refl _ _⟩
  · rw [e1, e2]
    refine ⟨?_, ?_⟩ <;>
    · intro A n c A' n' c' B w hI hJ hcap hcap' hB
      have hl := hI.len
      have hl' := hJ.len
      rw [hl] at h1
      rw [hl'] at h2
      have h4 : n ≠ n' := by omega
      clear hI hJ hl hl' e1 e2 h3 hz hz'
      have z1 : decide ((255 : Int) < (n : Int)) = false := by simp; omega
      have z2 : decide ((255 : Int) < (n' : Int)) = false := by simp; omega
      have z3 : ((n : Int) == (n' : Int)) = false := by simp; omega
      have z4 : ((n : Int) != (n' : Int)) = true := by simp; omega
      have z5 : (n == n') = false := by simpa using h4
      have z6 : (n != n') = true := by simpa using h4
      clear h4
      first
        | go_enter Try.func47, Try.ntmps47
        | go_enter Try.func33, Try.ntmps33
      go_wp2_with fail
      go_ret2
      exact ⟨rfl, Below.refl _ _⟩
  · rw [e1, e2]
    refine ⟨?_, ?_⟩
    · intro A n c A' n' c' B w hI hJ hcap hcap' hB
      have hl := hI.len
      have hl' := hJ.len
      obtain rfl : n = n' := by omega
      rw [hl] at h1
      have HI := hide hI
      have HJ := hide hJ
      clear hI hJ hl hl' e1 e2 h3 hz hz' h2
      have z1 : decide ((255 : Int) < (n : Int)) = false := by simp; omega
      go_enter Try.func47, Try.ntmps47
      go_wp2_with fail
      refine (specDiffer A n c B z A' c' B z' w HI.out HJ.out (by omega)).mono ?_
      rintro e w1 ⟨rfl, m, rfl⟩
      go_wp2_with fail
      go_ret2
      exact ⟨rfl, below_drewN (Below.refl _ _) m⟩
    · intro A n c A' n' c' B w hI hJ hcap hcap' hB
      have hl := hI.len
      have hl' := hJ.len
      obtain rfl : n = n' := by omega
      rw [hl] at h1
      have HI := hide hI
      have HJ := hide hJ
      have HL := hide hl
      have HL' := hide hl'
      clear hI hJ hl hl' e1 e2 h3 hz hz' h2
      have z1 : decide ((255 : Int) < (n : Int)) = false := by simp; omega
      go_enter Try.func33, Try.ntmps33
      go_wp2_with fail
      go_loop [6, 24] (fun d i => WdRel n z z' d i) (fun _ i => n - (intOf i).toNat)
      case atStart => exact ⟨0, 0, by omega, by omega, rfl, rfl, by simp [Hid, differ]⟩
      case round =>
        obtain ⟨j, t, hj, ht, rfl, rfl, HT⟩ := hrel
        by_cases hlt : j < n
        · obtain ⟨b, off, x, rfl, hb, hx, hc⟩ := HI.out.at_ hlt
          obtain ⟨b', off', y, rfl, hb', hy, hc'⟩ := HJ.out.at_ hlt
          have HS := hide (differ_snoc hx hy)
          clear hx hy
          by_cases hxy : x = y
          · subst hxy
            have HN := hide (show differ (z.take (j + 1)) (z'.take (j + 1)) = t by rw [HS.out, HT.out]; simp)
            go_wp2_with fail
            go_round
            case rel => exact ⟨j + 1, t, by omega, by omega, by go_num, rfl, HN⟩
            case measure => simp [intOf]; omega
          · have HN := hide (show differ (z.take (j + 1)) (z'.take (j + 1)) = t + 1 by rw [HS.out, HT.out, if_neg hxy])
            have e0 : (x != y) = true := by simpa using hxy
            clear hxy
            go_wp2_with fail
            go_round
            case rel => exact ⟨j + 1, t + 1, by omega, by omega, by go_num, by go_num, HN⟩
            case measure => simp [intOf]; omega
        · have HF := hide (show differ z z' = t by
            have := HT.out
            rw [List.take_of_length_le (by rw [HL.out]; omega), List.take_of_length_le (by rw [HL'.out]; omega)] at this
            exact this)
          go_wp2_with fail
          go_ret2
          exact ⟨ret_ii (by rw [HF.out]) rfl, Below.refl _ _⟩

/-- Whether so much damage is within the bound. -/
def withB (p k g L C e1 e2 : Int) : Bool := codeB p k g L C && decide (0 ≤ e1 ∧ 0 ≤ e2 ∧ 2 * e1 + e2 ≤ C)
theorem within_no {p k g L C e1 e2 : Int} (h : codeB p k g L C = false) : withB p k g L C e1 e2 = false := by rw [withB, h]; rfl
theorem within_is {p k g L C e1 e2 : Int} (h : codeB p k g L C = true) : withB p k g L C e1 e2 = decide (0 ≤ e1 ∧ 0 ≤ e2 ∧ 2 * e1 + e2 ≤ C) := by rw [withB, h]; rfl
def D0ii (f : Nat) (p k g L C e1 e2 : Int) (Post : World → Ending → World → Prop) : Prop :=
  ∀ w : World, Calls Try.prog f #[.agg #[.int .i64 p, .int .i64 k, .int .i64 g, .int .i64 L, .int .i64 C], .int .i64 e1, .int .i64 e2] w (Post w)

set_option maxRecDepth 100000 in
set_option maxHeartbeats 4000000 in
theorem within_both (p k g L C e1 e2 : Int) (hC : -9223372036854775808 ≤ C ∧ C ≤ 9223372036854775807) (h1 : -9223372036854775808 ≤ e1 ∧ e1 ≤ 9223372036854775807) (h2 : -9223372036854775808 ≤ e2 ∧ e2 ≤ 9223372036854775807) :
    D0ii 48 p k g L C e1 e2 (Gives (.bool (withB p k g L C e1 e2))) ∧ D0ii 34 p k g L C e1 e2 (Gives (.bool (withB p k g L C e1 e2))) := by
  have HC := hide hC
  rcases h : codeB p k g L C with _ | _
  · have HB := hide h
    have HF := hide (within_no (e1 := e1) (e2 := e2) h)
    clear h
    refine ⟨?_, ?_⟩
    · intro w
      have HX := hide (CBox.start w p k g L C)
      go_enter Try.func48, Try.ntmps48
      go_wp2_with fail
      refine (specIsCode p k g L C _ HC.out).mono ?_
      rw [HB.out]
      rintro e w1 ⟨rfl, hb⟩
      have HX1 := hide (HX.out.next hb)
      clear hb
      go_wp2_with fail
      go_ret
      exact ⟨ret_bool HF.out, HX1.out.2⟩
    · intro w
      have HX := hide (CBox.start w p k g L C)
      go_enter Try.func34, Try.ntmps34
      go_wp2_with fail
      refine (implCodeValid p k g L C _).mono ?_
      rw [HB.out]
      rintro e w1 ⟨rfl, hb⟩
      have HX1 := hide (HX.out.next hb)
      clear hb
      go_wp2_with fail
      go_ret
      exact ⟨ret_bool HF.out, HX1.out.2⟩
  · have HB := hide h
    have HF := hide (within_is (e1 := e1) (e2 := e2) h)
    obtain ⟨R, γ, l, c, rfl, rfl, hc⟩ := codeB_open h
    have hc64 := hc.c64
    clear h
    refine ⟨?_, ?_⟩
    · intro w
      have HX := hide (CBox.start w p k g l c)
      rcases hi1 : inR e1 0 c with _ | _
      · have HI1 := hide hi1
        have HV := hide (show decide (0 ≤ e1 ∧ 0 ≤ e2 ∧ 2 * e1 + e2 ≤ (c : Int)) = false by
          rw [decide_eq_false_iff_not]; rintro ⟨a1, a2, a3⟩
          rw [inR_yes a1 (by omega)] at hi1; cases hi1)
        clear hi1
        go_enter Try.func48, Try.ntmps48
        go_wp2_with fail
        refine (specIsCode p k g l c _ HC.out).mono ?_
        rw [HB.out]
        rintro e w1 ⟨rfl, hb⟩
        have HX1 := hide (HX.out.next hb)
        clear hb
        obtain ⟨c0, c1, c2, c3, c4⟩ := HX1.out.cells
        go_wp2_with fail
        refine (specIn_is e1 0 c false _ HI1.out).mono ?_
        rintro e w2 ⟨rfl, rfl⟩
        go_wp2_with fail
        go_ret
        exact ⟨ret_bool (by rw [HF.out, HV.out]), HX1.out.2⟩
      · have HI1 := hide hi1
        rcases hi2 : inR e2 0 c with _ | _
        · have HI2 := hide hi2
          have HV := hide (show decide (0 ≤ e1 ∧ 0 ≤ e2 ∧ 2 * e1 + e2 ≤ (c : Int)) = false by
            rw [decide_eq_false_iff_not]; rintro ⟨a1, a2, a3⟩
            rw [inR_yes a2 (by omega)] at hi2; cases hi2)
          clear hi1 hi2
          go_enter Try.func48, Try.ntmps48
          go_wp2_with fail
          refine (specIsCode p k g l c _ HC.out).mono ?_
          rw [HB.out]
          rintro e w1 ⟨rfl, hb⟩
          have HX1 := hide (HX.out.next hb)
          clear hb
          obtain ⟨c0, c1, c2, c3, c4⟩ := HX1.out.cells
          go_wp2_with fail
          refine (specIn_is e1 0 c true _ HI1.out).mono ?_
          rintro e w2 ⟨rfl, rfl⟩
          go_wp2_with fail
          refine (specIn_is e2 0 c false _ HI2.out).mono ?_
          rintro e w2 ⟨rfl, rfl⟩
          go_wp2_with fail
          go_ret
          exact ⟨ret_bool (by rw [HF.out, HV.out]), HX1.out.2⟩
        · have HI2 := hide hi2
          have hr1 : 0 ≤ e1 ∧ e1 ≤ c := by simpa [inR] using hi1
          have hr2 : 0 ≤ e2 ∧ e2 ≤ c := by simpa [inR] using hi2
          obtain ⟨a1, a2⟩ := hr1
          obtain ⟨a3, a4⟩ := hr2
          have HV := hide (show decide (0 ≤ e1 ∧ 0 ≤ e2 ∧ 2 * e1 + e2 ≤ (c : Int)) = decide (2 * e1 + e2 ≤ (c : Int)) by rw [decide_eq_decide]; omega)
          clear hi1 hi2
          go_enter Try.func48, Try.ntmps48
          go_wp2_with fail
          refine (specIsCode p k g l c _ HC.out).mono ?_
          rw [HB.out]
          rintro e w1 ⟨rfl, hb⟩
          have HX1 := hide (HX.out.next hb)
          clear hb
          obtain ⟨c0, c1, c2, c3, c4⟩ := HX1.out.cells
          go_wp2_with fail
          refine (specIn_is e1 0 c true _ HI1.out).mono ?_
          rintro e w2 ⟨rfl, rfl⟩
          go_wp2_with fail
          refine (specIn_is e2 0 c true _ HI2.out).mono ?_
          rintro e w2 ⟨rfl, rfl⟩
          go_wp2_with fail
          go_ret
          exact ⟨ret_bool (by rw [HF.out, HV.out]), HX1.out.2⟩
    · intro w
      have HX := hide (CBox.start w p k g l c)
      rcases (show (decide (e1 < 0) = true) ∨ (decide (e1 < 0) = false ∧ decide (e2 < 0) = true) ∨ (decide (e1 < 0) = false ∧ decide (e2 < 0) = false ∧ decide ((c : Int) < e2) = true) ∨ (decide (e1 < 0) = false ∧ decide (e2 < 0) = false ∧ decide ((c : Int) < e2) = false) by
        simp only [decide_eq_true_eq, decide_eq_false_iff_not]; omega) with a1 | ⟨a1, a2⟩ | ⟨a1, a2, a3⟩ | ⟨a1, a2, a3⟩
      rotate_left 3
      · have b1 := of_decide_eq_false a1
        have b2 := of_decide_eq_false a2
        have b3 := of_decide_eq_false a3
        have b4 : 0 ≤ e1 := by omega
        have b5 : 0 ≤ e2 := by omega
        have b6 : 0 ≤ (c : Int) - e2 := by omega
        have HV := hide (show decide (0 ≤ e1 ∧ 0 ≤ e2 ∧ 2 * e1 + e2 ≤ (c : Int)) = decide (e1 ≤ ((c : Int) - e2) / 2) by rw [decide_eq_decide]; omega)
        clear b1 b2 b3
        go_enter Try.func34, Try.ntmps34
        go_wp2_with fail
        refine (implCodeValid p k g l c _).mono ?_
        rw [HB.out]
        rintro e w1 ⟨rfl, hb⟩
        have HX1 := hide (HX.out.next hb)
        clear hb
        obtain ⟨c0, c1, c2, c3, c4⟩ := HX1.out.cells
        go_wp2_with fail
        go_ret
        exact ⟨ret_bool (by rw [HF.out, HV.out]), HX1.out.2⟩
      all_goals
        have HV := hide (show decide (0 ≤ e1 ∧ 0 ≤ e2 ∧ 2 * e1 + e2 ≤ (c : Int)) = false by
          simp only [decide_eq_true_eq, decide_eq_false_iff_not] at *; omega)
        go_enter Try.func34, Try.ntmps34
        go_wp2_with fail
        refine (implCodeValid p k g l c _).mono ?_
        rw [HB.out]
        rintro e w1 ⟨rfl, hb⟩
        have HX1 := hide (HX.out.next hb)
        clear hb
        obtain ⟨c0, c1, c2, c3, c4⟩ := HX1.out.cells
        go_wp2_with fail
        go_ret
        exact ⟨ret_bool (by rw [HF.out, HV.out]), HX1.out.2⟩
end Go.Proofs.Ytfbkmbjbjgfenaa
