/-
  The contracts of locators, valid indices, locator polynomials, the indices that one locates, and of equal lists, of the model.
  Condition: the code is valid.
-/
import Derived.Test.YtlphodhecaagbaaGreatDImpl4
import Derived.Test.YtlphodhecaagbaaGreatCode7
import Derived.Test.YtlphodhecaagbaaGreatTail2
namespace Go.Proofs.YtlphodhecaagbaaGreat
open Go.RowKit
set_option linter.unusedSimpArgs false
set_option linter.unusedVariables false

section
variable {R : Fld} {γ : El R} {p k g : Int} {l c : Nat}
theorem specPowE (h : CodeIs R γ p k g l c) (j : Nat) (hj : j ≤ 1000) (w : World) :
    Calls Tryz.prog 144 #[.agg #[.int .i64 p, .int .i64 k, .int .i64 g], .int .i64 γ.val, .int .i64 j] w (Gives (.int .i64 ((epw γ j).val : Nat)) w) := by
  rw [epw_val]; exact specPow0 h.fld.kind γ.val j γ.lt (by omega) w

set_option maxRecDepth 100000 in
set_option maxHeartbeats 2000000 in
theorem specLocator (h : CodeIs R γ p k g l c) (i : Nat) (hi : i < l) (w : World) :
    Calls Tryz.prog 139 #[.agg #[.int .i64 p, .int .i64 k, .int .i64 g, .int .i64 l, .int .i64 c], .int .i64 i] w (Gives (.int .i64 ((lcE γ l i).val : Nat)) w) := by
  have HX := hide (CBox.start w p k g l c)
  have hl255 := h.l255
  obtain ⟨j, hj⟩ : ∃ j, j = l - 1 - i := ⟨_, rfl⟩
  have hjb : j ≤ 1000 := by omega
  have hw1 : IntKind.i64.wrap ((l : Int) - 1) = ((l - 1 : Nat) : Int) := by rw [IntWalk.i64_in _ ⟨by omega, by omega⟩]; omega
  have hw2 : IntKind.i64.wrap (((l - 1 : Nat) : Int) - (i : Int)) = (j : Int) := by rw [IntWalk.i64_in _ ⟨by omega, by omega⟩]; omega
  have HF := hide (show (((lcE γ l i).val : Nat) : Int) = (((epw γ j).val : Nat) : Int) by rw [lcE, hj])
  obtain ⟨m, hm⟩ : ∃ m : Int, m = ((l - 1 : Nat) : Int) := ⟨_, rfl⟩
  rw [← hm] at hw1 hw2
  clear hj hm
  go_enter Tryz.func139, Tryz.ntmps139
  go_wp2_with fail
  go_region_held3 (fun w' => w'.cell? ⟨w.heap.size, 0, none⟩ = some (.int .i64 p) ∧ w'.cell? ⟨w.heap.size, 1, none⟩ = some (.int .i64 k) ∧ w'.cell? ⟨w.heap.size, 2, none⟩ = some (.int .i64 g) ∧ w'.cell? ⟨w.heap.size, 3, none⟩ = some (.int .i64 l) ∧ w'.cell? ⟨w.heap.size, 4, none⟩ = some (.int .i64 c))
    (first
      | exact HX.out.drew.cells
      | exact HX2.out.cells
      | exact HX3.out.cells)
    (first
      | (go_at_call 115; refine (specGenerator h.gval _).mono ?_; rintro e w2 ⟨rfl, hb2⟩; have HX2 := hide (HX.out.drew.next hb2); clear hb2)
      | (go_at_call 144; refine (specPowE h j hjb _).mono ?_; rintro e w3 ⟨rfl, hb3⟩; have HX3 := hide (HX2.out.next hb3); clear hb3))
  go_wp2_with fail
  go_ret
  exact ⟨ret_int HF, HX3.out.2⟩

def IxRel (w : World) (p k g : Int) (L C : Int) (n : Nat) (zs : List Int) (i : Value) (wr : World) : Prop :=
  ∃ (j : Nat) (lo : Int), j ≤ n ∧ i = .int .i64 j ∧ Hid (idxF L lo (zs.drop j) = idxB L zs) ∧ ((j = 0 ∧ lo = 0) ∨ ∃ (i' : Nat) (y : Int), j = i' + 1 ∧ zs[i']? = some y ∧ lo = y + 1 ∧ 0 ≤ y ∧ y < L) ∧ CBox w wr p k g L C

def SpRel (w : World) (p k g : Int) (l c : Nat) (γ : El R) (J : List Nat) (v i : Value) (wr : World) : Prop :=
  ∃ (j : Nat) (Ap : Option Addr) (cp : Nat), j ≤ J.length ∧ i = .int .i64 j ∧ v = .slice Ap (j + 1) cp ∧ Own wr (w.heap.size + 1) 2 .i64 (.slice Ap (j + 1) cp) (iv (locP (locs γ l (J.take j)))) ∧ CBox w wr p k g l c

set_option maxRecDepth 100000 in
set_option maxHeartbeats 4000000 in
theorem specLocPoly (h : CodeIs R γ p k g l c) (J : List Nat) (hJ : ∀ i ∈ J, i < l) (A : Option Addr) (n cc B : Nat) (w : World) (hI : Ints .i64 w B A n (nv J)) (hB : B ≤ w.heap.size) (hn : n ≤ 1000) :
    Calls Tryz.prog 141 #[.agg #[.int .i64 p, .int .i64 k, .int .i64 g, .int .i64 l, .int .i64 c], .slice A n cc] w (NewE (locP (locs γ l J)) w) := by
  have HX := hide (CBox.start w p k g l c)
  have hl255 := h.l255
  have hJn : J.length = n := by rw [← nv_len]; exact hI.len
  have HJN := hide hJn
  have HI := hide hI
  have hF := h.far
  have HF := hide hF
  have HX2 := hide (HX.out.alloc (.cells #[.int .i64 1] 2))
  have HO2 := hide (own_lit1 (w.alloc (.cells #[.int .i64 p, .int .i64 k, .int .i64 g, .int .i64 l, .int .i64 c] 89)) 2 .i64 1)
  rw [alloc_size] at HO2
  clear hI hF hJn
  go_enter Tryz.func141, Tryz.ntmps141
  go_wp2_with fail
  go_loopw [5, 6] (fun v i wr => SpRel w p k g l c γ J v i wr) (fun _ i _ => n - (intOf i).toNat)
  case atStart => exact ⟨0, _, 1, by omega, rfl, rfl, HO2.out, HX2.out⟩
  case round =>
    clear HX HX2 HO2
    obtain ⟨j, Ap, cp, hj, rfl, rfl, HO, HX⟩ := hrel
    rw [HJN.out] at hj
    have HX := hide HX
    have HO := hide HO
    by_cases hlt : j < n
    · obtain ⟨b, off, z', rfl, hb, hz, hc⟩ := (HI.out.below (HX.out.2.mono hB)).at_ hlt
      obtain ⟨z, hzJ, rfl⟩ := nv_get hz
      have hzl : z < l := hJ z (List.mem_of_getElem? hzJ)
      obtain ⟨x, hx⟩ : ∃ x, x = lcE γ l z := ⟨_, rfl⟩
      have HXL := hide hx
      have HN := hide (show trim (mulP (locP (locs γ l (J.take j))) (lf x)) = locP (locs γ l (J.take (j + 1))) by rw [hx, ← locs_take hzJ]; exact trim_id (tr_loc (locs_ne HF.out _)))
      have HGL := hide (show (locP (locs γ l (J.take (j + 1)))).length = j + 1 + 1 by rw [locJ_len HF.out, List.length_take, HJN.out, Nat.min_eq_left hlt])
      have hbl : b < wr.heap.size := Nat.lt_of_lt_of_le hb (Nat.le_trans hB (Nat.le_of_lt HX.out.lt))
      have HC := hide hc
      clear hx hz hzJ hc
      go_wp2_with fail
      go_region_held3 (fun w' => w'.cell? ⟨w.heap.size, 0, none⟩ = some (.int .i64 p) ∧ w'.cell? ⟨w.heap.size, 1, none⟩ = some (.int .i64 k) ∧ w'.cell? ⟨w.heap.size, 2, none⟩ = some (.int .i64 g) ∧ w'.cell? ⟨w.heap.size, 3, none⟩ = some (.int .i64 l) ∧ w'.cell? ⟨w.heap.size, 4, none⟩ = some (.int .i64 c) ∧ w'.cell? ⟨b, off + j, none⟩ = some (.int .i64 (z : Int)))
        (first
          | exact ⟨HX.out.drew.cells.1, HX.out.drew.cells.2.1, HX.out.drew.cells.2.2.1, HX.out.drew.cells.2.2.2.1, HX.out.drew.cells.2.2.2.2, HC.out⟩
          | exact ⟨HX4.out.cells.1, HX4.out.cells.2.1, HX4.out.cells.2.2.1, HX4.out.cells.2.2.2.1, HX4.out.cells.2.2.2.2, HC4.out⟩
          | exact ⟨HX2.out.cells.1, HX2.out.cells.2.1, HX2.out.cells.2.2.1, HX2.out.cells.2.2.2.1, HX2.out.cells.2.2.2.2, HC2.out⟩
          | exact ⟨(HX2.out.alloc _).cells.1, (HX2.out.alloc _).cells.2.1, (HX2.out.alloc _).cells.2.2.1, (HX2.out.alloc _).cells.2.2.2.1, (HX2.out.alloc _).cells.2.2.2.2, HC2a.out⟩
          | exact ⟨HX3.out.cells.1, HX3.out.cells.2.1, HX3.out.cells.2.2.1, HX3.out.cells.2.2.2.1, HX3.out.cells.2.2.2.2, HC3.out⟩)
        (first
          | (go_at_call 139; refine (specLocator h z hzl _).mono ?_; rw [← HXL.out]; rintro e w4 ⟨rfl, hb4⟩; have HX4 := hide (HX.out.drew.next hb4); have HO4 := hide (HO.out.drew.below hb4 (Nat.le_refl _)); have HC4 := hide ((hb4.cell (p := ⟨b, off + j, none⟩) hbl).trans HC.out); have hbl4 : b < w4.heap.size := Nat.lt_of_lt_of_le hbl hb4.size; clear hb4)
          | (go_at_call 85; refine (specNegE h.fld x _).mono ?_; rintro e w2 ⟨rfl, hb2⟩; have HX2 := hide (HX4.out.next hb2); have HO2 := hide (HO4.out.below hb2 (Nat.le_refl _)); have HC2 := hide ((hb2.cell (p := ⟨b, off + j, none⟩) hbl4).trans HC4.out); have hbl2 : b < w2.heap.size := Nat.lt_of_lt_of_le hbl4 hb2.size; have HC2a := hide ((((Below.refl w2.heap.size w2).alloc (Nat.le_refl _) (.cells #[.int .i64 1, .int .i64 ((-x).val : Int)] 2)).cell (p := ⟨b, off + j, none⟩) hbl2).trans HC2.out); clear hb2)
          | (go_at_call 116; refine (specMulE' h.fld (locP (locs γ l (J.take j))) (lf x) Ap (some ⟨w2.heap.size, 0, none⟩) (j + 1) cp 2 2 (w2.heap.size + 1) _ (by have := (HO2.out.alloc (.cells #[.int .i64 1, .int .i64 ((-x).val : Int)] 2)).intsE; rw [alloc_size] at this; exact this) (ints_two w2 2 .i64 1 ((-x).val : Int)) (by rw [alloc_size]; exact Nat.le_refl _) (by omega) (by omega)).mono ?_; rw [HN.out]; rintro e w3 ⟨A3, c3, rfl, hc3, ho3, hb3⟩; rw [HGL.out] at ho3 hc3 ⊢; have HX3 := hide ((HX2.out.alloc _).next hb3); have HO3 := hide (ho3.low (base' := w.heap.size + 1) (by have := HX2.out.lt; rw [alloc_size]; omega)); have HC3 := hide ((hb3.cell (p := ⟨b, off + j, none⟩) (by rw [alloc_size]; exact Nat.lt_succ_of_lt hbl2)).trans HC2a.out); clear ho3 hc3 hb3))
      go_wp2_with fail
      go_roundw
      case rel => exact ⟨j + 1, _, c3, by rw [HJN.out]; omega, by go_num, rfl, HO3.out, HX3.out⟩
      case measure => simp [intOf]; omega
    · obtain rfl : j = n := by omega
      have HE := hide (show locP (locs γ l (J.take j)) = locP (locs γ l J) by rw [List.take_of_length_le (by rw [HJN.out]; exact Nat.le_refl _)])
      rw [HE.out] at HO
      have HG := hide (newE_of (w := w) HO.out HX.out.2 (Nat.le_succ _))
      go_wp2_with fail
      go_ret
      exact HG.out

def SfRel (w : World) (p k g : Int) (l c : Nat) (γ : El R) (ps : List (El R)) (v i : Value) (wr : World) : Prop :=
  ∃ j : Nat, j ≤ l ∧ i = .int .i64 j ∧ Own wr (w.heap.size + 1) 2 .i64 v (nv (hitN γ l j ps)) ∧ CBox w wr p k g l c

set_option maxRecDepth 100000 in
set_option maxHeartbeats 4000000 in
theorem specFind (h : CodeIs R γ p k g l c) (ps : List (El R)) (A : Option Addr) (n cc B : Nat) (w : World) (hI : Ints .i64 w B A n (iv ps)) (hB : B ≤ w.heap.size) (hn : n ≤ 549755813888) :
    Calls Tryz.prog 108 #[.agg #[.int .i64 p, .int .i64 k, .int .i64 g, .int .i64 l, .int .i64 c], .slice A n cc] w (NewInts 2 .i64 (nv (hits γ l ps)) w) := by
  have HX := hide (CBox.start w p k g l c)
  have hl255 := h.l255
  have HI := hide hI
  clear hI
  have HX2 := hide (HX.out.alloc (.cells #[] 2))
  have HO2 := hide (Own.lit0 (w.alloc (.cells #[.int .i64 p, .int .i64 k, .int .i64 g, .int .i64 l, .int .i64 c] 89)) 2 .i64)
  rw [alloc_size] at HO2
  go_enter Tryz.func108, Tryz.ntmps108
  go_wp2_with fail
  go_loopw [5, 6] (fun v i wr => SfRel w p k g l c γ ps v i wr) (fun _ i _ => l - (intOf i).toNat)
  case atStart => exact ⟨0, by omega, rfl, HO2.out, HX2.out⟩
  case round =>
    clear HX HX2 HO2
    obtain ⟨v, rfl⟩ : ∃ v : Value, v = u5 := ⟨_, rfl⟩
    obtain ⟨j, hj, rfl, HO, HX⟩ := hrel
    have HX := hide HX
    have HO := hide HO
    obtain ⟨c0, c1, c2, c3, c4⟩ := HX.out.cells
    by_cases hlt : j < l
    · obtain ⟨x, hx⟩ : ∃ x, x = lcE γ l j := ⟨_, rfl⟩
      have HXL := hide hx
      have hsu := hitN_succ γ l j ps
      rw [← hx] at hsu
      obtain ⟨y, hy⟩ : ∃ y, y = ev x.inv ps := ⟨_, rfl⟩
      rw [← hy] at hsu
      have HYY := hide hy
      have HSU := hide hsu
      have HI1 := hide (HI.out.below (HX.out.2.mono hB))
      clear hx hy hsu c0 c1 c2 c4
      go_wp2_with fail
      go_region_held3 (fun w' => w'.cell? ⟨w.heap.size, 0, none⟩ = some (.int .i64 p) ∧ w'.cell? ⟨w.heap.size, 1, none⟩ = some (.int .i64 k) ∧ w'.cell? ⟨w.heap.size, 2, none⟩ = some (.int .i64 g) ∧ w'.cell? ⟨w.heap.size, 3, none⟩ = some (.int .i64 l) ∧ w'.cell? ⟨w.heap.size, 4, none⟩ = some (.int .i64 c))
        (first
          | exact HX.out.drew.cells
          | exact HX2.out.cells
          | exact HX3.out.cells
          | exact HX4.out.cells)
        (first
          | (go_at_call 139; refine (specLocator h j hlt _).mono ?_; rw [← HXL.out]; rintro e w2 ⟨rfl, hb2⟩; have HX2 := hide (HX.out.drew.next hb2); have HO2 := hide (HO.out.drew.below hb2 (Nat.le_refl _)); clear hb2)
          | (go_at_call 114; refine (specInvE h.fld x _).mono ?_; rintro e w3 ⟨rfl, hb3⟩; have HX3 := hide (HX2.out.next hb3); have HO3 := hide (HO2.out.below hb3 (Nat.le_refl _)); clear hb3)
          | (go_at_call 138; refine (specEvalE h.fld x.inv ps A n cc B _ (HI.out.below (HX3.out.2.mono hB)) (Nat.le_trans hB (Nat.le_of_lt HX3.out.lt)) (by omega)).mono ?_; rw [← HYY.out]; rintro e w4 ⟨rfl, hb4⟩; have HX4 := hide (HX3.out.next hb4); have HO4 := hide (HO3.out.below hb4 (Nat.le_refl _)); clear hb4))
      have hwl : w.heap.size + 1 ≤ w4.heap.size := HX4.out.lt
      have HVB := hide (show ∀ b, v.ownBlock = some b → w.heap.size < b from fun b hb => (HO4.out.lt hb).1)
      have hlen : (nv (hitN γ l j ps)).length + 1 ≤ 100000 := by rw [nv_len]; have := hitN_len γ l j ps; omega
      clear c3 HX HO HX2 HO2 HX3 HO3
      by_cases hz : y = 0
      · have HZ := hide (show hitN γ l (j + 1) ps = hitN γ l j ps ++ [j] by rw [HSU.out, if_pos hz])
        have e1 : ((y.val : Int) == 0) = true := by rw [hz]; rfl
        clear hz HSU
        go_wp2_with (at_builtin; refine wpList_app1 w4 rfl _ _ _ rfl elem64 (w.heap.size + 1) v _ rfl HO4.out (j : Int) rfl (by omega) hwl ?_; intro v5 w5 hown hgrow)
        have HO5 := hide (show Own w5 (w.heap.size + 1) 2 .i64 v5 (nv (hitN γ l (j + 1) ps)) by rw [HZ.out, nv_app]; exact hown)
        have HX5 := hide (HX4.out.grow hgrow HVB.out)
        clear hown hgrow
        go_wp2_with fail
        go_roundw
        case rel => exact ⟨j + 1, by omega, by go_num, HO5.out, HX5.out⟩
        case measure => simp [intOf]; omega
      · have HZ := hide (show hitN γ l (j + 1) ps = hitN γ l j ps by rw [HSU.out, if_neg hz, List.append_nil])
        have e1 : ((y.val : Int) == 0) = false := by have := val_ne hz; simp; omega
        have HO5 := hide (show Own w4 (w.heap.size + 1) 2 .i64 v (nv (hitN γ l (j + 1) ps)) by rw [HZ.out]; exact HO4.out)
        clear hz HSU
        go_wp2_with fail
        go_roundw
        case rel => exact ⟨j + 1, by omega, by go_num, HO5.out, HX4.out⟩
        case measure => simp [intOf]; omega
    · obtain rfl : j = l := by omega
      have HO2 := hide (show Own wr (w.heap.size + 1) 2 .i64 v (nv (hits γ j ps)) from HO.out)
      obtain ⟨A1, c1', rfl, hc⟩ := HO2.out.form
      have HE := hide (show NewInts 2 .i64 (nv (hits γ j ps)) w (.returned (.slice A1 (nv (hits γ j ps)).length c1')) wr from ⟨A1, c1', rfl, hc, HO2.out.low (Nat.le_succ _), HX.out.2⟩)
      go_wp2_with fail
      go_ret
      exact HE.out
end

def SmRel (w : World) (n : Nat) (zs ys : List Int) (i : Value) (wr : World) : Prop :=
  ∃ j : Nat, j ≤ n ∧ i = .int .i64 j ∧ Hid (decide (zs.drop j = ys.drop j) = decide (zs = ys)) ∧ Below w.heap.size w wr

def HsRel (n : Nat) (z : Int) (zs : List Int) (i : Value) : Prop := ∃ j : Nat, j ≤ n ∧ i = .int .i64 j ∧ Hid (decide (z ∈ zs.drop j) = decide (z ∈ zs))
set_option maxHeartbeats 2000000 in
theorem specHas (A : Option Addr) (n c B : Nat) (zs : List Int) (z : Int) (w : World) (hI : Ints .i64 w B A n zs) (hn : n ≤ 1099511627776) :
    Calls Tryz.prog 49 #[.slice A n c, .int .i64 z] w fun e w' => e = .returned (.bool (decide (z ∈ zs))) ∧ w = w' := by
  have HZ := hide hI.len
  have HI := hide hI
  clear hI
  go_enter Tryz.func49, Tryz.ntmps49
  go_wp2_with fail
  go_loop [5] (fun i => HsRel n z zs i) (fun i => n - (intOf i).toNat)
  case atStart => exact ⟨0, by omega, rfl, rfl⟩
  case round =>
    obtain ⟨j, hj, rfl, HR⟩ := hrel
    by_cases hlt : j < n
    · obtain ⟨b, off, x, rfl, hb, hx, hc⟩ := HI.out.at_ hlt
      have HD := hide (drop_at hx)
      clear hx
      by_cases hxy : x = z
      · have HF := hide (show decide (z ∈ zs) = true by
          rw [← HR.out, HD.out, hxy]; simp)
        subst hxy
        go_wp2_with fail
        go_ret
        exact ⟨ret_bool HF, rfl⟩
      · have HN := hide (show decide (z ∈ zs.drop (j + 1)) = decide (z ∈ zs) by
          rw [← HR.out, HD.out]; simp [Ne.symm hxy])
        have e1 : (x == z) = false := by simpa using hxy
        clear hxy
        go_wp2_with fail
        go_round
        case rel => exact ⟨j + 1, by omega, by go_num, HN⟩
        case measure => simp [intOf]; omega
    · have HF := hide (show decide (z ∈ zs) = false by
        rw [← HR.out, List.drop_of_length_le (by rw [HZ.out]; omega)]; rfl)
      go_wp2_with fail
      go_ret
      exact ⟨ret_bool HF, rfl⟩

section
variable {R : Fld}
set_option maxRecDepth 100000 in
set_option maxHeartbeats 2000000 in
theorem specModE (A : Option Addr) (n cc B m : Nat) (ps : List (El R)) (w : World) (hI : Ints .i64 w B A n (iv ps)) (hB : B ≤ w.heap.size) (hcap : n ≤ cc) (hn : n ≤ 1000000) (hm : m ≤ 1000000) :
    Calls Tryz.prog 140 #[.slice A n cc, .int .i64 m] w (NewE (trim (ps.take m)) w) := by
  have hl : ps.length = n := by rw [← iv_len]; exact hI.len
  obtain ⟨M, hM⟩ : ∃ M, min m n = M := ⟨_, rfl⟩
  have hMi : min (m : Int) (n : Int) = (M : Int) := by omega
  have hMn : M ≤ n := by omega
  have HTK := hide (show ps.take M = ps.take m by
    refine List.ext_getElem? fun i => ?_
    rw [List.getElem?_take, List.getElem?_take]
    by_cases h1 : i < M
    · rw [if_pos h1, if_pos (by omega)]
    · rw [if_neg h1]
      split
      · exact (List.getElem?_eq_none (by omega)).symm
      · rfl)
  have HI := hide (hI.takeI hMn)
  rw [iv_take, HTK.out] at HI
  have hMc : M ≤ cc := by omega
  clear hI hM hl HTK
  go_enter Tryz.func140, Tryz.ntmps140
  go_wp2_with fail
  refine (specTrimE A M cc B (ps.take m) w HI.out hB (by omega) hMc).mono ?_
  rintro e w1 ⟨A1, c1, rfl, hc1, ho, hb⟩
  have HE := hide (newE_of (w := w) ho hb (Nat.le_refl _))
  clear ho hb
  go_wp2_with fail
  go_ret
  exact HE.out
end
end Go.Proofs.YtlphodhecaagbaaGreat
