/-
  The contracts of words with values at indices, of the values of errors and of the algorithm of Euclid, of the model.
  Condition: the code is valid.
-/
import Derived.Test.YtlphodhecaagbaaGreatDSpec1
import Derived.Test.YtlphodhecaagbaaGreatDImpl6
namespace Go.Proofs.YtlphodhecaagbaaGreat
open Go.RowKit
set_option linter.unusedSimpArgs false
set_option linter.unusedVariables false

section
variable {R : Fld} {γ : El R} {p k g : Int} {l c : Nat}
theorem spread_nil (l : Nat) (f : Nat → El R) : (tab l fun _ => (0 : El R)) = spread l [] f := tab_congr fun i _ => (if_neg List.not_mem_nil).symm
theorem spread_step {f : Nat → El R} {J : List Nat} {j z : Nat} (hz : J[j]? = some z) : (spread l (J.take j) f).set z (f z) = spread l (J.take (j + 1)) f := by
  unfold spread
  rw [tab_set]
  refine tab_congr fun i hi => ?_
  rw [List.take_add_one, hz, Option.toList_some]
  by_cases h : i = z
  · subst h
    rw [if_pos rfl, if_pos (by simp)]
  · rw [if_neg h]
    by_cases h2 : i ∈ J.take j
    · rw [if_pos h2, if_pos (List.mem_append_left _ h2)]
    · rw [if_neg h2, if_neg (fun h' => by
        rcases List.mem_append.1 h' with h' | h'
        · exact h2 h'
        · exact h (List.mem_singleton.1 h'))]
def SsdRel (w : World) (p k g : Int) (l c m : Nat) (J : List Nat) (f : Nat → El R) (i : Value) (wr : World) : Prop :=
  ∃ j : Nat, j ≤ m ∧ i = .int .i64 j ∧ Own wr (w.heap.size + 1) 2 .i64 (.slice (some ⟨w.heap.size + 1, 0, none⟩) l l) (iv (spread l (J.take j) f)) ∧ CBox w wr p k g l c

set_option maxRecDepth 100000 in
set_option maxHeartbeats 4000000 in
theorem specSpread (hl255 : l ≤ 255) (J : List Nat) (hJ : ∀ i ∈ J, i < l) (f : Nat → El R) (A A' : Option Addr) (m cm cm' B : Nat) (w : World) (hI : Ints .i64 w B A m (nv J)) (hI' : Ints .i64 w B A' m (iv (J.map f))) (hB : B ≤ w.heap.size) (hm : m ≤ 1000) :
    Calls Tryz.prog 110 #[.agg #[.int .i64 p, .int .i64 k, .int .i64 g, .int .i64 l, .int .i64 c], .slice A m cm, .slice A' m cm'] w (NewE (spread l J f) w) := by
  have HX := hide (CBox.start w p k g l c)
  have hJm : J.length = m := by rw [← nv_len]; exact hI.len
  have HJM := hide hJm
  have HI := hide hI
  have HI' := hide hI'
  clear hI hI' hJm
  obtain ⟨c0, c1, c2, c3, c4⟩ := HX.out.cells
  go_enter Tryz.func110, Tryz.ntmps110
  go_wp2_with (refine wpList_mkN _ rfl (.tmp 10) (.tmp 10) 28 rfl elem64 .i64 .i64 _ _ l rfl rfl rfl rfl (by omega) fun w2 h1 h2 => ?_; have HX2 := hide (HX.out.next h2); rw [alloc_size, iv_zeros (R := R), spread_nil l f] at h1; have HO2 := hide h1; clear h1 h2)
  go_loopw [8] (fun i wr => SsdRel w p k g l c m J f i wr) (fun i _ => m - (intOf i).toNat)
  case atStart => exact ⟨0, by omega, rfl, HO2.out, HX2.out⟩
  case round =>
    clear HX HX2 HO2 c0 c1 c2 c3 c4
    obtain ⟨j, hj, rfl, HO, HX⟩ := hrel
    have HX := hide HX
    have HO := hide HO
    by_cases hlt : j < m
    · obtain ⟨b1, o1, z', rfl, hb1, hz, hc1⟩ := (HI.out.below (HX.out.2.mono hB)).at_ hlt
      obtain ⟨z, hzJ, rfl⟩ := nv_get hz
      have hzl : z < l := hJ z (List.mem_of_getElem? hzJ)
      obtain ⟨b2, o2, y', rfl, hb2, hy, hc2⟩ := (HI'.out.below (HX.out.2.mono hB)).at_ hlt
      obtain ⟨y, hyf⟩ : ∃ y, y = f z := ⟨_, rfl⟩
      have hyy : y' = (y.val : Int) := by
        rw [iv, List.getElem?_map, List.getElem?_map, hzJ] at hy
        simp only [Option.map_some, Option.some.injEq] at hy
        rw [← hy, hyf]
      subst hyy
      have HT := hide (show (spread l (J.take j) f).set z y = spread l (J.take (j + 1)) f by rw [hyf]; exact spread_step hzJ)
      have hfx := HO.out.frozenAt z
      obtain ⟨u, hcx⟩ : ∃ u : Int, wr.cell? ⟨w.heap.size + 1, z, none⟩ = some (.int .i64 u) := ⟨_, HO.out.cellAt (j := z) (iv_at (by rw [spread_len]; exact hzl))⟩
      clear hyf hy hz hzJ
      go_wp2_with fail
      go_region
      all_goals
        have HO7 := hide (HO.out.drew.stored z (y.val : Int)).1
        rw [iv_set, HT.out] at HO7
        have HX7 := hide (HX.out.drew.set (b := w.heap.size + 1) (by omega) z (.int .i64 (y.val : Int)))
        go_wp2_with fail
        go_roundw
        case rel => exact ⟨j + 1, by omega, by go_num, HO7.out, HX7.out⟩
        case measure => simp [intOf]; omega
    · obtain rfl : j = m := by omega
      have HE := hide (show spread l (J.take j) f = spread l J f by rw [List.take_of_length_le (by rw [HJM.out]; exact Nat.le_refl _)])
      have HO2 := hide HO.out
      rw [HE.out] at HO2
      have HG := hide (newE_of (w := w) HO2.out HX.out.2 (Nat.le_succ _))
      go_wp2_with fail
      go_ret
      exact HG.out

/-- A code in its box, and behind it its field in a box of its own. -/
structure CF (w wr : World) (p k g : Int) (l c : Nat) : Prop where
  x : CBox w wr p k g l c
  f : wr.heap[w.heap.size + 1]? = some (.cells #[.int .i64 p, .int .i64 k, .int .i64 g] 25 (0, 0))
section
variable {w wr wr' : World}
theorem CF.start (w : World) (p k g : Int) (l c : Nat) : CF w ((w.alloc (.cells #[.int .i64 p, .int .i64 k, .int .i64 g, .int .i64 l, .int .i64 c] 89)).alloc (.cells #[.int .i64 p, .int .i64 k, .int .i64 g] 25)) p k g l c :=
  ⟨(CBox.start w p k g l c).alloc _, by
    have := heap_alloc_new (w.alloc (.cells #[.int .i64 p, .int .i64 k, .int .i64 g, .int .i64 l, .int .i64 c] 89)) (.cells #[.int .i64 p, .int .i64 k, .int .i64 g] 25)
    rw [alloc_size] at this; exact this⟩
theorem CF.lt (h : CF w wr p k g l c) : w.heap.size + 1 < wr.heap.size := (Array.getElem?_eq_some_iff.1 h.f).1
theorem CF.next (h : CF w wr p k g l c) (hb : Below wr.heap.size wr wr') : CF w wr' p k g l c := ⟨h.x.next hb, by rw [hb.block _ h.lt]; exact h.f⟩
theorem CF.alloc (h : CF w wr p k g l c) (o : Obj) : CF w (wr.alloc o) p k g l c := h.next ((Below.refl _ _).alloc (Nat.le_refl _) o)
theorem CF.drew (h : CF w wr p k g l c) : CF w wr.drew p k g l c := ⟨h.x.drew, h.f⟩
theorem CF.grow {row : Option Nat} (h : CF w wr p k g l c) (hg : wr.grownBy wr' row) (hr : ∀ b, row = some b → w.heap.size + 1 < b) : CF w wr' p k g l c :=
  ⟨h.x.grow hg (fun b hb => by have := hr b hb; omega), by rw [hg.block _ h.lt (by intro e; have := hr _ e.symm; omega)]; exact h.f⟩
theorem CF.all (h : CF w wr p k g l c) : (fun w' : World => w'.cell? ⟨w.heap.size, 0, none⟩ = some (.int .i64 p) ∧ w'.cell? ⟨w.heap.size, 1, none⟩ = some (.int .i64 k) ∧ w'.cell? ⟨w.heap.size, 2, none⟩ = some (.int .i64 g) ∧ w'.cell? ⟨w.heap.size, 3, none⟩ = some (.int .i64 l) ∧ w'.cell? ⟨w.heap.size, 4, none⟩ = some (.int .i64 c) ∧ w'.cell? ⟨w.heap.size + 1, 0, none⟩ = some (.int .i64 p) ∧ w'.cell? ⟨w.heap.size + 1, 1, none⟩ = some (.int .i64 k) ∧ w'.cell? ⟨w.heap.size + 1, 2, none⟩ = some (.int .i64 g)) wr :=
  ⟨h.x.cells.1, h.x.cells.2.1, h.x.cells.2.2.1, h.x.cells.2.2.2.1, h.x.cells.2.2.2.2, by rw [cell_of_row _ _ _ _ _ _ h.f]; rfl, by rw [cell_of_row _ _ _ _ _ _ h.f]; rfl, by rw [cell_of_row _ _ _ _ _ _ h.f]; rfl⟩
theorem CF.two (h : CF w wr p k g l c) {q : Prop} (hq : q) : wr.cell? ⟨w.heap.size, 0, none⟩ = some (.int .i64 p) ∧ wr.cell? ⟨w.heap.size, 1, none⟩ = some (.int .i64 k) ∧ wr.cell? ⟨w.heap.size, 2, none⟩ = some (.int .i64 g) ∧ wr.cell? ⟨w.heap.size, 3, none⟩ = some (.int .i64 l) ∧ wr.cell? ⟨w.heap.size, 4, none⟩ = some (.int .i64 c) ∧ wr.cell? ⟨w.heap.size + 1, 0, none⟩ = some (.int .i64 p) ∧ wr.cell? ⟨w.heap.size + 1, 1, none⟩ = some (.int .i64 k) ∧ wr.cell? ⟨w.heap.size + 1, 2, none⟩ = some (.int .i64 g) ∧ q :=
  ⟨h.all.1, h.all.2.1, h.all.2.2.1, h.all.2.2.2.1, h.all.2.2.2.2.1, h.all.2.2.2.2.2.1, h.all.2.2.2.2.2.2.1, h.all.2.2.2.2.2.2.2, hq⟩
end

def SvaRel (w : World) (p k g : Int) (l c m N : Nat) (A9 A10 : Option Addr) (m9 m10 : Nat) (O D : List (El R)) (J : List Nat) (f : Nat → El R) (v i : Value) (wr : World) : Prop :=
  ∃ j : Nat, j ≤ m ∧ i = .int .i64 j ∧ Own wr N 2 .i64 v (iv ((J.take j).map f)) ∧ Ints .i64 wr N A9 m9 (iv O) ∧ Ints .i64 wr N A10 m10 (iv D) ∧ N ≤ wr.heap.size ∧ CF w wr p k g l c

set_option maxRecDepth 100000 in
set_option maxHeartbeats 8000000 in
theorem specValues (h : CodeIs R γ p k g l c) (S : List (El R)) (J : List Nat) (hJ : ∀ i ∈ J, i < l) (A A' : Option Addr) (n cn m cm B : Nat) (w : World) (hI : Ints .i64 w B A n (iv S)) (hI' : Ints .i64 w B A' m (nv J)) (hB : B ≤ w.heap.size) (hcap : n ≤ cn) (hn : n ≤ 1000) (hm : m ≤ 1000) :
    Calls Tryz.prog 111 #[.agg #[.int .i64 p, .int .i64 k, .int .i64 g, .int .i64 l, .int .i64 c], .slice A n cn, .slice A' m cm] w (NewE (J.map (fvI (numE h.fld) γ l c S J)) w) := by
  have HX := hide (CBox.start w p k g l c)
  have hl255 := h.l255
  have hc64 := h.c64
  have hSn : S.length = n := by rw [← iv_len]; exact hI.len
  have hJm : J.length = m := by rw [← nv_len]; exact hI'.len
  have HJM := hide hJm
  have HI := hide hI
  have HI' := hide hI'
  have HLL := hide (show (locP (locs γ l J)).length = m + 1 by rw [locJ_len h.far, hJm])
  obtain ⟨L, hL⟩ : ∃ L, locP (locs γ l J) = L := ⟨_, rfl⟩
  obtain ⟨O, hO⟩ : ∃ O, omeg c S L = O := ⟨_, rfl⟩
  obtain ⟨o, ho⟩ : ∃ o, O.length = o := ⟨_, rfl⟩
  have hoc : o ≤ 64 := by rw [← ho, ← hO]; exact Nat.le_trans (omeg_le _ _ _) hc64
  obtain ⟨D, hD⟩ : ∃ D, derP h.fld L = D := ⟨_, rfl⟩
  obtain ⟨d, hd⟩ : ∃ d, D.length = d := ⟨_, rfl⟩
  have hdb : d ≤ 2000 := by
    rw [← hd, ← hD, derP]
    refine Nat.le_trans (trim_le _) ?_
    rw [tab_len, ← hL, HLL.out]; omega
  obtain ⟨s, hs⟩ : ∃ s, (trim S).length = s := ⟨_, rfl⟩
  have hsn : s ≤ n := by have := trim_le S; omega
  obtain ⟨q, hq⟩ : ∃ q, (mulP (trim S) L).length = q := ⟨_, rfl⟩
  have hqb : q ≤ 5000 := by rw [← hq, mulP, tab_len]; unfold plen; rw [← hL, HLL.out]; split <;> omega
  have HTR := hide (show trim (mulP (trim S) L) = mulP (trim S) L from trim_id (tr_mul (tr_trim S) (by rw [← hL]; exact tr_loc (locs_ne h.far J))))
  have HL := hide hL
  have HO := hide hO
  have HOm := hide (show trim ((mulP (trim S) L).take c) = O from hO)
  have HOL := hide ho
  have HD := hide hD
  have HDL := hide hd
  have HSL := hide hs
  have HQL := hide hq
  rw [hL] at HLL
  have HCS := hide (CF.start w p k g l c)
  clear hI hI' hSn hJm hL hO ho hD hd hs hq
  obtain ⟨c0, c1, c2, c3, c4⟩ := HX.out.cells
  go_enter Tryz.func111, Tryz.ntmps111
  go_wp2_with fail
  refine (specLocPoly h J hJ A' m cm B _ (HI'.out.below (HCS.out.x.2.mono hB)) (Nat.le_trans hB (Nat.le_of_lt HCS.out.x.lt)) hm).mono ?_
  rw [HL.out]
  rintro e w1 ⟨A1, m1, rfl, hm1, ho1, hb⟩
  rw [HLL.out] at ho1 hm1 ⊢
  have HX1 := hide (HCS.out.next hb)
  have HP1 := hide ho1.intsE
  clear hb ho1 hm1 c0 c1 c2 c3 c4
  go_wp2_with fail
  go_region_held3 (fun w' => w'.cell? ⟨w.heap.size, 0, none⟩ = some (.int .i64 p) ∧ w'.cell? ⟨w.heap.size, 1, none⟩ = some (.int .i64 k) ∧ w'.cell? ⟨w.heap.size, 2, none⟩ = some (.int .i64 g) ∧ w'.cell? ⟨w.heap.size, 3, none⟩ = some (.int .i64 l) ∧ w'.cell? ⟨w.heap.size, 4, none⟩ = some (.int .i64 c) ∧ w'.cell? ⟨w.heap.size + 1, 0, none⟩ = some (.int .i64 p) ∧ w'.cell? ⟨w.heap.size + 1, 1, none⟩ = some (.int .i64 k) ∧ w'.cell? ⟨w.heap.size + 1, 2, none⟩ = some (.int .i64 g))
    (first
      | exact HX1.out.drew.all
      | exact HX2.out.all
      | exact HX3.out.all
      | exact HX4.out.all)
    (first
      | (go_at_call 82; refine (specTrimE A n cn B S _ (HI.out.below (HX1.out.drew.x.2.mono hB)) (Nat.le_trans hB (Nat.le_of_lt HX1.out.drew.x.lt)) (by omega) hcap).mono ?_; rintro e w2 ⟨A2, m2, rfl, hm2, ho2, hb2⟩; rw [HSL.out] at ho2 ⊢; have HX2 := hide (HX1.out.drew.next hb2); have HP2 := hide ((HP1.out.drew.below hb2).more hb2.size); have HS2 := hide ho2.intsE; clear ho2 hb2 hm2)
      | (go_at_call 116; refine (specMulE' h.fld (trim S) L A2 A1 s m2 (m + 1) m1 _ _ HS2.out HP2.out (Nat.le_refl _) (by omega) (by omega)).mono ?_; rw [HTR.out]; rintro e w3 ⟨A3, m3, rfl, hm3, ho3, hb3⟩; rw [HQL.out] at ho3 hm3 ⊢; have HX3 := hide (HX2.out.next hb3); have HP3 := hide ((HP2.out.below hb3).more hb3.size); have HS3 := hide ho3.intsE; clear ho3 hb3)
      | (go_at_call 140; refine (specModE A3 q m3 _ c (mulP (trim S) L) _ HS3.out (Nat.le_refl _) hm3 (by omega) (by omega)).mono ?_; rw [HOm.out]; rintro e w4 ⟨A4, m4, rfl, hm4, ho4, hb4⟩; rw [HOL.out] at ho4 ⊢; have HX4 := hide (HX3.out.next hb4); have HP4 := hide ((HP3.out.below hb4).more hb4.size); have HE4 := hide ho4.intsE; clear ho4 hb4 hm4))
  clear hm3 HX1 HP1 HX2 HP2 HS2 HX3 HP3 HS3
  obtain ⟨c0, c1, c2, c3, c4, f0, f1, f2⟩ := HX4.out.all
  go_wp2_with fail
  refine (specDerE h.fld L A1 (m + 1) m1 w4.heap.size w4 HP4.out (Nat.le_refl _) (by omega)).mono ?_
  rw [HD.out]
  rintro e w5 ⟨A5, m5, rfl, hm5, ho5, hb5⟩
  rw [HDL.out] at ho5 ⊢
  have HX5 := hide (HX4.out.next hb5)
  have HE5 := hide ((HE4.out.below hb5).more hb5.size)
  have HD5 := hide ho5.intsE
  clear ho5 hb5 hm5 c0 c1 c2 c3 c4 f0 f1 f2 HP4
  have HX6 := hide (HX5.out.alloc (.cells #[] 2))
  have HO6 := hide (Own.lit0 w5 2 .i64)
  have HE6 := hide (HE5.out.below ((Below.refl w5.heap.size w5).alloc (Nat.le_refl _) (.cells #[] 2)))
  have HD6 := hide (HD5.out.below ((Below.refl w5.heap.size w5).alloc (Nat.le_refl _) (.cells #[] 2)))
  have HN6 := hide (show w5.heap.size ≤ (w5.alloc (.cells #[] 2)).heap.size by rw [alloc_size]; exact Nat.le_succ _)
  have HNW := hide HX5.out.lt
  go_wp2_with fail
  go_loopw [11, 12] (fun v i wr => SvaRel w p k g l c m w5.heap.size A4 A5 o d O D J (fvI (numE h.fld) γ l c S J) v i wr) (fun _ i _ => m - (intOf i).toNat)
  case atStart => exact ⟨0, by omega, rfl, HO6.out, HE6.out, HD6.out, HN6.out, HX6.out⟩
  case round =>
    clear HX HX4 HX5 HX6 HO6 HE4 HE5 HE6 HD5 HD6 HN6 HCS
    obtain ⟨v, rfl⟩ : ∃ v : Value, v = u11 := ⟨_, rfl⟩
    obtain ⟨j, hj, rfl, HOw, HE, HDr, HN, HX⟩ := hrel
    have HX := hide HX
    have HOw := hide HOw
    have HE := hide HE
    have HDr := hide HDr
    have HN := hide HN
    by_cases hlt : j < m
    · obtain ⟨b, off, z', rfl, hb, hz, hc⟩ := (HI'.out.below (HX.out.x.2.mono hB)).at_ hlt
      obtain ⟨z, hzJ, rfl⟩ := nv_get hz
      have hzl : z < l := hJ z (List.mem_of_getElem? hzJ)
      obtain ⟨x, hx⟩ : ∃ x, x = lcE γ l z := ⟨_, rfl⟩
      have HXL := hide hx
      obtain ⟨y, hy⟩ : ∃ y, ev x.inv O = y := ⟨_, rfl⟩
      obtain ⟨t, ht⟩ : ∃ t, ev x.inv D = t := ⟨_, rfl⟩
      have HYY := hide hy
      have HTT := hide ht
      have HFV := hide (show (J.take (j + 1)).map (fvI (numE h.fld) γ l c S J) = (J.take j).map (fvI (numE h.fld) γ l c S J) ++ [-(y * t.inv)] by
        rw [List.take_add_one, hzJ, Option.toList_some, List.map_append]
        congr 1
        show [fvE (numE h.fld) c S (locs γ l J) (lcE γ l z)] = _
        rw [fvE, ← hx, HL.out, ← derP_is h.fld, HD.out, HO.out, hy, ht])
      have hbl : b < wr.heap.size := Nat.lt_of_lt_of_le hb (Nat.le_trans hB (Nat.le_of_lt HX.out.x.lt))
      have HC := hide hc
      clear hx hz hzJ hc hy ht
      go_wp2_with fail
      go_region_held3 (fun w' => w'.cell? ⟨w.heap.size, 0, none⟩ = some (.int .i64 p) ∧ w'.cell? ⟨w.heap.size, 1, none⟩ = some (.int .i64 k) ∧ w'.cell? ⟨w.heap.size, 2, none⟩ = some (.int .i64 g) ∧ w'.cell? ⟨w.heap.size, 3, none⟩ = some (.int .i64 l) ∧ w'.cell? ⟨w.heap.size, 4, none⟩ = some (.int .i64 c) ∧ w'.cell? ⟨w.heap.size + 1, 0, none⟩ = some (.int .i64 p) ∧ w'.cell? ⟨w.heap.size + 1, 1, none⟩ = some (.int .i64 k) ∧ w'.cell? ⟨w.heap.size + 1, 2, none⟩ = some (.int .i64 g) ∧ w'.cell? ⟨b, off + j, none⟩ = some (.int .i64 (z : Int)))
        (first
          | exact HX.out.drew.two HC.out
          | exact HX2.out.two HC2.out
          | exact HX3.out.two HC3.out)
        (first
          | (go_at_call 139; refine (specLocator h z hzl _).mono ?_; rw [← HXL.out]; rintro e w2 ⟨rfl, hb2⟩; have HX2 := hide (HX.out.drew.next hb2); have HC2 := hide ((hb2.cell (p := ⟨b, off + j, none⟩) hbl).trans HC.out); have hbl2 : b < w2.heap.size := Nat.lt_of_lt_of_le hbl hb2.size; have HB2 := hide hb2; clear hb2)
          | (go_at_call 114; refine (specInvE h.fld x _).mono ?_; rintro e w3 ⟨rfl, hb3⟩; have HX3 := hide (HX2.out.next hb3); have HC3 := hide ((hb3.cell (p := ⟨b, off + j, none⟩) hbl2).trans HC2.out); have HB3 := hide (show Below wr.heap.size wr.drew w3 from HB2.out.trans (hb3.mono HB2.out.size)); clear hb3))
      have HOw3 := hide (HOw.out.drew.below HB3.out (Nat.le_refl _))
      have HE3 := hide (HE.out.drew.below (HB3.out.mono HN.out))
      have HD3 := hide (HDr.out.drew.below (HB3.out.mono HN.out))
      have HN3 := hide (Nat.le_trans HN.out HB3.out.size)
      clear HX HOw HE HDr HN HC HX2 HC2 HC3 HB2 HB3
      go_wp2_with fail
      go_region_held3 (fun w' => w'.cell? ⟨w.heap.size, 0, none⟩ = some (.int .i64 p) ∧ w'.cell? ⟨w.heap.size, 1, none⟩ = some (.int .i64 k) ∧ w'.cell? ⟨w.heap.size, 2, none⟩ = some (.int .i64 g) ∧ w'.cell? ⟨w.heap.size, 3, none⟩ = some (.int .i64 l) ∧ w'.cell? ⟨w.heap.size, 4, none⟩ = some (.int .i64 c) ∧ w'.cell? ⟨w.heap.size + 1, 0, none⟩ = some (.int .i64 p) ∧ w'.cell? ⟨w.heap.size + 1, 1, none⟩ = some (.int .i64 k) ∧ w'.cell? ⟨w.heap.size + 1, 2, none⟩ = some (.int .i64 g))
        (first
          | exact HX3.out.drew.all
          | exact HX4.out.all
          | exact HX5.out.all
          | exact HX6.out.all
          | exact HX7.out.all)
        (first
          | (go_at_call 138; have hmark := HM1; refine (specEvalE h.fld x.inv D A5 d m5 w5.heap.size _ ((HD3.out.drew.below (HB4.out.mono HN3.out))) (Nat.le_trans HN3.out HB4.out.size) (by omega)).mono ?_; rw [HTT.out]; rintro e w5' ⟨rfl, hb5⟩; have HX5 := hide (HX4.out.next hb5); have HB5 := hide (HB4.out.trans (hb5.mono HB4.out.size)); clear hb5)
          | (go_at_call 138; refine (specEvalE h.fld x.inv O A4 o m4 w5.heap.size _ HE3.out.drew HN3.out (by omega)).mono ?_; rw [HYY.out]; rintro e w4' ⟨rfl, hb4⟩; have HX4 := hide (HX3.out.drew.next hb4); have HB4 := hide hb4; have HM1 := True.intro; clear hb4)
          | (go_at_call 114; refine (specInvE h.fld t _).mono ?_; rintro e w6 ⟨rfl, hb6⟩; have HX6 := hide (HX5.out.next hb6); have HB6 := hide (HB5.out.trans (hb6.mono HB5.out.size)); clear hb6)
          | (go_at_call 96; refine (specMulE h.fld y t.inv _).mono ?_; rintro e w7 ⟨rfl, hb7⟩; have HX7 := hide (HX6.out.next hb7); have HB7 := hide (show Below w3.heap.size w3.drew w7 from HB6.out.trans (hb7.mono HB6.out.size)); clear hb7))
      have HOw7 := hide (HOw3.out.drew.below HB7.out (Nat.le_refl _))
      have HE7 := hide (HE3.out.drew.below (HB7.out.mono HN3.out))
      have HD7 := hide (HD3.out.drew.below (HB7.out.mono HN3.out))
      have HN7 := hide (Nat.le_trans HN3.out HB7.out.size)
      clear HX3 HOw3 HE3 HD3 HN3 HX4 HB4 HM1 HX5 HB5 HX6 HB6 HB7
      obtain ⟨c0, c1, c2, c3, c4, f0, f1, f2⟩ := HX7.out.all
      go_wp2_with fail
      refine (specNegE h.fld (y * t.inv) w7).mono ?_
      rintro e w8 ⟨rfl, hb8⟩
      have HX8 := hide (HX7.out.next hb8)
      have HOw8 := hide (HOw7.out.below hb8 (Nat.le_refl _))
      have HE8 := hide (HE7.out.below (hb8.mono HN7.out))
      have HD8 := hide (HD7.out.below (hb8.mono HN7.out))
      have HN8 := hide (Nat.le_trans HN7.out hb8.size)
      have hwl : w5.heap.size ≤ w8.heap.size := HN8.out
      have HVB := hide (show ∀ b, v.ownBlock = some b → w.heap.size + 1 < b from fun b hb => Nat.lt_of_lt_of_le HNW.out (HOw8.out.lt hb).1)
      have HVN := hide (show ∀ b, v.ownBlock = some b → w5.heap.size ≤ b from fun b hb => (HOw8.out.lt hb).1)
      have hlen : (iv ((J.take j).map (fvI (numE h.fld) γ l c S J))).length + 1 ≤ 100000 := by rw [iv_len, List.length_map, List.length_take]; omega
      clear hb8 c0 c1 c2 c3 c4 f0 f1 f2 HX7 HOw7 HE7 HD7 HN7
      go_wp2_with (at_builtin; refine wpList_app1 w8 rfl _ _ _ rfl elem64 w5.heap.size v _ rfl HOw8.out ((-(y * t.inv)).val : Int) rfl (by omega) hwl ?_; intro v9 w9 hown hgrow)
      have HO9 := hide (show Own w9 w5.heap.size 2 .i64 v9 (iv ((J.take (j + 1)).map (fvI (numE h.fld) γ l c S J))) by rw [HFV.out, iv_app, iv_one]; exact hown)
      have HX9 := hide (HX8.out.grow hgrow HVB.out)
      have HE9 := hide (HE8.out.grown hgrow HN8.out HVN.out)
      have HD9 := hide (HD8.out.grown hgrow HN8.out HVN.out)
      have HN9 := hide (Nat.le_trans HN8.out hgrow.size)
      clear hown hgrow
      go_wp2_with fail
      go_roundw
      case rel => exact ⟨j + 1, by omega, by go_num, HO9.out, HE9.out, HD9.out, HN9.out, HX9.out⟩
      case measure => simp [intOf]; omega
    · obtain rfl : j = m := by omega
      have HO2 := hide HOw.out
      rw [List.take_of_length_le (by rw [HJM.out]; exact Nat.le_refl _)] at HO2
      have HG := hide (newE_of (w := w) HO2.out HX.out.x.2 (by have := HNW.out; omega))
      go_wp2_with fail
      go_ret
      exact HG.out
end
end Go.Proofs.YtlphodhecaagbaaGreat
