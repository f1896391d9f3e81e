/-
  The contracts of differences of words and of corrected words, of the program.
  Condition: the code is valid.
-/
import Derived.Test.YtlphodhecaagbaaGreatDImpl5
import Derived.Test.YtlphodhecaagbaaGreatJP
namespace Go.Proofs.YtlphodhecaagbaaGreat
open Go.RowKit
set_option linter.unusedSimpArgs false
set_option linter.unusedVariables false

section
variable {R : Fld} {γ : El R} {p k g : Int} {l c : Nat}
/-- The indices below n at which two words differ. -/
def difN (a b : List (El R)) (n : Nat) : List Nat := (List.range n).filter fun i => !decide (cf a i = cf b i)
theorem difN_succ (a b : List (El R)) (n : Nat) : difN a b (n + 1) = difN a b n ++ (if cf a n = cf b n then [] else [n]) := by
  unfold difN
  rw [List.range_succ, List.filter_append]
  congr 1
  by_cases h : cf a n = cf b n
  · rw [if_pos h]; simp [h]
  · rw [if_neg h]; simp [h]
theorem difN_len (a b : List (El R)) (n : Nat) : (difN a b n).length ≤ n := by
  have := List.length_filter_le (fun i => !decide (cf a i = cf b i)) (List.range n)
  rw [List.length_range] at this; exact this
def DfRel (w : World) (n : Nat) (a b : List (El R)) (v i : Value) (wr : World) : Prop :=
  ∃ j : Nat, j ≤ n ∧ i = .int .i64 j ∧ Own wr w.heap.size 2 .i64 v (nv (difN a b j)) ∧ Below w.heap.size w wr
theorem neq_val {x y : El R} : ((x.val : Int) != (y.val : Int)) = !decide (x = y) := by
  by_cases h : x = y
  · subst h; simp
  · have : x.val ≠ y.val := fun e => h (El.eq e)
    simp [h]; omega

set_option maxRecDepth 100000 in
set_option maxHeartbeats 2000000 in
theorem implDifferences (a b : List (El R)) (A A' : Option Addr) (n cn cm B : Nat) (w : World) (hI : Ints .i64 w B A n (iv a)) (hJ : Ints .i64 w B A' n (iv b)) (hB : B ≤ w.heap.size) (hn : n ≤ 100000) :
    Calls Tryz.prog 73 #[.slice A n cn, .slice A' n cm] w (NewInts 2 .i64 (nv (difs a b)) w) := by
  have han : a.length = n := by rw [← iv_len]; exact hI.len
  have hbn : b.length = n := by rw [← iv_len]; exact hJ.len
  have HI := hide hI
  have HJ := hide hJ
  have HAN := hide han
  have HBN := hide hbn
  clear hI hJ han hbn
  go_enter Tryz.func73, Tryz.ntmps73
  go_wp2_with fail
  go_loopw [5, 10] (fun v i wr => DfRel w n a b v i wr) (fun _ i _ => n - (intOf i).toNat)
  case atStart => exact ⟨0, by omega, rfl, World.ownsRow_nil _ _ _ _, Below.refl _ _⟩
  case round =>
    obtain ⟨v, rfl⟩ : ∃ v : Value, v = u5 := ⟨_, rfl⟩
    obtain ⟨j, hj, rfl, HO, HBl⟩ := hrel
    have HO := hide HO
    have HBl := hide HBl
    by_cases hlt : j < n
    · obtain ⟨b1, o1, x, rfl, hb1, hx, hc1⟩ := (HI.out.below (HBl.out.mono hB)).at_ hlt
      obtain ⟨b2, o2, y, rfl, hb2, hy, hc2⟩ := (HJ.out.below (HBl.out.mono hB)).at_ hlt
      rw [iv_at (by rw [HAN.out]; exact hlt)] at hx
      rw [iv_at (by rw [HBN.out]; exact hlt)] at hy
      simp only [Option.some.injEq] at hx hy
      subst hx hy
      have hsu := difN_succ a b j
      obtain ⟨x, hx⟩ : ∃ x, x = cf a j := ⟨_, rfl⟩
      obtain ⟨y, hy⟩ : ∃ y, y = cf b j := ⟨_, rfl⟩
      rw [← hx] at hc1 hsu
      rw [← hy] at hc2 hsu
      have HSU := hide hsu
      have hxy := neq_val (x := x) (y := y)
      have hbz : w.heap.size ≤ wr.heap.size := HBl.out.size
      have HVB := hide (show ∀ b, v.ownBlock = some b → w.heap.size ≤ b from fun b hb => (HO.out.lt hb).1)
      have hlen : (nv (difN a b j)).length + 1 ≤ 200000 := by rw [nv_len]; have := difN_len a b j; omega
      clear hx hy hsu
      by_cases h : x = y
      · have HZ := hide (show difN a b (j + 1) = difN a b j by rw [HSU.out, if_pos h, List.append_nil])
        have HO2 := hide HO.out
        rw [← HZ.out] at HO2
        rw [h] at hc1
        clear h hxy HSU
        go_wp2_with fail
        go_roundw
        case rel => exact ⟨j + 1, by omega, by go_num, HO2.out, HBl.out⟩
        case measure => simp [intOf]; omega
      · have HZ := hide (show difN a b (j + 1) = difN a b j ++ [j] by rw [HSU.out, if_neg h])
        rw [decide_eq_false h] at hxy
        simp only [Bool.not_false] at hxy
        have hxe : ((x.val : Int) == (y.val : Int)) = false := by simpa using hxy
        clear h HSU
        go_wp2_with (at_builtin; refine wpList_app1 wr rfl _ _ _ rfl elem64 w.heap.size v _ rfl HO.out (j : Int) rfl (by omega) hbz ?_; intro v3 w3 hown hgrow)
        have HO3 := hide (show Own w3 w.heap.size 2 .i64 v3 (nv (difN a b (j + 1))) by rw [HZ.out, nv_app]; exact hown)
        have HB3 := hide (HBl.out.grown hgrow hbz HVB.out)
        clear hown hgrow
        go_wp2_with fail
        go_roundw
        case rel => exact ⟨j + 1, by omega, by go_num, HO3.out, HB3.out⟩
        case measure => simp [intOf]; omega
    · obtain rfl : j = n := by omega
      have HZ := hide (show difN a b j = difs a b by rw [difN, difs, HAN.out])
      have HO2 := hide HO.out
      rw [HZ.out] at HO2
      obtain ⟨A1, c1, rfl, hc⟩ := HO2.out.form
      have HE := hide (show NewInts 2 .i64 (nv (difs a b)) w (.returned (.slice A1 (nv (difs a b)).length c1)) wr from ⟨A1, c1, rfl, hc, HO2.out, HBl.out⟩)
      go_wp2_with fail
      go_ret
      exact HE.out

/-- The word with what has been corrected of it. -/
def coF (ws : List (El R)) (f : Nat → El R) (J : List Nat) (i : Nat) : El R := if i ∈ J then cf ws i + -(f i) else cf ws i
theorem coF_nil (ws : List (El R)) (f : Nat → El R) {n : Nat} (h : ws.length = n) : tab n (coF ws f []) = ws := by
  refine Eq.trans (tab_congr fun i _ => if_neg List.not_mem_nil) ?_
  rw [← h]; exact tab_cf ws
theorem coF_step {ws : List (El R)} {f : Nat → El R} {J : List Nat} {n k z : Nat} (hz : J[k]? = some z) : (tab n (coF ws f (J.take k))).set z (cf ws z + -(f z)) = tab n (coF ws f (J.take (k + 1))) := by
  rw [tab_set]
  refine tab_congr fun i hi => ?_
  rw [List.take_add_one, hz, Option.toList_some]
  unfold coF
  by_cases h : i = z
  · subst h
    rw [if_pos rfl, if_pos (by simp)]
  · rw [if_neg h]
    by_cases h2 : i ∈ J.take k
    · rw [if_pos h2, if_pos (List.mem_append_left _ h2)]
    · rw [if_neg h2, if_neg (fun h' => by
        rcases List.mem_append.1 h' with h' | h'
        · exact h2 h'
        · exact h (List.mem_singleton.1 h'))]
theorem coF_end (num : Nat → El R) (ws : List (El R)) (J : List Nat) (h : ws.length = l) : tab l (coF ws (fvI num γ l c (synW γ c ws) J) J) = corW num γ l c ws J := by
  rw [corW, subW, h]
  refine tab_congr fun i hi => ?_
  rw [cf_spread hi]
  unfold coF
  split
  · rfl
  · rw [en0, ea0]
theorem coF_at {ws : List (El R)} {f : Nat → El R} {J : List Nat} {n k z : Nat} (hd : J.Nodup) (hz : J[k]? = some z) (hn : z < n) : (tab n (coF ws f (J.take k)))[z]? = some (cf ws z) := by
  rw [tab_at _ hn, coF, if_neg]
  intro h
  obtain ⟨i, hi⟩ := List.getElem?_of_mem h
  rw [List.getElem?_take] at hi
  by_cases hik : i < k
  · rw [if_pos hik] at hi
    obtain ⟨h1, e1⟩ := List.getElem?_eq_some_iff.1 hi
    obtain ⟨h2, e2⟩ := List.getElem?_eq_some_iff.1 hz
    exact List.pairwise_iff_getElem.1 hd i k h1 h2 hik (e1.trans e2.symm)
  · rw [if_neg hik] at hi; cases hi

/-- What a corrected word leaves. -/
def CoPost (γ : El R) (l c : Nat) (E : List Nat) (ws : List (El R)) (w : World) (x : Ending) (w' : World) : Prop :=
  (∃ out : List (El R), NewIB (iv out) true w x w' ∧ out.length = l ∧ Okw γ l c E ws out ∧ ∀ cw, Okw γ l c E ws cw → out = cw) ∨ (NewIB [] false w x w' ∧ ∀ cw, ¬ Okw γ l c E ws cw)
def CoRel (w : World) (p k g : Int) (l c m gW : Nat) (A12 A13 : Option Addr) (J : List Nat) (ws V : List (El R)) (f : Nat → El R) (cW : Nat) (i : Value) (wr : World) : Prop :=
  ∃ j : Nat, j ≤ m ∧ i = .int .i64 j ∧ Own wr (w.heap.size + 1) 2 .i64 (.slice (some ⟨gW, 0, none⟩) l cW) (iv (tab l (coF ws f (J.take j)))) ∧ Ints .i64 wr gW A12 m (nv J) ∧ Ints .i64 wr gW A13 m (iv V) ∧ gW < wr.heap.size ∧ CBox w wr p k g l c

theorem elPost_one {r : Nat} {T : List (El R)} {w w' : World} {x : Ending} (h : ElPost c r T w x w') : ∃ (a b u v q : List (El R)) (d : Bool), Eu c r T a b u v ∧ 2 * b.length < c + r + 2 ∧
    ((d = false ∧ cf v 0 = 0) ∨ (d = true ∧ cf v 0 ≠ 0 ∧ q = scaP (cf v 0).inv v)) ∧ NewIB (iv q) d w x w' := by
  obtain ⟨a, b, u, v, h1, h2, ⟨h3, h4⟩ | ⟨h3, h4⟩⟩ := h
  · exact ⟨a, b, u, v, [], false, h1, h2, .inl ⟨rfl, h3⟩, h4⟩
  · exact ⟨a, b, u, v, _, true, h1, h2, .inr ⟨rfl, h3, rfl⟩, h4⟩

set_option maxRecDepth 100000 in
set_option maxHeartbeats 8000000 in
theorem implCorrected (h : CodeIs R γ p k g l c) (E : List Nat) (hE : Idx l E) (ws : List (El R)) (A A' : Option Addr) (cn n cm B : Nat) (w : World) (hI : Ints .i64 w B A l (iv ws)) (hI' : Ints .i64 w B A' n (nv E)) (hB : B ≤ w.heap.size) :
    Calls Tryz.prog 72 #[.agg #[.int .i64 p, .int .i64 k, .int .i64 g, .int .i64 l, .int .i64 c], .slice A l cn, .slice A' n cm] w (CoPost γ l c E ws w) := by
  have HX := hide (CBox.start w p k g l c)
  have hl255 := h.l255
  have hc64 := h.c64
  have hcl := h.cl
  have hwl : ws.length = l := by rw [← iv_len]; exact hI.len
  have hEn : E.length = n := by rw [← nv_len]; exact hI'.len
  have hnl : n ≤ l := by rw [← hEn]; exact hE.len
  have HI := hide hI
  have HI' := hide hI'
  have HWL := hide hwl
  have HEN := hide hEn
  have HEI := hide hE
  clear hI hI' hE hEn hwl
  obtain ⟨c0, c1, c2, c3, c4⟩ := HX.out.cells
  by_cases hnc : n ≤ c
  · obtain ⟨S, hS⟩ : ∃ S, synW γ c ws = S := ⟨_, rfl⟩
    obtain ⟨L, hL⟩ : ∃ L, locP (locs γ l E) = L := ⟨_, rfl⟩
    obtain ⟨T, hT⟩ : ∃ T, omeg c S L = T := ⟨_, rfl⟩
    have HSL := hide (show S.length = c by rw [← hS, syn_len])
    have HLL := hide (show L.length = n + 1 by rw [← hL, locJ_len h.far, HEN.out])
    have HKP := hide (show keyP γ l c ws E = T by rw [keyP, hS, hL, hT])
    obtain ⟨nT, hnT⟩ : ∃ nT, T.length = nT := ⟨_, rfl⟩
    have hnTc : nT ≤ c := by rw [← hnT, ← hT]; exact omeg_le _ _ _
    have HTL := hide hnT
    have HTT := hide (show Tr T by rw [← hT]; exact tr_omeg _ _ _)
    have HS := hide hS
    have HL := hide hL
    have HT := hide hT
    have z1 : decide ((c : Int) < (n : Int)) = false := by rw [decide_eq_false_iff_not]; omega
    clear hS hL hT hnT
    go_enter Tryz.func72, Tryz.ntmps72
    go_wp2_with fail
    refine (implSyndromes h ws A cn B _ (HI.out.below (HX.out.2.mono hB)) (Nat.le_trans hB (Nat.le_of_lt HX.out.lt))).mono ?_
    rw [HS.out]
    rintro e w1 ⟨A1, m1, rfl, hm1, ho, hb⟩
    rw [HSL.out] at ho hm1 ⊢
    have HX1 := hide (HX.out.next hb)
    have HP1 := hide ho.intsE
    clear ho hb c0 c1 c2 c3 c4
    obtain ⟨c0, c1, c2, c3, c4⟩ := HX1.out.cells
    go_wp2_with fail
    refine (implLocPoly h E HEI.out.2 A' n cm B _ (HI'.out.below (HX1.out.2.mono hB)) (Nat.le_trans hB (Nat.le_of_lt HX1.out.lt)) (by omega)).mono ?_
    rw [HL.out]
    rintro e w2 ⟨A2, m2, rfl, hm2, ho, hb⟩
    rw [HLL.out] at ho hm2 ⊢
    have HX2 := hide (HX1.out.next hb)
    have HP2 := hide ((HP1.out.below hb).more hb.size)
    have HQ2 := hide ho.intsE
    clear ho hb hm2 c0 c1 c2 c3 c4
    go_wp2_with fail
    go_region_held3 (fun w' => w'.cell? ⟨w.heap.size, 0, none⟩ = some (.int .i64 p) ∧ w'.cell? ⟨w.heap.size, 1, none⟩ = some (.int .i64 k) ∧ w'.cell? ⟨w.heap.size, 2, none⟩ = some (.int .i64 g) ∧ w'.cell? ⟨w.heap.size, 3, none⟩ = some (.int .i64 l) ∧ w'.cell? ⟨w.heap.size, 4, none⟩ = some (.int .i64 c))
      (first
        | exact HX2.out.drew.cells
        | exact HX3.out.cells
        | exact HX4.out.cells)
      (first
        | (go_at_call 100; refine (implEvaluator h S L A1 A2 c m1 (n + 1) m2 _ _ HP2.out.drew HQ2.out.drew (Nat.le_refl _) hm1 (by omega) (by omega)).mono ?_; rw [HT.out]; rintro e w3 ⟨A3, m3, rfl, hm3, ho, hb⟩; rw [HTL.out] at ho hm3 ⊢; have HX3 := hide (HX2.out.drew.next hb); have HP3 := hide ((HP2.out.drew.below hb).more hb.size); have HQ3 := hide ((HQ2.out.drew.below hb).more hb.size); have HT3 := hide ho.intsE; clear ho hb hm3)
        | (go_at_call 99; refine (implErrorLocator h T n HTT.out (by rw [HTL.out]; exact hnTc) hnc A3 nT m3 _ _ HT3.out (Nat.le_refl _)).mono ?_; intro e w4 hpost; obtain ⟨a, b, u, v, q, d, hEu, hst, hq, Av, mv, rfl, hmv, ho, hb⟩ := elPost_one hpost; have HX4 := hide (HX3.out.next hb); have HP4 := hide ((HP3.out.below hb).more hb.size); have HQ4 := hide ((HQ3.out.below hb).more hb.size); have HV4 := hide ho.ints; have HEu := hide hEu; have HST := hide hst; have HQQ := hide hq; obtain ⟨nq, hnq⟩ : ∃ nq, (iv q).length = nq := ⟨_, rfl⟩; have HNQ := hide hnq; rw [hnq] at HV4 ⊢; clear ho hb hmv hEu hst hq hnq hpost))
    have HEK := hide HEu.out
    rw [← HKP.out, ← HEN.out] at HEK
    have HSK := hide HST.out
    rw [← HEN.out] at HSK
    have HFD := hide (fun cw (ho : Okw γ l c E ws cw) => found (num := numE h.fld) h.far (num_zero h.fld) (num_succ h.fld) HEI.out HWL.out ho HEK.out HSK.out)
    rcases HQQ.out with ⟨hd, hv0⟩ | ⟨hd, hv0, hq⟩
    · have HF := hide (show ∀ cw, ¬ Okw γ l c E ws cw from fun cw ho => (HFD.out cw ho).1 hv0)
      subst hd
      clear hv0
      go_wp2_with fail
      go_ret2
      exact .inr ⟨newIB_nil HX4.out.2, HF.out⟩
    · have HFU := hide (show mulP L q = fullP γ l E v by rw [fullP, ← HL.out, hq])
      have HSO := hide (sound (num := numE h.fld) h.far (num_zero h.fld) (num_succ h.fld) HEI.out HWL.out HEK.out hv0)
      obtain ⟨P, hP⟩ : ∃ P, fullP γ l E v = P := ⟨_, rfl⟩
      have HPP := hide hP
      have hql : nq ≤ 100 := by
        rw [← HNQ.out, iv_len, hq]
        have h1 := eu_room HEK.out
        have h2 := trim_le (tab v.length fun i => (cf v 0).inv * cf v i)
        rw [tab_len] at h2
        show (trim (tab v.length fun i => (cf v 0).inv * cf v i)).length ≤ 100
        omega
      obtain ⟨nP, hnP⟩ : ∃ nP, (mulP L q).length = nP := ⟨_, rfl⟩
      have hnPb : nP ≤ 1000 := by rw [← hnP, mulP, tab_len]; unfold plen; rw [HLL.out, ← iv_len q, HNQ.out]; split <;> omega
      have HNP := hide hnP
      rw [hP] at HFU
      subst hd
      clear hP hnP hq hv0
      go_wp2_with fail
      go_region_held3 (fun w' => w'.cell? ⟨w.heap.size, 0, none⟩ = some (.int .i64 p) ∧ w'.cell? ⟨w.heap.size, 1, none⟩ = some (.int .i64 k) ∧ w'.cell? ⟨w.heap.size, 2, none⟩ = some (.int .i64 g) ∧ w'.cell? ⟨w.heap.size, 3, none⟩ = some (.int .i64 l) ∧ w'.cell? ⟨w.heap.size, 4, none⟩ = some (.int .i64 c))
        (first
          | exact HX4.out.drew.cells
          | exact HX5.out.cells
          | exact HX6.out.cells)
        (first
          | (go_at_call 102; refine (implTimes h.fld L q A2 Av (n + 1) m2 nq mv _ _ HQ4.out.drew HV4.out.drew (Nat.le_refl _) (by omega) (by omega)).mono ?_; rintro e w5 ⟨g5, m5, rfl, ho, hg5, hb⟩; rw [HNP.out] at ho ⊢; have HX5 := hide (HX4.out.drew.next hb); have HP5 := hide ((HP4.out.drew.below hb).more hb.size); have HT5 := hide ho.intsE; clear ho hg5 hb)
          | (go_at_call 101; refine (implLocatedBy h (mulP L q) (some ⟨g5, 0, none⟩) nP m5 _ _ HT5.out (Nat.le_refl _) (by omega)).mono ?_; rw [HFU.out]; rintro e w6 ⟨A6, m6, rfl, hm6, ho, hb⟩; have HX6 := hide (HX5.out.next hb); have HP6 := hide ((HP5.out.below hb).more hb.size); have HJ6 := hide ho.ints; obtain ⟨nJ, hnJ⟩ : ∃ nJ, (nv (locJ γ l P)).length = nJ := ⟨_, rfl⟩; have HNJ := hide hnJ; rw [hnJ] at HJ6 ⊢; clear ho hb hm6 hnJ))
      rcases hB : locB γ l P with _ | _
      · have HF := hide (show ∀ cw, ¬ Okw γ l c E ws cw from fun cw ho => by
          have := (HFD.out cw ho).2.2.1
          rw [HPP.out, hB] at this; cases this)
        clear hB
        go_wp2_with fail
        go_ret2
        exact .inr ⟨newIB_nil HX6.out.2, HF.out⟩
      · have HB := hide hB
        have HS2 := hide (HSO.out (by rw [HPP.out]; exact hB))
        rw [HPP.out] at HS2
        have HJE := hide (show locJ γ l P = hits γ l P by rw [locJ, hB]; rfl)
        obtain ⟨J, hJ⟩ : ∃ J, hits γ l P = J := ⟨_, rfl⟩
        have HJJ := hide hJ
        have HJI := hide (show Idx l J by rw [← hJ]; exact hits_idx _ _ _)
        rw [HJE.out, hJ] at HJ6 HNJ
        rw [hJ] at HS2
        have hnJ : J.length = nJ := by rw [← HNJ.out, nv_len]
        have hnJc : nJ ≤ c := by rw [← hnJ]; exact HS2.out.1
        have HJL := hide hnJ
        have HCO := hide (show ∀ cw, Okw γ l c E ws cw → valB γ l c S J = true ∧ corW (numE h.fld) γ l c ws J = cw from fun cw ho => by
          have h1 := HFD.out cw ho
          have h2 := h1.2.2.2.1
          rw [HPP.out, HJJ.out] at h2
          have := found_cor (num := numE h.fld) h.far (num_zero h.fld) (num_succ h.fld) HWL.out ho HJI.out (fun i hi => by rw [h2, union_mem]; exact ⟨fun h => h.2, fun h => ⟨hi, h⟩⟩) HS2.out.1
          rw [HS.out] at this
          exact this)
        obtain ⟨c0, c1, c2, c3, c4⟩ := HX6.out.cells
        clear hB hJ hnJ
        go_wp2_with fail
        refine (implErrorValues0 h S J HJI.out.2 A1 A6 c m1 nJ m6 _ w6 HP6.out HJ6.out (Nat.le_refl _) hm1 (by omega) (by omega)).mono ?_
        rintro e w7 ⟨A7, m7, rfl, hm7, ho, hb⟩
        have HX7 := hide (HX6.out.next hb)
        have HJ7 := hide ((HJ6.out.below hb).more hb.size)
        have HV7 := hide ho.ints
        obtain ⟨nV, hnV⟩ : ∃ nV, (iv (fvs (numE h.fld) γ l c S J)).length = nV := ⟨_, rfl⟩
        have HNV := hide hnV
        rw [hnV] at HV7 ⊢
        clear ho hb hm7 hnV c0 c1 c2 c3 c4
        rcases hvB : valB γ l c S J with _ | _
        · have HF := hide (show ∀ cw, ¬ Okw γ l c E ws cw from fun cw ho => by
            have := (HCO.out cw ho).1
            rw [hvB] at this; cases this)
          clear hvB
          go_wp2_with fail
          go_ret2
          exact .inr ⟨newIB_nil HX7.out.2, HF.out⟩
        · have HOK := hide (HS2.out.2 (by rw [HS.out]; exact hvB))
          have HVE := hide (show fvs (numE h.fld) γ l c S J = J.map (fvI (numE h.fld) γ l c S J) by rw [fvs, if_pos hvB])
          rw [HVE.out] at HV7 HNV
          have hnV : nV = nJ := by rw [← HNV.out, iv_len, List.length_map, HJL.out]
          subst hnV
          have HCE := hide (coF_end (γ := γ) (l := l) (c := c) (numE h.fld) ws J HWL.out)
          rw [HS.out] at HCE
          obtain ⟨f, hf⟩ : ∃ f, fvI (numE h.fld) γ l c S J = f := ⟨_, rfl⟩
          have HFF := hide hf
          rw [hf] at HV7 HCE
          clear hvB hf
          go_wp2_with fail
          refine (implClone A l cn B (iv ws) _ (HI.out.below (HX7.out.2.mono hB)) (Nat.le_trans hB (Nat.le_of_lt HX7.out.lt)) (by omega)).mono ?_
          rintro e w8 ⟨A8, m8, rfl, hm8, ho, hb⟩
          rw [iv_len, HWL.out] at ho ⊢
          have HX8 := hide (HX7.out.next hb)
          obtain ⟨gW, c8, he, hg8, hg8', _⟩ := ho.some_ (by rw [iv_len, HWL.out]; omega)
          simp only [Value.slice.injEq] at he
          obtain ⟨rfl, hx1, hx2⟩ := he
          have HO8 := hide (show Own w8 (w.heap.size + 1) 2 .i64 (.slice (some ⟨gW, 0, none⟩) l m8) (iv (tab l (coF ws f (J.take 0)))) by
            rw [List.take_zero, coF_nil ws f HWL.out]
            exact ho.low HX7.out.lt)
          have HJ8 := hide (((HJ7.out.below hb).more (B' := gW) hg8))
          have HV8 := hide (((HV7.out.below hb).more (B' := gW) hg8))
          have hgw : w.heap.size < gW := Nat.lt_of_lt_of_le HX7.out.lt hg8
          clear ho hb hm8 hx1 hx2 hg8
          go_wp2_with fail
          go_loopw [66] (fun i wr => CoRel w p k g l c nV gW A6 A7 J ws (J.map f) f m8 i wr) (fun i _ => nV - (intOf i).toNat)
          case atStart => exact ⟨0, by omega, rfl, HO8.out, HJ8.out, HV8.out, hg8', HX8.out⟩
          case round =>
            clear HX1 HX2 HX3 HX4 HX5 HX6 HX7 HX8 HP1 HP2 HQ2 HP3 HQ3 HT3 HP4 HQ4 HV4 HP5 HT5 HP6 HJ6 HJ7 HV7 HO8 HJ8 HV8 hg8'
            obtain ⟨j, hj, rfl, HO, HJr, HVr, HS1, HX⟩ := hrel
            have HX := hide HX
            have HO := hide HO
            have HJr := hide HJr
            have HVr := hide HVr
            have HS := hide HS1
            by_cases hlt : j < nV
            · obtain ⟨b1, o1, z', rfl, hb1, hz, hc1⟩ := HJr.out.at_ hlt
              obtain ⟨z, hzJ, rfl⟩ := nv_get hz
              have hzl : z < l := HJI.out.2 z (List.mem_of_getElem? hzJ)
              obtain ⟨b3, o3, y', rfl, hb3, hy, hc3⟩ := HVr.out.at_ hlt
              obtain ⟨y, hyf⟩ : ∃ y, y = f z := ⟨_, rfl⟩
              have hyy : y' = (y.val : Int) := by
                rw [iv, List.getElem?_map, List.getElem?_map, hzJ] at hy
                simp only [Option.map_some, Option.some.injEq] at hy
                rw [← hy, hyf]
              subst hyy
              obtain ⟨x, hx⟩ : ∃ x, x = cf ws z := ⟨_, rfl⟩
              have hcx := HO.out.cellAt (j := z) (x := (x.val : Int)) (by rw [iv, List.getElem?_map, coF_at HJI.out.nodup hzJ hzl, hx]; rfl)
              have HCX := hide hcx
              have HCY := hide hc3
              have HTT := hide (show (tab l (coF ws f (J.take j))).set z (x + -y) = tab l (coF ws f (J.take (j + 1))) by rw [hx, hyf]; exact coF_step hzJ)
              have hb3l : b3 < gW := hb3
              have hb3r : b3 < wr.heap.size := Nat.lt_trans hb3 HS.out
              clear hx hyf hy hz hzJ hcx hc3 hb3
              go_wp2_with fail
              refine tail_begin (fun w' => w'.cell? ⟨w.heap.size, 0, none⟩ = some (.int .i64 p) ∧ w'.cell? ⟨w.heap.size, 1, none⟩ = some (.int .i64 k) ∧ w'.cell? ⟨w.heap.size, 2, none⟩ = some (.int .i64 g) ∧ w'.cell? ⟨gW, z, none⟩ = some (.int .i64 (x.val : Int)) ∧ w'.cell? ⟨b3, o3 + j, none⟩ = some (.int .i64 (y.val : Int))) 17 (by kernel_rfl) ⟨HX.out.drew.cells.1, HX.out.drew.cells.2.1, HX.out.drew.cells.2.2.1, HCX.out, HCY.out⟩ (fun hS' => ?_)
              refine tail_take 0 rfl (by kernel_rfl) (by kernel_rfl) (by kernel_rfl) (by kernel_rfl) (fun _ _ _ h => h) (by rfl) (v := ?_) ?_ (by assumption) ?_
              rotate_left 1
              · intro w' hS'; (try dsimp only at hS'); go_simp; try with_reducible rfl
              try simp only [Act.put, List.setIfInBounds_toArray, List.set_cons_zero, List.set_cons_succ]
              refine tail_take 1 rfl (by kernel_rfl) (by kernel_rfl) (by kernel_rfl) (by kernel_rfl) (fun _ _ _ h => h) (by rfl) (v := ?_) ?_ (by assumption) ?_
              rotate_left 1
              · intro w' hS'; (try dsimp only at hS'); go_simp; try with_reducible rfl
              try simp only [Act.put, List.setIfInBounds_toArray, List.set_cons_zero, List.set_cons_succ]
              refine tail_take 2 rfl (by kernel_rfl) (by kernel_rfl) (by kernel_rfl) (by kernel_rfl) (fun _ _ _ h => h) (by rfl) (v := ?_) ?_ (by assumption) ?_
              rotate_left 1
              · intro w' hS'; (try dsimp only at hS'); go_simp; try with_reducible rfl
              try simp only [Act.put, List.setIfInBounds_toArray, List.set_cons_zero, List.set_cons_succ]
              refine tail_take 3 rfl (by kernel_rfl) (by kernel_rfl) (by kernel_rfl) (by kernel_rfl) (fun _ _ _ h => h) (by rfl) (v := ?_) ?_ (by assumption) ?_
              rotate_left 1
              · intro w' hS'; (try dsimp only at hS'); go_simp; try with_reducible rfl
              try simp only [Act.put, List.setIfInBounds_toArray, List.set_cons_zero, List.set_cons_succ]
              refine tail_take 4 rfl (by kernel_rfl) (by kernel_rfl) (by kernel_rfl) (by kernel_rfl) (fun _ _ _ h => h) (by rfl) (v := ?_) ?_ (by assumption) ?_
              rotate_left 1
              · intro w' hS'; (try dsimp only at hS'); go_simp; try with_reducible rfl
              try simp only [Act.put, List.setIfInBounds_toArray, List.set_cons_zero, List.set_cons_succ]
              refine tail_take 5 rfl (by kernel_rfl) (by kernel_rfl) (by kernel_rfl) (by kernel_rfl) (fun _ _ _ h => h) (by rfl) (v := ?_) ?_ (by assumption) ?_
              rotate_left 1
              · intro w' hS'; (try dsimp only at hS'); go_simp; try with_reducible rfl
              try simp only [Act.put, List.setIfInBounds_toArray, List.set_cons_zero, List.set_cons_succ]
              refine tail_take 6 rfl (by kernel_rfl) (by kernel_rfl) (by kernel_rfl) (by kernel_rfl) (fun _ _ _ h => h) (by rfl) (v := ?_) ?_ (by assumption) ?_
              rotate_left 1
              · intro w' hS'; (try dsimp only at hS'); go_simp; try with_reducible rfl
              try simp only [Act.put, List.setIfInBounds_toArray, List.set_cons_zero, List.set_cons_succ]
              refine tail_take 7 rfl (by kernel_rfl) (by kernel_rfl) (by kernel_rfl) (by kernel_rfl) (fun _ _ _ h => h) (by rfl) (v := ?_) ?_ (by assumption) ?_
              rotate_left 1
              · intro w' hS'; (try dsimp only at hS'); go_simp; try with_reducible rfl
              try simp only [Act.put, List.setIfInBounds_toArray, List.set_cons_zero, List.set_cons_succ]
              refine tail_take 8 rfl (by kernel_rfl) (by kernel_rfl) (by kernel_rfl) (by kernel_rfl) (fun _ _ _ h => h) (by rfl) (v := ?_) ?_ (by assumption) ?_
              rotate_left 1
              · intro w' hS'; (try dsimp only at hS'); go_simp; try with_reducible rfl
              try simp only [Act.put, List.setIfInBounds_toArray, List.set_cons_zero, List.set_cons_succ]
              refine tail_take 9 rfl (by kernel_rfl) (by kernel_rfl) (by kernel_rfl) (by kernel_rfl) (fun _ _ _ h => h) (by rfl) (v := ?_) ?_ (by assumption) ?_
              rotate_left 1
              · intro w' hS'; (try dsimp only at hS'); go_simp; try with_reducible rfl
              try simp only [Act.put, List.setIfInBounds_toArray, List.set_cons_zero, List.set_cons_succ]
              refine tail_take 10 rfl (by kernel_rfl) (by kernel_rfl) (by kernel_rfl) (by kernel_rfl) (fun _ _ _ h => h) (by rfl) (v := ?_) ?_ (by assumption) ?_
              rotate_left 1
              · intro w' hS'; (try dsimp only at hS'); go_simp; try with_reducible rfl
              try simp only [Act.put, List.setIfInBounds_toArray, List.set_cons_zero, List.set_cons_succ]
              refine tail_take 11 rfl (by kernel_rfl) (by kernel_rfl) (by kernel_rfl) (by kernel_rfl) (fun _ _ _ h => h) (by rfl) (v := ?_) ?_ (by assumption) ?_
              rotate_left 1
              · intro w' hS'; (try dsimp only at hS'); go_simp; try with_reducible rfl
              try simp only [Act.put, List.setIfInBounds_toArray, List.set_cons_zero, List.set_cons_succ]
              refine tail_take 12 rfl (by kernel_rfl) (by kernel_rfl) (by kernel_rfl) (by kernel_rfl) (fun _ _ _ h => h) (by rfl) (v := ?_) ?_ (by assumption) ?_
              rotate_left 1
              · intro w' hS'; (try dsimp only at hS'); go_simp; try with_reducible rfl
              try simp only [Act.put, List.setIfInBounds_toArray, List.set_cons_zero, List.set_cons_succ]
              refine tail_take 13 rfl (by kernel_rfl) (by kernel_rfl) (by kernel_rfl) (by kernel_rfl) (fun _ _ _ h => h) (by rfl) (v := ?_) ?_ (by assumption) ?_
              rotate_left 1
              · intro w' hS'; (try dsimp only at hS'); go_simp; try with_reducible rfl
              try simp only [Act.put, List.setIfInBounds_toArray, List.set_cons_zero, List.set_cons_succ]
              refine tail_call 14 rfl (by kernel_rfl) rfl (fun K hK => ?_)
              go_simp
              go_at_call 91; refine (implNegE h.fld y _).mono ?_; rintro e' w2 ⟨rfl, hb2⟩; have HX2 := hide (HX.out.drew.next hb2); have HO2 := hide (HO.out.drew.below hb2 (Nat.le_refl _)); have HCX2 := hide ((hb2.cell (p := ⟨gW, z, none⟩) HS.out).trans HCX.out); have HCY2 := hide ((hb2.cell (p := ⟨b3, o3 + j, none⟩) hb3r).trans HCY.out); have HS2 := hide (Nat.lt_of_lt_of_le HS.out hb2.size); have HBA := hide hb2; clear hb2
              refine hK.out _ _ (by (try dsimp only); exact ⟨HX2.out.cells.1, HX2.out.cells.2.1, HX2.out.cells.2.2.1, HCX2.out, HCY2.out⟩) (fun hS' => ?_)
              clear hK K
              try simp only [Act.put, List.setIfInBounds_toArray, List.set_cons_zero, List.set_cons_succ]
              refine tail_call 15 rfl (by kernel_rfl) rfl (fun K hK => ?_)
              go_simp
              go_at_call 105; refine (implSumE h.fld x (-y) _).mono ?_; rintro e' w3 ⟨rfl, hb3'⟩; have HX3 := hide (HX2.out.next hb3'); have HO3 := hide (HO2.out.below hb3' (Nat.le_refl _)); have HCX3 := hide ((hb3'.cell (p := ⟨gW, z, none⟩) HS2.out).trans HCX2.out); have HCY3 := hide ((hb3'.cell (p := ⟨b3, o3 + j, none⟩) (Nat.lt_trans hb3l HS2.out)).trans HCY2.out); have HS3 := hide (Nat.lt_of_lt_of_le HS2.out hb3'.size); have HBB := hide (HBA.out.trans (hb3'.mono HBA.out.size)); clear hb3'
              refine hK.out _ _ (by (try dsimp only); exact ⟨HX3.out.cells.1, HX3.out.cells.2.1, HX3.out.cells.2.2.1, HCX3.out, HCY3.out⟩) (fun hS' => ?_)
              clear hK K
              try simp only [Act.put, List.setIfInBounds_toArray, List.set_cons_zero, List.set_cons_succ]
              refine tail_take 16 rfl (by kernel_rfl) (by kernel_rfl) (by kernel_rfl) (by kernel_rfl) (fun _ _ _ h => h) (by rfl) (v := ?_) ?_ (by assumption) ?_
              rotate_left 1
              · intro w' hS'; (try dsimp only at hS'); go_simp; try with_reducible rfl
              try simp only [Act.put, List.setIfInBounds_toArray, List.set_cons_zero, List.set_cons_succ]
              have fx := HO3.out.frozenAt z
              have cx := HCX3.out
              refine tail_last 17 rfl (by kernel_rfl) (by kernel_rfl) rfl rfl (fun K hK => ?_)
              go_simp
              refine hK.out _ _ ?_
              clear hK K
              try simp only [Act.put, List.setIfInBounds_toArray, List.set_cons_zero, List.set_cons_succ]
              have HO9 := hide (HO3.out.stored z ((x + -y).val : Nat)).1
              have HG9 := hide (HO3.out.stored z ((x + -y).val : Nat)).2
              rw [iv_set, HTT.out] at HO9
              have HX9 := hide (HX3.out.grow HG9.out (fun r hr => by injection hr with hr; omega))
              have HB9 := hide (show Below gW wr.drew (w3.setCell ⟨gW, z, none⟩ (.int .i64 ((x + -y).val : Nat))) from (HBB.out.mono (Nat.le_of_lt HS.out)).grown HG9.out (Nat.le_trans (Nat.le_of_lt HS.out) HBB.out.size) (fun r hr => by injection hr with hr; omega))
              have HJ9 := hide (HJr.out.drew.below HB9.out)
              have HV9 := hide (HVr.out.drew.below HB9.out)
              have HS9 := hide (Nat.lt_of_lt_of_le HS3.out HG9.out.size)
              clear HX HO HJr HVr HCX HCY HX2 HO2 HCX2 HCY2 HBA HX3 HO3 HCX3 HCY3 HBB HB9 HG9 fx cx
              go_wp2_with fail
              go_roundw
              case rel => exact ⟨j + 1, by omega, by go_num, HO9.out, HJ9.out, HV9.out, HS9.out, HX9.out⟩
              case measure => simp [intOf]; omega
            · obtain rfl : j = nV := by omega
              have HE := hide (show tab l (coF ws f (J.take j)) = corW (numE h.fld) γ l c ws J by rw [List.take_of_length_le (by rw [HJL.out]; exact Nat.le_refl _)]; exact HCE.out)
              have HO2 := hide HO.out
              rw [HE.out] at HO2
              have HG := hide (show CoPost γ l c E ws w (.returned (.tuple #[.slice (some ⟨gW, 0, none⟩) l m8, .bool true])) wr from .inl ⟨_, newIB_of HO2.out HX.out.2 (Nat.le_succ _), by rw [corW_len, HWL.out], HOK.out, fun cw ho => (HCO.out cw ho).2⟩)
              go_wp2_with fail
              go_ret2
              exact HG.out
  · have z1 : decide ((c : Int) < (n : Int)) = true := by rw [decide_eq_true_eq]; omega
    have HF := hide (show ∀ cw, ¬ Okw γ l c E ws cw from fun cw ho => by have := ho.2.2; rw [HEN.out] at this; omega)
    go_enter Tryz.func72, Tryz.ntmps72
    go_wp2_with fail
    go_ret2
    exact .inr ⟨newIB_nil HX.out.2, HF.out⟩
end
end Go.Proofs.YtlphodhecaagbaaGreat
