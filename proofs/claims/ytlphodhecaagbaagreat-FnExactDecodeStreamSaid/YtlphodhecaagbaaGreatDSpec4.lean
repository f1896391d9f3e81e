/-
  The contract of corrected words, of the model.
  Condition: the code is valid.
-/
import Derived.Test.YtlphodhecaagbaaGreatDSpec3
import Derived.Test.YtlphodhecaagbaaGreatAppL
namespace Go.Proofs.YtlphodhecaagbaaGreat
open Go.RowKit
set_option linter.unusedSimpArgs false
set_option linter.unusedVariables false

section
variable {R : Fld} {γ : El R} {p k g : Int} {l c : Nat}
theorem eq_val {x y : El R} : ((x.val : Int) == (y.val : Int)) = decide (x = y) := by
  by_cases h : x = y
  · subst h; simp
  · have : x.val ≠ y.val := fun e => h (El.eq e)
    simp [h]; omega
theorem mem_nv {i : Nat} {P : List Nat} : ((i : Int) ∈ nv P) ↔ i ∈ P := by
  unfold nv; rw [List.mem_map]
  constructor
  · rintro ⟨j, hj, e⟩
    obtain rfl : j = i := by omega
    exact hj
  · exact fun h => ⟨i, h, rfl⟩
def unN (P Q : List Nat) (n : Nat) : List Nat := (List.range n).filter fun i => decide (i ∈ P) || decide (i ∈ Q)
theorem unN_succ (P Q : List Nat) (n : Nat) : unN P Q (n + 1) = unN P Q n ++ (if n ∈ P ∨ n ∈ Q then [n] else []) := by
  unfold unN
  rw [List.range_succ, List.filter_append]
  congr 1
  by_cases h : n ∈ P ∨ n ∈ Q
  · rw [if_pos h]; simp [h]
  · rw [if_neg h]; simp [h]
theorem unN_len (P Q : List Nat) (n : Nat) : (unN P Q n).length ≤ n := by
  have := List.length_filter_le (fun i => decide (i ∈ P) || decide (i ∈ Q)) (List.range n)
  rw [List.length_range] at this; exact this
def erN (E : List Nat) (ws cw : List (El R)) (n : Nat) : List Nat := (List.range n).filter fun i => !decide (i ∈ E) && !decide (cf ws i = cf cw i)
theorem erN_succ (E : List Nat) (ws cw : List (El R)) (n : Nat) : erN E ws cw (n + 1) = erN E ws cw n ++ (if n ∉ E ∧ cf ws n ≠ cf cw n then [n] else []) := by
  unfold erN
  rw [List.range_succ, List.filter_append]
  congr 1
  by_cases h : n ∈ E <;> by_cases h' : cf ws n = cf cw n <;> simp [h, h']
theorem erN_len (E : List Nat) (ws cw : List (El R)) (n : Nat) : (erN E ws cw n).length ≤ n := by
  have := List.length_filter_le (fun i => !decide (i ∈ E) && !decide (cf ws i = cf cw i)) (List.range n)
  rw [List.length_range] at this; exact this
/-- What a function leaves that returns two new lists and a bool. -/
def NewIIB (r s : List Int) (b : Bool) (w : World) (x : Ending) (w' : World) : Prop :=
  ∃ A m A' m', x = .returned (.tuple #[.slice A r.length m, .slice A' s.length m', .bool b]) ∧ r.length ≤ m ∧ s.length ≤ m' ∧ Own w' w.heap.size 2 .i64 (.slice A r.length m) r ∧ Own w' w.heap.size 2 .i64 (.slice A' s.length m') s ∧
    (((Value.slice A r.length m).ownBlock = none ∨ (Value.slice A r.length m).ownBlock ≠ (Value.slice A' s.length m').ownBlock) ∧ ((Value.slice A' s.length m').ownBlock = none ∨ (Value.slice A' s.length m').ownBlock ≠ (Value.slice A r.length m).ownBlock)) ∧ Below w.heap.size w w'
theorem ne_swap {v v' : Value} (hne : v.ownBlock = none ∨ v.ownBlock ≠ v'.ownBlock) : v'.ownBlock = none ∨ v'.ownBlock ≠ v.ownBlock := by
  rcases h1 : v'.ownBlock with _ | x
  · exact .inl rfl
  · refine .inr fun e => ?_
    rcases hne with h2 | h2
    · rw [h2] at e; cases e
    · exact h2 (by rw [h1, ← e])
theorem newIIB_of {r s : List Int} {b : Bool} {w w' : World} {v v' : Value} {base : Nat} (h : Own w' base 2 .i64 v r) (h' : Own w' base 2 .i64 v' s) (hne : v.ownBlock = none ∨ v.ownBlock ≠ v'.ownBlock) (hb : Below w.heap.size w w') (hB : w.heap.size ≤ base) : NewIIB r s b w (.returned (.tuple #[v, v', .bool b])) w' := by
  obtain ⟨A, m, rfl, hc⟩ := h.form
  obtain ⟨A', m', rfl, hc'⟩ := h'.form
  exact ⟨A, m, A', m', rfl, hc, hc', h.low hB, h'.low hB, ⟨hne, ne_swap hne⟩, hb⟩
theorem newIIB_nil {b : Bool} {w w' : World} (hb : Below w.heap.size w w') : NewIIB [] [] b w (.returned (.tuple #[.slice none 0 0, .slice none 0 0, .bool b])) w' :=
  newIIB_of (base := w.heap.size) (World.ownsRow_nil _ _ _ _) (World.ownsRow_nil _ _ _ _) (.inl rfl) hb (Nat.le_refl _)
/-- What the model's corrected word leaves. -/
def ScPost (γ : El R) (l c : Nat) (E : List Nat) (ws : List (El R)) (w : World) (x : Ending) (w' : World) : Prop :=
  (∃ out : List (El R), NewIIB (iv out) (nv (difs ws out)) true w x w' ∧ out.length = l ∧ Okw γ l c E ws out ∧ ∀ cw, Okw γ l c E ws cw → out = cw) ∨ (∃ r s, NewIIB r s false w x w' ∧ ∀ cw, ¬ Okw γ l c E ws cw)
def UnRel (w : World) (p k g : Int) (l c N nH : Nat) (A9 A10 : Option Addr) (S : List (El R)) (P Q : List Nat) (v i : Value) (wr : World) : Prop :=
  ∃ j : Nat, j ≤ l ∧ i = .int .i64 j ∧ Own wr N 2 .i64 v (nv (unN P Q j)) ∧ Ints .i64 wr N A10 nH (nv P) ∧ Ints .i64 wr N A9 c (iv S) ∧ N ≤ wr.heap.size ∧ CBox w wr p k g l c
def S2Rel (w : World) (p k g : Int) (l c N : Nat) (A13 : Option Addr) (E : List Nat) (ws W X : List (El R)) (vo vd d i : Value) (wr : World) : Prop :=
  ∃ j : Nat, j ≤ l ∧ i = .int .i64 j ∧ d = .int .i64 (E.length + 2 * (erN E ws W j).length : Nat) ∧ Own wr N 2 .i64 vo (iv (tab j (cf W))) ∧ Own wr N 2 .i64 vd (nv (difN ws W j)) ∧ (vo.ownBlock = none ∨ vo.ownBlock ≠ vd.ownBlock) ∧ (vd.ownBlock = none ∨ vd.ownBlock ≠ vo.ownBlock) ∧ Ints .i64 wr N A13 l (iv X) ∧ N ≤ wr.heap.size ∧ CBox w wr p k g l c

set_option maxRecDepth 100000 in
set_option maxHeartbeats 8000000 in
theorem specCorrect (h : CodeIs R γ p k g l c) (E : List Nat) (hE : Idx l E) (ws : List (El R)) (A A' : Option Addr) (cn n cm B : Nat) (w : World) (hI : Ints .i64 w B A l (iv ws)) (hI' : Ints .i64 w B A' n (nv E)) (hB : B ≤ w.heap.size) :
    Calls Tryz.prog 78 #[.agg #[.int .i64 p, .int .i64 k, .int .i64 g, .int .i64 l, .int .i64 c], .slice A l cn, .slice A' n cm] w (ScPost γ l c E ws w) := by
  have HX := hide (CBox.start w p k g l c)
  have hl255 := h.l255
  have hc64 := h.c64
  have hcl := h.cl
  have hwl : ws.length = l := by rw [← iv_len]; exact hI.len
  have hEn : E.length = n := by rw [← nv_len]; exact hI'.len
  have hnl : n ≤ l := by rw [← hEn]; exact hE.len
  have HI := hide hI
  have HI' := hide hI'
  have HWL := hide hwl
  have HEN := hide hEn
  have HEI := hide hE
  clear hI hI' hE hEn hwl
  obtain ⟨c0, c1, c2, c3, c4⟩ := HX.out.cells
  by_cases hnc : n ≤ c
  · obtain ⟨S, hS⟩ : ∃ S, synW γ c ws = S := ⟨_, rfl⟩
    have HSL := hide (show S.length = c by rw [← hS, syn_len])
    have HS := hide hS
    have HKP := hide (show keyP γ l c ws E = omeg c S (locP (locs γ l E)) by rw [keyP, hS])
    have z1 : decide ((c : Int) < (n : Int)) = false := by rw [decide_eq_false_iff_not]; omega
    clear hS
    go_enter Tryz.func78, Tryz.ntmps78
    go_wp2_with fail
    refine (specSyndromes h ws A l cn B _ (HI.out.below (HX.out.2.mono hB)) (Nat.le_trans hB (Nat.le_of_lt HX.out.lt)) (by omega)).mono ?_
    rw [HS.out]
    rintro e w1 ⟨A1, m1, rfl, hm1, ho, hb⟩
    rw [HSL.out] at ho hm1 ⊢
    have HX1 := hide (HX.out.next hb)
    have HP1 := hide ho.intsE
    clear ho hb c0 c1 c2 c3 c4
    go_wp2_with fail
    go_region_held3 (fun w' => w'.cell? ⟨w.heap.size, 0, none⟩ = some (.int .i64 p) ∧ w'.cell? ⟨w.heap.size, 1, none⟩ = some (.int .i64 k) ∧ w'.cell? ⟨w.heap.size, 2, none⟩ = some (.int .i64 g) ∧ w'.cell? ⟨w.heap.size, 3, none⟩ = some (.int .i64 l) ∧ w'.cell? ⟨w.heap.size, 4, none⟩ = some (.int .i64 c))
      (first
        | exact HX1.out.drew.cells
        | exact HX2.out.cells
        | exact HX3.out.cells)
      (first
        | (go_at_call 109; refine (specEuclid h S E HEI.out.2 A1 A' c m1 n cm _ _ HP1.out.drew ((HI'.out.below (HX1.out.drew.2.mono hB)).more (Nat.le_trans hB (Nat.le_of_lt HX1.out.drew.lt))) (Nat.le_refl _) hm1 (by omega) hnc).mono ?_; rintro e w2 ⟨a, b, u, v, hEu, hst, Av, mv, rfl, hmv, ho, hb⟩; have HX2 := hide (HX1.out.drew.next hb); have HP2 := hide ((HP1.out.drew.below hb).more hb.size); have HV2 := hide ho.intsE; have HEu := hide hEu; have HST := hide hst; clear ho hb hmv hEu hst)
        | (go_at_call 108; refine (specFind h v Av v.length mv _ _ HV2.out (Nat.le_refl _) (by have := HEu.out.len; have := HEu.out.ba; omega)).mono ?_; rintro e w3 ⟨A3, m3, rfl, hm3, ho, hb⟩; have HX3 := hide (HX2.out.next hb); have HP3 := hide ((HP2.out.below hb).more hb.size); have HH3 := hide ho.ints; obtain ⟨nH, hnH⟩ : ∃ nH, (nv (hits γ l v)).length = nH := ⟨_, rfl⟩; have HNH := hide hnH; rw [hnH] at HH3 ⊢; clear ho hb hm3 hnH))
    have HEK := hide HEu.out
    rw [← HKP.out, ← HEN.out] at HEK
    have HSK := hide HST.out
    rw [← HEN.out] at HSK
    have HFD := hide (fun cw (ho : Okw γ l c E ws cw) => found (num := numE h.fld) h.far (num_zero h.fld) (num_succ h.fld) HEI.out HWL.out ho HEK.out HSK.out)
    obtain ⟨P, hP⟩ : ∃ P, hits γ l v = P := ⟨_, rfl⟩
    have HPI := hide (show Idx l P by rw [← hP]; exact hits_idx _ _ _)
    have hPn : P.length = nH := by rw [← hP, ← HNH.out, nv_len]
    have hnHl : nH ≤ l := by rw [← hPn]; exact HPI.out.len
    rw [hP] at HH3
    have HCO := hide (show ∀ cw, Okw γ l c E ws cw → (union l P E).length ≤ c ∧ corW (numE h.fld) γ l c ws (union l P E) = cw from fun cw ho => by
      have h1 := HFD.out cw ho
      have h2 : ∀ i, i < l → (i ∈ union l P E ↔ i ∈ E ∨ i ∈ errs l E ws cw) := fun i hi => by
        have h3 := h1.2.1 i hi
        rw [hP] at h3
        rw [union_mem, h3]
        exact ⟨fun h => h.2.symm, fun h => ⟨hi, h.symm⟩⟩
      have h4 : (union l P E).length ≤ c := by
        refine Nat.le_trans (len_le_of_sub (b := union l E (errs l E ws cw)) (union_idx _ _ _).nodup fun i hi => ?_) h1.2.2.2.2
        have hil := (union_mem.1 hi).1
        exact union_mem.2 ⟨hil, (h2 i hil).1 hi⟩
      exact ⟨h4, (found_cor (num := numE h.fld) h.far (num_zero h.fld) (num_succ h.fld) HWL.out ho (union_idx l P E) h2 h4).2⟩)
    have HX4 := hide (HX3.out.alloc (.cells #[] 2))
    have HO4 := hide (Own.lit0 w3 2 .i64)
    have HH4 := hide (HH3.out.below ((Below.refl w3.heap.size w3).alloc (Nat.le_refl _) (.cells #[] 2)))
    have HP4 := hide (HP3.out.below ((Below.refl w3.heap.size w3).alloc (Nat.le_refl _) (.cells #[] 2)))
    have HN4 := hide (show w3.heap.size ≤ (w3.alloc (.cells #[] 2)).heap.size by rw [alloc_size]; exact Nat.le_succ _)
    have HNW := hide HX3.out.lt
    clear hP hPn HX1 HX2 HX3 HP1 HP2 HP3 HV2 HH3 HEu HST HEK HSK HFD HNH HKP
    go_wp2_with fail
    go_loopw [11, 12] (fun v i wr => UnRel w p k g l c w3.heap.size nH A1 A3 S P E v i wr) (fun _ i _ => l - (intOf i).toNat)
    case atStart => exact ⟨0, by omega, rfl, HO4.out, HH4.out, HP4.out, HN4.out, HX4.out⟩
    case round =>
      clear HX HX4 HO4 HH4 HP4 HN4
      obtain ⟨v, rfl⟩ : ∃ v : Value, v = u11 := ⟨_, rfl⟩
      obtain ⟨j, hj, rfl, HO, HH, HP, HN, HX⟩ := hrel
      have HX := hide HX
      have HO := hide HO
      have HH := hide HH
      have HP := hide HP
      have HN := hide HN
      obtain ⟨c0, c1, c2, c3, c4⟩ := HX.out.cells
      by_cases hlt : j < l
      · have HSU := hide (unN_succ P E j)
        have hwl : w3.heap.size ≤ wr.heap.size := HN.out
        have HVB := hide (show ∀ b, v.ownBlock = some b → w.heap.size < b from fun b hb => Nat.lt_of_lt_of_le HNW.out (HO.out.lt hb).1)
        have HVN := hide (show ∀ b, v.ownBlock = some b → w3.heap.size ≤ b from fun b hb => (HO.out.lt hb).1)
        have hlen : (nv (unN P E j)).length + 1 ≤ 100000 := by rw [nv_len]; have := unN_len P E j; omega
        have HIE := hide (HI'.out.below (HX.out.2.mono hB))
        by_cases hjP : j ∈ P
        · have HMP := hide (show decide ((j : Int) ∈ nv P) = true by rw [decide_eq_true_eq, mem_nv]; exact hjP)
          have HZ := hide (show unN P E (j + 1) = unN P E j ++ [j] by rw [HSU.out, if_pos (.inl hjP)])
          clear hjP HSU
          go_wp2_with fail
          refine (specHas A3 nH m3 _ (nv P) (j : Int) wr HH.out (by omega)).mono ?_
          rw [HMP.out]
          rintro e wz ⟨rfl, rfl⟩
          go_wp2_with (at_builtin; refine wpList_app1 wr rfl _ _ _ rfl elem64 w3.heap.size v _ rfl HO.out (j : Int) rfl (by omega) hwl ?_; intro v5 w5 hown hgrow)
          have HO5 := hide (show Own w5 w3.heap.size 2 .i64 v5 (nv (unN P E (j + 1))) by rw [HZ.out, nv_app]; exact hown)
          have HX5 := hide (HX.out.grow hgrow HVB.out)
          have HH5 := hide (HH.out.grown hgrow HN.out HVN.out)
          have HP5 := hide (HP.out.grown hgrow HN.out HVN.out)
          have HN5 := hide (Nat.le_trans HN.out hgrow.size)
          clear hown hgrow
          go_wp2_with fail
          go_roundw
          case rel => exact ⟨j + 1, by omega, by go_num, HO5.out, HH5.out, HP5.out, HN5.out, HX5.out⟩
          case measure => simp [intOf]; omega
        · have HMP := hide (show decide ((j : Int) ∈ nv P) = false by rw [decide_eq_false_iff_not, mem_nv]; exact hjP)
          by_cases hjE : j ∈ E
          · have HME := hide (show decide ((j : Int) ∈ nv E) = true by rw [decide_eq_true_eq, mem_nv]; exact hjE)
            have HZ := hide (show unN P E (j + 1) = unN P E j ++ [j] by rw [HSU.out, if_pos (.inr hjE)])
            clear hjP hjE HSU
            go_wp2_with fail
            refine (specHas A3 nH m3 _ (nv P) (j : Int) wr HH.out (by omega)).mono ?_
            rw [HMP.out]
            rintro e wz ⟨rfl, rfl⟩
            go_wp2_with fail
            refine (specHas A' n cm _ (nv E) (j : Int) wr HIE.out (by omega)).mono ?_
            rw [HME.out]
            rintro e wz ⟨rfl, rfl⟩
            go_wp2_with (at_builtin; refine wpList_app1 wr rfl _ _ _ rfl elem64 w3.heap.size v _ rfl HO.out (j : Int) rfl (by omega) hwl ?_; intro v5 w5 hown hgrow)
            have HO5 := hide (show Own w5 w3.heap.size 2 .i64 v5 (nv (unN P E (j + 1))) by rw [HZ.out, nv_app]; exact hown)
            have HX5 := hide (HX.out.grow hgrow HVB.out)
            have HH5 := hide (HH.out.grown hgrow HN.out HVN.out)
            have HP5 := hide (HP.out.grown hgrow HN.out HVN.out)
            have HN5 := hide (Nat.le_trans HN.out hgrow.size)
            clear hown hgrow
            go_wp2_with fail
            go_roundw
            case rel => exact ⟨j + 1, by omega, by go_num, HO5.out, HH5.out, HP5.out, HN5.out, HX5.out⟩
            case measure => simp [intOf]; omega
          · have HME := hide (show decide ((j : Int) ∈ nv E) = false by rw [decide_eq_false_iff_not, mem_nv]; exact hjE)
            have HZ := hide (show unN P E (j + 1) = unN P E j by rw [HSU.out, if_neg (fun h => h.elim hjP hjE), List.append_nil])
            have HO5 := hide HO.out
            rw [← HZ.out] at HO5
            clear hjP hjE HSU
            go_wp2_with fail
            refine (specHas A3 nH m3 _ (nv P) (j : Int) wr HH.out (by omega)).mono ?_
            rw [HMP.out]
            rintro e wz ⟨rfl, rfl⟩
            go_wp2_with fail
            refine (specHas A' n cm _ (nv E) (j : Int) wr HIE.out (by omega)).mono ?_
            rw [HME.out]
            rintro e wz ⟨rfl, rfl⟩
            go_wp2_with fail
            go_roundw
            case rel => exact ⟨j + 1, by omega, by go_num, HO5.out, HH.out, HP.out, HN.out, HX.out⟩
            case measure => simp [intOf]; omega
      · obtain rfl : j = l := by omega
        have HO2 := hide (show Own wr w3.heap.size 2 .i64 v (nv (union j P E)) from HO.out)
        obtain ⟨J, hJ⟩ : ∃ J, union j P E = J := ⟨_, rfl⟩
        have HJI := hide (show Idx j J by rw [← hJ]; exact union_idx _ _ _)
        rw [hJ] at HO2 HCO
        obtain ⟨nJ, hnJ⟩ : ∃ nJ, J.length = nJ := ⟨_, rfl⟩
        have hnJj : nJ ≤ j := by rw [← hnJ]; exact HJI.out.len
        have HNJ := hide hnJ
        have HF0 := hide HO2.out.form
        obtain ⟨Av, cv, rfl, hcv⟩ := HF0.out
        rw [nv_len, HNJ.out] at HO2 hcv ⊢
        have HNZ := hide HNW.out
        clear hJ hnJ HO hcv HF0
        by_cases hnJc : nJ ≤ c
        · have z2 : decide ((c : Int) < (nJ : Int)) = false := by rw [decide_eq_false_iff_not]; omega
          obtain ⟨f, hf⟩ : ∃ f, fvI (numE h.fld) γ j c S J = f := ⟨_, rfl⟩
          obtain ⟨X, hX⟩ : ∃ X, spread j J f = X := ⟨_, rfl⟩
          obtain ⟨W, hW⟩ : ∃ W, corW (numE h.fld) γ j c ws J = W := ⟨_, rfl⟩
          have HFF := hide hf
          have HXX := hide hX
          have hXl : X.length = j := by rw [← hX, spread_len]
          have HXL := hide hXl
          have HWLen := hide (show W.length = j by rw [← hW, corW_len, HWL.out])
          have HCW := hide (show ∀ i, i < j → cf ws i + -(cf X i) = cf W i from fun i hi => by
            rw [← hW, corW, HS.out, hf, hX, cf_sub (by rw [HWL.out]; exact hi)])
          have HUQ := hide (show ∀ cw, Okw γ j c E ws cw → W = cw from fun cw ho => by rw [← hW]; exact (HCO.out cw ho).2)
          clear hf hX hW hXl
          have HJ2 := hide (show Ints .i64 wr wr.heap.size Av nJ (nv J) by have h1 := HO2.out.ints; rwa [nv_len, HNJ.out] at h1)
          obtain ⟨c0, c1, c2, c3, c4⟩ := HX.out.cells
          go_wp2_with fail
          clear c0 c1 c2 c3 c4
          go_region_held3 (fun w' => w'.cell? ⟨w.heap.size, 0, none⟩ = some (.int .i64 p) ∧ w'.cell? ⟨w.heap.size, 1, none⟩ = some (.int .i64 k) ∧ w'.cell? ⟨w.heap.size, 2, none⟩ = some (.int .i64 g) ∧ w'.cell? ⟨w.heap.size, 3, none⟩ = some (.int .i64 j) ∧ w'.cell? ⟨w.heap.size, 4, none⟩ = some (.int .i64 c))
            (first
              | exact HX.out.drew.cells
              | exact HX5.out.cells
              | exact HX6.out.cells)
            (first
              | (go_at_call 111; refine (specValues h S J HJI.out.2 A1 Av c m1 nJ cv _ _ ((HP.out.drew.more HN.out)) HJ2.out.drew (Nat.le_refl _) hm1 (by omega) (by omega)).mono ?_; rw [HFF.out]; rintro e w5 ⟨A5, m5, rfl, hm5, ho, hb⟩; rw [List.length_map, HNJ.out] at ho ⊢; have HX5 := hide (HX.out.drew.next hb); have HJ5 := hide ((HJ2.out.drew.below hb).more hb.size); have HV5 := hide ho.intsE; clear ho hb hm5)
              | (go_at_call 110; refine (specSpread hl255 J HJI.out.2 f Av A5 nJ cv m5 _ _ HJ5.out HV5.out (Nat.le_refl _) (by omega)).mono ?_; rw [HXX.out]; rintro e w6 ⟨A6, m6, rfl, hm6, ho, hb⟩; rw [HXL.out] at ho ⊢; have HX6 := hide (HX5.out.next hb); have HC6 := hide ho.intsE; clear ho hb hm6))
          have HX7 := hide (HX6.out.alloc (.cells #[] 2))
          have HX8 := hide (HX7.out.alloc (.cells #[] 2))
          have HOo := hide ((Own.lit0 w6 2 .i64).alloc (.cells #[] 2))
          have HOd := hide ((Own.lit0 (w6.alloc (.cells #[] 2)) 2 .i64).low (base' := w6.heap.size) (by rw [alloc_size]; exact Nat.le_succ _))
          rw [alloc_size] at HOd
          have HBl := hide (show Below w6.heap.size w6 ((w6.alloc (.cells #[] 2)).alloc (.cells #[] 2)) from ((Below.refl w6.heap.size w6).alloc (Nat.le_refl _) _).alloc (by rw [alloc_size]; exact Nat.le_succ _) _)
          have HC8 := hide (HC6.out.below HBl.out)
          have HN8 := hide HBl.out.size
          have HNW6 := hide HX6.out.lt
          clear HX HO2 HH HP HN HX5 HJ2 HJ5 HV5 HC6 HX7 HBl HCO
          go_wp2_with fail
          go_loopw [14, 15, 16, 17] (fun vo vd d i wr => S2Rel w p k g j c w6.heap.size A6 E ws W X vo vd d i wr) (fun _ _ _ i _ => j - (intOf i).toNat)
          case atStart => exact ⟨0, by omega, rfl, by rw [HEN.out]; rfl, HOo.out, HOd.out, .inr (by intro e; injection e with e; simp only at e; omega), .inr (by intro e; injection e with e; simp only at e; omega), HC8.out, HN8.out, HX8.out⟩
          case round =>
            clear HX6 HX8 HOo HOd HC8 HN8
            obtain ⟨vo, rfl⟩ : ∃ v : Value, v = u14 := ⟨_, rfl⟩
            obtain ⟨vd, rfl⟩ : ∃ v : Value, v = u15 := ⟨_, rfl⟩
            obtain ⟨t, ht, rfl, rfl, HOo, HOd, HNE, HNE', HC, HN, HX⟩ := hrel
            have HX := hide HX
            have HOo := hide HOo
            have HOd := hide HOd
            have HNE := hide HNE
            have HNE' := hide HNE'
            have HC := hide HC
            have HN := hide HN
            obtain ⟨dN, hdN⟩ : ∃ dN, E.length + 2 * (erN E ws W t).length = dN := ⟨_, rfl⟩
            have hdb : dN ≤ 1000 := by rw [← hdN, HEN.out]; have := erN_len E ws W t; omega
            have HDN := hide hdN
            rw [hdN]
            clear hdN
            by_cases hlt : t < j
            · obtain ⟨b1, o1, x', rfl, hb1, hx, hc1⟩ := HI.out.at_ hlt
              rw [iv_at (by rw [HWL.out]; exact hlt)] at hx
              simp only [Option.some.injEq] at hx
              subst hx
              obtain ⟨b2, o2, y', rfl, hb2, hy, hc2⟩ := HC.out.at_ hlt
              rw [iv_at (by rw [HXL.out]; exact hlt)] at hy
              simp only [Option.some.injEq] at hy
              subst hy
              have hxyz := HCW.out t hlt
              have hds := difN_succ ws W t
              have hes := erN_succ E ws W t
              obtain ⟨x, hx⟩ : ∃ x, cf ws t = x := ⟨_, rfl⟩
              obtain ⟨y, hy⟩ : ∃ y, cf X t = y := ⟨_, rfl⟩
              rw [hx] at hc1 hxyz hds hes
              rw [hy] at hc2 hxyz
              have HTS := hide (show iv (tab t (cf W)) ++ [((x + -y).val : Int)] = iv (tab (t + 1) (cf W)) by rw [tab_snoc, iv_app, iv_one, hxyz])
              rw [← hxyz] at hds hes
              have HDS := hide hds
              have HES := hide hes
              have HWC := hide (show ∀ w' : World, Below w.heap.size w w' → w'.cell? ⟨b1, o1 + t, none⟩ = some (.int .i64 (x.val : Int)) from fun w' hb => (hb.cell (p := ⟨b1, o1 + t, none⟩) (Nat.lt_of_lt_of_le hb1 hB)).trans hc1)
              have HCC := hide hc2
              have hb2r : b2 < wr.heap.size := Nat.lt_of_lt_of_le hb2 HN.out
              have hlo : (iv (tab t (cf W))).length + 1 = t + 1 := by rw [iv_len, tab_len]
              have hlol : (iv (tab t (cf W))).length + 1 ≤ 100000 := by omega
              have HLO := hide hlo
              have hdl : (nv (difN ws W t)).length + 1 ≤ 100000 := by rw [nv_len]; have := difN_len ws W t; omega
              clear hx hy hxyz hds hes hc1 hc2 hlo
              go_wp2_with fail
              go_region_held3 (fun w' => w'.cell? ⟨w.heap.size, 0, none⟩ = some (.int .i64 p) ∧ w'.cell? ⟨w.heap.size, 1, none⟩ = some (.int .i64 k) ∧ w'.cell? ⟨w.heap.size, 2, none⟩ = some (.int .i64 g) ∧ w'.cell? ⟨b1, o1 + t, none⟩ = some (.int .i64 (x.val : Int)) ∧ w'.cell? ⟨b2, o2 + t, none⟩ = some (.int .i64 (y.val : Int)))
                (first
                  | exact ⟨HX.out.drew.cells.1, HX.out.drew.cells.2.1, HX.out.drew.cells.2.2.1, HWC.out _ HX.out.drew.2, HCC.out⟩
                  | exact ⟨HX2.out.cells.1, HX2.out.cells.2.1, HX2.out.cells.2.2.1, HWC.out _ HX2.out.2, HCC2.out⟩
                  | exact ⟨HX3.out.cells.1, HX3.out.cells.2.1, HX3.out.cells.2.2.1, HWC.out _ HX3.out.2, HCC3.out⟩)
                (first
                  | (go_at_call 85; refine (specNegE h.fld y _).mono ?_; rintro e w2' ⟨rfl, hb⟩; have HX2 := hide (HX.out.drew.next hb); have HCC2 := hide ((hb.cell (p := ⟨b2, o2 + t, none⟩) hb2r).trans HCC.out); have HB2 := hide hb; clear hb)
                  | (go_at_call 112; refine (specAddE h.fld x (-y) _).mono ?_; rintro e w3' ⟨rfl, hb⟩; have HX3 := hide (HX2.out.next hb); have HCC3 := hide ((hb.cell (p := ⟨b2, o2 + t, none⟩) (Nat.lt_of_lt_of_le hb2r HB2.out.size)).trans HCC2.out); have HB3 := hide (show Below wr.heap.size wr.drew w3' from HB2.out.trans (hb.mono HB2.out.size)); clear hb))
              have HOo3 := hide (HOo.out.drew.below HB3.out (Nat.le_refl _))
              have HOd3 := hide (HOd.out.drew.below HB3.out (Nat.le_refl _))
              have HC3 := hide (HC.out.drew.below (HB3.out.mono HN.out))
              have HN3 := hide (Nat.le_trans HN.out HB3.out.size)
              have hwl3 : w6.heap.size ≤ w3'.heap.size := HN3.out
              clear HX HOo HOd HC HN HX2 HCC HCC2 HB2 HB3
              have HVB := hide (show ∀ b, vo.ownBlock = some b → w.heap.size < b from fun b hb => Nat.lt_of_lt_of_le HNW6.out (HOo3.out.lt hb).1)
              have HVN := hide (show ∀ b, vo.ownBlock = some b → w6.heap.size ≤ b from fun b hb => (HOo3.out.lt hb).1)
              have hzx := eq_val (x := x + -y) (y := x)
              by_cases hz : x + -y = x
              · have HE1 := hide (show difN ws W (t + 1) = difN ws W t by rw [HDS.out, if_pos hz.symm, List.append_nil])
                have HE2 := hide (show E.length + 2 * (erN E ws W (t + 1)).length = dN by rw [HES.out, if_neg (fun h => h.2 hz.symm), List.append_nil]; exact HDN.out)
                rw [decide_eq_true hz] at hzx
                clear hz HDS HES
                go_wp2_with (at_builtin; refine wpList_app1M w3' rfl _ _ _ rfl elem64 w6.heap.size vo _ rfl HOo3.out ((x + -y).val : Int) rfl (by omega) hwl3 ?_; intro b4 cap4 w4 hown hgrow hloc; rw [HLO.out, HTS.out] at hown; rw [HLO.out]; have HOo4 := hide hown; have HX4 := hide (HX3.out.grow hgrow HVB.out); have HOd4 := hide (HOd3.out.grown hgrow HNE'.out); have HC4 := hide (HC3.out.grown hgrow HN3.out HVN.out); have HN4 := hide (Nat.le_trans HN3.out hgrow.size); have HNL := hide (ne_lies2 HOd3.out HNE.out hloc); have hcw := HWC.out _ HX4.out.2; have hwl4 : w6.heap.size ≤ w4.heap.size := HN4.out; clear hown hgrow hloc)
                have HOd5 := hide HOd4.out
                rw [← HE1.out] at HOd5
                go_roundw
                case rel => exact ⟨t + 1, by omega, by go_num, by rw [HE2.out], HOo4.out, HOd5.out, .inr (by intro e; exact HNL.out e.symm), .inr HNL.out, HC4.out, HN4.out, HX4.out⟩
                case measure => simp [intOf]; omega
              · have HE1 := hide (show difN ws W (t + 1) = difN ws W t ++ [t] by rw [HDS.out, if_neg (fun e => hz e.symm)])
                have HZN := hide (show x ≠ x + -y from fun e => hz e.symm)
                rw [decide_eq_false hz] at hzx
                clear hz HDS
                go_wp2_with (first
                  | (at_builtin; have hmark := hwl4; refine wpList_app1M w4 rfl _ _ _ rfl elem64 w6.heap.size vd _ rfl HOd4.out (t : Int) rfl (by omega) hwl4 ?_; intro b5 cap5 w5 hown hgrow hloc; have HVB5 := hide (show ∀ b, vd.ownBlock = some b → w.heap.size < b from fun b hb => Nat.lt_of_lt_of_le HNW6.out (HOd4.out.lt hb).1); have HVN5 := hide (show ∀ b, vd.ownBlock = some b → w6.heap.size ≤ b from fun b hb => (HOd4.out.lt hb).1); have HOd5 := hide (show Own w5 w6.heap.size 2 .i64 (.slice (some ⟨b5, 0, none⟩) ((nv (difN ws W t)).length + 1) cap5) (nv (difN ws W (t + 1))) by rw [HE1.out, nv_app]; exact hown); have HX5 := hide (HX4.out.grow hgrow HVB5.out); have HOo5 := hide (HOo4.out.grown hgrow (.inr (fun e => HNL.out e.symm))); have HC5 := hide (HC4.out.grown hgrow HN4.out HVN5.out); have HN5 := hide (Nat.le_trans HN4.out hgrow.size); have HNM := hide (ne_lies2 HOo4.out (.inr HNL.out) hloc); clear hown hgrow hloc)
                  | (at_builtin; refine wpList_app1M w3' rfl _ _ _ rfl elem64 w6.heap.size vo _ rfl HOo3.out ((x + -y).val : Int) rfl (by omega) hwl3 ?_; intro b4 cap4 w4 hown hgrow hloc; rw [HLO.out, HTS.out] at hown; rw [HLO.out]; have HOo4 := hide hown; have HX4 := hide (HX3.out.grow hgrow HVB.out); have HOd4 := hide (HOd3.out.grown hgrow HNE'.out); have HC4 := hide (HC3.out.grown hgrow HN3.out HVN.out); have HN4 := hide (Nat.le_trans HN3.out hgrow.size); have HNL := hide (ne_lies2 HOd3.out HNE.out hloc); have hcw := HWC.out _ HX4.out.2; have hwl4 : w6.heap.size ≤ w4.heap.size := HN4.out; clear hown hgrow hloc))
                have HIE := hide (HI'.out.below (HX5.out.2.mono hB))
                clear HX4 HOo4 HOd4 HC4 HN4 HVB HVN hcw HX3 HOo3 HOd3 HC3 HN3 HCC3 HNE HNE' HTS HLO hlol HVB5 HVN5 HNL
                by_cases htE : t ∈ E
                · have HME := hide (show decide ((t : Int) ∈ nv E) = true by rw [decide_eq_true_eq, mem_nv]; exact htE)
                  have HE2 := hide (show E.length + 2 * (erN E ws W (t + 1)).length = dN by rw [HES.out, if_neg (fun h => h.1 htE), List.append_nil]; exact HDN.out)
                  clear htE HES HZN
                  go_wp2_with fail
                  refine (specHas A' n cm _ (nv E) (t : Int) w5 HIE.out (by omega)).mono ?_
                  rw [HME.out]
                  rintro e wz ⟨rfl, rfl⟩
                  go_wp2_with fail
                  go_roundw
                  case rel => exact ⟨t + 1, by omega, by go_num, by rw [HE2.out], HOo5.out, HOd5.out, .inr HNM.out, .inr (by intro e; exact HNM.out e.symm), HC5.out, HN5.out, HX5.out⟩
                  case measure => simp [intOf]; omega
                · have HME := hide (show decide ((t : Int) ∈ nv E) = false by rw [decide_eq_false_iff_not, mem_nv]; exact htE)
                  have HE2 := hide (show E.length + 2 * (erN E ws W (t + 1)).length = dN + 2 by rw [HES.out, if_pos ⟨htE, HZN.out⟩, List.length_append, ← HDN.out]; simp; omega)
                  clear htE HES HZN
                  go_wp2_with fail
                  refine (specHas A' n cm _ (nv E) (t : Int) w5 HIE.out (by omega)).mono ?_
                  rw [HME.out]
                  rintro e wz ⟨rfl, rfl⟩
                  go_wp2_with fail
                  go_roundw
                  case rel => exact ⟨t + 1, by omega, by go_num, by rw [HE2.out]; congr 1, HOo5.out, HOd5.out, .inr HNM.out, .inr (by intro e; exact HNM.out e.symm), HC5.out, HN5.out, HX5.out⟩
                  case measure => simp [intOf]; omega
            · obtain rfl : t = j := by omega
              have HOo2 := hide (show Own wr w6.heap.size 2 .i64 vo (iv W) by
                have h1 := HOo.out
                rwa [show tab t (cf W) = W by have := tab_cf W; rwa [HWLen.out] at this] at h1)
              have HOd2 := hide (show Own wr w6.heap.size 2 .i64 vd (nv (difs ws W)) by
                have h1 := HOd.out
                rwa [show difN ws W t = difs ws W by rw [difN, difs, HWL.out]] at h1)
              have HEE := hide (show E.length + 2 * (errs t E ws W).length = dN from HDN.out)
              obtain ⟨Ao, mo, rfl, hmo⟩ := HOo2.out.form
              rw [iv_len, HWLen.out] at HOo2 hmo HNE HNE' ⊢
              obtain ⟨c0, c1, c2, c3, c4⟩ := HX.out.cells
              clear HOo HOd HNE' HC
              by_cases hdc : dN ≤ c
              · have z3 : decide ((dN : Int) ≤ (c : Int)) = true := by rw [decide_eq_true_eq]; omega
                rcases hcw : isCW γ c W with _ | _
                · have HF := hide (show ∀ cw, ¬ Okw γ t c E ws cw from fun cw ho => by
                    have h1 := HUQ.out cw ho
                    have h2 := ho.2.1
                    rw [← h1, hcw] at h2; cases h2)
                  have HZ := hide (show zeroL (synW γ c W) = false from hcw)
                  clear hcw
                  go_wp2_with fail
                  refine (specSyndromes h W Ao t mo _ wr HOo2.out.intsE (Nat.le_refl _) (by omega)).mono ?_
                  rintro e wy ⟨Ay, my, rfl, hmy, ho, hb⟩
                  have HXy := hide (HX.out.next hb)
                  have HOoy := hide (HOo2.out.below hb (Nat.le_refl _))
                  have HOdy := hide (HOd2.out.below hb (Nat.le_refl _))
                  have HYy := hide ho.ints
                  have hsl : (synW γ c W).length ≤ 100 := by rw [syn_len]; omega
                  have hsy : (iv (synW γ c W)).length = (synW γ c W).length := iv_len _
                  rw [hsy] at HYy
                  clear ho hb hmy hsy c0 c1 c2 c3 c4
                  go_wp2_with fail
                  refine (specZeroL (synW γ c W) Ay _ my _ wy HYy.out (by omega)).mono ?_
                  rw [HZ.out]
                  rintro e wz ⟨rfl, rfl⟩
                  have HG := hide (show ScPost γ t c E ws w (.returned (.tuple #[.slice Ao t mo, vd, .bool false])) wy from .inr ⟨_, _, newIIB_of HOoy.out HOdy.out HNE.out HXy.out.2 (Nat.le_of_lt HNW6.out), HF.out⟩)
                  go_wp2_with fail
                  go_ret3
                  exact HG.out
                · have HOK := hide (show Okw γ t c E ws W from ⟨HWLen.out, hcw, by have := HEE.out; omega⟩)
                  have HZ := hide (show zeroL (synW γ c W) = true from hcw)
                  clear hcw
                  go_wp2_with fail
                  refine (specSyndromes h W Ao t mo _ wr HOo2.out.intsE (Nat.le_refl _) (by omega)).mono ?_
                  rintro e wy ⟨Ay, my, rfl, hmy, ho, hb⟩
                  have HXy := hide (HX.out.next hb)
                  have HOoy := hide (HOo2.out.below hb (Nat.le_refl _))
                  have HOdy := hide (HOd2.out.below hb (Nat.le_refl _))
                  have HYy := hide ho.ints
                  have hsl : (synW γ c W).length ≤ 100 := by rw [syn_len]; omega
                  have hsy : (iv (synW γ c W)).length = (synW γ c W).length := iv_len _
                  rw [hsy] at HYy
                  clear ho hb hmy hsy c0 c1 c2 c3 c4
                  go_wp2_with fail
                  refine (specZeroL (synW γ c W) Ay _ my _ wy HYy.out (by omega)).mono ?_
                  rw [HZ.out]
                  rintro e wz ⟨rfl, rfl⟩
                  have HG := hide (show ScPost γ t c E ws w (.returned (.tuple #[.slice Ao t mo, vd, .bool true])) wy from .inl ⟨W, newIIB_of HOoy.out HOdy.out HNE.out HXy.out.2 (Nat.le_of_lt HNW6.out), HWLen.out, HOK.out, HUQ.out⟩)
                  go_wp2_with fail
                  go_ret3
                  exact HG.out
              · have z3 : decide ((dN : Int) ≤ (c : Int)) = false := by rw [decide_eq_false_iff_not]; omega
                have HF := hide (show ∀ cw, ¬ Okw γ t c E ws cw from fun cw ho => by
                  have h1 := HUQ.out cw ho
                  have h2 := ho.2.2
                  rw [← h1] at h2
                  have := HEE.out
                  omega)
                have HG := hide (show ScPost γ t c E ws w (.returned (.tuple #[.slice Ao t mo, vd, .bool false])) wr from .inr ⟨_, _, newIIB_of HOo2.out HOd2.out HNE.out HX.out.2 (Nat.le_of_lt HNW6.out), HF.out⟩)
                go_wp2_with fail
                go_ret3
                exact HG.out

        · have z2 : decide ((c : Int) < (nJ : Int)) = true := by rw [decide_eq_true_eq]; omega
          have HF := hide (show ∀ cw, ¬ Okw γ j c E ws cw from fun cw ho => by have := (HCO.out cw ho).1; rw [HNJ.out] at this; omega)
          have HG := hide (show ScPost γ j c E ws w (.returned (.tuple #[.slice none 0 0, .slice none 0 0, .bool false])) wr from .inr ⟨[], [], newIIB_nil HX.out.2, HF.out⟩)
          go_wp2_with fail
          go_ret3
          exact HG.out
  · have z1 : decide ((c : Int) < (n : Int)) = true := by rw [decide_eq_true_eq]; omega
    have HF := hide (show ∀ cw, ¬ Okw γ l c E ws cw from fun cw ho => by have := ho.2.2; rw [HEN.out] at this; omega)
    go_enter Tryz.func78, Tryz.ntmps78
    go_wp2_with fail
    go_ret3
    exact .inr ⟨[], [], newIIB_nil HX.out.2, HF.out⟩
end
end Go.Proofs.YtlphodhecaagbaaGreat
