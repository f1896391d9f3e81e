/-
  Which families are valid, and how many elements and data cells there are: the program.
  Condition: as each statement says.
-/
import Derived.Test.YtncgeoliboidhaaGreatFmImpl2
namespace Go.Proofs.YtncgeoliboidhaaGreat
open Go.RowKit
set_option linter.unusedSimpArgs false
set_option linter.unusedVariables false

theorem quoNF (D C : Nat) : (D : Int).tdiv (C : Int) = ((D / C : Nat) : Int) := by rw [Int.tdiv_eq_ediv_of_nonneg (by omega)]; rfl
theorem fm_nm {bs : List Int} {κ p k g : Int} {zs : List Int} {c : Int} {ls : List Int} (h : nmB bs = false) : fmB bs κ p k g zs c ls = false := by
  rw [fmB, h]; rfl
theorem fm_kd {bs : List Int} {κ p k g : Int} {zs : List Int} {c : Int} {ls : List Int} (h1 : matB κ p k g c = false) (h2 : stkB κ p k g c = false) : fmB bs κ p k g zs c ls = false := by
  rw [fmB, h1, h2]; simp
theorem fm_mat {bs : List Int} {κ p k g : Int} {zs : List Int} {c : Int} {ls : List Int} (h0 : nmB bs = true) (h1 : matB κ p k g c = true) :
    fmB bs κ p k g zs c ls = (chB (fun z => if κ = 2 then rowB z else mszB z) 8 zs && chB pctB 4 ls) := by
  have hk : κ = 1 := by
    simp only [matB, Bool.and_eq_true, decide_eq_true_eq] at h1; exact h1.1.1
  have h2 : stkB κ p k g c = false := by
    rw [stkB, decide_eq_false_iff_not]; omega
  rw [fmB, h0, h1, h2, hk]
  simp
theorem fm_stk {bs : List Int} {κ p k g : Int} {zs : List Int} {c : Int} {ls : List Int} (h0 : nmB bs = true) (h1 : stkB κ p k g c = true) :
    fmB bs κ p k g zs c ls = (chB (fun z => if κ = 2 then rowB z else mszB z) 8 zs && chB pctB 4 ls) := by
  have hk : κ = 2 := by
    simp only [stkB, decide_eq_true_eq] at h1; exact h1.1
  have h2 : matB κ p k g c = false := by
    rw [matB, Bool.and_eq_false_iff, decide_eq_false_iff_not]; left; omega
  rw [fmB, h0, h1, h2, hk]
  simp

set_option maxRecDepth 100000 in
set_option maxHeartbeats 4000000 in
theorem implFmValid (s : ByteArray) (κ p k g : Int) (A : Option Addr) (n c : Nat) (C : Int) (A' : Option Addr) (n' c' B : Nat) (zs ls : List Int) (w : World) (hs : s.size ≤ 1099511627776)
    (hI : Ints .i64 w B A n zs) (hJ : Ints .i64 w B A' n' ls) (hB : B ≤ w.heap.size) (hn : n ≤ 1099511627776) (hn' : n' ≤ 1099511627776) :
    Calls Tryz.prog 21 #[.agg #[.string s, .int .i64 κ, .int .i64 p, .int .i64 k, .int .i64 g, .slice A n c, .int .i64 C, .slice A' n' c']] w (Gives (.bool (fmB (bytesI s) κ p k g zs C ls)) w) := by
  have HX := hide (FBox.start w s κ p k g A n c C A' n' c')
  have HI := hide hI
  have HJ := hide hJ
  have HBW := hide hB
  have HNM := hide (fun w' => implNm s hs w')
  have HMA := hide (fun w' => implMat s κ p k g A n c C A' n' c' w')
  have HST := hide (fun w' => implStk s κ p k g A n c C A' n' c' w')
  have HCS := hide (fun w' h1 h2 => implChS s κ p k g A n c C A' n' c' A n c B 8 zs w' h1 h2 hn (by omega))
  have HCP := hide (fun w' h1 h2 => implChP A' n' c' B 4 ls w' h1 h2 hn' (by omega))
  have HF0 := hide (fm_nm (bs := bytesI s) (κ := κ) (p := p) (k := k) (g := g) (zs := zs) (c := C) (ls := ls))
  have HF1 := hide (fm_kd (bs := bytesI s) (κ := κ) (p := p) (k := k) (g := g) (zs := zs) (c := C) (ls := ls))
  have HF2 := hide (fm_mat (bs := bytesI s) (κ := κ) (p := p) (k := k) (g := g) (zs := zs) (c := C) (ls := ls))
  have HF3 := hide (fm_stk (bs := bytesI s) (κ := κ) (p := p) (k := k) (g := g) (zs := zs) (c := C) (ls := ls))
  generalize fmB (bytesI s) κ p k g zs C ls = R at *
  generalize hb0 : nmB (bytesI s) = b0 at *
  generalize hb1 : matB κ p k g C = b1 at *
  generalize hb2 : stkB κ p k g C = b2 at *
  generalize hb3 : chB (fun z => if κ = 2 then rowB z else mszB z) 8 zs = b3 at *
  generalize hb4 : chB pctB 4 ls = b4 at *
  clear hI hJ hB hb0 hb1 hb2 hb3 hb4
  obtain ⟨c0, c1, c2, c3, c4, c5, c6, c7⟩ := HX.out.cells
  cases b0 with
  | false =>
    go_enter Tryz.func21, Tryz.ntmps21
    go_wp2_with fail
    refine (HNM.out _).mono ?_
    rintro e _ ⟨rfl, rfl⟩
    go_wp2_with fail
    go_ret
    exact ⟨ret_bool (HF0.out (by simp)), HX.out.2⟩
  | true =>
    cases b1 with
    | true =>
      go_enter Tryz.func21, Tryz.ntmps21
      go_wp2_with fail
      refine (HNM.out _).mono ?_
      rintro e _ ⟨rfl, rfl⟩
      go_wp2_with fail
      refine (HMA.out _).mono ?_
      rintro e w1 ⟨rfl, hb⟩
      have HX1 := hide (HX.out.next hb)
      clear hb c0 c1 c2 c3 c4 c5 c6 c7
      obtain ⟨c0, c1, c2, c3, c4, c5, c6, c7⟩ := HX1.out.cells
      go_wp2_with fail
      refine (HCS.out _ (HI.out.below (HX1.out.2.mono HBW.out)) (Nat.le_trans HBW.out (Nat.le_of_lt HX1.out.lt))).mono ?_
      rintro e w2 ⟨rfl, hb⟩
      have HX2 := hide (HX1.out.next hb)
      clear hb c0 c1 c2 c3 c4 c5 c6 c7
      obtain ⟨c0, c1, c2, c3, c4, c5, c6, c7⟩ := HX2.out.cells
      cases b3 with
      | false =>
        go_wp2_with fail
        go_ret
        exact ⟨ret_bool (by rw [HF2.out (by simp) (by simp)]; rfl), HX2.out.2⟩
      | true =>
        go_wp2_with fail
        refine (HCP.out _ (HJ.out.below (HX2.out.2.mono HBW.out)) (Nat.le_trans HBW.out (Nat.le_of_lt HX2.out.lt))).mono ?_
        rintro e w3 ⟨rfl, hb⟩
        have HX3 := hide (HX2.out.next hb)
        clear hb c0 c1 c2 c3 c4 c5 c6 c7
        go_wp2_with fail
        go_ret
        exact ⟨ret_bool (by rw [HF2.out (by simp) (by simp)]; rfl), HX3.out.2⟩
    | false =>
      go_enter Tryz.func21, Tryz.ntmps21
      go_wp2_with fail
      refine (HNM.out _).mono ?_
      rintro e _ ⟨rfl, rfl⟩
      go_wp2_with fail
      refine (HMA.out _).mono ?_
      rintro e w1 ⟨rfl, hb⟩
      have HX1 := hide (HX.out.next hb)
      clear hb c0 c1 c2 c3 c4 c5 c6 c7
      obtain ⟨c0, c1, c2, c3, c4, c5, c6, c7⟩ := HX1.out.cells
      go_wp2_with fail
      refine (HST.out _).mono ?_
      rintro e w2 ⟨rfl, hb⟩
      have HX2 := hide (HX1.out.next hb)
      clear hb c0 c1 c2 c3 c4 c5 c6 c7
      obtain ⟨c0, c1, c2, c3, c4, c5, c6, c7⟩ := HX2.out.cells
      cases b2 with
      | false =>
        go_wp2_with fail
        go_ret
        exact ⟨ret_bool (HF1.out (by simp) (by simp)), HX2.out.2⟩
      | true =>
        go_wp2_with fail
        refine (HCS.out _ (HI.out.below (HX2.out.2.mono HBW.out)) (Nat.le_trans HBW.out (Nat.le_of_lt HX2.out.lt))).mono ?_
        rintro e w3 ⟨rfl, hb⟩
        have HX3 := hide (HX2.out.next hb)
        clear hb c0 c1 c2 c3 c4 c5 c6 c7
        obtain ⟨c0, c1, c2, c3, c4, c5, c6, c7⟩ := HX3.out.cells
        cases b3 with
        | false =>
          go_wp2_with fail
          go_ret
          exact ⟨ret_bool (by rw [HF3.out (by simp) (by simp)]; rfl), HX3.out.2⟩
        | true =>
          go_wp2_with fail
          refine (HCP.out _ (HJ.out.below (HX3.out.2.mono HBW.out)) (Nat.le_trans HBW.out (Nat.le_of_lt HX3.out.lt))).mono ?_
          rintro e w4 ⟨rfl, hb⟩
          have HX4 := hide (HX3.out.next hb)
          clear hb c0 c1 c2 c3 c4 c5 c6 c7
          go_wp2_with fail
          go_ret
          exact ⟨ret_bool (by rw [HF3.out (by simp) (by simp)]; rfl), HX4.out.2⟩

theorem field_length (a b c : Int) (w : World) : (Instr.field 165 (.agg #[.int .i64 a, .int .i64 b, .int .i64 c]) 1).run Tryz.prog w = .ok (.int .i64 b) w := by kernel_rfl
set_option maxRecDepth 100000 in
set_option maxHeartbeats 2000000 in
theorem implDc (m : Nat) (h1 : 17 ≤ m) (h2 : m ≤ 41) (h3 : m % 4 = 1) (w : World) :
    Calls Tryz.prog 107 #[.int .i64 m] w (Gives (.int .i64 (dcN m : Nat)) w) := by
  have HM := hide (fun w' => implMsz m w')
  have hm : mszB m = true := by rw [mszB, decide_eq_true_eq]; omega
  rw [hm] at HM
  have HSF := hide (fun w' => implStandardF w')
  have hd := dc_at h1 h2 h3
  obtain ⟨d, hd'⟩ : ∃ d, dcN m = d := ⟨_, rfl⟩
  rw [hd'] at hd
  have HD := hide hd'
  have e1 : (m : Int) * (m : Int) = ((m * m : Nat) : Int) := by push_cast; rfl
  obtain ⟨q, hq⟩ : ∃ q, m * m = q := ⟨_, rfl⟩
  have hqd : q = d + 192 + 2 * (m - 16) + 31 := by
    rw [← hq]
    rcases hd with ⟨rfl, rfl⟩ | ⟨rfl, rfl⟩ | ⟨rfl, rfl⟩ | ⟨rfl, rfl⟩ | ⟨rfl, rfl⟩ | ⟨rfl, rfl⟩ | ⟨rfl, rfl⟩ <;> decide
  have hdb : d ≤ 1408 := by omega
  rw [hq] at e1
  clear hd hm hd' hq
  go_enter Tryz.func107, Tryz.ntmps107
  go_wp2_with fail
  refine (HM.out _).mono ?_
  rintro e _ ⟨rfl, rfl⟩
  go_wp2_with fail
  refine (HSF.out _).mono ?_
  rintro e w1 ⟨rfl, hb⟩
  have HB := hide hb
  clear hb
  have hfl := field_length 5 15 1335
  go_wp2_with fail
  go_ret
  exact ⟨ret_int (by rw [HD.out]; omega), HB.out⟩

set_option maxRecDepth 100000 in
set_option maxHeartbeats 4000000 in
theorem implEl {p k g : Int} {q : Nat} {mul : Nat → Nat → Nat} (hK : Kd p k g q mul) (s : ByteArray) (κ : Int) (A : Option Addr) (n c : Nat) (C : Int) (A' : Option Addr) (n' c' : Nat) (zs ls : List Int) (hF : FmIs κ p k g zs C ls) (z : Int) (hz : z ∈ zs) (w : World) :
    Calls Tryz.prog 62 #[.agg #[.string s, .int .i64 κ, .int .i64 p, .int .i64 k, .int .i64 g, .slice A n c, .int .i64 C, .slice A' n' c'], .int .i64 z] w (Gives (.int .i64 (elN κ (wdt q) z C : Nat)) w) := by
  have HX := hide (FBox.start w s κ p k g A n c C A' n' c')
  obtain ⟨c0, c1, c2, c3, c4, c5, c6, c7⟩ := HX.out.cells
  rcases hF.kind with ⟨rfl, hC⟩ | ⟨rfl, hC1, hC2⟩
  · obtain ⟨z1, z2, z3⟩ := hF.mat rfl z hz
    obtain ⟨hw1, hw9, _, _⟩ := wdt_is hK.big.1 hK.big.2
    have HW := hide (fun w' => implWd hK w')
    obtain ⟨W, hW⟩ : ∃ W, wdt q = W := ⟨_, rfl⟩
    rw [hW] at HW hw1 hw9
    rw [hW]
    obtain ⟨m, rfl⟩ : ∃ m : Nat, z = m := ⟨z.toNat, by omega⟩
    have HE := hide (el_mat (c := C) z1 z2 z3 hw1 hw9).1
    rw [Int.toNat_natCast] at HE
    have HD := hide (fun w' => implDc m (by omega) (by omega) (by omega) w')
    have hdl := dc_le (n := m) (by omega) (by omega) (by omega)
    obtain ⟨d, hd⟩ : ∃ d, dcN m = d := ⟨_, rfl⟩
    rw [hd] at HE HD hdl
    have hdW : d / W ≤ d := Nat.div_le_self _ _
    have hq := quoNF d W
    obtain ⟨e, he⟩ : ∃ e, d / W = e := ⟨_, rfl⟩
    rw [he] at HE hq hdW
    obtain ⟨X, hX⟩ : ∃ X : Int, X = (d : Int) := ⟨_, rfl⟩
    obtain ⟨Y, hY⟩ : ∃ Y : Int, Y = (W : Int) := ⟨_, rfl⟩
    have hY0 : Y ≠ 0 := by omega
    have hwe : IntKind.i64.wrap (e : Int) = (e : Int) := IntWalk.i64_in _ ⟨by omega, by omega⟩
    rw [← hX, ← hY] at hq
    rw [← hX] at HD
    rw [← hY] at HW
    clear hW hd he hX hY z1 z2 z3 hC
    go_enter Tryz.func62, Tryz.ntmps62
    go_wp2_with fail
    -- COUNT
    refine tail_begin (fun w' => w'.cell? ⟨w.heap.size, 0, none⟩ = some (.string s) ∧ w'.cell? ⟨w.heap.size, 1, none⟩ = some (.int .i64 1) ∧ w'.cell? ⟨w.heap.size, 2, none⟩ = some (.int .i64 p) ∧ w'.cell? ⟨w.heap.size, 3, none⟩ = some (.int .i64 k) ∧ w'.cell? ⟨w.heap.size, 4, none⟩ = some (.int .i64 g) ∧ w'.cell? ⟨w.heap.size, 5, none⟩ = some (.slice A n c) ∧ w'.cell? ⟨w.heap.size, 6, none⟩ = some (.int .i64 C) ∧ w'.cell? ⟨w.heap.size, 7, none⟩ = some (.slice A' n' c')) 7 (by kernel_rfl) HX.out.drew.cells (fun hS' => ?_)
    refine tail_take2 0 rfl (by kernel_rfl) (by kernel_rfl) (by kernel_rfl) (by decide) (fun _ _ _ h => h) (by rfl) (v := ?_) ?_ (by assumption) ?_
    rotate_left 1
    · intro w' hS'; obtain ⟨c0, c1, c2, c3, c4, c5, c6, c7⟩ := hS'; go_simp; try with_reducible rfl
    try simp only [Act.put, List.setIfInBounds_toArray, List.set_cons_zero, List.set_cons_succ]
    refine tail_take2 2 rfl (by kernel_rfl) (by kernel_rfl) (by kernel_rfl) (by decide) (fun _ _ _ h => h) (by rfl) (v := ?_) ?_ (by assumption) ?_
    rotate_left 1
    · intro w' hS'; obtain ⟨c0, c1, c2, c3, c4, c5, c6, c7⟩ := hS'; go_simp; try with_reducible rfl
    try simp only [Act.put, List.setIfInBounds_toArray, List.set_cons_zero, List.set_cons_succ]
    refine tail_take2 3 rfl (by kernel_rfl) (by kernel_rfl) (by kernel_rfl) (by decide) (fun _ _ _ h => h) (by rfl) (v := ?_) ?_ (by assumption) ?_
    rotate_left 1
    · intro w' hS'; obtain ⟨c0, c1, c2, c3, c4, c5, c6, c7⟩ := hS'; go_simp; try with_reducible rfl
    try simp only [Act.put, List.setIfInBounds_toArray, List.set_cons_zero, List.set_cons_succ]
    refine tail_call 1 rfl (by kernel_rfl) rfl (fun K hK => ?_)
    go_simp
    go_at_call 107; refine (HD.out _).mono ?_; rintro e1 w1 ⟨rfl, hb⟩; have HX1 := hide (HX.out.drew.next hb); clear hb
    refine hK.out _ _ (by (try dsimp only); exact HX1.out.cells) (fun hS' => ?_)
    clear hK K
    try simp only [Act.put, List.setIfInBounds_toArray, List.set_cons_zero, List.set_cons_succ]
    refine tail_call 4 rfl (by kernel_rfl) rfl (fun K hK => ?_)
    go_simp
    go_at_call 31; refine (HW.out _).mono ?_; rintro e2 w2 ⟨rfl, hb⟩; have HX2 := hide (HX1.out.next hb); clear hb
    refine hK.out _ _ (by (try dsimp only); exact HX2.out.cells) (fun hS' => ?_)
    clear hK K
    try simp only [Act.put, List.setIfInBounds_toArray, List.set_cons_zero, List.set_cons_succ]
    refine tail_take2 5 rfl (by kernel_rfl) (by kernel_rfl) (by kernel_rfl) (by decide) (fun _ _ _ h => h) (by rfl) (v := ?_) ?_ (by assumption) ?_
    rotate_left 1
    · intro w' hS'; obtain ⟨c0, c1, c2, c3, c4, c5, c6, c7⟩ := hS'; go_simp; try with_reducible rfl
    try simp only [Act.put, List.setIfInBounds_toArray, List.set_cons_zero, List.set_cons_succ]
    refine tail_take2 6 rfl (by kernel_rfl) (by kernel_rfl) (by kernel_rfl) (by decide) (fun _ _ _ h => h) (by rfl) (v := ?_) ?_ (by assumption) ?_
    rotate_left 1
    · intro w' hS'; obtain ⟨c0, c1, c2, c3, c4, c5, c6, c7⟩ := hS'; go_simp; try with_reducible rfl
    try simp only [Act.put, List.setIfInBounds_toArray, List.set_cons_zero, List.set_cons_succ]
    refine tail_end (by kernel_rfl) ?_
    -- END COUNT
    go_wp2_with fail
    go_ret
    exact ⟨ret_int (by rw [HE.out]), HX2.out.2⟩
  · obtain ⟨z1, z2⟩ := hF.row rfl z hz
    have HE := hide (el_row (W := wdt q) z1 z2 hC1 hC2).1
    obtain ⟨e, he⟩ : ∃ e, elN 2 (wdt q) z C = e := ⟨_, rfl⟩
    rw [he] at HE
    rw [he]
    have h5 := el_row (W := wdt q) z1 z2 hC1 hC2
    rw [he] at h5
    have hzc := h5.1
    have he2 : e ≤ 1408 := h5.2.2
    obtain ⟨y, hy⟩ : ∃ y, z * C = y := ⟨_, rfl⟩
    rw [hy] at hzc HE
    have hy2 : 0 ≤ y ∧ y ≤ 1408 := by omega
    clear he h5 hzc
    go_enter Tryz.func62, Tryz.ntmps62
    go_wp2_with fail
    go_ret
    exact ⟨ret_int (by rw [HE.out]), HX.out.2⟩
end Go.Proofs.YtncgeoliboidhaaGreat
