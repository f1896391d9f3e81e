/-
  The elements and the layout of a symbol: the model.
  The layout of a symbol: the model.
  The layout of a symbol: the model's LayoutOf.
  Condition: as each statement says.
-/
import Derived.Test.YtncgeoliboidhaaGreatFmSpec4
import Derived.Test.YtncgeoliboidhaaGreatFmImpl5
namespace Go.Proofs.YtncgeoliboidhaaGreat
open Go.RowKit
set_option linter.unusedSimpArgs false
set_option linter.unusedVariables false

set_option maxRecDepth 100000 in
set_option maxHeartbeats 4000000 in
theorem specCnt (n : Nat) (hn1 : 17 ≤ n) (hn : n ≤ 41) (hn4 : n % 4 = 1) (w : World) :
    Calls Tryz.prog 139 #[.int .i64 n] w (Gives (.int .i64 (dcN n : Nat)) w) := by
  have HG := hide (fun w' => specGrid n hn1 hn w')
  have HNG := hide (neg_is hn1 hn hn4)
  have HLN := hide (grid_len n (n * n))
  have hnn : n * n ≤ 41 * 41 := Nat.mul_le_mul hn hn
  obtain ⟨zs, hzs⟩ : ∃ zs, gridZ n (n * n) = zs := ⟨_, rfl⟩
  rw [hzs] at HG HNG HLN
  clear hzs
  obtain ⟨L, hL⟩ : ∃ L, zs.length = L := ⟨_, rfl⟩
  have HLL := hide hL
  have hL2 : L ≤ 1681 := by rw [← hL, HLN.out]; exact hnn
  have HNB := hide (fun j => Nat.le_trans (neg_le (zs.take j)) (by rw [List.length_take]; exact Nat.min_le_right _ _ : (zs.take j).length ≤ zs.length))
  clear hL hnn
  go_enter Tryz.func139, Tryz.ntmps139
  go_wp2_with fail
  refine (HG.out _).mono ?_
  rintro e w1 ⟨A, c, rfl, hlc, ho, hb⟩
  obtain ⟨w2, hw2⟩ : ∃ w2, w1.alloc (.cells #[.int .i64 n, .int .i64 n, .slice A zs.length c] 182) = w2 := ⟨_, rfl⟩
  have hb2 : Below w1.heap.size w1 w2 := by rw [← hw2]; exact (Below.refl _ _).alloc (Nat.le_refl _) _
  have HZ := hide (show w2.heap[w1.heap.size]? = some (.cells #[.int .i64 n, .int .i64 n, .slice A zs.length c] 182 (0, 0)) by rw [← hw2]; exact heap_alloc_new _ _)
  have HI := hide (ho.ints.below hb2)
  have HB := hide (hb.trans (hb2.mono hb.size))
  rw [HLL.out] at HZ HI
  rw [HLL.out]
  rw [HLL.out] at hw2
  clear hlc ho hb hb2
  have z0 := cell_of_row w2 w1.heap.size 0 _ _ _ HZ.out
  have z1 := cell_of_row w2 w1.heap.size 1 _ _ _ HZ.out
  have z2 := cell_of_row w2 w1.heap.size 2 _ _ _ HZ.out
  go_wp2_with fail
  clear hw2
  go_loopw [4, 5] (fun o i wr => ∃ j : Nat, j ≤ L ∧ i = .int .i64 j ∧ o = .int .i64 (((negC (zs.take j) : Nat) : Int) - 30) ∧ wr = w2) (fun _ i _ => L - (intOf i).toNat)
  case atStart => exact ⟨0, by omega, rfl, rfl, rfl⟩
  case round =>
    obtain ⟨j, hj, rfl, rfl, rfl⟩ := hrel
    have hnb := HNB.out j
    rw [HLL.out] at hnb
    by_cases hlt : j < L
    · obtain ⟨b, off, z, rfl, hb, hz, hc⟩ := HI.out.at_ hlt
      have HT := hide (neg_take hz)
      clear hz
      rcases hneg : decide (z < 0) with _ | _
      · have HN := hide (show ((negC (zs.take j) : Nat) : Int) - 30 = ((negC (zs.take (j + 1)) : Nat) : Int) - 30 by rw [HT.out, if_neg (of_decide_eq_false hneg)]; rfl)
        generalize negC (zs.take j) = q at *
        go_wp2_with fail
        go_roundw
        case rel => exact ⟨j + 1, by omega, by go_num, by rw [HN.out], by first | exact trivial | rfl⟩
        case measure => simp [intOf]; omega
      · have HN := hide (show ((negC (zs.take j) : Nat) : Int) - 30 + 1 = ((negC (zs.take (j + 1)) : Nat) : Int) - 30 by rw [HT.out, if_pos (of_decide_eq_true hneg)]; push_cast; omega)
        generalize negC (zs.take j) = q at *
        go_wp2_with fail
        go_roundw
        case rel => exact ⟨j + 1, by omega, by go_num, by rw [← HN.out], by first | exact trivial | rfl⟩
        case measure => simp [intOf]; omega
    · have HF := hide (show ((dcN n : Nat) : Int) = ((negC (zs.take j) : Nat) : Int) - 30 by rw [List.take_of_length_le (by rw [HLL.out]; omega), HNG.out]; push_cast; omega)
      generalize negC (zs.take j) = q at *
      go_wp2_with fail
      go_ret
      exact ⟨ret_int HF.out, HB.out⟩

set_option maxRecDepth 100000 in
set_option maxHeartbeats 4000000 in
theorem specEl {p k g : Int} {q : Nat} {mul : Nat → Nat → Nat} (hK : Kd p k g q mul) (s : ByteArray) (κ : Int) (A : Option Addr) (n c : Nat) (C : Int) (A' : Option Addr) (n' c' : Nat) (zs ls : List Int) (hF : FmIs κ p k g zs C ls) (z : Int) (hz : z ∈ zs) (w : World) :
    Calls Tryz.prog 111 #[.agg #[.string s, .int .i64 κ, .int .i64 p, .int .i64 k, .int .i64 g, .slice A n c, .int .i64 C, .slice A' n' c'], .int .i64 z] w (Gives (.int .i64 (elN κ (wdt q) z C : Nat)) w) := by
  have HX := hide (FBox.start w s κ p k g A n c C A' n' c')
  obtain ⟨c0, c1, c2, c3, c4, c5, c6, c7⟩ := HX.out.cells
  rcases hF.kind with ⟨rfl, hC⟩ | ⟨rfl, hC1, hC2⟩
  · obtain ⟨z1, z2, z3⟩ := hF.mat rfl z hz
    obtain ⟨hw1, hw9, _, _⟩ := wdt_is hK.big.1 hK.big.2
    have HW := hide (fun w' => specWd hK w')
    obtain ⟨W, hW⟩ : ∃ W, wdt q = W := ⟨_, rfl⟩
    rw [hW] at HW hw1 hw9
    rw [hW]
    obtain ⟨m, rfl⟩ : ∃ m : Nat, z = m := ⟨z.toNat, by omega⟩
    have HE := hide (el_mat (c := C) z1 z2 z3 hw1 hw9).1
    rw [Int.toNat_natCast] at HE
    have HD := hide (fun w' => specCnt m (by omega) (by omega) (by omega) w')
    have hdl := dc_le (n := m) (by omega) (by omega) (by omega)
    obtain ⟨d, hd⟩ : ∃ d, dcN m = d := ⟨_, rfl⟩
    rw [hd] at HE HD hdl
    have hdW : d / W ≤ d := Nat.div_le_self _ _
    have hq := quoNF d W
    obtain ⟨e, he⟩ : ∃ e, d / W = e := ⟨_, rfl⟩
    rw [he] at HE hq hdW
    obtain ⟨X, hX⟩ : ∃ X : Int, X = (d : Int) := ⟨_, rfl⟩
    obtain ⟨Y, hY⟩ : ∃ Y : Int, Y = (W : Int) := ⟨_, rfl⟩
    have hY0 : Y ≠ 0 := by omega
    have hwe : IntKind.i64.wrap (e : Int) = (e : Int) := IntWalk.i64_in _ ⟨by omega, by omega⟩
    rw [← hX, ← hY] at hq
    rw [← hX] at HD
    rw [← hY] at HW
    clear hW hd he hX hY z1 z2 z3 hC
    go_enter Tryz.func111, Tryz.ntmps111
    go_wp2_with fail
    -- COUNT2
    refine tail_begin (fun w' => w'.cell? ⟨w.heap.size, 0, none⟩ = some (.string s) ∧ w'.cell? ⟨w.heap.size, 1, none⟩ = some (.int .i64 1) ∧ w'.cell? ⟨w.heap.size, 2, none⟩ = some (.int .i64 p) ∧ w'.cell? ⟨w.heap.size, 3, none⟩ = some (.int .i64 k) ∧ w'.cell? ⟨w.heap.size, 4, none⟩ = some (.int .i64 g) ∧ w'.cell? ⟨w.heap.size, 5, none⟩ = some (.slice A n c) ∧ w'.cell? ⟨w.heap.size, 6, none⟩ = some (.int .i64 C) ∧ w'.cell? ⟨w.heap.size, 7, none⟩ = some (.slice A' n' c')) 7 (by kernel_rfl) HX.out.drew.cells (fun hS' => ?_)
    refine tail_take2 0 rfl (by kernel_rfl) (by kernel_rfl) (by kernel_rfl) (by decide) (fun _ _ _ h => h) (by rfl) (v := ?_) ?_ (by assumption) ?_
    rotate_left 1
    · intro w' hS'; obtain ⟨c0, c1, c2, c3, c4, c5, c6, c7⟩ := hS'; go_simp; try with_reducible rfl
    try simp only [Act.put, List.setIfInBounds_toArray, List.set_cons_zero, List.set_cons_succ]
    refine tail_take2 2 rfl (by kernel_rfl) (by kernel_rfl) (by kernel_rfl) (by decide) (fun _ _ _ h => h) (by rfl) (v := ?_) ?_ (by assumption) ?_
    rotate_left 1
    · intro w' hS'; obtain ⟨c0, c1, c2, c3, c4, c5, c6, c7⟩ := hS'; go_simp; try with_reducible rfl
    try simp only [Act.put, List.setIfInBounds_toArray, List.set_cons_zero, List.set_cons_succ]
    refine tail_take2 3 rfl (by kernel_rfl) (by kernel_rfl) (by kernel_rfl) (by decide) (fun _ _ _ h => h) (by rfl) (v := ?_) ?_ (by assumption) ?_
    rotate_left 1
    · intro w' hS'; obtain ⟨c0, c1, c2, c3, c4, c5, c6, c7⟩ := hS'; go_simp; try with_reducible rfl
    try simp only [Act.put, List.setIfInBounds_toArray, List.set_cons_zero, List.set_cons_succ]
    refine tail_call 1 rfl (by kernel_rfl) rfl (fun K hK => ?_)
    go_simp
    go_at_call 139; refine (HD.out _).mono ?_; rintro e1 w1 ⟨rfl, hb⟩; have HX1 := hide (HX.out.drew.next hb); clear hb
    refine hK.out _ _ (by (try dsimp only); exact HX1.out.cells) (fun hS' => ?_)
    clear hK K
    try simp only [Act.put, List.setIfInBounds_toArray, List.set_cons_zero, List.set_cons_succ]
    refine tail_call 4 rfl (by kernel_rfl) rfl (fun K hK => ?_)
    go_simp
    go_at_call 71; refine (HW.out _).mono ?_; rintro e2 w2 ⟨rfl, hb⟩; have HX2 := hide (HX1.out.next hb); clear hb
    refine hK.out _ _ (by (try dsimp only); exact HX2.out.cells) (fun hS' => ?_)
    clear hK K
    try simp only [Act.put, List.setIfInBounds_toArray, List.set_cons_zero, List.set_cons_succ]
    refine tail_take2 5 rfl (by kernel_rfl) (by kernel_rfl) (by kernel_rfl) (by decide) (fun _ _ _ h => h) (by rfl) (v := ?_) ?_ (by assumption) ?_
    rotate_left 1
    · intro w' hS'; obtain ⟨c0, c1, c2, c3, c4, c5, c6, c7⟩ := hS'; go_simp; try with_reducible rfl
    try simp only [Act.put, List.setIfInBounds_toArray, List.set_cons_zero, List.set_cons_succ]
    refine tail_take2 6 rfl (by kernel_rfl) (by kernel_rfl) (by kernel_rfl) (by decide) (fun _ _ _ h => h) (by rfl) (v := ?_) ?_ (by assumption) ?_
    rotate_left 1
    · intro w' hS'; obtain ⟨c0, c1, c2, c3, c4, c5, c6, c7⟩ := hS'; go_simp; try with_reducible rfl
    try simp only [Act.put, List.setIfInBounds_toArray, List.set_cons_zero, List.set_cons_succ]
    refine tail_end (by kernel_rfl) ?_
    -- END COUNT2
    go_wp2_with fail
    go_ret
    exact ⟨ret_int (by rw [HE.out]), HX2.out.2⟩
  · obtain ⟨z1, z2⟩ := hF.row rfl z hz
    have HE := hide (el_row (W := wdt q) z1 z2 hC1 hC2).1
    obtain ⟨e, he⟩ : ∃ e, elN 2 (wdt q) z C = e := ⟨_, rfl⟩
    rw [he] at HE
    rw [he]
    have h5 := el_row (W := wdt q) z1 z2 hC1 hC2
    rw [he] at h5
    have hzc := h5.1
    have he2 : e ≤ 1408 := h5.2.2
    obtain ⟨y, hy⟩ : ∃ y, z * C = y := ⟨_, rfl⟩
    rw [hy] at hzc HE
    have hy2 : 0 ≤ y ∧ y ≤ 1408 := by omega
    clear he h5 hzc
    go_enter Tryz.func111, Tryz.ntmps111
    go_wp2_with fail
    go_ret
    exact ⟨ret_int (by rw [HE.out]), HX.out.2⟩
end Go.Proofs.YtncgeoliboidhaaGreat

namespace Go.Proofs.YtncgeoliboidhaaGreat
open Go.RowKit
set_option linter.unusedSimpArgs false
set_option linter.unusedVariables false

/-- The code of a family and a size. -/
def szCode (bs : List Int) (κ p k g : Int) (zs : List Int) (C : Int) (ls : List Int) (z : Int) : Int :=
  if fmB bs κ p k g zs C ls = false then 1 else if decide (z ∈ zs) = false then 2 else 0
theorem sz_1 {bs : List Int} {κ p k g : Int} {zs : List Int} {C : Int} {ls : List Int} {z : Int} (h : fmB bs κ p k g zs C ls = false) : szCode bs κ p k g zs C ls z = 1 := by unfold szCode; rw [if_pos h]
theorem sz_2 {bs : List Int} {κ p k g : Int} {zs : List Int} {C : Int} {ls : List Int} {z : Int} (h : fmB bs κ p k g zs C ls = true) (h2 : decide (z ∈ zs) = false) : szCode bs κ p k g zs C ls z = 2 := by
  unfold szCode; rw [if_neg (by rw [h]; decide), if_pos h2]
theorem sz_0 {bs : List Int} {κ p k g : Int} {zs : List Int} {C : Int} {ls : List Int} {z : Int} (h : fmB bs κ p k g zs C ls = true) (h2 : decide (z ∈ zs) = true) : szCode bs κ p k g zs C ls z = 0 := by
  unfold szCode; rw [if_neg (by rw [h]; decide), if_neg (by rw [h2]; decide)]
set_option maxRecDepth 100000 in
set_option maxHeartbeats 4000000 in
theorem specSzC (s : ByteArray) (κ p k g : Int) (A : Option Addr) (n c : Nat) (C : Int) (A' : Option Addr) (n' c' B : Nat) (zs ls : List Int) (z : Int) (w : World) (hs : s.size ≤ 1099511627776)
    (hI : Ints .i64 w B A n zs) (hJ : Ints .i64 w B A' n' ls) (hB : B ≤ w.heap.size) (hn : n ≤ 1099511627776) (hn' : n' ≤ 1099511627776) :
    Calls Tryz.prog 72 #[.agg #[.string s, .int .i64 κ, .int .i64 p, .int .i64 k, .int .i64 g, .slice A n c, .int .i64 C, .slice A' n' c'], .int .i64 z] w (Gives (.int .i64 (szCode (bytesI s) κ p k g zs C ls z)) w) := by
  have HFV := hide (fun w' hI hJ hB => specIsFm s κ p k g A n c C A' n' c' B zs ls w' hs hI hJ hB hn hn')
  have HHS := hide (fun w' hI => specHasF A n c B zs z w' hI hn)
  have HX := hide (FBox.start w s κ p k g A n c C A' n' c')
  have H1 := hide (sz_1 (bs := bytesI s) (κ := κ) (p := p) (k := k) (g := g) (zs := zs) (C := C) (ls := ls) (z := z))
  have H2 := hide (sz_2 (bs := bytesI s) (κ := κ) (p := p) (k := k) (g := g) (zs := zs) (C := C) (ls := ls) (z := z))
  have H0 := hide (sz_0 (bs := bytesI s) (κ := κ) (p := p) (k := k) (g := g) (zs := zs) (C := C) (ls := ls) (z := z))
  generalize szCode (bytesI s) κ p k g zs C ls z = R at *
  generalize fmB (bytesI s) κ p k g zs C ls = b0 at *
  generalize decide (z ∈ zs) = b1 at *
  have HI := hide hI
  have HJ := hide hJ
  have HBW := hide hB
  clear hI hJ hB
  obtain ⟨c0, c1, c2, c3, c4, c5, c6, c7⟩ := HX.out.cells
  cases b0 with
  | false =>
    go_enter Tryz.func72, Tryz.ntmps72
    go_wp2_with fail
    refine (HFV.out _ (HI.out.below (HX.out.2.mono HBW.out)) (HJ.out.below (HX.out.2.mono HBW.out)) (Nat.le_trans HBW.out (Nat.le_of_lt HX.out.lt))).mono ?_
    rintro e w1 ⟨rfl, hb⟩
    have HX1 := hide (HX.out.next hb)
    clear hb c0 c1 c2 c3 c4 c5 c6 c7
    go_wp2_with fail
    go_ret
    exact ⟨ret_int (H1.out (by simp)), HX1.out.2⟩
  | true =>
    go_enter Tryz.func72, Tryz.ntmps72
    go_wp2_with fail
    refine (HFV.out _ (HI.out.below (HX.out.2.mono HBW.out)) (HJ.out.below (HX.out.2.mono HBW.out)) (Nat.le_trans HBW.out (Nat.le_of_lt HX.out.lt))).mono ?_
    rintro e w1 ⟨rfl, hb⟩
    have HX1 := hide (HX.out.next hb)
    clear hb c0 c1 c2 c3 c4 c5 c6 c7
    obtain ⟨c0, c1, c2, c3, c4, c5, c6, c7⟩ := HX1.out.cells
    go_wp2_with fail
    refine (HHS.out _ (HI.out.below (HX1.out.2.mono HBW.out))).mono ?_
    rintro e _ ⟨rfl, rfl⟩
    cases b1 with
    | false =>
      go_wp2_with fail
      go_ret
      exact ⟨ret_int (H2.out (by simp) (by simp)), HX1.out.2⟩
    | true =>
      go_wp2_with fail
      go_ret
      exact ⟨ret_int (H0.out (by simp) (by simp)), HX1.out.2⟩

set_option maxRecDepth 100000 in
set_option maxHeartbeats 8000000 in
theorem specLo {p k g : Int} {q : Nat} {mul : Nat → Nat → Nat} (hK : Kd p k g q mul) (s : ByteArray) (κ : Int) (A : Option Addr) (n c : Nat) (C : Int) (A' : Option Addr) (n' c' B : Nat) (zs ls : List Int) (hF : FmIs κ p k g zs C ls) (z : Int) (hz : z ∈ zs) (l0 P : Nat) (hP : P ≤ 80) (w : World)
    (hJ : Ints .i64 w B A' n' ls) (hB : B ≤ w.heap.size) (hl : ls[l0]? = some (P : Int)) :
    Calls Tryz.prog 73 #[.agg #[.string s, .int .i64 κ, .int .i64 p, .int .i64 k, .int .i64 g, .slice A n c, .int .i64 C, .slice A' n' c'], .int .i64 z, .int .i64 l0] w (Gives (.agg #[.int .i64 p, .int .i64 k, .int .i64 g, .int .i64 (loD (elN κ (wdt q) z C) (q - 1) P), .int .i64 (loK (elN κ (wdt q) z C) (q - 1) P : Nat), .int .i64 (loC (elN κ (wdt q) z C) (q - 1) : Nat)]) w) := by
  have hl0 : l0 < n' := by rw [← hJ.len]; exact (List.getElem?_eq_some_iff.1 hl).1
  have HJ := hide hJ
  have HBW := hide hB
  have HLL := hide hl
  have HX := hide ((FBox.start w s κ p k g A n c C A' n' c').alloc (.cells #[.int .i64 0, .int .i64 0, .int .i64 0, .int .i64 0, .int .i64 0, .int .i64 0] 35))
  obtain ⟨wa, hwa⟩ : ∃ wa, w.alloc (.cells #[.string s, .int .i64 κ, .int .i64 p, .int .i64 k, .int .i64 g, .slice A n c, .int .i64 C, .slice A' n' c'] 28) = wa := ⟨_, rfl⟩
  rw [hwa] at HX
  obtain ⟨wb, hwb⟩ : ∃ wb, wa.alloc (.cells #[.int .i64 0, .int .i64 0, .int .i64 0, .int .i64 0, .int .i64 0, .int .i64 0] 35) = wb := ⟨_, rfl⟩
  rw [hwb] at HX
  have HR := hide (show wb.heap[wa.heap.size]? = some (.cells #[.int .i64 0, .int .i64 0, .int .i64 0, .int .i64 0, .int .i64 0, .int .i64 0] 35 (0, 0)) by rw [← hwb]; exact heap_alloc_new _ _)
  have HRG := hide (show w.heap.size ≤ wa.heap.size by rw [← hwa, alloc_size]; omega)
  obtain ⟨hq8, hq256⟩ := fm_q hF.two hK
  obtain ⟨hw1, hw9, _, _⟩ := wdt_is hK.big.1 hK.big.2
  have hel := el_le hF hw1 hw9 hz
  have HEL := hide (fun w' => specEl hK s κ A n c C A' n' c' zs ls hF z hz w')
  have HSZ := hide (fun w' => specSize hK w')
  obtain ⟨E, hE⟩ : ∃ E, elN κ (wdt q) z C = E := ⟨_, rfl⟩
  rw [hE] at HEL hel
  rw [hE]
  obtain ⟨M, hM⟩ : ∃ M, q - 1 = M := ⟨_, rfl⟩
  rw [hM]
  have e1 : (q : Int) - 1 = (M : Int) := by omega
  have hM1 : 7 ≤ M := by omega
  have hM2 : M ≤ 255 := by omega
  have e0 : min (M : Int) 255 = (M : Int) := by omega
  obtain ⟨a, cN, b, b2, x, kN, t, n1, n2, n3, n4, n5, n6, n7, n8, n9, n10, r1, r2, r3, r4, r5, r6, r7, r8, r9⟩ := lo_nums (E := E) (M := M) (P := P) hel.1 hel.2 (by omega) hM2 hP
  have HN3 := hide n3
  have HN8 := hide n8
  have HN10 := hide n10
  have f1 : (E : Int) + (M : Int) - 1 = (a : Int) := by omega
  have f2 : (a : Int) / (M : Int) = (cN : Int) := by rw [← n2]; rfl
  have f2' : (a : Int).tdiv (M : Int) = (cN : Int) := by rw [Int.tdiv_eq_ediv_of_nonneg (by omega)]; exact f2
  have f3 : (E : Int) * (P : Int) = (b : Int) := by rw [← n4]; push_cast; rfl
  have f4 : (b : Int) / 100 = (b2 : Int) := by rw [← n5]; rfl
  have f4' : (b : Int).tdiv 100 = (b2 : Int) := by rw [Int.tdiv_eq_ediv_of_nonneg (by omega)]; exact f4
  have f5 : (b2 : Int) / (cN : Int) = (x : Int) := by rw [← n6]; rfl
  have f5' : (b2 : Int).tdiv (cN : Int) = (x : Int) := by rw [Int.tdiv_eq_ediv_of_nonneg (by omega)]; exact f5
  have f6 : (cN : Int) * (kN : Int) = (t : Int) := by rw [← n9]; push_cast; rfl
  have f7 : min 64 (max 2 (x : Int)) = (kN : Int) := by omega
  have hM0 : (M : Int) ≠ 0 := by omega
  have hc0 : (cN : Int) ≠ 0 := by omega
  have hEE := hel.2
  obtain ⟨Dd, hDd⟩ : ∃ Dd : Int, (E : Int) - (t : Int) = Dd := ⟨_, rfl⟩
  have HDD := hide hDd
  clear n1 n2 n3 n4 n5 n6 n7 n8 n9 n10 hE hM hel hF hz hJ hB hl
  obtain ⟨c0, c1, c2, c3, c4, c5, c6, c7⟩ := HX.out.cells
  go_enter Tryz.func73, Tryz.ntmps73
  go_wp2_with fail
  refine (HEL.out _).mono ?_
  rintro e w1 ⟨rfl, hb⟩
  have HX1 := hide (HX.out.next hb)
  have HR1 := hide (heap_nextF HR.out hb)
  clear hb c0 c1 c2 c3 c4 c5 c6 c7
  obtain ⟨c0, c1, c2, c3, c4, c5, c6, c7⟩ := HX1.out.cells
  go_wp2_with fail
  refine (HSZ.out _).mono ?_
  rintro e w2 ⟨rfl, hb⟩
  have HX2 := hide (HX1.out.next hb)
  have HR2 := hide (heap_nextF HR1.out hb)
  clear hb c0 c1 c2 c3 c4 c5 c6 c7
  obtain ⟨c0, c1, c2, c3, c4, c5, c6, c7⟩ := HX2.out.cells
  obtain ⟨b0, b1, b2', b3, b4, b5, g0, g1, g2, g3, g4, g5⟩ := row6F HR2.out
  have HBF := hide HX2.out.2
  obtain ⟨bL, oL, x', rfl, hbL, hx', hcL⟩ := (HJ.out.below (HX2.out.2.mono HBW.out)).at_ hl0
  have hxx : x' = (P : Int) := by have := HLL.out; rw [hx'] at this; injection this
  rw [hxx] at hcL
  clear hwa hwb HDD hxx hx'
  go_wp2_with fail
  have q1 : w.heap.size ≤ wa.heap.size := HRG.out
  refine bodyPost_ret (v := .agg #[.int .i64 p, .int .i64 k, .int .i64 g, .int .i64 Dd, .int .i64 kN, .int .i64 cN]) (by simp [results, Tryz.results73, go_sem, b0, b1, b2', b3, b4, b5]) rfl ⟨by rw [HN3.out, HN8.out, HN10.out, hDd], ?_⟩
  repeat (with_reducible refine Below.setCell ?_ (by exact q1) _)
  exact HBF.out
end Go.Proofs.YtncgeoliboidhaaGreat

namespace Go.Proofs.YtncgeoliboidhaaGreat
open Go.RowKit
set_option linter.unusedSimpArgs false
set_option linter.unusedVariables false

set_option maxRecDepth 100000 in
set_option maxHeartbeats 16000000 in
theorem specLayOf (s : ByteArray) (κ p k g : Int) (A : Option Addr) (n c : Nat) (C : Int) (A' : Option Addr) (n' c' B : Nat) (zs ls : List Int) (z lv : Int) (w : World) (hs : s.size ≤ 1099511627776)
    (hI : Ints .i64 w B A n zs) (hJ : Ints .i64 w B A' n' ls) (hB : B ≤ w.heap.size) (hn : n ≤ 1099511627776) (hn' : n' ≤ 1099511627776) :
    Calls Tryz.prog 28 #[.agg #[.string s, .int .i64 κ, .int .i64 p, .int .i64 k, .int .i64 g, .slice A n c, .int .i64 C, .slice A' n' c'], .int .i64 z, .int .i64 lv] w (LoGives (loCode (bytesI s) κ p k g zs C ls z lv) p k g (lyD κ p k C z ls lv) (lyK κ p k C z ls lv) (lyC κ p k C z) w) := by
  have HSC := hide (fun w' hI hJ hB => specSzC s κ p k g A n c C A' n' c' B zs ls z w' hs hI hJ hB hn hn')
  have HX := hide ((FBox.start w s κ p k g A n c C A' n' c').alloc (.cells #[.int .i64 0, .int .i64 0, .int .i64 0, .int .i64 0, .int .i64 0, .int .i64 0] 35))
  obtain ⟨wa, hwa⟩ : ∃ wa, w.alloc (.cells #[.string s, .int .i64 κ, .int .i64 p, .int .i64 k, .int .i64 g, .slice A n c, .int .i64 C, .slice A' n' c'] 28) = wa := ⟨_, rfl⟩
  rw [hwa] at HX
  obtain ⟨wb, hwb⟩ : ∃ wb, wa.alloc (.cells #[.int .i64 0, .int .i64 0, .int .i64 0, .int .i64 0, .int .i64 0, .int .i64 0] 35) = wb := ⟨_, rfl⟩
  rw [hwb] at HX
  have HR := hide (show wb.heap[wa.heap.size]? = some (.cells #[.int .i64 0, .int .i64 0, .int .i64 0, .int .i64 0, .int .i64 0, .int .i64 0] 35 (0, 0)) by rw [← hwb]; exact heap_alloc_new _ _)
  have HRG := hide (show w.heap.size ≤ wa.heap.size by rw [← hwa, alloc_size]; omega)
  obtain ⟨c0, c1, c2, c3, c4, c5, c6, c7⟩ := HX.out.cells
  have HI := hide hI
  -- LAYOUTOF
  rcases hF : fmB (bytesI s) κ p k g zs C ls with _ | _
  · have HC := hide (lo_1 (z := z) (lv := lv) hF)
    have HJ := hide hJ
    rw [sz_1 hF] at HSC
    clear hI hJ hF
    go_enter Tryz.func28, Tryz.ntmps28
    go_wp2_with fail
    refine (HSC.out _ (HI.out.below (HX.out.2.mono hB)) (HJ.out.below (HX.out.2.mono hB)) (Nat.le_trans hB (Nat.le_of_lt HX.out.lt))).mono ?_
    rintro e w1 ⟨rfl, hb⟩
    have HX1 := hide (HX.out.next hb)
    have HR1 := hide (heap_nextF HR.out hb)
    clear hb c0 c1 c2 c3 c4 c5 c6 c7
    obtain ⟨c0, c1, c2, c3, c4, c5, c6, c7⟩ := HX1.out.cells
    obtain ⟨x0, x1, x2, x3, x4, x5, f0, f1, f2, f3, f4, f5⟩ := row6F HR1.out
    go_wp2_with fail
    have q1 : w.heap.size ≤ wa.heap.size := HRG.out
    have HBv := hide HX1.out.2
    refine bodyPost_ret (v := .tuple #[.agg #[.int .i64 0, .int .i64 0, .int .i64 0, .int .i64 0, .int .i64 0, .int .i64 0], .int .i64 1]) (by simp [results, Tryz.results28, go_sem, x0, x1, x2, x3, x4, x5]) rfl (lo_bad HC.out (by decide) ?_)
    repeat (with_reducible refine Below.setCell ?_ (by exact q1) _)
    exact HBv.out
  rcases hS : decide (z ∈ zs) with _ | _
  · have HC := hide (lo_2 (z := z) (lv := lv) hF (by rw [hS]; rfl))
    have HJ := hide hJ
    rw [sz_2 hF hS] at HSC
    clear hI hJ hF hS
    go_enter Tryz.func28, Tryz.ntmps28
    go_wp2_with fail
    refine (HSC.out _ (HI.out.below (HX.out.2.mono hB)) (HJ.out.below (HX.out.2.mono hB)) (Nat.le_trans hB (Nat.le_of_lt HX.out.lt))).mono ?_
    rintro e w1 ⟨rfl, hb⟩
    have HX1 := hide (HX.out.next hb)
    have HR1 := hide (heap_nextF HR.out hb)
    clear hb c0 c1 c2 c3 c4 c5 c6 c7
    obtain ⟨c0, c1, c2, c3, c4, c5, c6, c7⟩ := HX1.out.cells
    obtain ⟨x0, x1, x2, x3, x4, x5, f0, f1, f2, f3, f4, f5⟩ := row6F HR1.out
    go_wp2_with fail
    have q1 : w.heap.size ≤ wa.heap.size := HRG.out
    have HBv := hide HX1.out.2
    refine bodyPost_ret (v := .tuple #[.agg #[.int .i64 0, .int .i64 0, .int .i64 0, .int .i64 0, .int .i64 0, .int .i64 0], .int .i64 2]) (by simp [results, Tryz.results28, go_sem, x0, x1, x2, x3, x4, x5]) rfl (lo_bad HC.out (by decide) ?_)
    repeat (with_reducible refine Below.setCell ?_ (by exact q1) _)
    exact HBv.out
  rw [sz_0 hF hS] at HSC
  have e1 : ((n' : Int) - 1) = ((n' : Int) - 1) := rfl
  rcases hL : idxOk ls lv with _ | _
  · have HC := hide (lo_2 (z := z) (lv := lv) hF (by rw [hS, hL]; rfl))
    have HIN := hide (fun w' => specIn_is lv 0 ((n' : Int) - 1) false w' (by rw [← hL, idxOk, ← hJ.len]; unfold inR; exact decide_eq_decide.2 (by omega)))
    have HJ := hide hJ
    clear hI hJ hF hS hL
    go_enter Tryz.func28, Tryz.ntmps28
    go_wp2_with fail
    refine (HSC.out _ (HI.out.below (HX.out.2.mono hB)) (HJ.out.below (HX.out.2.mono hB)) (Nat.le_trans hB (Nat.le_of_lt HX.out.lt))).mono ?_
    rintro e w1 ⟨rfl, hb⟩
    have HX1 := hide (HX.out.next hb)
    have HR1 := hide (heap_nextF HR.out hb)
    clear hb c0 c1 c2 c3 c4 c5 c6 c7
    obtain ⟨c0, c1, c2, c3, c4, c5, c6, c7⟩ := HX1.out.cells
    go_wp2_with fail
    refine (HIN.out _).mono ?_
    rintro e _ ⟨rfl, rfl⟩
    obtain ⟨x0, x1, x2, x3, x4, x5, f0, f1, f2, f3, f4, f5⟩ := row6F HR1.out
    go_wp2_with fail
    have q1 : w.heap.size ≤ wa.heap.size := HRG.out
    have HBv := hide HX1.out.2
    refine bodyPost_ret (v := .tuple #[.agg #[.int .i64 0, .int .i64 0, .int .i64 0, .int .i64 0, .int .i64 0, .int .i64 0], .int .i64 2]) (by simp [results, Tryz.results28, go_sem, x0, x1, x2, x3, x4, x5]) rfl (lo_bad HC.out (by decide) ?_)
    repeat (with_reducible refine Below.setCell ?_ (by exact q1) _)
    exact HBv.out
  · have HIN := hide (fun w' => specIn_is lv 0 ((n' : Int) - 1) true w' (by rw [← hL, idxOk, ← hJ.len]; unfold inR; exact decide_eq_decide.2 (by omega)))
    have hRES := lo_3 (z := z) (lv := lv) hF (by rw [hS, hL]; rfl)
    have hFI := fm_is hF
    obtain ⟨q, mul, _, hK, -⟩ := fieldB_open hFI.fld
    have hz : z ∈ zs := of_decide_eq_true hS
    simp only [idxOk, decide_eq_true_eq] at hL
    obtain ⟨l0, rfl⟩ : ∃ l0 : Nat, lv = l0 := ⟨lv.toNat, by omega⟩
    have hln : ls.length = n' := hJ.len
    have hl0 : l0 < n' := by omega
    obtain ⟨Pv, hPv⟩ : ∃ Pv, ls[l0]? = some Pv := ⟨_, List.getElem?_eq_getElem (by omega)⟩
    have hPr := hFI.pct Pv (List.mem_of_getElem? hPv)
    obtain ⟨P, rfl⟩ : ∃ P : Nat, Pv = P := ⟨Pv.toNat, by omega⟩
    have hlP : lvP ls (l0 : Int) = P := by unfold lvP; rw [Int.toNat_natCast, hPv]; simp
    have HLO := hide (fun w' hJ hB => specLo hK s κ A n c C A' n' c' B zs ls hFI z hz l0 P (by omega) w' hJ hB hPv)
    obtain ⟨hq8, hq256⟩ := fm_q hFI.two hK
    obtain ⟨hw1, hw9, -, -⟩ := wdt_is hK.big.1 hK.big.2
    have hel := el_le hFI hw1 hw9 hz
    obtain ⟨_, _, _, _, _, _, _, -, -, -, -, -, -, -, -, -, hDd, r1, r2, -, -, -, -, -, -, r9⟩ := lo_nums (E := elN κ (wdt q) z C) (M := q - 1) (P := P) hel.1 hel.2 (by omega) (by omega) (by omega)
    have eD : lyD κ p k C z ls (l0 : Int) = loD (elN κ (wdt q) z C) (q - 1) P := by unfold lyD lyE; rw [hlP, qN_is hK]
    have eK : lyK κ p k C z ls (l0 : Int) = (loK (elN κ (wdt q) z C) (q - 1) P : Nat) := by unfold lyK lyE; rw [hlP, qN_is hK]
    have eC : lyC κ p k C z = (loC (elN κ (wdt q) z C) (q - 1) : Nat) := by unfold lyC lyE; rw [qN_is hK]
    have hc1408 := (lo_c (E := elN κ (wdt q) z C) (M := q - 1) hel.1 (by omega)).2
    rw [← eD, ← eK, ← eC] at HLO
    have hDr : -100000 ≤ lyD κ p k C z ls (l0 : Int) ∧ lyD κ p k C z ls (l0 : Int) ≤ 100000 := by rw [eD, hDd]; omega
    have hCr : -100000 ≤ lyC κ p k C z ∧ lyC κ p k C z ≤ 100000 := by rw [eC]; omega
    clear eD eK eC hDd r1 r2 r9 hc1408 hel hq8 hq256 hw1 hw9 hlP hPr hPv hFI hK hF hS hL hz
    generalize lyD κ p k C z ls (l0 : Int) = D at *
    generalize lyK κ p k C z ls (l0 : Int) = K at *
    generalize lyC κ p k C z = Cn at *
    have HVL := hide (fun w' => specIsLayout p k g D K Cn w')
    obtain ⟨bV, hbV⟩ : ∃ bV, layB p k g D K Cn = bV := ⟨_, rfl⟩
    rw [hbV] at HVL hRES
    have HRES := hide hRES
    clear hbV hRES hDr hCr
    have HJ := hide hJ
    have HBW := hide hB
    clear hI hJ hln hl0
    go_enter Tryz.func28, Tryz.ntmps28
    go_wp2_with fail
    refine (HSC.out _ (HI.out.below (HX.out.2.mono HBW.out)) (HJ.out.below (HX.out.2.mono HBW.out)) (Nat.le_trans HBW.out (Nat.le_of_lt HX.out.lt))).mono ?_
    rintro e w1 ⟨rfl, hb⟩
    have HX1 := hide (HX.out.next hb)
    have HR1 := hide (heap_nextF HR.out hb)
    clear hb c0 c1 c2 c3 c4 c5 c6 c7
    obtain ⟨c0, c1, c2, c3, c4, c5, c6, c7⟩ := HX1.out.cells
    go_wp2_with fail
    refine (HIN.out _).mono ?_
    rintro e _ ⟨rfl, rfl⟩
    go_wp2_with fail
    refine (HLO.out _ (HJ.out.below (HX1.out.2.mono HBW.out)) (Nat.le_trans HBW.out (Nat.le_of_lt HX1.out.lt))).mono ?_
    rintro e w2 ⟨rfl, hb⟩
    have HX2 := hide (HX1.out.next hb)
    have HR2 := hide (heap_nextF HR1.out hb)
    clear hb c0 c1 c2 c3 c4 c5 c6 c7
    obtain ⟨c0, c1, c2, c3, c4, c5, c6, c7⟩ := HX2.out.cells
    obtain ⟨w3, hw3⟩ : ∃ w3, w2.alloc (.cells #[.int .i64 p, .int .i64 k, .int .i64 g, .int .i64 D, .int .i64 K, .int .i64 Cn] 35) = w3 := ⟨_, rfl⟩
    have hb3 : Below w2.heap.size w2 w3 := by rw [← hw3]; exact (Below.refl _ _).alloc (Nat.le_refl _) _
    have HZ3 := hide (show w3.heap[w2.heap.size]? = some (.cells #[.int .i64 p, .int .i64 k, .int .i64 g, .int .i64 D, .int .i64 K, .int .i64 Cn] 35 (0, 0)) by rw [← hw3]; exact heap_alloc_new _ _)
    have HX3 := hide (HX2.out.next hb3)
    have HR3 := hide (heap_nextF HR2.out hb3)
    clear hb3
    obtain ⟨y0, y1, y2, y3, y4, y5, _, _, _, _, _, _⟩ := row6F HZ3.out
    go_wp2_with fail
    clear hw3
    refine (HVL.out _).mono ?_
    rintro e w4 ⟨rfl, hb⟩
    have HX4 := hide (HX3.out.next hb)
    have HR4 := hide (heap_nextF HR3.out hb)
    have HZ4 := hide (heap_nextF HZ3.out hb)
    clear hb y0 y1 y2 y3 y4 y5 c0 c1 c2 c3 c4 c5 c6 c7
    obtain ⟨y0, y1, y2, y3, y4, y5, _, _, _, _, _, _⟩ := row6F HZ4.out
    obtain ⟨x0, x1, x2, x3, x4, x5, f0, f1, f2, f3, f4, f5⟩ := row6F HR4.out
    cases bV with
    | false =>
      go_wp2_with fail
      have q1 : w.heap.size ≤ wa.heap.size := HRG.out
      have HBv := hide HX4.out.2
      refine bodyPost_ret (v := .tuple #[.agg #[.int .i64 0, .int .i64 0, .int .i64 0, .int .i64 0, .int .i64 0, .int .i64 0], .int .i64 3]) (by simp [results, Tryz.results28, go_sem, x0, x1, x2, x3, x4, x5]) rfl (lo_bad3 HRES.out ?_)
      repeat (with_reducible refine Below.setCell ?_ (by exact q1) _)
      exact HBv.out
    | true =>
      go_wp2_with fail
      have q1 : w.heap.size ≤ wa.heap.size := HRG.out
      have HBv := hide HX4.out.2
      refine bodyPost_ret (v := .tuple #[.agg #[.int .i64 p, .int .i64 k, .int .i64 g, .int .i64 D, .int .i64 K, .int .i64 Cn], .int .i64 0]) (by simp [results, Tryz.results28, go_sem, x0, x1, x2, x3, x4, x5]) rfl (lo_good HRES.out ?_)
      repeat (with_reducible refine Below.setCell ?_ (by exact q1) _)
      exact HBv.out
-- END LAYOUTOF
end Go.Proofs.YtncgeoliboidhaaGreat
