/-
  ElementCount, RoomOf, ErrorRoom and LayoutOf: the model and the program.
  Condition: as each statement says.
-/
import Derived.Test.YtncgeoliboidhaaVM
namespace Go.Proofs.Ytncgeoliboidhaa
open Go.RowKit
set_option linter.unusedSimpArgs false
set_option linter.unusedVariables false

def ecV (bs : List Int) (κ p k g : Int) (zs : List Int) (C : Int) (ls : List Int) (z : Int) : Int := if szCode bs κ p k g zs C ls z = 0 then (lyE κ p k C z : Nat) else 0
theorem ec_bad {bs : List Int} {κ p k g : Int} {zs : List Int} {C : Int} {ls : List Int} {z : Int} (h : szCode bs κ p k g zs C ls z ≠ 0) : ecV bs κ p k g zs C ls z = 0 := by unfold ecV; rw [if_neg h]
def roV (bs : List Int) (κ p k g : Int) (zs : List Int) (C : Int) (ls : List Int) (z lv : Int) : Int := if loCode bs κ p k g zs C ls z lv = 0 then lyD κ p k C z ls lv * (wdt (qN p k) : Nat) else 0
def erV (bs : List Int) (κ p k g : Int) (zs : List Int) (C : Int) (ls : List Int) (z lv : Int) : Int := if loCode bs κ p k g zs C ls z lv = 0 then (((lyK κ p k C z ls lv).toNat / 2 : Nat) : Int) else 0
theorem roV_bad {bs : List Int} {κ p k g : Int} {zs : List Int} {C : Int} {ls : List Int} {z lv : Int} (h : loCode bs κ p k g zs C ls z lv ≠ 0) : roV bs κ p k g zs C ls z lv = 0 := by unfold roV; rw [if_neg h]
theorem erV_bad {bs : List Int} {κ p k g : Int} {zs : List Int} {C : Int} {ls : List Int} {z lv : Int} (h : loCode bs κ p k g zs C ls z lv ≠ 0) : erV bs κ p k g zs C ls z lv = 0 := by unfold erV; rw [if_neg h]
theorem lo_zero {bs : List Int} {κ p k g : Int} {zs : List Int} {C : Int} {ls : List Int} {z lv : Int} (h : loCode bs κ p k g zs C ls z lv = 0) :
    fmB bs κ p k g zs C ls = true ∧ z ∈ zs ∧ idxOk ls lv = true ∧ layB p k g (lyD κ p k C z ls lv) (lyK κ p k C z ls lv) (lyC κ p k C z) = true := by
  unfold loCode at h
  rcases h1 : fmB bs κ p k g zs C ls with _ | _
  · rw [if_pos h1] at h; cases h
  rcases h2 : (decide (z ∈ zs) && idxOk ls lv) with _ | _
  · rw [if_neg (by rw [h1]; decide), if_pos h2] at h; cases h
  rcases h3 : layB p k g (lyD κ p k C z ls lv) (lyK κ p k C z ls lv) (lyC κ p k C z) with _ | _
  · rw [if_neg (by rw [h1]; decide), if_neg (by rw [h2]; decide), if_pos h3] at h; cases h
  rw [Bool.and_eq_true, decide_eq_true_eq] at h2
  exact ⟨rfl, h2.1, h2.2, rfl⟩
theorem lay_bd {p k g D K C : Int} (h : layB p k g D K C = true) : 1 ≤ D ∧ D ≤ 1500 ∧ 1 ≤ K ∧ K ≤ 64 ∧ 1 ≤ C ∧ C ≤ 16 := by
  rw [layB, Bool.and_eq_true, decide_eq_true_eq] at h
  omega
theorem lo_nice {bs : List Int} {κ p k g : Int} {zs : List Int} {C : Int} {ls : List Int} {z lv : Int} (h : loCode bs κ p k g zs C ls z lv = 0) :
    ∃ (q : Nat) (mul : Nat → Nat → Nat) (W : Nat) (D K Cn : Int), Kd p k g q mul ∧ wdt q = W ∧ lyD κ p k C z ls lv = D ∧ lyK κ p k C z ls lv = K ∧ lyC κ p k C z = Cn ∧ 1 ≤ W ∧ W ≤ 9 ∧ (1 ≤ D ∧ D ≤ 1500) ∧ (1 ≤ K ∧ K ≤ 64) ∧ qN p k = q := by
  obtain ⟨h1, h2, h3, h4⟩ := lo_zero h
  have hFI := fm_is h1
  obtain ⟨q, mul, _, hK, _⟩ := fieldB_open hFI.fld
  obtain ⟨w1, w9, _, _⟩ := wdt_is hK.big.1 hK.big.2
  have hb := lay_bd h4
  exact ⟨q, mul, _, _, _, _, hK, rfl, rfl, rfl, rfl, w1, w9, ⟨hb.1, hb.2.1⟩, ⟨hb.2.2.1, hb.2.2.2.1⟩, qN_is hK⟩
theorem roV_good {bs : List Int} {κ p k g : Int} {zs : List Int} {C : Int} {ls : List Int} {z lv : Int} (h : loCode bs κ p k g zs C ls z lv = 0) :
    ∃ (q : Nat) (mul : Nat → Nat → Nat) (W : Nat) (D K Cn : Int), Kd p k g q mul ∧ wdt q = W ∧ lyD κ p k C z ls lv = D ∧ lyK κ p k C z ls lv = K ∧ lyC κ p k C z = Cn ∧ 1 ≤ W ∧ W ≤ 9 ∧ (1 ≤ D ∧ D ≤ 1500) ∧ (1 ≤ K ∧ K ≤ 64) ∧ roV bs κ p k g zs C ls z lv = D * (W : Nat) := by
  obtain ⟨q, mul, W, D, K, Cn, a1, a2, a3, a4, a5, a6, a7, a8, a9, a10⟩ := lo_nice h
  exact ⟨q, mul, W, D, K, Cn, a1, a2, a3, a4, a5, a6, a7, a8, a9, by unfold roV; rw [if_pos h, a3, a10, a2]⟩
theorem erV_good {bs : List Int} {κ p k g : Int} {zs : List Int} {C : Int} {ls : List Int} {z lv : Int} (h : loCode bs κ p k g zs C ls z lv = 0) :
    ∃ (q : Nat) (mul : Nat → Nat → Nat) (W : Nat) (D K Cn : Int), Kd p k g q mul ∧ wdt q = W ∧ lyD κ p k C z ls lv = D ∧ lyK κ p k C z ls lv = K ∧ lyC κ p k C z = Cn ∧ 1 ≤ W ∧ W ≤ 9 ∧ (1 ≤ D ∧ D ≤ 1500) ∧ (1 ≤ K ∧ K ≤ 64) ∧ erV bs κ p k g zs C ls z lv = ((K.toNat / 2 : Nat) : Int) := by
  obtain ⟨q, mul, W, D, K, Cn, a1, a2, a3, a4, a5, a6, a7, a8, a9, a10⟩ := lo_nice h
  exact ⟨q, mul, W, D, K, Cn, a1, a2, a3, a4, a5, a6, a7, a8, a9, by unfold erV; rw [if_pos h, a4]⟩
theorem mul_small {D Y : Int} (hD : 1 ≤ D ∧ D ≤ 1500) (hY : 1 ≤ Y ∧ Y ≤ 9) : -1000000 ≤ D * Y ∧ D * Y ≤ 1000000 := by
  obtain ⟨a, rfl⟩ : ∃ a : Nat, D = a := ⟨D.toNat, by omega⟩
  obtain ⟨b, rfl⟩ : ∃ b : Nat, Y = b := ⟨Y.toNat, by omega⟩
  have h : a * b ≤ 1500 * 9 := Nat.mul_le_mul (by omega) (by omega)
  rw [← Int.natCast_mul]
  omega

-- BOTH
set_option maxRecDepth 100000 in
set_option maxHeartbeats 8000000 in
theorem specElC (s : ByteArray) (κ p k g : Int) (A : Option Addr) (n c : Nat) (C : Int) (A' : Option Addr) (n' c' B : Nat) (zs ls : List Int) (z : Int) (w : World) (hs : s.size ≤ 1099511627776)
    (hI : Ints .i64 w B A n zs) (hJ : Ints .i64 w B A' n' ls) (hB : B ≤ w.heap.size) (hn : n ≤ 1099511627776) (hn' : n' ≤ 1099511627776) :
    Calls Try.prog 15 #[.agg #[.string s, .int .i64 κ, .int .i64 p, .int .i64 k, .int .i64 g, .slice A n c, .int .i64 C, .slice A' n' c'], .int .i64 z] w (GivesII (ecV (bytesI s) κ p k g zs C ls z) (szCode (bytesI s) κ p k g zs C ls z) w) := by
  have HX := hide (FBox.start w s κ p k g A n c C A' n' c')
  have HI := hide hI
  have HJ := hide hJ
  have HBW := hide hB
  obtain ⟨c0, c1, c2, c3, c4, c5, c6, c7⟩ := HX.out.cells
  have HSC := hide (fun w' hI hJ hB => specSzC s κ p k g A n c C A' n' c' B zs ls z w' hs hI hJ hB hn hn')
  clear hI hJ hB
  rcases hF : fmB (bytesI s) κ p k g zs C ls with _ | _
  · skip
    have HV := hide (ec_bad (bs := bytesI s) (κ := κ) (p := p) (k := k) (g := g) (zs := zs) (C := C) (ls := ls) (z := z) (by rw [sz_1 (z := z) hF]; decide))
    have HC := hide (sz_1 (z := z) hF)
    rw [sz_1 hF] at HSC
    clear hF
    go_enter Try.func15, Try.ntmps15
    go_wp2_with fail
    refine (HSC.out _ (HI.out.below (HX.out.2.mono HBW.out)) (HJ.out.below (HX.out.2.mono HBW.out)) (Nat.le_trans HBW.out (Nat.le_of_lt HX.out.lt))).mono ?_
    rintro e w1 ⟨rfl, hb⟩
    have HX1 := hide (HX.out.next hb)
    clear hb c0 c1 c2 c3 c4 c5 c6 c7
    obtain ⟨c0, c1, c2, c3, c4, c5, c6, c7⟩ := HX1.out.cells
    go_wp2_with fail
    go_ret2
    exact ⟨ret_ii HV.out HC.out, HX1.out.2⟩
  rcases hS : decide (z ∈ zs) with _ | _
  · skip
    have HV := hide (ec_bad (bs := bytesI s) (κ := κ) (p := p) (k := k) (g := g) (zs := zs) (C := C) (ls := ls) (z := z) (by rw [sz_2 hF hS]; decide))
    have HC := hide (sz_2 hF hS)
    rw [sz_2 hF hS] at HSC
    clear hF hS
    go_enter Try.func15, Try.ntmps15
    go_wp2_with fail
    refine (HSC.out _ (HI.out.below (HX.out.2.mono HBW.out)) (HJ.out.below (HX.out.2.mono HBW.out)) (Nat.le_trans HBW.out (Nat.le_of_lt HX.out.lt))).mono ?_
    rintro e w1 ⟨rfl, hb⟩
    have HX1 := hide (HX.out.next hb)
    clear hb c0 c1 c2 c3 c4 c5 c6 c7
    obtain ⟨c0, c1, c2, c3, c4, c5, c6, c7⟩ := HX1.out.cells
    go_wp2_with fail
    go_ret2
    exact ⟨ret_ii HV.out HC.out, HX1.out.2⟩
  have hFI := fm_is hF
  obtain ⟨q, mul, _, hK, -⟩ := fieldB_open hFI.fld
  have hz : z ∈ zs := of_decide_eq_true hS
  have HEL := hide (fun w' => specEl hK s κ A n c C A' n' c' zs ls hFI z hz w')
  have HC := hide (sz_0 hF hS)
  have HV := hide (show ecV (bytesI s) κ p k g zs C ls z = (elN κ (wdt q) z C : Nat) by unfold ecV lyE; rw [sz_0 hF hS, if_pos rfl, qN_is hK])
  rw [sz_0 hF hS] at HSC
  generalize elN κ (wdt q) z C = E at *
  clear hF hS hFI hK hz
  go_enter Try.func15, Try.ntmps15
  go_wp2_with fail
  refine (HSC.out _ (HI.out.below (HX.out.2.mono HBW.out)) (HJ.out.below (HX.out.2.mono HBW.out)) (Nat.le_trans HBW.out (Nat.le_of_lt HX.out.lt))).mono ?_
  rintro e w1 ⟨rfl, hb⟩
  have HX1 := hide (HX.out.next hb)
  clear hb c0 c1 c2 c3 c4 c5 c6 c7
  obtain ⟨c0, c1, c2, c3, c4, c5, c6, c7⟩ := HX1.out.cells
  go_wp2_with fail
  refine (HEL.out _).mono ?_
  rintro e w5 ⟨rfl, hb⟩
  have HX5 := hide (HX1.out.next hb)
  clear hb c0 c1 c2 c3 c4 c5 c6 c7
  obtain ⟨c0, c1, c2, c3, c4, c5, c6, c7⟩ := HX5.out.cells
  go_wp2_with fail
  go_ret2
  exact ⟨ret_ii HV.out HC.out, HX5.out.2⟩

set_option maxRecDepth 100000 in
set_option maxHeartbeats 8000000 in
theorem implElC (s : ByteArray) (κ p k g : Int) (A : Option Addr) (n c : Nat) (C : Int) (A' : Option Addr) (n' c' B : Nat) (zs ls : List Int) (z : Int) (w : World) (hs : s.size ≤ 1099511627776)
    (hI : Ints .i64 w B A n zs) (hJ : Ints .i64 w B A' n' ls) (hB : B ≤ w.heap.size) (hn : n ≤ 1099511627776) (hn' : n' ≤ 1099511627776) :
    Calls Try.prog 16 #[.agg #[.string s, .int .i64 κ, .int .i64 p, .int .i64 k, .int .i64 g, .slice A n c, .int .i64 C, .slice A' n' c'], .int .i64 z] w (GivesII (ecV (bytesI s) κ p k g zs C ls z) (szCode (bytesI s) κ p k g zs C ls z) w) := by
  have HX := hide (FBox.start w s κ p k g A n c C A' n' c')
  have HI := hide hI
  have HJ := hide hJ
  have HBW := hide hB
  obtain ⟨c0, c1, c2, c3, c4, c5, c6, c7⟩ := HX.out.cells
  have HFV := hide (fun w' hI hJ hB => implFmValid s κ p k g A n c C A' n' c' B zs ls w' hs hI hJ hB hn hn')
  have HHS := hide (fun w' hI hB => implHasSz s κ p k g A n c C A' n' c' B zs z w' hI hB hn)
  clear hI hJ hB
  rcases hF : fmB (bytesI s) κ p k g zs C ls with _ | _
  · skip
    have HV := hide (ec_bad (bs := bytesI s) (κ := κ) (p := p) (k := k) (g := g) (zs := zs) (C := C) (ls := ls) (z := z) (by rw [sz_1 (z := z) hF]; decide))
    have HC := hide (sz_1 (z := z) hF)
    rw [hF] at HFV
    clear hF
    go_enter Try.func16, Try.ntmps16
    go_wp2_with fail
    refine (HFV.out _ (HI.out.below (HX.out.2.mono HBW.out)) (HJ.out.below (HX.out.2.mono HBW.out)) (Nat.le_trans HBW.out (Nat.le_of_lt HX.out.lt))).mono ?_
    rintro e w1 ⟨rfl, hb⟩
    have HX1 := hide (HX.out.next hb)
    clear hb c0 c1 c2 c3 c4 c5 c6 c7
    obtain ⟨c0, c1, c2, c3, c4, c5, c6, c7⟩ := HX1.out.cells
    go_wp2_with fail
    go_ret2
    exact ⟨ret_ii HV.out HC.out, HX1.out.2⟩
  rcases hS : decide (z ∈ zs) with _ | _
  · skip
    have HV := hide (ec_bad (bs := bytesI s) (κ := κ) (p := p) (k := k) (g := g) (zs := zs) (C := C) (ls := ls) (z := z) (by rw [sz_2 hF hS]; decide))
    have HC := hide (sz_2 hF hS)
    rw [hF] at HFV
    rw [hS] at HHS
    clear hF hS
    go_enter Try.func16, Try.ntmps16
    go_wp2_with fail
    refine (HFV.out _ (HI.out.below (HX.out.2.mono HBW.out)) (HJ.out.below (HX.out.2.mono HBW.out)) (Nat.le_trans HBW.out (Nat.le_of_lt HX.out.lt))).mono ?_
    rintro e w1 ⟨rfl, hb⟩
    have HX1 := hide (HX.out.next hb)
    clear hb c0 c1 c2 c3 c4 c5 c6 c7
    obtain ⟨c0, c1, c2, c3, c4, c5, c6, c7⟩ := HX1.out.cells
    go_wp2_with fail
    refine (HHS.out _ (HI.out.below (HX1.out.2.mono HBW.out)) (Nat.le_trans HBW.out (Nat.le_of_lt HX1.out.lt))).mono ?_
    rintro e w2 ⟨rfl, hb⟩
    have HX2 := hide (HX1.out.next hb)
    clear hb c0 c1 c2 c3 c4 c5 c6 c7
    obtain ⟨c0, c1, c2, c3, c4, c5, c6, c7⟩ := HX2.out.cells
    go_wp2_with fail
    go_ret2
    exact ⟨ret_ii HV.out HC.out, HX2.out.2⟩
  have hFI := fm_is hF
  obtain ⟨q, mul, _, hK, -⟩ := fieldB_open hFI.fld
  have hz : z ∈ zs := of_decide_eq_true hS
  have HEL := hide (fun w' => implEl hK s κ A n c C A' n' c' zs ls hFI z hz w')
  have HC := hide (sz_0 hF hS)
  have HV := hide (show ecV (bytesI s) κ p k g zs C ls z = (elN κ (wdt q) z C : Nat) by unfold ecV lyE; rw [sz_0 hF hS, if_pos rfl, qN_is hK])
  rw [hF] at HFV
  rw [hS] at HHS
  generalize elN κ (wdt q) z C = E at *
  clear hF hS hFI hK hz
  go_enter Try.func16, Try.ntmps16
  go_wp2_with fail
  refine (HFV.out _ (HI.out.below (HX.out.2.mono HBW.out)) (HJ.out.below (HX.out.2.mono HBW.out)) (Nat.le_trans HBW.out (Nat.le_of_lt HX.out.lt))).mono ?_
  rintro e w1 ⟨rfl, hb⟩
  have HX1 := hide (HX.out.next hb)
  clear hb c0 c1 c2 c3 c4 c5 c6 c7
  obtain ⟨c0, c1, c2, c3, c4, c5, c6, c7⟩ := HX1.out.cells
  go_wp2_with fail
  refine (HHS.out _ (HI.out.below (HX1.out.2.mono HBW.out)) (Nat.le_trans HBW.out (Nat.le_of_lt HX1.out.lt))).mono ?_
  rintro e w2 ⟨rfl, hb⟩
  have HX2 := hide (HX1.out.next hb)
  clear hb c0 c1 c2 c3 c4 c5 c6 c7
  obtain ⟨c0, c1, c2, c3, c4, c5, c6, c7⟩ := HX2.out.cells
  go_wp2_with fail
  refine (HEL.out _).mono ?_
  rintro e w5 ⟨rfl, hb⟩
  have HX5 := hide (HX2.out.next hb)
  clear hb c0 c1 c2 c3 c4 c5 c6 c7
  obtain ⟨c0, c1, c2, c3, c4, c5, c6, c7⟩ := HX5.out.cells
  go_wp2_with fail
  go_ret2
  exact ⟨ret_ii HV.out HC.out, HX5.out.2⟩

set_option maxRecDepth 100000 in
set_option maxHeartbeats 8000000 in
theorem specErrorRoom (s : ByteArray) (κ p k g : Int) (A : Option Addr) (n c : Nat) (C : Int) (A' : Option Addr) (n' c' B : Nat) (zs ls : List Int) (z lv : Int) (w : World) (hs : s.size ≤ 1099511627776)
    (hI : Ints .i64 w B A n zs) (hJ : Ints .i64 w B A' n' ls) (hB : B ≤ w.heap.size) (hn : n ≤ 1099511627776) (hn' : n' ≤ 1099511627776) :
    Calls Try.prog 24 #[.agg #[.string s, .int .i64 κ, .int .i64 p, .int .i64 k, .int .i64 g, .slice A n c, .int .i64 C, .slice A' n' c'], .int .i64 z, .int .i64 lv] w (GivesII (erV (bytesI s) κ p k g zs C ls z lv) (loCode (bytesI s) κ p k g zs C ls z lv) w) := by
  have HX := hide (FBox.start w s κ p k g A n c C A' n' c')
  have HI := hide hI
  have HJ := hide hJ
  have HBW := hide hB
  obtain ⟨c0, c1, c2, c3, c4, c5, c6, c7⟩ := HX.out.cells
  have HLO := hide (fun w' hI hJ hB => specLayOf s κ p k g A n c C A' n' c' B zs ls z lv w' hs hI hJ hB hn hn')
  have HVB := hide (erV_bad (bs := bytesI s) (κ := κ) (p := p) (k := k) (g := g) (zs := zs) (C := C) (ls := ls) (z := z) (lv := lv))
  have HVG := hide (erV_good (bs := bytesI s) (κ := κ) (p := p) (k := k) (g := g) (zs := zs) (C := C) (ls := ls) (z := z) (lv := lv))
  clear hI hJ hB
  by_cases h0 : loCode (bytesI s) κ p k g zs C ls z lv = 0
  · obtain ⟨q, mul, W, D, K, Cn, hK, hW, hD, hKK, hCC, hW1, hW9, hDr, hKr, hV⟩ := HVG.out h0
    have HV := hide hV
    have H0 := hide h0
    rw [hD, hKK, hCC] at HLO
    clear hV
    have HLO0 := hide (fun w' hI hJ hB => (HLO.out w' hI hJ hB).mono (fun e w'' h => And.intro (h.1 h0) h.2.2))
    obtain ⟨kN, rfl⟩ : ∃ kN : Nat, K = kN := ⟨K.toNat, by omega⟩
    obtain ⟨hf, hhf⟩ : ∃ hf, kN / 2 = hf := ⟨_, rfl⟩
    have g1 : (kN : Int).tdiv 2 = (hf : Int) := by rw [← hhf, Int.tdiv_eq_ediv_of_nonneg (by omega)]; rfl
    have g2 : (kN : Int) / 2 = (hf : Int) := by rw [← hhf]; rfl
    rw [Int.toNat_natCast, hhf] at HV
    have hf2 : hf ≤ 32 := by omega
    clear hhf
    clear h0 hD hKK hCC hK HVB HVG HLO hW
    go_enter Try.func24, Try.ntmps24
    go_wp2_with fail
    refine (HLO0.out _ (HI.out.below (HX.out.2.mono HBW.out)) (HJ.out.below (HX.out.2.mono HBW.out)) (Nat.le_trans HBW.out (Nat.le_of_lt HX.out.lt))).mono ?_
    rintro e w1 ⟨rfl, hb⟩
    have HX1 := hide (HX.out.next hb)
    clear hb c0 c1 c2 c3 c4 c5 c6 c7
    obtain ⟨w2, hw2⟩ : ∃ w2, w1.alloc (.cells #[.int .i64 p, .int .i64 k, .int .i64 g, .int .i64 D, .int .i64 kN, .int .i64 Cn] 39) = w2 := ⟨_, rfl⟩
    have hb3 : Below w1.heap.size w1 w2 := by rw [← hw2]; exact (Below.refl _ _).alloc (Nat.le_refl _) _
    have HZ := hide (show w2.heap[w1.heap.size]? = some (.cells #[.int .i64 p, .int .i64 k, .int .i64 g, .int .i64 D, .int .i64 kN, .int .i64 Cn] 39 (0, 0)) by rw [← hw2]; exact heap_alloc_new _ _)
    have HX2 := hide (HX1.out.next hb3)
    clear hb3
    obtain ⟨c0, c1, c2, c3, c4, c5, c6, c7⟩ := HX2.out.cells
    obtain ⟨y0, y1, y2, y3, y4, y5, _, _, _, _, _, _⟩ := row6F HZ.out
    go_wp2_with fail
    clear hw2
    go_ret2
    exact ⟨ret_ii HV.out H0.out, HX2.out.2⟩
  · have HV := hide (HVB.out h0)
    have HLO0 := hide (fun w' hI hJ hB => (HLO.out w' hI hJ hB).mono (fun e w'' h => And.intro (h.2.1 h0) h.2.2))
    obtain ⟨cd, hcd⟩ : ∃ cd, loCode (bytesI s) κ p k g zs C ls z lv = cd := ⟨_, rfl⟩
    have HCD := hide hcd
    rw [hcd] at HLO0 h0
    have hne : (cd != 0) = true := by simpa using h0
    clear hcd HVB HVG HLO h0
    go_enter Try.func24, Try.ntmps24
    go_wp2_with fail
    refine (HLO0.out _ (HI.out.below (HX.out.2.mono HBW.out)) (HJ.out.below (HX.out.2.mono HBW.out)) (Nat.le_trans HBW.out (Nat.le_of_lt HX.out.lt))).mono ?_
    rintro e w1 ⟨rfl, hb⟩
    have HX1 := hide (HX.out.next hb)
    have HX2 := hide (HX1.out.alloc (.cells #[.int .i64 0, .int .i64 0, .int .i64 0, .int .i64 0, .int .i64 0, .int .i64 0] 39))
    clear hb c0 c1 c2 c3 c4 c5 c6 c7
    go_wp2_with fail
    go_ret2
    exact ⟨ret_ii HV.out HCD.out, HX2.out.2⟩

set_option maxRecDepth 100000 in
set_option maxHeartbeats 8000000 in
theorem implErrorRoom (s : ByteArray) (κ p k g : Int) (A : Option Addr) (n c : Nat) (C : Int) (A' : Option Addr) (n' c' B : Nat) (zs ls : List Int) (z lv : Int) (w : World) (hs : s.size ≤ 1099511627776)
    (hI : Ints .i64 w B A n zs) (hJ : Ints .i64 w B A' n' ls) (hB : B ≤ w.heap.size) (hn : n ≤ 1099511627776) (hn' : n' ≤ 1099511627776) :
    Calls Try.prog 25 #[.agg #[.string s, .int .i64 κ, .int .i64 p, .int .i64 k, .int .i64 g, .slice A n c, .int .i64 C, .slice A' n' c'], .int .i64 z, .int .i64 lv] w (GivesII (erV (bytesI s) κ p k g zs C ls z lv) (loCode (bytesI s) κ p k g zs C ls z lv) w) := by
  have HX := hide (FBox.start w s κ p k g A n c C A' n' c')
  have HI := hide hI
  have HJ := hide hJ
  have HBW := hide hB
  obtain ⟨c0, c1, c2, c3, c4, c5, c6, c7⟩ := HX.out.cells
  have HLO := hide (fun w' hI hJ hB => implLayOf s κ p k g A n c C A' n' c' B zs ls z lv w' hs hI hJ hB hn hn')
  have HVB := hide (erV_bad (bs := bytesI s) (κ := κ) (p := p) (k := k) (g := g) (zs := zs) (C := C) (ls := ls) (z := z) (lv := lv))
  have HVG := hide (erV_good (bs := bytesI s) (κ := κ) (p := p) (k := k) (g := g) (zs := zs) (C := C) (ls := ls) (z := z) (lv := lv))
  clear hI hJ hB
  by_cases h0 : loCode (bytesI s) κ p k g zs C ls z lv = 0
  · obtain ⟨q, mul, W, D, K, Cn, hK, hW, hD, hKK, hCC, hW1, hW9, hDr, hKr, hV⟩ := HVG.out h0
    have HV := hide hV
    have H0 := hide h0
    rw [hD, hKK, hCC] at HLO
    clear hV
    have HLO0 := hide (fun w' hI hJ hB => (HLO.out w' hI hJ hB).mono (fun e w'' h => And.intro (h.1 h0) h.2.2))
    obtain ⟨kN, rfl⟩ : ∃ kN : Nat, K = kN := ⟨K.toNat, by omega⟩
    obtain ⟨hf, hhf⟩ : ∃ hf, kN / 2 = hf := ⟨_, rfl⟩
    have g1 : (kN : Int).tdiv 2 = (hf : Int) := by rw [← hhf, Int.tdiv_eq_ediv_of_nonneg (by omega)]; rfl
    have g2 : (kN : Int) / 2 = (hf : Int) := by rw [← hhf]; rfl
    rw [Int.toNat_natCast, hhf] at HV
    have hf2 : hf ≤ 32 := by omega
    clear hhf
    clear h0 hD hKK hCC hK HVB HVG HLO hW
    go_enter Try.func25, Try.ntmps25
    go_wp2_with fail
    refine (HLO0.out _ (HI.out.below (HX.out.2.mono HBW.out)) (HJ.out.below (HX.out.2.mono HBW.out)) (Nat.le_trans HBW.out (Nat.le_of_lt HX.out.lt))).mono ?_
    rintro e w1 ⟨rfl, hb⟩
    have HX1 := hide (HX.out.next hb)
    clear hb c0 c1 c2 c3 c4 c5 c6 c7
    obtain ⟨w2, hw2⟩ : ∃ w2, w1.alloc (.cells #[.int .i64 p, .int .i64 k, .int .i64 g, .int .i64 D, .int .i64 kN, .int .i64 Cn] 39) = w2 := ⟨_, rfl⟩
    have hb3 : Below w1.heap.size w1 w2 := by rw [← hw2]; exact (Below.refl _ _).alloc (Nat.le_refl _) _
    have HZ := hide (show w2.heap[w1.heap.size]? = some (.cells #[.int .i64 p, .int .i64 k, .int .i64 g, .int .i64 D, .int .i64 kN, .int .i64 Cn] 39 (0, 0)) by rw [← hw2]; exact heap_alloc_new _ _)
    have HX2 := hide (HX1.out.next hb3)
    clear hb3
    obtain ⟨c0, c1, c2, c3, c4, c5, c6, c7⟩ := HX2.out.cells
    obtain ⟨y0, y1, y2, y3, y4, y5, _, _, _, _, _, _⟩ := row6F HZ.out
    go_wp2_with fail
    clear hw2
    go_ret2
    exact ⟨ret_ii HV.out H0.out, HX2.out.2⟩
  · have HV := hide (HVB.out h0)
    have HLO0 := hide (fun w' hI hJ hB => (HLO.out w' hI hJ hB).mono (fun e w'' h => And.intro (h.2.1 h0) h.2.2))
    obtain ⟨cd, hcd⟩ : ∃ cd, loCode (bytesI s) κ p k g zs C ls z lv = cd := ⟨_, rfl⟩
    have HCD := hide hcd
    rw [hcd] at HLO0 h0
    have hne : (cd != 0) = true := by simpa using h0
    clear hcd HVB HVG HLO h0
    go_enter Try.func25, Try.ntmps25
    go_wp2_with fail
    refine (HLO0.out _ (HI.out.below (HX.out.2.mono HBW.out)) (HJ.out.below (HX.out.2.mono HBW.out)) (Nat.le_trans HBW.out (Nat.le_of_lt HX.out.lt))).mono ?_
    rintro e w1 ⟨rfl, hb⟩
    have HX1 := hide (HX.out.next hb)
    have HX2 := hide (HX1.out.alloc (.cells #[.int .i64 0, .int .i64 0, .int .i64 0, .int .i64 0, .int .i64 0, .int .i64 0] 39))
    clear hb c0 c1 c2 c3 c4 c5 c6 c7
    go_wp2_with fail
    go_ret2
    exact ⟨ret_ii HV.out HCD.out, HX2.out.2⟩

set_option maxRecDepth 100000 in
set_option maxHeartbeats 8000000 in
theorem specRoomOf (s : ByteArray) (κ p k g : Int) (A : Option Addr) (n c : Nat) (C : Int) (A' : Option Addr) (n' c' B : Nat) (zs ls : List Int) (z lv : Int) (w : World) (hs : s.size ≤ 1099511627776)
    (hI : Ints .i64 w B A n zs) (hJ : Ints .i64 w B A' n' ls) (hB : B ≤ w.heap.size) (hn : n ≤ 1099511627776) (hn' : n' ≤ 1099511627776) :
    Calls Try.prog 20 #[.agg #[.string s, .int .i64 κ, .int .i64 p, .int .i64 k, .int .i64 g, .slice A n c, .int .i64 C, .slice A' n' c'], .int .i64 z, .int .i64 lv] w (GivesII (roV (bytesI s) κ p k g zs C ls z lv) (loCode (bytesI s) κ p k g zs C ls z lv) w) := by
  have HX := hide (FBox.start w s κ p k g A n c C A' n' c')
  have HI := hide hI
  have HJ := hide hJ
  have HBW := hide hB
  obtain ⟨c0, c1, c2, c3, c4, c5, c6, c7⟩ := HX.out.cells
  have HLO := hide (fun w' hI hJ hB => specLayOf s κ p k g A n c C A' n' c' B zs ls z lv w' hs hI hJ hB hn hn')
  have HVB := hide (roV_bad (bs := bytesI s) (κ := κ) (p := p) (k := k) (g := g) (zs := zs) (C := C) (ls := ls) (z := z) (lv := lv))
  have HVG := hide (roV_good (bs := bytesI s) (κ := κ) (p := p) (k := k) (g := g) (zs := zs) (C := C) (ls := ls) (z := z) (lv := lv))
  clear hI hJ hB
  by_cases h0 : loCode (bytesI s) κ p k g zs C ls z lv = 0
  · obtain ⟨q, mul, W, D, K, Cn, hK, hW, hD, hKK, hCC, hW1, hW9, hDr, hKr, hV⟩ := HVG.out h0
    have HV := hide hV
    have H0 := hide h0
    rw [hD, hKK, hCC] at HLO
    clear hV
    have HWD := hide (fun w' => show Calls Try.prog 50 #[.agg #[.int .i64 p, .int .i64 k, .int .i64 g]] w' (Gives (.int .i64 (W : Nat)) w') by rw [← hW]; exact specWd hK w')
    obtain ⟨Y, hY⟩ : ∃ Y : Int, Y = (W : Int) := ⟨_, rfl⟩
    rw [← hY] at HWD HV
    have hYr : 1 ≤ Y ∧ Y ≤ 9 := by omega
    have hm : -1000000 ≤ D * Y ∧ D * Y ≤ 1000000 := mul_small hDr hYr
    obtain ⟨R, hR⟩ : ∃ R, D * Y = R := ⟨_, rfl⟩
    rw [hR] at hm HV
    have hwr : IntKind.i64.wrap R = R := IntWalk.i64_in _ ⟨by omega, by omega⟩
    have HLO0 := hide (fun w' hI hJ hB => (HLO.out w' hI hJ hB).mono (fun e w'' h => And.intro (h.1 h0) h.2.2))
    clear h0 hD hKK hCC hK HVB HVG HLO hY hW
    go_enter Try.func20, Try.ntmps20
    go_wp2_with fail
    refine (HLO0.out _ (HI.out.below (HX.out.2.mono HBW.out)) (HJ.out.below (HX.out.2.mono HBW.out)) (Nat.le_trans HBW.out (Nat.le_of_lt HX.out.lt))).mono ?_
    rintro e w1 ⟨rfl, hb⟩
    have HX1 := hide (HX.out.next hb)
    clear hb c0 c1 c2 c3 c4 c5 c6 c7
    obtain ⟨w2, hw2⟩ : ∃ w2, w1.alloc (.cells #[.int .i64 p, .int .i64 k, .int .i64 g, .int .i64 D, .int .i64 K, .int .i64 Cn] 39) = w2 := ⟨_, rfl⟩
    have hb3 : Below w1.heap.size w1 w2 := by rw [← hw2]; exact (Below.refl _ _).alloc (Nat.le_refl _) _
    have HZ := hide (show w2.heap[w1.heap.size]? = some (.cells #[.int .i64 p, .int .i64 k, .int .i64 g, .int .i64 D, .int .i64 K, .int .i64 Cn] 39 (0, 0)) by rw [← hw2]; exact heap_alloc_new _ _)
    have HX2 := hide (HX1.out.next hb3)
    clear hb3
    obtain ⟨c0, c1, c2, c3, c4, c5, c6, c7⟩ := HX2.out.cells
    obtain ⟨y0, y1, y2, y3, y4, y5, _, _, _, _, _, _⟩ := row6F HZ.out
    go_wp2_with fail
    clear hw2
    have HS2 := hide (show ∀ wx, Below w2.heap.size w2 wx → (wx.cell? ⟨w1.heap.size, 0, none⟩ = some (.int .i64 p) ∧ wx.cell? ⟨w1.heap.size, 1, none⟩ = some (.int .i64 k) ∧ wx.cell? ⟨w1.heap.size, 2, none⟩ = some (.int .i64 g) ∧ wx.cell? ⟨w1.heap.size, 3, none⟩ = some (.int .i64 D) ∧ wx.cell? ⟨w1.heap.size, 4, none⟩ = some (.int .i64 K) ∧ wx.cell? ⟨w1.heap.size, 5, none⟩ = some (.int .i64 Cn)) ∧ (wx.cell? ⟨w.heap.size, 0, none⟩ = some (.string s) ∧ wx.cell? ⟨w.heap.size, 1, none⟩ = some (.int .i64 κ) ∧ wx.cell? ⟨w.heap.size, 2, none⟩ = some (.int .i64 p) ∧ wx.cell? ⟨w.heap.size, 3, none⟩ = some (.int .i64 k) ∧ wx.cell? ⟨w.heap.size, 4, none⟩ = some (.int .i64 g) ∧ wx.cell? ⟨w.heap.size, 5, none⟩ = some (.slice A n c) ∧ wx.cell? ⟨w.heap.size, 6, none⟩ = some (.int .i64 C) ∧ wx.cell? ⟨w.heap.size, 7, none⟩ = some (.slice A' n' c')) from fun wx h => have z := row6F (heap_nextF HZ.out h); ⟨⟨z.1, z.2.1, z.2.2.1, z.2.2.2.1, z.2.2.2.2.1, z.2.2.2.2.2.1⟩, (HX2.out.next h).cells⟩)
    refine tail_begin (fun w' => (w'.cell? ⟨w1.heap.size, 0, none⟩ = some (.int .i64 p) ∧ w'.cell? ⟨w1.heap.size, 1, none⟩ = some (.int .i64 k) ∧ w'.cell? ⟨w1.heap.size, 2, none⟩ = some (.int .i64 g) ∧ w'.cell? ⟨w1.heap.size, 3, none⟩ = some (.int .i64 D) ∧ w'.cell? ⟨w1.heap.size, 4, none⟩ = some (.int .i64 K) ∧ w'.cell? ⟨w1.heap.size, 5, none⟩ = some (.int .i64 Cn)) ∧ (w'.cell? ⟨w.heap.size, 0, none⟩ = some (.string s) ∧ w'.cell? ⟨w.heap.size, 1, none⟩ = some (.int .i64 κ) ∧ w'.cell? ⟨w.heap.size, 2, none⟩ = some (.int .i64 p) ∧ w'.cell? ⟨w.heap.size, 3, none⟩ = some (.int .i64 k) ∧ w'.cell? ⟨w.heap.size, 4, none⟩ = some (.int .i64 g) ∧ w'.cell? ⟨w.heap.size, 5, none⟩ = some (.slice A n c) ∧ w'.cell? ⟨w.heap.size, 6, none⟩ = some (.int .i64 C) ∧ w'.cell? ⟨w.heap.size, 7, none⟩ = some (.slice A' n' c'))) 8 (by kernel_rfl) (HS2.out _ (Below.refl w2.heap.size w2).drew) (fun hS' => ?_)
    refine tail_take2 0 rfl (by kernel_rfl) (by kernel_rfl) (by kernel_rfl) (by decide) (fun _ _ _ h => h) (by rfl) (v := ?_) ?_ (by assumption) ?_
    rotate_left 1
    · intro w' hS'; obtain ⟨⟨y0, y1, y2, y3, y4, y5⟩, c0, c1, c2, c3, c4, c5, c6, c7⟩ := hS'; go_simp; try with_reducible rfl
    try simp only [Act.put, List.setIfInBounds_toArray, List.set_cons_zero, List.set_cons_succ]
    refine tail_take2 1 rfl (by kernel_rfl) (by kernel_rfl) (by kernel_rfl) (by decide) (fun _ _ _ h => h) (by rfl) (v := ?_) ?_ (by assumption) ?_
    rotate_left 1
    · intro w' hS'; obtain ⟨⟨y0, y1, y2, y3, y4, y5⟩, c0, c1, c2, c3, c4, c5, c6, c7⟩ := hS'; go_simp; try with_reducible rfl
    try simp only [Act.put, List.setIfInBounds_toArray, List.set_cons_zero, List.set_cons_succ]
    refine tail_take2 2 rfl (by kernel_rfl) (by kernel_rfl) (by kernel_rfl) (by decide) (fun _ _ _ h => h) (by rfl) (v := ?_) ?_ (by assumption) ?_
    rotate_left 1
    · intro w' hS'; obtain ⟨⟨y0, y1, y2, y3, y4, y5⟩, c0, c1, c2, c3, c4, c5, c6, c7⟩ := hS'; go_simp; try with_reducible rfl
    try simp only [Act.put, List.setIfInBounds_toArray, List.set_cons_zero, List.set_cons_succ]
    refine tail_take2 3 rfl (by kernel_rfl) (by kernel_rfl) (by kernel_rfl) (by decide) (fun _ _ _ h => h) (by rfl) (v := ?_) ?_ (by assumption) ?_
    rotate_left 1
    · intro w' hS'; obtain ⟨⟨y0, y1, y2, y3, y4, y5⟩, c0, c1, c2, c3, c4, c5, c6, c7⟩ := hS'; go_simp; try with_reducible rfl
    try simp only [Act.put, List.setIfInBounds_toArray, List.set_cons_zero, List.set_cons_succ]
    refine tail_call 4 rfl (by kernel_rfl) rfl (fun K hK => ?_)
    go_simp
    go_at_call 50; refine (HWD.out _).mono ?_; rintro e w3 ⟨rfl, hb⟩; have HB3 := hide ((Below.refl w2.heap.size w2).drew.trans (hb.mono (Nat.le_refl _))); clear hb
    refine hK.out _ _ (by (try dsimp only); exact HS2.out _ HB3.out) (fun hS' => ?_)
    clear hK K
    try simp only [Act.put, List.setIfInBounds_toArray, List.set_cons_zero, List.set_cons_succ]
    refine tail_take2 5 rfl (by kernel_rfl) (by kernel_rfl) (by kernel_rfl) (by decide) (fun _ _ _ h => h) (by rfl) (v := ?_) ?_ (by assumption) ?_
    rotate_left 1
    · intro w' hS'; obtain ⟨⟨y0, y1, y2, y3, y4, y5⟩, c0, c1, c2, c3, c4, c5, c6, c7⟩ := hS'; go_simp; try with_reducible rfl
    try simp only [Act.put, List.setIfInBounds_toArray, List.set_cons_zero, List.set_cons_succ]
    refine tail_take2 6 rfl (by kernel_rfl) (by kernel_rfl) (by kernel_rfl) (by decide) (fun _ _ _ h => h) (by rfl) (v := ?_) ?_ (by assumption) ?_
    rotate_left 1
    · intro w' hS'; obtain ⟨⟨y0, y1, y2, y3, y4, y5⟩, c0, c1, c2, c3, c4, c5, c6, c7⟩ := hS'; go_simp; try with_reducible rfl
    try simp only [Act.put, List.setIfInBounds_toArray, List.set_cons_zero, List.set_cons_succ]
    refine tail_take2 7 rfl (by kernel_rfl) (by kernel_rfl) (by kernel_rfl) (by decide) (fun _ _ _ h => h) (by rfl) (v := ?_) ?_ (by assumption) ?_
    rotate_left 1
    · intro w' hS'; obtain ⟨⟨y0, y1, y2, y3, y4, y5⟩, c0, c1, c2, c3, c4, c5, c6, c7⟩ := hS'; go_simp; try with_reducible rfl
    try simp only [Act.put, List.setIfInBounds_toArray, List.set_cons_zero, List.set_cons_succ]
    refine tail_end (by kernel_rfl) ?_
    go_wp2_with fail
    go_ret2
    exact ⟨ret_ii HV.out H0.out, (HX2.out.next HB3.out).2⟩
  · have HV := hide (HVB.out h0)
    have HLO0 := hide (fun w' hI hJ hB => (HLO.out w' hI hJ hB).mono (fun e w'' h => And.intro (h.2.1 h0) h.2.2))
    obtain ⟨cd, hcd⟩ : ∃ cd, loCode (bytesI s) κ p k g zs C ls z lv = cd := ⟨_, rfl⟩
    have HCD := hide hcd
    rw [hcd] at HLO0 h0
    have hne : (cd != 0) = true := by simpa using h0
    clear hcd HVB HVG HLO h0
    go_enter Try.func20, Try.ntmps20
    go_wp2_with fail
    refine (HLO0.out _ (HI.out.below (HX.out.2.mono HBW.out)) (HJ.out.below (HX.out.2.mono HBW.out)) (Nat.le_trans HBW.out (Nat.le_of_lt HX.out.lt))).mono ?_
    rintro e w1 ⟨rfl, hb⟩
    have HX1 := hide (HX.out.next hb)
    have HX2 := hide (HX1.out.alloc (.cells #[.int .i64 0, .int .i64 0, .int .i64 0, .int .i64 0, .int .i64 0, .int .i64 0] 39))
    clear hb c0 c1 c2 c3 c4 c5 c6 c7
    go_wp2_with fail
    go_ret2
    exact ⟨ret_ii HV.out HCD.out, HX2.out.2⟩

set_option maxRecDepth 100000 in
set_option maxHeartbeats 8000000 in
theorem implRoomOf (s : ByteArray) (κ p k g : Int) (A : Option Addr) (n c : Nat) (C : Int) (A' : Option Addr) (n' c' B : Nat) (zs ls : List Int) (z lv : Int) (w : World) (hs : s.size ≤ 1099511627776)
    (hI : Ints .i64 w B A n zs) (hJ : Ints .i64 w B A' n' ls) (hB : B ≤ w.heap.size) (hn : n ≤ 1099511627776) (hn' : n' ≤ 1099511627776) :
    Calls Try.prog 21 #[.agg #[.string s, .int .i64 κ, .int .i64 p, .int .i64 k, .int .i64 g, .slice A n c, .int .i64 C, .slice A' n' c'], .int .i64 z, .int .i64 lv] w (GivesII (roV (bytesI s) κ p k g zs C ls z lv) (loCode (bytesI s) κ p k g zs C ls z lv) w) := by
  have HX := hide (FBox.start w s κ p k g A n c C A' n' c')
  have HI := hide hI
  have HJ := hide hJ
  have HBW := hide hB
  obtain ⟨c0, c1, c2, c3, c4, c5, c6, c7⟩ := HX.out.cells
  have HLO := hide (fun w' hI hJ hB => implLayOf s κ p k g A n c C A' n' c' B zs ls z lv w' hs hI hJ hB hn hn')
  have HVB := hide (roV_bad (bs := bytesI s) (κ := κ) (p := p) (k := k) (g := g) (zs := zs) (C := C) (ls := ls) (z := z) (lv := lv))
  have HVG := hide (roV_good (bs := bytesI s) (κ := κ) (p := p) (k := k) (g := g) (zs := zs) (C := C) (ls := ls) (z := z) (lv := lv))
  clear hI hJ hB
  by_cases h0 : loCode (bytesI s) κ p k g zs C ls z lv = 0
  · obtain ⟨q, mul, W, D, K, Cn, hK, hW, hD, hKK, hCC, hW1, hW9, hDr, hKr, hV⟩ := HVG.out h0
    have HV := hide hV
    have H0 := hide h0
    rw [hD, hKK, hCC] at HLO
    clear hV
    have HWD := hide (fun w' => show Calls Try.prog 51 #[.agg #[.int .i64 p, .int .i64 k, .int .i64 g]] w' (Gives (.int .i64 (W : Nat)) w') by rw [← hW]; exact implWd hK w')
    obtain ⟨Y, hY⟩ : ∃ Y : Int, Y = (W : Int) := ⟨_, rfl⟩
    rw [← hY] at HWD HV
    have hYr : 1 ≤ Y ∧ Y ≤ 9 := by omega
    have hm : -1000000 ≤ D * Y ∧ D * Y ≤ 1000000 := mul_small hDr hYr
    obtain ⟨R, hR⟩ : ∃ R, D * Y = R := ⟨_, rfl⟩
    rw [hR] at hm HV
    have hwr : IntKind.i64.wrap R = R := IntWalk.i64_in _ ⟨by omega, by omega⟩
    have HLO0 := hide (fun w' hI hJ hB => (HLO.out w' hI hJ hB).mono (fun e w'' h => And.intro (h.1 h0) h.2.2))
    clear h0 hD hKK hCC hK HVB HVG HLO hY hW
    go_enter Try.func21, Try.ntmps21
    go_wp2_with fail
    refine (HLO0.out _ (HI.out.below (HX.out.2.mono HBW.out)) (HJ.out.below (HX.out.2.mono HBW.out)) (Nat.le_trans HBW.out (Nat.le_of_lt HX.out.lt))).mono ?_
    rintro e w1 ⟨rfl, hb⟩
    have HX1 := hide (HX.out.next hb)
    clear hb c0 c1 c2 c3 c4 c5 c6 c7
    obtain ⟨w2, hw2⟩ : ∃ w2, w1.alloc (.cells #[.int .i64 p, .int .i64 k, .int .i64 g, .int .i64 D, .int .i64 K, .int .i64 Cn] 39) = w2 := ⟨_, rfl⟩
    have hb3 : Below w1.heap.size w1 w2 := by rw [← hw2]; exact (Below.refl _ _).alloc (Nat.le_refl _) _
    have HZ := hide (show w2.heap[w1.heap.size]? = some (.cells #[.int .i64 p, .int .i64 k, .int .i64 g, .int .i64 D, .int .i64 K, .int .i64 Cn] 39 (0, 0)) by rw [← hw2]; exact heap_alloc_new _ _)
    have HX2 := hide (HX1.out.next hb3)
    clear hb3
    obtain ⟨c0, c1, c2, c3, c4, c5, c6, c7⟩ := HX2.out.cells
    obtain ⟨y0, y1, y2, y3, y4, y5, _, _, _, _, _, _⟩ := row6F HZ.out
    go_wp2_with fail
    clear hw2
    have HS2 := hide (show ∀ wx, Below w2.heap.size w2 wx → (wx.cell? ⟨w1.heap.size, 0, none⟩ = some (.int .i64 p) ∧ wx.cell? ⟨w1.heap.size, 1, none⟩ = some (.int .i64 k) ∧ wx.cell? ⟨w1.heap.size, 2, none⟩ = some (.int .i64 g) ∧ wx.cell? ⟨w1.heap.size, 3, none⟩ = some (.int .i64 D) ∧ wx.cell? ⟨w1.heap.size, 4, none⟩ = some (.int .i64 K) ∧ wx.cell? ⟨w1.heap.size, 5, none⟩ = some (.int .i64 Cn)) ∧ (wx.cell? ⟨w.heap.size, 0, none⟩ = some (.string s) ∧ wx.cell? ⟨w.heap.size, 1, none⟩ = some (.int .i64 κ) ∧ wx.cell? ⟨w.heap.size, 2, none⟩ = some (.int .i64 p) ∧ wx.cell? ⟨w.heap.size, 3, none⟩ = some (.int .i64 k) ∧ wx.cell? ⟨w.heap.size, 4, none⟩ = some (.int .i64 g) ∧ wx.cell? ⟨w.heap.size, 5, none⟩ = some (.slice A n c) ∧ wx.cell? ⟨w.heap.size, 6, none⟩ = some (.int .i64 C) ∧ wx.cell? ⟨w.heap.size, 7, none⟩ = some (.slice A' n' c')) from fun wx h => have z := row6F (heap_nextF HZ.out h); ⟨⟨z.1, z.2.1, z.2.2.1, z.2.2.2.1, z.2.2.2.2.1, z.2.2.2.2.2.1⟩, (HX2.out.next h).cells⟩)
    refine tail_begin (fun w' => (w'.cell? ⟨w1.heap.size, 0, none⟩ = some (.int .i64 p) ∧ w'.cell? ⟨w1.heap.size, 1, none⟩ = some (.int .i64 k) ∧ w'.cell? ⟨w1.heap.size, 2, none⟩ = some (.int .i64 g) ∧ w'.cell? ⟨w1.heap.size, 3, none⟩ = some (.int .i64 D) ∧ w'.cell? ⟨w1.heap.size, 4, none⟩ = some (.int .i64 K) ∧ w'.cell? ⟨w1.heap.size, 5, none⟩ = some (.int .i64 Cn)) ∧ (w'.cell? ⟨w.heap.size, 0, none⟩ = some (.string s) ∧ w'.cell? ⟨w.heap.size, 1, none⟩ = some (.int .i64 κ) ∧ w'.cell? ⟨w.heap.size, 2, none⟩ = some (.int .i64 p) ∧ w'.cell? ⟨w.heap.size, 3, none⟩ = some (.int .i64 k) ∧ w'.cell? ⟨w.heap.size, 4, none⟩ = some (.int .i64 g) ∧ w'.cell? ⟨w.heap.size, 5, none⟩ = some (.slice A n c) ∧ w'.cell? ⟨w.heap.size, 6, none⟩ = some (.int .i64 C) ∧ w'.cell? ⟨w.heap.size, 7, none⟩ = some (.slice A' n' c'))) 8 (by kernel_rfl) (HS2.out _ (Below.refl w2.heap.size w2).drew) (fun hS' => ?_)
    refine tail_take2 0 rfl (by kernel_rfl) (by kernel_rfl) (by kernel_rfl) (by decide) (fun _ _ _ h => h) (by rfl) (v := ?_) ?_ (by assumption) ?_
    rotate_left 1
    · intro w' hS'; obtain ⟨⟨y0, y1, y2, y3, y4, y5⟩, c0, c1, c2, c3, c4, c5, c6, c7⟩ := hS'; go_simp; try with_reducible rfl
    try simp only [Act.put, List.setIfInBounds_toArray, List.set_cons_zero, List.set_cons_succ]
    refine tail_take2 1 rfl (by kernel_rfl) (by kernel_rfl) (by kernel_rfl) (by decide) (fun _ _ _ h => h) (by rfl) (v := ?_) ?_ (by assumption) ?_
    rotate_left 1
    · intro w' hS'; obtain ⟨⟨y0, y1, y2, y3, y4, y5⟩, c0, c1, c2, c3, c4, c5, c6, c7⟩ := hS'; go_simp; try with_reducible rfl
    try simp only [Act.put, List.setIfInBounds_toArray, List.set_cons_zero, List.set_cons_succ]
    refine tail_take2 2 rfl (by kernel_rfl) (by kernel_rfl) (by kernel_rfl) (by decide) (fun _ _ _ h => h) (by rfl) (v := ?_) ?_ (by assumption) ?_
    rotate_left 1
    · intro w' hS'; obtain ⟨⟨y0, y1, y2, y3, y4, y5⟩, c0, c1, c2, c3, c4, c5, c6, c7⟩ := hS'; go_simp; try with_reducible rfl
    try simp only [Act.put, List.setIfInBounds_toArray, List.set_cons_zero, List.set_cons_succ]
    refine tail_take2 3 rfl (by kernel_rfl) (by kernel_rfl) (by kernel_rfl) (by decide) (fun _ _ _ h => h) (by rfl) (v := ?_) ?_ (by assumption) ?_
    rotate_left 1
    · intro w' hS'; obtain ⟨⟨y0, y1, y2, y3, y4, y5⟩, c0, c1, c2, c3, c4, c5, c6, c7⟩ := hS'; go_simp; try with_reducible rfl
    try simp only [Act.put, List.setIfInBounds_toArray, List.set_cons_zero, List.set_cons_succ]
    refine tail_call 4 rfl (by kernel_rfl) rfl (fun K hK => ?_)
    go_simp
    go_at_call 51; refine (HWD.out _).mono ?_; rintro e w3 ⟨rfl, hb⟩; have HB3 := hide ((Below.refl w2.heap.size w2).drew.trans (hb.mono (Nat.le_refl _))); clear hb
    refine hK.out _ _ (by (try dsimp only); exact HS2.out _ HB3.out) (fun hS' => ?_)
    clear hK K
    try simp only [Act.put, List.setIfInBounds_toArray, List.set_cons_zero, List.set_cons_succ]
    refine tail_take2 5 rfl (by kernel_rfl) (by kernel_rfl) (by kernel_rfl) (by decide) (fun _ _ _ h => h) (by rfl) (v := ?_) ?_ (by assumption) ?_
    rotate_left 1
    · intro w' hS'; obtain ⟨⟨y0, y1, y2, y3, y4, y5⟩, c0, c1, c2, c3, c4, c5, c6, c7⟩ := hS'; go_simp; try with_reducible rfl
    try simp only [Act.put, List.setIfInBounds_toArray, List.set_cons_zero, List.set_cons_succ]
    refine tail_take2 6 rfl (by kernel_rfl) (by kernel_rfl) (by kernel_rfl) (by decide) (fun _ _ _ h => h) (by rfl) (v := ?_) ?_ (by assumption) ?_
    rotate_left 1
    · intro w' hS'; obtain ⟨⟨y0, y1, y2, y3, y4, y5⟩, c0, c1, c2, c3, c4, c5, c6, c7⟩ := hS'; go_simp; try with_reducible rfl
    try simp only [Act.put, List.setIfInBounds_toArray, List.set_cons_zero, List.set_cons_succ]
    refine tail_take2 7 rfl (by kernel_rfl) (by kernel_rfl) (by kernel_rfl) (by decide) (fun _ _ _ h => h) (by rfl) (v := ?_) ?_ (by assumption) ?_
    rotate_left 1
    · intro w' hS'; obtain ⟨⟨y0, y1, y2, y3, y4, y5⟩, c0, c1, c2, c3, c4, c5, c6, c7⟩ := hS'; go_simp; try with_reducible rfl
    try simp only [Act.put, List.setIfInBounds_toArray, List.set_cons_zero, List.set_cons_succ]
    refine tail_end (by kernel_rfl) ?_
    go_wp2_with fail
    go_ret2
    exact ⟨ret_ii HV.out H0.out, (HX2.out.next HB3.out).2⟩
  · have HV := hide (HVB.out h0)
    have HLO0 := hide (fun w' hI hJ hB => (HLO.out w' hI hJ hB).mono (fun e w'' h => And.intro (h.2.1 h0) h.2.2))
    obtain ⟨cd, hcd⟩ : ∃ cd, loCode (bytesI s) κ p k g zs C ls z lv = cd := ⟨_, rfl⟩
    have HCD := hide hcd
    rw [hcd] at HLO0 h0
    have hne : (cd != 0) = true := by simpa using h0
    clear hcd HVB HVG HLO h0
    go_enter Try.func21, Try.ntmps21
    go_wp2_with fail
    refine (HLO0.out _ (HI.out.below (HX.out.2.mono HBW.out)) (HJ.out.below (HX.out.2.mono HBW.out)) (Nat.le_trans HBW.out (Nat.le_of_lt HX.out.lt))).mono ?_
    rintro e w1 ⟨rfl, hb⟩
    have HX1 := hide (HX.out.next hb)
    have HX2 := hide (HX1.out.alloc (.cells #[.int .i64 0, .int .i64 0, .int .i64 0, .int .i64 0, .int .i64 0, .int .i64 0] 39))
    clear hb c0 c1 c2 c3 c4 c5 c6 c7
    go_wp2_with fail
    go_ret2
    exact ⟨ret_ii HV.out HCD.out, HX2.out.2⟩

-- END BOTH
theorem bothFElementCount (s : ByteArray) (κ p k g C : Int) (zs ls : List Int) (z : Int) (hs : s.size ≤ 1099511627776) (hz : zs.length ≤ 1048576) (hl : ls.length ≤ 1048576) : ∃ (v cd : Int),
    (∀ (A : Option Addr) (n c : Nat) (A' : Option Addr) (n' c' : Nat) (w : World), Ints .i64 w w.heap.size A n zs → Ints .i64 w w.heap.size A' n' ls → Calls Try.prog 15 #[.agg #[.string s, .int .i64 κ, .int .i64 p, .int .i64 k, .int .i64 g, .slice A n c, .int .i64 C, .slice A' n' c'], .int .i64 z] w (GivesII v cd w)) ∧
    (∀ (A : Option Addr) (n c : Nat) (A' : Option Addr) (n' c' : Nat) (w : World), Ints .i64 w w.heap.size A n zs → Ints .i64 w w.heap.size A' n' ls → Calls Try.prog 16 #[.agg #[.string s, .int .i64 κ, .int .i64 p, .int .i64 k, .int .i64 g, .slice A n c, .int .i64 C, .slice A' n' c'], .int .i64 z] w (GivesII v cd w)) :=
  ⟨_, _, fun A n c A' n' c' w hI hJ => specElC s κ p k g A n c C A' n' c' w.heap.size zs ls z w hs hI hJ (Nat.le_refl _) (by rw [← hI.len]; omega) (by rw [← hJ.len]; omega), fun A n c A' n' c' w hI hJ => implElC s κ p k g A n c C A' n' c' w.heap.size zs ls z w hs hI hJ (Nat.le_refl _) (by rw [← hI.len]; omega) (by rw [← hJ.len]; omega)⟩
theorem bothFRoomOf (s : ByteArray) (κ p k g C : Int) (zs ls : List Int) (z lv : Int) (hs : s.size ≤ 1099511627776) (hz : zs.length ≤ 1048576) (hl : ls.length ≤ 1048576) : ∃ (v cd : Int),
    (∀ (A : Option Addr) (n c : Nat) (A' : Option Addr) (n' c' : Nat) (w : World), Ints .i64 w w.heap.size A n zs → Ints .i64 w w.heap.size A' n' ls → Calls Try.prog 20 #[.agg #[.string s, .int .i64 κ, .int .i64 p, .int .i64 k, .int .i64 g, .slice A n c, .int .i64 C, .slice A' n' c'], .int .i64 z, .int .i64 lv] w (GivesII v cd w)) ∧
    (∀ (A : Option Addr) (n c : Nat) (A' : Option Addr) (n' c' : Nat) (w : World), Ints .i64 w w.heap.size A n zs → Ints .i64 w w.heap.size A' n' ls → Calls Try.prog 21 #[.agg #[.string s, .int .i64 κ, .int .i64 p, .int .i64 k, .int .i64 g, .slice A n c, .int .i64 C, .slice A' n' c'], .int .i64 z, .int .i64 lv] w (GivesII v cd w)) :=
  ⟨_, _, fun A n c A' n' c' w hI hJ => specRoomOf s κ p k g A n c C A' n' c' w.heap.size zs ls z lv w hs hI hJ (Nat.le_refl _) (by rw [← hI.len]; omega) (by rw [← hJ.len]; omega), fun A n c A' n' c' w hI hJ => implRoomOf s κ p k g A n c C A' n' c' w.heap.size zs ls z lv w hs hI hJ (Nat.le_refl _) (by rw [← hI.len]; omega) (by rw [← hJ.len]; omega)⟩
theorem bothFErrorRoom (s : ByteArray) (κ p k g C : Int) (zs ls : List Int) (z lv : Int) (hs : s.size ≤ 1099511627776) (hz : zs.length ≤ 1048576) (hl : ls.length ≤ 1048576) : ∃ (v cd : Int),
    (∀ (A : Option Addr) (n c : Nat) (A' : Option Addr) (n' c' : Nat) (w : World), Ints .i64 w w.heap.size A n zs → Ints .i64 w w.heap.size A' n' ls → Calls Try.prog 24 #[.agg #[.string s, .int .i64 κ, .int .i64 p, .int .i64 k, .int .i64 g, .slice A n c, .int .i64 C, .slice A' n' c'], .int .i64 z, .int .i64 lv] w (GivesII v cd w)) ∧
    (∀ (A : Option Addr) (n c : Nat) (A' : Option Addr) (n' c' : Nat) (w : World), Ints .i64 w w.heap.size A n zs → Ints .i64 w w.heap.size A' n' ls → Calls Try.prog 25 #[.agg #[.string s, .int .i64 κ, .int .i64 p, .int .i64 k, .int .i64 g, .slice A n c, .int .i64 C, .slice A' n' c'], .int .i64 z, .int .i64 lv] w (GivesII v cd w)) :=
  ⟨_, _, fun A n c A' n' c' w hI hJ => specErrorRoom s κ p k g A n c C A' n' c' w.heap.size zs ls z lv w hs hI hJ (Nat.le_refl _) (by rw [← hI.len]; omega) (by rw [← hJ.len]; omega), fun A n c A' n' c' w hI hJ => implErrorRoom s κ p k g A n c C A' n' c' w.heap.size zs ls z lv w hs hI hJ (Nat.le_refl _) (by rw [← hI.len]; omega) (by rw [← hJ.len]; omega)⟩
theorem bothFLayoutOf (s : ByteArray) (κ p k g C : Int) (zs ls : List Int) (z lv : Int) (hs : s.size ≤ 1099511627776) (hz : zs.length ≤ 1048576) (hl : ls.length ≤ 1048576) : ∃ (v0 v1 v2 v3 v4 v5 cd : Int),
    (∀ (A : Option Addr) (n c : Nat) (A' : Option Addr) (n' c' : Nat) (w : World), Ints .i64 w w.heap.size A n zs → Ints .i64 w w.heap.size A' n' ls → Calls Try.prog 17 #[.agg #[.string s, .int .i64 κ, .int .i64 p, .int .i64 k, .int .i64 g, .slice A n c, .int .i64 C, .slice A' n' c'], .int .i64 z, .int .i64 lv] w (Gives (.tuple #[.agg #[.int .i64 v0, .int .i64 v1, .int .i64 v2, .int .i64 v3, .int .i64 v4, .int .i64 v5], .int .i64 cd]) w)) ∧
    (∀ (A : Option Addr) (n c : Nat) (A' : Option Addr) (n' c' : Nat) (w : World), Ints .i64 w w.heap.size A n zs → Ints .i64 w w.heap.size A' n' ls → Calls Try.prog 18 #[.agg #[.string s, .int .i64 κ, .int .i64 p, .int .i64 k, .int .i64 g, .slice A n c, .int .i64 C, .slice A' n' c'], .int .i64 z, .int .i64 lv] w (Gives (.tuple #[.agg #[.int .i64 v0, .int .i64 v1, .int .i64 v2, .int .i64 v3, .int .i64 v4, .int .i64 v5], .int .i64 cd]) w)) := by
  by_cases h : loCode (bytesI s) κ p k g zs C ls z lv = 0
  · refine ⟨p, k, g, lyD κ p k C z ls lv, lyK κ p k C z ls lv, lyC κ p k C z, 0, fun A n c A' n' c' w hI hJ => ?_, fun A n c A' n' c' w hI hJ => ?_⟩
    · exact (specLayOf s κ p k g A n c C A' n' c' w.heap.size zs ls z lv w hs hI hJ (Nat.le_refl _) (by rw [← hI.len]; omega) (by rw [← hJ.len]; omega)).mono fun x w' hg => ⟨hg.1 h, hg.2.2⟩
    · exact (implLayOf s κ p k g A n c C A' n' c' w.heap.size zs ls z lv w hs hI hJ (Nat.le_refl _) (by rw [← hI.len]; omega) (by rw [← hJ.len]; omega)).mono fun x w' hg => ⟨hg.1 h, hg.2.2⟩
  · refine ⟨0, 0, 0, 0, 0, 0, loCode (bytesI s) κ p k g zs C ls z lv, fun A n c A' n' c' w hI hJ => ?_, fun A n c A' n' c' w hI hJ => ?_⟩
    · exact (specLayOf s κ p k g A n c C A' n' c' w.heap.size zs ls z lv w hs hI hJ (Nat.le_refl _) (by rw [← hI.len]; omega) (by rw [← hJ.len]; omega)).mono fun x w' hg => ⟨hg.2.1 h, hg.2.2⟩
    · exact (implLayOf s κ p k g A n c C A' n' c' w.heap.size zs ls z lv w hs hI hJ (Nat.le_refl _) (by rw [← hI.len]; omega) (by rw [← hJ.len]; omega)).mono fun x w' hg => ⟨hg.2.1 h, hg.2.2⟩
end Go.Proofs.Ytncgeoliboidhaa
