/-
  SmallestSize: the numbers, and the program.
  SmallestSize: the model; both sides.
  The key of FnSmallest: a size up to the smallest has room if and only if it is the smallest.
  Condition: as each statement says.
-/
import Derived.Test.YtncgeoliboidhaaGreatFmBoth1
import Derived.Test.YtncgeoliboidhaaGreatVS
namespace Go.Proofs.YtncgeoliboidhaaGreat
open Go.RowKit
set_option linter.unusedSimpArgs false
set_option linter.unusedVariables false

/-- How much room a message needs. -/
def needN (p k : Int) (m : ByteArray) : Nat := (psV (wdt (qN p k)) m).toNat
/-- Whether a size has room for so many elements. -/
def okSz (κ p k g C : Int) (ls : List Int) (lv : Int) (nd : Nat) (z : Int) : Bool := layB p k g (lyD κ p k C z ls lv) (lyK κ p k C z ls lv) (lyC κ p k C z) && decide ((nd : Int) ≤ lyD κ p k C z ls lv)
def ssC (bs : List Int) (κ p k g : Int) (zs : List Int) (C : Int) (ls : List Int) (lv : Int) (m : ByteArray) : Int :=
  if fmB bs κ p k g zs C ls = false then 1 else if idxOk ls lv = false then 2 else if 400 < m.size then 3 else match zs.find? (okSz κ p k g C ls lv (needN p k m)) with | none => 4 | some _ => 0
def ssV (bs : List Int) (κ p k g : Int) (zs : List Int) (C : Int) (ls : List Int) (lv : Int) (m : ByteArray) : Int :=
  if fmB bs κ p k g zs C ls = false then 0 else if idxOk ls lv = false then 0 else if 400 < m.size then 0 else match zs.find? (okSz κ p k g C ls lv (needN p k m)) with | none => 0 | some z => z
section
variable {bs : List Int} {κ p k g : Int} {zs : List Int} {C : Int} {ls : List Int} {lv : Int} {m : ByteArray}
theorem ss_1 (h : fmB bs κ p k g zs C ls = false) : ssC bs κ p k g zs C ls lv m = 1 ∧ ssV bs κ p k g zs C ls lv m = 0 := ⟨by unfold ssC; rw [if_pos h], by unfold ssV; rw [if_pos h]⟩
theorem ss_2 (h : fmB bs κ p k g zs C ls = true) (h2 : idxOk ls lv = false) : ssC bs κ p k g zs C ls lv m = 2 ∧ ssV bs κ p k g zs C ls lv m = 0 :=
  ⟨by unfold ssC; rw [if_neg (by rw [h]; decide), if_pos h2], by unfold ssV; rw [if_neg (by rw [h]; decide), if_pos h2]⟩
theorem ss_3 (h : fmB bs κ p k g zs C ls = true) (h2 : idxOk ls lv = true) (h3 : 400 < m.size) : ssC bs κ p k g zs C ls lv m = 3 ∧ ssV bs κ p k g zs C ls lv m = 0 :=
  ⟨by unfold ssC; rw [if_neg (by rw [h]; decide), if_neg (by rw [h2]; decide), if_pos h3], by unfold ssV; rw [if_neg (by rw [h]; decide), if_neg (by rw [h2]; decide), if_pos h3]⟩
theorem ss_none (h : fmB bs κ p k g zs C ls = true) (h2 : idxOk ls lv = true) (h3 : ¬ 400 < m.size) (h4 : zs.find? (okSz κ p k g C ls lv (needN p k m)) = none) : ssV bs κ p k g zs C ls lv m = 0 ∧ ssC bs κ p k g zs C ls lv m = 4 :=
  ⟨by unfold ssV; rw [if_neg (by rw [h]; decide), if_neg (by rw [h2]; decide), if_neg h3, h4], by unfold ssC; rw [if_neg (by rw [h]; decide), if_neg (by rw [h2]; decide), if_neg h3, h4]⟩
theorem ss_yes (h : fmB bs κ p k g zs C ls = true) (h2 : idxOk ls lv = true) (h3 : ¬ 400 < m.size) {z : Int} (h4 : zs.find? (okSz κ p k g C ls lv (needN p k m)) = some z) : ssV bs κ p k g zs C ls lv m = z ∧ ssC bs κ p k g zs C ls lv m = 0 :=
  ⟨by unfold ssV; rw [if_neg (by rw [h]; decide), if_neg (by rw [h2]; decide), if_neg h3, h4], by unfold ssC; rw [if_neg (by rw [h]; decide), if_neg (by rw [h2]; decide), if_neg h3, h4]⟩
end
theorem find_next {f : Int → Bool} {zs : List Int} {j : Nat} {z : Int} (h : (zs.drop j).find? f = zs.find? f) (hz : zs[j]? = some z) (hf : f z = false) : (zs.drop (j + 1)).find? f = zs.find? f := by
  rw [← h, drop_atF hz, List.find?_cons, hf]
theorem find_here {f : Int → Bool} {zs : List Int} {j : Nat} {z : Int} (h : (zs.drop j).find? f = zs.find? f) (hz : zs[j]? = some z) (hf : f z = true) : zs.find? f = some z := by
  rw [← h, drop_atF hz, List.find?_cons, hf]
theorem ly_all {κ p k g : Int} {zs : List Int} {C : Int} {ls : List Int} (hFI : FmIs κ p k g zs C ls) {q : Nat} {mul : Nat → Nat → Nat} (hK : Kd p k g q mul) {z : Int} (hz : z ∈ zs) {l0 P : Nat} (hlP : lvP ls (l0 : Int) = P) :
    lyD κ p k C z ls (l0 : Int) = loD (elN κ (wdt q) z C) (q - 1) P ∧ lyK κ p k C z ls (l0 : Int) = (loK (elN κ (wdt q) z C) (q - 1) P : Nat) ∧ lyC κ p k C z = (loC (elN κ (wdt q) z C) (q - 1) : Nat) ∧
    (P ≤ 80 → (-100000 ≤ lyD κ p k C z ls (l0 : Int) ∧ lyD κ p k C z ls (l0 : Int) ≤ 100000) ∧ -100000 ≤ lyC κ p k C z ∧ lyC κ p k C z ≤ 100000) := by
  obtain ⟨hq8, hq256⟩ := fm_q hFI.two hK
  obtain ⟨hw1, hw9, -, -⟩ := wdt_is hK.big.1 hK.big.2
  have hel := el_le hFI hw1 hw9 hz
  have eD : lyD κ p k C z ls (l0 : Int) = loD (elN κ (wdt q) z C) (q - 1) P := by unfold lyD lyE; rw [hlP, qN_is hK]
  have eK : lyK κ p k C z ls (l0 : Int) = (loK (elN κ (wdt q) z C) (q - 1) P : Nat) := by unfold lyK lyE; rw [hlP, qN_is hK]
  have eC : lyC κ p k C z = (loC (elN κ (wdt q) z C) (q - 1) : Nat) := by unfold lyC lyE; rw [qN_is hK]
  refine ⟨eD, eK, eC, fun hP => ?_⟩
  obtain ⟨_, _, _, _, _, _, _, -, -, -, -, -, -, -, -, -, hDd, r1, r2, -, -, -, -, -, -, r9⟩ := lo_nums (E := elN κ (wdt q) z C) (M := q - 1) (P := P) hel.1 hel.2 (by omega) (by omega) hP
  have hc1408 := (lo_c (E := elN κ (wdt q) z C) (M := q - 1) hel.1 (by omega)).2
  rw [eD, eC, hDd]
  omega
/-- While the sizes are looked through. -/
def SsRel (w : World) (κ p k g C : Int) (ls : List Int) (lv : Int) (nd n : Nat) (zs : List Int) (s : ByteArray) (A : Option Addr) (c : Nat) (A' : Option Addr) (n' c' : Nat) (i : Value) (wr : World) : Prop :=
  ∃ j : Nat, j ≤ n ∧ i = .int .i64 j ∧ Hid ((zs.drop j).find? (okSz κ p k g C ls lv nd) = zs.find? (okSz κ p k g C ls lv nd)) ∧ FBox w wr s κ p k g A n c C A' n' c'
-- IMPL
set_option maxRecDepth 100000 in
set_option maxHeartbeats 16000000 in
theorem implSmall (s : ByteArray) (κ p k g : Int) (A : Option Addr) (n c : Nat) (C : Int) (A' : Option Addr) (n' c' B : Nat) (zs ls : List Int) (lv : Int) (m : ByteArray) (w : World) (hs : s.size ≤ 1099511627776) (hm : m.size ≤ 1099511627776)
    (hI : Ints .i64 w B A n zs) (hJ : Ints .i64 w B A' n' ls) (hB : B ≤ w.heap.size) (hn : n ≤ 1099511627776) (hn' : n' ≤ 1099511627776) :
    Calls Tryz.prog 7 #[.agg #[.string s, .int .i64 κ, .int .i64 p, .int .i64 k, .int .i64 g, .slice A n c, .int .i64 C, .slice A' n' c'], .int .i64 lv, .string m] w (GivesII (ssV (bytesI s) κ p k g zs C ls lv m) (ssC (bytesI s) κ p k g zs C ls lv m) w) := by
  have HX := hide (FBox.start w s κ p k g A n c C A' n' c')
  have HI := hide hI
  have HJ := hide hJ
  have HBW := hide hB
  have HLN := hide hI.len
  have HJL := hide hJ.len
  have HJA := hide (fun (l0 : Nat) (h : l0 < n') => hJ.at_ h)
  clear hI hJ hB
  obtain ⟨c0, c1, c2, c3, c4, c5, c6, c7⟩ := HX.out.cells
  have HFV := hide (fun w' hI hJ hB => implFmValid s κ p k g A n c C A' n' c' B zs ls w' hs hI hJ hB hn hn')
  have HHL := hide (fun w' => implHasLv s κ p k g A n c C A' n' c' ls HJL.out lv hn' w')
  rcases hF : fmB (bytesI s) κ p k g zs C ls with _ | _
  · have HV := hide (ss_1 (lv := lv) (m := m) hF)
    rw [hF] at HFV
    clear hF
    go_enter Tryz.func7, Tryz.ntmps7
    go_wp2_with fail
    refine (HFV.out _ (HI.out.below (HX.out.2.mono HBW.out)) (HJ.out.below (HX.out.2.mono HBW.out)) (Nat.le_trans HBW.out (Nat.le_of_lt HX.out.lt))).mono ?_
    rintro e w1 ⟨rfl, hb⟩
    have HX1 := hide (HX.out.next hb)
    clear hb c0 c1 c2 c3 c4 c5 c6 c7
    obtain ⟨c0, c1, c2, c3, c4, c5, c6, c7⟩ := HX1.out.cells
    go_wp2_with fail
    go_ret2
    exact ⟨ret_ii HV.out.2 HV.out.1, HX1.out.2⟩
  rw [hF] at HFV
  rcases hL : idxOk ls lv with _ | _
  · have HV := hide (ss_2 (m := m) hF hL)
    rw [hL] at HHL
    clear hF hL
    go_enter Tryz.func7, Tryz.ntmps7
    go_wp2_with fail
    refine (HFV.out _ (HI.out.below (HX.out.2.mono HBW.out)) (HJ.out.below (HX.out.2.mono HBW.out)) (Nat.le_trans HBW.out (Nat.le_of_lt HX.out.lt))).mono ?_
    rintro e w1 ⟨rfl, hb⟩
    have HX1 := hide (HX.out.next hb)
    clear hb c0 c1 c2 c3 c4 c5 c6 c7
    obtain ⟨c0, c1, c2, c3, c4, c5, c6, c7⟩ := HX1.out.cells
    go_wp2_with fail
    refine (HHL.out _).mono ?_
    rintro e w2 ⟨rfl, hb⟩
    have HX2 := hide (HX1.out.next hb)
    clear hb c0 c1 c2 c3 c4 c5 c6 c7
    obtain ⟨c0, c1, c2, c3, c4, c5, c6, c7⟩ := HX2.out.cells
    go_wp2_with fail
    go_ret2
    exact ⟨ret_ii HV.out.2 HV.out.1, HX2.out.2⟩
  rw [hL] at HHL
  have hFI := fm_is hF
  obtain ⟨q, mul, _, hK, -⟩ := fieldB_open hFI.fld
  obtain ⟨hq8, hq256⟩ := fm_q hFI.two hK
  have hW3 := wdt_3 hq8 (by omega)
  have HPS := hide (fun w' => implPs hFI.fld hK m hm w')
  by_cases hbig : 400 < m.size
  · have HV := hide (ss_3 hF hL hbig)
    obtain ⟨e1, e2⟩ := pay_no hbig (W := wdt q)
    rw [e1, e2] at HPS
    clear hF hL hbig e1 e2 hFI hK
    go_enter Tryz.func7, Tryz.ntmps7
    go_wp2_with fail
    refine (HFV.out _ (HI.out.below (HX.out.2.mono HBW.out)) (HJ.out.below (HX.out.2.mono HBW.out)) (Nat.le_trans HBW.out (Nat.le_of_lt HX.out.lt))).mono ?_
    rintro e w1 ⟨rfl, hb⟩
    have HX1 := hide (HX.out.next hb)
    clear hb c0 c1 c2 c3 c4 c5 c6 c7
    obtain ⟨c0, c1, c2, c3, c4, c5, c6, c7⟩ := HX1.out.cells
    go_wp2_with fail
    refine (HHL.out _).mono ?_
    rintro e w2 ⟨rfl, hb⟩
    have HX2 := hide (HX1.out.next hb)
    clear hb c0 c1 c2 c3 c4 c5 c6 c7
    obtain ⟨c0, c1, c2, c3, c4, c5, c6, c7⟩ := HX2.out.cells
    go_wp2_with fail
    refine (HPS.out _).mono ?_
    rintro e w3 ⟨rfl, hb⟩
    have HX3 := hide (HX2.out.next hb)
    clear hb c0 c1 c2 c3 c4 c5 c6 c7
    obtain ⟨c0, c1, c2, c3, c4, c5, c6, c7⟩ := HX3.out.cells
    go_wp2_with fail
    go_ret2
    exact ⟨ret_ii HV.out.2 HV.out.1, HX3.out.2⟩
  obtain ⟨e1, nd, e2, hnd⟩ := pay_ok (s := m) (by omega) hW3
  rw [e1, e2] at HPS
  have HND := hide (show needN p k m = nd by unfold needN; rw [qN_is hK, e2]; simp)
  have HYY := hide (fun z (hz : zs.find? (okSz κ p k g C ls lv nd) = some z) => ss_yes (m := m) hF hL (by omega) (by rw [HND.out]; exact hz))
  have HNN := hide (fun (hz : zs.find? (okSz κ p k g C ls lv nd) = none) => ss_none (m := m) hF hL (by omega) (by rw [HND.out]; exact hz))
  clear e1 e2 hbig HND
  simp only [idxOk, decide_eq_true_eq] at hL
  obtain ⟨l0, rfl⟩ : ∃ l0 : Nat, lv = l0 := ⟨lv.toNat, by omega⟩
  have hl0 : l0 < n' := by have := HJL.out; omega
  obtain ⟨bL, oL0, Pv, rfl, hbL, hPv, hcL⟩ := HJA.out l0 hl0
  have hPr := hFI.pct Pv (List.mem_of_getElem? hPv)
  obtain ⟨P, rfl⟩ : ∃ P : Nat, Pv = P := ⟨Pv.toNat, by omega⟩
  have hlP : lvP ls (l0 : Int) = P := by unfold lvP; rw [Int.toNat_natCast, hPv]; simp
  have HEL := hide (fun (z : Int) (hz : z ∈ zs) => ly_all hFI hK (z := z) hz hlP)
  have HLOZ := hide (fun (z : Int) (hz : z ∈ zs) w' => show Calls Tryz.prog 23 #[.agg #[.string s, .int .i64 κ, .int .i64 p, .int .i64 k, .int .i64 g, .slice A n c, .int .i64 C, .slice (some ⟨bL, oL0, none⟩) n' c'], .int .i64 z, .int .i64 P] w' (Gives (.agg #[.int .i64 p, .int .i64 k, .int .i64 g, .int .i64 (lyD κ p k C z ls l0), .int .i64 (lyK κ p k C z ls l0), .int .i64 (lyC κ p k C z)]) w') by
    rw [(HEL.out z hz).1, (HEL.out z hz).2.1, (HEL.out z hz).2.2.1]
    exact implLo hK s κ A n c C (some ⟨bL, oL0, none⟩) n' c' zs ls hFI z hz P (by omega) w')
  have HCL0 := hide hcL
  have hP80 : P ≤ 80 := by omega
  clear hF hL hFI hK hW3 hq8 hq256 hPv hPr hlP hcL
  go_enter Tryz.func7, Tryz.ntmps7
  go_wp2_with fail
  refine (HFV.out _ (HI.out.below (HX.out.2.mono HBW.out)) (HJ.out.below (HX.out.2.mono HBW.out)) (Nat.le_trans HBW.out (Nat.le_of_lt HX.out.lt))).mono ?_
  rintro e w1 ⟨rfl, hb⟩
  have HX1 := hide (HX.out.next hb)
  clear hb c0 c1 c2 c3 c4 c5 c6 c7
  obtain ⟨c0, c1, c2, c3, c4, c5, c6, c7⟩ := HX1.out.cells
  go_wp2_with fail
  refine (HHL.out _).mono ?_
  rintro e w2 ⟨rfl, hb⟩
  have HX2 := hide (HX1.out.next hb)
  clear hb c0 c1 c2 c3 c4 c5 c6 c7
  obtain ⟨c0, c1, c2, c3, c4, c5, c6, c7⟩ := HX2.out.cells
  go_wp2_with fail
  refine (HPS.out _).mono ?_
  rintro e w3a ⟨rfl, hb⟩
  have HX3a := hide (HX2.out.next hb)
  clear hb c0 c1 c2 c3 c4 c5 c6 c7
  obtain ⟨c0, c1, c2, c3, c4, c5, c6, c7⟩ := HX3a.out.cells
  go_wp2_with fail
  clear HX HX1 HX2 c0 c1 c2 c3 c4 c5 c6 c7 HFV HHL HPS HJ
  go_loopw [33] (fun i wr => SsRel w κ p k g C ls l0 nd n zs s A c (some ⟨bL, oL0, none⟩) n' c' i wr) (fun i _ => n - (intOf i).toNat)
  case atStart => exact ⟨0, by omega, rfl, hide rfl, HX3a.out⟩
  case round =>
    clear HX3a
    obtain ⟨j, hj, rfl, HR, hx⟩ := hrel
    have HX3 := hide hx
    clear hx
    obtain ⟨w3, rfl⟩ : ∃ w3 : World, w3 = wr := ⟨_, rfl⟩
    by_cases hlt : j < n
    · obtain ⟨b, off, z, rfl, hb, hz, hc⟩ := (HI.out.below (HX3.out.2.mono HBW.out)).at_ hlt
      have hzm : z ∈ zs := List.mem_of_getElem? hz
      have HLO := hide (fun w' => HLOZ.out z hzm w')
      have hrg := (HEL.out z hzm).2.2.2 hP80
      have HNX := hide (fun (h : okSz κ p k g C ls l0 nd z = false) => find_next HR.out hz h)
      have HYS := hide (fun (h : okSz κ p k g C ls l0 nd z = true) => HYY.out z (find_here HR.out hz h))
      have hok : okSz κ p k g C ls l0 nd z = (layB p k g (lyD κ p k C z ls l0) (lyK κ p k C z ls l0) (lyC κ p k C z) && decide ((nd : Int) ≤ lyD κ p k C z ls l0)) := rfl
      rw [hok] at HNX HYS
      clear hok hz hzm
      generalize lyD κ p k C z ls (l0 : Int) = D at *
      generalize lyK κ p k C z ls (l0 : Int) = K at *
      generalize lyC κ p k C z = Cn at *
      have HVL := hide (fun w' => implLayValid p k g D K Cn w' (by omega) (by omega))
      obtain ⟨bV, hbV⟩ : ∃ bV, layB p k g D K Cn = bV := ⟨_, rfl⟩
      rw [hbV] at HVL HNX HYS
      clear hbV hrg
      have HXd := hide HX3.out.drew
      have HRd := hide HXd.out.1
      have HCL := hide (show w3.drew.cell? ⟨bL, oL0 + l0, none⟩ = some (.int .i64 (P : Int)) from (HX3.out.2.cell (p := ⟨bL, oL0 + l0, none⟩) (Nat.lt_of_lt_of_le hbL HBW.out)).trans HCL0.out)
      have HBD := hide (Below.refl w3.heap.size w3).drew
      have HSZB := hide (show B ≤ w3.heap.size from Nat.le_trans HBW.out (Nat.le_of_lt HX3.out.lt))
      have HSZD := hide (show B ≤ w3.drew.heap.size from HSZB.out)
      obtain ⟨c0, c1, c2, c3, c4, c5, c6, c7⟩ := HX3.out.cells
      go_wp2_with fail
      clear c0 c1 c2 c3 c4 c5 c6 c7 hc
      refine tail_begin (fun w' => w'.cell? ⟨w.heap.size, 0, none⟩ = some (.string s) ∧ w'.cell? ⟨w.heap.size, 1, none⟩ = some (.int .i64 κ) ∧ w'.cell? ⟨w.heap.size, 2, none⟩ = some (.int .i64 p) ∧ w'.cell? ⟨w.heap.size, 3, none⟩ = some (.int .i64 k) ∧ w'.cell? ⟨w.heap.size, 4, none⟩ = some (.int .i64 g) ∧ w'.cell? ⟨w.heap.size, 5, none⟩ = some (.slice (some ⟨b, off, none⟩) n c) ∧ w'.cell? ⟨w.heap.size, 6, none⟩ = some (.int .i64 C) ∧ w'.cell? ⟨w.heap.size, 7, none⟩ = some (.slice (some ⟨bL, oL0, none⟩) n' c') ∧ w'.cell? ⟨bL, oL0 + l0, none⟩ = some (.int .i64 (P : Int))) 9 (by kernel_rfl) ⟨HXd.out.cells.1, HXd.out.cells.2.1, HXd.out.cells.2.2.1, HXd.out.cells.2.2.2.1, HXd.out.cells.2.2.2.2.1, HXd.out.cells.2.2.2.2.2.1, HXd.out.cells.2.2.2.2.2.2.1, HXd.out.cells.2.2.2.2.2.2.2, HCL.out⟩ (fun hS' => ?_)
      obtain ⟨wd, hwd⟩ : ∃ q, w3.drew = q := ⟨_, rfl⟩
      rw [hwd] at hS' HXd HRd HCL HSZD HBD ⊢
      clear hwd
      refine tail_take 0 rfl (by kernel_rfl) (by kernel_rfl) (by kernel_rfl) (by kernel_rfl) (fun _ _ _ h => h) (by rfl) (v := ?_) ?_ (by assumption) ?_
      rotate_left 1
      · intro w' hS'; obtain ⟨c0, c1, c2, c3, c4, c5, c6, c7, cL⟩ := hS'; go_simp; try with_reducible rfl
      try simp only [Act.put, List.setIfInBounds_toArray, List.set_cons_zero, List.set_cons_succ]
      refine tail_take 1 rfl (by kernel_rfl) (by kernel_rfl) (by kernel_rfl) (by kernel_rfl) (fun _ _ _ h => h) (by rfl) (v := ?_) ?_ (by assumption) ?_
      rotate_left 1
      · intro w' hS'; obtain ⟨c0, c1, c2, c3, c4, c5, c6, c7, cL⟩ := hS'; go_simp; try with_reducible rfl
      try simp only [Act.put, List.setIfInBounds_toArray, List.set_cons_zero, List.set_cons_succ]
      refine tail_take 2 rfl (by kernel_rfl) (by kernel_rfl) (by kernel_rfl) (by kernel_rfl) (fun _ _ _ h => h) (by rfl) (v := ?_) ?_ (by assumption) ?_
      rotate_left 1
      · intro w' hS'; obtain ⟨c0, c1, c2, c3, c4, c5, c6, c7, cL⟩ := hS'; go_simp; try with_reducible rfl
      try simp only [Act.put, List.setIfInBounds_toArray, List.set_cons_zero, List.set_cons_succ]
      refine tail_take 3 rfl (by kernel_rfl) (by kernel_rfl) (by kernel_rfl) (by kernel_rfl) (fun _ _ _ h => h) (by rfl) (v := ?_) ?_ (by assumption) ?_
      rotate_left 1
      · intro w' hS'; obtain ⟨c0, c1, c2, c3, c4, c5, c6, c7, cL⟩ := hS'; go_simp; try with_reducible rfl
      try simp only [Act.put, List.setIfInBounds_toArray, List.set_cons_zero, List.set_cons_succ]
      refine tail_take 4 rfl (by kernel_rfl) (by kernel_rfl) (by kernel_rfl) (by kernel_rfl) (fun _ _ _ h => h) (by rfl) (v := ?_) ?_ (by assumption) ?_
      rotate_left 1
      · intro w' hS'; obtain ⟨c0, c1, c2, c3, c4, c5, c6, c7, cL⟩ := hS'; go_simp; try with_reducible rfl
      try simp only [Act.put, List.setIfInBounds_toArray, List.set_cons_zero, List.set_cons_succ]
      refine tail_take 5 rfl (by kernel_rfl) (by kernel_rfl) (by kernel_rfl) (by kernel_rfl) (fun _ _ _ h => h) (by rfl) (v := ?_) ?_ (by assumption) ?_
      rotate_left 1
      · intro w' hS'; obtain ⟨c0, c1, c2, c3, c4, c5, c6, c7, cL⟩ := hS'; go_simp; try with_reducible rfl
      try simp only [Act.put, List.setIfInBounds_toArray, List.set_cons_zero, List.set_cons_succ]
      refine tail_take 6 rfl (by kernel_rfl) (by kernel_rfl) (by kernel_rfl) (by kernel_rfl) (fun _ _ _ h => h) (by rfl) (v := ?_) ?_ (by assumption) ?_
      rotate_left 1
      · intro w' hS'; obtain ⟨c0, c1, c2, c3, c4, c5, c6, c7, cL⟩ := hS'; go_simp; try with_reducible rfl
      try simp only [Act.put, List.setIfInBounds_toArray, List.set_cons_zero, List.set_cons_succ]
      refine tail_two 7 8 rfl rfl (by kernel_rfl) rfl rfl (fun K' hK => ?_) (fun K' hK => ?_)
      · go_simp
        go_at_call 23; refine (HLO.out _).mono ?_; rintro e w5 ⟨rfl, hb⟩
        have HX5 := hide (HXd.out.next hb)
        have HR5 := hide (heap_nextF HRd.out hb)
        have HC5 := hide ((hb.cell (p := ⟨bL, oL0 + l0, none⟩) (Nat.lt_of_lt_of_le hbL HSZD.out)).trans HCL.out)
        have HB5 := hide (HBD.out.trans (hb.mono HBD.out.size))
        clear hb
        refine hK.out _ _ (by (try dsimp only); exact ⟨HX5.out.cells.1, HX5.out.cells.2.1, HX5.out.cells.2.2.1, HX5.out.cells.2.2.2.1, HX5.out.cells.2.2.2.2.1, HX5.out.cells.2.2.2.2.2.1, HX5.out.cells.2.2.2.2.2.2.1, HX5.out.cells.2.2.2.2.2.2.2, HC5.out⟩) (fun hS' => ?_)
        clear hK K'
        try simp only [Act.put, List.setIfInBounds_toArray, List.set_cons_zero, List.set_cons_succ]
        refine tail_call 8 rfl (by kernel_rfl) rfl (fun K' hK => ?_)
        go_simp
        have hbz : Below w5.heap.size w5 (w5.alloc (.cells #[.int .i64 0, .int .i64 0, .int .i64 0, .int .i64 0, .int .i64 0, .int .i64 0] 35)) := (Below.refl _ _).alloc (Nat.le_refl _) _
        have HX6 := hide (HX5.out.next hbz)
        have HR6 := hide (heap_nextF HR5.out hbz)
        have HC6 := hide ((hbz.cell (p := ⟨bL, oL0 + l0, none⟩) (Nat.lt_of_lt_of_le hbL (Nat.le_trans HSZB.out HB5.out.size))).trans HC5.out)
        have HB6 := hide (HB5.out.trans (hbz.mono HB5.out.size))
        have HZ := hide (heap_alloc_new w5 (.cells #[.int .i64 0, .int .i64 0, .int .i64 0, .int .i64 0, .int .i64 0, .int .i64 0] 35))
        have HLT := hide (show w.heap.size < w5.heap.size from HX5.out.lt)
        have HLR := hide (row_lt HR5.out)
        refine hK.out _ _ (by (try dsimp only); exact ⟨HX6.out.cells.1, HX6.out.cells.2.1, HX6.out.cells.2.2.1, HX6.out.cells.2.2.2.1, HX6.out.cells.2.2.2.2.1, HX6.out.cells.2.2.2.2.2.1, HX6.out.cells.2.2.2.2.2.2.1, HX6.out.cells.2.2.2.2.2.2.2, HC6.out⟩) (fun hS' => ?_)
        clear hK K'
        try simp only [Act.put, List.setIfInBounds_toArray, List.set_cons_zero, List.set_cons_succ]
        obtain ⟨wz, hwz⟩ : ∃ wz, w5.alloc (.cells #[.int .i64 0, .int .i64 0, .int .i64 0, .int .i64 0, .int .i64 0, .int .i64 0] 35) = wz := ⟨_, rfl⟩
        rw [hwz] at hS' HX6 HR6 HC6 HB6 HZ ⊢
        clear hwz hbz
        have HLB := hide HB5.out.size
        obtain ⟨y0, y1, y2, y3, y4, y5, g0, g1, g2, g3, g4, g5⟩ := row6F HZ.out
        refine tail_last 9 rfl (by kernel_rfl) (by kernel_rfl) rfl rfl (fun K' hK => ?_)
        go_simp
        refine hK.out _ _ ?_
        clear hK K'
        try simp only [Act.put, List.setIfInBounds_toArray, List.set_cons_zero, List.set_cons_succ]
        have HZ9 := hide (row_set6F HZ.out (.int .i64 p) (.int .i64 k) (.int .i64 g) (.int .i64 D) (.int .i64 K) (.int .i64 Cn))
        have HX9 := hide (fbox_set6 HX6.out HLT.out (.int .i64 p) (.int .i64 k) (.int .i64 g) (.int .i64 D) (.int .i64 K) (.int .i64 Cn))
        have HZL := hide (set6F_size wz w5.heap.size (.int .i64 p) (.int .i64 k) (.int .i64 g) (.int .i64 D) (.int .i64 K) (.int .i64 Cn))
        have HR9 := hide (row_other6 HR6.out HLR.out (.int .i64 p) (.int .i64 k) (.int .i64 g) (.int .i64 D) (.int .i64 K) (.int .i64 Cn))
        obtain ⟨w9, hw9⟩ : ∃ w9, set6F wz w5.heap.size (.int .i64 p) (.int .i64 k) (.int .i64 g) (.int .i64 D) (.int .i64 K) (.int .i64 Cn) = w9 := ⟨_, rfl⟩
        rw [hw9] at HZ9 HX9 HZL HR9
        unfold set6F at hw9
        rw [hw9]
        clear hw9 y0 y1 y2 y3 y4 y5 g0 g1 g2 g3 g4 g5 hS'
        obtain ⟨y0, y1, y2, y3, y4, y5, _, _, _, _, _, _⟩ := row6F HZ9.out
        go_wp2_with fail
        refine (HVL.out _).mono ?_
        rintro e wv ⟨rfl, hb⟩
        have HXv := hide (HX9.out.next hb)
        have HZv := hide (heap_nextF HZ9.out hb)
        clear hb y0 y1 y2 y3 y4 y5
        obtain ⟨y0, y1, y2, y3, y4, y5, _, _, _, _, _, _⟩ := row6F HZv.out
        cases bV with
        | false =>
          have HN := hide (HNX.out (by simp))
          go_wp2_with fail
          go_roundw
          case rel => exact ⟨j + 1, by omega, by go_num, HN, HXv.out⟩
          case measure => simp [intOf]; omega
        | true =>
          rcases hnd : decide ((nd : Int) ≤ D) with _ | _
          · have HN := hide (HNX.out (by rw [hnd]; rfl))
            go_wp2_with fail
            go_roundw
            case rel => exact ⟨j + 1, by omega, by go_num, HN, HXv.out⟩
            case measure => simp [intOf]; omega
          · have HV := hide (HYS.out (by rw [hnd]; rfl))
            go_wp2_with fail
            go_ret2
            exact ⟨ret_ii HV.out.1 HV.out.2, HXv.out.2⟩
      · go_simp
        have hbz : Below wd.heap.size wd (wd.alloc (.cells #[.int .i64 0, .int .i64 0, .int .i64 0, .int .i64 0, .int .i64 0, .int .i64 0] 35)) := (Below.refl _ _).alloc (Nat.le_refl _) _
        have HX5 := hide (HXd.out.next hbz)
        have HR5 := hide (heap_nextF HRd.out hbz)
        have HC5 := hide ((hbz.cell (p := ⟨bL, oL0 + l0, none⟩) (Nat.lt_of_lt_of_le hbL HSZD.out)).trans HCL.out)
        have HB5 := hide (HBD.out.trans (hbz.mono HBD.out.size))
        have HZ5 := hide (heap_alloc_new wd (.cells #[.int .i64 0, .int .i64 0, .int .i64 0, .int .i64 0, .int .i64 0, .int .i64 0] 35))
        have HLT := hide (show w.heap.size < wd.heap.size from HXd.out.lt)
        have HLR := hide (row_lt HRd.out)
        refine hK.out _ _ (by (try dsimp only); exact ⟨HX5.out.cells.1, HX5.out.cells.2.1, HX5.out.cells.2.2.1, HX5.out.cells.2.2.2.1, HX5.out.cells.2.2.2.2.1, HX5.out.cells.2.2.2.2.2.1, HX5.out.cells.2.2.2.2.2.2.1, HX5.out.cells.2.2.2.2.2.2.2, HC5.out⟩) (fun hS' => ?_)
        clear hK K'
        try simp only [Act.put, List.setIfInBounds_toArray, List.set_cons_zero, List.set_cons_succ]
        obtain ⟨wy, hwy⟩ : ∃ wy, wd.alloc (.cells #[.int .i64 0, .int .i64 0, .int .i64 0, .int .i64 0, .int .i64 0, .int .i64 0] 35) = wy := ⟨_, rfl⟩
        rw [hwy] at hS' HX5 HR5 HC5 HB5 HZ5 ⊢
        clear hwy hbz
        refine tail_call 7 rfl (by kernel_rfl) rfl (fun K' hK => ?_)
        go_simp
        go_at_call 23; refine (HLO.out _).mono ?_; rintro e wz ⟨rfl, hb⟩
        have HX6 := hide (HX5.out.next hb)
        have HR6 := hide (heap_nextF HR5.out hb)
        have HC6 := hide ((hb.cell (p := ⟨bL, oL0 + l0, none⟩) (Nat.lt_of_lt_of_le hbL (Nat.le_trans HSZB.out HB5.out.size))).trans HC5.out)
        have HB6 := hide (HB5.out.trans (hb.mono HB5.out.size))
        have HZ := hide (heap_nextF HZ5.out hb)
        clear hb
        refine hK.out _ _ (by (try dsimp only); exact ⟨HX6.out.cells.1, HX6.out.cells.2.1, HX6.out.cells.2.2.1, HX6.out.cells.2.2.2.1, HX6.out.cells.2.2.2.2.1, HX6.out.cells.2.2.2.2.2.1, HX6.out.cells.2.2.2.2.2.2.1, HX6.out.cells.2.2.2.2.2.2.2, HC6.out⟩) (fun hS' => ?_)
        clear hK K'
        try simp only [Act.put, List.setIfInBounds_toArray, List.set_cons_zero, List.set_cons_succ]
        have HLB := hide HBD.out.size
        obtain ⟨y0, y1, y2, y3, y4, y5, g0, g1, g2, g3, g4, g5⟩ := row6F HZ.out
        refine tail_last 9 rfl (by kernel_rfl) (by kernel_rfl) rfl rfl (fun K' hK => ?_)
        go_simp
        refine hK.out _ _ ?_
        clear hK K'
        try simp only [Act.put, List.setIfInBounds_toArray, List.set_cons_zero, List.set_cons_succ]
        have HZ9 := hide (row_set6F HZ.out (.int .i64 p) (.int .i64 k) (.int .i64 g) (.int .i64 D) (.int .i64 K) (.int .i64 Cn))
        have HX9 := hide (fbox_set6 HX6.out HLT.out (.int .i64 p) (.int .i64 k) (.int .i64 g) (.int .i64 D) (.int .i64 K) (.int .i64 Cn))
        have HZL := hide (set6F_size wz wd.heap.size (.int .i64 p) (.int .i64 k) (.int .i64 g) (.int .i64 D) (.int .i64 K) (.int .i64 Cn))
        have HR9 := hide (row_other6 HR6.out HLR.out (.int .i64 p) (.int .i64 k) (.int .i64 g) (.int .i64 D) (.int .i64 K) (.int .i64 Cn))
        obtain ⟨w9, hw9⟩ : ∃ w9, set6F wz wd.heap.size (.int .i64 p) (.int .i64 k) (.int .i64 g) (.int .i64 D) (.int .i64 K) (.int .i64 Cn) = w9 := ⟨_, rfl⟩
        rw [hw9] at HZ9 HX9 HZL HR9
        unfold set6F at hw9
        rw [hw9]
        clear hw9 y0 y1 y2 y3 y4 y5 g0 g1 g2 g3 g4 g5 hS'
        obtain ⟨y0, y1, y2, y3, y4, y5, _, _, _, _, _, _⟩ := row6F HZ9.out
        go_wp2_with fail
        refine (HVL.out _).mono ?_
        rintro e wv ⟨rfl, hb⟩
        have HXv := hide (HX9.out.next hb)
        have HZv := hide (heap_nextF HZ9.out hb)
        clear hb y0 y1 y2 y3 y4 y5
        obtain ⟨y0, y1, y2, y3, y4, y5, _, _, _, _, _, _⟩ := row6F HZv.out
        cases bV with
        | false =>
          have HN := hide (HNX.out (by simp))
          go_wp2_with fail
          go_roundw
          case rel => exact ⟨j + 1, by omega, by go_num, HN, HXv.out⟩
          case measure => simp [intOf]; omega
        | true =>
          rcases hnd : decide ((nd : Int) ≤ D) with _ | _
          · have HN := hide (HNX.out (by rw [hnd]; rfl))
            go_wp2_with fail
            go_roundw
            case rel => exact ⟨j + 1, by omega, by go_num, HN, HXv.out⟩
            case measure => simp [intOf]; omega
          · have HV := hide (HYS.out (by rw [hnd]; rfl))
            go_wp2_with fail
            go_ret2
            exact ⟨ret_ii HV.out.1 HV.out.2, HXv.out.2⟩
    · have HV := hide (HNN.out (by rw [← HR.out, List.drop_of_length_le (by rw [HLN.out]; omega)]; rfl))
      go_wp2_with fail
      go_ret2
      exact ⟨ret_ii HV.out.1 HV.out.2, HX3.out.2⟩

-- END IMPL
end Go.Proofs.YtncgeoliboidhaaGreat

namespace Go.Proofs.YtncgeoliboidhaaGreat
open Go.RowKit
set_option linter.unusedSimpArgs false
set_option linter.unusedVariables false

theorem lo_in {bs : List Int} {κ p k g : Int} {zs : List Int} {C : Int} {ls : List Int} {z lv : Int} (h : fmB bs κ p k g zs C ls = true) (hz : z ∈ zs) (hl : idxOk ls lv = true) :
    loCode bs κ p k g zs C ls z lv = if layB p k g (lyD κ p k C z ls lv) (lyK κ p k C z ls lv) (lyC κ p k C z) = false then 3 else 0 := lo_3 h (by rw [hl, decide_eq_true hz]; rfl)
theorem idx_in {ls : List Int} {lv : Int} (h : 0 ≤ lv ∧ lv < (ls.length : Int)) : idxOk ls lv = true := decide_eq_true h
theorem set6_cell {w : World} {N b i : Nat} {v : Value} (h : w.cell? ⟨b, i, none⟩ = some v) (hb : b < N) (x0 x1 x2 x3 x4 x5 : Value) : (set6F w N x0 x1 x2 x3 x4 x5).cell? ⟨b, i, none⟩ = some v := by
  have hB := below_set6 (Below.refl N w) (Nat.le_refl N) x0 x1 x2 x3 x4 x5
  rw [hB.cell (p := ⟨b, i, none⟩) hb]; exact h
-- SPEC
set_option maxRecDepth 100000 in
set_option maxHeartbeats 16000000 in
theorem specSmall (s : ByteArray) (κ p k g : Int) (A : Option Addr) (n c : Nat) (C : Int) (A' : Option Addr) (n' c' B : Nat) (zs ls : List Int) (lv : Int) (m : ByteArray) (w : World) (hs : s.size ≤ 1099511627776) (hm : m.size ≤ 1099511627776)
    (hI : Ints .i64 w B A n zs) (hJ : Ints .i64 w B A' n' ls) (hB : B ≤ w.heap.size) (hn : n ≤ 1099511627776) (hn' : n' ≤ 1099511627776) :
    Calls Tryz.prog 8 #[.agg #[.string s, .int .i64 κ, .int .i64 p, .int .i64 k, .int .i64 g, .slice A n c, .int .i64 C, .slice A' n' c'], .int .i64 lv, .string m] w (GivesII (ssV (bytesI s) κ p k g zs C ls lv m) (ssC (bytesI s) κ p k g zs C ls lv m) w) := by
  have HX := hide (FBox.start w s κ p k g A n c C A' n' c')
  have HI := hide hI
  have HJ := hide hJ
  have HBW := hide hB
  have HLN := hide hI.len
  have HJL := hide hJ.len
  have HJA := hide (fun (l0 : Nat) (h : l0 < n') => hJ.at_ h)
  clear hI hJ hB
  obtain ⟨c0, c1, c2, c3, c4, c5, c6, c7⟩ := HX.out.cells
  have HFV := hide (fun w' hI hJ hB => specIsFm s κ p k g A n c C A' n' c' B zs ls w' hs hI hJ hB hn hn')
  rcases hF : fmB (bytesI s) κ p k g zs C ls with _ | _
  · have HV := hide (ss_1 (lv := lv) (m := m) hF)
    rw [hF] at HFV
    clear hF
    go_enter Tryz.func8, Tryz.ntmps8
    go_wp2_with fail
    refine (HFV.out _ (HI.out.below (HX.out.2.mono HBW.out)) (HJ.out.below (HX.out.2.mono HBW.out)) (Nat.le_trans HBW.out (Nat.le_of_lt HX.out.lt))).mono ?_
    rintro e w1 ⟨rfl, hb⟩
    have HX1 := hide (HX.out.next hb)
    clear hb c0 c1 c2 c3 c4 c5 c6 c7
    obtain ⟨c0, c1, c2, c3, c4, c5, c6, c7⟩ := HX1.out.cells
    go_wp2_with fail
    go_ret2
    exact ⟨ret_ii HV.out.2 HV.out.1, HX1.out.2⟩
  rw [hF] at HFV
  rcases hL : idxOk ls lv with _ | _
  · have HV := hide (ss_2 (m := m) hF hL)
    have HIN := hide (fun w' => specIn_is lv 0 ((n' : Int) - 1) false w' (by rw [← hL, idxOk, ← HJL.out]; unfold inR; exact decide_eq_decide.2 (by omega)))
    clear hF hL
    go_enter Tryz.func8, Tryz.ntmps8
    go_wp2_with fail
    refine (HFV.out _ (HI.out.below (HX.out.2.mono HBW.out)) (HJ.out.below (HX.out.2.mono HBW.out)) (Nat.le_trans HBW.out (Nat.le_of_lt HX.out.lt))).mono ?_
    rintro e w1 ⟨rfl, hb⟩
    have HX1 := hide (HX.out.next hb)
    clear hb c0 c1 c2 c3 c4 c5 c6 c7
    obtain ⟨c0, c1, c2, c3, c4, c5, c6, c7⟩ := HX1.out.cells
    go_wp2_with fail
    refine (HIN.out _).mono ?_
    rintro e _ ⟨rfl, rfl⟩
    go_wp2_with fail
    go_ret2
    exact ⟨ret_ii HV.out.2 HV.out.1, HX1.out.2⟩
  have HIN := hide (fun w' => specIn_is lv 0 ((n' : Int) - 1) true w' (by rw [← hL, idxOk, ← HJL.out]; unfold inR; exact decide_eq_decide.2 (by omega)))
  by_cases hbig : 400 < m.size
  · have HV := hide (ss_3 hF hL hbig)
    clear hF hL
    go_enter Tryz.func8, Tryz.ntmps8
    go_wp2_with fail
    refine (HFV.out _ (HI.out.below (HX.out.2.mono HBW.out)) (HJ.out.below (HX.out.2.mono HBW.out)) (Nat.le_trans HBW.out (Nat.le_of_lt HX.out.lt))).mono ?_
    rintro e w1 ⟨rfl, hb⟩
    have HX1 := hide (HX.out.next hb)
    clear hb c0 c1 c2 c3 c4 c5 c6 c7
    obtain ⟨c0, c1, c2, c3, c4, c5, c6, c7⟩ := HX1.out.cells
    go_wp2_with fail
    refine (HIN.out _).mono ?_
    rintro e _ ⟨rfl, rfl⟩
    go_wp2_with fail
    go_ret2
    exact ⟨ret_ii HV.out.2 HV.out.1, HX1.out.2⟩
  have hFI := fm_is hF
  obtain ⟨q, mul, _, hK, -⟩ := fieldB_open hFI.fld
  obtain ⟨hq8, hq256⟩ := fm_q hFI.two hK
  have hW3 := wdt_3 hq8 (by omega)
  have hm400 : m.size ≤ 400 := by omega
  have HPS := hide (fun w' => specPs hFI.fld hK m hm w')
  obtain ⟨e1, nd, e2, hnd⟩ := pay_ok (s := m) (by omega) hW3
  rw [e1, e2] at HPS
  have HND := hide (show needN p k m = nd by unfold needN; rw [qN_is hK, e2]; simp)
  have HYY := hide (fun z (hz : zs.find? (okSz κ p k g C ls lv nd) = some z) => ss_yes (m := m) hF hL (by omega) (by rw [HND.out]; exact hz))
  have HNN := hide (fun (hz : zs.find? (okSz κ p k g C ls lv nd) = none) => ss_none (m := m) hF hL (by omega) (by rw [HND.out]; exact hz))
  clear e1 e2 hbig HND
  simp only [idxOk, decide_eq_true_eq] at hL
  obtain ⟨l0, rfl⟩ : ∃ l0 : Nat, lv = l0 := ⟨lv.toNat, by omega⟩
  have hl0 : l0 < n' := by have := HJL.out; omega
  clear hl0
  have HLZ := hide (fun (z : Int) (hz : z ∈ zs) => lo_in (z := z) hF hz (idx_in hL))
  have HLO := hide (fun (z : Int) w' hI hJ hB => specLayOf s κ p k g A n c C A' n' c' B zs ls z (l0 : Int) w' hs hI hJ hB hn hn')
  clear hF hL hFI hK hW3 hq8 hq256
  go_enter Tryz.func8, Tryz.ntmps8
  go_wp2_with fail
  refine (HFV.out _ (HI.out.below (HX.out.2.mono HBW.out)) (HJ.out.below (HX.out.2.mono HBW.out)) (Nat.le_trans HBW.out (Nat.le_of_lt HX.out.lt))).mono ?_
  rintro e w1 ⟨rfl, hb⟩
  have HX1 := hide (HX.out.next hb)
  clear hb c0 c1 c2 c3 c4 c5 c6 c7
  obtain ⟨c0, c1, c2, c3, c4, c5, c6, c7⟩ := HX1.out.cells
  go_wp2_with fail
  refine (HIN.out _).mono ?_
  rintro e _ ⟨rfl, rfl⟩
  go_wp2_with fail
  refine (HPS.out _).mono ?_
  rintro e w3a ⟨rfl, hb⟩
  have HX3a := hide (HX1.out.next hb)
  clear hb c0 c1 c2 c3 c4 c5 c6 c7
  obtain ⟨c0, c1, c2, c3, c4, c5, c6, c7⟩ := HX3a.out.cells
  go_wp2_with fail
  clear HX HX1 c0 c1 c2 c3 c4 c5 c6 c7 HFV HPS
  go_loopw [10] (fun i wr => SsRel w κ p k g C ls l0 nd n zs s A c A' n' c' i wr) (fun i _ => n - (intOf i).toNat)
  case atStart => exact ⟨0, by omega, rfl, hide rfl, HX3a.out⟩
  case round =>
    clear HX3a
    obtain ⟨j, hj, rfl, HR, hx⟩ := hrel
    have HX3 := hide hx
    clear hx
    obtain ⟨w3, rfl⟩ : ∃ w3 : World, w3 = wr := ⟨_, rfl⟩
    obtain ⟨c0, c1, c2, c3, c4, c5, c6, c7⟩ := HX3.out.cells
    by_cases hlt : j < n
    · obtain ⟨bL, oL, z, rfl, hbL, hz, hc⟩ := (HI.out.below (HX3.out.2.mono HBW.out)).at_ hlt
      have hzm : z ∈ zs := List.mem_of_getElem? hz
      have HLOZ := hide (fun w' hI hJ hB => HLO.out z w' hI hJ hB)
      have hlz := HLZ.out z hzm
      have HNX := hide (fun (h : okSz κ p k g C ls l0 nd z = false) => find_next HR.out hz h)
      have HYS := hide (fun (h : okSz κ p k g C ls l0 nd z = true) => HYY.out z (find_here HR.out hz h))
      have hok : okSz κ p k g C ls l0 nd z = (layB p k g (lyD κ p k C z ls l0) (lyK κ p k C z ls l0) (lyC κ p k C z) && decide ((nd : Int) ≤ lyD κ p k C z ls l0)) := rfl
      rw [hok] at HNX HYS
      clear hok hz hzm
      generalize loCode (bytesI s) κ p k g zs C ls z (l0 : Int) = cd at *
      generalize lyD κ p k C z ls (l0 : Int) = D at *
      generalize lyK κ p k C z ls (l0 : Int) = K at *
      generalize lyC κ p k C z = Cn at *
      generalize layB p k g D K Cn = bV at *
      have HZ0 := hide hc
      have HXd := hide HX3.out.drew
      have HCL := hide (show w3.drew.cell? ⟨bL, oL + j, none⟩ = some (.int .i64 z) from hc)
      have HBD := hide (Below.refl w3.heap.size w3).drew
      have HSZB := hide (show B ≤ w3.heap.size from Nat.le_trans HBW.out (Nat.le_of_lt HX3.out.lt))
      have HSZD := hide (show B ≤ w3.drew.heap.size from HSZB.out)
      cases bV with
      | false =>
        have hcd : cd = 3 := hlz
        subst hcd
        have HLC := hide (fun w' hI hJ hB => (HLOZ.out w' hI hJ hB).mono (fun e w'' h => And.intro (h.2.1 (by decide)) h.2.2))
        have HN := hide (HNX.out (by simp))
        clear hlz HNX HYS HLOZ
        go_wp2_with fail
        clear c0 c1 c2 c3 c4 c5 c6 c7 hc
        refine tail_begin (fun w' => w'.cell? ⟨w.heap.size, 0, none⟩ = some (.string s) ∧ w'.cell? ⟨w.heap.size, 1, none⟩ = some (.int .i64 κ) ∧ w'.cell? ⟨w.heap.size, 2, none⟩ = some (.int .i64 p) ∧ w'.cell? ⟨w.heap.size, 3, none⟩ = some (.int .i64 k) ∧ w'.cell? ⟨w.heap.size, 4, none⟩ = some (.int .i64 g) ∧ w'.cell? ⟨w.heap.size, 5, none⟩ = some (.slice (some ⟨bL, oL, none⟩) n c) ∧ w'.cell? ⟨w.heap.size, 6, none⟩ = some (.int .i64 C) ∧ w'.cell? ⟨w.heap.size, 7, none⟩ = some (.slice A' n' c') ∧ w'.cell? ⟨bL, oL + j, none⟩ = some (.int .i64 z)) 14 (by kernel_rfl) ⟨HXd.out.cells.1, HXd.out.cells.2.1, HXd.out.cells.2.2.1, HXd.out.cells.2.2.2.1, HXd.out.cells.2.2.2.2.1, HXd.out.cells.2.2.2.2.2.1, HXd.out.cells.2.2.2.2.2.2.1, HXd.out.cells.2.2.2.2.2.2.2, HCL.out⟩ (fun hS' => ?_)
        obtain ⟨wd, hwd⟩ : ∃ q, w3.drew = q := ⟨_, rfl⟩
        rw [hwd] at hS' HXd HCL HSZD HBD ⊢
        clear hwd
        refine tail_take2 0 rfl (by kernel_rfl) (by kernel_rfl) (by kernel_rfl) (by decide) (fun _ _ _ h => h) (by rfl) (v := ?_) ?_ (by assumption) ?_
        rotate_left 1
        · intro w' hS'; obtain ⟨c0, c1, c2, c3, c4, c5, c6, c7, cL⟩ := hS'; go_simp; try with_reducible rfl
        try simp only [Act.put, List.setIfInBounds_toArray, List.set_cons_zero, List.set_cons_succ]
        refine tail_take2 1 rfl (by kernel_rfl) (by kernel_rfl) (by kernel_rfl) (by decide) (fun _ _ _ h => h) (by rfl) (v := ?_) ?_ (by assumption) ?_
        rotate_left 1
        · intro w' hS'; obtain ⟨c0, c1, c2, c3, c4, c5, c6, c7, cL⟩ := hS'; go_simp; try with_reducible rfl
        try simp only [Act.put, List.setIfInBounds_toArray, List.set_cons_zero, List.set_cons_succ]
        refine tail_take2 2 rfl (by kernel_rfl) (by kernel_rfl) (by kernel_rfl) (by decide) (fun _ _ _ h => h) (by rfl) (v := ?_) ?_ (by assumption) ?_
        rotate_left 1
        · intro w' hS'; obtain ⟨c0, c1, c2, c3, c4, c5, c6, c7, cL⟩ := hS'; go_simp; try with_reducible rfl
        try simp only [Act.put, List.setIfInBounds_toArray, List.set_cons_zero, List.set_cons_succ]
        refine tail_take2 3 rfl (by kernel_rfl) (by kernel_rfl) (by kernel_rfl) (by decide) (fun _ _ _ h => h) (by rfl) (v := ?_) ?_ (by assumption) ?_
        rotate_left 1
        · intro w' hS'; obtain ⟨c0, c1, c2, c3, c4, c5, c6, c7, cL⟩ := hS'; go_simp; try with_reducible rfl
        try simp only [Act.put, List.setIfInBounds_toArray, List.set_cons_zero, List.set_cons_succ]
        refine tail_take2 4 rfl (by kernel_rfl) (by kernel_rfl) (by kernel_rfl) (by decide) (fun _ _ _ h => h) (by rfl) (v := ?_) ?_ (by assumption) ?_
        rotate_left 1
        · intro w' hS'; obtain ⟨c0, c1, c2, c3, c4, c5, c6, c7, cL⟩ := hS'; go_simp; try with_reducible rfl
        try simp only [Act.put, List.setIfInBounds_toArray, List.set_cons_zero, List.set_cons_succ]
        refine tail_take2 5 rfl (by kernel_rfl) (by kernel_rfl) (by kernel_rfl) (by decide) (fun _ _ _ h => h) (by rfl) (v := ?_) ?_ (by assumption) ?_
        rotate_left 1
        · intro w' hS'; obtain ⟨c0, c1, c2, c3, c4, c5, c6, c7, cL⟩ := hS'; go_simp; try with_reducible rfl
        try simp only [Act.put, List.setIfInBounds_toArray, List.set_cons_zero, List.set_cons_succ]
        refine tail_take2 6 rfl (by kernel_rfl) (by kernel_rfl) (by kernel_rfl) (by decide) (fun _ _ _ h => h) (by rfl) (v := ?_) ?_ (by assumption) ?_
        rotate_left 1
        · intro w' hS'; obtain ⟨c0, c1, c2, c3, c4, c5, c6, c7, cL⟩ := hS'; go_simp; try with_reducible rfl
        try simp only [Act.put, List.setIfInBounds_toArray, List.set_cons_zero, List.set_cons_succ]
        refine tail_two 7 11 rfl rfl (by kernel_rfl) rfl rfl (fun K' hK => ?_) (fun K' hK => ?_)
        · go_simp
          go_at_call 28; refine (HLC.out _ (HI.out.below (HXd.out.2.mono HBW.out)) (HJ.out.below (HXd.out.2.mono HBW.out)) (Nat.le_trans HBW.out (Nat.le_of_lt HXd.out.lt))).mono ?_; rintro e w5 ⟨rfl, hb⟩
          have HX5 := hide (HXd.out.next hb)
          have HC5 := hide ((hb.cell (p := ⟨bL, oL + j, none⟩) (Nat.lt_of_lt_of_le hbL HSZD.out)).trans HCL.out)
          have HB5 := hide (HBD.out.trans (hb.mono HBD.out.size))
          clear hb
          refine hK.out _ _ (by (try dsimp only); exact ⟨HX5.out.cells.1, HX5.out.cells.2.1, HX5.out.cells.2.2.1, HX5.out.cells.2.2.2.1, HX5.out.cells.2.2.2.2.1, HX5.out.cells.2.2.2.2.2.1, HX5.out.cells.2.2.2.2.2.2.1, HX5.out.cells.2.2.2.2.2.2.2, HC5.out⟩) (fun hS' => ?_)
          clear hK K'
          try simp only [Act.put, List.setIfInBounds_toArray, List.set_cons_zero, List.set_cons_succ]
          refine tail_take2 8 rfl (by kernel_rfl) (by kernel_rfl) (by kernel_rfl) (by decide) (fun _ _ _ h => h) (by rfl) (v := ?_) ?_ (by assumption) ?_
          rotate_left 1
          · intro w' hS'; obtain ⟨c0, c1, c2, c3, c4, c5, c6, c7, cL⟩ := hS'; go_simp; try with_reducible rfl
          try simp only [Act.put, List.setIfInBounds_toArray, List.set_cons_zero, List.set_cons_succ]
          refine tail_take2 9 rfl (by kernel_rfl) (by kernel_rfl) (by kernel_rfl) (by decide) (fun _ _ _ h => h) (by rfl) (v := ?_) ?_ (by assumption) ?_
          rotate_left 1
          · intro w' hS'; obtain ⟨c0, c1, c2, c3, c4, c5, c6, c7, cL⟩ := hS'; go_simp; try with_reducible rfl
          try simp only [Act.put, List.setIfInBounds_toArray, List.set_cons_zero, List.set_cons_succ]
          refine tail_take2 10 rfl (by kernel_rfl) (by kernel_rfl) (by kernel_rfl) (by decide) (fun _ _ _ h => h) (by rfl) (v := ?_) ?_ (by assumption) ?_
          rotate_left 1
          · intro w' hS'; obtain ⟨c0, c1, c2, c3, c4, c5, c6, c7, cL⟩ := hS'; go_simp; try with_reducible rfl
          try simp only [Act.put, List.setIfInBounds_toArray, List.set_cons_zero, List.set_cons_succ]
          refine tail_call 11 rfl (by kernel_rfl) rfl (fun K' hK => ?_)
          go_simp
          have hbz : Below w5.heap.size w5 (w5.alloc (.cells #[.int .i64 0, .int .i64 0, .int .i64 0, .int .i64 0, .int .i64 0, .int .i64 0] 35)) := (Below.refl _ _).alloc (Nat.le_refl _) _
          have HX6 := hide (HX5.out.next hbz)
          have HC6 := hide ((hbz.cell (p := ⟨bL, oL + j, none⟩) (Nat.lt_of_lt_of_le hbL (Nat.le_trans HSZB.out HB5.out.size))).trans HC5.out)
          have HZ := hide (heap_alloc_new w5 (.cells #[.int .i64 0, .int .i64 0, .int .i64 0, .int .i64 0, .int .i64 0, .int .i64 0] 35))
          have HLT := hide (show w.heap.size < w5.heap.size from HX5.out.lt)
          have HLB := hide (Nat.le_trans HSZB.out HB5.out.size)
          refine hK.out _ _ (by (try dsimp only); exact ⟨HX6.out.cells.1, HX6.out.cells.2.1, HX6.out.cells.2.2.1, HX6.out.cells.2.2.2.1, HX6.out.cells.2.2.2.2.1, HX6.out.cells.2.2.2.2.2.1, HX6.out.cells.2.2.2.2.2.2.1, HX6.out.cells.2.2.2.2.2.2.2, HC6.out⟩) (fun hS' => ?_)
          clear hK K'
          try simp only [Act.put, List.setIfInBounds_toArray, List.set_cons_zero, List.set_cons_succ]
          obtain ⟨wz, hwz⟩ : ∃ wz, w5.alloc (.cells #[.int .i64 0, .int .i64 0, .int .i64 0, .int .i64 0, .int .i64 0, .int .i64 0] 35) = wz := ⟨_, rfl⟩
          rw [hwz] at hS' HX6 HC6 HZ ⊢
          clear hwz hbz
          obtain ⟨y0, y1, y2, y3, y4, y5, g0, g1, g2, g3, g4, g5⟩ := row6F HZ.out
          have HZ9 := hide (row_set6F HZ.out (.int .i64 0) (.int .i64 0) (.int .i64 0) (.int .i64 0) (.int .i64 0) (.int .i64 0))
          have HX9 := hide (fbox_set6 HX6.out HLT.out (.int .i64 0) (.int .i64 0) (.int .i64 0) (.int .i64 0) (.int .i64 0) (.int .i64 0))
          have HC9 := hide (set6_cell HC6.out (Nat.lt_of_lt_of_le hbL HLB.out) (.int .i64 0) (.int .i64 0) (.int .i64 0) (.int .i64 0) (.int .i64 0) (.int .i64 0))
          obtain ⟨w9, hw9⟩ : ∃ w9, set6F wz w5.heap.size (.int .i64 0) (.int .i64 0) (.int .i64 0) (.int .i64 0) (.int .i64 0) (.int .i64 0) = w9 := ⟨_, rfl⟩
          rw [hw9] at HZ9 HX9 HC9
          unfold set6F at hw9
          refine tail_call 12 rfl (by kernel_rfl) rfl (fun K' hK => ?_)
          go_simp
          try rw [hw9]
          clear hw9 y0 y1 y2 y3 y4 y5 g0 g1 g2 g3 g4 g5
          refine hK.out _ _ (by (try dsimp only); exact ⟨HX9.out.cells.1, HX9.out.cells.2.1, HX9.out.cells.2.2.1, HX9.out.cells.2.2.2.1, HX9.out.cells.2.2.2.2.1, HX9.out.cells.2.2.2.2.2.1, HX9.out.cells.2.2.2.2.2.2.1, HX9.out.cells.2.2.2.2.2.2.2, HC9.out⟩) (fun hS' => ?_)
          clear hK K'
          try simp only [Act.put, List.setIfInBounds_toArray, List.set_cons_zero, List.set_cons_succ]
          refine tail_take2 13 rfl (by kernel_rfl) (by kernel_rfl) (by kernel_rfl) (by decide) (fun _ _ _ h => h) (by rfl) (v := ?_) ?_ (by assumption) ?_
          rotate_left 1
          · intro w' hS'; obtain ⟨c0, c1, c2, c3, c4, c5, c6, c7, cL⟩ := hS'; go_simp; try with_reducible rfl
          try simp only [Act.put, List.setIfInBounds_toArray, List.set_cons_zero, List.set_cons_succ]
          refine tail_end (by kernel_rfl) ?_
          go_wp2_with fail
          go_roundw
          case rel => exact ⟨j + 1, by omega, by go_num, HN, HX9.out⟩
          case measure => simp [intOf]; omega
        · go_simp
          have hbz : Below wd.heap.size wd (wd.alloc (.cells #[.int .i64 0, .int .i64 0, .int .i64 0, .int .i64 0, .int .i64 0, .int .i64 0] 35)) := (Below.refl _ _).alloc (Nat.le_refl _) _
          have HX5 := hide (HXd.out.next hbz)
          have HC5 := hide ((hbz.cell (p := ⟨bL, oL + j, none⟩) (Nat.lt_of_lt_of_le hbL HSZD.out)).trans HCL.out)
          have HB5 := hide (HBD.out.trans (hbz.mono HBD.out.size))
          have HZ5 := hide (heap_alloc_new wd (.cells #[.int .i64 0, .int .i64 0, .int .i64 0, .int .i64 0, .int .i64 0, .int .i64 0] 35))
          have HLT := hide (show w.heap.size < wd.heap.size from HXd.out.lt)
          have HLB := hide HSZD.out
          refine hK.out _ _ (by (try dsimp only); exact ⟨HX5.out.cells.1, HX5.out.cells.2.1, HX5.out.cells.2.2.1, HX5.out.cells.2.2.2.1, HX5.out.cells.2.2.2.2.1, HX5.out.cells.2.2.2.2.2.1, HX5.out.cells.2.2.2.2.2.2.1, HX5.out.cells.2.2.2.2.2.2.2, HC5.out⟩) (fun hS' => ?_)
          clear hK K'
          try simp only [Act.put, List.setIfInBounds_toArray, List.set_cons_zero, List.set_cons_succ]
          obtain ⟨wy, hwy⟩ : ∃ wy, wd.alloc (.cells #[.int .i64 0, .int .i64 0, .int .i64 0, .int .i64 0, .int .i64 0, .int .i64 0] 35) = wy := ⟨_, rfl⟩
          rw [hwy] at hS' HX5 HC5 HB5 HZ5 ⊢
          clear hwy hbz
          refine tail_call 7 rfl (by kernel_rfl) rfl (fun K' hK => ?_)
          go_simp
          go_at_call 28; refine (HLC.out _ (HI.out.below (HX5.out.2.mono HBW.out)) (HJ.out.below (HX5.out.2.mono HBW.out)) (Nat.le_trans HBW.out (Nat.le_of_lt HX5.out.lt))).mono ?_; rintro e wz ⟨rfl, hb⟩
          have HX6 := hide (HX5.out.next hb)
          have HC6 := hide ((hb.cell (p := ⟨bL, oL + j, none⟩) (Nat.lt_of_lt_of_le hbL (Nat.le_trans HSZB.out HB5.out.size))).trans HC5.out)
          have HZ := hide (heap_nextF HZ5.out hb)
          clear hb
          refine hK.out _ _ (by (try dsimp only); exact ⟨HX6.out.cells.1, HX6.out.cells.2.1, HX6.out.cells.2.2.1, HX6.out.cells.2.2.2.1, HX6.out.cells.2.2.2.2.1, HX6.out.cells.2.2.2.2.2.1, HX6.out.cells.2.2.2.2.2.2.1, HX6.out.cells.2.2.2.2.2.2.2, HC6.out⟩) (fun hS' => ?_)
          clear hK K'
          try simp only [Act.put, List.setIfInBounds_toArray, List.set_cons_zero, List.set_cons_succ]
          refine tail_take2 8 rfl (by kernel_rfl) (by kernel_rfl) (by kernel_rfl) (by decide) (fun _ _ _ h => h) (by rfl) (v := ?_) ?_ (by assumption) ?_
          rotate_left 1
          · intro w' hS'; obtain ⟨c0, c1, c2, c3, c4, c5, c6, c7, cL⟩ := hS'; go_simp; try with_reducible rfl
          try simp only [Act.put, List.setIfInBounds_toArray, List.set_cons_zero, List.set_cons_succ]
          refine tail_take2 9 rfl (by kernel_rfl) (by kernel_rfl) (by kernel_rfl) (by decide) (fun _ _ _ h => h) (by rfl) (v := ?_) ?_ (by assumption) ?_
          rotate_left 1
          · intro w' hS'; obtain ⟨c0, c1, c2, c3, c4, c5, c6, c7, cL⟩ := hS'; go_simp; try with_reducible rfl
          try simp only [Act.put, List.setIfInBounds_toArray, List.set_cons_zero, List.set_cons_succ]
          refine tail_take2 10 rfl (by kernel_rfl) (by kernel_rfl) (by kernel_rfl) (by decide) (fun _ _ _ h => h) (by rfl) (v := ?_) ?_ (by assumption) ?_
          rotate_left 1
          · intro w' hS'; obtain ⟨c0, c1, c2, c3, c4, c5, c6, c7, cL⟩ := hS'; go_simp; try with_reducible rfl
          try simp only [Act.put, List.setIfInBounds_toArray, List.set_cons_zero, List.set_cons_succ]
          obtain ⟨y0, y1, y2, y3, y4, y5, g0, g1, g2, g3, g4, g5⟩ := row6F HZ.out
          have HZ9 := hide (row_set6F HZ.out (.int .i64 0) (.int .i64 0) (.int .i64 0) (.int .i64 0) (.int .i64 0) (.int .i64 0))
          have HX9 := hide (fbox_set6 HX6.out HLT.out (.int .i64 0) (.int .i64 0) (.int .i64 0) (.int .i64 0) (.int .i64 0) (.int .i64 0))
          have HC9 := hide (set6_cell HC6.out (Nat.lt_of_lt_of_le hbL HLB.out) (.int .i64 0) (.int .i64 0) (.int .i64 0) (.int .i64 0) (.int .i64 0) (.int .i64 0))
          obtain ⟨w9, hw9⟩ : ∃ w9, set6F wz wd.heap.size (.int .i64 0) (.int .i64 0) (.int .i64 0) (.int .i64 0) (.int .i64 0) (.int .i64 0) = w9 := ⟨_, rfl⟩
          rw [hw9] at HZ9 HX9 HC9
          unfold set6F at hw9
          refine tail_call 12 rfl (by kernel_rfl) rfl (fun K' hK => ?_)
          go_simp
          try rw [hw9]
          clear hw9 y0 y1 y2 y3 y4 y5 g0 g1 g2 g3 g4 g5
          refine hK.out _ _ (by (try dsimp only); exact ⟨HX9.out.cells.1, HX9.out.cells.2.1, HX9.out.cells.2.2.1, HX9.out.cells.2.2.2.1, HX9.out.cells.2.2.2.2.1, HX9.out.cells.2.2.2.2.2.1, HX9.out.cells.2.2.2.2.2.2.1, HX9.out.cells.2.2.2.2.2.2.2, HC9.out⟩) (fun hS' => ?_)
          clear hK K'
          try simp only [Act.put, List.setIfInBounds_toArray, List.set_cons_zero, List.set_cons_succ]
          refine tail_take2 13 rfl (by kernel_rfl) (by kernel_rfl) (by kernel_rfl) (by decide) (fun _ _ _ h => h) (by rfl) (v := ?_) ?_ (by assumption) ?_
          rotate_left 1
          · intro w' hS'; obtain ⟨c0, c1, c2, c3, c4, c5, c6, c7, cL⟩ := hS'; go_simp; try with_reducible rfl
          try simp only [Act.put, List.setIfInBounds_toArray, List.set_cons_zero, List.set_cons_succ]
          refine tail_end (by kernel_rfl) ?_
          go_wp2_with fail
          go_roundw
          case rel => exact ⟨j + 1, by omega, by go_num, HN, HX9.out⟩
          case measure => simp [intOf]; omega
      | true =>
        have hcd : cd = 0 := hlz
        subst hcd
        have HLC := hide (fun w' hI hJ hB => (HLOZ.out w' hI hJ hB).mono (fun e w'' h => And.intro (h.1 rfl) h.2.2))
        clear hlz HLOZ
        go_wp2_with fail
        clear c0 c1 c2 c3 c4 c5 c6 c7 hc
        refine tail_begin (fun w' => w'.cell? ⟨w.heap.size, 0, none⟩ = some (.string s) ∧ w'.cell? ⟨w.heap.size, 1, none⟩ = some (.int .i64 κ) ∧ w'.cell? ⟨w.heap.size, 2, none⟩ = some (.int .i64 p) ∧ w'.cell? ⟨w.heap.size, 3, none⟩ = some (.int .i64 k) ∧ w'.cell? ⟨w.heap.size, 4, none⟩ = some (.int .i64 g) ∧ w'.cell? ⟨w.heap.size, 5, none⟩ = some (.slice (some ⟨bL, oL, none⟩) n c) ∧ w'.cell? ⟨w.heap.size, 6, none⟩ = some (.int .i64 C) ∧ w'.cell? ⟨w.heap.size, 7, none⟩ = some (.slice A' n' c') ∧ w'.cell? ⟨bL, oL + j, none⟩ = some (.int .i64 z)) 14 (by kernel_rfl) ⟨HXd.out.cells.1, HXd.out.cells.2.1, HXd.out.cells.2.2.1, HXd.out.cells.2.2.2.1, HXd.out.cells.2.2.2.2.1, HXd.out.cells.2.2.2.2.2.1, HXd.out.cells.2.2.2.2.2.2.1, HXd.out.cells.2.2.2.2.2.2.2, HCL.out⟩ (fun hS' => ?_)
        obtain ⟨wd, hwd⟩ : ∃ q, w3.drew = q := ⟨_, rfl⟩
        rw [hwd] at hS' HXd HCL HSZD HBD ⊢
        clear hwd
        refine tail_take2 0 rfl (by kernel_rfl) (by kernel_rfl) (by kernel_rfl) (by decide) (fun _ _ _ h => h) (by rfl) (v := ?_) ?_ (by assumption) ?_
        rotate_left 1
        · intro w' hS'; obtain ⟨c0, c1, c2, c3, c4, c5, c6, c7, cL⟩ := hS'; go_simp; try with_reducible rfl
        try simp only [Act.put, List.setIfInBounds_toArray, List.set_cons_zero, List.set_cons_succ]
        refine tail_take2 1 rfl (by kernel_rfl) (by kernel_rfl) (by kernel_rfl) (by decide) (fun _ _ _ h => h) (by rfl) (v := ?_) ?_ (by assumption) ?_
        rotate_left 1
        · intro w' hS'; obtain ⟨c0, c1, c2, c3, c4, c5, c6, c7, cL⟩ := hS'; go_simp; try with_reducible rfl
        try simp only [Act.put, List.setIfInBounds_toArray, List.set_cons_zero, List.set_cons_succ]
        refine tail_take2 2 rfl (by kernel_rfl) (by kernel_rfl) (by kernel_rfl) (by decide) (fun _ _ _ h => h) (by rfl) (v := ?_) ?_ (by assumption) ?_
        rotate_left 1
        · intro w' hS'; obtain ⟨c0, c1, c2, c3, c4, c5, c6, c7, cL⟩ := hS'; go_simp; try with_reducible rfl
        try simp only [Act.put, List.setIfInBounds_toArray, List.set_cons_zero, List.set_cons_succ]
        refine tail_take2 3 rfl (by kernel_rfl) (by kernel_rfl) (by kernel_rfl) (by decide) (fun _ _ _ h => h) (by rfl) (v := ?_) ?_ (by assumption) ?_
        rotate_left 1
        · intro w' hS'; obtain ⟨c0, c1, c2, c3, c4, c5, c6, c7, cL⟩ := hS'; go_simp; try with_reducible rfl
        try simp only [Act.put, List.setIfInBounds_toArray, List.set_cons_zero, List.set_cons_succ]
        refine tail_take2 4 rfl (by kernel_rfl) (by kernel_rfl) (by kernel_rfl) (by decide) (fun _ _ _ h => h) (by rfl) (v := ?_) ?_ (by assumption) ?_
        rotate_left 1
        · intro w' hS'; obtain ⟨c0, c1, c2, c3, c4, c5, c6, c7, cL⟩ := hS'; go_simp; try with_reducible rfl
        try simp only [Act.put, List.setIfInBounds_toArray, List.set_cons_zero, List.set_cons_succ]
        refine tail_take2 5 rfl (by kernel_rfl) (by kernel_rfl) (by kernel_rfl) (by decide) (fun _ _ _ h => h) (by rfl) (v := ?_) ?_ (by assumption) ?_
        rotate_left 1
        · intro w' hS'; obtain ⟨c0, c1, c2, c3, c4, c5, c6, c7, cL⟩ := hS'; go_simp; try with_reducible rfl
        try simp only [Act.put, List.setIfInBounds_toArray, List.set_cons_zero, List.set_cons_succ]
        refine tail_take2 6 rfl (by kernel_rfl) (by kernel_rfl) (by kernel_rfl) (by decide) (fun _ _ _ h => h) (by rfl) (v := ?_) ?_ (by assumption) ?_
        rotate_left 1
        · intro w' hS'; obtain ⟨c0, c1, c2, c3, c4, c5, c6, c7, cL⟩ := hS'; go_simp; try with_reducible rfl
        try simp only [Act.put, List.setIfInBounds_toArray, List.set_cons_zero, List.set_cons_succ]
        refine tail_two 7 11 rfl rfl (by kernel_rfl) rfl rfl (fun K' hK => ?_) (fun K' hK => ?_)
        · go_simp
          go_at_call 28; refine (HLC.out _ (HI.out.below (HXd.out.2.mono HBW.out)) (HJ.out.below (HXd.out.2.mono HBW.out)) (Nat.le_trans HBW.out (Nat.le_of_lt HXd.out.lt))).mono ?_; rintro e w5 ⟨rfl, hb⟩
          have HX5 := hide (HXd.out.next hb)
          have HC5 := hide ((hb.cell (p := ⟨bL, oL + j, none⟩) (Nat.lt_of_lt_of_le hbL HSZD.out)).trans HCL.out)
          have HB5 := hide (HBD.out.trans (hb.mono HBD.out.size))
          clear hb
          refine hK.out _ _ (by (try dsimp only); exact ⟨HX5.out.cells.1, HX5.out.cells.2.1, HX5.out.cells.2.2.1, HX5.out.cells.2.2.2.1, HX5.out.cells.2.2.2.2.1, HX5.out.cells.2.2.2.2.2.1, HX5.out.cells.2.2.2.2.2.2.1, HX5.out.cells.2.2.2.2.2.2.2, HC5.out⟩) (fun hS' => ?_)
          clear hK K'
          try simp only [Act.put, List.setIfInBounds_toArray, List.set_cons_zero, List.set_cons_succ]
          refine tail_take2 8 rfl (by kernel_rfl) (by kernel_rfl) (by kernel_rfl) (by decide) (fun _ _ _ h => h) (by rfl) (v := ?_) ?_ (by assumption) ?_
          rotate_left 1
          · intro w' hS'; obtain ⟨c0, c1, c2, c3, c4, c5, c6, c7, cL⟩ := hS'; go_simp; try with_reducible rfl
          try simp only [Act.put, List.setIfInBounds_toArray, List.set_cons_zero, List.set_cons_succ]
          refine tail_take2 9 rfl (by kernel_rfl) (by kernel_rfl) (by kernel_rfl) (by decide) (fun _ _ _ h => h) (by rfl) (v := ?_) ?_ (by assumption) ?_
          rotate_left 1
          · intro w' hS'; obtain ⟨c0, c1, c2, c3, c4, c5, c6, c7, cL⟩ := hS'; go_simp; try with_reducible rfl
          try simp only [Act.put, List.setIfInBounds_toArray, List.set_cons_zero, List.set_cons_succ]
          refine tail_take2 10 rfl (by kernel_rfl) (by kernel_rfl) (by kernel_rfl) (by decide) (fun _ _ _ h => h) (by rfl) (v := ?_) ?_ (by assumption) ?_
          rotate_left 1
          · intro w' hS'; obtain ⟨c0, c1, c2, c3, c4, c5, c6, c7, cL⟩ := hS'; go_simp; try with_reducible rfl
          try simp only [Act.put, List.setIfInBounds_toArray, List.set_cons_zero, List.set_cons_succ]
          refine tail_call 11 rfl (by kernel_rfl) rfl (fun K' hK => ?_)
          go_simp
          have hbz : Below w5.heap.size w5 (w5.alloc (.cells #[.int .i64 0, .int .i64 0, .int .i64 0, .int .i64 0, .int .i64 0, .int .i64 0] 35)) := (Below.refl _ _).alloc (Nat.le_refl _) _
          have HX6 := hide (HX5.out.next hbz)
          have HC6 := hide ((hbz.cell (p := ⟨bL, oL + j, none⟩) (Nat.lt_of_lt_of_le hbL (Nat.le_trans HSZB.out HB5.out.size))).trans HC5.out)
          have HZ := hide (heap_alloc_new w5 (.cells #[.int .i64 0, .int .i64 0, .int .i64 0, .int .i64 0, .int .i64 0, .int .i64 0] 35))
          have HLT := hide (show w.heap.size < w5.heap.size from HX5.out.lt)
          have HLB := hide (Nat.le_trans HSZB.out HB5.out.size)
          refine hK.out _ _ (by (try dsimp only); exact ⟨HX6.out.cells.1, HX6.out.cells.2.1, HX6.out.cells.2.2.1, HX6.out.cells.2.2.2.1, HX6.out.cells.2.2.2.2.1, HX6.out.cells.2.2.2.2.2.1, HX6.out.cells.2.2.2.2.2.2.1, HX6.out.cells.2.2.2.2.2.2.2, HC6.out⟩) (fun hS' => ?_)
          clear hK K'
          try simp only [Act.put, List.setIfInBounds_toArray, List.set_cons_zero, List.set_cons_succ]
          obtain ⟨wz, hwz⟩ : ∃ wz, w5.alloc (.cells #[.int .i64 0, .int .i64 0, .int .i64 0, .int .i64 0, .int .i64 0, .int .i64 0] 35) = wz := ⟨_, rfl⟩
          rw [hwz] at hS' HX6 HC6 HZ ⊢
          clear hwz hbz
          obtain ⟨y0, y1, y2, y3, y4, y5, g0, g1, g2, g3, g4, g5⟩ := row6F HZ.out
          have HZ9 := hide (row_set6F HZ.out (.int .i64 p) (.int .i64 k) (.int .i64 g) (.int .i64 D) (.int .i64 K) (.int .i64 Cn))
          have HX9 := hide (fbox_set6 HX6.out HLT.out (.int .i64 p) (.int .i64 k) (.int .i64 g) (.int .i64 D) (.int .i64 K) (.int .i64 Cn))
          have HC9 := hide (set6_cell HC6.out (Nat.lt_of_lt_of_le hbL HLB.out) (.int .i64 p) (.int .i64 k) (.int .i64 g) (.int .i64 D) (.int .i64 K) (.int .i64 Cn))
          obtain ⟨w9, hw9⟩ : ∃ w9, set6F wz w5.heap.size (.int .i64 p) (.int .i64 k) (.int .i64 g) (.int .i64 D) (.int .i64 K) (.int .i64 Cn) = w9 := ⟨_, rfl⟩
          rw [hw9] at HZ9 HX9 HC9
          unfold set6F at hw9
          refine tail_call 12 rfl (by kernel_rfl) rfl (fun K' hK => ?_)
          go_simp
          try rw [hw9]
          clear hw9 y0 y1 y2 y3 y4 y5 g0 g1 g2 g3 g4 g5
          refine hK.out _ _ (by (try dsimp only); exact ⟨HX9.out.cells.1, HX9.out.cells.2.1, HX9.out.cells.2.2.1, HX9.out.cells.2.2.2.1, HX9.out.cells.2.2.2.2.1, HX9.out.cells.2.2.2.2.2.1, HX9.out.cells.2.2.2.2.2.2.1, HX9.out.cells.2.2.2.2.2.2.2, HC9.out⟩) (fun hS' => ?_)
          clear hK K'
          try simp only [Act.put, List.setIfInBounds_toArray, List.set_cons_zero, List.set_cons_succ]
          refine tail_take2 13 rfl (by kernel_rfl) (by kernel_rfl) (by kernel_rfl) (by decide) (fun _ _ _ h => h) (by rfl) (v := ?_) ?_ (by assumption) ?_
          rotate_left 1
          · intro w' hS'; obtain ⟨c0, c1, c2, c3, c4, c5, c6, c7, cL⟩ := hS'; go_simp; try with_reducible rfl
          try simp only [Act.put, List.setIfInBounds_toArray, List.set_cons_zero, List.set_cons_succ]
          refine tail_end (by kernel_rfl) ?_
          obtain ⟨y0, y1, y2, y3, y4, y5, _, _, _, _, _, _⟩ := row6F HZ9.out
          obtain ⟨c0, c1, c2, c3, c4, c5, c6, c7⟩ := HX9.out.cells
          have hc9 := HC9.out
          rcases hnd : decide ((nd : Int) ≤ D) with _ | _
          · have HN := hide (HNX.out (by rw [hnd]; rfl))
            go_wp2_with fail
            go_roundw
            case rel => exact ⟨j + 1, by omega, by go_num, HN, HX9.out⟩
            case measure => simp [intOf]; omega
          · have HV := hide (HYS.out (by rw [hnd]; rfl))
            go_wp2_with fail
            go_ret2
            exact ⟨ret_ii HV.out.1 HV.out.2, HX9.out.2⟩
        · go_simp
          have hbz : Below wd.heap.size wd (wd.alloc (.cells #[.int .i64 0, .int .i64 0, .int .i64 0, .int .i64 0, .int .i64 0, .int .i64 0] 35)) := (Below.refl _ _).alloc (Nat.le_refl _) _
          have HX5 := hide (HXd.out.next hbz)
          have HC5 := hide ((hbz.cell (p := ⟨bL, oL + j, none⟩) (Nat.lt_of_lt_of_le hbL HSZD.out)).trans HCL.out)
          have HB5 := hide (HBD.out.trans (hbz.mono HBD.out.size))
          have HZ5 := hide (heap_alloc_new wd (.cells #[.int .i64 0, .int .i64 0, .int .i64 0, .int .i64 0, .int .i64 0, .int .i64 0] 35))
          have HLT := hide (show w.heap.size < wd.heap.size from HXd.out.lt)
          have HLB := hide HSZD.out
          refine hK.out _ _ (by (try dsimp only); exact ⟨HX5.out.cells.1, HX5.out.cells.2.1, HX5.out.cells.2.2.1, HX5.out.cells.2.2.2.1, HX5.out.cells.2.2.2.2.1, HX5.out.cells.2.2.2.2.2.1, HX5.out.cells.2.2.2.2.2.2.1, HX5.out.cells.2.2.2.2.2.2.2, HC5.out⟩) (fun hS' => ?_)
          clear hK K'
          try simp only [Act.put, List.setIfInBounds_toArray, List.set_cons_zero, List.set_cons_succ]
          obtain ⟨wy, hwy⟩ : ∃ wy, wd.alloc (.cells #[.int .i64 0, .int .i64 0, .int .i64 0, .int .i64 0, .int .i64 0, .int .i64 0] 35) = wy := ⟨_, rfl⟩
          rw [hwy] at hS' HX5 HC5 HB5 HZ5 ⊢
          clear hwy hbz
          refine tail_call 7 rfl (by kernel_rfl) rfl (fun K' hK => ?_)
          go_simp
          go_at_call 28; refine (HLC.out _ (HI.out.below (HX5.out.2.mono HBW.out)) (HJ.out.below (HX5.out.2.mono HBW.out)) (Nat.le_trans HBW.out (Nat.le_of_lt HX5.out.lt))).mono ?_; rintro e wz ⟨rfl, hb⟩
          have HX6 := hide (HX5.out.next hb)
          have HC6 := hide ((hb.cell (p := ⟨bL, oL + j, none⟩) (Nat.lt_of_lt_of_le hbL (Nat.le_trans HSZB.out HB5.out.size))).trans HC5.out)
          have HZ := hide (heap_nextF HZ5.out hb)
          clear hb
          refine hK.out _ _ (by (try dsimp only); exact ⟨HX6.out.cells.1, HX6.out.cells.2.1, HX6.out.cells.2.2.1, HX6.out.cells.2.2.2.1, HX6.out.cells.2.2.2.2.1, HX6.out.cells.2.2.2.2.2.1, HX6.out.cells.2.2.2.2.2.2.1, HX6.out.cells.2.2.2.2.2.2.2, HC6.out⟩) (fun hS' => ?_)
          clear hK K'
          try simp only [Act.put, List.setIfInBounds_toArray, List.set_cons_zero, List.set_cons_succ]
          refine tail_take2 8 rfl (by kernel_rfl) (by kernel_rfl) (by kernel_rfl) (by decide) (fun _ _ _ h => h) (by rfl) (v := ?_) ?_ (by assumption) ?_
          rotate_left 1
          · intro w' hS'; obtain ⟨c0, c1, c2, c3, c4, c5, c6, c7, cL⟩ := hS'; go_simp; try with_reducible rfl
          try simp only [Act.put, List.setIfInBounds_toArray, List.set_cons_zero, List.set_cons_succ]
          refine tail_take2 9 rfl (by kernel_rfl) (by kernel_rfl) (by kernel_rfl) (by decide) (fun _ _ _ h => h) (by rfl) (v := ?_) ?_ (by assumption) ?_
          rotate_left 1
          · intro w' hS'; obtain ⟨c0, c1, c2, c3, c4, c5, c6, c7, cL⟩ := hS'; go_simp; try with_reducible rfl
          try simp only [Act.put, List.setIfInBounds_toArray, List.set_cons_zero, List.set_cons_succ]
          refine tail_take2 10 rfl (by kernel_rfl) (by kernel_rfl) (by kernel_rfl) (by decide) (fun _ _ _ h => h) (by rfl) (v := ?_) ?_ (by assumption) ?_
          rotate_left 1
          · intro w' hS'; obtain ⟨c0, c1, c2, c3, c4, c5, c6, c7, cL⟩ := hS'; go_simp; try with_reducible rfl
          try simp only [Act.put, List.setIfInBounds_toArray, List.set_cons_zero, List.set_cons_succ]
          obtain ⟨y0, y1, y2, y3, y4, y5, g0, g1, g2, g3, g4, g5⟩ := row6F HZ.out
          have HZ9 := hide (row_set6F HZ.out (.int .i64 p) (.int .i64 k) (.int .i64 g) (.int .i64 D) (.int .i64 K) (.int .i64 Cn))
          have HX9 := hide (fbox_set6 HX6.out HLT.out (.int .i64 p) (.int .i64 k) (.int .i64 g) (.int .i64 D) (.int .i64 K) (.int .i64 Cn))
          have HC9 := hide (set6_cell HC6.out (Nat.lt_of_lt_of_le hbL HLB.out) (.int .i64 p) (.int .i64 k) (.int .i64 g) (.int .i64 D) (.int .i64 K) (.int .i64 Cn))
          obtain ⟨w9, hw9⟩ : ∃ w9, set6F wz wd.heap.size (.int .i64 p) (.int .i64 k) (.int .i64 g) (.int .i64 D) (.int .i64 K) (.int .i64 Cn) = w9 := ⟨_, rfl⟩
          rw [hw9] at HZ9 HX9 HC9
          unfold set6F at hw9
          refine tail_call 12 rfl (by kernel_rfl) rfl (fun K' hK => ?_)
          go_simp
          try rw [hw9]
          clear hw9 y0 y1 y2 y3 y4 y5 g0 g1 g2 g3 g4 g5
          refine hK.out _ _ (by (try dsimp only); exact ⟨HX9.out.cells.1, HX9.out.cells.2.1, HX9.out.cells.2.2.1, HX9.out.cells.2.2.2.1, HX9.out.cells.2.2.2.2.1, HX9.out.cells.2.2.2.2.2.1, HX9.out.cells.2.2.2.2.2.2.1, HX9.out.cells.2.2.2.2.2.2.2, HC9.out⟩) (fun hS' => ?_)
          clear hK K'
          try simp only [Act.put, List.setIfInBounds_toArray, List.set_cons_zero, List.set_cons_succ]
          refine tail_take2 13 rfl (by kernel_rfl) (by kernel_rfl) (by kernel_rfl) (by decide) (fun _ _ _ h => h) (by rfl) (v := ?_) ?_ (by assumption) ?_
          rotate_left 1
          · intro w' hS'; obtain ⟨c0, c1, c2, c3, c4, c5, c6, c7, cL⟩ := hS'; go_simp; try with_reducible rfl
          try simp only [Act.put, List.setIfInBounds_toArray, List.set_cons_zero, List.set_cons_succ]
          refine tail_end (by kernel_rfl) ?_
          obtain ⟨y0, y1, y2, y3, y4, y5, _, _, _, _, _, _⟩ := row6F HZ9.out
          obtain ⟨c0, c1, c2, c3, c4, c5, c6, c7⟩ := HX9.out.cells
          have hc9 := HC9.out
          rcases hnd : decide ((nd : Int) ≤ D) with _ | _
          · have HN := hide (HNX.out (by rw [hnd]; rfl))
            go_wp2_with fail
            go_roundw
            case rel => exact ⟨j + 1, by omega, by go_num, HN, HX9.out⟩
            case measure => simp [intOf]; omega
          · have HV := hide (HYS.out (by rw [hnd]; rfl))
            go_wp2_with fail
            go_ret2
            exact ⟨ret_ii HV.out.1 HV.out.2, HX9.out.2⟩
    · have HV := hide (HNN.out (by rw [← HR.out, List.drop_of_length_le (by rw [HLN.out]; omega)]; rfl))
      go_wp2_with fail
      go_ret2
      exact ⟨ret_ii HV.out.1 HV.out.2, HX3.out.2⟩
-- END SPEC
theorem bothFSmallestSize (s : ByteArray) (κ p k g C : Int) (zs ls : List Int) (lv : Int) (m : ByteArray) (hm : m.size ≤ 1048576) (hs : s.size ≤ 1099511627776) (hz : zs.length ≤ 1048576) (hl : ls.length ≤ 1048576) : ∃ (v cd : Int),
    (∀ (A : Option Addr) (n c : Nat) (A' : Option Addr) (n' c' : Nat) (w : World), Ints .i64 w w.heap.size A n zs → Ints .i64 w w.heap.size A' n' ls → Calls Tryz.prog 8 #[.agg #[.string s, .int .i64 κ, .int .i64 p, .int .i64 k, .int .i64 g, .slice A n c, .int .i64 C, .slice A' n' c'], .int .i64 lv, .string m] w (GivesII v cd w)) ∧
    (∀ (A : Option Addr) (n c : Nat) (A' : Option Addr) (n' c' : Nat) (w : World), Ints .i64 w w.heap.size A n zs → Ints .i64 w w.heap.size A' n' ls → Calls Tryz.prog 7 #[.agg #[.string s, .int .i64 κ, .int .i64 p, .int .i64 k, .int .i64 g, .slice A n c, .int .i64 C, .slice A' n' c'], .int .i64 lv, .string m] w (GivesII v cd w)) :=
  ⟨_, _, fun A n c A' n' c' w hI hJ => specSmall s κ p k g A n c C A' n' c' w.heap.size zs ls lv m w hs (by omega) hI hJ (Nat.le_refl _) (by rw [← hI.len]; omega) (by rw [← hJ.len]; omega), fun A n c A' n' c' w hI hJ => implSmall s κ p k g A n c C A' n' c' w.heap.size zs ls lv m w hs (by omega) hI hJ (Nat.le_refl _) (by rw [← hI.len]; omega) (by rw [← hJ.len]; omega)⟩
end Go.Proofs.YtncgeoliboidhaaGreat

namespace Go.Proofs.YtncgeoliboidhaaGreat
open Go.RowKit
set_option linter.unusedSimpArgs false
set_option linter.unusedVariables false

theorem sm_key {f : Int → Bool} {zs : List Int} {z : Int} (hup : ∀ (i j : Nat) (x y : Int), zs[i]? = some x → zs[j]? = some y → i < j → x < y) (hf : zs.find? f = some z) {i : Nat} {x : Int} (hi : zs[i]? = some x) (hle : x ≤ z) : f x = (x == z) := by
  obtain ⟨hz, m, hm, hmz, hb⟩ := List.find?_eq_some_iff_getElem.1 hf
  have hmz' : zs[m]? = some z := by rw [List.getElem?_eq_getElem hm, hmz]
  rcases Nat.lt_trichotomy i m with h | h | h
  · have h1 := hup i m x z hi hmz' h
    have h2 := hb i h
    rw [List.getElem?_eq_getElem (by omega)] at hi
    injection hi with hi
    rw [hi] at h2
    have e : (x == z) = false := by simp; omega
    rw [e]; simpa using h2
  · subst h
    rw [hi] at hmz'
    injection hmz' with e
    subst e
    rw [hz]; simp
  · have h1 := hup m i z x hmz' hi h
    omega
theorem fsm_key (s : ByteArray) (κ p k g C : Int) (zs ls : List Int) (lv : Int) (m : ByteArray) (hs : s.size ≤ 9) (hz : zs.length ≤ 8) (hl : ls.length ≤ 8) (hm : m.size ≤ 1048576) :
    (∃ v cd : Int, (cd != 0) = true ∧ (∀ (A : Option Addr) (n c : Nat) (A' : Option Addr) (n' c' : Nat) (w : World), Ints .i64 w w.heap.size A n zs → Ints .i64 w w.heap.size A' n' ls → Calls Tryz.prog 7 #[.agg #[.string s, .int .i64 κ, .int .i64 p, .int .i64 k, .int .i64 g, .slice A n c, .int .i64 C, .slice A' n' c'], .int .i64 lv, .string m] w (GivesII v cd w)) ∧ (∀ (A : Option Addr) (n c : Nat) (A' : Option Addr) (n' c' : Nat) (w : World), Ints .i64 w w.heap.size A n zs → Ints .i64 w w.heap.size A' n' ls → Calls Tryz.prog 8 #[.agg #[.string s, .int .i64 κ, .int .i64 p, .int .i64 k, .int .i64 g, .slice A n c, .int .i64 C, .slice A' n' c'], .int .i64 lv, .string m] w (GivesII v cd w))) ∨
    (∃ (z : Int) (nd : Nat), (∀ (A : Option Addr) (n c : Nat) (A' : Option Addr) (n' c' : Nat) (w : World), Ints .i64 w w.heap.size A n zs → Ints .i64 w w.heap.size A' n' ls → Calls Tryz.prog 7 #[.agg #[.string s, .int .i64 κ, .int .i64 p, .int .i64 k, .int .i64 g, .slice A n c, .int .i64 C, .slice A' n' c'], .int .i64 lv, .string m] w (GivesII z 0 w)) ∧ (∀ (A : Option Addr) (n c : Nat) (A' : Option Addr) (n' c' : Nat) (w : World), Ints .i64 w w.heap.size A n zs → Ints .i64 w w.heap.size A' n' ls → Calls Tryz.prog 8 #[.agg #[.string s, .int .i64 κ, .int .i64 p, .int .i64 k, .int .i64 g, .slice A n c, .int .i64 C, .slice A' n' c'], .int .i64 lv, .string m] w (GivesII z 0 w)) ∧
      (∀ w : World, Calls Tryz.prog 9 #[.agg #[.int .i64 p, .int .i64 k, .int .i64 g], .string m] w (GivesII nd 0 w)) ∧
      ∀ (i : Nat) (x : Int), zs[i]? = some x → x ≤ z → ∃ v0 v1 v2 v3 v4 v5 cd : Int, ((cd == 0) && decide ((nd : Int) ≤ v3)) = (x == z) ∧ (∀ (A : Option Addr) (n c : Nat) (A' : Option Addr) (n' c' : Nat) (w : World), Ints .i64 w w.heap.size A n zs → Ints .i64 w w.heap.size A' n' ls → Calls Tryz.prog 10 #[.agg #[.string s, .int .i64 κ, .int .i64 p, .int .i64 k, .int .i64 g, .slice A n c, .int .i64 C, .slice A' n' c'], .int .i64 x, .int .i64 lv] w (Gives (.tuple #[.agg #[.int .i64 v0, .int .i64 v1, .int .i64 v2, .int .i64 v3, .int .i64 v4, .int .i64 v5], .int .i64 cd]) w))) := by
  have hI := fun A n c A' n' c' w hI hJ => implSmall s κ p k g A n c C A' n' c' w.heap.size zs ls lv m w (by omega) (by omega) hI hJ (Nat.le_refl _) (by rw [← hI.len]; omega) (by rw [← hJ.len]; omega)
  have hS := fun A n c A' n' c' w hI hJ => specSmall s κ p k g A n c C A' n' c' w.heap.size zs ls lv m w (by omega) (by omega) hI hJ (Nat.le_refl _) (by rw [← hI.len]; omega) (by rw [← hJ.len]; omega)
  by_cases h0 : ssC (bytesI s) κ p k g zs C ls lv m = 0
  · refine .inr ?_
    have hF : fmB (bytesI s) κ p k g zs C ls = true := by
      rcases h : fmB (bytesI s) κ p k g zs C ls with _ | _
      · rw [(ss_1 h).1] at h0; cases h0
      · rfl
    have hL : idxOk ls lv = true := by
      rcases h : idxOk ls lv with _ | _
      · rw [(ss_2 hF h).1] at h0; cases h0
      · rfl
    have hM : ¬ 400 < m.size := fun h => by rw [(ss_3 hF hL h).1] at h0; cases h0
    rcases hq : zs.find? (okSz κ p k g C ls lv (needN p k m)) with _ | z
    · rw [(ss_none hF hL hM hq).2] at h0; cases h0
    have hv := (ss_yes hF hL hM hq).1
    have hFI := fm_is hF
    obtain ⟨q, mul, _, hK, -⟩ := fieldB_open hFI.fld
    obtain ⟨hq8, hq256⟩ := fm_q hFI.two hK
    have hP := fun w' => implPs hFI.fld hK m (by omega) w'
    obtain ⟨e1, nd, e2, hnd⟩ := pay_ok (s := m) (by omega) (wdt_3 hq8 (by omega))
    rw [e1, e2] at hP
    have hN : needN p k m = nd := by unfold needN; rw [qN_is hK, e2]; simp
    rw [hN] at hq
    rw [h0, hv] at hI hS
    refine ⟨z, nd, hI, hS, hP, fun i x hx hle => ?_⟩
    have hk := sm_key hFI.up hq hx hle
    have hc := lo_in (z := x) hF (List.mem_of_getElem? hx) hL
    have hLO := fun A n c A' n' c' w hI hJ => implLayOf s κ p k g A n c C A' n' c' w.heap.size zs ls x lv w (by omega) hI hJ (Nat.le_refl _) (by rw [← hI.len]; omega) (by rw [← hJ.len]; omega)
    unfold okSz at hk
    rcases hb : layB p k g (lyD κ p k C x ls lv) (lyK κ p k C x ls lv) (lyC κ p k C x) with _ | _
    · rw [hb] at hk hc
      refine ⟨0, 0, 0, 0, 0, 0, 3, hk, fun A n c A' n' c' w hI hJ => (hLO A n c A' n' c' w hI hJ).mono (fun e w' h => ?_)⟩
      rw [hc] at h
      exact ⟨h.2.1 (by decide), h.2.2⟩
    · rw [hb] at hk hc
      refine ⟨p, k, g, lyD κ p k C x ls lv, lyK κ p k C x ls lv, lyC κ p k C x, 0, hk, fun A n c A' n' c' w hI hJ => (hLO A n c A' n' c' w hI hJ).mono (fun e w' h => ?_)⟩
      rw [hc] at h
      exact ⟨h.1 rfl, h.2.2⟩
  · exact .inl ⟨_, _, by simpa using h0, hI, hS⟩
end Go.Proofs.YtncgeoliboidhaaGreat
