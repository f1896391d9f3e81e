/-
  The layout of a symbol: the program.
  Condition: as each statement says.
-/
import Derived.Test.YtncgeoliboidhaaGreatFmImpl4
import Derived.Test.YtncgeoliboidhaaGreatVK
namespace Go.Proofs.YtncgeoliboidhaaGreat
open Go.RowKit
set_option linter.unusedSimpArgs false
set_option linter.unusedVariables false

/-- How many elements a field of these numbers has. -/
def qN (p k : Int) : Nat := (sizeI p k).toNat
theorem qN_is {p k g : Int} {q : Nat} {mul : Nat → Nat → Nat} (hK : Kd p k g q mul) : qN p k = q := by unfold qN; rw [hK.size]; simp
/-- The percentage of a level. -/
def lvP (ls : List Int) (lv : Int) : Nat := (ls[lv.toNat]?.getD 0).toNat
def lyE (κ p k C z : Int) : Nat := elN κ (wdt (qN p k)) z C
def lyD (κ p k C z : Int) (ls : List Int) (lv : Int) : Int := loD (lyE κ p k C z) (qN p k - 1) (lvP ls lv)
def lyK (κ p k C z : Int) (ls : List Int) (lv : Int) : Int := (loK (lyE κ p k C z) (qN p k - 1) (lvP ls lv) : Nat)
def lyC (κ p k C z : Int) : Int := (loC (lyE κ p k C z) (qN p k - 1) : Nat)
/-- Whether a number is an index of a list. -/
def idxOk (ls : List Int) (lv : Int) : Bool := decide (0 ≤ lv ∧ lv < (ls.length : Int))
/-- The code of LayoutOf. -/
def loCode (bs : List Int) (κ p k g : Int) (zs : List Int) (C : Int) (ls : List Int) (z lv : Int) : Int :=
  if fmB bs κ p k g zs C ls = false then 1 else if (decide (z ∈ zs) && idxOk ls lv) = false then 2 else if layB p k g (lyD κ p k C z ls lv) (lyK κ p k C z ls lv) (lyC κ p k C z) = false then 3 else 0
/-- What LayoutOf gives. -/
def LoGives (code p k g D K C : Int) (w : World) (x : Ending) (w' : World) : Prop :=
  (code = 0 → x = .returned (.tuple #[.agg #[.int .i64 p, .int .i64 k, .int .i64 g, .int .i64 D, .int .i64 K, .int .i64 C], .int .i64 0])) ∧
  (code ≠ 0 → x = .returned (.tuple #[.agg #[.int .i64 0, .int .i64 0, .int .i64 0, .int .i64 0, .int .i64 0, .int .i64 0], .int .i64 code])) ∧ Below w.heap.size w w'
theorem lo_bad {code c p k g D K C : Int} {w w' : World} (h : code = c) (hc : c ≠ 0) (hb : Below w.heap.size w w') :
    LoGives code p k g D K C w (.returned (.tuple #[.agg #[.int .i64 0, .int .i64 0, .int .i64 0, .int .i64 0, .int .i64 0, .int .i64 0], .int .i64 c])) w' := by
  subst h
  exact ⟨fun e => absurd e hc, fun _ => rfl, hb⟩
theorem lo_bad3 {code p k g D K C : Int} {w w' : World} (h : code = if false = false then 3 else 0) (hb : Below w.heap.size w w') :
    LoGives code p k g D K C w (.returned (.tuple #[.agg #[.int .i64 0, .int .i64 0, .int .i64 0, .int .i64 0, .int .i64 0, .int .i64 0], .int .i64 3])) w' := lo_bad (c := 3) h (by decide) hb
theorem lo_good {code p k g D K C : Int} {w w' : World} (h : code = if true = false then 3 else 0) (hb : Below w.heap.size w w') :
    LoGives code p k g D K C w (.returned (.tuple #[.agg #[.int .i64 p, .int .i64 k, .int .i64 g, .int .i64 D, .int .i64 K, .int .i64 C], .int .i64 0])) w' := by
  have h0 : code = 0 := h
  exact ⟨fun _ => rfl, fun e => absurd h0 e, hb⟩
theorem lo_1 {bs : List Int} {κ p k g : Int} {zs : List Int} {C : Int} {ls : List Int} {z lv : Int} (h : fmB bs κ p k g zs C ls = false) : loCode bs κ p k g zs C ls z lv = 1 := by unfold loCode; rw [if_pos h]
theorem lo_2 {bs : List Int} {κ p k g : Int} {zs : List Int} {C : Int} {ls : List Int} {z lv : Int} (h : fmB bs κ p k g zs C ls = true) (h2 : (decide (z ∈ zs) && idxOk ls lv) = false) : loCode bs κ p k g zs C ls z lv = 2 := by
  unfold loCode; rw [if_neg (by rw [h]; decide), if_pos h2]
theorem lo_3 {bs : List Int} {κ p k g : Int} {zs : List Int} {C : Int} {ls : List Int} {z lv : Int} (h : fmB bs κ p k g zs C ls = true) (h2 : (decide (z ∈ zs) && idxOk ls lv) = true) :
    loCode bs κ p k g zs C ls z lv = if layB p k g (lyD κ p k C z ls lv) (lyK κ p k C z ls lv) (lyC κ p k C z) = false then 3 else 0 := by
  unfold loCode; rw [if_neg (by rw [h]; decide), if_neg (by rw [h2]; decide)]

theorem heap_nextF {w w' : World} {i : Nat} {o : Obj} (h : w.heap[i]? = some o) (hb : Below w.heap.size w w') : w'.heap[i]? = some o := by
  rw [hb.block i (Array.getElem?_eq_some_iff.1 h).1]; exact h
theorem row_lt {w : World} {i : Nat} {o : Obj} (h : w.heap[i]? = some o) : i < w.heap.size := (Array.getElem?_eq_some_iff.1 h).1
def set6F (w : World) (N : Nat) (x0 x1 x2 x3 x4 x5 : Value) : World := (((((w.setCell ⟨N, 0, none⟩ x0).setCell ⟨N, 1, none⟩ x1).setCell ⟨N, 2, none⟩ x2).setCell ⟨N, 3, none⟩ x3).setCell ⟨N, 4, none⟩ x4).setCell ⟨N, 5, none⟩ x5
theorem set6F_size (w : World) (N : Nat) (x0 x1 x2 x3 x4 x5 : Value) : (set6F w N x0 x1 x2 x3 x4 x5).heap.size = w.heap.size := by simp [set6F, World.setCell]
theorem row_set6F {w : World} {N : Nat} {y0 y1 y2 y3 y4 y5 : Value} {t : TypeId} (h : w.heap[N]? = some (.cells #[y0, y1, y2, y3, y4, y5] t (0, 0))) (x0 x1 x2 x3 x4 x5 : Value) : (set6F w N x0 x1 x2 x3 x4 x5).heap[N]? = some (.cells #[x0, x1, x2, x3, x4, x5] t (0, 0)) :=
  heap_setCell_same _ N 5 _ _ _ (heap_setCell_same _ N 4 _ _ _ (heap_setCell_same _ N 3 _ _ _ (heap_setCell_same _ N 2 _ _ _ (heap_setCell_same _ N 1 _ _ _ (heap_setCell_same w N 0 _ _ _ h)))))
theorem row_other6 {w : World} {N i : Nat} {o : Obj} (h : w.heap[i]? = some o) (hi : i < N) (x0 x1 x2 x3 x4 x5 : Value) : (set6F w N x0 x1 x2 x3 x4 x5).heap[i]? = some o := by
  unfold set6F
  rw [Below.heap_setCell _ _ _ _ (by simp only []; omega), Below.heap_setCell _ _ _ _ (by simp only []; omega), Below.heap_setCell _ _ _ _ (by simp only []; omega), Below.heap_setCell _ _ _ _ (by simp only []; omega), Below.heap_setCell _ _ _ _ (by simp only []; omega), Below.heap_setCell _ _ _ _ (by simp only []; omega)]
  exact h
theorem below_set6 {B : Nat} {a w : World} (h : Below B a w) {N : Nat} (hN : B ≤ N) (x0 x1 x2 x3 x4 x5 : Value) : Below B a (set6F w N x0 x1 x2 x3 x4 x5) :=
  (((((h.setCell hN _).setCell hN _).setCell hN _).setCell hN _).setCell hN _).setCell hN _
theorem fbox_set6 {w wr : World} {s : ByteArray} {κ p k g : Int} {A : Option Addr} {n c : Nat} {C : Int} {A' : Option Addr} {n' c' : Nat} (h : FBox w wr s κ p k g A n c C A' n' c') {N : Nat} (hN : w.heap.size < N) (x0 x1 x2 x3 x4 x5 : Value) :
    FBox w (set6F wr N x0 x1 x2 x3 x4 x5) s κ p k g A n c C A' n' c' := ⟨row_other6 h.1 hN _ _ _ _ _ _, below_set6 h.2 (Nat.le_of_lt hN) _ _ _ _ _ _⟩

set_option maxHeartbeats 1000000 in
theorem implHasSz (s : ByteArray) (κ p k g : Int) (A : Option Addr) (n c : Nat) (C : Int) (A' : Option Addr) (n' c' B : Nat) (zs : List Int) (z : Int) (w : World) (hI : Ints .i64 w B A n zs) (hB : B ≤ w.heap.size) (hn : n ≤ 1099511627776) :
    Calls Tryz.prog 33 #[.agg #[.string s, .int .i64 κ, .int .i64 p, .int .i64 k, .int .i64 g, .slice A n c, .int .i64 C, .slice A' n' c'], .int .i64 z] w (Gives (.bool (decide (z ∈ zs))) w) := by
  have HX := hide (FBox.start w s κ p k g A n c C A' n' c')
  obtain ⟨c0, c1, c2, c3, c4, c5, c6, c7⟩ := HX.out.cells
  have HC := hide (implContainsF A n c B zs z _ (hI.below (HX.out.2.mono hB)) hn)
  generalize decide (z ∈ zs) = b at *
  clear hI
  go_enter Tryz.func33, Tryz.ntmps33
  go_wp2_with fail
  refine HC.out.mono ?_
  rintro e w1 ⟨rfl, rfl⟩
  go_wp2_with fail
  go_ret
  exact ⟨rfl, HX.out.2⟩
set_option maxHeartbeats 1000000 in
theorem implHasLv (s : ByteArray) (κ p k g : Int) (A : Option Addr) (n c : Nat) (C : Int) (A' : Option Addr) (n' c' : Nat) (ls : List Int) (hl : ls.length = n') (lv : Int) (hn' : n' ≤ 1099511627776) (w : World) :
    Calls Tryz.prog 22 #[.agg #[.string s, .int .i64 κ, .int .i64 p, .int .i64 k, .int .i64 g, .slice A n c, .int .i64 C, .slice A' n' c'], .int .i64 lv] w (Gives (.bool (idxOk ls lv)) w) := by
  have HX := hide (FBox.start w s κ p k g A n c C A' n' c')
  obtain ⟨c0, c1, c2, c3, c4, c5, c6, c7⟩ := HX.out.cells
  have HI := hide (show idxOk ls lv = (decide (0 ≤ lv) && decide (lv < (n' : Int))) by rw [idxOk, hl, Bool.decide_and])
  clear hl
  rcases h1 : decide (0 ≤ lv) with _ | _
  · rw [h1] at HI
    go_enter Tryz.func22, Tryz.ntmps22
    go_wp2_with fail
    go_ret
    exact ⟨ret_bool HI.out, HX.out.2⟩
  · rw [h1] at HI
    rcases h2 : decide (lv < (n' : Int)) with _ | _ <;>
    ( rw [h2] at HI
      go_enter Tryz.func22, Tryz.ntmps22
      go_wp2_with fail
      go_ret
      exact ⟨ret_bool HI.out, HX.out.2⟩)
-- LAYOUTOF
set_option maxRecDepth 100000 in
set_option maxHeartbeats 16000000 in
theorem implLayOf (s : ByteArray) (κ p k g : Int) (A : Option Addr) (n c : Nat) (C : Int) (A' : Option Addr) (n' c' B : Nat) (zs ls : List Int) (z lv : Int) (w : World) (hs : s.size ≤ 1099511627776)
    (hI : Ints .i64 w B A n zs) (hJ : Ints .i64 w B A' n' ls) (hB : B ≤ w.heap.size) (hn : n ≤ 1099511627776) (hn' : n' ≤ 1099511627776) :
    Calls Tryz.prog 10 #[.agg #[.string s, .int .i64 κ, .int .i64 p, .int .i64 k, .int .i64 g, .slice A n c, .int .i64 C, .slice A' n' c'], .int .i64 z, .int .i64 lv] w (LoGives (loCode (bytesI s) κ p k g zs C ls z lv) p k g (lyD κ p k C z ls lv) (lyK κ p k C z ls lv) (lyC κ p k C z) w) := by
  have HFV := hide (fun w' hI hJ hB => implFmValid s κ p k g A n c C A' n' c' B zs ls w' hs hI hJ hB hn hn')
  have HHS := hide (fun w' hI hB => implHasSz s κ p k g A n c C A' n' c' B zs z w' hI hB hn)
  have HHL := hide (fun w' => implHasLv s κ p k g A n c C A' n' c' ls hJ.len lv hn' w')
  have HX := hide ((FBox.start w s κ p k g A n c C A' n' c').alloc (.cells #[.int .i64 0, .int .i64 0, .int .i64 0, .int .i64 0, .int .i64 0, .int .i64 0] 35))
  obtain ⟨wa, hwa⟩ : ∃ wa, w.alloc (.cells #[.string s, .int .i64 κ, .int .i64 p, .int .i64 k, .int .i64 g, .slice A n c, .int .i64 C, .slice A' n' c'] 28) = wa := ⟨_, rfl⟩
  rw [hwa] at HX
  obtain ⟨wb, hwb⟩ : ∃ wb, wa.alloc (.cells #[.int .i64 0, .int .i64 0, .int .i64 0, .int .i64 0, .int .i64 0, .int .i64 0] 35) = wb := ⟨_, rfl⟩
  rw [hwb] at HX
  have HR := hide (show wb.heap[wa.heap.size]? = some (.cells #[.int .i64 0, .int .i64 0, .int .i64 0, .int .i64 0, .int .i64 0, .int .i64 0] 35 (0, 0)) by rw [← hwb]; exact heap_alloc_new _ _)
  have HRG := hide (show w.heap.size ≤ wa.heap.size by rw [← hwa, alloc_size]; omega)
  obtain ⟨c0, c1, c2, c3, c4, c5, c6, c7⟩ := HX.out.cells
  have HI := hide hI
  rcases hF : fmB (bytesI s) κ p k g zs C ls with _ | _
  · have HC := hide (lo_1 (z := z) (lv := lv) hF)
    have HJ := hide hJ
    rw [hF] at HFV
    clear hI hJ hF
    go_enter Tryz.func10, Tryz.ntmps10
    go_wp2_with fail
    refine (HFV.out _ (HI.out.below (HX.out.2.mono hB)) (HJ.out.below (HX.out.2.mono hB)) (Nat.le_trans hB (Nat.le_of_lt HX.out.lt))).mono ?_
    rintro e w1 ⟨rfl, hb⟩
    have HX1 := hide (HX.out.next hb)
    have HR1 := hide (heap_nextF HR.out hb)
    clear hb c0 c1 c2 c3 c4 c5 c6 c7
    obtain ⟨c0, c1, c2, c3, c4, c5, c6, c7⟩ := HX1.out.cells
    obtain ⟨x0, x1, x2, x3, x4, x5, f0, f1, f2, f3, f4, f5⟩ := row6F HR1.out
    have HBv := hide HX1.out.2
    go_wp2_with fail
    have q1 : w.heap.size ≤ wa.heap.size := HRG.out
    refine bodyPost_ret (v := .tuple #[.agg #[.int .i64 0, .int .i64 0, .int .i64 0, .int .i64 0, .int .i64 0, .int .i64 0], .int .i64 1]) (by simp [results, Tryz.results10, go_sem, x0, x1, x2, x3, x4, x5]) rfl (lo_bad HC.out (by decide) ?_)
    repeat (with_reducible refine Below.setCell ?_ (by exact q1) _)
    exact HBv.out
  rw [hF] at HFV
  rcases hS : decide (z ∈ zs) with _ | _
  · have HC := hide (lo_2 (z := z) (lv := lv) hF (by rw [hS]; rfl))
    have HJ := hide hJ
    rw [hS] at HHS
    clear hI hJ hF hS
    go_enter Tryz.func10, Tryz.ntmps10
    go_wp2_with fail
    refine (HFV.out _ (HI.out.below (HX.out.2.mono hB)) (HJ.out.below (HX.out.2.mono hB)) (Nat.le_trans hB (Nat.le_of_lt HX.out.lt))).mono ?_
    rintro e w1 ⟨rfl, hb⟩
    have HX1 := hide (HX.out.next hb)
    have HR1 := hide (heap_nextF HR.out hb)
    clear hb c0 c1 c2 c3 c4 c5 c6 c7
    obtain ⟨c0, c1, c2, c3, c4, c5, c6, c7⟩ := HX1.out.cells
    go_wp2_with fail
    refine (HHS.out _ (HI.out.below (HX1.out.2.mono hB)) (Nat.le_trans hB (Nat.le_of_lt HX1.out.lt))).mono ?_
    rintro e w2 ⟨rfl, hb⟩
    have HX2 := hide (HX1.out.next hb)
    have HR2 := hide (heap_nextF HR1.out hb)
    clear hb c0 c1 c2 c3 c4 c5 c6 c7
    obtain ⟨c0, c1, c2, c3, c4, c5, c6, c7⟩ := HX2.out.cells
    obtain ⟨x0, x1, x2, x3, x4, x5, f0, f1, f2, f3, f4, f5⟩ := row6F HR2.out
    have HBv := hide HX2.out.2
    go_wp2_with fail
    have q1 : w.heap.size ≤ wa.heap.size := HRG.out
    refine bodyPost_ret (v := .tuple #[.agg #[.int .i64 0, .int .i64 0, .int .i64 0, .int .i64 0, .int .i64 0, .int .i64 0], .int .i64 2]) (by simp [results, Tryz.results10, go_sem, x0, x1, x2, x3, x4, x5]) rfl (lo_bad HC.out (by decide) ?_)
    repeat (with_reducible refine Below.setCell ?_ (by exact q1) _)
    exact HBv.out
  rw [hS] at HHS
  rcases hL : idxOk ls lv with _ | _
  · have HC := hide (lo_2 (z := z) (lv := lv) hF (by rw [hS, hL]; rfl))
    have HJ := hide hJ
    rw [hL] at HHL
    clear hI hJ hF hS hL
    go_enter Tryz.func10, Tryz.ntmps10
    go_wp2_with fail
    refine (HFV.out _ (HI.out.below (HX.out.2.mono hB)) (HJ.out.below (HX.out.2.mono hB)) (Nat.le_trans hB (Nat.le_of_lt HX.out.lt))).mono ?_
    rintro e w1 ⟨rfl, hb⟩
    have HX1 := hide (HX.out.next hb)
    have HR1 := hide (heap_nextF HR.out hb)
    clear hb c0 c1 c2 c3 c4 c5 c6 c7
    obtain ⟨c0, c1, c2, c3, c4, c5, c6, c7⟩ := HX1.out.cells
    go_wp2_with fail
    refine (HHS.out _ (HI.out.below (HX1.out.2.mono hB)) (Nat.le_trans hB (Nat.le_of_lt HX1.out.lt))).mono ?_
    rintro e w2 ⟨rfl, hb⟩
    have HX2 := hide (HX1.out.next hb)
    have HR2 := hide (heap_nextF HR1.out hb)
    clear hb c0 c1 c2 c3 c4 c5 c6 c7
    obtain ⟨c0, c1, c2, c3, c4, c5, c6, c7⟩ := HX2.out.cells
    go_wp2_with fail
    refine (HHL.out _).mono ?_
    rintro e w3 ⟨rfl, hb⟩
    have HX3 := hide (HX2.out.next hb)
    have HR3 := hide (heap_nextF HR2.out hb)
    clear hb c0 c1 c2 c3 c4 c5 c6 c7
    obtain ⟨c0, c1, c2, c3, c4, c5, c6, c7⟩ := HX3.out.cells
    obtain ⟨x0, x1, x2, x3, x4, x5, f0, f1, f2, f3, f4, f5⟩ := row6F HR3.out
    have HBv := hide HX3.out.2
    go_wp2_with fail
    have q1 : w.heap.size ≤ wa.heap.size := HRG.out
    refine bodyPost_ret (v := .tuple #[.agg #[.int .i64 0, .int .i64 0, .int .i64 0, .int .i64 0, .int .i64 0, .int .i64 0], .int .i64 2]) (by simp [results, Tryz.results10, go_sem, x0, x1, x2, x3, x4, x5]) rfl (lo_bad HC.out (by decide) ?_)
    repeat (with_reducible refine Below.setCell ?_ (by exact q1) _)
    exact HBv.out
  · rw [hL] at HHL
    have hRES := lo_3 (z := z) (lv := lv) hF (by rw [hS, hL]; rfl)
    have hFI := fm_is hF
    obtain ⟨q, mul, _, hK, -⟩ := fieldB_open hFI.fld
    have hz : z ∈ zs := of_decide_eq_true hS
    simp only [idxOk, decide_eq_true_eq] at hL
    obtain ⟨l0, rfl⟩ : ∃ l0 : Nat, lv = l0 := ⟨lv.toNat, by omega⟩
    have hln : ls.length = n' := hJ.len
    have hl0 : l0 < n' := by omega
    obtain ⟨bL, oL0, Pv, rfl, hbL, hPv, hcL⟩ := hJ.at_ hl0
    have hPr := hFI.pct Pv (List.mem_of_getElem? hPv)
    obtain ⟨P, rfl⟩ : ∃ P : Nat, Pv = P := ⟨Pv.toNat, by omega⟩
    have hlP : lvP ls (l0 : Int) = P := by unfold lvP; rw [Int.toNat_natCast, hPv]; simp
    have HLO := hide (fun w' => implLo hK s κ A n c C (some ⟨bL, oL0, none⟩) n' c' zs ls hFI z hz P (by omega) w')
    obtain ⟨hq8, hq256⟩ := fm_q hFI.two hK
    obtain ⟨hw1, hw9, -, -⟩ := wdt_is hK.big.1 hK.big.2
    have hel := el_le hFI hw1 hw9 hz
    obtain ⟨_, _, _, _, _, _, _, -, -, -, -, -, -, -, -, -, hDd, r1, r2, -, -, -, -, -, -, r9⟩ := lo_nums (E := elN κ (wdt q) z C) (M := q - 1) (P := P) hel.1 hel.2 (by omega) (by omega) (by omega)
    have eD : lyD κ p k C z ls (l0 : Int) = loD (elN κ (wdt q) z C) (q - 1) P := by unfold lyD lyE; rw [hlP, qN_is hK]
    have eK : lyK κ p k C z ls (l0 : Int) = (loK (elN κ (wdt q) z C) (q - 1) P : Nat) := by unfold lyK lyE; rw [hlP, qN_is hK]
    have eC : lyC κ p k C z = (loC (elN κ (wdt q) z C) (q - 1) : Nat) := by unfold lyC lyE; rw [qN_is hK]
    have hc1408 := (lo_c (E := elN κ (wdt q) z C) (M := q - 1) hel.1 (by omega)).2
    rw [← eD, ← eK, ← eC] at HLO
    have hDr : -100000 ≤ lyD κ p k C z ls (l0 : Int) ∧ lyD κ p k C z ls (l0 : Int) ≤ 100000 := by rw [eD, hDd]; omega
    have hCr : -100000 ≤ lyC κ p k C z ∧ lyC κ p k C z ≤ 100000 := by rw [eC]; omega
    clear eD eK eC hDd r1 r2 r9 hc1408 hel hq8 hq256 hw1 hw9 hlP hPr hPv hFI hK hF hS hL hz
    generalize lyD κ p k C z ls (l0 : Int) = D at *
    generalize lyK κ p k C z ls (l0 : Int) = K at *
    generalize lyC κ p k C z = Cn at *
    have HVL := hide (fun w' => implLayValid p k g D K Cn w' (by omega) (by omega))
    obtain ⟨bV, hbV⟩ : ∃ bV, layB p k g D K Cn = bV := ⟨_, rfl⟩
    rw [hbV] at HVL hRES
    have HRES := hide hRES
    clear hbV hRES hDr hCr
    have HJ := hide hJ
    have HCL0 := hide hcL
    clear hI hJ hcL hln
    go_enter Tryz.func10, Tryz.ntmps10
    go_wp2_with fail
    refine (HFV.out _ (HI.out.below (HX.out.2.mono hB)) (HJ.out.below (HX.out.2.mono hB)) (Nat.le_trans hB (Nat.le_of_lt HX.out.lt))).mono ?_
    rintro e w1 ⟨rfl, hb⟩
    have HX1 := hide (HX.out.next hb)
    have HR1 := hide (heap_nextF HR.out hb)
    clear hb c0 c1 c2 c3 c4 c5 c6 c7
    obtain ⟨c0, c1, c2, c3, c4, c5, c6, c7⟩ := HX1.out.cells
    go_wp2_with fail
    refine (HHS.out _ (HI.out.below (HX1.out.2.mono hB)) (Nat.le_trans hB (Nat.le_of_lt HX1.out.lt))).mono ?_
    rintro e w2 ⟨rfl, hb⟩
    have HX2 := hide (HX1.out.next hb)
    have HR2 := hide (heap_nextF HR1.out hb)
    clear hb c0 c1 c2 c3 c4 c5 c6 c7
    obtain ⟨c0, c1, c2, c3, c4, c5, c6, c7⟩ := HX2.out.cells
    go_wp2_with fail
    refine (HHL.out _).mono ?_
    rintro e w3 ⟨rfl, hb⟩
    have HX3 := hide (HX2.out.next hb)
    have HR3 := hide (heap_nextF HR2.out hb)
    clear hb c0 c1 c2 c3 c4 c5 c6 c7
    obtain ⟨c0, c1, c2, c3, c4, c5, c6, c7⟩ := HX3.out.cells
    have HXd := hide HX3.out.drew
    have HRd := hide (show w3.drew.heap[wa.heap.size]? = some (.cells #[.int .i64 0, .int .i64 0, .int .i64 0, .int .i64 0, .int .i64 0, .int .i64 0] 35 (0, 0)) from HR3.out)
    have HCL := hide (show w3.drew.cell? ⟨bL, oL0 + l0, none⟩ = some (.int .i64 (P : Int)) from (HX3.out.2.cell (p := ⟨bL, oL0 + l0, none⟩) (Nat.lt_of_lt_of_le hbL hB)).trans HCL0.out)
    have HBD := hide (Below.refl w3.heap.size w3).drew
    have HSZB := hide (show B ≤ w3.heap.size from Nat.le_trans hB (Nat.le_of_lt HX3.out.lt))
    have HSZD := hide (show B ≤ w3.drew.heap.size from HSZB.out)
    clear HX HX1 HX2 HX3 HR HR1 HR2 HR3 c0 c1 c2 c3 c4 c5 c6 c7 hwa hwb HI HJ HFV HHS HHL
    go_wp2_with fail
    -- REGION
    refine tail_begin (fun w' => w'.cell? ⟨w.heap.size, 0, none⟩ = some (.string s) ∧ w'.cell? ⟨w.heap.size, 1, none⟩ = some (.int .i64 κ) ∧ w'.cell? ⟨w.heap.size, 2, none⟩ = some (.int .i64 p) ∧ w'.cell? ⟨w.heap.size, 3, none⟩ = some (.int .i64 k) ∧ w'.cell? ⟨w.heap.size, 4, none⟩ = some (.int .i64 g) ∧ w'.cell? ⟨w.heap.size, 5, none⟩ = some (.slice A n c) ∧ w'.cell? ⟨w.heap.size, 6, none⟩ = some (.int .i64 C) ∧ w'.cell? ⟨w.heap.size, 7, none⟩ = some (.slice (some ⟨bL, oL0, none⟩) n' c') ∧ w'.cell? ⟨bL, oL0 + l0, none⟩ = some (.int .i64 (P : Int))) 9 (by kernel_rfl) ⟨HXd.out.cells.1, HXd.out.cells.2.1, HXd.out.cells.2.2.1, HXd.out.cells.2.2.2.1, HXd.out.cells.2.2.2.2.1, HXd.out.cells.2.2.2.2.2.1, HXd.out.cells.2.2.2.2.2.2.1, HXd.out.cells.2.2.2.2.2.2.2, HCL.out⟩ (fun hS' => ?_)
    obtain ⟨wd, hwd⟩ : ∃ q, w3.drew = q := ⟨_, rfl⟩
    rw [hwd] at hS' HXd HRd HCL HSZD HBD ⊢
    clear hwd
    refine tail_take 0 rfl (by kernel_rfl) (by kernel_rfl) (by kernel_rfl) (by kernel_rfl) (fun _ _ _ h => h) (by rfl) (v := ?_) ?_ (by assumption) ?_
    rotate_left 1
    · intro w' hS'; obtain ⟨c0, c1, c2, c3, c4, c5, c6, c7, cL⟩ := hS'; go_simp; try with_reducible rfl
    try simp only [Act.put, List.setIfInBounds_toArray, List.set_cons_zero, List.set_cons_succ]
    refine tail_take 1 rfl (by kernel_rfl) (by kernel_rfl) (by kernel_rfl) (by kernel_rfl) (fun _ _ _ h => h) (by rfl) (v := ?_) ?_ (by assumption) ?_
    rotate_left 1
    · intro w' hS'; obtain ⟨c0, c1, c2, c3, c4, c5, c6, c7, cL⟩ := hS'; go_simp; try with_reducible rfl
    try simp only [Act.put, List.setIfInBounds_toArray, List.set_cons_zero, List.set_cons_succ]
    refine tail_take 2 rfl (by kernel_rfl) (by kernel_rfl) (by kernel_rfl) (by kernel_rfl) (fun _ _ _ h => h) (by rfl) (v := ?_) ?_ (by assumption) ?_
    rotate_left 1
    · intro w' hS'; obtain ⟨c0, c1, c2, c3, c4, c5, c6, c7, cL⟩ := hS'; go_simp; try with_reducible rfl
    try simp only [Act.put, List.setIfInBounds_toArray, List.set_cons_zero, List.set_cons_succ]
    refine tail_take 3 rfl (by kernel_rfl) (by kernel_rfl) (by kernel_rfl) (by kernel_rfl) (fun _ _ _ h => h) (by rfl) (v := ?_) ?_ (by assumption) ?_
    rotate_left 1
    · intro w' hS'; obtain ⟨c0, c1, c2, c3, c4, c5, c6, c7, cL⟩ := hS'; go_simp; try with_reducible rfl
    try simp only [Act.put, List.setIfInBounds_toArray, List.set_cons_zero, List.set_cons_succ]
    refine tail_take 4 rfl (by kernel_rfl) (by kernel_rfl) (by kernel_rfl) (by kernel_rfl) (fun _ _ _ h => h) (by rfl) (v := ?_) ?_ (by assumption) ?_
    rotate_left 1
    · intro w' hS'; obtain ⟨c0, c1, c2, c3, c4, c5, c6, c7, cL⟩ := hS'; go_simp; try with_reducible rfl
    try simp only [Act.put, List.setIfInBounds_toArray, List.set_cons_zero, List.set_cons_succ]
    refine tail_take 5 rfl (by kernel_rfl) (by kernel_rfl) (by kernel_rfl) (by kernel_rfl) (fun _ _ _ h => h) (by rfl) (v := ?_) ?_ (by assumption) ?_
    rotate_left 1
    · intro w' hS'; obtain ⟨c0, c1, c2, c3, c4, c5, c6, c7, cL⟩ := hS'; go_simp; try with_reducible rfl
    try simp only [Act.put, List.setIfInBounds_toArray, List.set_cons_zero, List.set_cons_succ]
    refine tail_take 6 rfl (by kernel_rfl) (by kernel_rfl) (by kernel_rfl) (by kernel_rfl) (fun _ _ _ h => h) (by rfl) (v := ?_) ?_ (by assumption) ?_
    rotate_left 1
    · intro w' hS'; obtain ⟨c0, c1, c2, c3, c4, c5, c6, c7, cL⟩ := hS'; go_simp; try with_reducible rfl
    try simp only [Act.put, List.setIfInBounds_toArray, List.set_cons_zero, List.set_cons_succ]
    refine tail_two 7 8 rfl rfl (by kernel_rfl) rfl rfl (fun K' hK => ?_) (fun K' hK => ?_)
    · go_simp
      go_at_call 23; refine (HLO.out _).mono ?_; rintro e w5 ⟨rfl, hb⟩
      have HX5 := hide (HXd.out.next hb)
      have HR5 := hide (heap_nextF HRd.out hb)
      have HC5 := hide ((hb.cell (p := ⟨bL, oL0 + l0, none⟩) (Nat.lt_of_lt_of_le hbL HSZD.out)).trans HCL.out)
      have HB5 := hide (HBD.out.trans (hb.mono HBD.out.size))
      clear hb
      refine hK.out _ _ (by (try dsimp only); exact ⟨HX5.out.cells.1, HX5.out.cells.2.1, HX5.out.cells.2.2.1, HX5.out.cells.2.2.2.1, HX5.out.cells.2.2.2.2.1, HX5.out.cells.2.2.2.2.2.1, HX5.out.cells.2.2.2.2.2.2.1, HX5.out.cells.2.2.2.2.2.2.2, HC5.out⟩) (fun hS' => ?_)
      clear hK K'
      try simp only [Act.put, List.setIfInBounds_toArray, List.set_cons_zero, List.set_cons_succ]
      refine tail_call 8 rfl (by kernel_rfl) rfl (fun K' hK => ?_)
      go_simp
      have hbz : Below w5.heap.size w5 (w5.alloc (.cells #[.int .i64 0, .int .i64 0, .int .i64 0, .int .i64 0, .int .i64 0, .int .i64 0] 35)) := (Below.refl _ _).alloc (Nat.le_refl _) _
      have HX6 := hide (HX5.out.next hbz)
      have HR6 := hide (heap_nextF HR5.out hbz)
      have HC6 := hide ((hbz.cell (p := ⟨bL, oL0 + l0, none⟩) (Nat.lt_of_lt_of_le hbL (Nat.le_trans HSZB.out HB5.out.size))).trans HC5.out)
      have HB6 := hide (HB5.out.trans (hbz.mono HB5.out.size))
      have HZ := hide (heap_alloc_new w5 (.cells #[.int .i64 0, .int .i64 0, .int .i64 0, .int .i64 0, .int .i64 0, .int .i64 0] 35))
      have HLT := hide (show w.heap.size < w5.heap.size from HX5.out.lt)
      have HLR := hide (row_lt HR5.out)
      refine hK.out _ _ (by (try dsimp only); exact ⟨HX6.out.cells.1, HX6.out.cells.2.1, HX6.out.cells.2.2.1, HX6.out.cells.2.2.2.1, HX6.out.cells.2.2.2.2.1, HX6.out.cells.2.2.2.2.2.1, HX6.out.cells.2.2.2.2.2.2.1, HX6.out.cells.2.2.2.2.2.2.2, HC6.out⟩) (fun hS' => ?_)
      clear hK K'
      try simp only [Act.put, List.setIfInBounds_toArray, List.set_cons_zero, List.set_cons_succ]
      obtain ⟨wz, hwz⟩ : ∃ wz, w5.alloc (.cells #[.int .i64 0, .int .i64 0, .int .i64 0, .int .i64 0, .int .i64 0, .int .i64 0] 35) = wz := ⟨_, rfl⟩
      rw [hwz] at hS' HX6 HR6 HC6 HB6 HZ ⊢
      clear hwz hbz
      have HLB := hide HB5.out.size
      obtain ⟨y0, y1, y2, y3, y4, y5, g0, g1, g2, g3, g4, g5⟩ := row6F HZ.out
      refine tail_last 9 rfl (by kernel_rfl) (by kernel_rfl) rfl rfl (fun K' hK => ?_)
      go_simp
      refine hK.out _ _ ?_
      clear hK K'
      try simp only [Act.put, List.setIfInBounds_toArray, List.set_cons_zero, List.set_cons_succ]
      have HZ9 := hide (row_set6F HZ.out (.int .i64 p) (.int .i64 k) (.int .i64 g) (.int .i64 D) (.int .i64 K) (.int .i64 Cn))
      have HX9 := hide (fbox_set6 HX6.out HLT.out (.int .i64 p) (.int .i64 k) (.int .i64 g) (.int .i64 D) (.int .i64 K) (.int .i64 Cn))
      have HZL := hide (set6F_size wz w5.heap.size (.int .i64 p) (.int .i64 k) (.int .i64 g) (.int .i64 D) (.int .i64 K) (.int .i64 Cn))
      have HR9 := hide (row_other6 HR6.out HLR.out (.int .i64 p) (.int .i64 k) (.int .i64 g) (.int .i64 D) (.int .i64 K) (.int .i64 Cn))
      obtain ⟨w9, hw9⟩ : ∃ w9, set6F wz w5.heap.size (.int .i64 p) (.int .i64 k) (.int .i64 g) (.int .i64 D) (.int .i64 K) (.int .i64 Cn) = w9 := ⟨_, rfl⟩
      rw [hw9] at HZ9 HX9 HZL HR9
      unfold set6F at hw9
      rw [hw9]
      clear hw9 y0 y1 y2 y3 y4 y5 g0 g1 g2 g3 g4 g5 hS'
      obtain ⟨y0, y1, y2, y3, y4, y5, _, _, _, _, _, _⟩ := row6F HZ9.out
      obtain ⟨x0, x1, x2, x3, x4, x5, f0, f1, f2, f3, f4, f5⟩ := row6F HR9.out
      go_wp2_with fail
      refine (HVL.out _).mono ?_
      rintro e wv ⟨rfl, hb⟩
      have HXv := hide (HX9.out.next hb)
      have HRv := hide (heap_nextF HR9.out hb)
      have HZv := hide (heap_nextF HZ9.out hb)
      clear hb y0 y1 y2 y3 y4 y5 x0 x1 x2 x3 x4 x5 f0 f1 f2 f3 f4 f5
      obtain ⟨y0, y1, y2, y3, y4, y5, _, _, _, _, _, _⟩ := row6F HZv.out
      obtain ⟨x0, x1, x2, x3, x4, x5, f0, f1, f2, f3, f4, f5⟩ := row6F HRv.out
      have HBv := hide HXv.out.2
      cases bV with
      | false =>
        go_wp2_with fail
        have q1 : w.heap.size ≤ wa.heap.size := HRG.out
        refine bodyPost_ret (v := .tuple #[.agg #[.int .i64 0, .int .i64 0, .int .i64 0, .int .i64 0, .int .i64 0, .int .i64 0], .int .i64 3]) (by simp [results, Tryz.results10, go_sem, x0, x1, x2, x3, x4, x5]) rfl (lo_bad3 HRES.out ?_)
        repeat (with_reducible refine Below.setCell ?_ (by exact q1) _)
        exact HBv.out
      | true =>
        go_wp2_with fail
        have q1 : w.heap.size ≤ wa.heap.size := HRG.out
        refine bodyPost_ret (v := .tuple #[.agg #[.int .i64 p, .int .i64 k, .int .i64 g, .int .i64 D, .int .i64 K, .int .i64 Cn], .int .i64 0]) (by simp [results, Tryz.results10, go_sem, x0, x1, x2, x3, x4, x5]) rfl (lo_good HRES.out ?_)
        repeat (with_reducible refine Below.setCell ?_ (by exact q1) _)
        exact HBv.out
    · go_simp
      have hbz : Below wd.heap.size wd (wd.alloc (.cells #[.int .i64 0, .int .i64 0, .int .i64 0, .int .i64 0, .int .i64 0, .int .i64 0] 35)) := (Below.refl _ _).alloc (Nat.le_refl _) _
      have HX5 := hide (HXd.out.next hbz)
      have HR5 := hide (heap_nextF HRd.out hbz)
      have HC5 := hide ((hbz.cell (p := ⟨bL, oL0 + l0, none⟩) (Nat.lt_of_lt_of_le hbL HSZD.out)).trans HCL.out)
      have HB5 := hide (HBD.out.trans (hbz.mono HBD.out.size))
      have HZ5 := hide (heap_alloc_new wd (.cells #[.int .i64 0, .int .i64 0, .int .i64 0, .int .i64 0, .int .i64 0, .int .i64 0] 35))
      have HLT := hide (show w.heap.size < wd.heap.size from HXd.out.lt)
      have HLR := hide (row_lt HRd.out)
      refine hK.out _ _ (by (try dsimp only); exact ⟨HX5.out.cells.1, HX5.out.cells.2.1, HX5.out.cells.2.2.1, HX5.out.cells.2.2.2.1, HX5.out.cells.2.2.2.2.1, HX5.out.cells.2.2.2.2.2.1, HX5.out.cells.2.2.2.2.2.2.1, HX5.out.cells.2.2.2.2.2.2.2, HC5.out⟩) (fun hS' => ?_)
      clear hK K'
      try simp only [Act.put, List.setIfInBounds_toArray, List.set_cons_zero, List.set_cons_succ]
      obtain ⟨wy, hwy⟩ : ∃ wy, wd.alloc (.cells #[.int .i64 0, .int .i64 0, .int .i64 0, .int .i64 0, .int .i64 0, .int .i64 0] 35) = wy := ⟨_, rfl⟩
      rw [hwy] at hS' HX5 HR5 HC5 HB5 HZ5 ⊢
      clear hwy hbz
      refine tail_call 7 rfl (by kernel_rfl) rfl (fun K' hK => ?_)
      go_simp
      go_at_call 23; refine (HLO.out _).mono ?_; rintro e wz ⟨rfl, hb⟩
      have HX6 := hide (HX5.out.next hb)
      have HR6 := hide (heap_nextF HR5.out hb)
      have HC6 := hide ((hb.cell (p := ⟨bL, oL0 + l0, none⟩) (Nat.lt_of_lt_of_le hbL (Nat.le_trans HSZB.out HB5.out.size))).trans HC5.out)
      have HB6 := hide (HB5.out.trans (hb.mono HB5.out.size))
      have HZ := hide (heap_nextF HZ5.out hb)
      clear hb
      refine hK.out _ _ (by (try dsimp only); exact ⟨HX6.out.cells.1, HX6.out.cells.2.1, HX6.out.cells.2.2.1, HX6.out.cells.2.2.2.1, HX6.out.cells.2.2.2.2.1, HX6.out.cells.2.2.2.2.2.1, HX6.out.cells.2.2.2.2.2.2.1, HX6.out.cells.2.2.2.2.2.2.2, HC6.out⟩) (fun hS' => ?_)
      clear hK K'
      try simp only [Act.put, List.setIfInBounds_toArray, List.set_cons_zero, List.set_cons_succ]
      have HLB := hide HBD.out.size
      obtain ⟨y0, y1, y2, y3, y4, y5, g0, g1, g2, g3, g4, g5⟩ := row6F HZ.out
      refine tail_last 9 rfl (by kernel_rfl) (by kernel_rfl) rfl rfl (fun K' hK => ?_)
      go_simp
      refine hK.out _ _ ?_
      clear hK K'
      try simp only [Act.put, List.setIfInBounds_toArray, List.set_cons_zero, List.set_cons_succ]
      have HZ9 := hide (row_set6F HZ.out (.int .i64 p) (.int .i64 k) (.int .i64 g) (.int .i64 D) (.int .i64 K) (.int .i64 Cn))
      have HX9 := hide (fbox_set6 HX6.out HLT.out (.int .i64 p) (.int .i64 k) (.int .i64 g) (.int .i64 D) (.int .i64 K) (.int .i64 Cn))
      have HZL := hide (set6F_size wz wd.heap.size (.int .i64 p) (.int .i64 k) (.int .i64 g) (.int .i64 D) (.int .i64 K) (.int .i64 Cn))
      have HR9 := hide (row_other6 HR6.out HLR.out (.int .i64 p) (.int .i64 k) (.int .i64 g) (.int .i64 D) (.int .i64 K) (.int .i64 Cn))
      obtain ⟨w9, hw9⟩ : ∃ w9, set6F wz wd.heap.size (.int .i64 p) (.int .i64 k) (.int .i64 g) (.int .i64 D) (.int .i64 K) (.int .i64 Cn) = w9 := ⟨_, rfl⟩
      rw [hw9] at HZ9 HX9 HZL HR9
      unfold set6F at hw9
      rw [hw9]
      clear hw9 y0 y1 y2 y3 y4 y5 g0 g1 g2 g3 g4 g5 hS'
      obtain ⟨y0, y1, y2, y3, y4, y5, _, _, _, _, _, _⟩ := row6F HZ9.out
      obtain ⟨x0, x1, x2, x3, x4, x5, f0, f1, f2, f3, f4, f5⟩ := row6F HR9.out
      go_wp2_with fail
      refine (HVL.out _).mono ?_
      rintro e wv ⟨rfl, hb⟩
      have HXv := hide (HX9.out.next hb)
      have HRv := hide (heap_nextF HR9.out hb)
      have HZv := hide (heap_nextF HZ9.out hb)
      clear hb y0 y1 y2 y3 y4 y5 x0 x1 x2 x3 x4 x5 f0 f1 f2 f3 f4 f5
      obtain ⟨y0, y1, y2, y3, y4, y5, _, _, _, _, _, _⟩ := row6F HZv.out
      obtain ⟨x0, x1, x2, x3, x4, x5, f0, f1, f2, f3, f4, f5⟩ := row6F HRv.out
      have HBv := hide HXv.out.2
      cases bV with
      | false =>
        go_wp2_with fail
        have q1 : w.heap.size ≤ wa.heap.size := HRG.out
        refine bodyPost_ret (v := .tuple #[.agg #[.int .i64 0, .int .i64 0, .int .i64 0, .int .i64 0, .int .i64 0, .int .i64 0], .int .i64 3]) (by simp [results, Tryz.results10, go_sem, x0, x1, x2, x3, x4, x5]) rfl (lo_bad3 HRES.out ?_)
        repeat (with_reducible refine Below.setCell ?_ (by exact q1) _)
        exact HBv.out
      | true =>
        go_wp2_with fail
        have q1 : w.heap.size ≤ wa.heap.size := HRG.out
        refine bodyPost_ret (v := .tuple #[.agg #[.int .i64 p, .int .i64 k, .int .i64 g, .int .i64 D, .int .i64 K, .int .i64 Cn], .int .i64 0]) (by simp [results, Tryz.results10, go_sem, x0, x1, x2, x3, x4, x5]) rfl (lo_good HRES.out ?_)
        repeat (with_reducible refine Below.setCell ?_ (by exact q1) _)
        exact HBv.out
    -- END REGION
end Go.Proofs.YtncgeoliboidhaaGreat
