/-
  What LocatorOf, IndicesOf and ErrorValues return, of the model and of the program, side by side.
  Condition: lists shorter than 2^20; the numbers are int64s.
-/
import Derived.Test.YtpheembgjdgniaaDBoth1
namespace Go.Proofs.Ytpheembgjdgniaa
open Go.RowKit
set_option linter.unusedSimpArgs false
set_option linter.unusedVariables false

/-- The code of what may fail. -/
def okC (b : Bool) (n : Int) : Int := if b = true then 0 else n

set_option maxRecDepth 100000 in
set_option maxHeartbeats 4000000 in
theorem loc_bad1 (p k g L C : Int) (z : List Int) (hz : z.length ≤ 1048576) (hC : -9223372036854775808 ≤ C ∧ C ≤ 9223372036854775807) (h : codeB p k g L C = false) :
    D1 27 p k g L C z (NewIK [] 1) ∧ D1 26 p k g L C z (NewIK [] 1) := by
  have HB := hide h
  have HC := hide hC
  have HE := hide (show xErr p k g L C z [] = 1 by rw [xErr, wErr_no h]; rfl)
  clear h hC
  refine ⟨?_, ?_⟩
  · intro A n cw B w hI hcap hB
    have HX0 := hide (CBox.start w p k g L C)
    have hn : n ≤ 1048576 := by rw [← hI.len]; exact hz
    have HI := hide hI
    clear hI
    obtain ⟨c0, c1, c2, c3, c4⟩ := HX0.out.cells
    go_enter Try.func27, Try.ntmps27
    go_wp2_with fail
    refine (specIsCode p k g L C _ HC.out).mono ?_
    rw [HB.out]
    rintro e w1 ⟨rfl, hb⟩
    have HX1 := hide (HX0.out.next hb)
    clear hb c0 c1 c2 c3 c4
    obtain ⟨c0, c1, c2, c3, c4⟩ := HX1.out.cells
    go_wp2_with fail
    go_ret2
    exact newIK_nil HX1.out.2
  · intro A n cw B w hI hcap hB
    have HX0 := hide (CBox.start w p k g L C)
    have hn : n ≤ 1048576 := by rw [← hI.len]; exact hz
    have HI := hide hI
    clear hI
    obtain ⟨c0, c1, c2, c3, c4⟩ := HX0.out.cells
    go_enter Try.func26, Try.ntmps26
    go_wp2_with fail
    refine (implIdxErr p k g L C A n cw z none 0 0 B [] _ (HI.out.below (HX0.out.2.mono hB)) (Nat.le_trans hB (Nat.le_of_lt HX0.out.lt)) (by omega) (implWErr0 p k g L C _)).mono ?_
    rw [HE.out]
    rintro e w1 ⟨rfl, hb⟩
    have HX1 := hide (HX0.out.next hb)
    clear hb c0 c1 c2 c3 c4
    obtain ⟨c0, c1, c2, c3, c4⟩ := HX1.out.cells
    go_wp2_with fail
    go_ret2
    exact newIK_nil HX1.out.2

set_option maxRecDepth 100000 in
set_option maxHeartbeats 4000000 in
theorem loc_bad2 {R : Fld} {γ : El R} {p k g : Int} {l c : Nat} (h : CodeIs R γ p k g l c) (z : List Int) (hz : z.length ≤ 1048576) (hi : idxB l z = false) :
    D1 27 p k g l c z (NewIK [] 5) ∧ D1 26 p k g l c z (NewIK [] 5) := by
  have hl255 := h.l255
  have HB := hide (codeB_is h)
  have HC := hide (c_bd h)
  have HII := hide hi
  have HE := hide (show xErr p k g l c z [] = 5 by rw [xErr, wErr_is h (fun z hz => absurd hz List.not_mem_nil), if_pos rfl, hi]; rfl)
  clear hi
  refine ⟨?_, ?_⟩
  · intro A n cw B w hI hcap hB
    have HX0 := hide (CBox.start w p k g l c)
    have hn : n ≤ 1048576 := by rw [← hI.len]; exact hz
    have HI := hide hI
    clear hI
    obtain ⟨c0, c1, c2, c3, c4⟩ := HX0.out.cells
    go_enter Try.func27, Try.ntmps27
    go_wp2_with fail
    refine (specIsCode p k g l c _ HC.out).mono ?_
    rw [HB.out]
    rintro e w1 ⟨rfl, hb⟩
    have HX1 := hide (HX0.out.next hb)
    clear hb c0 c1 c2 c3 c4
    obtain ⟨c0, c1, c2, c3, c4⟩ := HX1.out.cells
    go_wp2_with fail
    refine (specIndices p k g l c (by omega) (by omega) A n cw B z _ (HI.out.below (HX1.out.2.mono hB)) (Nat.le_trans hB (Nat.le_of_lt HX1.out.lt)) (by omega)).mono ?_
    rw [HII.out]
    rintro e w2 ⟨rfl, hb⟩
    have HX2 := hide (HX1.out.next hb)
    clear hb c0 c1 c2 c3 c4
    obtain ⟨c0, c1, c2, c3, c4⟩ := HX2.out.cells
    go_wp2_with fail
    go_ret2
    exact newIK_nil HX2.out.2
  · intro A n cw B w hI hcap hB
    have HX0 := hide (CBox.start w p k g l c)
    have hn : n ≤ 1048576 := by rw [← hI.len]; exact hz
    have HI := hide hI
    clear hI
    obtain ⟨c0, c1, c2, c3, c4⟩ := HX0.out.cells
    go_enter Try.func26, Try.ntmps26
    go_wp2_with fail
    refine (implIdxErr p k g l c A n cw z none 0 0 B [] _ (HI.out.below (HX0.out.2.mono hB)) (Nat.le_trans hB (Nat.le_of_lt HX0.out.lt)) (by omega) (implWErr0 p k g l c _)).mono ?_
    rw [HE.out]
    rintro e w1 ⟨rfl, hb⟩
    have HX1 := hide (HX0.out.next hb)
    clear hb c0 c1 c2 c3 c4
    obtain ⟨c0, c1, c2, c3, c4⟩ := HX1.out.cells
    go_wp2_with fail
    go_ret2
    exact newIK_nil HX1.out.2

set_option maxRecDepth 100000 in
set_option maxHeartbeats 4000000 in
theorem loc_val {R : Fld} {γ : El R} {p k g : Int} {l c : Nat} (h : CodeIs R γ p k g l c) (J : List Nat) (hJ : Idx l J) (hz : (nv J).length ≤ 1048576) :
    D1 27 p k g l c (nv J) (NewIK (iv (locP (locs γ l J))) 0) ∧ D1 26 p k g l c (nv J) (NewIK (iv (locP (locs γ l J))) 0) := by
  have hl255 := h.l255
  have HB := hide (codeB_is h)
  have HC := hide (c_bd h)
  have HII := hide (idx_shut hJ)
  have HE := hide (show xErr p k g l c (nv J) [] = 0 by rw [xErr, wErr_is h (fun z hz => absurd hz List.not_mem_nil), if_pos rfl, idx_shut hJ]; rfl)
  refine ⟨?_, ?_⟩
  · intro A n cw B w hI hcap hB
    have HX0 := hide (CBox.start w p k g l c)
    have hn : n ≤ 1048576 := by rw [← hI.len]; exact hz
    have HI := hide hI
    clear hI
    obtain ⟨c0, c1, c2, c3, c4⟩ := HX0.out.cells
    have hJn : n ≤ 255 := by have := hJ.len; have h1 := HI.out.len; rw [nv_len] at h1; omega
    go_enter Try.func27, Try.ntmps27
    go_wp2_with fail
    refine (specIsCode p k g l c _ HC.out).mono ?_
    rw [HB.out]
    rintro e w1 ⟨rfl, hb⟩
    have HX1 := hide (HX0.out.next hb)
    clear hb c0 c1 c2 c3 c4
    obtain ⟨c0, c1, c2, c3, c4⟩ := HX1.out.cells
    go_wp2_with fail
    refine (specIndices p k g l c (by omega) (by omega) A n cw B (nv J) _ (HI.out.below (HX1.out.2.mono hB)) (Nat.le_trans hB (Nat.le_of_lt HX1.out.lt)) (by omega)).mono ?_
    rw [HII.out]
    rintro e w2 ⟨rfl, hb⟩
    have HX2 := hide (HX1.out.next hb)
    clear hb c0 c1 c2 c3 c4
    obtain ⟨c0, c1, c2, c3, c4⟩ := HX2.out.cells
    go_wp2_with fail
    refine (specLocPoly h J hJ.2 A n cw B _ (HI.out.below (HX2.out.2.mono hB)) (Nat.le_trans hB (Nat.le_of_lt HX2.out.lt)) (by omega)).mono ?_
    rintro e wl ⟨A1, m1, rfl, hm1, ho, hb⟩
    have HXl := hide (HX2.out.next hb)
    have HO := hide (newIK_of (c := 0) ho HXl.out.2 (Nat.le_of_lt HX2.out.lt))
    clear ho hb c0 c1 c2 c3 c4
    go_wp2_with fail
    go_ret2
    exact HO.out
  · intro A n cw B w hI hcap hB
    have HX0 := hide (CBox.start w p k g l c)
    have hn : n ≤ 1048576 := by rw [← hI.len]; exact hz
    have HI := hide hI
    clear hI
    obtain ⟨c0, c1, c2, c3, c4⟩ := HX0.out.cells
    have hJn : n ≤ 255 := by have := hJ.len; have h1 := HI.out.len; rw [nv_len] at h1; omega
    go_enter Try.func26, Try.ntmps26
    go_wp2_with fail
    refine (implIdxErr p k g l c A n cw (nv J) none 0 0 B [] _ (HI.out.below (HX0.out.2.mono hB)) (Nat.le_trans hB (Nat.le_of_lt HX0.out.lt)) (by omega) (implWErr0 p k g l c _)).mono ?_
    rw [HE.out]
    rintro e w1 ⟨rfl, hb⟩
    have HX1 := hide (HX0.out.next hb)
    clear hb c0 c1 c2 c3 c4
    obtain ⟨c0, c1, c2, c3, c4⟩ := HX1.out.cells
    go_wp2_with fail
    refine (implLocPoly h J hJ.2 A n cw B _ (HI.out.below (HX1.out.2.mono hB)) (Nat.le_trans hB (Nat.le_of_lt HX1.out.lt)) (by omega)).mono ?_
    rintro e wl ⟨A1, m1, rfl, hm1, ho, hb⟩
    have HXl := hide (HX1.out.next hb)
    have HO := hide (newIK_of (c := 0) ho HXl.out.2 (Nat.le_of_lt HX1.out.lt))
    clear ho hb c0 c1 c2 c3 c4
    go_wp2_with fail
    go_ret2
    exact HO.out

set_option maxRecDepth 100000 in
set_option maxHeartbeats 4000000 in
theorem ind_bad1 (p k g L C : Int) (z : List Int) (hz : z.length ≤ 1048576) (hC : -9223372036854775808 ≤ C ∧ C ≤ 9223372036854775807) (h : codeB p k g L C = false) :
    D1 34 p k g L C z (NewIK [] 1) ∧ D1 28 p k g L C z (NewIK [] 1) := by
  have HB := hide h
  have HC := hide hC
  clear h hC
  refine ⟨?_, ?_⟩
  · intro A n cw B w hI hcap hB
    have HX0 := hide (CBox.start w p k g L C)
    have hn : n ≤ 1048576 := by rw [← hI.len]; exact hz
    have HI := hide hI
    clear hI
    obtain ⟨c0, c1, c2, c3, c4⟩ := HX0.out.cells
    go_enter Try.func34, Try.ntmps34
    go_wp2_with fail
    refine (specIsCode p k g L C _ HC.out).mono ?_
    rw [HB.out]
    rintro e w1 ⟨rfl, hb⟩
    have HX1 := hide (HX0.out.next hb)
    clear hb c0 c1 c2 c3 c4
    obtain ⟨c0, c1, c2, c3, c4⟩ := HX1.out.cells
    go_wp2_with fail
    go_ret2
    exact newIK_nil HX1.out.2
  · intro A n cw B w hI hcap hB
    have HX0 := hide (CBox.start w p k g L C)
    have hn : n ≤ 1048576 := by rw [← hI.len]; exact hz
    have HI := hide hI
    clear hI
    obtain ⟨c0, c1, c2, c3, c4⟩ := HX0.out.cells
    go_enter Try.func28, Try.ntmps28
    go_wp2_with fail
    refine (implCodeValid p k g L C _).mono ?_
    rw [HB.out]
    rintro e w1 ⟨rfl, hb⟩
    have HX1 := hide (HX0.out.next hb)
    clear hb c0 c1 c2 c3 c4
    obtain ⟨c0, c1, c2, c3, c4⟩ := HX1.out.cells
    go_wp2_with fail
    go_ret2
    exact newIK_nil HX1.out.2

set_option maxRecDepth 100000 in
set_option maxHeartbeats 4000000 in
theorem ind_bad2 {R : Fld} {γ : El R} {p k g : Int} {l c : Nat} (h : CodeIs R γ p k g l c) (z : List Int) (hz : z.length ≤ 1048576) (hp : polyB R.q z = false) :
    D1 34 p k g l c z (NewIK [] 2) ∧ D1 28 p k g l c z (NewIK [] 2) := by
  have hl255 := h.l255
  have HB := hide (codeB_is h)
  have HC := hide (c_bd h)
  have HP := hide hp
  clear hp
  refine ⟨?_, ?_⟩
  · intro A n cw B w hI hcap hB
    have HX0 := hide (CBox.start w p k g l c)
    have hn : n ≤ 1048576 := by rw [← hI.len]; exact hz
    have HI := hide hI
    clear hI
    obtain ⟨c0, c1, c2, c3, c4⟩ := HX0.out.cells
    go_enter Try.func34, Try.ntmps34
    go_wp2_with fail
    refine (specIsCode p k g l c _ HC.out).mono ?_
    rw [HB.out]
    rintro e w1 ⟨rfl, hb⟩
    have HX1 := hide (HX0.out.next hb)
    clear hb c0 c1 c2 c3 c4
    obtain ⟨c0, c1, c2, c3, c4⟩ := HX1.out.cells
    go_wp2_with fail
    refine (specL3Is h.fld.kind A n cw B z _ (HI.out.below (HX1.out.2.mono hB)) (Nat.le_trans hB (Nat.le_of_lt HX1.out.lt)) (by omega)).mono ?_
    rw [HP.out]
    rintro e w2 ⟨rfl, hb⟩
    have HX2 := hide (HX1.out.next hb)
    clear hb c0 c1 c2 c3 c4
    obtain ⟨c0, c1, c2, c3, c4⟩ := HX2.out.cells
    go_wp2_with fail
    go_ret2
    exact newIK_nil HX2.out.2
  · intro A n cw B w hI hcap hB
    have HX0 := hide (CBox.start w p k g l c)
    have hn : n ≤ 1048576 := by rw [← hI.len]; exact hz
    have HI := hide hI
    clear hI
    obtain ⟨c0, c1, c2, c3, c4⟩ := HX0.out.cells
    go_enter Try.func28, Try.ntmps28
    go_wp2_with fail
    refine (implCodeValid p k g l c _).mono ?_
    rw [HB.out]
    rintro e w1 ⟨rfl, hb⟩
    have HX1 := hide (HX0.out.next hb)
    clear hb c0 c1 c2 c3 c4
    obtain ⟨c0, c1, c2, c3, c4⟩ := HX1.out.cells
    go_wp2_with fail
    refine (implIsOver h.fld.kind A n cw B z _ (HI.out.below (HX1.out.2.mono hB)) (Nat.le_trans hB (Nat.le_of_lt HX1.out.lt)) (by omega)).mono ?_
    rw [HP.out]
    rintro e w2 ⟨rfl, hb⟩
    have HX2 := hide (HX1.out.next hb)
    clear hb c0 c1 c2 c3 c4
    obtain ⟨c0, c1, c2, c3, c4⟩ := HX2.out.cells
    go_wp2_with fail
    go_ret2
    exact newIK_nil HX2.out.2

set_option maxRecDepth 100000 in
set_option maxHeartbeats 4000000 in
theorem ind_val {R : Fld} {γ : El R} {p k g : Int} {l c : Nat} (h : CodeIs R γ p k g l c) (ps : List (El R)) (hp : Tr ps) (hl : ps.length ≤ 512) :
    D1 34 p k g l c (iv ps) (NewIK (nv (locJ γ l ps)) (okC (locB γ l ps) 4)) ∧ D1 28 p k g l c (iv ps) (NewIK (nv (locJ γ l ps)) (okC (locB γ l ps) 4)) := by
  have hl255 := h.l255
  have HB := hide (codeB_is h)
  have HC := hide (c_bd h)
  have HP := hide (show polyB R.q (iv ps) = true from poly_shut hp hl)
  have hz : (iv ps).length ≤ 1048576 := by rw [iv_len]; omega
  refine ⟨?_, ?_⟩
  · intro A n cw B w hI hcap hB
    have HX0 := hide (CBox.start w p k g l c)
    have hn : n ≤ 1048576 := by rw [← hI.len]; exact hz
    have HI := hide hI
    clear hI
    obtain ⟨c0, c1, c2, c3, c4⟩ := HX0.out.cells
    have hpn : ps.length = n := by rw [← iv_len]; exact HI.out.len
    have hn512 : n ≤ 512 := by omega
    rcases hb0 : decide (ps = []) with _ | _
    · have hps : ps ≠ [] := of_decide_eq_false hb0
      have hn0 : 0 < n := by rcases Nat.eq_zero_or_pos n with h0 | h0; exact absurd (List.eq_nil_of_length_eq_zero (by omega)) hps; exact h0
      have e0 : ((n : Int) == 0) = false := by simp; omega
      have HS := hide (show decide (iv (locP (locs γ l (hits γ l ps))) = iv ps) = locB γ l ps by
        rw [locB_iff h.far hp, Bool.eq_iff_iff, decide_eq_true_eq, decide_eq_true_eq]
        exact ⟨fun e => ⟨hps, iv_inj e⟩, fun e => by rw [e.2]⟩)
      clear hpn hb0 hps
      go_enter Try.func34, Try.ntmps34
      go_wp2_with fail
      refine (specIsCode p k g l c _ HC.out).mono ?_
      rw [HB.out]
      rintro e w1 ⟨rfl, hb⟩
      have HX1 := hide (HX0.out.next hb)
      clear hb c0 c1 c2 c3 c4
      obtain ⟨c0, c1, c2, c3, c4⟩ := HX1.out.cells
      go_wp2_with fail
      refine (specL3Is h.fld.kind A n cw B (iv ps) _ (HI.out.below (HX1.out.2.mono hB)) (Nat.le_trans hB (Nat.le_of_lt HX1.out.lt)) (by omega)).mono ?_
      rw [HP.out]
      rintro e w2 ⟨rfl, hb⟩
      have HX2 := hide (HX1.out.next hb)
      clear hb c0 c1 c2 c3 c4
      obtain ⟨c0, c1, c2, c3, c4⟩ := HX2.out.cells
      go_wp2_with fail
      refine (specFind h ps A n cw B _ (HI.out.below (HX2.out.2.mono hB)) (Nat.le_trans hB (Nat.le_of_lt HX2.out.lt)) (by omega)).mono ?_
      rintro e w3 ⟨A3, m3, rfl, hm3, ho3, hb⟩
      have HX3 := hide (HX2.out.next hb)
      have HI3 := hide (HI.out.below (HX3.out.2.mono hB))
      have HJ3 := hide ho3.ints
      have HO3 := hide (ho3.low (base' := w.heap.size + 1) HX2.out.lt)
      obtain ⟨nh, hnh⟩ : ∃ nh, (nv (hits γ l ps)).length = nh := ⟨_, rfl⟩
      have hnhl : nh ≤ 255 := by rw [← hnh, nv_len]; exact Nat.le_trans (hits_idx γ l ps).len hl255
      have HNH := hide hnh
      rw [hnh] at HJ3 HO3 ⊢
      clear ho3 hb hm3 hnh c0 c1 c2 c3 c4
      obtain ⟨c0, c1, c2, c3, c4⟩ := HX3.out.cells
      go_wp2_with fail
      refine (specLocPoly h (hits γ l ps) (hits_idx γ l ps).2 A3 nh m3 _ _ HJ3.out (Nat.le_refl _) (by omega)).mono ?_
      rintro e w4 ⟨A4, m4, rfl, hm4, ho4, hb⟩
      have HX4 := hide (HX3.out.next hb)
      have HI4 := hide (((HI3.out.below (hb.mono (Nat.le_trans hB (Nat.le_of_lt HX3.out.lt)))).more (B' := w4.heap.size) (Nat.le_trans hB (Nat.le_of_lt HX4.out.lt))))
      have HO4 := hide (HO3.out.below hb (Nat.le_refl _))
      have HL4 := hide ho4.intsE
      obtain ⟨nl, hnl⟩ : ∃ nl, (locP (locs γ l (hits γ l ps))).length = nl := ⟨_, rfl⟩
      have hnlb : nl ≤ 256 := by rw [← hnl, locJ_len h.far, ← nv_len, HNH.out]; omega
      rw [hnl] at HL4 ⊢
      clear ho4 hb hm4 hnl c0 c1 c2 c3 c4 HI3 HJ3 HO3
      go_wp2_with fail
      refine (specSame A4 A nl m4 n cw _ _ _ w4 HL4.out HI4.out (Nat.le_refl _) (by omega)).mono ?_
      rw [HS.out]
      rintro e w5 ⟨rfl, hb⟩
      have HX5 := hide (HX4.out.next hb)
      have HO5 := hide (HO4.out.below hb (Nat.le_refl _))
      clear hb HX4 HO4 HL4 HI4
      rcases hlb : locB γ l ps with _ | _
      · have HF := hide (show NewIK (nv (locJ γ l ps)) (okC (locB γ l ps) 4) w (.returned (.tuple #[.slice none 0 0, .int .i64 4])) w5 by rw [locJ, hlb]; exact newIK_nil HX5.out.2)
        clear hlb
        go_wp2_with fail
        go_ret2
        exact HF.out
      · have HF := hide (show NewIK (nv (locJ γ l ps)) (okC (locB γ l ps) 4) w (.returned (.tuple #[.slice A3 nh m3, .int .i64 0])) w5 by rw [locJ, hlb]; exact newIK_of HO5.out HX5.out.2 (Nat.le_succ _))
        clear hlb
        go_wp2_with fail
        go_ret2
        exact HF.out
    · have hps : ps = [] := of_decide_eq_true hb0
      have hn0 : n = 0 := by rw [← hpn, hps]; rfl
      have hlb : locB γ l ps = false := locB_none (by rw [hps]; rfl)
      have HFA := hide (show ∀ w' : World, Below w.heap.size w w' → NewIK (nv (locJ γ l ps)) (okC (locB γ l ps) 4) w (.returned (.tuple #[.slice none 0 0, .int .i64 4])) w' from fun w' hb => by rw [locJ, hlb]; exact newIK_nil hb)
      subst hn0
      clear hpn hb0 hps hlb
      go_enter Try.func34, Try.ntmps34
      go_wp2_with fail
      refine (specIsCode p k g l c _ HC.out).mono ?_
      rw [HB.out]
      rintro e w1 ⟨rfl, hb⟩
      have HX1 := hide (HX0.out.next hb)
      clear hb c0 c1 c2 c3 c4
      obtain ⟨c0, c1, c2, c3, c4⟩ := HX1.out.cells
      go_wp2_with fail
      refine (specL3Is h.fld.kind A 0 cw B (iv ps) _ (HI.out.below (HX1.out.2.mono hB)) (Nat.le_trans hB (Nat.le_of_lt HX1.out.lt)) (by omega)).mono ?_
      rw [HP.out]
      rintro e w2 ⟨rfl, hb⟩
      have HX2 := hide (HX1.out.next hb)
      clear hb c0 c1 c2 c3 c4
      obtain ⟨c0, c1, c2, c3, c4⟩ := HX2.out.cells
      go_wp2_with fail
      go_ret2
      exact HFA.out _ HX2.out.2
  · intro A n cw B w hI hcap hB
    have HX0 := hide (CBox.start w p k g l c)
    have hn : n ≤ 1048576 := by rw [← hI.len]; exact hz
    have HI := hide hI
    clear hI
    obtain ⟨c0, c1, c2, c3, c4⟩ := HX0.out.cells
    go_enter Try.func28, Try.ntmps28
    go_wp2_with fail
    refine (implCodeValid p k g l c _).mono ?_
    rw [HB.out]
    rintro e w1 ⟨rfl, hb⟩
    have HX1 := hide (HX0.out.next hb)
    clear hb c0 c1 c2 c3 c4
    obtain ⟨c0, c1, c2, c3, c4⟩ := HX1.out.cells
    go_wp2_with fail
    refine (implIsOver h.fld.kind A n cw B (iv ps) _ (HI.out.below (HX1.out.2.mono hB)) (Nat.le_trans hB (Nat.le_of_lt HX1.out.lt)) (by omega)).mono ?_
    rw [HP.out]
    rintro e w2 ⟨rfl, hb⟩
    have HX2 := hide (HX1.out.next hb)
    clear hb c0 c1 c2 c3 c4
    obtain ⟨c0, c1, c2, c3, c4⟩ := HX2.out.cells
    go_wp2_with fail
    refine (implLocatedBy h ps A n cw B _ (HI.out.below (HX2.out.2.mono hB)) (Nat.le_trans hB (Nat.le_of_lt HX2.out.lt)) (by omega)).mono ?_
    rintro e w3 ⟨A3, m3, rfl, hm3, ho3, hb⟩
    have HX3 := hide (HX2.out.next hb)
    have HO3 := hide (ho3.low (base' := w.heap.size + 1) HX2.out.lt)
    obtain ⟨nh, hnh⟩ : ∃ nh, (nv (locJ γ l ps)).length = nh := ⟨_, rfl⟩
    rw [hnh] at HO3 ⊢
    clear ho3 hb hm3 hnh
    rcases hlb : locB γ l ps with _ | _
    · have HF := hide (show NewIK (nv (locJ γ l ps)) (okC (locB γ l ps) 4) w (.returned (.tuple #[.slice none 0 0, .int .i64 4])) w3 by rw [locJ, hlb]; exact newIK_nil HX3.out.2)
      have HF2 := hide (show NewIK (nv (locJ γ l ps)) (okC false 4) w (.returned (.tuple #[.slice none 0 0, .int .i64 4])) w3 by have := HF.out; rwa [hlb] at this)
      clear hlb
      go_wp2_with fail
      go_ret2
      exact HF.out
    · have HF := hide (show NewIK (nv (locJ γ l ps)) (okC (locB γ l ps) 4) w (.returned (.tuple #[.slice A3 nh m3, .int .i64 0])) w3 by rw [hlb]; exact newIK_of HO3.out HX3.out.2 (Nat.le_succ _))
      clear hlb
      go_wp2_with fail
      go_ret2
      exact HF.out

set_option maxRecDepth 100000 in
set_option maxHeartbeats 4000000 in
theorem val_bad1 (p k g L C : Int) (z z' : List Int) (hz : z.length ≤ 1048576) (hz' : z'.length ≤ 1048576) (hC : -9223372036854775808 ≤ C ∧ C ≤ 9223372036854775807) (h : codeB p k g L C = false) :
    D2 23 p k g L C z z' (NewIK [] 1) ∧ D2 22 p k g L C z z' (NewIK [] 1) := by
  have HB := hide h
  have HC := hide hC
  clear h hC
  refine ⟨?_, ?_⟩
  · intro A n cw A' n' cw' B w hI hJ hcap hcap' hB
    have HX0 := hide (CBox.start w p k g L C)
    have hn : n ≤ 1048576 := by rw [← hI.len]; exact hz
    have hn' : n' ≤ 1048576 := by rw [← hJ.len]; exact hz'
    have HI := hide hI
    have HJ := hide hJ
    clear hI hJ
    obtain ⟨c0, c1, c2, c3, c4⟩ := HX0.out.cells
    go_enter Try.func23, Try.ntmps23
    go_wp2_with fail
    refine (specIsCode p k g L C _ HC.out).mono ?_
    rw [HB.out]
    rintro e w1 ⟨rfl, hb⟩
    have HX1 := hide (HX0.out.next hb)
    clear hb c0 c1 c2 c3 c4
    obtain ⟨c0, c1, c2, c3, c4⟩ := HX1.out.cells
    go_wp2_with fail
    go_ret2
    exact newIK_nil HX1.out.2
  · intro A n cw A' n' cw' B w hI hJ hcap hcap' hB
    have HX0 := hide (CBox.start w p k g L C)
    have hn : n ≤ 1048576 := by rw [← hI.len]; exact hz
    have hn' : n' ≤ 1048576 := by rw [← hJ.len]; exact hz'
    have HI := hide hI
    have HJ := hide hJ
    clear hI hJ
    obtain ⟨c0, c1, c2, c3, c4⟩ := HX0.out.cells
    go_enter Try.func22, Try.ntmps22
    go_wp2_with fail
    refine (implCodeValid p k g L C _).mono ?_
    rw [HB.out]
    rintro e w1 ⟨rfl, hb⟩
    have HX1 := hide (HX0.out.next hb)
    clear hb c0 c1 c2 c3 c4
    obtain ⟨c0, c1, c2, c3, c4⟩ := HX1.out.cells
    go_wp2_with fail
    go_ret2
    exact newIK_nil HX1.out.2

set_option maxRecDepth 100000 in
set_option maxHeartbeats 4000000 in
theorem val_bad2 {R : Fld} {γ : El R} {p k g : Int} {l c : Nat} (h : CodeIs R γ p k g l c) (z' : List Int) (hz' : z'.length ≤ 1048576) (z : List Int) (hz : z.length ≤ 1048576) (hw : wordB R.q (c : Int) z = false) :
    D2 23 p k g l c z z' (NewIK [] 2) ∧ D2 22 p k g l c z z' (NewIK [] 2) := by
  have hl255 := h.l255
  have HB := hide (codeB_is h)
  have HC := hide (c_bd h)
  have HW := hide hw
  clear hw
  refine ⟨?_, ?_⟩
  · intro A n cw A' n' cw' B w hI hJ hcap hcap' hB
    have HX0 := hide (CBox.start w p k g l c)
    have hn : n ≤ 1048576 := by rw [← hI.len]; exact hz
    have hn' : n' ≤ 1048576 := by rw [← hJ.len]; exact hz'
    have HI := hide hI
    have HJ := hide hJ
    clear hI hJ
    obtain ⟨c0, c1, c2, c3, c4⟩ := HX0.out.cells
    have hl := HI.out.len
    rcases (show ((n : Int) != (c : Int)) = true ∨ (((n : Int) != (c : Int)) = false ∧ z.all (elB R.q) = false) by
        rcases hh : ((n : Int) != (c : Int)) with _ | _
        · refine .inr ⟨rfl, ?_⟩
          rw [← wordB_all (L := (c : Int)) (by rw [hl]; simp at hh; omega)]; exact HW.out
        · exact .inl rfl) with z1 | ⟨z1, z2⟩
    · go_enter Try.func23, Try.ntmps23
      go_wp2_with fail
      refine (specIsCode p k g l c _ HC.out).mono ?_
      rw [HB.out]
      rintro e w1 ⟨rfl, hb⟩
      have HX1 := hide (HX0.out.next hb)
      clear hb c0 c1 c2 c3 c4
      obtain ⟨c0, c1, c2, c3, c4⟩ := HX1.out.cells
      go_wp2_with fail
      go_ret2
      exact newIK_nil HX1.out.2
    · have HA := hide z2
      clear z2
      go_enter Try.func23, Try.ntmps23
      go_wp2_with fail
      refine (specIsCode p k g l c _ HC.out).mono ?_
      rw [HB.out]
      rintro e w1 ⟨rfl, hb⟩
      have HX1 := hide (HX0.out.next hb)
      clear hb c0 c1 c2 c3 c4
      obtain ⟨c0, c1, c2, c3, c4⟩ := HX1.out.cells
      go_wp2_with fail
      refine (specIs h.fld.kind A n cw B z _ (HI.out.below (HX1.out.2.mono hB)) (Nat.le_trans hB (Nat.le_of_lt HX1.out.lt)) (by omega)).mono ?_
      rw [HA.out]
      rintro e w2 ⟨rfl, hb⟩
      have HX2 := hide (HX1.out.next hb)
      clear hb c0 c1 c2 c3 c4
      obtain ⟨c0, c1, c2, c3, c4⟩ := HX2.out.cells
      go_wp2_with fail
      go_ret2
      exact newIK_nil HX2.out.2
  · intro A n cw A' n' cw' B w hI hJ hcap hcap' hB
    have HX0 := hide (CBox.start w p k g l c)
    have hn : n ≤ 1048576 := by rw [← hI.len]; exact hz
    have hn' : n' ≤ 1048576 := by rw [← hJ.len]; exact hz'
    have HI := hide hI
    have HJ := hide hJ
    clear hI hJ
    obtain ⟨c0, c1, c2, c3, c4⟩ := HX0.out.cells
    go_enter Try.func22, Try.ntmps22
    go_wp2_with fail
    refine (implCodeValid p k g l c _).mono ?_
    rw [HB.out]
    rintro e w1 ⟨rfl, hb⟩
    have HX1 := hide (HX0.out.next hb)
    clear hb c0 c1 c2 c3 c4
    obtain ⟨c0, c1, c2, c3, c4⟩ := HX1.out.cells
    go_wp2_with fail
    refine (implHasList h.fld.kind (c : Int) A n cw B z _ (HI.out.below (HX1.out.2.mono hB)) (Nat.le_trans hB (Nat.le_of_lt HX1.out.lt)) (by omega)).mono ?_
    rw [HW.out]
    rintro e w2 ⟨rfl, hb⟩
    have HX2 := hide (HX1.out.next hb)
    clear hb c0 c1 c2 c3 c4
    obtain ⟨c0, c1, c2, c3, c4⟩ := HX2.out.cells
    go_wp2_with fail
    go_ret2
    exact newIK_nil HX2.out.2

set_option maxRecDepth 100000 in
set_option maxHeartbeats 4000000 in
theorem val_bad3 {R : Fld} {γ : El R} {p k g : Int} {l c : Nat} (h : CodeIs R γ p k g l c) (z' : List Int) (hz' : z'.length ≤ 1048576) (S : List (El R)) (hS : S.length = c) (hz : (iv S).length ≤ 1048576) (hi : idxB l z' = false) :
    D2 23 p k g l c (iv S) z' (NewIK [] 5) ∧ D2 22 p k g l c (iv S) z' (NewIK [] 5) := by
  have hl255 := h.l255
  have HB := hide (codeB_is h)
  have HC := hide (c_bd h)
  have HW := hide (show wordB R.q (c : Int) (iv S) = true by rw [← hS]; exact word_shut S)
  have HA := hide (iv_all S)
  have HII := hide hi
  clear hi
  refine ⟨?_, ?_⟩
  · intro A n cw A' n' cw' B w hI hJ hcap hcap' hB
    have HX0 := hide (CBox.start w p k g l c)
    have hn : n ≤ 1048576 := by rw [← hI.len]; exact hz
    have hn' : n' ≤ 1048576 := by rw [← hJ.len]; exact hz'
    have HI := hide hI
    have HJ := hide hJ
    clear hI hJ
    obtain ⟨c0, c1, c2, c3, c4⟩ := HX0.out.cells
    have hSn : S.length = n := by rw [← iv_len]; exact HI.out.len
    obtain rfl : n = c := by omega
    clear hSn
    go_enter Try.func23, Try.ntmps23
    go_wp2_with fail
    refine (specIsCode p k g l n _ HC.out).mono ?_
    rw [HB.out]
    rintro e w1 ⟨rfl, hb⟩
    have HX1 := hide (HX0.out.next hb)
    clear hb c0 c1 c2 c3 c4
    obtain ⟨c0, c1, c2, c3, c4⟩ := HX1.out.cells
    go_wp2_with fail
    refine (specIs h.fld.kind A n cw B (iv S) _ (HI.out.below (HX1.out.2.mono hB)) (Nat.le_trans hB (Nat.le_of_lt HX1.out.lt)) (by omega)).mono ?_
    rw [HA.out]
    rintro e w2 ⟨rfl, hb⟩
    have HX2 := hide (HX1.out.next hb)
    clear hb c0 c1 c2 c3 c4
    obtain ⟨c0, c1, c2, c3, c4⟩ := HX2.out.cells
    go_wp2_with fail
    refine (specIndices p k g l n (by omega) (by omega) A' n' cw' B z' _ (HJ.out.below (HX2.out.2.mono hB)) (Nat.le_trans hB (Nat.le_of_lt HX2.out.lt)) (by omega)).mono ?_
    rw [HII.out]
    rintro e w3 ⟨rfl, hb⟩
    have HX3 := hide (HX2.out.next hb)
    clear hb c0 c1 c2 c3 c4
    obtain ⟨c0, c1, c2, c3, c4⟩ := HX3.out.cells
    go_wp2_with fail
    go_ret2
    exact newIK_nil HX3.out.2
  · intro A n cw A' n' cw' B w hI hJ hcap hcap' hB
    have HX0 := hide (CBox.start w p k g l c)
    have hn : n ≤ 1048576 := by rw [← hI.len]; exact hz
    have hn' : n' ≤ 1048576 := by rw [← hJ.len]; exact hz'
    have HI := hide hI
    have HJ := hide hJ
    clear hI hJ
    obtain ⟨c0, c1, c2, c3, c4⟩ := HX0.out.cells
    have hSn : S.length = n := by rw [← iv_len]; exact HI.out.len
    obtain rfl : n = c := by omega
    clear hSn
    go_enter Try.func22, Try.ntmps22
    go_wp2_with fail
    refine (implCodeValid p k g l n _).mono ?_
    rw [HB.out]
    rintro e w1 ⟨rfl, hb⟩
    have HX1 := hide (HX0.out.next hb)
    clear hb c0 c1 c2 c3 c4
    obtain ⟨c0, c1, c2, c3, c4⟩ := HX1.out.cells
    go_wp2_with fail
    refine (implHasList h.fld.kind (n : Int) A n cw B (iv S) _ (HI.out.below (HX1.out.2.mono hB)) (Nat.le_trans hB (Nat.le_of_lt HX1.out.lt)) (by omega)).mono ?_
    rw [HW.out]
    rintro e w2 ⟨rfl, hb⟩
    have HX2 := hide (HX1.out.next hb)
    clear hb c0 c1 c2 c3 c4
    obtain ⟨c0, c1, c2, c3, c4⟩ := HX2.out.cells
    go_wp2_with fail
    refine (implHasIndices p k g l n (by omega) A' n' cw' B z' _ (HJ.out.below (HX2.out.2.mono hB)) (Nat.le_trans hB (Nat.le_of_lt HX2.out.lt)) (by omega)).mono ?_
    rw [HII.out]
    rintro e w3 ⟨rfl, hb⟩
    have HX3 := hide (HX2.out.next hb)
    clear hb c0 c1 c2 c3 c4
    obtain ⟨c0, c1, c2, c3, c4⟩ := HX3.out.cells
    go_wp2_with fail
    go_ret2
    exact newIK_nil HX3.out.2

set_option maxRecDepth 100000 in
set_option maxHeartbeats 4000000 in
theorem val_bad4 {R : Fld} {γ : El R} {p k g : Int} {l c : Nat} (h : CodeIs R γ p k g l c) (J : List Nat) (hJ' : Idx l J) (hz' : (nv J).length ≤ 1048576) (S : List (El R)) (hS : S.length = c) (hz : (iv S).length ≤ 1048576) (hlt : c < J.length) :
    D2 23 p k g l c (iv S) (nv J) (NewIK [] 3) ∧ D2 22 p k g l c (iv S) (nv J) (NewIK [] 3) := by
  have hl255 := h.l255
  have HB := hide (codeB_is h)
  have HC := hide (c_bd h)
  have HW := hide (show wordB R.q (c : Int) (iv S) = true by rw [← hS]; exact word_shut S)
  have HA := hide (iv_all S)
  have HII := hide (idx_shut hJ')
  refine ⟨?_, ?_⟩
  · intro A n cw A' n' cw' B w hI hJ hcap hcap' hB
    have HX0 := hide (CBox.start w p k g l c)
    have hn : n ≤ 1048576 := by rw [← hI.len]; exact hz
    have hn' : n' ≤ 1048576 := by rw [← hJ.len]; exact hz'
    have HI := hide hI
    have HJ := hide hJ
    clear hI hJ
    obtain ⟨c0, c1, c2, c3, c4⟩ := HX0.out.cells
    have hSn : S.length = n := by rw [← iv_len]; exact HI.out.len
    obtain rfl : n = c := by omega
    have hJn : J.length = n' := by rw [← nv_len]; exact HJ.out.len
    have z1 : decide ((n : Int) < (n' : Int)) = true := by rw [decide_eq_true_eq]; omega
    have z2 : n < n' := by omega
    clear hSn hJn hlt
    go_enter Try.func23, Try.ntmps23
    go_wp2_with fail
    refine (specIsCode p k g l n _ HC.out).mono ?_
    rw [HB.out]
    rintro e w1 ⟨rfl, hb⟩
    have HX1 := hide (HX0.out.next hb)
    clear hb c0 c1 c2 c3 c4
    obtain ⟨c0, c1, c2, c3, c4⟩ := HX1.out.cells
    go_wp2_with fail
    refine (specIs h.fld.kind A n cw B (iv S) _ (HI.out.below (HX1.out.2.mono hB)) (Nat.le_trans hB (Nat.le_of_lt HX1.out.lt)) (by omega)).mono ?_
    rw [HA.out]
    rintro e w2 ⟨rfl, hb⟩
    have HX2 := hide (HX1.out.next hb)
    clear hb c0 c1 c2 c3 c4
    obtain ⟨c0, c1, c2, c3, c4⟩ := HX2.out.cells
    go_wp2_with fail
    refine (specIndices p k g l n (by omega) (by omega) A' n' cw' B (nv J) _ (HJ.out.below (HX2.out.2.mono hB)) (Nat.le_trans hB (Nat.le_of_lt HX2.out.lt)) (by omega)).mono ?_
    rw [HII.out]
    rintro e w3 ⟨rfl, hb⟩
    have HX3 := hide (HX2.out.next hb)
    clear hb c0 c1 c2 c3 c4
    obtain ⟨c0, c1, c2, c3, c4⟩ := HX3.out.cells
    go_wp2_with fail
    go_ret2
    exact newIK_nil HX3.out.2
  · intro A n cw A' n' cw' B w hI hJ hcap hcap' hB
    have HX0 := hide (CBox.start w p k g l c)
    have hn : n ≤ 1048576 := by rw [← hI.len]; exact hz
    have hn' : n' ≤ 1048576 := by rw [← hJ.len]; exact hz'
    have HI := hide hI
    have HJ := hide hJ
    clear hI hJ
    obtain ⟨c0, c1, c2, c3, c4⟩ := HX0.out.cells
    have hSn : S.length = n := by rw [← iv_len]; exact HI.out.len
    obtain rfl : n = c := by omega
    have hJn : J.length = n' := by rw [← nv_len]; exact HJ.out.len
    have z1 : decide ((n : Int) < (n' : Int)) = true := by rw [decide_eq_true_eq]; omega
    have z2 : n < n' := by omega
    clear hSn hJn hlt
    go_enter Try.func22, Try.ntmps22
    go_wp2_with fail
    refine (implCodeValid p k g l n _).mono ?_
    rw [HB.out]
    rintro e w1 ⟨rfl, hb⟩
    have HX1 := hide (HX0.out.next hb)
    clear hb c0 c1 c2 c3 c4
    obtain ⟨c0, c1, c2, c3, c4⟩ := HX1.out.cells
    go_wp2_with fail
    refine (implHasList h.fld.kind (n : Int) A n cw B (iv S) _ (HI.out.below (HX1.out.2.mono hB)) (Nat.le_trans hB (Nat.le_of_lt HX1.out.lt)) (by omega)).mono ?_
    rw [HW.out]
    rintro e w2 ⟨rfl, hb⟩
    have HX2 := hide (HX1.out.next hb)
    clear hb c0 c1 c2 c3 c4
    obtain ⟨c0, c1, c2, c3, c4⟩ := HX2.out.cells
    go_wp2_with fail
    refine (implHasIndices p k g l n (by omega) A' n' cw' B (nv J) _ (HJ.out.below (HX2.out.2.mono hB)) (Nat.le_trans hB (Nat.le_of_lt HX2.out.lt)) (by omega)).mono ?_
    rw [HII.out]
    rintro e w3 ⟨rfl, hb⟩
    have HX3 := hide (HX2.out.next hb)
    clear hb c0 c1 c2 c3 c4
    obtain ⟨c0, c1, c2, c3, c4⟩ := HX3.out.cells
    go_wp2_with fail
    go_ret2
    exact newIK_nil HX3.out.2

set_option maxRecDepth 100000 in
set_option maxHeartbeats 4000000 in
theorem val_val {R : Fld} {γ : El R} {p k g : Int} {l c : Nat} (h : CodeIs R γ p k g l c) (J : List Nat) (hJ' : Idx l J) (hz' : (nv J).length ≤ 1048576) (S : List (El R)) (hS : S.length = c) (hz : (iv S).length ≤ 1048576) (hlt : J.length ≤ c) :
    D2 23 p k g l c (iv S) (nv J) (NewIK (iv (fvs (numE h.fld) γ l c S J)) (okC (valB γ l c S J) 7)) ∧ D2 22 p k g l c (iv S) (nv J) (NewIK (iv (fvs (numE h.fld) γ l c S J)) (okC (valB γ l c S J) 7)) := by
  have hl255 := h.l255
  have HB := hide (codeB_is h)
  have HC := hide (c_bd h)
  have HW := hide (show wordB R.q (c : Int) (iv S) = true by rw [← hS]; exact word_shut S)
  have HA := hide (iv_all S)
  have HII := hide (idx_shut hJ')
  refine ⟨?_, ?_⟩
  · intro A n cw A' n' cw' B w hI hJ hcap hcap' hB
    have HX0 := hide (CBox.start w p k g l c)
    have hn : n ≤ 1048576 := by rw [← hI.len]; exact hz
    have hn' : n' ≤ 1048576 := by rw [← hJ.len]; exact hz'
    have HI := hide hI
    have HJ := hide hJ
    clear hI hJ
    obtain ⟨c0, c1, c2, c3, c4⟩ := HX0.out.cells
    have hSn : S.length = n := by rw [← iv_len]; exact HI.out.len
    obtain rfl : n = c := by omega
    have hJn : J.length = n' := by rw [← nv_len]; exact HJ.out.len
    have z1 : decide ((n : Int) < (n' : Int)) = false := by rw [decide_eq_false_iff_not]; omega
    have z2 : decide (n < n') = false := by rw [decide_eq_false_iff_not]; omega
    have z3 : n' ≤ n := by omega
    have hnb : n ≤ 64 := h.c64
    have hnb' : n' ≤ 64 := by omega
    have HJN := hide hJn
    have HSN := hide hSn
    have HVI := hide (val_iff (num := numE h.fld) h.far (num_zero h.fld) (num_succ h.fld) hJ' hlt hS)
    clear hJn hSn hlt hS
    go_enter Try.func23, Try.ntmps23
    go_wp2_with fail
    refine (specIsCode p k g l n _ HC.out).mono ?_
    rw [HB.out]
    rintro e w1 ⟨rfl, hb⟩
    have HX1 := hide (HX0.out.next hb)
    clear hb c0 c1 c2 c3 c4
    obtain ⟨c0, c1, c2, c3, c4⟩ := HX1.out.cells
    go_wp2_with fail
    refine (specIs h.fld.kind A n cw B (iv S) _ (HI.out.below (HX1.out.2.mono hB)) (Nat.le_trans hB (Nat.le_of_lt HX1.out.lt)) (by omega)).mono ?_
    rw [HA.out]
    rintro e w2 ⟨rfl, hb⟩
    have HX2 := hide (HX1.out.next hb)
    clear hb c0 c1 c2 c3 c4
    obtain ⟨c0, c1, c2, c3, c4⟩ := HX2.out.cells
    go_wp2_with fail
    refine (specIndices p k g l n (by omega) (by omega) A' n' cw' B (nv J) _ (HJ.out.below (HX2.out.2.mono hB)) (Nat.le_trans hB (Nat.le_of_lt HX2.out.lt)) (by omega)).mono ?_
    rw [HII.out]
    rintro e w3 ⟨rfl, hb⟩
    have HX3 := hide (HX2.out.next hb)
    clear hb c0 c1 c2 c3 c4
    obtain ⟨c0, c1, c2, c3, c4⟩ := HX3.out.cells
    go_wp2_with fail
    refine (specValues h S J hJ'.2 A A' n cw n' cw' B _ (HI.out.below (HX3.out.2.mono hB)) (HJ.out.below (HX3.out.2.mono hB)) (Nat.le_trans hB (Nat.le_of_lt HX3.out.lt)) (by omega) (by omega) (by omega)).mono ?_
    rintro e w4 ⟨A4, m4, rfl, hm4, ho4, hb⟩
    rw [List.length_map, HJN.out] at ho4 ⊢
    have HX4 := hide (HX3.out.next hb)
    have HO4 := hide (ho4.low (base' := w.heap.size + 1) HX3.out.lt)
    clear ho4 hb hm4 c0 c1 c2 c3 c4
    obtain ⟨f, hf⟩ : ∃ f, fvI (numE h.fld) γ l n S J = f := ⟨_, rfl⟩
    have HFF := hide hf
    obtain ⟨X, hX⟩ : ∃ X, spread l J f = X := ⟨_, rfl⟩
    have HXX := hide hX
    have hXl : X.length = l := by rw [← hX, spread_len]
    have HXL := hide hXl
    have hYl : (synW γ n X).length = n := syn_len γ n X
    have HYL := hide hYl
    have HSM := hide (show decide (iv (synW γ n X) = iv S) = valB γ l n S J by
      rw [HVI.out, hf, hX, Bool.eq_iff_iff, decide_eq_true_eq, decide_eq_true_eq]
      exact ⟨iv_inj, fun e => by rw [e]⟩)
    rw [hf] at HO4
    clear hf hX hXl hYl
    go_wp2_with fail
    go_region_held3 (fun w' => w'.cell? ⟨w.heap.size, 0, none⟩ = some (.int .i64 p) ∧ w'.cell? ⟨w.heap.size, 1, none⟩ = some (.int .i64 k) ∧ w'.cell? ⟨w.heap.size, 2, none⟩ = some (.int .i64 g) ∧ w'.cell? ⟨w.heap.size, 3, none⟩ = some (.int .i64 l) ∧ w'.cell? ⟨w.heap.size, 4, none⟩ = some (.int .i64 n))
      (first
        | exact HX4.out.drew.cells
        | exact HX5.out.cells
        | exact HX6.out.cells
        | exact HX7.out.cells)
      (first
        | (go_at_call 57; refine (specSpread hl255 J hJ'.2 f A' A4 n' cw' m4 _ _ ((HJ.out.below (HX4.out.drew.2.mono hB)).more (Nat.le_trans hB (Nat.le_of_lt HX4.out.drew.lt))) HO4.out.drew.intsE (Nat.le_refl _) (by omega)).mono ?_; rw [HXX.out]; rintro e w5 ⟨A5, m5, rfl, hm5, ho5, hb5⟩; rw [HXL.out] at ho5 ⊢; have HX5 := hide (HX4.out.drew.next hb5); have HO5 := hide (HO4.out.drew.below hb5 (Nat.le_refl _)); have HV5 := hide ho5.intsE; clear ho5 hb5 hm5)
        | (go_at_call 49; refine (specSyndromes h X A5 l m5 _ _ HV5.out (Nat.le_refl _) (by omega)).mono ?_; rintro e w6 ⟨A6, m6, rfl, hm6, ho6, hb6⟩; rw [HYL.out] at ho6 ⊢; have HX6 := hide (HX5.out.next hb6); have HO6 := hide (HO5.out.below hb6 (Nat.le_refl _)); have HV6 := hide ho6.intsE; clear ho6 hb6 hm6)
        | (go_at_call 65; refine (specSame A6 A n m6 n cw _ _ _ _ HV6.out ((HI.out.below (HX6.out.2.mono hB)).more (Nat.le_trans hB (Nat.le_of_lt HX6.out.lt))) (Nat.le_refl _) (by omega)).mono ?_; rw [HSM.out]; rintro e w7 ⟨rfl, hb7⟩; have HX7 := hide (HX6.out.next hb7); have HO7 := hide (HO6.out.below hb7 (Nat.le_refl _)); clear hb7))
    clear HX4 HO4 HX5 HO5 HV5 HX6 HO6 HV6
    rcases hlb : valB γ l n S J with _ | _
    · have HF := hide (show NewIK (iv (fvs (numE h.fld) γ l n S J)) (okC (valB γ l n S J) 7) w (.returned (.tuple #[.slice none 0 0, .int .i64 7])) w7 by rw [fvs, hlb]; exact newIK_nil HX7.out.2)
      clear hlb
      go_wp2_with fail
      go_ret2
      exact HF.out
    · have HF := hide (show NewIK (iv (fvs (numE h.fld) γ l n S J)) (okC (valB γ l n S J) 7) w (.returned (.tuple #[.slice A4 n' m4, .int .i64 0])) w7 by rw [fvs, hlb, HFF.out]; exact newIK_of HO7.out HX7.out.2 (Nat.le_succ _))
      clear hlb
      go_wp2_with fail
      go_ret2
      exact HF.out
  · intro A n cw A' n' cw' B w hI hJ hcap hcap' hB
    have HX0 := hide (CBox.start w p k g l c)
    have hn : n ≤ 1048576 := by rw [← hI.len]; exact hz
    have hn' : n' ≤ 1048576 := by rw [← hJ.len]; exact hz'
    have HI := hide hI
    have HJ := hide hJ
    clear hI hJ
    obtain ⟨c0, c1, c2, c3, c4⟩ := HX0.out.cells
    have hSn : S.length = n := by rw [← iv_len]; exact HI.out.len
    obtain rfl : n = c := by omega
    have hJn : J.length = n' := by rw [← nv_len]; exact HJ.out.len
    have z1 : decide ((n : Int) < (n' : Int)) = false := by rw [decide_eq_false_iff_not]; omega
    have z2 : decide (n < n') = false := by rw [decide_eq_false_iff_not]; omega
    have z3 : n' ≤ n := by omega
    have hnb : n ≤ 64 := h.c64
    have hnb' : n' ≤ 64 := by omega
    have HJN := hide hJn
    have HSN := hide hSn
    have HVI := hide (val_iff (num := numE h.fld) h.far (num_zero h.fld) (num_succ h.fld) hJ' hlt hS)
    clear hJn hSn hlt hS
    go_enter Try.func22, Try.ntmps22
    go_wp2_with fail
    refine (implCodeValid p k g l n _).mono ?_
    rw [HB.out]
    rintro e w1 ⟨rfl, hb⟩
    have HX1 := hide (HX0.out.next hb)
    clear hb c0 c1 c2 c3 c4
    obtain ⟨c0, c1, c2, c3, c4⟩ := HX1.out.cells
    go_wp2_with fail
    refine (implHasList h.fld.kind (n : Int) A n cw B (iv S) _ (HI.out.below (HX1.out.2.mono hB)) (Nat.le_trans hB (Nat.le_of_lt HX1.out.lt)) (by omega)).mono ?_
    rw [HW.out]
    rintro e w2 ⟨rfl, hb⟩
    have HX2 := hide (HX1.out.next hb)
    clear hb c0 c1 c2 c3 c4
    obtain ⟨c0, c1, c2, c3, c4⟩ := HX2.out.cells
    go_wp2_with fail
    refine (implHasIndices p k g l n (by omega) A' n' cw' B (nv J) _ (HJ.out.below (HX2.out.2.mono hB)) (Nat.le_trans hB (Nat.le_of_lt HX2.out.lt)) (by omega)).mono ?_
    rw [HII.out]
    rintro e w3 ⟨rfl, hb⟩
    have HX3 := hide (HX2.out.next hb)
    clear hb c0 c1 c2 c3 c4
    obtain ⟨c0, c1, c2, c3, c4⟩ := HX3.out.cells
    go_wp2_with fail
    refine (implErrorValues0 h S J hJ'.2 A A' n cw n' cw' B _ (HI.out.below (HX3.out.2.mono hB)) (HJ.out.below (HX3.out.2.mono hB)) (Nat.le_trans hB (Nat.le_of_lt HX3.out.lt)) (by omega) (by omega) (by omega)).mono ?_
    rintro e w4 ⟨A4, m4, rfl, hm4, ho4, hb⟩
    have HX4 := hide (HX3.out.next hb)
    have HO4 := hide (ho4.low (base' := w.heap.size + 1) HX3.out.lt)
    obtain ⟨nh, hnh⟩ : ∃ nh, (iv (fvs (numE h.fld) γ l n S J)).length = nh := ⟨_, rfl⟩
    rw [hnh] at HO4 ⊢
    clear ho4 hb hm4 hnh
    rcases hlb : valB γ l n S J with _ | _
    · have HF := hide (show NewIK (iv (fvs (numE h.fld) γ l n S J)) (okC (valB γ l n S J) 7) w (.returned (.tuple #[.slice none 0 0, .int .i64 7])) w4 by rw [fvs, hlb]; exact newIK_nil HX4.out.2)
      clear hlb
      go_wp2_with fail
      go_ret2
      exact HF.out
    · have HF := hide (show NewIK (iv (fvs (numE h.fld) γ l n S J)) (okC (valB γ l n S J) 7) w (.returned (.tuple #[.slice A4 nh m4, .int .i64 0])) w4 by rw [hlb]; exact newIK_of HO4.out HX4.out.2 (Nat.le_succ _))
      clear hlb
      go_wp2_with fail
      go_ret2
      exact HF.out

end Go.Proofs.Ytpheembgjdgniaa
