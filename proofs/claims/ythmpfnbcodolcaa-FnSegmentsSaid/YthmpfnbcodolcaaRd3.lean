/-
  The model's ReadSegment.
  Condition: as each statement says.
-/
import Derived.Test.YthmpfnbcodolcaaRd2
import Derived.Test.YthmpfnbcodolcaaIsBits
namespace Go.Proofs.Ythmpfnbcodolcaa
open Go Go.RowKit
set_option linter.unusedSimpArgs false
set_option linter.unusedVariables false

/-- What ReadSegment gives: its code, the segment, the index behind it. -/
noncomputable def rsK (zs : List Int) (a : Int) : Int := if isBits zs then (if 0 ≤ a ∧ a ≤ (zs.length : Int) then (if rdB zs a.toNat then 0 else 6) else 2) else 1
noncomputable def rsM (zs : List Int) (a : Int) : Int := if rsK zs a = 0 then rdM zs a.toNat else 0
noncomputable def rsS (zs : List Int) (a : Int) : ByteArray := if rsK zs a = 0 then rdS zs a.toNat else ⟨#[]⟩
noncomputable def rsE (zs : List Int) (a : Int) : Int := if rsK zs a = 0 then rdE zs a.toNat else 0
def RsPost (zs : List Int) (a : Int) (w : World) (x : Ending) (w' : World) : Prop :=
  x = .returned (.tuple #[.agg #[.int .i64 (rsM zs a), .string (rsS zs a)], .int .i64 (rsE zs a), .int .i64 (rsK zs a)]) ∧ Below w.heap.size w w'
theorem rs_post_no {zs : List Int} {a r : Int} (h : rsK zs a = r) (hr : r ≠ 0) {w w' : World} (hb : Below w.heap.size w w') : RsPost zs a w (.returned (.tuple #[.agg #[.int .i64 0, .string ⟨#[]⟩], .int .i64 0, .int .i64 r])) w' := by
  have h0 : ¬ rsK zs a = 0 := by rw [h]; exact hr
  exact ⟨by rw [rsM, rsS, rsE, if_neg h0, if_neg h0, if_neg h0, h], hb⟩
theorem rs_post_yes {zs : List Int} {a : Nat} (hb : isBits zs = true) (ha : a ≤ zs.length) (h : rdB zs a = true) {w w' : World} (hw : Below w.heap.size w w') : RsPost zs a w (.returned (.tuple #[.agg #[.int .i64 (rdM zs a), .string (rdS zs a)], .int .i64 (rdE zs a), .int .i64 0])) w' := by
  have hk : rsK zs (a : Int) = 0 := by rw [rsK, if_pos hb, if_pos (by omega), Int.toNat_natCast, h]; rfl
  exact ⟨by rw [rsM, rsS, rsE, if_pos hk, if_pos hk, if_pos hk, hk, Int.toNat_natCast], hw⟩

set_option maxRecDepth 100000 in
set_option maxHeartbeats 2000000 in
theorem specRs (A : Option Addr) (n c B : Nat) (zs : List Int) (a : Int) (w : World) (hI : Ints .i64 w B A n zs) (hB : B ≤ w.heap.size) (hn : n ≤ 1048576) :
    Calls Try.prog 22 #[.slice A n c, .int .i64 a] w (RsPost zs a w) := by
  have hl := hide hI.len
  have HI := hide hI
  have hn : n ≤ 1099511627776 := by omega
  have HX := hide (SBox.start w 26 0 ⟨#[]⟩)
  obtain ⟨c0, c1⟩ := HX.out.cells
  clear hI
  rcases hb : isBits zs with _ | _
  · have HBB := hide hb
    have HF := hide (fun w' hb' => rs_post_no (zs := zs) (a := a) (r := 1) (w := w) (w' := w') (by rw [rsK, hb]; rfl) (by decide) hb')
    clear hb
    go_enter Try.func22, Try.ntmps22
    go_wp2_with fail
    refine (specIsBits_no A n c B zs _ (HI.out.below (HX.out.2.mono hB)) hn HBB.out).mono ?_
    rintro e _ ⟨rfl, rfl⟩
    go_wp2_with fail
    exact bodyPost_ret (v := .tuple #[.agg #[.int .i64 0, .string ⟨#[]⟩], .int .i64 0, .int .i64 1]) (by simp [results, Try.results22, go_sem, c0, c1]) rfl (HF.out _ HX.out.2)
  have HBB := hide hb
  by_cases ha : 0 ≤ a ∧ a ≤ (n : Int)
  case neg =>
    have HF := hide (fun w' hb' => rs_post_no (zs := zs) (a := a) (r := 2) (w := w) (w' := w') (by rw [rsK, if_pos hb, if_neg (by rw [hl.out]; exact ha)]) (by decide) hb')
    have ha' : a < 0 ∨ (n : Int) < a := by omega
    clear hb
    go_enter Try.func22, Try.ntmps22
    go_wp2_with fail
    refine (specIsBits_yes A n c B zs _ (HI.out.below (HX.out.2.mono hB)) hn HBB.out).mono ?_
    rintro e _ ⟨rfl, rfl⟩
    go_wp2_with fail
    refine (specIn_no a 0 n _ ha').mono ?_
    rintro e _ ⟨rfl, rfl⟩
    go_wp2_with fail
    exact bodyPost_ret (v := .tuple #[.agg #[.int .i64 0, .string ⟨#[]⟩], .int .i64 0, .int .i64 2]) (by simp [results, Try.results22, go_sem, c0, c1]) rfl (HF.out _ HX.out.2)
  obtain ⟨a, rfl⟩ : ∃ k : Nat, a = k := ⟨a.toNat, by omega⟩
  have hal : a ≤ n := by omega
  have hz8 : n ≤ 8192 := by have := isBits_len hb; rw [hl.out] at this; exact this
  have HRD := hide (fun w' hI' hB' => specL9 A n c B zs a w' hI' hB' hz8 hal (isBits_all hb))
  have HFN := hide (fun (hf : rdB zs a = false) w' hb' => rs_post_no (zs := zs) (a := (a : Int)) (r := 6) (w := w) (w' := w') (by rw [rsK, if_pos hb, if_pos (by rw [hl.out]; exact ha), Int.toNat_natCast, hf]; rfl) (by decide) hb')
  have HFY := hide (fun (hf : rdB zs a = true) w' hb' => rs_post_yes (zs := zs) (a := a) (w := w) (w' := w') hb (by rw [hl.out]; exact hal) hf hb')
  obtain ⟨m, hm⟩ : ∃ m, rdM zs a = m := ⟨_, rfl⟩
  obtain ⟨s, hs⟩ : ∃ s, rdS zs a = s := ⟨_, rfl⟩
  obtain ⟨q, hq⟩ : ∃ q, rdE zs a = q := ⟨_, rfl⟩
  unfold RdPost at HRD
  rw [hm, hs, hq] at HRD HFY
  clear hm hs hq hb
  go_enter Try.func22, Try.ntmps22
  go_wp2_with fail
  refine (specIsBits_yes A n c B zs _ (HI.out.below (HX.out.2.mono hB)) hn HBB.out).mono ?_
  rintro e _ ⟨rfl, rfl⟩
  go_wp2_with fail
  refine (specIn_yes a 0 n _ ha.1 ha.2).mono ?_
  rintro e _ ⟨rfl, rfl⟩
  go_wp2_with fail
  refine (HRD.out _ (HI.out.below (HX.out.2.mono hB)) (Nat.le_trans hB HX.out.2.size)).mono ?_
  rintro e w1 ⟨rfl, hb1⟩
  have HX1 := hide (HX.out.next hb1)
  have HY1 := hide (SBox.start w1 26 m s)
  have HX2 := hide (HX1.out.next HY1.out.2)
  clear hb1 c0 c1
  obtain ⟨c0, c1⟩ := HX2.out.cells
  obtain ⟨e0, e1⟩ := HY1.out.cells
  have f0 := frozen_of_row _ w.heap.size 0 _ _ HX2.out.1
  have f1 := frozen_of_row _ w.heap.size 1 _ _ HX2.out.1
  rcases hf : rdB zs a with _ | _
  · have HR := hide (HFN.out hf)
    have HXp := hide (HX2.out.put 0 ⟨#[]⟩)
    clear hf
    go_wp2_with fail
    obtain ⟨d0, d1⟩ := HXp.out.cells
    exact bodyPost_ret (v := .tuple #[.agg #[.int .i64 0, .string ⟨#[]⟩], .int .i64 0, .int .i64 6]) (by simp [results, Try.results22, go_sem, d0, d1]) rfl (HR.out _ HXp.out.2)
  · have HR := hide (HFY.out hf)
    have HXp := hide (HX2.out.put m s)
    clear hf
    go_wp2_with fail
    obtain ⟨d0, d1⟩ := HXp.out.cells
    exact bodyPost_ret (v := .tuple #[.agg #[.int .i64 m, .string s], .int .i64 q, .int .i64 0]) (by simp [results, Try.results22, go_sem, d0, d1]) rfl (HR.out _ HXp.out.2)
end Go.Proofs.Ythmpfnbcodolcaa
