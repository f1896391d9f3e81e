/-
  The program's ReadSegment, given its textOf.
  Condition: as each statement says.
-/
import Derived.Test.YthmpfnbcodolcaaRdG
import Derived.Test.YthmpfnbcodolcaaIsBits
import Derived.Test.YthmpfnbcodolcaaTail2
namespace Go.Proofs.Ythmpfnbcodolcaa
open Go Go.RowKit
set_option linter.unusedSimpArgs false
set_option linter.unusedVariables false

set_option maxRecDepth 100000 in
set_option maxHeartbeats 2000000 in
theorem implRs (hTX : TextOf) (A : Option Addr) (n c B : Nat) (zs : List Int) (a : Int) (w : World) (hI : Ints .i64 w B A n zs) (hB : B ≤ w.heap.size) (hn : n ≤ 1048576) (hc : n ≤ c) (hcc : c ≤ 9223372036854775807) :
    Calls Try.prog 19 #[.slice A n c, .int .i64 a] w (RsPost zs a w) := by
  have hl := hide hI.len
  have HI := hide hI
  have hn' : n ≤ 1099511627776 := by omega
  have HX := hide (SBox.start w 26 0 ⟨#[]⟩)
  obtain ⟨c0, c1⟩ := HX.out.cells
  clear hI
  rcases hb : isBits zs with _ | _
  · have HBB := hide hb
    have HF := hide (fun w' hb' => rs_post_no (zs := zs) (a := a) (r := 1) (w := w) (w' := w') (by rw [rsK, hb]; rfl) (by decide) hb')
    clear hb
    go_enter Try.func19, Try.ntmps19
    go_wp2_with fail
    refine (implIsBits_no A n c B zs _ (HI.out.below (HX.out.2.mono hB)) hn' HBB.out).mono ?_
    rintro e wz ⟨rfl, hwz⟩
    rw [← hwz]
    clear hwz
    go_wp2_with fail
    exact bodyPost_ret (v := .tuple #[.agg #[.int .i64 0, .string ⟨#[]⟩], .int .i64 0, .int .i64 1]) (by simp [results, Try.results19, go_sem, c0, c1]) rfl (HF.out _ HX.out.2)
  have HBB := hide hb
  by_cases ha : 0 ≤ a ∧ a ≤ (n : Int)
  case neg =>
    have HF := hide (fun w' hb' => rs_post_no (zs := zs) (a := a) (r := 2) (w := w) (w' := w') (by rw [rsK, if_pos hb, if_neg (by rw [hl.out]; exact ha)]) (by decide) hb')
    clear hb
    by_cases ha0 : a < 0
    · clear ha
      go_enter Try.func19, Try.ntmps19
      go_wp2_with fail
      refine (implIsBits_yes A n c B zs _ (HI.out.below (HX.out.2.mono hB)) hn' HBB.out).mono ?_
      rintro e wz ⟨rfl, hwz⟩
      rw [← hwz]
      clear hwz
      go_wp2_with fail
      exact bodyPost_ret (v := .tuple #[.agg #[.int .i64 0, .string ⟨#[]⟩], .int .i64 0, .int .i64 2]) (by simp [results, Try.results19, go_sem, c0, c1]) rfl (HF.out _ HX.out.2)
    · have ha1 : (n : Int) < a := by omega
      clear ha
      go_enter Try.func19, Try.ntmps19
      go_wp2_with fail
      refine (implIsBits_yes A n c B zs _ (HI.out.below (HX.out.2.mono hB)) hn' HBB.out).mono ?_
      rintro e wz ⟨rfl, hwz⟩
      rw [← hwz]
      clear hwz
      go_wp2_with fail
      exact bodyPost_ret (v := .tuple #[.agg #[.int .i64 0, .string ⟨#[]⟩], .int .i64 0, .int .i64 2]) (by simp [results, Try.results19, go_sem, c0, c1]) rfl (HF.out _ HX.out.2)
  obtain ⟨a, rfl⟩ : ∃ k : Nat, a = k := ⟨a.toNat, by omega⟩
  have hal : a ≤ n := by omega
  have hz8 : n ≤ 8192 := by have := isBits_len hb; rw [hl.out] at this; exact this
  have hbt := isBits_all hb
  obtain ⟨e1, e2, e3⟩ := dr_eq (zs := zs) (a := a) (by rw [hl.out]; exact hal)
  have HIR := hide (HI.out.sub (lo := a) (m := n - a) hc (by omega))
  have HRN := hide (fun h => rd_nums (zs := zs) (a := a) hbt h)
  have HFI := hide (fun wx (hb' : Below w.heap.size w wx) => implFirstS hTX (subA A c a) (n - a) (c - a) B (zs.drop a) wx ((by have h := HIR.out; rw [List.take_of_length_le (by rw [List.length_drop, hl.out]; omega)] at h; exact h.below (hb'.mono hB))) (Nat.le_trans hB hb'.size) (by omega) (by omega) (by omega) (fun x hx => hbt x (List.mem_of_mem_drop hx)))
  rw [e1, e2, e3] at HFI
  have HFN := hide (fun (hf : rdB zs a = false) w' hb' => rs_post_no (zs := zs) (a := (a : Int)) (r := 6) (w := w) (w' := w') (by rw [rsK, if_pos hb, if_pos (by rw [hl.out]; exact ha), Int.toNat_natCast, hf]; rfl) (by decide) hb')
  have HFY := hide (fun (hf : rdB zs a = true) w' hb' => rs_post_yes (zs := zs) (a := a) (w := w) (w' := w') hb (by rw [hl.out]; exact hal) hf hb')
  obtain ⟨m, hm⟩ : ∃ m, rdM zs a = m := ⟨_, rfl⟩
  obtain ⟨s, hs⟩ : ∃ s, rdS zs a = s := ⟨_, rfl⟩
  obtain ⟨q, hq⟩ : ∃ q, rdE zs a = q := ⟨_, rfl⟩
  rw [hm, hs, hq] at HFY HRN
  rw [hm, hs] at HFI
  have hcA : (a : Int) ≤ (c : Int) := by omega
  have ha0 : ¬ (a : Int) < 0 := by omega
  have hanI : ¬ (n : Int) < (a : Int) := by omega
  clear hm hs hq hb hbt e1 e2 e3 ha
  by_cases hca : c = a
  · have HP := hide (show subA A c a = A by rw [subA, if_pos hca])
    rw [HP.out] at HFI
    subst hca
    rw [Nat.sub_self, show n - c = 0 by omega] at HFI
    go_enter Try.func19, Try.ntmps19
    go_wp2_with fail
    refine (implIsBits_yes A n c B zs _ (HI.out.below (HX.out.2.mono hB)) hn' HBB.out).mono ?_
    rintro e wz ⟨rfl, hwz⟩
    rw [← hwz]
    clear hwz
    go_wp2_with fail
    refine (HFI.out _ HX.out.2).mono ?_
    rintro e w1 ⟨rfl, hb1⟩
    have HX1 := hide (HX.out.next hb1)
    have HY1 := hide (SBox.start w1 26 m s)
    have HX2 := hide (HX1.out.next HY1.out.2)
    clear hb1 c0 c1
    obtain ⟨c0, c1⟩ := HX2.out.cells
    obtain ⟨e0, e1⟩ := HY1.out.cells
    have f0 := frozen_of_row _ w.heap.size 0 _ _ HX2.out.1
    have f1 := frozen_of_row _ w.heap.size 1 _ _ HX2.out.1
    rcases hf : rdB zs c with _ | _
    · have HR := hide (HFN.out hf)
      have HXp := hide (HX2.out.put 0 ⟨#[]⟩)
      clear hf
      go_wp2_with fail
      obtain ⟨d0, d1⟩ := HXp.out.cells
      exact bodyPost_ret (v := .tuple #[.agg #[.int .i64 0, .string ⟨#[]⟩], .int .i64 0, .int .i64 6]) (by simp [results, Try.results19, go_sem, d0, d1]) rfl (HR.out _ HXp.out.2)
    · have HR := hide (HFY.out hf)
      obtain ⟨hm, hs255, hqe, hsl, hsn⟩ := HRN.out hf
      have HLN := hide (implSegLen0 m s hm hs255)
      obtain ⟨T, hT⟩ : ∃ T, slen m s.size = T := ⟨_, rfl⟩
      rw [hT] at HLN hqe hsl
      have hwT : IntKind.i64.wrap ((c : Int) + (T : Int)) = q := by rw [hqe, IntWalk.i64_in _ ⟨by omega, by omega⟩]; omega
      clear hf hT hqe hsn
      go_wp2_with fail
      have HXd := hide HX2.out.drew
      have HYd := hide HY1.out.drew
      obtain ⟨wd, hwd⟩ : ∃ wd, (w1.alloc (.cells #[.int .i64 m, .string s] 26)).drew = wd := ⟨_, rfl⟩
      refine tail_begin (fun w' => w'.cell? ⟨w1.heap.size, 0, none⟩ = some (.int .i64 m) ∧ w'.cell? ⟨w1.heap.size, 1, none⟩ = some (.string s)) 8 (by kernel_rfl) HYd.out.cells (fun hS' => ?_)
      rw [hwd] at HXd HYd ⊢
      clear hS'
      have hS' := HYd.out.cells
      clear hwd c0 c1 e0 e1 f0 f1
      refine tail_take2 0 rfl (by kernel_rfl) (by kernel_rfl) (by kernel_rfl) (by decide) (fun _ _ _ h => h) (by rfl) (v := ?_) ?_ (by assumption) ?_
      rotate_left 1
      · intro w' hS'; obtain ⟨e0, e1⟩ := hS'; go_simp; try with_reducible rfl
      try simp only [Act.put, List.setIfInBounds_toArray, List.set_cons_zero, List.set_cons_succ]
      refine tail_take2 1 rfl (by kernel_rfl) (by kernel_rfl) (by kernel_rfl) (by decide) (fun _ _ _ h => h) (by rfl) (v := ?_) ?_ (by assumption) ?_
      rotate_left 1
      · intro w' hS'; obtain ⟨e0, e1⟩ := hS'; go_simp; try with_reducible rfl
      try simp only [Act.put, List.setIfInBounds_toArray, List.set_cons_zero, List.set_cons_succ]
      refine tail_take2 2 rfl (by kernel_rfl) (by kernel_rfl) (by kernel_rfl) (by decide) (fun _ _ _ h => h) (by rfl) (v := ?_) ?_ (by assumption) ?_
      rotate_left 1
      · intro w' hS'; obtain ⟨e0, e1⟩ := hS'; go_simp; try with_reducible rfl
      try simp only [Act.put, List.setIfInBounds_toArray, List.set_cons_zero, List.set_cons_succ]
      refine tail_call 3 rfl (by kernel_rfl) rfl (fun K hK => ?_)
      go_simp
      (go_at_call 49; refine (HLN.out _).mono ?_; rintro e w3 ⟨rfl, hb3⟩; have HX3 := hide (HXd.out.next hb3); have HY3 := hide (HYd.out.next hb3); clear hb3)
      refine hK.out _ _ (by (try dsimp only); exact HY3.out.cells) (fun hS' => ?_)
      clear hK K
      try simp only [Act.put, List.setIfInBounds_toArray, List.set_cons_zero, List.set_cons_succ]
      refine tail_take2 4 rfl (by kernel_rfl) (by kernel_rfl) (by kernel_rfl) (by decide) (fun _ _ _ h => h) (by rfl) (v := ?_) ?_ (by assumption) ?_
      rotate_left 1
      · intro w' hS'; obtain ⟨e0, e1⟩ := hS'; go_simp; try with_reducible rfl
      try simp only [Act.put, List.setIfInBounds_toArray, List.set_cons_zero, List.set_cons_succ]
      obtain ⟨c0, c1⟩ := HX3.out.cells
      have f0 := frozen_of_row _ w.heap.size 0 _ _ HX3.out.1
      have f1 := frozen_of_row _ w.heap.size 1 _ _ HX3.out.1
      have HXp := hide (HX3.out.put m s)
      have hne : w1.heap.size ≠ w.heap.size := by have := HX1.out.lt; omega
      have HYp := hide (show ((w3.setCell ⟨w.heap.size, 0, none⟩ (.int .i64 m)).setCell ⟨w.heap.size, 1, none⟩ (.string s)).heap[w1.heap.size]? = some (.cells #[.int .i64 m, .string s] 26 (0, 0)) by
        rw [heap_setCell_other _ ⟨w.heap.size, 1, none⟩ _ _ hne, heap_setCell_other _ ⟨w.heap.size, 0, none⟩ _ _ hne]; exact HY3.out.1)
      clear hne
      refine tail_call 5 rfl (by kernel_rfl) rfl (fun K hK => ?_)
      go_simp
      refine hK.out _ _ (by (try dsimp only); exact ⟨cell_of_row _ w1.heap.size 0 _ _ _ HYp.out, cell_of_row _ w1.heap.size 1 _ _ _ HYp.out⟩) (fun hS' => ?_)
      clear hK K
      try simp only [Act.put, List.setIfInBounds_toArray, List.set_cons_zero, List.set_cons_succ]
      refine tail_take2 6 rfl (by kernel_rfl) (by kernel_rfl) (by kernel_rfl) (by decide) (fun _ _ _ h => h) (by rfl) (v := ?_) ?_ (by assumption) ?_
      rotate_left 1
      · intro w' hS'; obtain ⟨e0, e1⟩ := hS'; go_simp; try with_reducible rfl
      try simp only [Act.put, List.setIfInBounds_toArray, List.set_cons_zero, List.set_cons_succ]
      refine tail_take2 7 rfl (by kernel_rfl) (by kernel_rfl) (by kernel_rfl) (by decide) (fun _ _ _ h => h) (by rfl) (v := ?_) ?_ (by assumption) ?_
      rotate_left 1
      · intro w' hS'; obtain ⟨e0, e1⟩ := hS'; go_simp; try with_reducible rfl
      try simp only [Act.put, List.setIfInBounds_toArray, List.set_cons_zero, List.set_cons_succ]
      refine tail_end (by kernel_rfl) ?_
      obtain ⟨d0, d1⟩ := HXp.out.cells
      go_wp2_with fail
      exact bodyPost_ret (v := .tuple #[.agg #[.int .i64 m, .string s], .int .i64 q, .int .i64 0]) (by simp [results, Try.results19, go_sem, d0, d1]) rfl (HR.out _ HXp.out.2)
  · have HP := hide (show subA A c a = A.map (fun x => x.add a) by rw [subA, if_neg hca])
    rw [HP.out] at HFI
    go_enter Try.func19, Try.ntmps19
    go_wp2_with fail
    refine (implIsBits_yes A n c B zs _ (HI.out.below (HX.out.2.mono hB)) hn' HBB.out).mono ?_
    rintro e wz ⟨rfl, hwz⟩
    rw [← hwz]
    clear hwz
    go_wp2_with fail
    refine (HFI.out _ HX.out.2).mono ?_
    rintro e w1 ⟨rfl, hb1⟩
    have HX1 := hide (HX.out.next hb1)
    have HY1 := hide (SBox.start w1 26 m s)
    have HX2 := hide (HX1.out.next HY1.out.2)
    clear hb1 c0 c1
    obtain ⟨c0, c1⟩ := HX2.out.cells
    obtain ⟨e0, e1⟩ := HY1.out.cells
    have f0 := frozen_of_row _ w.heap.size 0 _ _ HX2.out.1
    have f1 := frozen_of_row _ w.heap.size 1 _ _ HX2.out.1
    rcases hf : rdB zs a with _ | _
    · have HR := hide (HFN.out hf)
      have HXp := hide (HX2.out.put 0 ⟨#[]⟩)
      clear hf
      go_wp2_with fail
      obtain ⟨d0, d1⟩ := HXp.out.cells
      exact bodyPost_ret (v := .tuple #[.agg #[.int .i64 0, .string ⟨#[]⟩], .int .i64 0, .int .i64 6]) (by simp [results, Try.results19, go_sem, d0, d1]) rfl (HR.out _ HXp.out.2)
    · have HR := hide (HFY.out hf)
      obtain ⟨hm, hs255, hqe, hsl, hsn⟩ := HRN.out hf
      have HLN := hide (implSegLen0 m s hm hs255)
      obtain ⟨T, hT⟩ : ∃ T, slen m s.size = T := ⟨_, rfl⟩
      rw [hT] at HLN hqe hsl
      have hwT : IntKind.i64.wrap ((a : Int) + (T : Int)) = q := by rw [hqe, IntWalk.i64_in _ ⟨by omega, by omega⟩]; omega
      clear hf hT hqe hsn
      go_wp2_with fail
      have HXd := hide HX2.out.drew
      have HYd := hide HY1.out.drew
      obtain ⟨wd, hwd⟩ : ∃ wd, (w1.alloc (.cells #[.int .i64 m, .string s] 26)).drew = wd := ⟨_, rfl⟩
      refine tail_begin (fun w' => w'.cell? ⟨w1.heap.size, 0, none⟩ = some (.int .i64 m) ∧ w'.cell? ⟨w1.heap.size, 1, none⟩ = some (.string s)) 8 (by kernel_rfl) HYd.out.cells (fun hS' => ?_)
      rw [hwd] at HXd HYd ⊢
      clear hS'
      have hS' := HYd.out.cells
      clear hwd c0 c1 e0 e1 f0 f1
      refine tail_take2 0 rfl (by kernel_rfl) (by kernel_rfl) (by kernel_rfl) (by decide) (fun _ _ _ h => h) (by rfl) (v := ?_) ?_ (by assumption) ?_
      rotate_left 1
      · intro w' hS'; obtain ⟨e0, e1⟩ := hS'; go_simp; try with_reducible rfl
      try simp only [Act.put, List.setIfInBounds_toArray, List.set_cons_zero, List.set_cons_succ]
      refine tail_take2 1 rfl (by kernel_rfl) (by kernel_rfl) (by kernel_rfl) (by decide) (fun _ _ _ h => h) (by rfl) (v := ?_) ?_ (by assumption) ?_
      rotate_left 1
      · intro w' hS'; obtain ⟨e0, e1⟩ := hS'; go_simp; try with_reducible rfl
      try simp only [Act.put, List.setIfInBounds_toArray, List.set_cons_zero, List.set_cons_succ]
      refine tail_take2 2 rfl (by kernel_rfl) (by kernel_rfl) (by kernel_rfl) (by decide) (fun _ _ _ h => h) (by rfl) (v := ?_) ?_ (by assumption) ?_
      rotate_left 1
      · intro w' hS'; obtain ⟨e0, e1⟩ := hS'; go_simp; try with_reducible rfl
      try simp only [Act.put, List.setIfInBounds_toArray, List.set_cons_zero, List.set_cons_succ]
      refine tail_call 3 rfl (by kernel_rfl) rfl (fun K hK => ?_)
      go_simp
      (go_at_call 49; refine (HLN.out _).mono ?_; rintro e w3 ⟨rfl, hb3⟩; have HX3 := hide (HXd.out.next hb3); have HY3 := hide (HYd.out.next hb3); clear hb3)
      refine hK.out _ _ (by (try dsimp only); exact HY3.out.cells) (fun hS' => ?_)
      clear hK K
      try simp only [Act.put, List.setIfInBounds_toArray, List.set_cons_zero, List.set_cons_succ]
      refine tail_take2 4 rfl (by kernel_rfl) (by kernel_rfl) (by kernel_rfl) (by decide) (fun _ _ _ h => h) (by rfl) (v := ?_) ?_ (by assumption) ?_
      rotate_left 1
      · intro w' hS'; obtain ⟨e0, e1⟩ := hS'; go_simp; try with_reducible rfl
      try simp only [Act.put, List.setIfInBounds_toArray, List.set_cons_zero, List.set_cons_succ]
      obtain ⟨c0, c1⟩ := HX3.out.cells
      have f0 := frozen_of_row _ w.heap.size 0 _ _ HX3.out.1
      have f1 := frozen_of_row _ w.heap.size 1 _ _ HX3.out.1
      have HXp := hide (HX3.out.put m s)
      have hne : w1.heap.size ≠ w.heap.size := by have := HX1.out.lt; omega
      have HYp := hide (show ((w3.setCell ⟨w.heap.size, 0, none⟩ (.int .i64 m)).setCell ⟨w.heap.size, 1, none⟩ (.string s)).heap[w1.heap.size]? = some (.cells #[.int .i64 m, .string s] 26 (0, 0)) by
        rw [heap_setCell_other _ ⟨w.heap.size, 1, none⟩ _ _ hne, heap_setCell_other _ ⟨w.heap.size, 0, none⟩ _ _ hne]; exact HY3.out.1)
      clear hne
      refine tail_call 5 rfl (by kernel_rfl) rfl (fun K hK => ?_)
      go_simp
      refine hK.out _ _ (by (try dsimp only); exact ⟨cell_of_row _ w1.heap.size 0 _ _ _ HYp.out, cell_of_row _ w1.heap.size 1 _ _ _ HYp.out⟩) (fun hS' => ?_)
      clear hK K
      try simp only [Act.put, List.setIfInBounds_toArray, List.set_cons_zero, List.set_cons_succ]
      refine tail_take2 6 rfl (by kernel_rfl) (by kernel_rfl) (by kernel_rfl) (by decide) (fun _ _ _ h => h) (by rfl) (v := ?_) ?_ (by assumption) ?_
      rotate_left 1
      · intro w' hS'; obtain ⟨e0, e1⟩ := hS'; go_simp; try with_reducible rfl
      try simp only [Act.put, List.setIfInBounds_toArray, List.set_cons_zero, List.set_cons_succ]
      refine tail_take2 7 rfl (by kernel_rfl) (by kernel_rfl) (by kernel_rfl) (by decide) (fun _ _ _ h => h) (by rfl) (v := ?_) ?_ (by assumption) ?_
      rotate_left 1
      · intro w' hS'; obtain ⟨e0, e1⟩ := hS'; go_simp; try with_reducible rfl
      try simp only [Act.put, List.setIfInBounds_toArray, List.set_cons_zero, List.set_cons_succ]
      refine tail_end (by kernel_rfl) ?_
      obtain ⟨d0, d1⟩ := HXp.out.cells
      go_wp2_with fail
      exact bodyPost_ret (v := .tuple #[.agg #[.int .i64 m, .string s], .int .i64 q, .int .i64 0]) (by simp [results, Try.results19, go_sem, d0, d1]) rfl (HR.out _ HXp.out.2)
end Go.Proofs.Ythmpfnbcodolcaa
