/-
  What CorrectWord returns, case by case, of the model alone (names with S) and of the program alone (names with I).
  Condition: lists shorter than 2^20; the number of check elements is an int64.
-/
import Derived.Test.YtdniocdmncldjaaDBoth3
namespace Go.Proofs.Ytdniocdmncldjaa
open Go.RowKit
set_option linter.unusedSimpArgs false
set_option linter.unusedVariables false

set_option maxRecDepth 100000 in
set_option maxHeartbeats 4000000 in
theorem cor_badS (p k g L C : Int) (z z' : List Int) (cd : Int) (hz : z.length ≤ 1048576) (hz' : z'.length ≤ 1048576) (hC : -9223372036854775808 ≤ C ∧ C ≤ 9223372036854775807) (h : xErr p k g L C z' [z] = cd) (hne : (cd != 0) = true) :
    D2 47 p k g L C z z' (NewIIK [] [] cd) := by
  have HE := hide h
  have HC := hide hC
  clear h hC
  intro A n cw A' n' cw' B w hI hJ hcap hcap' hB
  have HX0 := hide (CBox.start w p k g L C)
  have hn : n ≤ 1048576 := by rw [← hI.len]; exact hz
  have hn' : n' ≤ 1048576 := by rw [← hJ.len]; exact hz'
  have HR := hide (rws1b (c := cw) (.cells #[.int .i64 p, .int .i64 k, .int .i64 g, .int .i64 L, .int .i64 C] 48) 26 hI hB (by omega))
  have HXr := hide (HX0.out.alloc (.cells #[.slice A n cw] 26))
  have HI := hide hI
  have HJ := hide hJ
  clear hI hJ
  obtain ⟨c0, c1, c2, c3, c4⟩ := HXr.out.cells
  go_enter Try.func47, Try.ntmps47
  go_wp2_with fail
  refine (specXErr p k g L C A' n' cw' z' (some ⟨w.heap.size + 1, 0, none⟩) 1 1 B [z] _ (HJ.out.below (HXr.out.2.mono hB)) (Nat.le_trans hB (Nat.le_of_lt HXr.out.lt)) (by omega) (specWErr p k g L C HC.out _ 1 1 _ _ _ (HR.out.below ((Below.refl _ _).alloc (by rw [alloc_size, alloc_size]; exact Nat.le_refl _) _)) rfl (by rw [alloc_size, alloc_size, alloc_size]; omega) (by omega))).mono ?_
  rw [HE.out]
  rintro e w1 ⟨rfl, hb⟩
  have HX1 := hide (HXr.out.next hb)
  clear hb c0 c1 c2 c3 c4
  obtain ⟨c0, c1, c2, c3, c4⟩ := HX1.out.cells
  go_wp2_with fail
  go_ret3
  exact newIIK_nil HX1.out.2

set_option maxRecDepth 100000 in
set_option maxHeartbeats 4000000 in
theorem cor_yesS {R : Fld} {γ : El R} {p k g : Int} {l c : Nat} (h : CodeIs R γ p k g l c) (ws : List (El R)) (hw : ws.length = l) (E : List Nat) (hE : Idx l E) (hz : (iv ws).length ≤ 1048576) (hz' : (nv E).length ≤ 1048576) (cz : List (El R)) (ho : Okw γ l c E ws cz) :
    D2 47 p k g l c (iv ws) (nv E) (NewIIK (iv cz) (nv (difs ws cz)) 0) := by
  have hl255 := h.l255
  have HC := hide (c_bd h)
  have HE := hide (show xErr p k g l c (nv E) [iv ws] = 0 by rw [xErr, wErr_is h (fun z hz => by rw [List.mem_singleton] at hz; exact ⟨ws, hz, hw⟩), if_pos rfl, idx_shut hE]; rfl)
  intro A n cw A' n' cw' B w hI hJ hcap hcap' hB
  have HX0 := hide (CBox.start w p k g l c)
  have hn : n ≤ 1048576 := by rw [← hI.len]; exact hz
  have hn' : n' ≤ 1048576 := by rw [← hJ.len]; exact hz'
  have HR := hide (rws1b (c := cw) (.cells #[.int .i64 p, .int .i64 k, .int .i64 g, .int .i64 l, .int .i64 c] 48) 26 hI hB (by omega))
  have HXr := hide (HX0.out.alloc (.cells #[.slice A n cw] 26))
  have HI := hide hI
  have HJ := hide hJ
  clear hI hJ
  obtain ⟨c0, c1, c2, c3, c4⟩ := HXr.out.cells
  have hwn : ws.length = n := by rw [← iv_len]; exact HI.out.len
  obtain rfl : n = l := by omega
  have HWN := hide hwn
  clear hwn hw
  go_enter Try.func47, Try.ntmps47
  go_wp2_with fail
  refine (specXErr p k g n c A' n' cw' (nv E) (some ⟨w.heap.size + 1, 0, none⟩) 1 1 B [(iv ws)] _ (HJ.out.below (HXr.out.2.mono hB)) (Nat.le_trans hB (Nat.le_of_lt HXr.out.lt)) (by omega) (specWErr p k g n c HC.out _ 1 1 _ _ _ (HR.out.below ((Below.refl _ _).alloc (by rw [alloc_size, alloc_size]; exact Nat.le_refl _) _)) rfl (by rw [alloc_size, alloc_size, alloc_size]; omega) (by omega))).mono ?_
  rw [HE.out]
  rintro e w1 ⟨rfl, hb⟩
  have HX1 := hide (HXr.out.next hb)
  clear hb c0 c1 c2 c3 c4
  obtain ⟨c0, c1, c2, c3, c4⟩ := HX1.out.cells
  go_wp2_with fail
  refine (specCorrect h E hE ws A A' cw n' cw' B _ (HI.out.below (HX1.out.2.mono hB)) (HJ.out.below (HX1.out.2.mono hB)) (Nat.le_trans hB (Nat.le_of_lt HX1.out.lt))).mono ?_
  intro e w2 hp
  obtain ⟨A2, m2, A3, m3, rfl, hm2, hm3, ho2, ho3, hne, hb⟩ := scPost_yes ho hp
  have HX2 := hide (HX1.out.next hb)
  have HF := hide (newIIK_of (w := w) (cd := 0) ho2 ho3 hne.1 HX2.out.2 (Nat.le_of_lt HX1.out.lt))
  clear hp ho2 ho3 hne hb hm2 hm3 c0 c1 c2 c3 c4
  go_wp2_with fail
  go_ret3
  exact HF.out

set_option maxRecDepth 100000 in
set_option maxHeartbeats 4000000 in
theorem cor_noS {R : Fld} {γ : El R} {p k g : Int} {l c : Nat} (h : CodeIs R γ p k g l c) (ws : List (El R)) (hw : ws.length = l) (E : List Nat) (hE : Idx l E) (hz : (iv ws).length ≤ 1048576) (hz' : (nv E).length ≤ 1048576) (ho : ∀ cz, ¬ Okw γ l c E ws cz) :
    D2 47 p k g l c (iv ws) (nv E) (NewIIK [] [] 7) := by
  have hl255 := h.l255
  have HC := hide (c_bd h)
  have HE := hide (show xErr p k g l c (nv E) [iv ws] = 0 by rw [xErr, wErr_is h (fun z hz => by rw [List.mem_singleton] at hz; exact ⟨ws, hz, hw⟩), if_pos rfl, idx_shut hE]; rfl)
  intro A n cw A' n' cw' B w hI hJ hcap hcap' hB
  have HX0 := hide (CBox.start w p k g l c)
  have hn : n ≤ 1048576 := by rw [← hI.len]; exact hz
  have hn' : n' ≤ 1048576 := by rw [← hJ.len]; exact hz'
  have HR := hide (rws1b (c := cw) (.cells #[.int .i64 p, .int .i64 k, .int .i64 g, .int .i64 l, .int .i64 c] 48) 26 hI hB (by omega))
  have HXr := hide (HX0.out.alloc (.cells #[.slice A n cw] 26))
  have HI := hide hI
  have HJ := hide hJ
  clear hI hJ
  obtain ⟨c0, c1, c2, c3, c4⟩ := HXr.out.cells
  have hwn : ws.length = n := by rw [← iv_len]; exact HI.out.len
  obtain rfl : n = l := by omega
  have HWN := hide hwn
  clear hwn hw
  go_enter Try.func47, Try.ntmps47
  go_wp2_with fail
  refine (specXErr p k g n c A' n' cw' (nv E) (some ⟨w.heap.size + 1, 0, none⟩) 1 1 B [(iv ws)] _ (HJ.out.below (HXr.out.2.mono hB)) (Nat.le_trans hB (Nat.le_of_lt HXr.out.lt)) (by omega) (specWErr p k g n c HC.out _ 1 1 _ _ _ (HR.out.below ((Below.refl _ _).alloc (by rw [alloc_size, alloc_size]; exact Nat.le_refl _) _)) rfl (by rw [alloc_size, alloc_size, alloc_size]; omega) (by omega))).mono ?_
  rw [HE.out]
  rintro e w1 ⟨rfl, hb⟩
  have HX1 := hide (HXr.out.next hb)
  clear hb c0 c1 c2 c3 c4
  obtain ⟨c0, c1, c2, c3, c4⟩ := HX1.out.cells
  go_wp2_with fail
  refine (specCorrect h E hE ws A A' cw n' cw' B _ (HI.out.below (HX1.out.2.mono hB)) (HJ.out.below (HX1.out.2.mono hB)) (Nat.le_trans hB (Nat.le_of_lt HX1.out.lt))).mono ?_
  intro e w2 hp
  obtain ⟨r, s, A2, m2, A3, m3, rfl, hm2, hm3, ho2, ho3, hne, hb⟩ := scPost_no ho hp
  have HX2 := hide (HX1.out.next hb)
  clear hp ho2 ho3 hne hb hm2 hm3 c0 c1 c2 c3 c4
  go_wp2_with fail
  go_ret3
  exact newIIK_nil HX2.out.2

end Go.Proofs.Ytdniocdmncldjaa
