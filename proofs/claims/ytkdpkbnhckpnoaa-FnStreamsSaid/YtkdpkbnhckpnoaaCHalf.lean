/-
  What EncodeWord, SyndromesOf and IsCodeWord return, case by case, of the model alone (names with S) and of the program alone (names with I).
  Condition: lists shorter than 2^20; the number of check elements is an int64.
-/
import Derived.Test.YtkdpkbnhckpnoaaCBoth1
namespace Go.Proofs.Ytkdpkbnhckpnoaa
open Go.RowKit
set_option linter.unusedSimpArgs false
set_option linter.unusedVariables false

set_option maxRecDepth 100000 in
set_option maxHeartbeats 4000000 in
theorem isw_bad1I (p k g L C : Int) (z : List Int) (hz : z.length ≤ 1048576) (hC : -9223372036854775808 ≤ C ∧ C ≤ 9223372036854775807) (h : codeB p k g L C = false) :
    D1 20 p k g L C (z) (Gives (.bool false)) := by
  have HB := hide h
  have HE := hide (wErr_no (Z := [z]) h)
  have HC := hide hC
  clear h hC
  intro A n cw B w hI hcap hB
  have HX := hide (CBox.start w p k g L C)
  have hn : n ≤ 1048576 := by rw [← hI.len]; exact hz
  have HR := hide (rws1b (c := cw) (.cells #[.int .i64 p, .int .i64 k, .int .i64 g, .int .i64 L, .int .i64 C] 43) 28 hI hB (by omega))
  have HXr := hide (HX.out.alloc (.cells #[.slice A n cw] 28))
  have HI := hide hI
  clear hI
  go_enter Try.func20, Try.ntmps20
  go_wp2_with fail
  refine (implWErr p k g L C _ 1 1 _ _ _ HR.out rfl (box_size _ _ _) (by omega)).mono ?_
  rw [show lists [(A, n, cw, z)] = [z] from rfl, HE.out]
  rintro e w1 ⟨rfl, hb⟩
  have HX1 := hide (HXr.out.next hb)
  obtain ⟨c0, c1, c2, c3, c4⟩ := HX1.out.cells
  clear hb
  go_wp2_with fail
  go_ret
  exact ⟨rfl, HX1.out.2⟩

set_option maxRecDepth 100000 in
set_option maxHeartbeats 4000000 in
theorem isw_bad2I {R : Fld} {γ : El R} {p k g : Int} {l c : Nat} (h : CodeIs R γ p k g l c) (z : List Int) (hz : z.length ≤ 1048576) (hw : wordB R.q l z = false) :
    D1 20 p k g l c (z) (Gives (.bool false)) := by
  have HB := hide (codeB_is h)
  have HC := hide (c_bd h)
  have HW := hide hw
  have HE := hide (wErr_bad (Z := [z]) (codeB_is h) h.fld.kind (List.mem_singleton.2 rfl) hw)
  clear hw
  intro A n cw B w hI hcap hB
  have HX := hide (CBox.start w p k g l c)
  have hn : n ≤ 1048576 := by rw [← hI.len]; exact hz
  have HR := hide (rws1b (c := cw) (.cells #[.int .i64 p, .int .i64 k, .int .i64 g, .int .i64 l, .int .i64 c] 43) 28 hI hB (by omega))
  have HXr := hide (HX.out.alloc (.cells #[.slice A n cw] 28))
  have HI := hide hI
  clear hI
  go_enter Try.func20, Try.ntmps20
  go_wp2_with fail
  refine (implWErr p k g l c _ 1 1 _ _ _ HR.out rfl (box_size _ _ _) (by omega)).mono ?_
  rw [show lists [(A, n, cw, z)] = [z] from rfl, HE.out]
  rintro e w1 ⟨rfl, hb⟩
  have HX1 := hide (HXr.out.next hb)
  obtain ⟨c0, c1, c2, c3, c4⟩ := HX1.out.cells
  clear hb
  go_wp2_with fail
  go_ret
  exact ⟨rfl, HX1.out.2⟩

set_option maxRecDepth 100000 in
set_option maxHeartbeats 4000000 in
theorem isw_valI {R : Fld} {γ : El R} {p k g : Int} {l c : Nat} (h : CodeIs R γ p k g l c) (ws : List (El R)) (hz : (iv ws).length ≤ 1048576) (hw : ws.length = l) :
    D1 20 p k g l c (iv ws) (Gives (.bool (isCW γ c ws))) := by
  have HB := hide (codeB_is h)
  have HE := hide (wErr_is h (Z := [iv ws]) (by simp only [List.mem_singleton, forall_eq]; exact ⟨ws, rfl, hw⟩))
  have HC := hide (c_bd h)
  have HW := hide (show wordB R.q l (iv ws) = true by rw [← hw]; exact word_shut ws)
  intro A n cw B w hI hcap hB
  have HX := hide (CBox.start w p k g l c)
  have hn : n ≤ 1048576 := by rw [← hI.len]; exact hz
  have HR := hide (rws1b (c := cw) (.cells #[.int .i64 p, .int .i64 k, .int .i64 g, .int .i64 l, .int .i64 c] 43) 28 hI hB (by omega))
  have HXr := hide (HX.out.alloc (.cells #[.slice A n cw] 28))
  have HI := hide hI
  have hwl : ws.length = n := by rw [← iv_len]; exact hI.len
  obtain rfl : n = l := by omega
  clear hI hwl hz
  go_enter Try.func20, Try.ntmps20
  go_wp2_with fail
  refine (implWErr p k g n c _ 1 1 _ _ _ HR.out rfl (box_size _ _ _) (by omega)).mono ?_
  rw [show lists [(A, n, cw, iv ws)] = [iv ws] from rfl, HE.out]
  rintro e w1 ⟨rfl, hb⟩
  have HX1 := hide (HXr.out.next hb)
  obtain ⟨c0, c1, c2, c3, c4⟩ := HX1.out.cells
  clear hb
  go_wp2_with fail
  refine (implAccepts h ws A cw B _ (HI.out.below (HX1.out.2.mono hB)) (Nat.le_trans hB (Nat.le_of_lt HX1.out.lt))).mono ?_
  rintro e w2 ⟨rfl, hb⟩
  have HX2 := hide (HX1.out.next hb)
  clear hb
  go_wp2_with fail
  go_ret
  exact ⟨rfl, HX2.out.2⟩

end Go.Proofs.Ytkdpkbnhckpnoaa
