/-
  What IsCodeWord, AddWords, WordDistance and IsWithin return, case by case, of the model and of the program, side by side.
  Condition: lists shorter than 2^20; the number of check elements is an int64.
-/
import Derived.Test.YtfbkmbjbjgfenaaCBoth1
import Derived.Test.YtfbkmbjbjgfenaaJO
namespace Go.Proofs.Ytfbkmbjbjgfenaa
open Go.RowKit
set_option linter.unusedSimpArgs false
set_option linter.unusedVariables false

set_option maxRecDepth 100000 in
set_option maxHeartbeats 4000000 in
theorem isw_bad1 (p k g L C : Int) (z : List Int) (hz : z.length ≤ 1048576) (hC : -9223372036854775808 ≤ C ∧ C ≤ 9223372036854775807) (h : codeB p k g L C = false) :
    D1 38 p k g L C (z) (Gives (.bool false)) ∧ D1 25 p k g L C (z) (Gives (.bool false)) := by
  have HB := hide h
  have HE := hide (wErr_no (Z := [z]) h)
  have HC := hide hC
  clear h hC
  refine ⟨?_, ?_⟩
  · intro A n cw B w hI hcap hB
    have HX := hide (CBox.start w p k g L C)
    have hn : n ≤ 1048576 := by rw [← hI.len]; exact hz
    have HI := hide hI
    clear hI
    go_enter Try.func38, Try.ntmps38
    go_wp2_with fail
    refine (specIsCode p k g L C _ HC.out).mono ?_
    rw [HB.out]
    rintro e w1 ⟨rfl, hb⟩
    have HX1 := hide (HX.out.next hb)
    obtain ⟨c0, c1, c2, c3, c4⟩ := HX1.out.cells
    clear hb
    go_wp2_with fail
    go_ret
    exact ⟨rfl, HX1.out.2⟩
  · intro A n cw B w hI hcap hB
    have HX := hide (CBox.start w p k g L C)
    have hn : n ≤ 1048576 := by rw [← hI.len]; exact hz
    have HR := hide (rws1b (c := cw) (.cells #[.int .i64 p, .int .i64 k, .int .i64 g, .int .i64 L, .int .i64 C] 27) 28 hI hB (by omega))
    have HXr := hide (HX.out.alloc (.cells #[.slice A n cw] 28))
    have HI := hide hI
    clear hI
    go_enter Try.func25, Try.ntmps25
    go_wp2_with fail
    refine (implWErr p k g L C _ 1 1 _ _ _ HR.out rfl (box_size _ _ _) (by omega)).mono ?_
    rw [show lists [(A, n, cw, z)] = [z] from rfl, HE.out]
    rintro e w1 ⟨rfl, hb⟩
    have HX1 := hide (HXr.out.next hb)
    obtain ⟨c0, c1, c2, c3, c4⟩ := HX1.out.cells
    clear hb
    go_wp2_with fail
    go_ret
    exact ⟨rfl, HX1.out.2⟩

set_option maxRecDepth 100000 in
set_option maxHeartbeats 4000000 in
theorem isw_bad2 {R : Fld} {γ : El R} {p k g : Int} {l c : Nat} (h : CodeIs R γ p k g l c) (z : List Int) (hz : z.length ≤ 1048576) (hw : wordB R.q l z = false) :
    D1 38 p k g l c (z) (Gives (.bool false)) ∧ D1 25 p k g l c (z) (Gives (.bool false)) := by
  have HB := hide (codeB_is h)
  have HC := hide (c_bd h)
  have HW := hide hw
  have HE := hide (wErr_bad (Z := [z]) (codeB_is h) h.fld.kind (List.mem_singleton.2 rfl) hw)
  clear hw
  refine ⟨?_, ?_⟩
  · intro A n cw B w hI hcap hB
    have HX := hide (CBox.start w p k g l c)
    have hn : n ≤ 1048576 := by rw [← hI.len]; exact hz
    have HI := hide hI
    clear hI
    go_enter Try.func38, Try.ntmps38
    go_wp2_with fail
    refine (specIsCode p k g l c _ HC.out).mono ?_
    rw [HB.out]
    rintro e w1 ⟨rfl, hb⟩
    have HX1 := hide (HX.out.next hb)
    obtain ⟨c0, c1, c2, c3, c4⟩ := HX1.out.cells
    clear hb
    go_wp2_with fail
    refine (specWord h.fld.kind A n cw B (z) _ (HI.out.below (HX1.out.2.mono hB)) (Nat.le_trans hB (Nat.le_of_lt HX1.out.lt)) (by omega)).mono ?_
    rw [HW.out]
    rintro e w2 ⟨rfl, hb⟩
    have HX2 := hide (HX1.out.next hb)
    clear hb c0 c1 c2 c3 c4
    obtain ⟨c0, c1, c2, c3, c4⟩ := HX2.out.cells
    go_wp2_with fail
    go_ret
    exact ⟨rfl, HX2.out.2⟩
  · intro A n cw B w hI hcap hB
    have HX := hide (CBox.start w p k g l c)
    have hn : n ≤ 1048576 := by rw [← hI.len]; exact hz
    have HR := hide (rws1b (c := cw) (.cells #[.int .i64 p, .int .i64 k, .int .i64 g, .int .i64 l, .int .i64 c] 27) 28 hI hB (by omega))
    have HXr := hide (HX.out.alloc (.cells #[.slice A n cw] 28))
    have HI := hide hI
    clear hI
    go_enter Try.func25, Try.ntmps25
    go_wp2_with fail
    refine (implWErr p k g l c _ 1 1 _ _ _ HR.out rfl (box_size _ _ _) (by omega)).mono ?_
    rw [show lists [(A, n, cw, z)] = [z] from rfl, HE.out]
    rintro e w1 ⟨rfl, hb⟩
    have HX1 := hide (HXr.out.next hb)
    obtain ⟨c0, c1, c2, c3, c4⟩ := HX1.out.cells
    clear hb
    go_wp2_with fail
    go_ret
    exact ⟨rfl, HX1.out.2⟩

set_option maxRecDepth 100000 in
set_option maxHeartbeats 4000000 in
theorem isw_val {R : Fld} {γ : El R} {p k g : Int} {l c : Nat} (h : CodeIs R γ p k g l c) (ws : List (El R)) (hz : (iv ws).length ≤ 1048576) (hw : ws.length = l) :
    D1 38 p k g l c (iv ws) (Gives (.bool (isCW γ c ws))) ∧ D1 25 p k g l c (iv ws) (Gives (.bool (isCW γ c ws))) := by
  have HB := hide (codeB_is h)
  have HE := hide (wErr_is h (Z := [iv ws]) (by simp only [List.mem_singleton, forall_eq]; exact ⟨ws, rfl, hw⟩))
  have HC := hide (c_bd h)
  have HW := hide (show wordB R.q l (iv ws) = true by rw [← hw]; exact word_shut ws)
  refine ⟨?_, ?_⟩
  · intro A n cw B w hI hcap hB
    have HX := hide (CBox.start w p k g l c)
    have hn : n ≤ 1048576 := by rw [← hI.len]; exact hz
    have HI := hide hI
    have hwl : ws.length = n := by rw [← iv_len]; exact hI.len
    obtain rfl : n = l := by omega
    clear hI hwl hz
    go_enter Try.func38, Try.ntmps38
    go_wp2_with fail
    refine (specIsCode p k g n c _ HC.out).mono ?_
    rw [HB.out]
    rintro e w1 ⟨rfl, hb⟩
    have HX1 := hide (HX.out.next hb)
    obtain ⟨c0, c1, c2, c3, c4⟩ := HX1.out.cells
    clear hb
    go_wp2_with fail
    refine (specWord h.fld.kind A n cw B (iv ws) _ (HI.out.below (HX1.out.2.mono hB)) (Nat.le_trans hB (Nat.le_of_lt HX1.out.lt)) (by omega)).mono ?_
    rw [HW.out]
    rintro e w2 ⟨rfl, hb⟩
    have HX2 := hide (HX1.out.next hb)
    clear hb c0 c1 c2 c3 c4
    obtain ⟨c0, c1, c2, c3, c4⟩ := HX2.out.cells
    go_wp2_with fail
    refine (specSyndromes h ws A n cw B _ (HI.out.below (HX2.out.2.mono hB)) (Nat.le_trans hB (Nat.le_of_lt HX2.out.lt)) (by omega)).mono ?_
    rintro e w3 ⟨A1, m1, rfl, hm1, ho, hb⟩
    have HX3 := hide (HX2.out.next hb)
    have HS3 := hide ho.intsE
    have HSL := hide (syn_len γ c ws)
    rw [HSL.out] at HS3 ⊢
    clear ho hb hm1
    go_wp2_with fail
    refine (specZeroL (synW γ c ws) A1 c m1 _ _ HS3.out (by have := h.c64; omega)).mono ?_
    rintro e w4 ⟨rfl, rfl⟩
    have HF := hide (show isCW γ c ws = zeroL (synW γ c ws) from rfl)
    generalize zeroL (synW γ c ws) = b at HF
    go_wp2_with fail
    go_ret
    exact ⟨ret_bool HF.out, HX3.out.2⟩
  · intro A n cw B w hI hcap hB
    have HX := hide (CBox.start w p k g l c)
    have hn : n ≤ 1048576 := by rw [← hI.len]; exact hz
    have HR := hide (rws1b (c := cw) (.cells #[.int .i64 p, .int .i64 k, .int .i64 g, .int .i64 l, .int .i64 c] 27) 28 hI hB (by omega))
    have HXr := hide (HX.out.alloc (.cells #[.slice A n cw] 28))
    have HI := hide hI
    have hwl : ws.length = n := by rw [← iv_len]; exact hI.len
    obtain rfl : n = l := by omega
    clear hI hwl hz
    go_enter Try.func25, Try.ntmps25
    go_wp2_with fail
    refine (implWErr p k g n c _ 1 1 _ _ _ HR.out rfl (box_size _ _ _) (by omega)).mono ?_
    rw [show lists [(A, n, cw, iv ws)] = [iv ws] from rfl, HE.out]
    rintro e w1 ⟨rfl, hb⟩
    have HX1 := hide (HXr.out.next hb)
    obtain ⟨c0, c1, c2, c3, c4⟩ := HX1.out.cells
    clear hb
    go_wp2_with fail
    refine (implAccepts h ws A cw B _ (HI.out.below (HX1.out.2.mono hB)) (Nat.le_trans hB (Nat.le_of_lt HX1.out.lt))).mono ?_
    rintro e w2 ⟨rfl, hb⟩
    have HX2 := hide (HX1.out.next hb)
    clear hb
    go_wp2_with fail
    go_ret
    exact ⟨rfl, HX2.out.2⟩

set_option maxRecDepth 100000 in
set_option maxHeartbeats 4000000 in
theorem addw_bad (p k g L C : Int) (z z' : List Int) (cd : Int) (hz : z.length ≤ 1048576) (hz' : z'.length ≤ 1048576) (hC : -9223372036854775808 ≤ C ∧ C ≤ 9223372036854775807) (h : wErr p k g L C [z, z'] = cd) (hne : (cd != 0) = true) :
    D2 28 p k g L C (z) (z') (NewIK [] cd) ∧ D2 27 p k g L C (z) (z') (NewIK [] cd) := by
  have HE := hide h
  have HC := hide hC
  clear h hC
  refine ⟨?_, ?_⟩
  · intro A n cw A' n' cw' B w hI hJ hcap hcap' hB
    have HX := hide (CBox.start w p k g L C)
    have hn : n ≤ 1048576 := by rw [← hI.len]; exact hz
    have hn' : n' ≤ 1048576 := by rw [← hJ.len]; exact hz'
    have HR := hide (rws2b (c := cw) (c' := cw') (.cells #[.int .i64 p, .int .i64 k, .int .i64 g, .int .i64 L, .int .i64 C] 27) 28 hI hJ hB (by omega) (by omega))
    have HXr := hide (HX.out.alloc (.cells #[.slice A n cw, .slice A' n' cw'] 28))
    have HI := hide hI
    have HJ := hide hJ
    clear hI hJ
    go_enter Try.func28, Try.ntmps28
    go_wp2_with fail
    refine (specWErr p k g L C HC.out _ 2 2 _ _ _ HR.out rfl (box_size _ _ _) (by omega)).mono ?_
    rw [show lists [(A, n, cw, z), (A', n', cw', z')] = [z, z'] from rfl, HE.out]
    rintro e w1 ⟨rfl, hb⟩
    have HX1 := hide (HXr.out.next hb)
    obtain ⟨c0, c1, c2, c3, c4⟩ := HX1.out.cells
    clear hb
    go_wp2_with fail
    go_ret2
    exact newIK_nil HX1.out.2
  · intro A n cw A' n' cw' B w hI hJ hcap hcap' hB
    have HX := hide (CBox.start w p k g L C)
    have hn : n ≤ 1048576 := by rw [← hI.len]; exact hz
    have hn' : n' ≤ 1048576 := by rw [← hJ.len]; exact hz'
    have HR := hide (rws2b (c := cw) (c' := cw') (.cells #[.int .i64 p, .int .i64 k, .int .i64 g, .int .i64 L, .int .i64 C] 27) 28 hI hJ hB (by omega) (by omega))
    have HXr := hide (HX.out.alloc (.cells #[.slice A n cw, .slice A' n' cw'] 28))
    have HI := hide hI
    have HJ := hide hJ
    clear hI hJ
    go_enter Try.func27, Try.ntmps27
    go_wp2_with fail
    refine (implWErr p k g L C _ 2 2 _ _ _ HR.out rfl (box_size _ _ _) (by omega)).mono ?_
    rw [show lists [(A, n, cw, z), (A', n', cw', z')] = [z, z'] from rfl, HE.out]
    rintro e w1 ⟨rfl, hb⟩
    have HX1 := hide (HXr.out.next hb)
    obtain ⟨c0, c1, c2, c3, c4⟩ := HX1.out.cells
    clear hb
    go_wp2_with fail
    go_ret2
    exact newIK_nil HX1.out.2

def AwRel {R : Fld} (w : World) (p k g : Int) (l c N : Nat) (a b : List (El R)) (i : Value) (wr : World) : Prop :=
  ∃ j : Nat, j ≤ l ∧ i = .int .i64 j ∧ Own wr N 2 .i64 (.slice (some ⟨N, 0, none⟩) l l) (iv (tab l fun i => if i < j then cf a i + cf b i else 0)) ∧ N ≤ wr.heap.size ∧ CBox w wr p k g l c
def BwRel {R : Fld} (w : World) (p k g : Int) (l c : Nat) (a b : List (El R)) (v i : Value) (wr : World) : Prop :=
  ∃ j : Nat, j ≤ l ∧ i = .int .i64 j ∧ Own wr (w.heap.size + 1) 2 .i64 v (iv (tab j fun i => cf a i + cf b i)) ∧ CBox w wr p k g l c
theorem aw_step {R : Fld} {a b : List (El R)} {l j : Nat} {x y : El R} (hx : x = cf a j) (hy : y = cf b j) : (tab l fun i => if i < j then cf a i + cf b i else 0).set j (x + y) = tab l fun i => if i < j + 1 then cf a i + cf b i else 0 := by
  rw [tab_set]
  refine tab_congr fun i hi => ?_
  by_cases h : i = j
  · rw [if_pos h, if_pos (by omega), hx, hy, h]
  · rw [if_neg h]
    by_cases h2 : i < j
    · rw [if_pos h2, if_pos (by omega)]
    · rw [if_neg h2, if_neg (by omega)]

end Go.Proofs.Ytfbkmbjbjgfenaa
