/-
  The contracts of PolyFit, of the model and of the program, side by side.
  Condition: lists shorter than 2^20.
-/
import Derived.Test.YthafkohopkgckaaPFit3
namespace Go.Proofs.Ythafkohopkgckaa
open Go.RowKit
set_option linter.unusedSimpArgs false
set_option linter.unusedVariables false

/-- A function of a field and two lists whose memory may be cut: its contract. -/
def C2c (f : Nat) (p k g : Int) (z z' : List Int) (Post : World → Ending → World → Prop) : Prop :=
  ∀ (A : Option Addr) (n c : Nat) (A' : Option Addr) (n' c' B : Nat) (w : World), Ints .i64 w B A n z → Ints .i64 w B A' n' z' → n ≤ c → n' ≤ c' → B ≤ w.heap.size → Calls Try.prog f #[.agg #[.int .i64 p, .int .i64 k, .int .i64 g], .slice A n c, .slice A' n' c'] w (Post w)
theorem apart_iv {R : Fld} {xs : List (El R)} (h : twB (iv xs) = false) : Apart xs := by
  have hd : (iv xs).Nodup := by simpa [twB] using h
  intro i j hij hj e
  rw [List.nodup_iff_pairwise_ne, List.pairwise_iff_getElem] at hd
  refine hd i j (by rw [iv_len]; omega) (by rw [iv_len]; exact hj) hij ?_
  have h1 := iv_at (ps := xs) (i := i) (by omega)
  have h2 := iv_at hj
  rw [List.getElem?_eq_getElem (by rw [iv_len]; omega)] at h1
  rw [List.getElem?_eq_getElem (by rw [iv_len]; exact hj)] at h2
  injection h1 with h1
  injection h2 with h2
  rw [h1, h2, e]
def FoRel (w : World) (p k g : Int) (n : Nat) (zs : List Int) (i : Value) (wr : World) : Prop :=
  ∃ j : Nat, j ≤ n ∧ i = .int .i64 j ∧ Hid ((zs.take j).Nodup) ∧ Box w wr 25 p k g
def FnRel (w : World) (p k g : Int) (j : Nat) (x : Int) (zs : List Int) (i : Value) (wr : World) : Prop :=
  ∃ l : Nat, l ≤ j ∧ i = .int .i64 l ∧ Hid (x ∉ zs.take l) ∧ Box w wr 25 p k g
theorem mem_take {zs : List Int} {l j : Nat} {x : Int} (hx : zs[l]? = some x) (h : l < j) : x ∈ zs.take j := by
  refine List.mem_of_getElem? (i := l) ?_
  rw [List.getElem?_take, if_pos h]; exact hx

set_option maxHeartbeats 4000000 in
theorem fit_1 (p k g : Int) (z z' : List Int) (hz : z.length ≤ 1048576) (hz' : z'.length ≤ 1048576) (hf : fieldB p k g = false) : C2c 41 p k g z z' (NewIK [] 1) ∧ C2c 40 p k g z z' (NewIK [] 1) := by
  refine ⟨?_, ?_⟩
  · intro A n c A' n' c' B w hI hJ hc hc' hB
    have HX := hide (Box.start w 25 p k g)
    have hn : n ≤ 1048576 := by rw [← hI.len]; exact hz
    have hn' : n' ≤ 1048576 := by rw [← hJ.len]; exact hz'
    have hzn : z.length = n := hI.len
    have hzn' : z'.length = n' := hJ.len
    have HI := hide hI
    have HJ := hide hJ
    have HB := hide hf
    clear hI hJ hzn hzn'
    go_enter Try.func41, Try.ntmps41
    go_wp2_with fail
    refine (specIsField p k g _).mono ?_
    rw [HB.out]
    rintro e w1 ⟨rfl, hb⟩
    have HX1 := hide (HX.out.next hb)
    obtain ⟨c0, c1, c2⟩ := HX1.out.cells
    clear hb
    go_wp2_with fail
    go_ret2
    exact newIK_nil HX1.out.2
  · intro A n c A' n' c' B w hI hJ hc hc' hB
    have HX := hide (Box.start w 25 p k g)
    have hn : n ≤ 1048576 := by rw [← hI.len]; exact hz
    have hn' : n' ≤ 1048576 := by rw [← hJ.len]; exact hz'
    have hzn : z.length = n := hI.len
    have hzn' : z'.length = n' := hJ.len
    have HI := hide hI
    have HJ := hide hJ
    have HB := hide hf
    clear hI hJ hzn hzn'
    go_enter Try.func40, Try.ntmps40
    go_wp2_with fail
    refine (implValid p k g _).mono ?_
    rw [HB.out]
    rintro e w1 ⟨rfl, hb⟩
    have HX1 := hide (HX.out.next hb)
    obtain ⟨c0, c1, c2⟩ := HX1.out.cells
    clear hb
    go_wp2_with fail
    go_ret2
    exact newIK_nil HX1.out.2

set_option maxHeartbeats 4000000 in
theorem fit_3 (p k g : Int) (z z' : List Int) (hz : z.length ≤ 1048576) (hz' : z'.length ≤ 1048576) (hf : fieldB p k g = true) (h64 : 64 < z.length) : C2c 41 p k g z z' (NewIK [] 3) ∧ C2c 40 p k g z z' (NewIK [] 3) := by
  refine ⟨?_, ?_⟩
  · intro A n c A' n' c' B w hI hJ hc hc' hB
    have HX := hide (Box.start w 25 p k g)
    have hn : n ≤ 1048576 := by rw [← hI.len]; exact hz
    have hn' : n' ≤ 1048576 := by rw [← hJ.len]; exact hz'
    have hzn : z.length = n := hI.len
    have hzn' : z'.length = n' := hJ.len
    have HI := hide hI
    have HJ := hide hJ
    have HB := hide hf
    have h64' : 64 < n := by omega
    clear hI hJ hzn hzn'
    go_enter Try.func41, Try.ntmps41
    go_wp2_with fail
    refine (specIsField p k g _).mono ?_
    rw [HB.out]
    rintro e w1 ⟨rfl, hb⟩
    have HX1 := hide (HX.out.next hb)
    obtain ⟨c0, c1, c2⟩ := HX1.out.cells
    clear hb
    go_wp2_with fail
    go_ret2
    exact newIK_nil HX1.out.2
  · intro A n c A' n' c' B w hI hJ hc hc' hB
    have HX := hide (Box.start w 25 p k g)
    have hn : n ≤ 1048576 := by rw [← hI.len]; exact hz
    have hn' : n' ≤ 1048576 := by rw [← hJ.len]; exact hz'
    have hzn : z.length = n := hI.len
    have hzn' : z'.length = n' := hJ.len
    have HI := hide hI
    have HJ := hide hJ
    have HB := hide hf
    have h64' : 64 < n := by omega
    clear hI hJ hzn hzn'
    go_enter Try.func40, Try.ntmps40
    go_wp2_with fail
    refine (implValid p k g _).mono ?_
    rw [HB.out]
    rintro e w1 ⟨rfl, hb⟩
    have HX1 := hide (HX.out.next hb)
    obtain ⟨c0, c1, c2⟩ := HX1.out.cells
    clear hb
    go_wp2_with fail
    go_ret2
    exact newIK_nil HX1.out.2

set_option maxHeartbeats 4000000 in
theorem fit_2a (p k g : Int) (z z' : List Int) (hz : z.length ≤ 1048576) (hz' : z'.length ≤ 1048576) (hf : fieldB p k g = true) (h64 : z.length ≤ 64) {R : Fld} (hR : FldIs R p k g) (hx : z.all (elB R.q) = false) : C2c 41 p k g z z' (NewIK [] 2) ∧ C2c 40 p k g z z' (NewIK [] 2) := by
  refine ⟨?_, ?_⟩
  · intro A n c A' n' c' B w hI hJ hc hc' hB
    have HX := hide (Box.start w 25 p k g)
    have hn : n ≤ 1048576 := by rw [← hI.len]; exact hz
    have hn' : n' ≤ 1048576 := by rw [← hJ.len]; exact hz'
    have hzn : z.length = n := hI.len
    have hzn' : z'.length = n' := hJ.len
    have HI := hide hI
    have HJ := hide hJ
    have HB := hide hf
    have h64' : decide ((64 : Int) < (n : Int)) = false := by rw [decide_eq_false_iff_not]; omega
    have HAX := hide hx
    clear hI hJ hzn hzn'
    go_enter Try.func41, Try.ntmps41
    go_wp2_with fail
    refine (specIsField p k g _).mono ?_
    rw [HB.out]
    rintro e w1 ⟨rfl, hb⟩
    have HX1 := hide (HX.out.next hb)
    obtain ⟨c0, c1, c2⟩ := HX1.out.cells
    clear hb
    go_wp2_with fail
    refine (specIs hR.kind A n c B z _ (HI.out.below (HX1.out.2.mono hB)) (Nat.le_trans hB (Nat.le_of_lt HX1.out.lt)) (by omega)).mono ?_
    rw [HAX.out]
    rintro e w2 ⟨rfl, hb⟩
    have HX2 := hide (HX1.out.next hb)
    clear hb c0 c1 c2
    obtain ⟨c0, c1, c2⟩ := HX2.out.cells
    go_wp2_with fail
    go_ret2
    exact newIK_nil HX2.out.2
  · intro A n c A' n' c' B w hI hJ hc hc' hB
    have HX := hide (Box.start w 25 p k g)
    have hn : n ≤ 1048576 := by rw [← hI.len]; exact hz
    have hn' : n' ≤ 1048576 := by rw [← hJ.len]; exact hz'
    have hzn : z.length = n := hI.len
    have hzn' : z'.length = n' := hJ.len
    have HI := hide hI
    have HJ := hide hJ
    have HB := hide hf
    have h64' : decide ((64 : Int) < (n : Int)) = false := by rw [decide_eq_false_iff_not]; omega
    have HAX := hide hx
    clear hI hJ hzn hzn'
    go_enter Try.func40, Try.ntmps40
    go_wp2_with fail
    refine (implValid p k g _).mono ?_
    rw [HB.out]
    rintro e w1 ⟨rfl, hb⟩
    have HX1 := hide (HX.out.next hb)
    obtain ⟨c0, c1, c2⟩ := HX1.out.cells
    clear hb
    go_wp2_with fail
    refine (implHasAll hR.kind A n c B z _ (HI.out.below (HX1.out.2.mono hB)) (Nat.le_trans hB (Nat.le_of_lt HX1.out.lt)) (by omega)).mono ?_
    rw [HAX.out]
    rintro e w2 ⟨rfl, hb⟩
    have HX2 := hide (HX1.out.next hb)
    clear hb c0 c1 c2
    obtain ⟨c0, c1, c2⟩ := HX2.out.cells
    go_wp2_with fail
    go_ret2
    exact newIK_nil HX2.out.2

set_option maxHeartbeats 4000000 in
theorem fit_2b (p k g : Int) (z z' : List Int) (hz : z.length ≤ 1048576) (hz' : z'.length ≤ 1048576) (hf : fieldB p k g = true) (h64 : z.length ≤ 64) {R : Fld} (hR : FldIs R p k g) (hx : z.all (elB R.q) = true) (hy : z'.all (elB R.q) = false) : C2c 41 p k g z z' (NewIK [] 2) ∧ C2c 40 p k g z z' (NewIK [] 2) := by
  refine ⟨?_, ?_⟩
  · intro A n c A' n' c' B w hI hJ hc hc' hB
    have HX := hide (Box.start w 25 p k g)
    have hn : n ≤ 1048576 := by rw [← hI.len]; exact hz
    have hn' : n' ≤ 1048576 := by rw [← hJ.len]; exact hz'
    have hzn : z.length = n := hI.len
    have hzn' : z'.length = n' := hJ.len
    have HI := hide hI
    have HJ := hide hJ
    have HB := hide hf
    have h64' : decide ((64 : Int) < (n : Int)) = false := by rw [decide_eq_false_iff_not]; omega
    have HAX := hide hx
    have HAY := hide hy
    clear hI hJ hzn hzn'
    go_enter Try.func41, Try.ntmps41
    go_wp2_with fail
    refine (specIsField p k g _).mono ?_
    rw [HB.out]
    rintro e w1 ⟨rfl, hb⟩
    have HX1 := hide (HX.out.next hb)
    obtain ⟨c0, c1, c2⟩ := HX1.out.cells
    clear hb
    go_wp2_with fail
    refine (specIs hR.kind A n c B z _ (HI.out.below (HX1.out.2.mono hB)) (Nat.le_trans hB (Nat.le_of_lt HX1.out.lt)) (by omega)).mono ?_
    rw [HAX.out]
    rintro e w2 ⟨rfl, hb⟩
    have HX2 := hide (HX1.out.next hb)
    clear hb c0 c1 c2
    obtain ⟨c0, c1, c2⟩ := HX2.out.cells
    go_wp2_with fail
    refine (specIs hR.kind A' n' c' B z' _ (HJ.out.below (HX2.out.2.mono hB)) (Nat.le_trans hB (Nat.le_of_lt HX2.out.lt)) (by omega)).mono ?_
    rw [HAY.out]
    rintro e w3 ⟨rfl, hb⟩
    have HX3 := hide (HX2.out.next hb)
    clear hb c0 c1 c2
    obtain ⟨c0, c1, c2⟩ := HX3.out.cells
    go_wp2_with fail
    go_ret2
    exact newIK_nil HX3.out.2
  · intro A n c A' n' c' B w hI hJ hc hc' hB
    have HX := hide (Box.start w 25 p k g)
    have hn : n ≤ 1048576 := by rw [← hI.len]; exact hz
    have hn' : n' ≤ 1048576 := by rw [← hJ.len]; exact hz'
    have hzn : z.length = n := hI.len
    have hzn' : z'.length = n' := hJ.len
    have HI := hide hI
    have HJ := hide hJ
    have HB := hide hf
    have h64' : decide ((64 : Int) < (n : Int)) = false := by rw [decide_eq_false_iff_not]; omega
    have HAX := hide hx
    have HAY := hide hy
    clear hI hJ hzn hzn'
    go_enter Try.func40, Try.ntmps40
    go_wp2_with fail
    refine (implValid p k g _).mono ?_
    rw [HB.out]
    rintro e w1 ⟨rfl, hb⟩
    have HX1 := hide (HX.out.next hb)
    obtain ⟨c0, c1, c2⟩ := HX1.out.cells
    clear hb
    go_wp2_with fail
    refine (implHasAll hR.kind A n c B z _ (HI.out.below (HX1.out.2.mono hB)) (Nat.le_trans hB (Nat.le_of_lt HX1.out.lt)) (by omega)).mono ?_
    rw [HAX.out]
    rintro e w2 ⟨rfl, hb⟩
    have HX2 := hide (HX1.out.next hb)
    clear hb c0 c1 c2
    obtain ⟨c0, c1, c2⟩ := HX2.out.cells
    go_wp2_with fail
    refine (implHasAll hR.kind A' n' c' B z' _ (HJ.out.below (HX2.out.2.mono hB)) (Nat.le_trans hB (Nat.le_of_lt HX2.out.lt)) (by omega)).mono ?_
    rw [HAY.out]
    rintro e w3 ⟨rfl, hb⟩
    have HX3 := hide (HX2.out.next hb)
    clear hb c0 c1 c2
    obtain ⟨c0, c1, c2⟩ := HX3.out.cells
    go_wp2_with fail
    go_ret2
    exact newIK_nil HX3.out.2

set_option maxHeartbeats 4000000 in
theorem fit_5a (p k g : Int) (z z' : List Int) (hz : z.length ≤ 1048576) (hz' : z'.length ≤ 1048576) (hf : fieldB p k g = true) (h64 : z.length ≤ 64) {R : Fld} (hR : FldIs R p k g) (hx : z.all (elB R.q) = true) (hy : z'.all (elB R.q) = true) (hl : z.length ≠ z'.length) : C2c 41 p k g z z' (NewIK [] 5) ∧ C2c 40 p k g z z' (NewIK [] 5) := by
  refine ⟨?_, ?_⟩
  · intro A n c A' n' c' B w hI hJ hc hc' hB
    have HX := hide (Box.start w 25 p k g)
    have hn : n ≤ 1048576 := by rw [← hI.len]; exact hz
    have hn' : n' ≤ 1048576 := by rw [← hJ.len]; exact hz'
    have hzn : z.length = n := hI.len
    have hzn' : z'.length = n' := hJ.len
    have HI := hide hI
    have HJ := hide hJ
    have HB := hide hf
    have h64' : decide ((64 : Int) < (n : Int)) = false := by rw [decide_eq_false_iff_not]; omega
    have HAX := hide hx
    have HAY := hide hy
    have e5 : ((n : Int) != (n' : Int)) = true := by simp; omega
    clear hI hJ hzn hzn'
    go_enter Try.func41, Try.ntmps41
    go_wp2_with fail
    refine (specIsField p k g _).mono ?_
    rw [HB.out]
    rintro e w1 ⟨rfl, hb⟩
    have HX1 := hide (HX.out.next hb)
    obtain ⟨c0, c1, c2⟩ := HX1.out.cells
    clear hb
    go_wp2_with fail
    refine (specIs hR.kind A n c B z _ (HI.out.below (HX1.out.2.mono hB)) (Nat.le_trans hB (Nat.le_of_lt HX1.out.lt)) (by omega)).mono ?_
    rw [HAX.out]
    rintro e w2 ⟨rfl, hb⟩
    have HX2 := hide (HX1.out.next hb)
    clear hb c0 c1 c2
    obtain ⟨c0, c1, c2⟩ := HX2.out.cells
    go_wp2_with fail
    refine (specIs hR.kind A' n' c' B z' _ (HJ.out.below (HX2.out.2.mono hB)) (Nat.le_trans hB (Nat.le_of_lt HX2.out.lt)) (by omega)).mono ?_
    rw [HAY.out]
    rintro e w3 ⟨rfl, hb⟩
    have HX3 := hide (HX2.out.next hb)
    clear hb c0 c1 c2
    obtain ⟨c0, c1, c2⟩ := HX3.out.cells
    go_wp2_with fail
    go_ret2
    exact newIK_nil HX3.out.2
  · intro A n c A' n' c' B w hI hJ hc hc' hB
    have HX := hide (Box.start w 25 p k g)
    have hn : n ≤ 1048576 := by rw [← hI.len]; exact hz
    have hn' : n' ≤ 1048576 := by rw [← hJ.len]; exact hz'
    have hzn : z.length = n := hI.len
    have hzn' : z'.length = n' := hJ.len
    have HI := hide hI
    have HJ := hide hJ
    have HB := hide hf
    have h64' : decide ((64 : Int) < (n : Int)) = false := by rw [decide_eq_false_iff_not]; omega
    have HAX := hide hx
    have HAY := hide hy
    have e5 : ((n : Int) != (n' : Int)) = true := by simp; omega
    clear hI hJ hzn hzn'
    go_enter Try.func40, Try.ntmps40
    go_wp2_with fail
    refine (implValid p k g _).mono ?_
    rw [HB.out]
    rintro e w1 ⟨rfl, hb⟩
    have HX1 := hide (HX.out.next hb)
    obtain ⟨c0, c1, c2⟩ := HX1.out.cells
    clear hb
    go_wp2_with fail
    refine (implHasAll hR.kind A n c B z _ (HI.out.below (HX1.out.2.mono hB)) (Nat.le_trans hB (Nat.le_of_lt HX1.out.lt)) (by omega)).mono ?_
    rw [HAX.out]
    rintro e w2 ⟨rfl, hb⟩
    have HX2 := hide (HX1.out.next hb)
    clear hb c0 c1 c2
    obtain ⟨c0, c1, c2⟩ := HX2.out.cells
    go_wp2_with fail
    refine (implHasAll hR.kind A' n' c' B z' _ (HJ.out.below (HX2.out.2.mono hB)) (Nat.le_trans hB (Nat.le_of_lt HX2.out.lt)) (by omega)).mono ?_
    rw [HAY.out]
    rintro e w3 ⟨rfl, hb⟩
    have HX3 := hide (HX2.out.next hb)
    clear hb c0 c1 c2
    obtain ⟨c0, c1, c2⟩ := HX3.out.cells
    go_wp2_with fail
    go_ret2
    exact newIK_nil HX3.out.2

set_option maxHeartbeats 4000000 in
theorem fit_5b (p k g : Int) (z z' : List Int) (hz : z.length ≤ 1048576) (hz' : z'.length ≤ 1048576) (hf : fieldB p k g = true) (h64 : z.length ≤ 64) {R : Fld} (hR : FldIs R p k g) (hx : z.all (elB R.q) = true) (hy : z'.all (elB R.q) = true) (hl : z.length = z'.length) (ht : twB z = true) : C2c 41 p k g z z' (NewIK [] 5) ∧ C2c 40 p k g z z' (NewIK [] 5) := by
  refine ⟨?_, ?_⟩
  · intro A n c A' n' c' B w hI hJ hc hc' hB
    have HX := hide (Box.start w 25 p k g)
    have hn : n ≤ 1048576 := by rw [← hI.len]; exact hz
    have hn' : n' ≤ 1048576 := by rw [← hJ.len]; exact hz'
    have hzn : z.length = n := hI.len
    have hzn' : z'.length = n' := hJ.len
    have HI := hide hI
    have HJ := hide hJ
    have HB := hide hf
    have h64' : decide ((64 : Int) < (n : Int)) = false := by rw [decide_eq_false_iff_not]; omega
    have HAX := hide hx
    have HAY := hide hy
    have e5 : ((n : Int) != (n' : Int)) = false := by simp; omega
    have HTW := hide ht
    have HZN := hide hzn
    clear hI hJ hzn hzn'
    go_enter Try.func41, Try.ntmps41
    go_wp2_with fail
    refine (specIsField p k g _).mono ?_
    rw [HB.out]
    rintro e w1 ⟨rfl, hb⟩
    have HX1 := hide (HX.out.next hb)
    obtain ⟨c0, c1, c2⟩ := HX1.out.cells
    clear hb
    go_wp2_with fail
    refine (specIs hR.kind A n c B z _ (HI.out.below (HX1.out.2.mono hB)) (Nat.le_trans hB (Nat.le_of_lt HX1.out.lt)) (by omega)).mono ?_
    rw [HAX.out]
    rintro e w2 ⟨rfl, hb⟩
    have HX2 := hide (HX1.out.next hb)
    clear hb c0 c1 c2
    obtain ⟨c0, c1, c2⟩ := HX2.out.cells
    go_wp2_with fail
    refine (specIs hR.kind A' n' c' B z' _ (HJ.out.below (HX2.out.2.mono hB)) (Nat.le_trans hB (Nat.le_of_lt HX2.out.lt)) (by omega)).mono ?_
    rw [HAY.out]
    rintro e w3 ⟨rfl, hb⟩
    have HX3 := hide (HX2.out.next hb)
    clear hb c0 c1 c2
    obtain ⟨c0, c1, c2⟩ := HX3.out.cells
    go_wp2_with fail
    go_loopw [8] (fun i wr => FoRel w p k g n z i wr) (fun i _ => n - (intOf i).toNat)
    case atStart => exact ⟨0, by omega, rfl, by simp [Hid], HX3.out⟩
    case round =>
      clear HX HX1 HX2 HX3 c0 c1 c2
      obtain ⟨wo, rfl⟩ : ∃ wo : World, wo = wr := ⟨_, rfl⟩
      obtain ⟨j, hj, rfl, HND, HX⟩ := hrel
      have HX := hide HX
      by_cases hlt : j < n
      · obtain ⟨xj, hxj⟩ : ∃ xj, z[j]? = some xj := ⟨_, List.getElem?_eq_getElem (by rw [HZN.out]; exact hlt)⟩
        have HXJ := hide hxj
        clear hxj
        go_wp2_with fail
        go_loopw [9] (fun i wr => FnRel w p k g j xj z i wr) (fun i _ => j - (intOf i).toNat)
        case atStart => exact ⟨0, by omega, rfl, by simp [Hid], HX.out⟩
        case round =>
          clear HX
          obtain ⟨l, hl, rfl, HNM, HX⟩ := hrel
          have HX := hide HX
          by_cases hlj : l < j
          · have hlm : l < n := by omega
            obtain ⟨b, off, x, rfl, hb, hx, hc⟩ := (HI.out.below (HX.out.2.mono hB)).at_ hlt
            obtain ⟨b', off', x', hA', hb', hx', hc'⟩ := (HI.out.below (HX.out.2.mono hB)).at_ hlm
            simp only [Option.some.injEq, Addr.mk.injEq, and_true] at hA'
            obtain ⟨rfl, rfl⟩ := hA'
            obtain rfl : x = xj := by have h1 := HXJ.out; rw [hx] at h1; injection h1
            have HXL := hide hx'
            have z0 : (0 : Int) ≤ (j : Int) := by omega
            have z1 : (j : Int) < (n : Int) := by omega
            have z2 : (0 : Int) ≤ (l : Int) := by omega
            have z3 : (l : Int) < (n : Int) := by omega
            clear hx hx'
            by_cases hne : x = x'
            · subst hne
              go_wp2_with fail
              go_quiet (fail)
              go_wp2_with fail
              go_ret2
              exact newIK_nil (HX.out.drewN _).2
            · have e0 : (x == x') = false := by simpa using hne
              have HN2 := hide (mem_snoc HXL.out HNM.out hne)
              clear hne
              go_wp2_with fail
              go_quiet (fail)
              go_wp2_with fail
              go_roundw
              case rel => exact ⟨l + 1, by omega, by go_num, HN2, HX.out.drewN _⟩
              case measure => simp [intOf]; omega
          · have hd : decide (l < j) = false := by simpa using hlj
            have hlj' : l = j := by omega
            have HN2 := hide (show (z.take (j + 1)).Nodup from nodup_snoc HXJ.out HND.out (by have h1 := HNM.out; rw [hlj'] at h1; exact h1))
            clear hlj hlj'
            go_wp2_with fail
            go_roundw
            case rel => exact ⟨j + 1, by omega, by go_num, HN2, HX.out⟩
            case measure => simp [intOf]; omega
      · have h1 := HND.out
        rw [List.take_of_length_le (by rw [HZN.out]; omega)] at h1
        have h2 := HTW.out
        simp [twB, h1] at h2
  · intro A n c A' n' c' B w hI hJ hc hc' hB
    have HX := hide (Box.start w 25 p k g)
    have hn : n ≤ 1048576 := by rw [← hI.len]; exact hz
    have hn' : n' ≤ 1048576 := by rw [← hJ.len]; exact hz'
    have hzn : z.length = n := hI.len
    have hzn' : z'.length = n' := hJ.len
    have HI := hide hI
    have HJ := hide hJ
    have HB := hide hf
    have h64' : decide ((64 : Int) < (n : Int)) = false := by rw [decide_eq_false_iff_not]; omega
    have HAX := hide hx
    have HAY := hide hy
    have e5 : ((n : Int) != (n' : Int)) = false := by simp; omega
    have HTW := hide ht
    have HZN := hide hzn
    clear hI hJ hzn hzn'
    go_enter Try.func40, Try.ntmps40
    go_wp2_with fail
    refine (implValid p k g _).mono ?_
    rw [HB.out]
    rintro e w1 ⟨rfl, hb⟩
    have HX1 := hide (HX.out.next hb)
    obtain ⟨c0, c1, c2⟩ := HX1.out.cells
    clear hb
    go_wp2_with fail
    refine (implHasAll hR.kind A n c B z _ (HI.out.below (HX1.out.2.mono hB)) (Nat.le_trans hB (Nat.le_of_lt HX1.out.lt)) (by omega)).mono ?_
    rw [HAX.out]
    rintro e w2 ⟨rfl, hb⟩
    have HX2 := hide (HX1.out.next hb)
    clear hb c0 c1 c2
    obtain ⟨c0, c1, c2⟩ := HX2.out.cells
    go_wp2_with fail
    refine (implHasAll hR.kind A' n' c' B z' _ (HJ.out.below (HX2.out.2.mono hB)) (Nat.le_trans hB (Nat.le_of_lt HX2.out.lt)) (by omega)).mono ?_
    rw [HAY.out]
    rintro e w3 ⟨rfl, hb⟩
    have HX3 := hide (HX2.out.next hb)
    clear hb c0 c1 c2
    obtain ⟨c0, c1, c2⟩ := HX3.out.cells
    go_wp2_with fail
    refine (implTwice A n c B z _ (HI.out.below (HX3.out.2.mono hB)) (by omega) hc).mono ?_
    rw [HTW.out]
    rintro e w4 ⟨rfl, rfl⟩
    go_wp2_with fail
    go_ret2
    exact newIK_nil HX3.out.2

set_option maxHeartbeats 4000000 in
theorem fit_0 (p k g : Int) (z z' : List Int) (hz : z.length ≤ 1048576) (hz' : z'.length ≤ 1048576) (hf : fieldB p k g = true) (h64 : z.length ≤ 64) {R : Fld} (hR : FldIs R p k g) (xs ys : List (El R)) (hxs : z = iv xs) (hys : z' = iv ys) (hl : z.length = z'.length) (ht : twB z = false) :
    ∃ fit rooted : List (El R), Fitted xs ys xs.length fit rooted ∧ C2c 41 p k g z z' (NewIK (iv fit) 0) ∧ C2c 40 p k g z z' (NewIK (iv fit) 0) := by
  have ha : Apart xs := apart_iv (by rw [← hxs]; exact ht)
  have hall : ∃ fit rooted : List (El R), Fitted xs ys xs.length fit rooted := by
    have hgo : ∀ i, i ≤ xs.length → ∃ fit rooted : List (El R), Fitted xs ys i fit rooted := by
      intro i
      induction i with
      | zero => exact fun _ => ⟨[], [1], fitted_0 xs ys⟩
      | succ i ih =>
        intro h
        obtain ⟨f, r, hfr⟩ := ih (by omega)
        exact ⟨_, _, fitted_step ha (by omega) hfr⟩
    exact hgo _ (Nat.le_refl _)
  obtain ⟨fit, rooted, hfit⟩ := hall
  refine ⟨fit, rooted, hfit, ?_, ?_⟩
  · intro A n c A' n' c' B w hI hJ hc hc' hB
    subst hxs hys
    obtain rfl : n = n' := by rw [← hI.len, ← hJ.len]; exact hl
    exact specFitE hR hf xs ys fit rooted ha hfit A A' n c c' B w hI hJ hB (by rw [← hI.len]; exact h64)
  · intro A n c A' n' c' B w hI hJ hc hc' hB
    have HX := hide (Box.start w 25 p k g)
    have hn : n ≤ 1048576 := by rw [← hI.len]; exact hz
    have hn' : n' ≤ 1048576 := by rw [← hJ.len]; exact hz'
    have hzn : z.length = n := hI.len
    have hzn' : z'.length = n' := hJ.len
    have HI := hide hI
    have HJ := hide hJ
    subst hxs hys
    have HB := hide hf
    have h64' : decide ((64 : Int) < (n : Int)) = false := by rw [decide_eq_false_iff_not]; omega
    have HAX := hide (iv_all xs)
    have HAY := hide (iv_all ys)
    obtain rfl : n = n' := by omega
    have HTW := hide ht
    have hn64 : n ≤ 64 := by omega
    have HFT := hide hfit
    have HAP := hide ha
    clear hI hJ hzn hzn'
    go_enter Try.func40, Try.ntmps40
    go_wp2_with fail
    refine (implValid p k g _).mono ?_
    rw [HB.out]
    rintro e w1 ⟨rfl, hb⟩
    have HX1 := hide (HX.out.next hb)
    obtain ⟨c0, c1, c2⟩ := HX1.out.cells
    clear hb
    go_wp2_with fail
    refine (implHasAll hR.kind A n c B (iv xs) _ (HI.out.below (HX1.out.2.mono hB)) (Nat.le_trans hB (Nat.le_of_lt HX1.out.lt)) (by omega)).mono ?_
    rw [HAX.out]
    rintro e w2 ⟨rfl, hb⟩
    have HX2 := hide (HX1.out.next hb)
    clear hb c0 c1 c2
    obtain ⟨c0, c1, c2⟩ := HX2.out.cells
    go_wp2_with fail
    refine (implHasAll hR.kind A' n c' B (iv ys) _ (HJ.out.below (HX2.out.2.mono hB)) (Nat.le_trans hB (Nat.le_of_lt HX2.out.lt)) (by omega)).mono ?_
    rw [HAY.out]
    rintro e w3 ⟨rfl, hb⟩
    have HX3 := hide (HX2.out.next hb)
    clear hb c0 c1 c2
    obtain ⟨c0, c1, c2⟩ := HX3.out.cells
    go_wp2_with fail
    refine (implTwice A n c B (iv xs) _ (HI.out.below (HX3.out.2.mono hB)) (by omega) hc).mono ?_
    rw [HTW.out]
    rintro e w4 ⟨rfl, rfl⟩
    go_wp2_with fail
    refine (implFitted hR xs ys HAP.out A A' n c c' B _ (HI.out.below (HX3.out.2.mono hB)) (HJ.out.below (HX3.out.2.mono hB)) (Nat.le_trans hB (Nat.le_of_lt HX3.out.lt)) hn64).mono ?_
    rintro e w5 ⟨f2, r2, ⟨A1, m1, rfl, hm1, ho, hb⟩, hf2⟩
    have HX5 := hide (HX3.out.next hb)
    have hsame : f2 = fit := fit_only hf2.trF HFT.out.trF hf2.lenF HFT.out.lenF (apart_nodup HAP.out) (fun x hx => by obtain ⟨j, hj, rfl⟩ := List.getElem_of_mem hx; rw [(cf_at (List.getElem?_eq_getElem hj)).symm, hf2.valF j hj, HFT.out.valF j hj])
    subst hsame
    have HO := hide (newIK_of (c := 0) (w := w) ho HX5.out.2 (Nat.le_of_lt HX3.out.lt))
    clear ho hb hf2 c0 c1 c2
    go_wp2_with fail
    go_ret2
    exact HO

theorem fit_both (p k g : Int) (z z' : List Int) (hz : z.length ≤ 1048576) (hz' : z'.length ≤ 1048576) : ∃ (r : List Int) (c : Int), r.length ≤ 1048576 ∧ C2c 41 p k g z z' (NewIK r c) ∧ C2c 40 p k g z z' (NewIK r c) ∧
    (c ≠ 0 ∨ (c = 0 ∧ fieldB p k g = true ∧ ∃ (R : Fld) (xs ys fit rooted : List (El R)), FldIs R p k g ∧ z = iv xs ∧ z' = iv ys ∧ xs.length = ys.length ∧ xs.length ≤ 64 ∧ r = iv fit ∧ Fitted xs ys xs.length fit rooted)) := by
  rcases hf : fieldB p k g with _ | _
  · have h := fit_1 p k g z z' hz hz' hf
    exact ⟨[], 1, by simp, h.1, h.2, .inl (by decide)⟩
  · by_cases h64 : 64 < z.length
    · have h := fit_3 p k g z z' hz hz' hf h64
      exact ⟨[], 3, by simp, h.1, h.2, .inl (by decide)⟩
    · obtain ⟨R, hR⟩ := fld_ex hf
      rcases hx : z.all (elB R.q) with _ | _
      · have h := fit_2a p k g z z' hz hz' hf (by omega) hR hx
        exact ⟨[], 2, by simp, h.1, h.2, .inl (by decide)⟩
      · rcases hy : z'.all (elB R.q) with _ | _
        · have h := fit_2b p k g z z' hz hz' hf (by omega) hR hx hy
          exact ⟨[], 2, by simp, h.1, h.2, .inl (by decide)⟩
        · by_cases hl : z.length = z'.length
          · rcases ht : twB z with _ | _
            · obtain ⟨xs, hxs⟩ := iv_of hx
              obtain ⟨ys, hys⟩ := iv_of hy
              obtain ⟨fit, rooted, hfit, h1, h2⟩ := fit_0 p k g z z' hz hz' hf (by omega) hR xs ys hxs hys hl ht
              have hxl : xs.length ≤ 64 := by rw [hxs, iv_len] at h64; omega
              exact ⟨iv fit, 0, by rw [iv_len]; have := hfit.lenF; omega, h1, h2, .inr ⟨rfl, rfl, R, xs, ys, fit, rooted, hR, hxs, hys, by rw [hxs, hys, iv_len, iv_len] at hl; exact hl, hxl, rfl, hfit⟩⟩
            · have h := fit_5b p k g z z' hz hz' hf (by omega) hR hx hy hl ht
              exact ⟨[], 5, by simp, h.1, h.2, .inl (by decide)⟩
          · have h := fit_5a p k g z z' hz hz' hf (by omega) hR hx hy hl
            exact ⟨[], 5, by simp, h.1, h.2, .inl (by decide)⟩
theorem fit_both2 (p k g : Int) (z z' : List Int) (hz : z.length ≤ 1048576) (hz' : z'.length ≤ 1048576) : ∃ (r : List Int) (c : Int), r.length ≤ 1048576 ∧ C2c 41 p k g z z' (NewIK r c) ∧ C2c 40 p k g z z' (NewIK r c) := by
  obtain ⟨r, c, h1, h2, h3, _⟩ := fit_both p k g z z' hz hz'
  exact ⟨r, c, h1, h2, h3⟩
end Go.Proofs.Ythafkohopkgckaa
