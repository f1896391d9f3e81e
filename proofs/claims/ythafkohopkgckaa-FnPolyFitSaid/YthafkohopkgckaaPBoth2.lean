/-
  The contracts of PolyMul, PolyDiv, PolyEval and PolyDerivative, of the model and of the program, side by side.
  Condition: lists shorter than 2^20.
-/
import Derived.Test.YthafkohopkgckaaPBoth1
import Derived.Test.YthafkohopkgckaaPSpec5
import Derived.Test.YthafkohopkgckaaPoly6
namespace Go.Proofs.Ythafkohopkgckaa
open Go.RowKit
set_option linter.unusedSimpArgs false
set_option linter.unusedVariables false

def C1i (f : Nat) (p k g : Int) (z : List Int) (x : Int) (Post : World → Ending → World → Prop) : Prop :=
  ∀ (A : Option Addr) (n c B : Nat) (w : World), Ints .i64 w B A n z → B ≤ w.heap.size → Calls Try.prog f #[.agg #[.int .i64 p, .int .i64 k, .int .i64 g], .slice A n c, .int .i64 x] w (Post w)
/-- What a function leaves that returns two new lists and a code. -/
def NewIKK (r r' : List Int) (c : Int) (w : World) (x : Ending) (w' : World) : Prop :=
  ∃ A m A' m', x = .returned (.tuple #[.slice A r.length m, .slice A' r'.length m', .int .i64 c]) ∧ r.length ≤ m ∧ r'.length ≤ m' ∧ Own w' w.heap.size 2 .i64 (.slice A r.length m) r ∧ Own w' w.heap.size 2 .i64 (.slice A' r'.length m') r' ∧
    (((Value.slice A r.length m).ownBlock = none ∨ (Value.slice A r.length m).ownBlock ≠ (Value.slice A' r'.length m').ownBlock) ∧ ((Value.slice A' r'.length m').ownBlock = none ∨ (Value.slice A' r'.length m').ownBlock ≠ (Value.slice A r.length m).ownBlock)) ∧ Below w.heap.size w w'
theorem newIKK_of {r r' : List Int} {c : Int} {w w' : World} {v v' : Value} {base : Nat} (h : Own w' base 2 .i64 v r) (h' : Own w' base 2 .i64 v' r') (hne : v.ownBlock = none ∨ v.ownBlock ≠ v'.ownBlock) (hb : Below w.heap.size w w') (hB : w.heap.size ≤ base) : NewIKK r r' c w (.returned (.tuple #[v, v', .int .i64 c])) w' := by
  obtain ⟨A, m, rfl, hc⟩ := h.form
  obtain ⟨A', m', rfl, hc'⟩ := h'.form
  refine ⟨A, m, A', m', rfl, hc, hc', h.low hB, h'.low hB, ⟨hne, ?_⟩, hb⟩
  rcases h1 : (Value.slice A' r'.length m').ownBlock with _ | x
  · exact .inl rfl
  · refine .inr fun e => ?_
    rcases hne with h2 | h2
    · rw [h2] at e; cases e
    · exact h2 (by rw [h1]; exact e.symm)
theorem newIKK_nil {c : Int} {w w' : World} (hb : Below w.heap.size w w') : NewIKK [] [] c w (.returned (.tuple #[.slice none 0 0, .slice none 0 0, .int .i64 c])) w' :=
  newIKK_of (base := w.heap.size) (World.ownsRow_nil _ _ _ _) (World.ownsRow_nil _ _ _ _) (.inl rfl) hb (Nat.le_refl _)
section
variable (p k g : Int) (z z' : List Int)
set_option maxHeartbeats 4000000 in
theorem mul_both (hz : z.length ≤ 1048576) (hz' : z'.length ≤ 1048576) : ∃ (r : List Int) (c : Int), r.length ≤ 1099511627776 ∧ C2 28 p k g z z' (NewIK r c) ∧ C2 27 p k g z z' (NewIK r c) := by
  rcases pErr2 p k g z z' with h1 | ⟨h0, hf, R, ps, qs, hR, rfl, hp, hpl, rfl, hq, hql⟩
  · have H1 := hide h1
    clear h1
    refine ⟨[], 1, by simp, ?_, ?_⟩
    · intro A n c A' n' c' B w hI hJ hB
      have HX := hide (Box.start w 25 p k g)
      have hn : n ≤ 1048576 := by rw [← hI.len]; exact hz
      have hn' : n' ≤ 1048576 := by rw [← hJ.len]; exact hz'
      have HR := hide (rws2b (c := c) (c' := c') (.cells #[.int .i64 p, .int .i64 k, .int .i64 g] 25) 35 hI hJ hB (by omega) (by omega))
      have HXr := hide (HX.out.alloc (.cells #[.slice A n c, .slice A' n' c'] 35))
      have HI := hide hI
      have HJ := hide hJ
      clear hI hJ
      go_enter Try.func28, Try.ntmps28
      go_wp2_with fail
      refine (specPErr p k g _ 2 2 _ _ _ HR.out rfl (box_size _ _ _) (by omega)).mono ?_
      rw [show lists [(A, n, c, z), (A', n', c', z')] = [z, z'] from rfl, H1.out]
      rintro e w1 ⟨rfl, hb⟩
      have HX1 := hide (HXr.out.next hb)
      obtain ⟨c0, c1, c2⟩ := HX1.out.cells
      clear hb
      go_wp2_with fail
      go_ret2
      exact newIK_nil HX1.out.2
    · intro A n c A' n' c' B w hI hJ hB
      have HX := hide (Box.start w 25 p k g)
      have hn : n ≤ 1048576 := by rw [← hI.len]; exact hz
      have hn' : n' ≤ 1048576 := by rw [← hJ.len]; exact hz'
      have HR := hide (rws2b (c := c) (c' := c') (.cells #[.int .i64 p, .int .i64 k, .int .i64 g] 25) 70 hI hJ hB (by omega) (by omega))
      have HXr := hide (HX.out.alloc (.cells #[.slice A n c, .slice A' n' c'] 70))
      have HI := hide hI
      have HJ := hide hJ
      clear hI hJ
      go_enter Try.func27, Try.ntmps27
      go_wp2_with fail
      refine (implPErr p k g _ 2 2 _ _ _ HR.out rfl (box_size _ _ _) (by omega)).mono ?_
      rw [show lists [(A, n, c, z), (A', n', c', z')] = [z, z'] from rfl, H1.out]
      rintro e w1 ⟨rfl, hb⟩
      have HX1 := hide (HXr.out.next hb)
      obtain ⟨c0, c1, c2⟩ := HX1.out.cells
      clear hb
      go_wp2_with fail
      go_ret2
      exact newIK_nil HX1.out.2
  · have H0 := hide h0
    clear h0
    obtain ⟨N, hN⟩ : ∃ N, plen ps qs = N := ⟨_, rfl⟩
    have hNb : N ≤ 1100 := by rw [← hN]; unfold plen; split <;> omega
    have hNx : (ps.length = 0 ∨ qs.length = 0 ∧ 0 < ps.length) ∧ N = 0 ∨ 0 < ps.length ∧ 0 < qs.length ∧ N + 1 = ps.length + qs.length := by rw [← hN]; unfold plen; split <;> omega
    have HN := hide hN
    clear hN
    by_cases hbig : 512 < N
    · refine ⟨[], 3, by simp, ?_, ?_⟩
      · intro A n c A' n' c' B w hI hJ hB
        have HX := hide (Box.start w 25 p k g)
        have hn : n ≤ 1048576 := by rw [← hI.len]; exact hz
        have hn' : n' ≤ 1048576 := by rw [← hJ.len]; exact hz'
        have hpn : ps.length = n := by rw [← iv_len]; exact hI.len
        have hqm : qs.length = n' := by rw [← iv_len]; exact hJ.len
        have HR := hide (rws2b (c := c) (c' := c') (.cells #[.int .i64 p, .int .i64 k, .int .i64 g] 25) 35 hI hJ hB (by omega) (by omega))
        have HXr := hide (HX.out.alloc (.cells #[.slice A n c, .slice A' n' c'] 35))
        have HI := hide hI
        have HJ := hide hJ
        clear hI hJ
        have z1 : 0 < n := by omega
        have z2 : 0 < n' := by omega
        have z3 : (n : Int) + (n' : Int) - 1 = (N : Int) := by omega
        go_enter Try.func28, Try.ntmps28
        go_wp2_with fail
        refine (specPErr p k g _ 2 2 _ _ _ HR.out rfl (box_size _ _ _) (by omega)).mono ?_
        rw [show lists [(A, n, c, iv ps), (A', n', c', iv qs)] = [iv ps, iv qs] from rfl, H0.out]
        rintro e w1 ⟨rfl, hb⟩
        have HX1 := hide (HXr.out.next hb)
        obtain ⟨c0, c1, c2⟩ := HX1.out.cells
        clear hb
        go_wp2_with fail
        go_ret2
        exact newIK_nil HX1.out.2
      · intro A n c A' n' c' B w hI hJ hB
        have HX := hide (Box.start w 25 p k g)
        have hn : n ≤ 1048576 := by rw [← hI.len]; exact hz
        have hn' : n' ≤ 1048576 := by rw [← hJ.len]; exact hz'
        have hpn : ps.length = n := by rw [← iv_len]; exact hI.len
        have hqm : qs.length = n' := by rw [← iv_len]; exact hJ.len
        have HR := hide (rws2b (c := c) (c' := c') (.cells #[.int .i64 p, .int .i64 k, .int .i64 g] 25) 70 hI hJ hB (by omega) (by omega))
        have HXr := hide (HX.out.alloc (.cells #[.slice A n c, .slice A' n' c'] 70))
        have HI := hide hI
        have HJ := hide hJ
        clear hI hJ
        go_enter Try.func27, Try.ntmps27
        go_wp2_with fail
        refine (implPErr p k g _ 2 2 _ _ _ HR.out rfl (box_size _ _ _) (by omega)).mono ?_
        rw [show lists [(A, n, c, iv ps), (A', n', c', iv qs)] = [iv ps, iv qs] from rfl, H0.out]
        rintro e w1 ⟨rfl, hb⟩
        have HX1 := hide (HXr.out.next hb)
        obtain ⟨c0, c1, c2⟩ := HX1.out.cells
        clear hb
        go_wp2_with fail
        refine (implPlen ps qs A A' n n' c c' _ hpn hqm (by omega) (by omega)).mono ?_
        rw [HN.out]
        rintro e w1' ⟨rfl, rfl⟩
        go_wp2_with fail
        go_ret2
        exact newIK_nil HX1.out.2
    · have HTM := hide (show trim (mulP ps qs) = mulP ps qs from trim_id (tr_mul hp hq))
      refine ⟨iv (mulP ps qs), 0, iv512 (by rw [mulP, tab_len, HN.out]; omega), ?_, ?_⟩
      · intro A n c A' n' c' B w hI hJ hB
        have hpn : ps.length = n := by rw [← iv_len]; exact hI.len
        have hqm : qs.length = n' := by rw [← iv_len]; exact hJ.len
        rcases (show n = 0 ∨ (0 < n ∧ n' = 0) ∨ (0 < n ∧ 0 < n' ∧ (n : Int) + (n' : Int) - 1 = (N : Int)) by omega) with z1 | ⟨z1, z2⟩ | ⟨z1, z2, z3⟩
        · have z4 : decide (0 < n) = false := by simp; omega
          clear z1
          have HX := hide (Box.start w 25 p k g)
          have hn : n ≤ 1048576 := by rw [← hI.len]; exact hz
          have hn' : n' ≤ 1048576 := by rw [← hJ.len]; exact hz'
          have HR := hide (rws2b (c := c) (c' := c') (.cells #[.int .i64 p, .int .i64 k, .int .i64 g] 25) 35 hI hJ hB (by omega) (by omega))
          have HXr := hide (HX.out.alloc (.cells #[.slice A n c, .slice A' n' c'] 35))
          have HI := hide hI
          have HJ := hide hJ
          clear hI hJ
          go_enter Try.func28, Try.ntmps28
          go_wp2_with fail
          refine (specPErr p k g _ 2 2 _ _ _ HR.out rfl (box_size _ _ _) (by omega)).mono ?_
          rw [show lists [(A, n, c, iv ps), (A', n', c', iv qs)] = [iv ps, iv qs] from rfl, H0.out]
          rintro e w1 ⟨rfl, hb⟩
          have HX1 := hide (HXr.out.next hb)
          obtain ⟨c0, c1, c2⟩ := HX1.out.cells
          clear hb
          go_wp2_with fail
          refine (specMulE' hR ps qs A A' n c n' c' B _ (HI.out.below (HX1.out.2.mono hB)) (HJ.out.below (HX1.out.2.mono hB)) (Nat.le_trans hB (Nat.le_of_lt HX1.out.lt)) (by omega) (by omega)).mono ?_
          rw [HTM.out]; rintro e w2 ⟨A1, m1, rfl, hm1, ho, hb⟩
          have HX2 := hide (HX1.out.next hb)
          have HO := hide (newIK_of (c := 0) ho HX2.out.2 (Nat.le_of_lt HX1.out.lt))
          clear ho hb c0 c1 c2
          go_wp2_with fail
          go_ret2
          exact HO
        · have z4 : decide (0 < n') = false := by simp; omega
          clear z2
          have HX := hide (Box.start w 25 p k g)
          have hn : n ≤ 1048576 := by rw [← hI.len]; exact hz
          have hn' : n' ≤ 1048576 := by rw [← hJ.len]; exact hz'
          have HR := hide (rws2b (c := c) (c' := c') (.cells #[.int .i64 p, .int .i64 k, .int .i64 g] 25) 35 hI hJ hB (by omega) (by omega))
          have HXr := hide (HX.out.alloc (.cells #[.slice A n c, .slice A' n' c'] 35))
          have HI := hide hI
          have HJ := hide hJ
          clear hI hJ
          go_enter Try.func28, Try.ntmps28
          go_wp2_with fail
          refine (specPErr p k g _ 2 2 _ _ _ HR.out rfl (box_size _ _ _) (by omega)).mono ?_
          rw [show lists [(A, n, c, iv ps), (A', n', c', iv qs)] = [iv ps, iv qs] from rfl, H0.out]
          rintro e w1 ⟨rfl, hb⟩
          have HX1 := hide (HXr.out.next hb)
          obtain ⟨c0, c1, c2⟩ := HX1.out.cells
          clear hb
          go_wp2_with fail
          refine (specMulE' hR ps qs A A' n c n' c' B _ (HI.out.below (HX1.out.2.mono hB)) (HJ.out.below (HX1.out.2.mono hB)) (Nat.le_trans hB (Nat.le_of_lt HX1.out.lt)) (by omega) (by omega)).mono ?_
          rw [HTM.out]; rintro e w2 ⟨A1, m1, rfl, hm1, ho, hb⟩
          have HX2 := hide (HX1.out.next hb)
          have HO := hide (newIK_of (c := 0) ho HX2.out.2 (Nat.le_of_lt HX1.out.lt))
          clear ho hb c0 c1 c2
          go_wp2_with fail
          go_ret2
          exact HO
        · have z4 : decide (512 < N) = false := by simp; omega
          have HX := hide (Box.start w 25 p k g)
          have hn : n ≤ 1048576 := by rw [← hI.len]; exact hz
          have hn' : n' ≤ 1048576 := by rw [← hJ.len]; exact hz'
          have HR := hide (rws2b (c := c) (c' := c') (.cells #[.int .i64 p, .int .i64 k, .int .i64 g] 25) 35 hI hJ hB (by omega) (by omega))
          have HXr := hide (HX.out.alloc (.cells #[.slice A n c, .slice A' n' c'] 35))
          have HI := hide hI
          have HJ := hide hJ
          clear hI hJ
          go_enter Try.func28, Try.ntmps28
          go_wp2_with fail
          refine (specPErr p k g _ 2 2 _ _ _ HR.out rfl (box_size _ _ _) (by omega)).mono ?_
          rw [show lists [(A, n, c, iv ps), (A', n', c', iv qs)] = [iv ps, iv qs] from rfl, H0.out]
          rintro e w1 ⟨rfl, hb⟩
          have HX1 := hide (HXr.out.next hb)
          obtain ⟨c0, c1, c2⟩ := HX1.out.cells
          clear hb
          go_wp2_with fail
          refine (specMulE' hR ps qs A A' n c n' c' B _ (HI.out.below (HX1.out.2.mono hB)) (HJ.out.below (HX1.out.2.mono hB)) (Nat.le_trans hB (Nat.le_of_lt HX1.out.lt)) (by omega) (by omega)).mono ?_
          rw [HTM.out]; rintro e w2 ⟨A1, m1, rfl, hm1, ho, hb⟩
          have HX2 := hide (HX1.out.next hb)
          have HO := hide (newIK_of (c := 0) ho HX2.out.2 (Nat.le_of_lt HX1.out.lt))
          clear ho hb c0 c1 c2
          go_wp2_with fail
          go_ret2
          exact HO
      · intro A n c A' n' c' B w hI hJ hB
        have HX := hide (Box.start w 25 p k g)
        have hn : n ≤ 1048576 := by rw [← hI.len]; exact hz
        have hn' : n' ≤ 1048576 := by rw [← hJ.len]; exact hz'
        have hpn : ps.length = n := by rw [← iv_len]; exact hI.len
        have hqm : qs.length = n' := by rw [← iv_len]; exact hJ.len
        have HR := hide (rws2b (c := c) (c' := c') (.cells #[.int .i64 p, .int .i64 k, .int .i64 g] 25) 70 hI hJ hB (by omega) (by omega))
        have HXr := hide (HX.out.alloc (.cells #[.slice A n c, .slice A' n' c'] 70))
        have HI := hide hI
        have HJ := hide hJ
        clear hI hJ
        have z4 : decide (512 < N) = false := by simp; omega
        go_enter Try.func27, Try.ntmps27
        go_wp2_with fail
        refine (implPErr p k g _ 2 2 _ _ _ HR.out rfl (box_size _ _ _) (by omega)).mono ?_
        rw [show lists [(A, n, c, iv ps), (A', n', c', iv qs)] = [iv ps, iv qs] from rfl, H0.out]
        rintro e w1 ⟨rfl, hb⟩
        have HX1 := hide (HXr.out.next hb)
        obtain ⟨c0, c1, c2⟩ := HX1.out.cells
        clear hb
        go_wp2_with fail
        refine (implPlen ps qs A A' n n' c c' _ hpn hqm (by omega) (by omega)).mono ?_
        rw [HN.out]
        rintro e w1' ⟨rfl, rfl⟩
        go_wp2_with fail
        refine (implTimes hR ps qs A A' n c n' c' B _ (HI.out.below (HX1.out.2.mono hB)) (HJ.out.below (HX1.out.2.mono hB)) (Nat.le_trans hB (Nat.le_of_lt HX1.out.lt)) (by omega) (by omega)).mono ?_
        rintro e w2 ⟨gB, m1, rfl, ho, hm1, hb⟩
        have HX2 := hide (HX1.out.next hb)
        have HO := hide (newIK_of (c := 0) ho HX2.out.2 (Nat.le_of_lt HX1.out.lt))
        clear ho hb c0 c1 c2
        go_wp2_with fail
        go_ret2
        exact HO

set_option maxHeartbeats 4000000 in
theorem div_both (hz : z.length ≤ 1048576) (hz' : z'.length ≤ 1048576) : ∃ (r r' : List Int) (c : Int), r.length ≤ 1099511627776 ∧ r'.length ≤ 1099511627776 ∧ C2 33 p k g z z' (NewIKK r r' c) ∧ C2 31 p k g z z' (NewIKK r r' c) := by
  rcases pErr2 p k g z z' with h1 | ⟨h0, hf, R, ps, qs, hR, rfl, hp, hpl, rfl, hq, hql⟩
  · have H1 := hide h1
    clear h1
    refine ⟨[], [], 1, by simp, by simp, ?_, ?_⟩
    · intro A n c A' n' c' B w hI hJ hB
      have HX := hide (Box.start w 25 p k g)
      have hn : n ≤ 1048576 := by rw [← hI.len]; exact hz
      have hn' : n' ≤ 1048576 := by rw [← hJ.len]; exact hz'
      have HR := hide (rws2b (c := c) (c' := c') (.cells #[.int .i64 p, .int .i64 k, .int .i64 g] 25) 35 hI hJ hB (by omega) (by omega))
      have HXr := hide (HX.out.alloc (.cells #[.slice A n c, .slice A' n' c'] 35))
      have HI := hide hI
      have HJ := hide hJ
      clear hI hJ
      go_enter Try.func33, Try.ntmps33
      go_wp2_with fail
      refine (specPErr p k g _ 2 2 _ _ _ HR.out rfl (box_size _ _ _) (by omega)).mono ?_
      rw [show lists [(A, n, c, z), (A', n', c', z')] = [z, z'] from rfl, H1.out]
      rintro e w1 ⟨rfl, hb⟩
      have HX1 := hide (HXr.out.next hb)
      obtain ⟨c0, c1, c2⟩ := HX1.out.cells
      clear hb
      go_wp2_with fail
      go_ret3
      exact newIKK_nil HX1.out.2
    · intro A n c A' n' c' B w hI hJ hB
      have HX := hide (Box.start w 25 p k g)
      have hn : n ≤ 1048576 := by rw [← hI.len]; exact hz
      have hn' : n' ≤ 1048576 := by rw [← hJ.len]; exact hz'
      have HR := hide (rws2b (c := c) (c' := c') (.cells #[.int .i64 p, .int .i64 k, .int .i64 g] 25) 70 hI hJ hB (by omega) (by omega))
      have HXr := hide (HX.out.alloc (.cells #[.slice A n c, .slice A' n' c'] 70))
      have HI := hide hI
      have HJ := hide hJ
      clear hI hJ
      go_enter Try.func31, Try.ntmps31
      go_wp2_with fail
      refine (implPErr p k g _ 2 2 _ _ _ HR.out rfl (box_size _ _ _) (by omega)).mono ?_
      rw [show lists [(A, n, c, z), (A', n', c', z')] = [z, z'] from rfl, H1.out]
      rintro e w1 ⟨rfl, hb⟩
      have HX1 := hide (HXr.out.next hb)
      obtain ⟨c0, c1, c2⟩ := HX1.out.cells
      clear hb
      go_wp2_with fail
      go_ret3
      exact newIKK_nil HX1.out.2
  · have H0 := hide h0
    clear h0
    by_cases hq0 : qs.length = 0
    · refine ⟨[], [], 5, by simp, by simp, ?_, ?_⟩
      · intro A n c A' n' c' B w hI hJ hB
        have HX := hide (Box.start w 25 p k g)
        have hn : n ≤ 1048576 := by rw [← hI.len]; exact hz
        have hn' : n' ≤ 1048576 := by rw [← hJ.len]; exact hz'
        have hpn : ps.length = n := by rw [← iv_len]; exact hI.len
        have hqm : qs.length = n' := by rw [← iv_len]; exact hJ.len
        have HR := hide (rws2b (c := c) (c' := c') (.cells #[.int .i64 p, .int .i64 k, .int .i64 g] 25) 35 hI hJ hB (by omega) (by omega))
        have HXr := hide (HX.out.alloc (.cells #[.slice A n c, .slice A' n' c'] 35))
        have HI := hide hI
        have HJ := hide hJ
        clear hI hJ
        have e1 : ((n' : Int) == 0) = true := by simp; omega
        go_enter Try.func33, Try.ntmps33
        go_wp2_with fail
        refine (specPErr p k g _ 2 2 _ _ _ HR.out rfl (box_size _ _ _) (by omega)).mono ?_
        rw [show lists [(A, n, c, iv ps), (A', n', c', iv qs)] = [iv ps, iv qs] from rfl, H0.out]
        rintro e w1 ⟨rfl, hb⟩
        have HX1 := hide (HXr.out.next hb)
        obtain ⟨c0, c1, c2⟩ := HX1.out.cells
        clear hb
        go_wp2_with fail
        go_ret3
        exact newIKK_nil HX1.out.2
      · intro A n c A' n' c' B w hI hJ hB
        have HX := hide (Box.start w 25 p k g)
        have hn : n ≤ 1048576 := by rw [← hI.len]; exact hz
        have hn' : n' ≤ 1048576 := by rw [← hJ.len]; exact hz'
        have hpn : ps.length = n := by rw [← iv_len]; exact hI.len
        have hqm : qs.length = n' := by rw [← iv_len]; exact hJ.len
        have HR := hide (rws2b (c := c) (c' := c') (.cells #[.int .i64 p, .int .i64 k, .int .i64 g] 25) 70 hI hJ hB (by omega) (by omega))
        have HXr := hide (HX.out.alloc (.cells #[.slice A n c, .slice A' n' c'] 70))
        have HI := hide hI
        have HJ := hide hJ
        clear hI hJ
        have e1 : ((n' : Int) == 0) = true := by simp; omega
        go_enter Try.func31, Try.ntmps31
        go_wp2_with fail
        refine (implPErr p k g _ 2 2 _ _ _ HR.out rfl (box_size _ _ _) (by omega)).mono ?_
        rw [show lists [(A, n, c, iv ps), (A', n', c', iv qs)] = [iv ps, iv qs] from rfl, H0.out]
        rintro e w1 ⟨rfl, hb⟩
        have HX1 := hide (HXr.out.next hb)
        obtain ⟨c0, c1, c2⟩ := HX1.out.cells
        clear hb
        go_wp2_with fail
        go_ret3
        exact newIKK_nil HX1.out.2
    · have HTM := hide (show trim (quoP ps qs) = quoP ps qs from trim_id (tr_quo hp hq (by omega)))
      refine ⟨iv (quoP ps qs), iv (remP ps qs), 0, iv512 (by unfold quoP; split; simp; rw [tab_len]; omega), iv512 (by have := @rem_le R ps qs; omega), ?_, ?_⟩
      · intro A n c A' n' c' B w hI hJ hB
        have HX := hide (Box.start w 25 p k g)
        have hn : n ≤ 1048576 := by rw [← hI.len]; exact hz
        have hn' : n' ≤ 1048576 := by rw [← hJ.len]; exact hz'
        have hpn : ps.length = n := by rw [← iv_len]; exact hI.len
        have hqm : qs.length = n' := by rw [← iv_len]; exact hJ.len
        have HR := hide (rws2b (c := c) (c' := c') (.cells #[.int .i64 p, .int .i64 k, .int .i64 g] 25) 35 hI hJ hB (by omega) (by omega))
        have HXr := hide (HX.out.alloc (.cells #[.slice A n c, .slice A' n' c'] 35))
        have HI := hide hI
        have HJ := hide hJ
        clear hI hJ
        have hq1 : ((n' : Int) == 0) = false := by simp; omega
        go_enter Try.func33, Try.ntmps33
        go_wp2_with fail
        refine (specPErr p k g _ 2 2 _ _ _ HR.out rfl (box_size _ _ _) (by omega)).mono ?_
        rw [show lists [(A, n, c, iv ps), (A', n', c', iv qs)] = [iv ps, iv qs] from rfl, H0.out]
        rintro e w1 ⟨rfl, hb⟩
        have HX1 := hide (HXr.out.next hb)
        obtain ⟨c0, c1, c2⟩ := HX1.out.cells
        clear hb
        go_wp2_with fail
        refine (specDivE hR ps qs A A' n c n' c' B _ (HI.out.below (HX1.out.2.mono hB)) (HJ.out.below (HX1.out.2.mono hB)) (Nat.le_trans hB (Nat.le_of_lt HX1.out.lt)) (by omega) (by omega) (by omega)).mono ?_
        rw [HTM.out]
        rintro e w2 ⟨Aq, mq, Ar, mr, rfl, hq2, hr2, hoq, hor, hne, hb⟩
        have HX2 := hide (HX1.out.next hb)
        have HO := hide (newIKK_of (c := 0) hoq hor hne.1 HX2.out.2 (Nat.le_of_lt HX1.out.lt))
        clear hoq hor hne hb c0 c1 c2
        go_wp2_with fail
        go_ret3
        exact HO
      · intro A n c A' n' c' B w hI hJ hB
        have HX := hide (Box.start w 25 p k g)
        have hn : n ≤ 1048576 := by rw [← hI.len]; exact hz
        have hn' : n' ≤ 1048576 := by rw [← hJ.len]; exact hz'
        have hpn : ps.length = n := by rw [← iv_len]; exact hI.len
        have hqm : qs.length = n' := by rw [← iv_len]; exact hJ.len
        have HR := hide (rws2b (c := c) (c' := c') (.cells #[.int .i64 p, .int .i64 k, .int .i64 g] 25) 70 hI hJ hB (by omega) (by omega))
        have HXr := hide (HX.out.alloc (.cells #[.slice A n c, .slice A' n' c'] 70))
        have HI := hide hI
        have HJ := hide hJ
        clear hI hJ
        have hq1 : ((n' : Int) == 0) = false := by simp; omega
        go_enter Try.func31, Try.ntmps31
        go_wp2_with fail
        refine (implPErr p k g _ 2 2 _ _ _ HR.out rfl (box_size _ _ _) (by omega)).mono ?_
        rw [show lists [(A, n, c, iv ps), (A', n', c', iv qs)] = [iv ps, iv qs] from rfl, H0.out]
        rintro e w1 ⟨rfl, hb⟩
        have HX1 := hide (HXr.out.next hb)
        obtain ⟨c0, c1, c2⟩ := HX1.out.cells
        clear hb
        go_wp2_with fail
        refine (implDivided hR ps qs A A' n c n' c' B _ (HI.out.below (HX1.out.2.mono hB)) (HJ.out.below (HX1.out.2.mono hB)) (Nat.le_trans hB (Nat.le_of_lt HX1.out.lt)) (by omega) (by omega) (by omega)).mono ?_
        rintro e w2 ⟨vq, vr, rfl, hoq, hor, hne, hb⟩
        have HX2 := hide (HX1.out.next hb)
        have HO := hide (newIKK_of (c := 0) hoq hor hne HX2.out.2 (Nat.le_of_lt HX1.out.lt))
        clear hoq hor hne hb c0 c1 c2
        go_wp2_with fail
        go_ret3
        exact HO

set_option maxHeartbeats 4000000 in
theorem eval_both (x : Int) (hz : z.length ≤ 1048576) : ∃ v c : Int, C1i 52 p k g z x (GivesII v c) ∧ C1i 30 p k g z x (GivesII v c) := by
  rcases pErr1 p k g z with h1 | ⟨h0, hf, R, ps, hR, rfl, hp, hpl⟩
  · have H1 := hide h1
    clear h1
    refine ⟨0, 1, ?_, ?_⟩
    · intro A n c B w hI hB
      have HX := hide (Box.start w 25 p k g)
      have hn : n ≤ 1048576 := by rw [← hI.len]; exact hz
      have HR := hide (rws1b (c := c) (.cells #[.int .i64 p, .int .i64 k, .int .i64 g] 25) 35 hI hB (by omega))
      have HXr := hide (HX.out.alloc (.cells #[.slice A n c] 35))
      have HI := hide hI
      clear hI
      go_enter Try.func52, Try.ntmps52
      go_wp2_with fail
      refine (specPErr p k g _ 1 1 _ _ _ HR.out rfl (box_size _ _ _) (by omega)).mono ?_
      rw [show lists [(A, n, c, z)] = [z] from rfl, H1.out]
      rintro e w1 ⟨rfl, hb⟩
      have HX1 := hide (HXr.out.next hb)
      obtain ⟨c0, c1, c2⟩ := HX1.out.cells
      clear hb
      go_wp2_with fail
      go_ret2
      exact ⟨rfl, HX1.out.2⟩
    · intro A n c B w hI hB
      have HX := hide (Box.start w 25 p k g)
      have hn : n ≤ 1048576 := by rw [← hI.len]; exact hz
      have HR := hide (rws1b (c := c) (.cells #[.int .i64 p, .int .i64 k, .int .i64 g] 25) 70 hI hB (by omega))
      have HXr := hide (HX.out.alloc (.cells #[.slice A n c] 70))
      have HI := hide hI
      clear hI
      go_enter Try.func30, Try.ntmps30
      go_wp2_with fail
      refine (implPErr p k g _ 1 1 _ _ _ HR.out rfl (box_size _ _ _) (by omega)).mono ?_
      rw [show lists [(A, n, c, z)] = [z] from rfl, H1.out]
      rintro e w1 ⟨rfl, hb⟩
      have HX1 := hide (HXr.out.next hb)
      obtain ⟨c0, c1, c2⟩ := HX1.out.cells
      clear hb
      go_wp2_with fail
      go_ret2
      exact ⟨rfl, HX1.out.2⟩
  · have H0 := hide h0
    clear h0
    rcases hx : elB R.q x with _ | _
    · refine ⟨0, 2, ?_, ?_⟩
      · intro A n c B w hI hB
        have HX := hide (Box.start w 25 p k g)
        have hn : n ≤ 1048576 := by rw [← hI.len]; exact hz
        have hpn : ps.length = n := by rw [← iv_len]; exact hI.len
        have HR := hide (rws1b (c := c) (.cells #[.int .i64 p, .int .i64 k, .int .i64 g] 25) 35 hI hB (by omega))
        have HXr := hide (HX.out.alloc (.cells #[.slice A n c] 35))
        have HI := hide hI
        clear hI
        have HXX := hide hx
        clear hx
        go_enter Try.func52, Try.ntmps52
        go_wp2_with fail
        refine (specPErr p k g _ 1 1 _ _ _ HR.out rfl (box_size _ _ _) (by omega)).mono ?_
        rw [show lists [(A, n, c, iv ps)] = [iv ps] from rfl, H0.out]
        rintro e w1 ⟨rfl, hb⟩
        have HX1 := hide (HXr.out.next hb)
        obtain ⟨c0, c1, c2⟩ := HX1.out.cells
        clear hb
        have HXa := hide (HX1.out.alloc (.cells #[.int .i64 x] 2))
        have HIx := hide (ints_one w1 2 .i64 x)
        go_wp2_with fail
        refine (specIs hR.kind _ 1 1 _ [x] _ HIx.out (by rw [alloc_size]; exact Nat.le_refl _) (by omega)).mono ?_
        rw [show [x].all (elB R.q) = elB R.q x by simp, HXX.out]
        rintro e w2 ⟨rfl, hb⟩
        have HX2 := hide (HXa.out.next hb)
        clear hb c0 c1 c2
        obtain ⟨c0, c1, c2⟩ := HX2.out.cells
        go_wp2_with fail
        go_ret2
        exact ⟨rfl, HX2.out.2⟩
      · intro A n c B w hI hB
        have HX := hide (Box.start w 25 p k g)
        have hn : n ≤ 1048576 := by rw [← hI.len]; exact hz
        have hpn : ps.length = n := by rw [← iv_len]; exact hI.len
        have HR := hide (rws1b (c := c) (.cells #[.int .i64 p, .int .i64 k, .int .i64 g] 25) 70 hI hB (by omega))
        have HXr := hide (HX.out.alloc (.cells #[.slice A n c] 70))
        have HI := hide hI
        clear hI
        have HXX := hide hx
        clear hx
        go_enter Try.func30, Try.ntmps30
        go_wp2_with fail
        refine (implPErr p k g _ 1 1 _ _ _ HR.out rfl (box_size _ _ _) (by omega)).mono ?_
        rw [show lists [(A, n, c, iv ps)] = [iv ps] from rfl, H0.out]
        rintro e w1 ⟨rfl, hb⟩
        have HX1 := hide (HXr.out.next hb)
        obtain ⟨c0, c1, c2⟩ := HX1.out.cells
        clear hb
        go_wp2_with fail
        refine (implHas hR.kind x _).mono ?_
        rw [show decide (0 ≤ x ∧ x < (R.q : Int)) = elB R.q x from rfl, HXX.out]
        rintro e w2 ⟨rfl, hb⟩
        have HX2 := hide (HX1.out.next hb)
        clear hb c0 c1 c2
        obtain ⟨c0, c1, c2⟩ := HX2.out.cells
        go_wp2_with fail
        go_ret2
        exact ⟨rfl, HX2.out.2⟩
    · obtain ⟨X, rfl⟩ : ∃ X : El R, x = (X.val : Int) := by
        simp only [elB, decide_eq_true_eq] at hx
        exact ⟨⟨x.toNat, by omega⟩, by show x = ((x.toNat : Nat) : Int); omega⟩
      refine ⟨((ev X ps).val : Nat), 0, ?_, ?_⟩
      · intro A n c B w hI hB
        have HX := hide (Box.start w 25 p k g)
        have hn : n ≤ 1048576 := by rw [← hI.len]; exact hz
        have hpn : ps.length = n := by rw [← iv_len]; exact hI.len
        have HR := hide (rws1b (c := c) (.cells #[.int .i64 p, .int .i64 k, .int .i64 g] 25) 35 hI hB (by omega))
        have HXr := hide (HX.out.alloc (.cells #[.slice A n c] 35))
        have HI := hide hI
        clear hI
        have HXX := hide hx
        clear hx
        go_enter Try.func52, Try.ntmps52
        go_wp2_with fail
        refine (specPErr p k g _ 1 1 _ _ _ HR.out rfl (box_size _ _ _) (by omega)).mono ?_
        rw [show lists [(A, n, c, iv ps)] = [iv ps] from rfl, H0.out]
        rintro e w1 ⟨rfl, hb⟩
        have HX1 := hide (HXr.out.next hb)
        obtain ⟨c0, c1, c2⟩ := HX1.out.cells
        clear hb
        have HXa := hide (HX1.out.alloc (.cells #[.int .i64 (X.val : Int)] 2))
        have HIx := hide (ints_one w1 2 .i64 (X.val : Int))
        go_wp2_with fail
        refine (specIs hR.kind _ 1 1 _ [(X.val : Int)] _ HIx.out (by rw [alloc_size]; exact Nat.le_refl _) (by omega)).mono ?_
        rw [show [(X.val : Int)].all (elB R.q) = elB R.q (X.val : Int) by simp, HXX.out]
        rintro e w2 ⟨rfl, hb⟩
        have HX2 := hide (HXa.out.next hb)
        clear hb c0 c1 c2
        obtain ⟨c0, c1, c2⟩ := HX2.out.cells
        go_wp2_with fail
        refine (specEvalE hR X ps A n c B _ (HI.out.below (HX2.out.2.mono hB)) (Nat.le_trans hB (Nat.le_of_lt HX2.out.lt)) (by omega)).mono ?_
        rintro e w3 ⟨rfl, hb⟩
        have HX3 := hide (HX2.out.next hb)
        clear hb c0 c1 c2
        go_wp2_with fail
        go_ret2
        exact ⟨rfl, HX3.out.2⟩
      · intro A n c B w hI hB
        have HX := hide (Box.start w 25 p k g)
        have hn : n ≤ 1048576 := by rw [← hI.len]; exact hz
        have hpn : ps.length = n := by rw [← iv_len]; exact hI.len
        have HR := hide (rws1b (c := c) (.cells #[.int .i64 p, .int .i64 k, .int .i64 g] 25) 70 hI hB (by omega))
        have HXr := hide (HX.out.alloc (.cells #[.slice A n c] 70))
        have HI := hide hI
        clear hI
        have HXX := hide hx
        clear hx
        go_enter Try.func30, Try.ntmps30
        go_wp2_with fail
        refine (implPErr p k g _ 1 1 _ _ _ HR.out rfl (box_size _ _ _) (by omega)).mono ?_
        rw [show lists [(A, n, c, iv ps)] = [iv ps] from rfl, H0.out]
        rintro e w1 ⟨rfl, hb⟩
        have HX1 := hide (HXr.out.next hb)
        obtain ⟨c0, c1, c2⟩ := HX1.out.cells
        clear hb
        go_wp2_with fail
        refine (implHas hR.kind (X.val : Int) _).mono ?_
        rw [show decide (0 ≤ (X.val : Int) ∧ (X.val : Int) < (R.q : Int)) = elB R.q (X.val : Int) from rfl, HXX.out]
        rintro e w2 ⟨rfl, hb⟩
        have HX2 := hide (HX1.out.next hb)
        clear hb c0 c1 c2
        obtain ⟨c0, c1, c2⟩ := HX2.out.cells
        go_wp2_with fail
        refine (implValueAt hR X ps A n c B _ (HI.out.below (HX2.out.2.mono hB)) (Nat.le_trans hB (Nat.le_of_lt HX2.out.lt)) (by omega)).mono ?_
        rintro e w3 ⟨rfl, hb⟩
        have HX3 := hide (HX2.out.next hb)
        clear hb c0 c1 c2
        go_wp2_with fail
        go_ret2
        exact ⟨rfl, HX3.out.2⟩

set_option maxHeartbeats 4000000 in
theorem der_both (hz : z.length ≤ 1048576) : ∃ (r : List Int) (c : Int), r.length ≤ 1099511627776 ∧ C1 53 p k g z (NewIK r c) ∧ C1 54 p k g z (NewIK r c) := by
  rcases pErr1 p k g z with h1 | ⟨h0, hf, R, ps, hR, rfl, hp, hpl⟩
  · have H1 := hide h1
    clear h1
    refine ⟨[], 1, by simp, ?_, ?_⟩
    · intro A n c B w hI hB
      have HX := hide (Box.start w 25 p k g)
      have hn : n ≤ 1048576 := by rw [← hI.len]; exact hz
      have HR := hide (rws1b (c := c) (.cells #[.int .i64 p, .int .i64 k, .int .i64 g] 25) 35 hI hB (by omega))
      have HXr := hide (HX.out.alloc (.cells #[.slice A n c] 35))
      have HI := hide hI
      clear hI
      go_enter Try.func53, Try.ntmps53
      go_wp2_with fail
      refine (specPErr p k g _ 1 1 _ _ _ HR.out rfl (box_size _ _ _) (by omega)).mono ?_
      rw [show lists [(A, n, c, z)] = [z] from rfl, H1.out]
      rintro e w1 ⟨rfl, hb⟩
      have HX1 := hide (HXr.out.next hb)
      obtain ⟨c0, c1, c2⟩ := HX1.out.cells
      clear hb
      go_wp2_with fail
      go_ret2
      exact newIK_nil HX1.out.2
    · intro A n c B w hI hB
      have HX := hide (Box.start w 25 p k g)
      have hn : n ≤ 1048576 := by rw [← hI.len]; exact hz
      have HR := hide (rws1b (c := c) (.cells #[.int .i64 p, .int .i64 k, .int .i64 g] 25) 70 hI hB (by omega))
      have HXr := hide (HX.out.alloc (.cells #[.slice A n c] 70))
      have HI := hide hI
      clear hI
      go_enter Try.func54, Try.ntmps54
      go_wp2_with fail
      refine (implPErr p k g _ 1 1 _ _ _ HR.out rfl (box_size _ _ _) (by omega)).mono ?_
      rw [show lists [(A, n, c, z)] = [z] from rfl, H1.out]
      rintro e w1 ⟨rfl, hb⟩
      have HX1 := hide (HXr.out.next hb)
      obtain ⟨c0, c1, c2⟩ := HX1.out.cells
      clear hb
      go_wp2_with fail
      go_ret2
      exact newIK_nil HX1.out.2
  · have H0 := hide h0
    clear h0
    refine ⟨iv (derP hR ps), 0, iv512 (by have := trim_le (tab (ps.length - 1) fun i => numE hR (i + 1) * cf ps (i + 1)); rw [tab_len] at this; unfold derP; omega), ?_, ?_⟩
    · intro A n c B w hI hB
      have HX := hide (Box.start w 25 p k g)
      have hn : n ≤ 1048576 := by rw [← hI.len]; exact hz
      have hpn : ps.length = n := by rw [← iv_len]; exact hI.len
      have HR := hide (rws1b (c := c) (.cells #[.int .i64 p, .int .i64 k, .int .i64 g] 25) 35 hI hB (by omega))
      have HXr := hide (HX.out.alloc (.cells #[.slice A n c] 35))
      have HI := hide hI
      clear hI
      go_enter Try.func53, Try.ntmps53
      go_wp2_with fail
      refine (specPErr p k g _ 1 1 _ _ _ HR.out rfl (box_size _ _ _) (by omega)).mono ?_
      rw [show lists [(A, n, c, iv ps)] = [iv ps] from rfl, H0.out]
      rintro e w1 ⟨rfl, hb⟩
      have HX1 := hide (HXr.out.next hb)
      obtain ⟨c0, c1, c2⟩ := HX1.out.cells
      clear hb
      go_wp2_with fail
      refine (specDerE hR ps A n c B _ (HI.out.below (HX1.out.2.mono hB)) (Nat.le_trans hB (Nat.le_of_lt HX1.out.lt)) (by omega)).mono ?_
      rintro e w2 ⟨A1, m1, rfl, hm1, ho, hb⟩
      have HX2 := hide (HX1.out.next hb)
      have HO := hide (newIK_of (c := 0) ho HX2.out.2 (Nat.le_of_lt HX1.out.lt))
      clear ho hb c0 c1 c2
      go_wp2_with fail
      go_ret2
      exact HO
    · intro A n c B w hI hB
      have HX := hide (Box.start w 25 p k g)
      have hn : n ≤ 1048576 := by rw [← hI.len]; exact hz
      have hpn : ps.length = n := by rw [← iv_len]; exact hI.len
      have HR := hide (rws1b (c := c) (.cells #[.int .i64 p, .int .i64 k, .int .i64 g] 25) 70 hI hB (by omega))
      have HXr := hide (HX.out.alloc (.cells #[.slice A n c] 70))
      have HI := hide hI
      clear hI
      go_enter Try.func54, Try.ntmps54
      go_wp2_with fail
      refine (implPErr p k g _ 1 1 _ _ _ HR.out rfl (box_size _ _ _) (by omega)).mono ?_
      rw [show lists [(A, n, c, iv ps)] = [iv ps] from rfl, H0.out]
      rintro e w1 ⟨rfl, hb⟩
      have HX1 := hide (HXr.out.next hb)
      obtain ⟨c0, c1, c2⟩ := HX1.out.cells
      clear hb
      go_wp2_with fail
      refine (implDerE hR ps A n c B _ (HI.out.below (HX1.out.2.mono hB)) (Nat.le_trans hB (Nat.le_of_lt HX1.out.lt)) (by omega)).mono ?_
      rintro e w2 ⟨A1, m1, rfl, hm1, ho, hb⟩
      have HX2 := hide (HX1.out.next hb)
      have HO := hide (newIK_of (c := 0) ho HX2.out.2 (Nat.le_of_lt HX1.out.lt))
      clear ho hb c0 c1 c2
      go_wp2_with fail
      go_ret2
      exact HO

end
end Go.Proofs.Ythafkohopkgckaa
