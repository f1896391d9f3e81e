/-
  The model's fixed cells of matrix symbols, and how many data cells it counts.
  Condition: as each statement says.
-/
import Derived.Test.YtncgeoliboidhaaGreatVH
import Derived.Test.YtncgeoliboidhaaGreatFmHas
import Derived.Test.YtncgeoliboidhaaGreatVC
import Derived.Test.YtncgeoliboidhaaGreatTail2
import Derived.Deep.RegionHeld3
namespace Go.Proofs.YtncgeoliboidhaaGreat
open Go.RowKit
set_option linter.unusedSimpArgs false
set_option linter.unusedVariables false

set_option maxHeartbeats 1000000 in
theorem specAbs (x : Int) (h1 : -1000000 ≤ x) (h2 : x ≤ 1000000) (w : World) :
    Calls Tryz.prog 159 #[.int .i64 x] w fun e w' => e = .returned (.int .i64 (absI x)) ∧ w = w' := by
  by_cases h : x < 0
  · have HF := hide (show absI x = -x by rw [absI, if_pos h])
    go_enter Tryz.func159, Tryz.ntmps159
    go_wp2_with fail
    go_ret
    exact ⟨ret_int HF.out, rfl⟩
  · have HF := hide (show absI x = x by rw [absI, if_neg h])
    go_enter Tryz.func159, Tryz.ntmps159
    go_wp2_with fail
    go_ret
    exact ⟨ret_int HF.out, rfl⟩
theorem abs_le {x : Int} (h1 : -1000000 ≤ x) (h2 : x ≤ 1000000) : 0 ≤ absI x ∧ absI x ≤ 1000000 := by unfold absI; split <;> omega
set_option maxRecDepth 100000 in
set_option maxHeartbeats 2000000 in
theorem specFin (r c : Int) (hr : -1000 ≤ r ∧ r ≤ 1000) (hc : -1000 ≤ c ∧ c ≤ 1000) (w : World) :
    Calls Tryz.prog 158 #[.int .i64 r, .int .i64 c] w fun e w' => e = .returned (.int .i64 (finZ r c)) ∧ w = w' := by
  have HA := hide (fun w' => specAbs (r - 3) (by omega) (by omega) w')
  have HB := hide (fun w' => specAbs (c - 3) (by omega) (by omega) w')
  have ha := abs_le (x := r - 3) (by omega) (by omega)
  have hb := abs_le (x := c - 3) (by omega) (by omega)
  have HF := hide (show finZ r c = if 4 < max (absI (r - 3)) (absI (c - 3)) then -1 else if max (absI (r - 3)) (absI (c - 3)) = 2 ∨ max (absI (r - 3)) (absI (c - 3)) = 4 then 0 else 1 from rfl)
  generalize absI (r - 3) = a at *
  generalize absI (c - 3) = b at *
  go_enter Tryz.func158, Tryz.ntmps158
  go_wp2_with fail
  refine (HA.out _).mono ?_
  rintro e _ ⟨rfl, rfl⟩
  go_wp2_with fail
  refine (HB.out _).mono ?_
  rintro e _ ⟨rfl, rfl⟩
  obtain ⟨d, hd⟩ : ∃ d, max a b = d := ⟨_, rfl⟩
  rw [hd] at HF
  have hd1 : d ≤ 1000000 := by omega
  rcases Int.lt_or_le a b with hab | hab
  all_goals (
    have hdd : d = if a < b then b else a := by split <;> omega
    go_wp2_with fail
    all_goals (
      go_ret
      refine ⟨ret_int ?_, rfl⟩
      rw [HF.out]
      (try simp only [beq_iff_eq, beq_eq_false_iff_ne, ne_eq] at *)
      first
        | (rw [if_pos (by omega)])
        | (rw [if_neg (by omega), if_pos (by omega)])
        | (rw [if_neg (by omega), if_neg (by omega)])))

theorem row_upF {w : World} {N : Nat} {o : Obj} (h : w.heap[N]? = some o) (o' : Obj) : (w.alloc o').heap[N]? = some o := by
  rw [((Below.refl (w.heap.size) w).alloc (Nat.le_refl _) o').block N (Array.getElem?_eq_some_iff.1 h).1]; exact h
/-! The corners: three lists of two numbers. -/
/-- The three corners, in blocks of their own from N on. -/
def Crn (w : World) (N : Nat) (n : Int) : Prop :=
  ∀ i, i < 3 → w.cell? ⟨N + 1 + 1 + 1, i, none⟩ = some (.slice (some ⟨N + i, 0, none⟩) 2 2) ∧ w.cell? ⟨N + i, 0, none⟩ = some (.int .i64 (corZ n i).1) ∧ w.cell? ⟨N + i, 1, none⟩ = some (.int .i64 (corZ n i).2)
theorem fin_le (a b : Int) : -1 ≤ finZ a b ∧ finZ a b ≤ 1 := by
  unfold finZ
  dsimp only
  split
  · omega
  · split <;> omega
theorem cor_le {n : Int} (h1 : 17 ≤ n) (h2 : n ≤ 41) (i : Nat) : (0 ≤ (corZ n i).1 ∧ (corZ n i).1 ≤ 41) ∧ 0 ≤ (corZ n i).2 ∧ (corZ n i).2 ≤ 41 := by
  unfold corZ
  split
  · simp
  · split <;> (simp only []; omega)
theorem fix_hit {n r c : Int} {j : Nat} (hj : j < 3) (hb : ∀ i, i < j → finK n r c i < 0) (h : 0 ≤ finK n r c j) : fixZ n r c = finK n r c j := by
  unfold fixZ
  obtain rfl | rfl | rfl : j = 0 ∨ j = 1 ∨ j = 2 := by omega
  · rw [if_pos h]
  · rw [if_neg (by have := hb 0 (by omega); omega), if_pos h]
  · rw [if_neg (by have := hb 0 (by omega); omega), if_neg (by have := hb 1 (by omega); omega), if_pos h]
theorem fix_line {n r c : Int} (hb : ∀ i, i < 3 → finK n r c i < 0) : fixZ n r c = linZ n r c := by
  unfold fixZ
  rw [if_neg (by have := hb 0 (by omega); omega), if_neg (by have := hb 1 (by omega); omega), if_neg (by have := hb 2 (by omega); omega)]
theorem lin_b (n r c : Int) : linZ n r c = if (r == 6 && inR c 8 (n - 9)) = true then 1 - c % 2 else if (c == 6 && inR r 8 (n - 9)) = true then 1 - r % 2 else if (r == n - 8 && c == 8) = true then 1 else -1 := by
  have hin : ∀ x, (inR x 8 (n - 9) = true) = (8 ≤ x ∧ x ≤ n - 9) := by
    intro x
    rcases h : inR x 8 (n - 9) with _ | _
    · simp only [Bool.false_eq_true, eq_iff_iff, false_iff]
      intro hh; rw [inR_yes hh.1 hh.2] at h; cases h
    · simp only [eq_iff_iff, true_iff]
      refine Decidable.byContradiction fun hh => ?_
      rw [inR_no (by omega)] at h; cases h
  unfold linZ
  simp only [Bool.and_eq_true, beq_iff_eq, hin]
def FixRel (w : World) (N n r c : Nat) (i : Value) (wr : World) : Prop :=
  ∃ j : Nat, j ≤ 3 ∧ i = .int .i64 j ∧ Hid (∀ i, i < j → finK n r c i < 0) ∧ Hid (Crn wr N n) ∧ Below N w wr
set_option maxRecDepth 100000 in
set_option maxHeartbeats 8000000 in
theorem specFix (n r c : Nat) (hn1 : 17 ≤ n) (hn : n ≤ 41) (hr : r < n) (hc : c < n) (w : World) :
    Calls Tryz.prog 155 #[.int .i64 n, .int .i64 r, .int .i64 c] w (Gives (.int .i64 (fixZ n r c)) w) := by
  obtain ⟨m7, hm7⟩ : ∃ m7 : Int, (n : Int) - 7 = m7 := ⟨_, rfl⟩
  have hm7a : 10 ≤ m7 ∧ m7 ≤ 34 := by omega
  obtain ⟨w1, hw1⟩ : ∃ w1, w.alloc (.cells #[.int .i64 0, .int .i64 0] 2) = w1 := ⟨_, rfl⟩
  obtain ⟨w2, hw2⟩ : ∃ w2, w1.alloc (.cells #[.int .i64 0, .int .i64 m7] 2) = w2 := ⟨_, rfl⟩
  obtain ⟨w3, hw3⟩ : ∃ w3, w2.alloc (.cells #[.int .i64 m7, .int .i64 0] 2) = w3 := ⟨_, rfl⟩
  obtain ⟨w4, hw4⟩ : ∃ w4, w3.alloc (.cells #[.slice (some ⟨w.heap.size, 0, none⟩) 2 2, .slice (some ⟨w.heap.size + 1, 0, none⟩) 2 2, .slice (some ⟨w.heap.size + 1 + 1, 0, none⟩) 2 2] 26) = w4 := ⟨_, rfl⟩
  have s1 : w1.heap.size = w.heap.size + 1 := by rw [← hw1, alloc_size]
  have s2 : w2.heap.size = w.heap.size + 1 + 1 := by rw [← hw2, alloc_size, s1]
  have s3 : w3.heap.size = w.heap.size + 1 + 1 + 1 := by rw [← hw3, alloc_size, s2]
  have q1 : w1.heap[w.heap.size]? = some (.cells #[.int .i64 0, .int .i64 0] 2 (0, 0)) := by rw [← hw1]; exact heap_alloc_new _ _
  have q2 : w2.heap[w.heap.size + 1]? = some (.cells #[.int .i64 0, .int .i64 m7] 2 (0, 0)) := by rw [← hw2, ← s1]; exact heap_alloc_new _ _
  have q3 : w3.heap[w.heap.size + 1 + 1]? = some (.cells #[.int .i64 m7, .int .i64 0] 2 (0, 0)) := by rw [← hw3, ← s2]; exact heap_alloc_new _ _
  have q4 : w4.heap[w.heap.size + 1 + 1 + 1]? = some (.cells #[.slice (some ⟨w.heap.size, 0, none⟩) 2 2, .slice (some ⟨w.heap.size + 1, 0, none⟩) 2 2, .slice (some ⟨w.heap.size + 1 + 1, 0, none⟩) 2 2] 26 (0, 0)) := by rw [← hw4, ← s3]; exact heap_alloc_new _ _
  have p1 : w4.heap[w.heap.size]? = some (.cells #[.int .i64 0, .int .i64 0] 2 (0, 0)) := by rw [← hw4, ← hw3, ← hw2]; exact row_upF (row_upF (row_upF q1 _) _) _
  have p2 : w4.heap[w.heap.size + 1]? = some (.cells #[.int .i64 0, .int .i64 m7] 2 (0, 0)) := by rw [← hw4, ← hw3]; exact row_upF (row_upF q2 _) _
  have p3 : w4.heap[w.heap.size + 1 + 1]? = some (.cells #[.int .i64 m7, .int .i64 0] 2 (0, 0)) := by rw [← hw4]; exact row_upF q3 _
  have HC := hide (show Crn w4 w.heap.size n by
    intro i hi
    obtain rfl | rfl | rfl : i = 0 ∨ i = 1 ∨ i = 2 := by omega
    · exact ⟨cell_of_row w4 _ 0 _ _ _ q4, cell_of_row w4 _ 0 _ _ _ p1, cell_of_row w4 _ 1 _ _ _ p1⟩
    · rw [show (corZ n 1) = (0, m7) by rw [← hm7]; rfl]
      exact ⟨cell_of_row w4 _ 1 _ _ _ q4, cell_of_row w4 _ 0 _ _ _ p2, cell_of_row w4 _ 1 _ _ _ p2⟩
    · rw [show (corZ n 2) = (m7, 0) by rw [← hm7]; rfl]
      exact ⟨cell_of_row w4 _ 2 _ _ _ q4, cell_of_row w4 _ 0 _ _ _ p3, cell_of_row w4 _ 1 _ _ _ p3⟩)
  have HB4 := hide (show Below w.heap.size w w4 by
    rw [← hw4, ← hw3, ← hw2, ← hw1]
    exact ((((Below.refl _ _).alloc (Nat.le_refl _) _).alloc (by rw [alloc_size]; omega) _).alloc (by rw [alloc_size, alloc_size]; omega) _).alloc (by rw [alloc_size, alloc_size, alloc_size]; omega) _)
  have S1 := hide s1
  have S2 := hide s2
  have S3 := hide s3
  clear q1 q2 q3 q4 p1 p2 p3 s1 s2 s3
  go_enter Tryz.func155, Tryz.ntmps155
  have HW1 := hide hw1
  have HW2 := hide hw2
  have HW3 := hide hw3
  have HW4 := hide hw4
  have HM := hide hm7
  clear hw1 hw2 hw3 hw4 hm7
  go_wp2_with fail
  rw [HM.out, HW1.out, HW2.out, HW3.out, HW4.out]
  go_loopw [8] (fun i wr => FixRel w w.heap.size n r c i wr) (fun i _ => 3 - (intOf i).toNat)
  case atStart => exact ⟨0, by omega, rfl, hide (fun i hi => absurd hi (by omega)), hide HC.out, HB4.out⟩
  case round =>
    obtain ⟨j, hj, rfl, HP, HCR, hb⟩ := hrel
    have HB := hide hb
    clear hb
    by_cases hlt : j < 3
    · obtain ⟨l0, l1, l2⟩ := HCR.out j hlt
      obtain ⟨⟨x1, x2⟩, y1, y2⟩ := cor_le (n := n) (by omega) (by omega) j
      have HX := hide (show finK n r c j = finZ (r - (corZ n j).1) (c - (corZ n j).2) from rfl)
      obtain ⟨x, hx⟩ : ∃ x, (corZ n j).1 = x := ⟨_, rfl⟩
      obtain ⟨y, hy⟩ : ∃ y, (corZ n j).2 = y := ⟨_, rfl⟩
      rw [hx] at l1 x1 x2 HX
      rw [hy] at l2 y1 y2 HX
      clear hx hy
      have e1 : IntKind.i64.wrap ((r : Int) - x) = (r : Int) - x := IntWalk.i64_in _ ⟨by omega, by omega⟩
      have e2 : IntKind.i64.wrap ((c : Int) - y) = (c : Int) - y := IntWalk.i64_in _ ⟨by omega, by omega⟩
      have HFI := hide (fun w' => specFin ((r : Int) - x) ((c : Int) - y) (by omega) (by omega) w')
      rw [← HX.out] at HFI
      obtain ⟨z, hz⟩ : ∃ z, finK n r c j = z := ⟨_, rfl⟩
      rw [hz] at HFI
      have HZ := hide hz
      clear hz HX
      have hj0 : (0 : Int) ≤ (j : Int) := by omega
      by_cases hz0 : 0 ≤ z
      · have HF := hide (show fixZ n r c = z by rw [fix_hit hlt HP.out (by rw [HZ.out]; exact hz0), HZ.out])
        go_wp2_with fail
        go_region_held3 (fun w' => w'.cell? ⟨w.heap.size + 1 + 1 + 1, j, none⟩ = some (.slice (some ⟨w.heap.size + j, 0, none⟩) 2 2) ∧ w'.cell? ⟨w.heap.size + j, 0, none⟩ = some (.int .i64 x) ∧ w'.cell? ⟨w.heap.size + j, 1, none⟩ = some (.int .i64 y)) (exact ⟨l0, l1, l2⟩) ((go_at_call 158; refine (HFI.out _).mono ?_; rintro e _ ⟨rfl, rfl⟩))
        go_wp2_with fail
        go_ret
        exact ⟨ret_int HF.out, HB.out.drew⟩
      · have HP1 := hide (fun (i : Nat) (hi : i < j + 1) => show finK n r c i < 0 from if e : i < j then HP.out i e else by rw [show i = j by omega, HZ.out]; omega)
        go_wp2_with fail
        go_region_held3 (fun w' => w'.cell? ⟨w.heap.size + 1 + 1 + 1, j, none⟩ = some (.slice (some ⟨w.heap.size + j, 0, none⟩) 2 2) ∧ w'.cell? ⟨w.heap.size + j, 0, none⟩ = some (.int .i64 x) ∧ w'.cell? ⟨w.heap.size + j, 1, none⟩ = some (.int .i64 y)) (exact ⟨l0, l1, l2⟩) ((go_at_call 158; refine (HFI.out _).mono ?_; rintro e _ ⟨rfl, rfl⟩))
        go_wp2_with fail
        go_roundw
        case rel => exact ⟨j + 1, by omega, by go_num, HP1, hide (fun i hi => HCR.out i hi), below_drewN HB.out _⟩
        case measure => simp [intOf]; omega
    · have HL := hide (fix_line (n := n) (r := r) (c := c) (fun i hi => HP.out i (by omega)))
      have HLL := HL
      have HLB := hide (lin_b (n : Int) r c)
      obtain ⟨m8, hm8⟩ : ∃ m8 : Int, (n : Int) - 8 = m8 := ⟨_, rfl⟩
      obtain ⟨m9, hm9⟩ : ∃ m9 : Int, (n : Int) - 9 = m9 := ⟨_, rfl⟩
      have tc : (c : Int).tmod 2 = ((c % 2 : Nat) : Int) := by rw [Int.tmod_eq_emod_of_nonneg (by omega)]; rfl
      have tr : (r : Int).tmod 2 = ((r % 2 : Nat) : Int) := by rw [Int.tmod_eq_emod_of_nonneg (by omega)]; rfl
      have yc2 : c % 2 < 2 := Nat.mod_lt _ (by omega)
      have yr2 : r % 2 < 2 := Nat.mod_lt _ (by omega)
      have ec : (c : Int) % 2 = ((c % 2 : Nat) : Int) := by omega
      have er : (r : Int) % 2 = ((r % 2 : Nat) : Int) := by omega
      obtain ⟨yc, hyc⟩ : ∃ y, c % 2 = y := ⟨_, rfl⟩
      obtain ⟨yr, hyr⟩ : ∃ y, r % 2 = y := ⟨_, rfl⟩
      rw [hyc] at tc yc2 ec
      rw [hyr] at tr yr2 er
      rw [hm8, hm9, ec, er] at HLB
      clear hyc hyr ec er HL
      -- FIXED
      rcases h1 : ((r : Int) == 6) with _ | _
      · skip
        rcases h3 : ((c : Int) == 6) with _ | _
        · skip
          rcases h5 : ((r : Int) == m8) with _ | _
          · skip
            have HF := hide (show linZ n r c = -1 by rw [HLB.out]; simp [h1, h3, h5])
            go_wp2_with fail
            go_ret
            exact ⟨ret_int (by rw [HLL.out, HF.out]), HB.out⟩
          · rcases h6 : ((c : Int) == 8) with _ | _
            · skip
              have HF := hide (show linZ n r c = -1 by rw [HLB.out]; simp [h1, h3, h5, h6])
              go_wp2_with fail
              go_ret
              exact ⟨ret_int (by rw [HLL.out, HF.out]), HB.out⟩
            · skip
              have HF := hide (show linZ n r c = 1 by rw [HLB.out]; simp [h1, h3, h5, h6])
              go_wp2_with fail
              go_ret
              exact ⟨ret_int (by rw [HLL.out, HF.out]), HB.out⟩
        · rcases h4 : inR r 8 m9 with _ | _
          · have HI2 := hide (fun w' => specIn_is (r : Int) 8 m9 false w' h4)
            go_wp2_with fail
            refine (HI2.out _).mono ?_
            rintro e _ ⟨rfl, rfl⟩
            rcases h5 : ((r : Int) == m8) with _ | _
            · skip
              have HF := hide (show linZ n r c = -1 by rw [HLB.out]; simp [h1, h3, h4, h5])
              go_wp2_with fail
              go_ret
              exact ⟨ret_int (by rw [HLL.out, HF.out]), HB.out⟩
            · rcases h6 : ((c : Int) == 8) with _ | _
              · skip
                have HF := hide (show linZ n r c = -1 by rw [HLB.out]; simp [h1, h3, h4, h5, h6])
                go_wp2_with fail
                go_ret
                exact ⟨ret_int (by rw [HLL.out, HF.out]), HB.out⟩
              · skip
                have HF := hide (show linZ n r c = 1 by rw [HLB.out]; simp [h1, h3, h4, h5, h6])
                go_wp2_with fail
                go_ret
                exact ⟨ret_int (by rw [HLL.out, HF.out]), HB.out⟩
          · have HI2 := hide (fun w' => specIn_is (r : Int) 8 m9 true w' h4)
            go_wp2_with fail
            refine (HI2.out _).mono ?_
            rintro e _ ⟨rfl, rfl⟩
            have HF := hide (show linZ n r c = 1 - (yr : Int) by rw [HLB.out]; simp [h1, h3, h4])
            go_wp2_with fail
            go_ret
            exact ⟨ret_int (by rw [HLL.out, HF.out]), HB.out⟩
      · rcases h2 : inR c 8 m9 with _ | _
        · have HI1 := hide (fun w' => specIn_is (c : Int) 8 m9 false w' h2)
          go_wp2_with fail
          refine (HI1.out _).mono ?_
          rintro e _ ⟨rfl, rfl⟩
          rcases h3 : ((c : Int) == 6) with _ | _
          · skip
            rcases h5 : ((r : Int) == m8) with _ | _
            · skip
              have HF := hide (show linZ n r c = -1 by rw [HLB.out]; simp [h1, h2, h3, h5])
              go_wp2_with fail
              go_ret
              exact ⟨ret_int (by rw [HLL.out, HF.out]), HB.out⟩
            · rcases h6 : ((c : Int) == 8) with _ | _
              · skip
                have HF := hide (show linZ n r c = -1 by rw [HLB.out]; simp [h1, h2, h3, h5, h6])
                go_wp2_with fail
                go_ret
                exact ⟨ret_int (by rw [HLL.out, HF.out]), HB.out⟩
              · skip
                have HF := hide (show linZ n r c = 1 by rw [HLB.out]; simp [h1, h2, h3, h5, h6])
                go_wp2_with fail
                go_ret
                exact ⟨ret_int (by rw [HLL.out, HF.out]), HB.out⟩
          · rcases h4 : inR r 8 m9 with _ | _
            · have HI2 := hide (fun w' => specIn_is (r : Int) 8 m9 false w' h4)
              go_wp2_with fail
              refine (HI2.out _).mono ?_
              rintro e _ ⟨rfl, rfl⟩
              rcases h5 : ((r : Int) == m8) with _ | _
              · skip
                have HF := hide (show linZ n r c = -1 by rw [HLB.out]; simp [h1, h2, h3, h4, h5])
                go_wp2_with fail
                go_ret
                exact ⟨ret_int (by rw [HLL.out, HF.out]), HB.out⟩
              · rcases h6 : ((c : Int) == 8) with _ | _
                · skip
                  have HF := hide (show linZ n r c = -1 by rw [HLB.out]; simp [h1, h2, h3, h4, h5, h6])
                  go_wp2_with fail
                  go_ret
                  exact ⟨ret_int (by rw [HLL.out, HF.out]), HB.out⟩
                · skip
                  have HF := hide (show linZ n r c = 1 by rw [HLB.out]; simp [h1, h2, h3, h4, h5, h6])
                  go_wp2_with fail
                  go_ret
                  exact ⟨ret_int (by rw [HLL.out, HF.out]), HB.out⟩
            · have HI2 := hide (fun w' => specIn_is (r : Int) 8 m9 true w' h4)
              go_wp2_with fail
              refine (HI2.out _).mono ?_
              rintro e _ ⟨rfl, rfl⟩
              have HF := hide (show linZ n r c = 1 - (yr : Int) by rw [HLB.out]; simp [h1, h2, h3, h4])
              go_wp2_with fail
              go_ret
              exact ⟨ret_int (by rw [HLL.out, HF.out]), HB.out⟩
        · have HI1 := hide (fun w' => specIn_is (c : Int) 8 m9 true w' h2)
          go_wp2_with fail
          refine (HI1.out _).mono ?_
          rintro e _ ⟨rfl, rfl⟩
          have HF := hide (show linZ n r c = 1 - (yc : Int) by rw [HLB.out]; simp [h1, h2])
          go_wp2_with fail
          go_ret
          exact ⟨ret_int (by rw [HLL.out, HF.out]), HB.out⟩
-- END FIXED
end Go.Proofs.YtncgeoliboidhaaGreat
