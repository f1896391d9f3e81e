/-
  What IsSatisfied returns, of the model (names with S) and of the program (names with I).
  Condition: lists shorter than 2^20.
-/
import Derived.Test.YtdniocdmncldjaaRBoth1
namespace Go.Proofs.Ytdniocdmncldjaa
open Go.RowKit
set_option linter.unusedSimpArgs false
set_option linter.unusedVariables false

/-- A function of a field, two lists and a number: its contract, whatever the lists' memory. -/
def C2i (f : Nat) (p k g : Int) (z z' : List Int) (x : Int) (Post : World → Ending → World → Prop) : Prop :=
  ∀ (A : Option Addr) (n c : Nat) (A' : Option Addr) (n' c' B : Nat) (w : World), Ints .i64 w B A n z → Ints .i64 w B A' n' z' → B ≤ w.heap.size → Calls Try.prog f #[.agg #[.int .i64 p, .int .i64 k, .int .i64 g], .slice A n c, .slice A' n' c', .int .i64 x] w (Post w)
section
variable {R : Fld} {p k g : Int}
/-- Whether a sequence satisfies a polynomial with a length. -/
def satB (C s : List (El R)) (L : Nat) : Bool := decide (C.length ≤ L + 1) && (List.range s.length).all fun k => decide (k < L ∨ ps (cf C) (cf s) k = 0)
theorem satB_far {C s : List (El R)} {L : Nat} (h : L + 1 < C.length) : satB C s L = false := by rw [satB, decide_eq_false (by omega)]; rfl
theorem satB_bad {C s : List (El R)} {L k : Nat} (h1 : L ≤ k) (h2 : k < s.length) (h : ps (cf C) (cf s) k ≠ 0) : satB C s L = false := by
  rw [satB, Bool.and_eq_false_iff]
  right
  rw [List.all_eq_false]
  exact ⟨k, List.mem_range.2 h2, by rw [decide_eq_true_eq]; rintro (h3 | h3); omega; exact h h3⟩
theorem satB_all {C s : List (El R)} {L : Nat} (h : C.length ≤ L + 1) (ha : ∀ k, L ≤ k → k < s.length → ps (cf C) (cf s) k = 0) : satB C s L = true := by
  rw [satB, decide_eq_true h, Bool.true_and, List.all_eq_true]
  intro k hk
  rw [decide_eq_true_eq]
  rcases Nat.lt_or_ge k L with h1 | h1
  · exact .inl h1
  · exact .inr (ha k h1 (List.mem_range.1 hk))
def SbRel (w : World) (p k g : Int) (L M : Nat) (C s : List (El R)) (i : Value) (wr : World) : Prop :=
  ∃ j : Nat, i = .int .i64 j ∧ L ≤ j ∧ j ≤ M ∧ Hid (∀ t, L ≤ t → t < j → ps (cf C) (cf s) t = 0) ∧ Box w wr 25 p k g
theorem sum_val {x : El R} : ((x.val : Int) != 0) = !decide (x = 0) := by
  by_cases h : x = 0
  · subst h; rfl
  · have := val_ne h
    simp [h]; omega

set_option maxHeartbeats 4000000 in
theorem implSatBy (h : FldIs R p k g) (C s : List (El R)) (L : Nat) (A A' : Option Addr) (n c m c' B : Nat) (w : World) (hI : Ints .i64 w B A n (iv C)) (hJ : Ints .i64 w B A' m (iv s)) (hB : B ≤ w.heap.size) (hL : L ≤ 64) (hn : n ≤ 512) (hn0 : 0 < n) (hm : m ≤ 64) :
    Calls Try.prog 44 #[.slice A n c, .agg #[.int .i64 p, .int .i64 k, .int .i64 g], .slice A' m c', .int .i64 L] w (Gives (.bool (satB C s L)) w) := by
  have HX := hide (Box.start w 25 p k g)
  have hcn : C.length = n := by rw [← iv_len]; exact hI.len
  have hsm : s.length = m := by rw [← iv_len]; exact hJ.len
  have HI := hide hI
  have HJ := hide hJ
  have HCN := hide hcn
  have HSM := hide hsm
  clear hI hJ hcn hsm
  by_cases hnL : n ≤ L + 1
  · have z1 : decide ((L : Int) < (n : Int) - 1) = false := by rw [decide_eq_false_iff_not]; omega
    go_enter Try.func44, Try.ntmps44
    go_wp2_with fail
    go_loopw [9] (fun i wr => SbRel w p k g L (max L m) C s i wr) (fun i _ => m - (intOf i).toNat)
    case atStart => exact ⟨L, rfl, Nat.le_refl _, Nat.le_max_left _ _, fun t h1 h2 => by omega, HX.out⟩
    case round =>
      clear HX
      obtain ⟨j, rfl, hLj, hjM, HA, HX⟩ := hrel
      have HX := hide HX
      have hj64 : j ≤ 64 := by omega
      obtain ⟨c0, c1, c2⟩ := HX.out.cells
      by_cases hlt : j < m
      · obtain ⟨d, hd⟩ : ∃ d, ps (cf C) (cf s) j = d := ⟨_, rfl⟩
        have HD := hide hd
        clear hd
        go_wp2_with fail
        refine (implSumAt h C s j A A' n c m c' B _ (HI.out.below (HX.out.2.mono hB)) (HJ.out.below (HX.out.2.mono hB)) (Nat.le_trans hB (Nat.le_of_lt HX.out.lt)) hlt (by omega) (by omega)).mono ?_
        rw [HD.out]
        rintro e w2 ⟨rfl, hb⟩
        have HX2 := hide (HX.out.next hb)
        clear hb c0 c1 c2
        have hz := sum_val (x := d)
        by_cases hd0 : d = 0
        · have HN := hide (show ∀ t, L ≤ t → t < j + 1 → ps (cf C) (cf s) t = 0 from fun t h1 h2 => by
            rcases Nat.lt_or_ge t j with h3 | h3
            · exact HA.out t h1 h3
            · obtain rfl : t = j := by omega
              rw [HD.out]; exact hd0)
          rw [decide_eq_true hd0] at hz
          simp only [Bool.not_true] at hz
          clear hd0
          go_wp2_with fail
          go_roundw
          case rel => exact ⟨j + 1, by go_num, by omega, by omega, HN.out, HX2.out⟩
          case measure => simp [intOf]; omega
        · have HF := hide (show satB C s L = false from satB_bad hLj (by rw [HSM.out]; exact hlt) (by rw [HD.out]; exact hd0))
          rw [decide_eq_false hd0] at hz
          simp only [Bool.not_false] at hz
          clear hd0
          go_wp2_with fail
          go_ret
          exact ⟨ret_bool HF.out, HX2.out.2⟩
      · have HF := hide (show satB C s L = true from satB_all (by rw [HCN.out]; exact hnL) fun t h1 h2 => HA.out t h1 (by rw [HSM.out] at h2; omega))
        go_wp2_with fail
        go_ret
        exact ⟨ret_bool HF.out, HX.out.2⟩
  · have z1 : decide ((L : Int) < (n : Int) - 1) = true := by rw [decide_eq_true_eq]; omega
    have HF := hide (show satB C s L = false from satB_far (by rw [HCN.out]; omega))
    go_enter Try.func44, Try.ntmps44
    go_wp2_with fail
    go_ret
    exact ⟨ret_bool HF.out, HX.out.2⟩

set_option maxHeartbeats 4000000 in
theorem is_badS (z z' : List Int) (x : Int) (hz : z.length ≤ 1048576) (hz' : z'.length ≤ 1048576) {cd : Int} (h : sqErr p k g z = cd) (hne : (cd != 0) = true) : C2i 25 p k g z z' x (Gives (.bool false)) := by
  intro A n c A' n' c' B w hI hJ hB
  have HX := hide (Box.start w 25 p k g)
  have hn : n ≤ 1048576 := by rw [← hI.len]; exact hz
  have hn' : n' ≤ 1048576 := by rw [← hJ.len]; exact hz'
  have HE := hide h
  have HI := hide hI
  have HJ := hide hJ
  clear hI hJ h
  obtain ⟨c0, c1, c2⟩ := HX.out.cells
  go_enter Try.func25, Try.ntmps25
  go_wp2_with fail
  refine (specSqErr p k g A n c B z _ (HI.out.below (HX.out.2.mono hB)) (Nat.le_trans hB (Nat.le_of_lt HX.out.lt)) (by omega)).mono ?_
  rw [HE.out]
  rintro e w1 ⟨rfl, hb⟩
  have HX1 := hide (HX.out.next hb)
  clear hb c0 c1 c2
  obtain ⟨c0, c1, c2⟩ := HX1.out.cells
  go_wp2_with fail
  go_ret
  exact ⟨rfl, HX1.out.2⟩

set_option maxHeartbeats 4000000 in
theorem is_badI (z z' : List Int) (x : Int) (hz : z.length ≤ 1048576) (hz' : z'.length ≤ 1048576) {cd : Int} (h : sqErr p k g z = cd) (hne : (cd != 0) = true) : C2i 17 p k g z z' x (Gives (.bool false)) := by
  intro A n c A' n' c' B w hI hJ hB
  have HX := hide (Box.start w 25 p k g)
  have hn : n ≤ 1048576 := by rw [← hI.len]; exact hz
  have hn' : n' ≤ 1048576 := by rw [← hJ.len]; exact hz'
  have HE := hide h
  have HI := hide hI
  have HJ := hide hJ
  clear hI hJ h
  obtain ⟨c0, c1, c2⟩ := HX.out.cells
  go_enter Try.func17, Try.ntmps17
  go_wp2_with fail
  refine (implSqErr p k g A n c B z _ (HI.out.below (HX.out.2.mono hB)) (Nat.le_trans hB (Nat.le_of_lt HX.out.lt)) (by omega)).mono ?_
  rw [HE.out]
  rintro e w1 ⟨rfl, hb⟩
  have HX1 := hide (HX.out.next hb)
  clear hb c0 c1 c2
  obtain ⟨c0, c1, c2⟩ := HX1.out.cells
  go_wp2_with fail
  go_ret
  exact ⟨rfl, HX1.out.2⟩

set_option maxHeartbeats 4000000 in
theorem is_rngI (z z' : List Int) (x : Int) (hz : z.length ≤ 1048576) (hz' : z'.length ≤ 1048576) (h : sqErr p k g z = 0) (hx : x < 0 ∨ 64 < x) : C2i 17 p k g z z' x (Gives (.bool false)) := by
  intro A n c A' n' c' B w hI hJ hB
  have HX := hide (Box.start w 25 p k g)
  have hn : n ≤ 1048576 := by rw [← hI.len]; exact hz
  have hn' : n' ≤ 1048576 := by rw [← hJ.len]; exact hz'
  have HE := hide h
  have HI := hide hI
  have HJ := hide hJ
  clear hI hJ h
  obtain ⟨c0, c1, c2⟩ := HX.out.cells
  have z0 : x < 0 ∨ ¬ x < 0 := by omega
  rcases z0 with z0 | z0
  · have z1 : decide (x < 0) = true := by rw [decide_eq_true_eq]; exact z0
    go_enter Try.func17, Try.ntmps17
    go_wp2_with fail
    refine (implSqErr p k g A n c B z _ (HI.out.below (HX.out.2.mono hB)) (Nat.le_trans hB (Nat.le_of_lt HX.out.lt)) (by omega)).mono ?_
    rw [HE.out]
    rintro e w1 ⟨rfl, hb⟩
    have HX1 := hide (HX.out.next hb)
    clear hb c0 c1 c2
    obtain ⟨c0, c1, c2⟩ := HX1.out.cells
    go_wp2_with fail
    go_ret
    exact ⟨rfl, HX1.out.2⟩
  · have z1 : decide (x < 0) = false := by rw [decide_eq_false_iff_not]; exact z0
    have z2 : decide (64 < x) = true := by rw [decide_eq_true_eq]; omega
    go_enter Try.func17, Try.ntmps17
    go_wp2_with fail
    refine (implSqErr p k g A n c B z _ (HI.out.below (HX.out.2.mono hB)) (Nat.le_trans hB (Nat.le_of_lt HX.out.lt)) (by omega)).mono ?_
    rw [HE.out]
    rintro e w1 ⟨rfl, hb⟩
    have HX1 := hide (HX.out.next hb)
    clear hb c0 c1 c2
    obtain ⟨c0, c1, c2⟩ := HX1.out.cells
    go_wp2_with fail
    go_ret
    exact ⟨rfl, HX1.out.2⟩

set_option maxHeartbeats 4000000 in
theorem is_polI (z z' : List Int) (x : Int) (hz : z.length ≤ 1048576) (hz' : z'.length ≤ 1048576) (h : sqErr p k g z = 0) (hx : 0 ≤ x ∧ x ≤ 64) {q : Nat} {mul : Nat → Nat → Nat} (hK : Kd p k g q mul) (hp : polyB q z' = false) : C2i 17 p k g z z' x (Gives (.bool false)) := by
  intro A n c A' n' c' B w hI hJ hB
  have HX := hide (Box.start w 25 p k g)
  have hn : n ≤ 1048576 := by rw [← hI.len]; exact hz
  have hn' : n' ≤ 1048576 := by rw [← hJ.len]; exact hz'
  have HE := hide h
  have HI := hide hI
  have HJ := hide hJ
  clear hI hJ h
  have HP := hide hp
  clear hp
  have z1 : decide (x < 0) = false := by rw [decide_eq_false_iff_not]; omega
  have z2 : decide (64 < x) = false := by rw [decide_eq_false_iff_not]; omega
  obtain ⟨c0, c1, c2⟩ := HX.out.cells
  go_enter Try.func17, Try.ntmps17
  go_wp2_with fail
  refine (implSqErr p k g A n c B z _ (HI.out.below (HX.out.2.mono hB)) (Nat.le_trans hB (Nat.le_of_lt HX.out.lt)) (by omega)).mono ?_
  rw [HE.out]
  rintro e w1 ⟨rfl, hb⟩
  have HX1 := hide (HX.out.next hb)
  clear hb c0 c1 c2
  obtain ⟨c0, c1, c2⟩ := HX1.out.cells
  go_wp2_with fail
  refine (implIsOver hK A' n' c' B z' _ (HJ.out.below (HX1.out.2.mono hB)) (Nat.le_trans hB (Nat.le_of_lt HX1.out.lt)) (by omega)).mono ?_
  rw [HP.out]
  rintro e w2 ⟨rfl, hb⟩
  have HX2 := hide (HX1.out.next hb)
  clear hb c0 c1 c2
  obtain ⟨c0, c1, c2⟩ := HX2.out.cells
  go_wp2_with fail
  go_ret
  exact ⟨rfl, HX2.out.2⟩

set_option maxHeartbeats 4000000 in
theorem is_nilI (z z' : List Int) (x : Int) (hz : z.length ≤ 1048576) (hz' : z'.length ≤ 1048576) (h : sqErr p k g z = 0) (hx : 0 ≤ x ∧ x ≤ 64) {q : Nat} {mul : Nat → Nat → Nat} (hK : Kd p k g q mul) (hp : polyB q z' = true) (h0 : z'.length = 0) : C2i 17 p k g z z' x (Gives (.bool false)) := by
  intro A n c A' n' c' B w hI hJ hB
  have HX := hide (Box.start w 25 p k g)
  have hn : n ≤ 1048576 := by rw [← hI.len]; exact hz
  have hn' : n' ≤ 1048576 := by rw [← hJ.len]; exact hz'
  have HE := hide h
  have HI := hide hI
  have HJ := hide hJ
  clear hI hJ h
  have HP := hide hp
  clear hp
  have z1 : decide (x < 0) = false := by rw [decide_eq_false_iff_not]; omega
  have z2 : decide (64 < x) = false := by rw [decide_eq_false_iff_not]; omega
  obtain rfl : n' = 0 := by rw [← HJ.out.len]; exact h0
  obtain ⟨c0, c1, c2⟩ := HX.out.cells
  go_enter Try.func17, Try.ntmps17
  go_wp2_with fail
  refine (implSqErr p k g A n c B z _ (HI.out.below (HX.out.2.mono hB)) (Nat.le_trans hB (Nat.le_of_lt HX.out.lt)) (by omega)).mono ?_
  rw [HE.out]
  rintro e w1 ⟨rfl, hb⟩
  have HX1 := hide (HX.out.next hb)
  clear hb c0 c1 c2
  obtain ⟨c0, c1, c2⟩ := HX1.out.cells
  go_wp2_with fail
  refine (implIsOver hK A' 0 c' B z' _ (HJ.out.below (HX1.out.2.mono hB)) (Nat.le_trans hB (Nat.le_of_lt HX1.out.lt)) (by omega)).mono ?_
  rw [HP.out]
  rintro e w2 ⟨rfl, hb⟩
  have HX2 := hide (HX1.out.next hb)
  clear hb c0 c1 c2
  obtain ⟨c0, c1, c2⟩ := HX2.out.cells
  go_wp2_with fail
  go_ret
  exact ⟨rfl, HX2.out.2⟩

set_option maxHeartbeats 4000000 in
theorem is_oneI (z z' : List Int) (x : Int) (hz : z.length ≤ 1048576) (hz' : z'.length ≤ 1048576) (h : sqErr p k g z = 0) (hx : 0 ≤ x ∧ x ≤ 64) {q : Nat} {mul : Nat → Nat → Nat} (hK : Kd p k g q mul) (hp : polyB q z' = true) {y : Int} (h1 : z'[0]? = some y) (hy1 : y ≠ 1) : C2i 17 p k g z z' x (Gives (.bool false)) := by
  intro A n c A' n' c' B w hI hJ hB
  have HX := hide (Box.start w 25 p k g)
  have hn : n ≤ 1048576 := by rw [← hI.len]; exact hz
  have hn' : n' ≤ 1048576 := by rw [← hJ.len]; exact hz'
  have HE := hide h
  have HI := hide hI
  have HJ := hide hJ
  clear hI hJ h
  have HP := hide hp
  clear hp
  have z1 : decide (x < 0) = false := by rw [decide_eq_false_iff_not]; omega
  have z2 : decide (64 < x) = false := by rw [decide_eq_false_iff_not]; omega
  have hn0 : 0 < n' := by
    rw [← HJ.out.len]
    exact (List.getElem?_eq_some_iff.1 h1).1
  obtain ⟨b', off', y', rfl, hb', hy, _⟩ := HJ.out.at_ hn0
  rw [h1] at hy
  simp only [Option.some.injEq] at hy
  subst hy
  have e1 : ((n' : Int) == 0) = false := by simp; omega
  have H1 := hide h1
  have e2 : (y != 1) = true := by simp [hy1]
  clear h1
  obtain ⟨c0, c1, c2⟩ := HX.out.cells
  go_enter Try.func17, Try.ntmps17
  go_wp2_with fail
  refine (implSqErr p k g A n c B z _ (HI.out.below (HX.out.2.mono hB)) (Nat.le_trans hB (Nat.le_of_lt HX.out.lt)) (by omega)).mono ?_
  rw [HE.out]
  rintro e w1 ⟨rfl, hb⟩
  have HX1 := hide (HX.out.next hb)
  clear hb c0 c1 c2
  obtain ⟨c0, c1, c2⟩ := HX1.out.cells
  go_wp2_with fail
  refine (implIsOver hK (some ⟨b', off', none⟩) n' c' B z' _ (HJ.out.below (HX1.out.2.mono hB)) (Nat.le_trans hB (Nat.le_of_lt HX1.out.lt)) (by omega)).mono ?_
  rw [HP.out]
  rintro e w2 ⟨rfl, hb⟩
  have HX2 := hide (HX1.out.next hb)
  clear hb c0 c1 c2
  obtain ⟨c0, c1, c2⟩ := HX2.out.cells
  have hcy : w2.cell? ⟨b', off', none⟩ = some (.int .i64 y) := by
    obtain ⟨b2, o2, y2, he, _, hy2, hc2⟩ := (HJ.out.below (HX2.out.2.mono hB)).at_ hn0
    simp only [Option.some.injEq, Addr.mk.injEq, and_true] at he
    obtain ⟨rfl, rfl⟩ := he
    rw [H1.out] at hy2
    simp only [Option.some.injEq] at hy2
    subst hy2
    exact hc2
  go_wp2_with fail
  go_ret
  exact ⟨rfl, HX2.out.2⟩

set_option maxHeartbeats 4000000 in
theorem is_polS (z z' : List Int) (x : Int) (hz : z.length ≤ 1048576) (hz' : z'.length ≤ 1048576) (h : sqErr p k g z = 0) {q : Nat} {mul : Nat → Nat → Nat} (hK : Kd p k g q mul) (hp : polyB q z' = false) : C2i 25 p k g z z' x (Gives (.bool false)) := by
  intro A n c A' n' c' B w hI hJ hB
  have HX := hide (Box.start w 25 p k g)
  have hn : n ≤ 1048576 := by rw [← hI.len]; exact hz
  have hn' : n' ≤ 1048576 := by rw [← hJ.len]; exact hz'
  have HE := hide h
  have HI := hide hI
  have HJ := hide hJ
  clear hI hJ h
  have HP := hide hp
  clear hp
  obtain ⟨c0, c1, c2⟩ := HX.out.cells
  go_enter Try.func25, Try.ntmps25
  go_wp2_with fail
  refine (specSqErr p k g A n c B z _ (HI.out.below (HX.out.2.mono hB)) (Nat.le_trans hB (Nat.le_of_lt HX.out.lt)) (by omega)).mono ?_
  rw [HE.out]
  rintro e w1 ⟨rfl, hb⟩
  have HX1 := hide (HX.out.next hb)
  clear hb c0 c1 c2
  obtain ⟨c0, c1, c2⟩ := HX1.out.cells
  go_wp2_with fail
  refine (specL3Is hK A' n' c' B z' _ (HJ.out.below (HX1.out.2.mono hB)) (Nat.le_trans hB (Nat.le_of_lt HX1.out.lt)) (by omega)).mono ?_
  rw [HP.out]
  rintro e w2 ⟨rfl, hb⟩
  have HX2 := hide (HX1.out.next hb)
  clear hb c0 c1 c2
  obtain ⟨c0, c1, c2⟩ := HX2.out.cells
  go_wp2_with fail
  go_ret
  exact ⟨rfl, HX2.out.2⟩

set_option maxHeartbeats 4000000 in
theorem is_nilS (z z' : List Int) (x : Int) (hz : z.length ≤ 1048576) (hz' : z'.length ≤ 1048576) (h : sqErr p k g z = 0) {q : Nat} {mul : Nat → Nat → Nat} (hK : Kd p k g q mul) (hp : polyB q z' = true) (h0 : z'.length = 0) : C2i 25 p k g z z' x (Gives (.bool false)) := by
  intro A n c A' n' c' B w hI hJ hB
  have HX := hide (Box.start w 25 p k g)
  have hn : n ≤ 1048576 := by rw [← hI.len]; exact hz
  have hn' : n' ≤ 1048576 := by rw [← hJ.len]; exact hz'
  have HE := hide h
  have HI := hide hI
  have HJ := hide hJ
  clear hI hJ h
  have HP := hide hp
  clear hp
  obtain rfl : n' = 0 := by rw [← HJ.out.len]; exact h0
  obtain ⟨c0, c1, c2⟩ := HX.out.cells
  go_enter Try.func25, Try.ntmps25
  go_wp2_with fail
  refine (specSqErr p k g A n c B z _ (HI.out.below (HX.out.2.mono hB)) (Nat.le_trans hB (Nat.le_of_lt HX.out.lt)) (by omega)).mono ?_
  rw [HE.out]
  rintro e w1 ⟨rfl, hb⟩
  have HX1 := hide (HX.out.next hb)
  clear hb c0 c1 c2
  obtain ⟨c0, c1, c2⟩ := HX1.out.cells
  go_wp2_with fail
  refine (specL3Is hK A' 0 c' B z' _ (HJ.out.below (HX1.out.2.mono hB)) (Nat.le_trans hB (Nat.le_of_lt HX1.out.lt)) (by omega)).mono ?_
  rw [HP.out]
  rintro e w2 ⟨rfl, hb⟩
  have HX2 := hide (HX1.out.next hb)
  clear hb c0 c1 c2
  obtain ⟨c0, c1, c2⟩ := HX2.out.cells
  go_wp2_with fail
  go_ret
  exact ⟨rfl, HX2.out.2⟩

set_option maxHeartbeats 4000000 in
theorem is_oneS (z z' : List Int) (x : Int) (hz : z.length ≤ 1048576) (hz' : z'.length ≤ 1048576) (h : sqErr p k g z = 0) {q : Nat} {mul : Nat → Nat → Nat} (hK : Kd p k g q mul) (hp : polyB q z' = true) {y : Int} (h1 : z'[0]? = some y) (hy1 : y ≠ 1) : C2i 25 p k g z z' x (Gives (.bool false)) := by
  intro A n c A' n' c' B w hI hJ hB
  have HX := hide (Box.start w 25 p k g)
  have hn : n ≤ 1048576 := by rw [← hI.len]; exact hz
  have hn' : n' ≤ 1048576 := by rw [← hJ.len]; exact hz'
  have HE := hide h
  have HI := hide hI
  have HJ := hide hJ
  clear hI hJ h
  have HP := hide hp
  clear hp
  have hn0 : 0 < n' := by
    rw [← HJ.out.len]
    exact (List.getElem?_eq_some_iff.1 h1).1
  obtain ⟨b', off', y', rfl, hb', hy, _⟩ := HJ.out.at_ hn0
  rw [h1] at hy
  simp only [Option.some.injEq] at hy
  subst hy
  have e1 : ((n' : Int) == 0) = false := by simp; omega
  have H1 := hide h1
  have e2 : (y != 1) = true := by simp [hy1]
  clear h1
  obtain ⟨c0, c1, c2⟩ := HX.out.cells
  go_enter Try.func25, Try.ntmps25
  go_wp2_with fail
  refine (specSqErr p k g A n c B z _ (HI.out.below (HX.out.2.mono hB)) (Nat.le_trans hB (Nat.le_of_lt HX.out.lt)) (by omega)).mono ?_
  rw [HE.out]
  rintro e w1 ⟨rfl, hb⟩
  have HX1 := hide (HX.out.next hb)
  clear hb c0 c1 c2
  obtain ⟨c0, c1, c2⟩ := HX1.out.cells
  go_wp2_with fail
  refine (specL3Is hK (some ⟨b', off', none⟩) n' c' B z' _ (HJ.out.below (HX1.out.2.mono hB)) (Nat.le_trans hB (Nat.le_of_lt HX1.out.lt)) (by omega)).mono ?_
  rw [HP.out]
  rintro e w2 ⟨rfl, hb⟩
  have HX2 := hide (HX1.out.next hb)
  clear hb c0 c1 c2
  obtain ⟨c0, c1, c2⟩ := HX2.out.cells
  have hcy : w2.cell? ⟨b', off', none⟩ = some (.int .i64 y) := by
    obtain ⟨b2, o2, y2, he, _, hy2, hc2⟩ := (HJ.out.below (HX2.out.2.mono hB)).at_ hn0
    simp only [Option.some.injEq, Addr.mk.injEq, and_true] at he
    obtain ⟨rfl, rfl⟩ := he
    rw [H1.out] at hy2
    simp only [Option.some.injEq] at hy2
    subst hy2
    exact hc2
  go_wp2_with fail
  go_ret
  exact ⟨rfl, HX2.out.2⟩

set_option maxHeartbeats 4000000 in
theorem is_rngS (z z' : List Int) (x : Int) (hz : z.length ≤ 1048576) (hz' : z'.length ≤ 1048576) (h : sqErr p k g z = 0) {q : Nat} {mul : Nat → Nat → Nat} (hK : Kd p k g q mul) (hp : polyB q z' = true) (h1 : z'[0]? = some 1) (hx : x < 0 ∨ 64 < x) : C2i 25 p k g z z' x (Gives (.bool false)) := by
  intro A n c A' n' c' B w hI hJ hB
  have HX := hide (Box.start w 25 p k g)
  have hn : n ≤ 1048576 := by rw [← hI.len]; exact hz
  have hn' : n' ≤ 1048576 := by rw [← hJ.len]; exact hz'
  have HE := hide h
  have HI := hide hI
  have HJ := hide hJ
  clear hI hJ h
  have HP := hide hp
  clear hp
  have hn0 : 0 < n' := by
    rw [← HJ.out.len]
    exact (List.getElem?_eq_some_iff.1 h1).1
  obtain ⟨b', off', y', rfl, hb', hy, _⟩ := HJ.out.at_ hn0
  rw [h1] at hy
  simp only [Option.some.injEq] at hy
  subst hy
  have e1 : ((n' : Int) == 0) = false := by simp; omega
  have H1 := hide h1
  have HR := hide (show inR x 0 64 = false by rw [inR, decide_eq_false_iff_not]; omega)
  clear h1
  obtain ⟨c0, c1, c2⟩ := HX.out.cells
  go_enter Try.func25, Try.ntmps25
  go_wp2_with fail
  refine (specSqErr p k g A n c B z _ (HI.out.below (HX.out.2.mono hB)) (Nat.le_trans hB (Nat.le_of_lt HX.out.lt)) (by omega)).mono ?_
  rw [HE.out]
  rintro e w1 ⟨rfl, hb⟩
  have HX1 := hide (HX.out.next hb)
  clear hb c0 c1 c2
  obtain ⟨c0, c1, c2⟩ := HX1.out.cells
  go_wp2_with fail
  refine (specL3Is hK (some ⟨b', off', none⟩) n' c' B z' _ (HJ.out.below (HX1.out.2.mono hB)) (Nat.le_trans hB (Nat.le_of_lt HX1.out.lt)) (by omega)).mono ?_
  rw [HP.out]
  rintro e w2 ⟨rfl, hb⟩
  have HX2 := hide (HX1.out.next hb)
  clear hb c0 c1 c2
  obtain ⟨c0, c1, c2⟩ := HX2.out.cells
  have hcy : w2.cell? ⟨b', off', none⟩ = some (.int .i64 1) := by
    obtain ⟨b2, o2, y2, he, _, hy2, hc2⟩ := (HJ.out.below (HX2.out.2.mono hB)).at_ hn0
    simp only [Option.some.injEq, Addr.mk.injEq, and_true] at he
    obtain ⟨rfl, rfl⟩ := he
    rw [H1.out] at hy2
    simp only [Option.some.injEq] at hy2
    subst hy2
    exact hc2
  go_wp2_with fail
  refine (specIn_is x 0 64 false _ HR.out).mono ?_
  rintro e w3 ⟨rfl, rfl⟩
  go_wp2_with fail
  go_ret
  exact ⟨rfl, HX2.out.2⟩

set_option maxHeartbeats 8000000 in
theorem is_valI (h : FldIs R p k g) (s : List (El R)) (hs : s.length ≤ 64) (hE : sqErr p k g (iv s) = 0) (C : List (El R)) (hC : Tr C) (hCl : C.length ≤ 512) (hC1 : cf C 0 = 1) (L : Nat) (hL : L ≤ 64) : C2i 17 p k g (iv s) (iv C) (L : Nat) (Gives (.bool (satB C s L))) := by
  have hC0 : 0 < C.length := by
    refine Nat.pos_of_ne_zero fun h => e10 (R := R) ?_
    rw [← hC1, cf_out (by omega)]
  have h1 : (iv C)[0]? = some 1 := by rw [iv_at hC0, hC1]; rfl
  have hp : polyB R.q (iv C) = true := poly_shut hC hCl
  intro A n c A' n' c' B w hI hJ hB
  have HX := hide (Box.start w 25 p k g)
  have hn : n ≤ 64 := by rw [← hI.len, iv_len]; exact hs
  have hn' : n' ≤ 512 := by rw [← hJ.len, iv_len]; exact hCl
  have HE := hide hE
  have HI := hide hI
  have HJ := hide hJ
  clear hI hJ hE
  have HP := hide hp
  clear hp
  have z1 : decide ((L : Int) < 0) = false := by rw [decide_eq_false_iff_not]; omega
  have z2 : decide ((64 : Int) < (L : Int)) = false := by rw [decide_eq_false_iff_not]; omega
  have hn0 : 0 < n' := by
    rw [← HJ.out.len]
    exact (List.getElem?_eq_some_iff.1 h1).1
  obtain ⟨b', off', y', rfl, hb', hy, _⟩ := HJ.out.at_ hn0
  rw [h1] at hy
  simp only [Option.some.injEq] at hy
  subst hy
  have e1 : ((n' : Int) == 0) = false := by simp; omega
  have H1 := hide h1
  clear h1
  obtain ⟨c0, c1, c2⟩ := HX.out.cells
  go_enter Try.func17, Try.ntmps17
  go_wp2_with fail
  refine (implSqErr p k g A n c B (iv s) _ (HI.out.below (HX.out.2.mono hB)) (Nat.le_trans hB (Nat.le_of_lt HX.out.lt)) (by omega)).mono ?_
  rw [HE.out]
  rintro e w1 ⟨rfl, hb⟩
  have HX1 := hide (HX.out.next hb)
  clear hb c0 c1 c2
  obtain ⟨c0, c1, c2⟩ := HX1.out.cells
  go_wp2_with fail
  refine (implIsOver h.kind (some ⟨b', off', none⟩) n' c' B (iv C) _ (HJ.out.below (HX1.out.2.mono hB)) (Nat.le_trans hB (Nat.le_of_lt HX1.out.lt)) (by omega)).mono ?_
  rw [HP.out]
  rintro e w2 ⟨rfl, hb⟩
  have HX2 := hide (HX1.out.next hb)
  clear hb c0 c1 c2
  obtain ⟨c0, c1, c2⟩ := HX2.out.cells
  have hcy : w2.cell? ⟨b', off', none⟩ = some (.int .i64 1) := by
    obtain ⟨b2, o2, y2, he, _, hy2, hc2⟩ := (HJ.out.below (HX2.out.2.mono hB)).at_ hn0
    simp only [Option.some.injEq, Addr.mk.injEq, and_true] at he
    obtain ⟨rfl, rfl⟩ := he
    rw [H1.out] at hy2
    simp only [Option.some.injEq] at hy2
    subst hy2
    exact hc2
  go_wp2_with fail
  refine (implSatBy h C s L (some ⟨b', off', none⟩) A n' c' n c B _ (HJ.out.below (HX2.out.2.mono hB)) (HI.out.below (HX2.out.2.mono hB)) (Nat.le_trans hB (Nat.le_of_lt HX2.out.lt)) hL hn' hn0 hn).mono ?_
  rintro e w3 ⟨rfl, hb⟩
  have HX3 := hide (HX2.out.next hb)
  clear hb c0 c1 c2
  go_wp2_with fail
  go_ret
  exact ⟨rfl, HX3.out.2⟩

set_option maxHeartbeats 8000000 in
theorem is_valS (h : FldIs R p k g) (s : List (El R)) (hs : s.length ≤ 64) (hE : sqErr p k g (iv s) = 0) (C : List (El R)) (hC : Tr C) (hCl : C.length ≤ 512) (hC1 : cf C 0 = 1) (L : Nat) (hL : L ≤ 64) : C2i 25 p k g (iv s) (iv C) (L : Nat) (Gives (.bool (satB C s L))) := by
  have hC0 : 0 < C.length := by
    refine Nat.pos_of_ne_zero fun h => e10 (R := R) ?_
    rw [← hC1, cf_out (by omega)]
  have h1 : (iv C)[0]? = some 1 := by rw [iv_at hC0, hC1]; rfl
  have hp : polyB R.q (iv C) = true := poly_shut hC hCl
  intro A n c A' n' c' B w hI hJ hB
  have HX := hide (Box.start w 25 p k g)
  obtain ⟨m, rfl⟩ : ∃ m, m = n := ⟨_, rfl⟩
  have hn : m ≤ 64 := by rw [← hI.len, iv_len]; exact hs
  have hn' : n' ≤ 512 := by rw [← hJ.len, iv_len]; exact hCl
  have HE := hide hE
  have HSM := hide (show s.length = m by rw [← iv_len]; exact hI.len)
  have HCN := hide (show C.length = n' by rw [← iv_len]; exact hJ.len)
  have HI := hide hI
  have HJ := hide hJ
  clear hI hJ hE
  have HP := hide hp
  clear hp
  have hn0 : 0 < n' := by
    rw [← HJ.out.len]
    exact (List.getElem?_eq_some_iff.1 h1).1
  obtain ⟨b', off', y', rfl, hb', hy, _⟩ := HJ.out.at_ hn0
  rw [h1] at hy
  simp only [Option.some.injEq] at hy
  subst hy
  have e1 : ((n' : Int) == 0) = false := by simp; omega
  have H1 := hide h1
  have HR := hide (show inR (L : Int) 0 64 = true by rw [inR, decide_eq_true_eq]; omega)
  clear h1
  obtain ⟨c0, c1, c2⟩ := HX.out.cells
  go_enter Try.func25, Try.ntmps25
  go_wp2_with fail
  refine (specSqErr p k g A m c B (iv s) _ (HI.out.below (HX.out.2.mono hB)) (Nat.le_trans hB (Nat.le_of_lt HX.out.lt)) (by omega)).mono ?_
  rw [HE.out]
  rintro e w1 ⟨rfl, hb⟩
  have HX1 := hide (HX.out.next hb)
  clear hb c0 c1 c2
  obtain ⟨c0, c1, c2⟩ := HX1.out.cells
  go_wp2_with fail
  refine (specL3Is h.kind (some ⟨b', off', none⟩) n' c' B (iv C) _ (HJ.out.below (HX1.out.2.mono hB)) (Nat.le_trans hB (Nat.le_of_lt HX1.out.lt)) (by omega)).mono ?_
  rw [HP.out]
  rintro e w2 ⟨rfl, hb⟩
  have HX2 := hide (HX1.out.next hb)
  clear hb c0 c1 c2
  obtain ⟨c0, c1, c2⟩ := HX2.out.cells
  have hcy : w2.cell? ⟨b', off', none⟩ = some (.int .i64 1) := by
    obtain ⟨b2, o2, y2, he, _, hy2, hc2⟩ := (HJ.out.below (HX2.out.2.mono hB)).at_ hn0
    simp only [Option.some.injEq, Addr.mk.injEq, and_true] at he
    obtain ⟨rfl, rfl⟩ := he
    rw [H1.out] at hy2
    simp only [Option.some.injEq] at hy2
    subst hy2
    exact hc2
  go_wp2_with fail
  refine (specIn_is (L : Int) 0 64 true _ HR.out).mono ?_
  rintro e w3 ⟨rfl, rfl⟩
  by_cases hnL : n' ≤ L + 1
  · have z1 : decide ((L : Int) + 1 < (n' : Int)) = false := by rw [decide_eq_false_iff_not]; omega
    go_wp2_with fail
    clear c0 c1 c2 hcy
    go_loopw [9] (fun i wr => SbRel w p k g L (max L m) C s i wr) (fun i _ => m - (intOf i).toNat)
    case atStart => exact ⟨L, rfl, Nat.le_refl _, Nat.le_max_left _ _, fun t h1 h2 => by omega, HX2.out⟩
    case round =>
      clear HX2
      obtain ⟨j, rfl, hLj, hjM, HA, HX⟩ := hrel
      have HX := hide HX
      have hj64 : j ≤ 64 := by omega
      obtain ⟨c0, c1, c2⟩ := HX.out.cells
      by_cases hlt : j < m
      · obtain ⟨d, hd⟩ : ∃ d, ps (cf C) (cf s) j = d := ⟨_, rfl⟩
        have HD := hide hd
        clear hd
        go_wp2_with fail
        refine (specSumAt h C s j (some ⟨b', off', none⟩) A n' c' m c B _ (HJ.out.below (HX.out.2.mono hB)) (HI.out.below (HX.out.2.mono hB)) (Nat.le_trans hB (Nat.le_of_lt HX.out.lt)) hlt (by omega) (by omega)).mono ?_
        rw [HD.out]
        rintro e w2 ⟨rfl, hb⟩
        have HX2 := hide (HX.out.next hb)
        clear hb c0 c1 c2
        have hz := sum_val (x := d)
        by_cases hd0 : d = 0
        · have HN := hide (show ∀ t, L ≤ t → t < j + 1 → ps (cf C) (cf s) t = 0 from fun t h1 h2 => by
            rcases Nat.lt_or_ge t j with h3 | h3
            · exact HA.out t h1 h3
            · obtain rfl : t = j := by omega
              rw [HD.out]; exact hd0)
          rw [decide_eq_true hd0] at hz
          simp only [Bool.not_true] at hz
          clear hd0
          go_wp2_with fail
          go_roundw
          case rel => exact ⟨j + 1, by go_num, by omega, by omega, HN.out, HX2.out⟩
          case measure => simp [intOf]; omega
        · have HF := hide (show satB C s L = false from satB_bad hLj (by rw [HSM.out]; exact hlt) (by rw [HD.out]; exact hd0))
          rw [decide_eq_false hd0] at hz
          simp only [Bool.not_false] at hz
          clear hd0
          go_wp2_with fail
          go_ret
          exact ⟨ret_bool HF.out, HX2.out.2⟩
      · have HF := hide (show satB C s L = true from satB_all (by rw [HCN.out]; exact hnL) fun t h1 h2 => HA.out t h1 (by rw [HSM.out] at h2; omega))
        go_wp2_with fail
        go_ret
        exact ⟨ret_bool HF.out, HX.out.2⟩
  · have z1 : decide ((L : Int) + 1 < (n' : Int)) = true := by rw [decide_eq_true_eq]; omega
    have HF := hide (show satB C s L = false from satB_far (by rw [HCN.out]; omega))
    go_wp2_with fail
    go_ret
    exact ⟨ret_bool HF.out, HX2.out.2⟩

theorem is_both (p k g : Int) (z z' : List Int) (x : Int) (hz : z.length ≤ 1048576) (hz' : z'.length ≤ 1048576) : ∃ b : Bool, C2i 25 p k g z z' x (Gives (.bool b)) ∧ C2i 17 p k g z z' x (Gives (.bool b)) := by
  rcases sqErr_cases p k g z with ⟨cd, h, hne, _⟩ | ⟨h, _, R, s, hR, rfl, hs⟩
  · exact ⟨false, is_badS z z' x hz hz' h hne, is_badI z z' x hz hz' h hne⟩
  · have hfalse : C2i 25 p k g (iv s) z' x (Gives (.bool false)) → (0 ≤ x ∧ x ≤ 64 → C2i 17 p k g (iv s) z' x (Gives (.bool false))) → ∃ b : Bool, C2i 25 p k g (iv s) z' x (Gives (.bool b)) ∧ C2i 17 p k g (iv s) z' x (Gives (.bool b)) := fun h1 h2 => ⟨false, h1, by
      by_cases hx : 0 ≤ x ∧ x ≤ 64
      · exact h2 hx
      · exact is_rngI (iv s) z' x hz hz' h (by omega)⟩
    rcases hp : polyB R.q z' with _ | _
    · exact hfalse (is_polS _ z' x hz hz' h hR.kind hp) fun hx => is_polI _ z' x hz hz' h hx hR.kind hp
    · by_cases h0 : z'.length = 0
      · exact hfalse (is_nilS _ z' x hz hz' h hR.kind hp h0) fun hx => is_nilI _ z' x hz hz' h hx hR.kind hp h0
      · obtain ⟨y, hy⟩ : ∃ y, z'[0]? = some y := ⟨_, List.getElem?_eq_getElem (by omega)⟩
        by_cases hy1 : y = 1
        · subst hy1
          by_cases hx : 0 ≤ x ∧ x ≤ 64
          · obtain ⟨C, rfl, hC, hCl⟩ := poly_open hp
            obtain ⟨L, rfl⟩ : ∃ L : Nat, x = L := ⟨x.toNat, by omega⟩
            rw [iv_len] at h0
            have hC1 : cf C 0 = 1 := by
              rw [iv_at (by omega)] at hy
              simp only [Option.some.injEq] at hy
              exact El.eq (by rw [val_one]; omega)
            exact ⟨_, is_valS hR s hs h C hC hCl hC1 L (by omega), is_valI hR s hs h C hC hCl hC1 L (by omega)⟩
          · exact hfalse (is_rngS _ z' x hz hz' h hR.kind hp hy (by omega)) fun hx' => absurd hx' hx
        · exact hfalse (is_oneS _ z' x hz hz' h hR.kind hp hy hy1) fun hx => is_oneI _ z' x hz hz' h hx hR.kind hp hy hy1
end
end Go.Proofs.Ytdniocdmncldjaa
