/-
  The program's small questions about families: matrix sizes, percentages, names, data cells.
  Condition: as each statement says.
-/
import Derived.Test.YtncgeoliboidhaaGreatVH
import Derived.Test.YtncgeoliboidhaaGreatFmHas
import Derived.Test.YtncgeoliboidhaaGreatFmLaw
import Derived.Test.YtncgeoliboidhaaGreatFOfImpl
namespace Go.Proofs.YtncgeoliboidhaaGreat
open Go.RowKit
set_option linter.unusedSimpArgs false
set_option linter.unusedVariables false

theorem msz_no {n : Int} (h : n < 17 ∨ 41 < n) : mszB n = false := by
  rw [mszB, decide_eq_false_iff_not]; omega
theorem msz_nat {m : Nat} (h1 : 17 ≤ m) (h2 : m ≤ 41) : mszB m = decide ((m - 17) % 4 = 0) := by
  rw [mszB, Bool.eq_iff_iff, decide_eq_true_eq, decide_eq_true_eq]; omega
set_option maxHeartbeats 1000000 in
theorem implMsz (n : Int) (w : World) :
    Calls Tryz.prog 106 #[.int .i64 n] w fun e w' => e = .returned (.bool (mszB n)) ∧ w = w' := by
  rcases (show decide (17 ≤ n) = false ∨ (decide (17 ≤ n) = true ∧ decide (n ≤ 41) = false) ∨ (decide (17 ≤ n) = true ∧ decide (n ≤ 41) = true) by
    simp only [decide_eq_false_iff_not, decide_eq_true_eq]; omega) with h1 | ⟨h1, h2⟩ | ⟨h1, h2⟩
  · have HF := hide (msz_no (n := n) (.inl (by have := of_decide_eq_false h1; omega)))
    go_enter Tryz.func106, Tryz.ntmps106
    go_wp2_with fail
    go_ret
    exact ⟨ret_bool HF.out, rfl⟩
  · have HF := hide (msz_no (n := n) (.inr (by have := of_decide_eq_false h2; omega)))
    go_enter Tryz.func106, Tryz.ntmps106
    go_wp2_with fail
    go_ret
    exact ⟨ret_bool HF.out, rfl⟩
  · have b1 := of_decide_eq_true h1
    have b2 := of_decide_eq_true h2
    obtain ⟨m, rfl⟩ : ∃ m : Nat, n = m := ⟨n.toNat, by omega⟩
    have HF := hide (msz_nat (m := m) (by omega) (by omega))
    obtain ⟨r, hr⟩ : ∃ r, (m - 17) % 4 = r := ⟨_, rfl⟩
    obtain ⟨y, hy⟩ : ∃ y, m - 17 = y := ⟨_, rfl⟩
    rw [hr] at HF
    have e1 : (m : Int) - 17 = (y : Int) := by omega
    have e2 : (y : Int).tmod 4 = (r : Int) := by rw [← hr, ← hy, Int.tmod_eq_emod_of_nonneg (by omega)]; rfl
    have hy2 : y ≤ 24 := by omega
    have hr2 : r < 4 := by omega
    clear hr hy b1 b2
    by_cases h0 : r = 0
    · subst h0
      go_enter Tryz.func106, Tryz.ntmps106
      go_wp2_with fail
      go_ret
      exact ⟨ret_bool (by rw [HF.out]; rfl), rfl⟩
    · have e3 : ((r : Int) == 0) = false := by simpa using h0
      go_enter Tryz.func106, Tryz.ntmps106
      go_wp2_with fail
      go_ret
      exact ⟨ret_bool (by rw [HF.out, decide_eq_false h0]), rfl⟩

set_option maxHeartbeats 1000000 in
theorem implPct (n : Int) (w : World) :
    Calls Tryz.prog 61 #[.int .i64 n] w fun e w' => e = .returned (.bool (pctB n)) ∧ w = w' := by
  have HF := hide (show pctB n = (decide (1 ≤ n) && decide (n ≤ 80)) by rw [pctB, Bool.decide_and])
  rcases h1 : decide (1 ≤ n) with _ | _
  · rw [h1] at HF
    go_enter Tryz.func61, Tryz.ntmps61
    go_wp2_with fail
    go_ret
    exact ⟨ret_bool HF.out, rfl⟩
  · rcases h2 : decide (n ≤ 80) with _ | _ <;>
    ( rw [h1, h2] at HF
      go_enter Tryz.func61, Tryz.ntmps61
      go_wp2_with fail
      go_ret
      exact ⟨ret_bool HF.out, rfl⟩)

set_option maxRecDepth 100000 in
set_option maxHeartbeats 2000000 in
theorem implAllows (s : ByteArray) (κ p k g : Int) (A : Option Addr) (n c : Nat) (C : Int) (A' : Option Addr) (n' c' : Nat) (z : Int) (w : World) :
    Calls Tryz.prog 60 #[.agg #[.string s, .int .i64 κ, .int .i64 p, .int .i64 k, .int .i64 g, .slice A n c, .int .i64 C, .slice A' n' c'], .int .i64 z] w (Gives (.bool (if κ = 2 then rowB z else mszB z)) w) := by
  have HX := hide (FBox.start w s κ p k g A n c C A' n' c')
  obtain ⟨c0, c1, c2, c3, c4, c5, c6, c7⟩ := HX.out.cells
  by_cases hk : κ = 2
  · subst hk
    rw [if_pos rfl]
    have HF := hide (show rowB z = (decide (3 ≤ z) && decide (z ≤ 24)) by rw [rowB, Bool.decide_and])
    rcases h1 : decide (3 ≤ z) with _ | _
    · rw [h1] at HF
      go_enter Tryz.func60, Tryz.ntmps60
      go_wp2_with fail
      go_ret
      exact ⟨ret_bool HF.out, HX.out.2⟩
    · rcases h2 : decide (z ≤ 24) with _ | _ <;>
      ( rw [h1, h2] at HF
        go_enter Tryz.func60, Tryz.ntmps60
        go_wp2_with fail
        go_ret
        exact ⟨ret_bool HF.out, HX.out.2⟩)
  · rw [if_neg hk]
    have e1 : (κ == 2) = false := by simpa using hk
    have HM := hide (fun w' => implMsz z w')
    go_enter Tryz.func60, Tryz.ntmps60
    go_wp2_with fail
    refine (HM.out _).mono ?_
    rintro e _ ⟨rfl, rfl⟩
    go_wp2_with fail
    go_ret
    exact ⟨rfl, HX.out.2⟩

theorem nm_long {bs : List Int} (h : ¬ (1 ≤ bs.length ∧ bs.length ≤ 8)) : nmB bs = false := by rw [nmB, decide_eq_false h]; rfl
theorem nm_is {bs : List Int} (h : 1 ≤ bs.length ∧ bs.length ≤ 8) : nmB bs = bs.all (fun b => decide (97 ≤ b ∧ b ≤ 122)) := by rw [nmB, decide_eq_true h, Bool.true_and]
theorem all_step {f : Int → Bool} {bs : List Int} {j : Nat} {x : Int} (h : bs[j]? = some x) : (bs.drop j).all f = (f x && (bs.drop (j + 1)).all f) := by
  rw [drop_atF h, List.all_cons]
set_option maxRecDepth 100000 in
set_option maxHeartbeats 2000000 in
theorem implNm (s : ByteArray) (hs : s.size ≤ 1099511627776) (w : World) :
    Calls Tryz.prog 56 #[.string s] w fun e w' => e = .returned (.bool (nmB (bytesI s))) ∧ w = w' := by
  have hlen := bytesI_len s
  by_cases h1 : s.size < 1
  · have HF := hide (nm_long (bs := bytesI s) (by omega))
    clear hlen
    go_enter Tryz.func56, Tryz.ntmps56
    go_wp2_with fail
    go_ret
    exact ⟨ret_bool HF.out, rfl⟩
  by_cases h2 : 8 < s.size
  · have HF := hide (nm_long (bs := bytesI s) (by omega))
    clear hlen
    go_enter Tryz.func56, Tryz.ntmps56
    go_wp2_with fail
    go_ret
    exact ⟨ret_bool HF.out, rfl⟩
  have HF := hide (nm_is (bs := bytesI s) (by omega))
  have hsz : s.size ≤ 8 := by omega
  have HL := hide hlen
  clear hlen
  go_enter Tryz.func56, Tryz.ntmps56
  go_wp2_with fail
  go_loop [14] (fun i => ∃ k : Nat, k ≤ s.size ∧ i = .int .i64 k ∧ Hid (((bytesI s).drop k).all (fun b => decide (97 ≤ b ∧ b ≤ 122)) = nmB (bytesI s))) (fun i => s.size - (intOf i).toNat)
  case atStart => exact ⟨0, by omega, rfl, hide (by rw [HF.out]; rfl)⟩
  case round =>
    obtain ⟨j, hj, rfl, HR⟩ := hrel
    by_cases hlt : j < s.size
    · obtain ⟨y, hy, hy2, hy0, hy1⟩ := byteAt s hlt
      have HST := hide (all_step (f := fun b => decide (97 ≤ b ∧ b ≤ 122)) hy2)
      clear hy2
      rcases h3 : decide (y < 97) with _ | _
      · rcases h4 : decide (122 < y) with _ | _
        · have HN := hide (show ((bytesI s).drop (j + 1)).all (fun b => decide (97 ≤ b ∧ b ≤ 122)) = nmB (bytesI s) by
            rw [← HR.out, HST.out, decide_eq_true (by have := of_decide_eq_false h3; have := of_decide_eq_false h4; omega), Bool.true_and])
          go_wp2_with fail
          go_round
          case rel => exact ⟨j + 1, by omega, by go_num, HN⟩
          case measure => simp [intOf]; omega
        · have HF2 := hide (show nmB (bytesI s) = false by
            rw [← HR.out, HST.out, decide_eq_false (by have := of_decide_eq_true h4; omega), Bool.false_and])
          go_wp2_with fail
          go_ret
          exact ⟨ret_bool HF2.out, rfl⟩
      · have HF2 := hide (show nmB (bytesI s) = false by
          rw [← HR.out, HST.out, decide_eq_false (by have := of_decide_eq_true h3; omega), Bool.false_and])
        go_wp2_with fail
        go_ret
        exact ⟨ret_bool HF2.out, rfl⟩
    · have HF2 := hide (show nmB (bytesI s) = true by
        rw [← HR.out, List.drop_of_length_le (by rw [HL.out]; omega)]; rfl)
      go_wp2_with fail
      go_ret
      exact ⟨ret_bool HF2.out, rfl⟩

/-! Numbers of a list: at least one, not too many, rising, each accepted. -/
theorem rise_step {ok : Int → Bool} {o : Option Int} {zs : List Int} {j : Nat} {x : Int} (h : zs[j]? = some x) : riseF ok o (zs.drop j) = (ok x && aft o x && riseF ok (some x) (zs.drop (j + 1))) := by
  rw [drop_atF h]; rfl
/-- The number before an index. -/
def bef (zs : List Int) (j : Nat) : Option Int := if j = 0 then none else zs[j - 1]?
theorem bef_succ {zs : List Int} {j : Nat} {x : Int} (h : zs[j]? = some x) : bef zs (j + 1) = some x := by
  unfold bef; rw [if_neg (by omega)]; exact h
def ChRel (ok : Int → Bool) (w : World) (n : Nat) (zs : List Int) (i : Value) (wr : World) : Prop :=
  ∃ j : Nat, j ≤ n ∧ i = .int .i64 j ∧ Hid (riseF ok (bef zs j) (zs.drop j) = riseF ok none zs) ∧ Below w.heap.size w wr
set_option maxRecDepth 100000 in
set_option maxHeartbeats 4000000 in
theorem implChP (A : Option Addr) (n c B m : Nat) (zs : List Int) (w : World) (hI : Ints .i64 w B A n zs) (hB : B ≤ w.heap.size) (hn : n ≤ 1099511627776) (hm : m ≤ 100) :
    Calls Tryz.prog 59 #[.slice A n c, .int .i64 m, .func (.func 61) #[] #[]] w (Gives (.bool (chB pctB m zs)) w) := by
  have HCAL := hide (fun (z : Int) w' => (implPct z w').mono (fun e w'' h => show Gives (.bool (pctB z)) w' e w'' from ⟨h.1, by rw [← h.2]; exact Below.refl _ _⟩))
  obtain ⟨OK, hOK⟩ : ∃ OK, pctB = OK := ⟨_, rfl⟩
  rw [hOK] at HCAL
  rw [hOK]
  clear hOK
  have hl := hI.len
  by_cases h1 : n < 1
  · have HF := hide (chB_long (ok := OK) (m := m) (zs := zs) (by omega))
    clear hl hI
    go_enter Tryz.func59, Tryz.ntmps59
    go_wp2_with fail
    go_ret
    exact ⟨ret_bool HF.out, Below.refl _ _⟩
  by_cases h2 : m < n
  · have HF := hide (chB_long (ok := OK) (m := m) (zs := zs) (by omega))
    clear hl hI
    go_enter Tryz.func59, Tryz.ntmps59
    go_wp2_with fail
    go_ret
    exact ⟨ret_bool HF.out, Below.refl _ _⟩
  have HF := hide (chB_is (ok := OK) (m := m) (zs := zs) (by omega))
  have HI := hide hI
  have HL := hide hl
  have hnm : n ≤ m := by omega
  clear hl hI
  go_enter Tryz.func59, Tryz.ntmps59
  go_wp2_with fail
  go_loopw [20] (fun i wr => ChRel OK w n zs i wr) (fun i _ => n - (intOf i).toNat)
  case atStart => exact ⟨0, by omega, rfl, hide rfl, Below.refl _ _⟩
  case round =>
    obtain ⟨j, hj, rfl, HR, hb⟩ := hrel
    have HB := hide hb
    clear hb
    by_cases hlt : j < n
    · obtain ⟨b, off, z, rfl, hb, hz, hc⟩ := (HI.out.below (HB.out.mono hB)).at_ hlt
      have HST := hide (rise_step (ok := OK) (o := bef zs j) hz)
      have HBF := hide (bef_succ hz)
      have HZ := hide hz
      clear hz
      go_wp2_with fail
      refine (HCAL.out z _).mono ?_
      rintro e w2 ⟨rfl, hb2⟩
      have HB2 := hide (HB.out.trans (hb2.mono HB.out.size))
      clear hb2
      rcases hok : OK z with _ | _
      · have HF2 := hide (show chB OK m zs = false by rw [HF.out, ← HR.out, HST.out, hok]; rfl)
        clear hok
        go_wp2_with fail
        go_ret
        exact ⟨ret_bool HF2.out, HB2.out⟩
      · by_cases hj0 : j = 0
        · have e0 : decide ((0 : Int) < (j : Int)) = false := decide_eq_false (by omega)
          have HN := hide (show riseF OK (bef zs (j + 1)) (zs.drop (j + 1)) = riseF OK none zs by
            rw [HBF.out, ← HR.out, HST.out, hok]
            have : bef zs j = none := by unfold bef; rw [if_pos hj0]
            rw [this]; simp [aft])
          have hj1 : ¬ 0 < j := by omega
          have hj2 : (j : Int) = 0 := by omega
          clear hok
          go_wp2_with fail
          go_roundw
          case rel => exact ⟨j + 1, by omega, by go_num, HN, HB2.out⟩
          case measure => simp [intOf]; omega
        · obtain ⟨i, hi⟩ : ∃ i, i + 1 = j := ⟨j - 1, by omega⟩
          obtain ⟨b', off', y, hA, hb', hy, hc'⟩ := (HI.out.below (HB2.out.mono hB)).at_ (show i < n by omega)
          injection hA with hA
          injection hA with h1' h2' _
          subst h1' h2'
          have e0 : decide ((0 : Int) < (j : Int)) = true := decide_eq_true (by omega)
          rw [show i = j - 1 by omega] at hc'
          have HBJ := hide (show bef zs j = some y by unfold bef; rw [if_neg hj0, ← hi]; exact hy)
          have hin : i < n := by omega
          have hj1 : 0 < j := by omega
          clear hj0 hi hy
          rcases hzy : decide (z ≤ y) with _ | _
          · have HN := hide (show riseF OK (bef zs (j + 1)) (zs.drop (j + 1)) = riseF OK none zs by
              rw [HBF.out, ← HR.out, HST.out, hok, HBJ.out]
              rw [show aft (some y) z = true from decide_eq_true (by have := of_decide_eq_false hzy; omega)]
              simp)
            clear hok
            go_wp2_with fail
            go_roundw
            case rel => exact ⟨j + 1, by omega, by go_num, HN, HB2.out⟩
            case measure => simp [intOf]; omega
          · have HF2 := hide (show chB OK m zs = false by
              rw [HF.out, ← HR.out, HST.out, hok, HBJ.out]
              rw [show aft (some y) z = false from decide_eq_false (by have := of_decide_eq_true hzy; omega)]
              simp)
            clear hok
            go_wp2_with fail
            go_ret
            exact ⟨ret_bool HF2.out, HB2.out⟩
    · have HF2 := hide (show chB OK m zs = true by
        rw [HF.out, ← HR.out, List.drop_of_length_le (by rw [HL.out]; omega)]; rfl)
      go_wp2_with fail
      go_ret
      exact ⟨ret_bool HF2.out, HB.out⟩
set_option maxRecDepth 100000 in
set_option maxHeartbeats 4000000 in
theorem implChS (s : ByteArray) (κ p k g : Int) (F : Option Addr) (f d : Nat) (C : Int) (F' : Option Addr) (f' d' : Nat) (A : Option Addr) (n c B m : Nat) (zs : List Int) (w : World) (hI : Ints .i64 w B A n zs) (hB : B ≤ w.heap.size) (hn : n ≤ 1099511627776) (hm : m ≤ 100) :
    Calls Tryz.prog 59 #[.slice A n c, .int .i64 m, .func (.func 60) #[.agg #[.string s, .int .i64 κ, .int .i64 p, .int .i64 k, .int .i64 g, .slice F f d, .int .i64 C, .slice F' f' d']] #[]] w (Gives (.bool (chB (fun z => if κ = 2 then rowB z else mszB z) m zs)) w) := by
  have HCAL := hide (fun (z : Int) w' => implAllows s κ p k g F f d C F' f' d' z w')
  obtain ⟨OK, hOK⟩ : ∃ OK : Int → Bool, (fun z => if κ = 2 then rowB z else mszB z) = OK := ⟨_, rfl⟩
  have HCAL := hide (fun (z : Int) w' => show Calls Tryz.prog 60 #[.agg #[.string s, .int .i64 κ, .int .i64 p, .int .i64 k, .int .i64 g, .slice F f d, .int .i64 C, .slice F' f' d'], .int .i64 z] w' (Gives (.bool (OK z)) w') by rw [← hOK]; exact HCAL.out z w')
  rw [hOK]
  clear hOK
  have hl := hI.len
  by_cases h1 : n < 1
  · have HF := hide (chB_long (ok := OK) (m := m) (zs := zs) (by omega))
    clear hl hI
    go_enter Tryz.func59, Tryz.ntmps59
    go_wp2_with fail
    go_ret
    exact ⟨ret_bool HF.out, Below.refl _ _⟩
  by_cases h2 : m < n
  · have HF := hide (chB_long (ok := OK) (m := m) (zs := zs) (by omega))
    clear hl hI
    go_enter Tryz.func59, Tryz.ntmps59
    go_wp2_with fail
    go_ret
    exact ⟨ret_bool HF.out, Below.refl _ _⟩
  have HF := hide (chB_is (ok := OK) (m := m) (zs := zs) (by omega))
  have HI := hide hI
  have HL := hide hl
  have hnm : n ≤ m := by omega
  clear hl hI
  go_enter Tryz.func59, Tryz.ntmps59
  go_wp2_with fail
  go_loopw [20] (fun i wr => ChRel OK w n zs i wr) (fun i _ => n - (intOf i).toNat)
  case atStart => exact ⟨0, by omega, rfl, hide rfl, Below.refl _ _⟩
  case round =>
    obtain ⟨j, hj, rfl, HR, hb⟩ := hrel
    have HB := hide hb
    clear hb
    by_cases hlt : j < n
    · obtain ⟨b, off, z, rfl, hb, hz, hc⟩ := (HI.out.below (HB.out.mono hB)).at_ hlt
      have HST := hide (rise_step (ok := OK) (o := bef zs j) hz)
      have HBF := hide (bef_succ hz)
      have HZ := hide hz
      clear hz
      go_wp2_with fail
      refine (HCAL.out z _).mono ?_
      rintro e w2 ⟨rfl, hb2⟩
      have HB2 := hide (HB.out.trans (hb2.mono HB.out.size))
      clear hb2
      rcases hok : OK z with _ | _
      · have HF2 := hide (show chB OK m zs = false by rw [HF.out, ← HR.out, HST.out, hok]; rfl)
        clear hok
        go_wp2_with fail
        go_ret
        exact ⟨ret_bool HF2.out, HB2.out⟩
      · by_cases hj0 : j = 0
        · have e0 : decide ((0 : Int) < (j : Int)) = false := decide_eq_false (by omega)
          have HN := hide (show riseF OK (bef zs (j + 1)) (zs.drop (j + 1)) = riseF OK none zs by
            rw [HBF.out, ← HR.out, HST.out, hok]
            have : bef zs j = none := by unfold bef; rw [if_pos hj0]
            rw [this]; simp [aft])
          have hj1 : ¬ 0 < j := by omega
          have hj2 : (j : Int) = 0 := by omega
          clear hok
          go_wp2_with fail
          go_roundw
          case rel => exact ⟨j + 1, by omega, by go_num, HN, HB2.out⟩
          case measure => simp [intOf]; omega
        · obtain ⟨i, hi⟩ : ∃ i, i + 1 = j := ⟨j - 1, by omega⟩
          obtain ⟨b', off', y, hA, hb', hy, hc'⟩ := (HI.out.below (HB2.out.mono hB)).at_ (show i < n by omega)
          injection hA with hA
          injection hA with h1' h2' _
          subst h1' h2'
          have e0 : decide ((0 : Int) < (j : Int)) = true := decide_eq_true (by omega)
          rw [show i = j - 1 by omega] at hc'
          have HBJ := hide (show bef zs j = some y by unfold bef; rw [if_neg hj0, ← hi]; exact hy)
          have hin : i < n := by omega
          have hj1 : 0 < j := by omega
          clear hj0 hi hy
          rcases hzy : decide (z ≤ y) with _ | _
          · have HN := hide (show riseF OK (bef zs (j + 1)) (zs.drop (j + 1)) = riseF OK none zs by
              rw [HBF.out, ← HR.out, HST.out, hok, HBJ.out]
              rw [show aft (some y) z = true from decide_eq_true (by have := of_decide_eq_false hzy; omega)]
              simp)
            clear hok
            go_wp2_with fail
            go_roundw
            case rel => exact ⟨j + 1, by omega, by go_num, HN, HB2.out⟩
            case measure => simp [intOf]; omega
          · have HF2 := hide (show chB OK m zs = false by
              rw [HF.out, ← HR.out, HST.out, hok, HBJ.out]
              rw [show aft (some y) z = false from decide_eq_false (by have := of_decide_eq_true hzy; omega)]
              simp)
            clear hok
            go_wp2_with fail
            go_ret
            exact ⟨ret_bool HF2.out, HB2.out⟩
    · have HF2 := hide (show chB OK m zs = true by
        rw [HF.out, ← HR.out, List.drop_of_length_le (by rw [HL.out]; omega)]; rfl)
      go_wp2_with fail
      go_ret
      exact ⟨ret_bool HF2.out, HB.out⟩
end Go.Proofs.YtncgeoliboidhaaGreat
