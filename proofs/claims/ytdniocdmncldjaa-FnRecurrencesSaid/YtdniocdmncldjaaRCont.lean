/-
  The contracts of the elements that continue a sequence, of the program.
  Condition: the field is valid; the sequence and the number of new elements are short.
-/
import Derived.Test.YtdniocdmncldjaaROwn
import Derived.Test.YtdniocdmncldjaaAppL
import Derived.Test.YtdniocdmncldjaaJL
namespace Go.Proofs.Ytdniocdmncldjaa
open Go.RowKit
set_option linter.unusedSimpArgs false
set_option linter.unusedVariables false

/-- What a function leaves that returns a new list, wherever in its block it begins. -/
def NewR (zs : List Int) (w : World) (x : Ending) (w' : World) : Prop :=
  ∃ A c, x = .returned (.slice A zs.length c) ∧ zs.length ≤ c ∧ OwnR w' w.heap.size (.slice A zs.length c) zs ∧ Below w.heap.size w w'
section
variable {R : Fld} {p k g : Int}
/-- The sequence with n elements that continue it, and zeros behind them. -/
def padL (C s : List (El R)) (M j : Nat) : List (El R) := contL C s j ++ List.replicate (M - j) 0
theorem padL_len {C s : List (El R)} {M j : Nat} (h : j ≤ M) : (padL C s M j).length = s.length + M := by
  rw [padL, List.length_append, cont_len, List.length_replicate]; omega
theorem cf_rep (q : List (El R)) (n i : Nat) : cf (q ++ List.replicate n 0) i = cf q i := by
  unfold cf
  rw [List.getD_eq_getElem?_getD, List.getD_eq_getElem?_getD, List.getElem?_append]
  split
  · rfl
  · rename_i h
    rw [List.getElem?_eq_none (l := q) (by omega), List.getElem?_replicate]
    split <;> rfl
theorem padL_sum (C s : List (El R)) (M j : Nat) : -(ps (cf C) (cf (padL C s M j)) (s.length + j)) = nextE C (contL C s j) := by
  rw [nextE, cont_len, padL]
  congr 1
  exact ps_local (fun _ _ => rfl) fun i _ => cf_rep _ _ i
theorem padL_set (C s : List (El R)) {M j : Nat} (h : j < M) : (padL C s M j).set (s.length + j) (nextE C (contL C s j)) = padL C s M (j + 1) := by
  rw [padL, padL, List.set_append_right _ _ (by rw [cont_len]; omega), cont_len, Nat.sub_self, show M - j = (M - (j + 1)) + 1 by omega, List.replicate_succ, List.set_cons_zero]
  show _ = (contL C s j ++ [_]) ++ _
  rw [List.append_assoc]; rfl
theorem padL_end (C s : List (El R)) (M : Nat) : padL C s M M = s ++ (contL C s M).drop s.length := by
  rw [padL, Nat.sub_self, List.replicate_zero, List.append_nil]
  conv => lhs; rw [← List.take_append_drop s.length (contL C s M), cont_take]
def CnRel (w : World) (p k g : Int) (gL N m M : Nat) (C s : List (El R)) (i : Value) (wr : World) : Prop :=
  ∃ j t : Nat, j ≤ M ∧ t = m + j ∧ i = .int .i64 t ∧ Own wr (w.heap.size + 1) 2 .i64 (.slice (some ⟨gL, 0, none⟩) N N) (iv (padL C s M j)) ∧ Box w wr 25 p k g

set_option maxRecDepth 100000 in
set_option maxHeartbeats 8000000 in
theorem implContinued (h : FldIs R p k g) (C s : List (El R)) (M : Nat) (A A' : Option Addr) (n c m c' B : Nat) (w : World) (hI : Ints .i64 w B A n (iv C)) (hJ : Ints .i64 w B A' m (iv s)) (hB : B ≤ w.heap.size) (hn : n ≤ m + 1) (hm : m ≤ 64) (hM : M ≤ 64) :
    Calls Try.prog 36 #[.slice A n c, .agg #[.int .i64 p, .int .i64 k, .int .i64 g], .slice A' m c', .int .i64 M] w (NewR (iv ((contL C s M).drop s.length)) w) := by
  have HX := hide (Box.start w 25 p k g)
  have hsm : s.length = m := by rw [← iv_len]; exact hJ.len
  have HI := hide hI
  have HJ := hide hJ
  have HSM := hide hsm
  clear hI hJ
  obtain ⟨N, hN⟩ : ∃ N, N = m + M := ⟨_, rfl⟩
  have hNw : IntKind.i64.wrap ((m : Int) + (M : Int)) = (N : Int) := by rw [IntWalk.i64_in _ ⟨by omega, by omega⟩]; omega
  have HZ := hide (show (iv s) ++ (List.replicate N 0).drop m = iv (padL C s M 0) by
    rw [padL, show contL C s 0 = s from rfl, show iv (s ++ List.replicate (M - 0) (0 : El R)) = iv s ++ iv (List.replicate (M - 0) 0) from List.map_append, iv_rep, List.drop_replicate, hN, show m + M - m = M - 0 by omega])
  have HN := hide hN
  have hNb : N ≤ 128 := by omega
  have hmN : m ≤ N := by omega
  clear hsm hN
  go_enter Try.func36, Try.ntmps36
  go_wp2_with (first
    | (refine wpList_mkN _ rfl (.tmp 14) (.tmp 14) 26 rfl elem64 .i64 .i64 _ _ N rfl rfl (by omega) (by omega) (by omega) fun w1 h1 h2 => ?_; have HX1 := hide (HX.out.next h2); have HI1 := hide (HI.out.below (HX1.out.2.mono hB)); have HJ1 := hide (HJ.out.below (HX1.out.2.mono hB)); rw [alloc_size] at h1; have HO1 := hide h1; clear h1 h2)
    | (refine wpList_copyZ rfl (.tmp 16) (.tmp 17) 26 rfl elem64 _ (w.heap.size + 1) N N _ rfl HO1.out B A' m c' (iv s) rfl HJ1.out (by omega) fun w2 hO2 hg2 => ?_; rw [HZ.out] at hO2; have HO2 := hide hO2; have HX2 := hide (HX1.out.grown hg2 (by omega)); clear hO2 hg2))
  go_loopw [10] (fun i wr => CnRel w p k g (w.heap.size + 1) N m M C s i wr) (fun i _ => N - (intOf i).toNat)
  case atStart => exact ⟨0, m, Nat.zero_le _, rfl, rfl, HO2.out, HX2.out⟩
  case round =>
    clear HX1 HI1 HJ1 HO1 HX2 HO2 HZ
    obtain ⟨j, t, hj, htj, rfl, HO, HX⟩ := hrel
    have HO := hide HO
    have HX := hide HX
    have HTJ := hide htj
    have hNM : N = m + M := HN.out
    by_cases hlt : j < M
    · have htN : t < N := by omega
      have htm : m ≤ t := by omega
      obtain ⟨d, hd⟩ : ∃ d, ps (cf C) (cf (padL C s M j)) t = d := ⟨_, rfl⟩
      have HD := hide hd
      have HDN := hide (show -d = nextE C (contL C s j) by rw [← hd, htj, ← HSM.out]; exact padL_sum C s M j)
      have HST := hide (show (iv (padL C s M j)).set t ((-d).val : Int) = iv (padL C s M (j + 1)) by
        rw [iv_set, HDN.out, htj, ← HSM.out, padL_set C s hlt])
      clear hd htj hNM
      go_wp2_with fail
      refine tail_begin (fun w' => w'.cell? ⟨w.heap.size, 0, none⟩ = some (.int .i64 p) ∧ w'.cell? ⟨w.heap.size, 1, none⟩ = some (.int .i64 k) ∧ w'.cell? ⟨w.heap.size, 2, none⟩ = some (.int .i64 g)) 10 (by kernel_rfl) (by exact HX.out.drew.cells) (fun hS' => ?_)
      refine tail_take 0 rfl (by kernel_rfl) (by kernel_rfl) (by kernel_rfl) (by kernel_rfl) (fun _ _ _ h => h) (by rfl) (v := ?_) ?_ (by assumption) ?_
      rotate_left 1
      · intro w' hS'; (try dsimp only at hS'); go_simp; try with_reducible rfl
      try simp only [Act.put, List.setIfInBounds_toArray, List.set_cons_zero, List.set_cons_succ]
      refine tail_take 1 rfl (by kernel_rfl) (by kernel_rfl) (by kernel_rfl) (by kernel_rfl) (fun _ _ _ h => h) (by rfl) (v := ?_) ?_ (by assumption) ?_
      rotate_left 1
      · intro w' hS'; (try dsimp only at hS'); go_simp; try with_reducible rfl
      try simp only [Act.put, List.setIfInBounds_toArray, List.set_cons_zero, List.set_cons_succ]
      refine tail_take 2 rfl (by kernel_rfl) (by kernel_rfl) (by kernel_rfl) (by kernel_rfl) (fun _ _ _ h => h) (by rfl) (v := ?_) ?_ (by assumption) ?_
      rotate_left 1
      · intro w' hS'; (try dsimp only at hS'); go_simp; try with_reducible rfl
      try simp only [Act.put, List.setIfInBounds_toArray, List.set_cons_zero, List.set_cons_succ]
      refine tail_take 3 rfl (by kernel_rfl) (by kernel_rfl) (by kernel_rfl) (by kernel_rfl) (fun _ _ _ h => h) (by rfl) (v := ?_) ?_ (by assumption) ?_
      rotate_left 1
      · intro w' hS'; (try dsimp only at hS'); go_simp; try with_reducible rfl
      try simp only [Act.put, List.setIfInBounds_toArray, List.set_cons_zero, List.set_cons_succ]
      refine tail_take 4 rfl (by kernel_rfl) (by kernel_rfl) (by kernel_rfl) (by kernel_rfl) (fun _ _ _ h => h) (by rfl) (v := ?_) ?_ (by assumption) ?_
      rotate_left 1
      · intro w' hS'; (try dsimp only at hS'); go_simp; try with_reducible rfl
      try simp only [Act.put, List.setIfInBounds_toArray, List.set_cons_zero, List.set_cons_succ]
      refine tail_take 5 rfl (by kernel_rfl) (by kernel_rfl) (by kernel_rfl) (by kernel_rfl) (fun _ _ _ h => h) (by rfl) (v := ?_) ?_ (by assumption) ?_
      rotate_left 1
      · intro w' hS'; (try dsimp only at hS'); go_simp; try with_reducible rfl
      try simp only [Act.put, List.setIfInBounds_toArray, List.set_cons_zero, List.set_cons_succ]
      refine tail_take 6 rfl (by kernel_rfl) (by kernel_rfl) (by kernel_rfl) (by kernel_rfl) (fun _ _ _ h => h) (by rfl) (v := ?_) ?_ (by assumption) ?_
      rotate_left 1
      · intro w' hS'; (try dsimp only at hS'); go_simp; try with_reducible rfl
      try simp only [Act.put, List.setIfInBounds_toArray, List.set_cons_zero, List.set_cons_succ]
      refine tail_call 7 rfl (by kernel_rfl) rfl (fun K hK => ?_)
      go_simp
      go_at_call 62; refine (implSumAt h C (padL C s M j) t A (some ⟨w.heap.size + 1, 0, none⟩) n c N N wr.heap.size _ ((HI.out.below (HX.out.drew.2.mono hB)).more (Nat.le_trans hB (Nat.le_of_lt HX.out.lt))) HO.out.drew.intsE (Nat.le_refl _) htN (by omega) (by omega)).mono ?_; rw [HD.out]; rintro e' w3 ⟨rfl, hb3⟩; have HX3 := hide (HX.out.drew.next hb3); have HO3 := hide (HO.out.drew.below hb3 (Nat.le_refl _)); clear hb3
      refine hK.out _ _ (by (try dsimp only); exact HX3.out.cells) (fun hS' => ?_)
      clear hK K
      try simp only [Act.put, List.setIfInBounds_toArray, List.set_cons_zero, List.set_cons_succ]
      refine tail_call 8 rfl (by kernel_rfl) rfl (fun K hK => ?_)
      go_simp
      go_at_call 53; refine (implNegE h d _).mono ?_; rintro e' w4 ⟨rfl, hb4⟩; have HX4 := hide (HX3.out.next hb4); have HO4 := hide (HO3.out.below hb4 (Nat.le_refl _)); clear hb4
      refine hK.out _ _ (by (try dsimp only); exact HX4.out.cells) (fun hS' => ?_)
      clear hK K
      try simp only [Act.put, List.setIfInBounds_toArray, List.set_cons_zero, List.set_cons_succ]
      refine tail_take 9 rfl (by kernel_rfl) (by kernel_rfl) (by kernel_rfl) (by kernel_rfl) (fun _ _ _ h => h) (by rfl) (v := ?_) ?_ (by assumption) ?_
      rotate_left 1
      · intro w' hS'; (try dsimp only at hS'); go_simp; try with_reducible rfl
      try simp only [Act.put, List.setIfInBounds_toArray, List.set_cons_zero, List.set_cons_succ]
      have hcl := HO4.out.cellAt (j := t) (List.getElem?_eq_getElem (by rw [iv_len, padL_len hj, HSM.out, ← HN.out]; exact htN))
      have hfx := HO4.out.frozenAt t
      refine tail_last 10 rfl (by kernel_rfl) (by kernel_rfl) rfl rfl (fun K hK => ?_)
      go_simp
      refine hK.out _ _ ?_
      clear hK K
      try simp only [Act.put, List.setIfInBounds_toArray, List.set_cons_zero, List.set_cons_succ]
      have HO5 := hide (HO4.out.stored t ((-d).val : Int)).1
      have HX5 := hide (HX4.out.set (w.heap.size + 1) t (.int .i64 ((-d).val : Int)) (Nat.lt_succ_self _))
      rw [HST.out] at HO5
      clear hcl hfx hS' HX3 HO3 HX4 HO4 HX HO
      go_wp2_with fail
      go_roundw
      case rel => exact ⟨j + 1, t + 1, by omega, by rw [HTJ.out]; omega, by go_num, HO5.out, HX5.out⟩
      case measure => simp [intOf]; omega
    · obtain rfl : j = M := by omega
      have hZL : (padL C s j j).length = N := by rw [padL_len (Nat.le_refl _), HSM.out, HN.out]
      have HOE := hide (show Own wr (w.heap.size + 1) 2 .i64 (.slice (some ⟨w.heap.size + 1, 0, none⟩) N N) (iv s ++ iv ((contL C s j).drop s.length)) by
        have e : iv (s ++ (contL C s j).drop s.length) = iv s ++ iv ((contL C s j).drop s.length) := List.map_append
        rw [← e, ← padL_end]; exact HO.out)
      have HLN := hide (show (iv ((contL C s j).drop s.length)).length = N - m by rw [iv_len, List.length_drop, cont_len, HSM.out, HN.out])
      have HSI := hide (show (iv s).length = m by rw [iv_len]; exact HSM.out)
      have HRR := hide (HOE.out.rest (lo := m) HSI.out (Nat.le_refl _))
      obtain ⟨rr, hrr⟩ : ∃ rr, iv ((contL C s j).drop s.length) = rr := ⟨_, rfl⟩
      have HQ := hide hrr
      rw [hrr] at HLN HRR
      rw [HLN.out] at HRR
      have htN : t = N := by omega
      subst htN
      have htm : m ≤ t := by omega
      have hsub : t - m = rr.length := HLN.out.symm
      clear hZL hNM hrr htj
      by_cases hcl : t = m
      · have h0 : t - m = 0 := by omega
        have HR2 := hide (show OwnR wr (w.heap.size + 1) (.slice (some ⟨w.heap.size + 1, 0, none⟩) 0 0) rr by have := HRR.out; rw [subA, if_pos hcl, h0] at this; exact this)
        have HL0 := hide (show rr.length = 0 by omega)
        clear hlt HRR HOE HO hsub h0
        go_wp2_with fail
        go_ret
        rw [HQ.out]
        exact ⟨some ⟨w.heap.size + 1, 0, none⟩, 0, by rw [HL0.out]; rfl, by rw [HL0.out]; exact Nat.le_refl _, by rw [HL0.out]; exact HR2.out.low (Nat.le_succ _), HX.out.2⟩
      · have HR2 := hide (show OwnR wr (w.heap.size + 1) (.slice (some ⟨w.heap.size + 1, m, none⟩) (t - m) (t - m)) rr by have := HRR.out; rw [subA, if_neg hcl, Option.map_some, addr_add, Nat.zero_add] at this; exact this)
        have HSB := hide hsub
        clear hlt HRR HOE HO hsub
        go_wp2_with fail
        go_ret
        rw [HQ.out]
        exact ⟨_, t - m, by rw [← HSB.out]; rfl, by rw [← HSB.out]; exact Nat.le_refl _, by rw [← HSB.out]; exact HR2.out.low (Nat.le_succ _), HX.out.2⟩

/-- What a function leaves that returns a new list, wherever in its block it begins, and a code. -/
def NewIR (r : List Int) (c : Int) (w : World) (x : Ending) (w' : World) : Prop :=
  ∃ A m, x = .returned (.tuple #[.slice A r.length m, .int .i64 c]) ∧ r.length ≤ m ∧ OwnR w' w.heap.size (.slice A r.length m) r ∧ Below w.heap.size w w'
theorem newIR_nil {c : Int} {w w' : World} (hb : Below w.heap.size w w') : NewIR [] c w (.returned (.tuple #[.slice none 0 0, .int .i64 c])) w' :=
  ⟨none, 0, rfl, Nat.le_refl _, ⟨⟨none, 0, rfl, Nat.le_refl _⟩, fun g hg => (by cases hg), fun h => (by cases h)⟩, hb⟩
theorem ints_kept {w w' : World} {B n : Nat} {row : Option Nat} {A : Option Addr} {zs : List Int} (h : Ints .i64 w B A n zs) (hg : w.grownBy w' row) (hr : ∀ b, row = some b → B ≤ b) (hs : B ≤ w.heap.size) : Ints .i64 w' B A n zs :=
  h.keep fun b o hb => grown_cell (p := ⟨b, o, none⟩) hg (by show b < w.heap.size; omega) (by intro e; have := hr b e; omega)
set_option maxRecDepth 100000 in
set_option maxHeartbeats 8000000 in
theorem ct_badS (z : List Int) (x : Int) (hz : z.length ≤ 1048576) {cd : Int} (h : sqErr p k g z = cd) (hne : (cd != 0) = true) : C1i 13 p k g z x (NewIK [] cd) := by
  intro A n c B w hI hB
  have HX := hide (Box.start w 25 p k g)
  have hn : n ≤ 1048576 := by rw [← hI.len]; exact hz
  have HE := hide h
  have HI := hide hI
  have hne2 : (cd == 0) = false := by simpa using hne
  clear hI h
  obtain ⟨c0, c1, c2⟩ := HX.out.cells
  go_enter Try.func13, Try.ntmps13
  go_wp2_with fail
  refine (specSqErr p k g A n c B z _ (HI.out.below (HX.out.2.mono hB)) (Nat.le_trans hB (Nat.le_of_lt HX.out.lt)) (by omega)).mono ?_
  rw [HE.out]
  rintro e w1 ⟨rfl, hb⟩
  have HX1 := hide (HX.out.next hb)
  clear hb c0 c1 c2
  obtain ⟨c0, c1, c2⟩ := HX1.out.cells
  go_wp2_with fail
  go_ret2
  exact newIK_nil HX1.out.2
set_option maxRecDepth 100000 in
set_option maxHeartbeats 8000000 in
theorem ct_badI (z : List Int) (x : Int) (hz : z.length ≤ 1048576) {cd : Int} (h : sqErr p k g z = cd) (hne : (cd != 0) = true) : C1i 12 p k g z x (NewIR [] cd) := by
  intro A n c B w hI hB
  have HX := hide (Box.start w 25 p k g)
  have hn : n ≤ 1048576 := by rw [← hI.len]; exact hz
  have HE := hide h
  have HI := hide hI
  have hne2 : (cd == 0) = false := by simpa using hne
  clear hI h
  obtain ⟨c0, c1, c2⟩ := HX.out.cells
  go_enter Try.func12, Try.ntmps12
  go_wp2_with fail
  refine (implSqErr p k g A n c B z _ (HI.out.below (HX.out.2.mono hB)) (Nat.le_trans hB (Nat.le_of_lt HX.out.lt)) (by omega)).mono ?_
  rw [HE.out]
  rintro e w1 ⟨rfl, hb⟩
  have HX1 := hide (HX.out.next hb)
  clear hb c0 c1 c2
  obtain ⟨c0, c1, c2⟩ := HX1.out.cells
  go_wp2_with fail
  go_ret2
  exact newIR_nil HX1.out.2
set_option maxRecDepth 100000 in
set_option maxHeartbeats 8000000 in
theorem ct_rngI (z : List Int) (x : Int) (hz : z.length ≤ 1048576) (h : sqErr p k g z = 0) (hx : x < 0 ∨ 64 < x) : C1i 12 p k g z x (NewIR [] 2) := by
  intro A n c B w hI hB
  have HX := hide (Box.start w 25 p k g)
  have hn : n ≤ 1048576 := by rw [← hI.len]; exact hz
  have HE := hide h
  have HI := hide hI
  clear hI h
  obtain ⟨c0, c1, c2⟩ := HX.out.cells
  rcases (show x < 0 ∨ ¬ x < 0 by omega) with z0 | z0
  · have z1 : decide (x < 0) = true := by rw [decide_eq_true_eq]; exact z0
    go_enter Try.func12, Try.ntmps12
    go_wp2_with fail
    refine (implSqErr p k g A n c B z _ (HI.out.below (HX.out.2.mono hB)) (Nat.le_trans hB (Nat.le_of_lt HX.out.lt)) (by omega)).mono ?_
    rw [HE.out]
    rintro e w1 ⟨rfl, hb⟩
    have HX1 := hide (HX.out.next hb)
    clear hb c0 c1 c2
    obtain ⟨c0, c1, c2⟩ := HX1.out.cells
    go_wp2_with fail
    go_ret2
    exact newIR_nil HX1.out.2
  · have z1 : decide (x < 0) = false := by rw [decide_eq_false_iff_not]; exact z0
    have z2 : decide (64 < x) = true := by rw [decide_eq_true_eq]; omega
    go_enter Try.func12, Try.ntmps12
    go_wp2_with fail
    refine (implSqErr p k g A n c B z _ (HI.out.below (HX.out.2.mono hB)) (Nat.le_trans hB (Nat.le_of_lt HX.out.lt)) (by omega)).mono ?_
    rw [HE.out]
    rintro e w1 ⟨rfl, hb⟩
    have HX1 := hide (HX.out.next hb)
    clear hb c0 c1 c2
    obtain ⟨c0, c1, c2⟩ := HX1.out.cells
    go_wp2_with fail
    go_ret2
    exact newIR_nil HX1.out.2
set_option maxRecDepth 100000 in
set_option maxHeartbeats 8000000 in
theorem ct_rngS (z : List Int) (x : Int) (hz : z.length ≤ 1048576) (h : sqErr p k g z = 0) (hx : x < 0 ∨ 64 < x) : C1i 13 p k g z x (NewIK [] 2) := by
  intro A n c B w hI hB
  have HX := hide (Box.start w 25 p k g)
  have hn : n ≤ 1048576 := by rw [← hI.len]; exact hz
  have HE := hide h
  have HI := hide hI
  have HR := hide (show inR x 0 64 = false by rw [inR, decide_eq_false_iff_not]; omega)
  clear hI h
  obtain ⟨c0, c1, c2⟩ := HX.out.cells
  go_enter Try.func13, Try.ntmps13
  go_wp2_with fail
  refine (specSqErr p k g A n c B z _ (HI.out.below (HX.out.2.mono hB)) (Nat.le_trans hB (Nat.le_of_lt HX.out.lt)) (by omega)).mono ?_
  rw [HE.out]
  rintro e w1 ⟨rfl, hb⟩
  have HX1 := hide (HX.out.next hb)
  clear hb c0 c1 c2
  obtain ⟨c0, c1, c2⟩ := HX1.out.cells
  go_wp2_with fail
  refine (specIn_is x 0 64 false _ HR.out).mono ?_
  rintro e w3 ⟨rfl, rfl⟩
  go_wp2_with fail
  go_ret2
  exact newIK_nil HX1.out.2
set_option maxRecDepth 100000 in
set_option maxHeartbeats 8000000 in
theorem ct_noI (h : FldIs R p k g) (s : List (El R)) (hs : s.length ≤ 64) (hE : sqErr p k g (iv s) = 0) (M : Nat) (hM : M ≤ 64) (hL : s.length < 2 * (bm (cf s) s.length).L) : C1i 12 p k g (iv s) (M : Nat) (NewIR [] 5) := by
  intro A n c B w hI hB
  have HX := hide (Box.start w 25 p k g)
  have hn : n ≤ 1048576 := by rw [← hI.len, iv_len]; omega
  have HE := hide hE
  have HI := hide hI
  have hsn : s.length = n := by rw [← iv_len]; exact hI.len
  have HSN := hide hsn
  rw [hsn] at hL
  have hn64 : n ≤ 64 := by omega
  have z1 : decide ((M : Int) < 0) = false := by rw [decide_eq_false_iff_not]; omega
  have z2 : decide ((64 : Int) < (M : Int)) = false := by rw [decide_eq_false_iff_not]; omega
  have HZ := hide (recL_no hL)
  clear hsn
  clear hI hE
  obtain ⟨c0, c1, c2⟩ := HX.out.cells
  go_enter Try.func12, Try.ntmps12
  go_wp2_with fail
  refine (implSqErr p k g A n c B (iv s) _ (HI.out.below (HX.out.2.mono hB)) (Nat.le_trans hB (Nat.le_of_lt HX.out.lt)) (by omega)).mono ?_
  rw [HE.out]
  rintro e w1 ⟨rfl, hb⟩
  have HX1 := hide (HX.out.next hb)
  clear hb c0 c1 c2
  obtain ⟨c0, c1, c2⟩ := HX1.out.cells
  go_wp2_with fail
  refine (implRecurrence h s A n c B _ (HI.out.below (HX1.out.2.mono hB)) (Nat.le_trans hB (Nat.le_of_lt HX1.out.lt)) hn64).mono ?_
  rw [HZ.out.1, HZ.out.2]
  rintro e w2 ⟨A2, m2, rfl, hm2, ho, hb⟩
  have HX2 := hide (HX1.out.next hb)
  clear ho hb c0 c1 c2
  go_wp2_with fail
  go_ret2
  exact newIR_nil HX2.out.2
set_option maxRecDepth 100000 in
set_option maxHeartbeats 8000000 in
theorem ct_valI (h : FldIs R p k g) (s : List (El R)) (hs : s.length ≤ 64) (hE : sqErr p k g (iv s) = 0) (M : Nat) (hM : M ≤ 64) (hL : ¬ s.length < 2 * (bm (cf s) s.length).L) : C1i 12 p k g (iv s) (M : Nat) (NewIR (iv ((contL (bm (cf s) s.length).C s M).drop s.length)) 0) := by
  intro A n c B w hI hB
  have HX := hide (Box.start w 25 p k g)
  have hn : n ≤ 1048576 := by rw [← hI.len, iv_len]; omega
  have HE := hide hE
  have HI := hide hI
  have hsn : s.length = n := by rw [← iv_len]; exact hI.len
  have HSN := hide hsn
  rw [hsn] at hL ⊢
  have hn64 : n ≤ 64 := by omega
  have z1 : decide ((M : Int) < 0) = false := by rw [decide_eq_false_iff_not]; omega
  have z2 : decide ((64 : Int) < (M : Int)) = false := by rw [decide_eq_false_iff_not]; omega
  have HZ := hide (recL_yes hL)
  have b1 := bm_len (cf s) n
  obtain ⟨C, hC⟩ : ∃ C, (bm (cf s) n).C = C := ⟨_, rfl⟩
  rw [hC] at HZ b1 ⊢
  obtain ⟨nc, hnc⟩ : ∃ x, C.length = x := ⟨_, rfl⟩
  have hncn : nc ≤ n + 1 := by omega
  have HNC := hide hnc
  clear hsn hC hnc b1
  clear hI hE
  obtain ⟨c0, c1, c2⟩ := HX.out.cells
  go_enter Try.func12, Try.ntmps12
  go_wp2_with fail
  refine (implSqErr p k g A n c B (iv s) _ (HI.out.below (HX.out.2.mono hB)) (Nat.le_trans hB (Nat.le_of_lt HX.out.lt)) (by omega)).mono ?_
  rw [HE.out]
  rintro e w1 ⟨rfl, hb⟩
  have HX1 := hide (HX.out.next hb)
  clear hb c0 c1 c2
  obtain ⟨c0, c1, c2⟩ := HX1.out.cells
  go_wp2_with fail
  refine (implRecurrence h s A n c B _ (HI.out.below (HX1.out.2.mono hB)) (Nat.le_trans hB (Nat.le_of_lt HX1.out.lt)) hn64).mono ?_
  rw [HZ.out.1, HZ.out.2]
  rintro e w2 ⟨A2, m2, rfl, hm2, ho, hb⟩
  rw [iv_len, HNC.out] at ho ⊢
  have HX2 := hide (HX1.out.next hb)
  have HO2 := hide ho.intsE
  clear ho hb hm2 c0 c1 c2
  obtain ⟨c0, c1, c2⟩ := HX2.out.cells
  go_wp2_with fail
  refine (implContinued h C s M A2 A nc m2 n c _ _ HO2.out ((HI.out.below (HX2.out.2.mono hB)).more (Nat.le_trans hB (Nat.le_of_lt HX2.out.lt))) (Nat.le_refl _) hncn hn64 hM).mono ?_
  rw [HSN.out]
  rintro e w3 ⟨A3, m3, rfl, hm3, ho, hb⟩
  have HX3 := hide (HX2.out.next hb)
  have HO3 := hide (ho.low (base1 := w.heap.size) (Nat.le_of_lt HX2.out.lt))
  have HM3 := hide hm3
  clear ho hb hm3 c0 c1 c2
  go_wp2_with fail
  go_ret2
  exact ⟨A3, m3, rfl, HM3.out, HO3.out, HX3.out.2⟩
set_option maxRecDepth 100000 in
set_option maxHeartbeats 8000000 in
theorem ct_noS (h : FldIs R p k g) (s : List (El R)) (hs : s.length ≤ 64) (hE : sqErr p k g (iv s) = 0) (M : Nat) (hM : M ≤ 64) (hL : s.length < 2 * (bm (cf s) s.length).L) : C1i 13 p k g (iv s) (M : Nat) (NewIK [] 5) := by
  have RCS := hide (rc_valS h s hs hE)
  rw [(recL_no hL).1, recK_no hL] at RCS
  intro A n c B w hI hB
  have HX := hide (Box.start w 25 p k g)
  have hn : n ≤ 1048576 := by rw [← hI.len, iv_len]; omega
  have HE := hide hE
  have HI := hide hI
  have HR := hide (show inR (M : Int) 0 64 = true by rw [inR, decide_eq_true_eq]; omega)
  clear hI hE
  obtain ⟨c0, c1, c2⟩ := HX.out.cells
  go_enter Try.func13, Try.ntmps13
  go_wp2_with fail
  refine (specSqErr p k g A n c B (iv s) _ (HI.out.below (HX.out.2.mono hB)) (Nat.le_trans hB (Nat.le_of_lt HX.out.lt)) (by omega)).mono ?_
  rw [HE.out]
  rintro e w1 ⟨rfl, hb⟩
  have HX1 := hide (HX.out.next hb)
  clear hb c0 c1 c2
  obtain ⟨c0, c1, c2⟩ := HX1.out.cells
  go_wp2_with fail
  refine (specIn_is (M : Int) 0 64 true _ HR.out).mono ?_
  rintro e w3 ⟨rfl, rfl⟩
  go_wp2_with fail
  refine (RCS.out A n c B _ (HI.out.below (HX1.out.2.mono hB)) (Nat.le_trans hB (Nat.le_of_lt HX1.out.lt))).mono ?_
  rintro e w2 ⟨A2, m2, rfl, hm2, ho, hb⟩
  have HX2 := hide (HX1.out.next hb)
  clear ho hb c0 c1 c2
  go_wp2_with fail
  go_ret2
  exact newIK_nil HX2.out.2
def CsRel (w : World) (N1 : Nat) (p k g : Int) (m M nc : Nat) (C s : List (El R)) (A2 : Option Addr) (v i : Value) (wr : World) : Prop :=
  ∃ j : Nat, j ≤ M ∧ i = .int .i64 j ∧ Own wr N1 2 .i64 v (iv (contL C s j)) ∧ Ints .i64 wr N1 A2 nc (iv C) ∧ N1 ≤ wr.heap.size ∧ Box w wr 25 p k g
theorem cont_sum (C s : List (El R)) (j : Nat) : -(ps (cf C) (cf (contL C s j ++ [0])) (s.length + j)) = nextE C (contL C s j) := by rw [nextE, cont_len, cf_zero]
theorem cont_set (C s : List (El R)) (j : Nat) : (contL C s j ++ [0]).set (s.length + j) (nextE C (contL C s j)) = contL C s (j + 1) := by
  rw [List.set_append_right _ _ (by rw [cont_len]; omega), cont_len, Nat.sub_self, List.set_cons_zero]; rfl
set_option maxRecDepth 100000 in
set_option maxHeartbeats 8000000 in
theorem ct_valS (h : FldIs R p k g) (s : List (El R)) (hs : s.length ≤ 64) (hE : sqErr p k g (iv s) = 0) (M : Nat) (hM : M ≤ 64) (hL : ¬ s.length < 2 * (bm (cf s) s.length).L) : C1i 13 p k g (iv s) (M : Nat) (NewIK (iv ((contL (bm (cf s) s.length).C s M).drop s.length)) 0) := by
  have RCS := hide (rc_valS h s hs hE)
  rw [(recL_yes hL).1, recK_yes hL] at RCS
  intro A n c B w hI hB
  have HX := hide (Box.start w 25 p k g)
  have hn : n ≤ 1048576 := by rw [← hI.len, iv_len]; omega
  have HE := hide hE
  have HI := hide hI
  have hsn : s.length = n := by rw [← iv_len]; exact hI.len
  have HSN := hide hsn
  rw [hsn] at hL RCS ⊢
  have hn64 : n ≤ 64 := by omega
  have HR := hide (show inR (M : Int) 0 64 = true by rw [inR, decide_eq_true_eq]; omega)
  have b1 := bm_len (cf s) n
  have b2 := bm_le (cf s) n
  obtain ⟨C, hC⟩ : ∃ C, (bm (cf s) n).C = C := ⟨_, rfl⟩
  rw [hC] at RCS b1 ⊢
  obtain ⟨nc, hnc⟩ : ∃ x, C.length = x := ⟨_, rfl⟩
  have hncn : nc ≤ n + 1 := by omega
  have HNC := hide hnc
  clear hsn hC hnc b1 b2
  clear hI hE
  obtain ⟨c0, c1, c2⟩ := HX.out.cells
  go_enter Try.func13, Try.ntmps13
  go_wp2_with fail
  refine (specSqErr p k g A n c B (iv s) _ (HI.out.below (HX.out.2.mono hB)) (Nat.le_trans hB (Nat.le_of_lt HX.out.lt)) (by omega)).mono ?_
  rw [HE.out]
  rintro e w1 ⟨rfl, hb⟩
  have HX1 := hide (HX.out.next hb)
  clear hb c0 c1 c2
  obtain ⟨c0, c1, c2⟩ := HX1.out.cells
  go_wp2_with fail
  refine (specIn_is (M : Int) 0 64 true _ HR.out).mono ?_
  rintro e w3 ⟨rfl, rfl⟩
  go_wp2_with fail
  refine (RCS.out A n c B _ (HI.out.below (HX1.out.2.mono hB)) (Nat.le_trans hB (Nat.le_of_lt HX1.out.lt))).mono ?_
  rintro e w2 ⟨A2, m2, rfl, hm2, ho, hb⟩
  rw [iv_len, HNC.out] at ho ⊢
  have HX2 := hide (HX1.out.next hb)
  have HO2 := hide ho.intsE
  clear ho hb hm2 c0 c1 c2
  go_wp2_with fail
  refine (specOwnE A n c B s _ (HI.out.below (HX2.out.2.mono hB)) (Nat.le_trans hB (Nat.le_of_lt HX2.out.lt)) (by omega)).mono ?_
  rintro e w4 ⟨A4, m4, rfl, hm4, ho, hb⟩
  have HX4 := hide (HX2.out.next hb)
  have HO4 := hide ho
  have HC4 := hide (HO2.out.below hb)
  have HN4 := hide hb.size
  obtain ⟨N1, hN1⟩ : ∃ N1, w2.heap.size = N1 := ⟨_, rfl⟩
  have HNL := hide (show w.heap.size < N1 by rw [← hN1]; exact HX2.out.lt)
  rw [hN1] at HO4 HC4 HN4
  rw [HSN.out] at HO4 ⊢
  clear ho hb hm4 hN1
  go_wp2_with fail
  go_loopw [11, 12] (fun v i wr => CsRel w N1 p k g n M nc C s A2 v i wr) (fun _ i _ => M - (intOf i).toNat)
  case atStart => exact ⟨0, Nat.zero_le _, rfl, HO4.out, HC4.out, HN4.out, HX4.out⟩
  case round =>
    clear HX4 HO4 HC4 HN4
    obtain ⟨vA, rfl⟩ : ∃ v : Value, v = u11 := ⟨_, rfl⟩
    obtain ⟨j, hj, rfl, HO, HC, HN, HX⟩ := hrel
    have HO := hide HO
    have HC := hide HC
    have HNW := hide HN
    have HX := hide HX
    by_cases hlt : j < M
    · obtain ⟨t, htj⟩ : ∃ t, t = n + j := ⟨_, rfl⟩
      have htb : t ≤ 128 := by omega
      have hnt : n ≤ t := by omega
      have HTJ := hide htj
      have hcl : (iv (contL C s j)).length = t := by rw [iv_len, cont_len, HSN.out, htj]
      obtain ⟨t1, ht1⟩ : ∃ t1, t1 = t + 1 := ⟨_, rfl⟩
      have htt : t < t1 := by omega
      have ht1b : t1 ≤ 130 := by omega
      have hw1 : IntKind.i64.wrap ((t1 : Int) - 1) = (t : Int) := by rw [IntWalk.i64_in _ ⟨by omega, by omega⟩]; omega
      have HCL := hide (show (iv (contL C s j)).length + 1 = t1 by rw [hcl, ht1])
      have HT1 := hide ht1
      clear ht1
      have hlen : ((iv (contL C s j)).length + 1) * 8 ≤ 140737488355328 := by rw [hcl]; omega
      obtain ⟨d, hd⟩ : ∃ d, ps (cf C) (cf (contL C s j ++ [0])) t = d := ⟨_, rfl⟩
      have HD := hide hd
      have HDN := hide (show -d = nextE C (contL C s j) by rw [← hd, htj, ← HSN.out]; exact cont_sum C s j)
      have HST := hide (show (iv (contL C s j ++ [0])).set t ((-d).val : Int) = iv (contL C s (j + 1)) by
        rw [iv_set, HDN.out, htj, ← HSN.out, cont_set])
      have HZ0 := hide (show iv (contL C s j) ++ [0] = iv (contL C s j ++ [0]) by rw [show iv (contL C s j ++ [0]) = iv (contL C s j) ++ iv [0] from List.map_append]; rfl)
      clear hd htj hcl HN
      go_wp2_with (at_builtin; refine wpList_app1M wr rfl _ _ _ rfl elem64 N1 vA _ rfl HO.out 0 rfl hlen HNW.out ?_; intro b cap w5 hown hgrow hloc; rw [HCL.out, HZ0.out] at hown; rw [HCL.out]; have HO5 := hide hown; have HX5 := hide (HX.out.grow' hgrow (fun r hr => Nat.lt_of_lt_of_le HNL.out (HO.out.lt hr).1)); have HC5 := hide (ints_kept HC.out hgrow (fun r hr => (HO.out.lt hr).1) HNW.out); have HN5 := hide (Nat.le_trans HNW.out hgrow.size); clear hown hgrow hloc)
      refine tail_begin (fun w' => w'.cell? ⟨w.heap.size, 0, none⟩ = some (.int .i64 p) ∧ w'.cell? ⟨w.heap.size, 1, none⟩ = some (.int .i64 k) ∧ w'.cell? ⟨w.heap.size, 2, none⟩ = some (.int .i64 g)) 10 (by kernel_rfl) (by exact HX5.out.drew.cells) (fun hS' => ?_)
      refine tail_take 0 rfl (by kernel_rfl) (by kernel_rfl) (by kernel_rfl) (by kernel_rfl) (fun _ _ _ h => h) (by rfl) (v := ?_) ?_ (by assumption) ?_
      rotate_left 1
      · intro w' hS'; (try dsimp only at hS'); go_simp; try with_reducible rfl
      try simp only [Act.put, List.setIfInBounds_toArray, List.set_cons_zero, List.set_cons_succ]
      refine tail_take 1 rfl (by kernel_rfl) (by kernel_rfl) (by kernel_rfl) (by kernel_rfl) (fun _ _ _ h => h) (by rfl) (v := ?_) ?_ (by assumption) ?_
      rotate_left 1
      · intro w' hS'; (try dsimp only at hS'); go_simp; try with_reducible rfl
      try simp only [Act.put, List.setIfInBounds_toArray, List.set_cons_zero, List.set_cons_succ]
      refine tail_take 2 rfl (by kernel_rfl) (by kernel_rfl) (by kernel_rfl) (by kernel_rfl) (fun _ _ _ h => h) (by rfl) (v := ?_) ?_ (by assumption) ?_
      rotate_left 1
      · intro w' hS'; (try dsimp only at hS'); go_simp; try with_reducible rfl
      try simp only [Act.put, List.setIfInBounds_toArray, List.set_cons_zero, List.set_cons_succ]
      refine tail_take 3 rfl (by kernel_rfl) (by kernel_rfl) (by kernel_rfl) (by kernel_rfl) (fun _ _ _ h => h) (by rfl) (v := ?_) ?_ (by assumption) ?_
      rotate_left 1
      · intro w' hS'; (try dsimp only at hS'); go_simp; try with_reducible rfl
      try simp only [Act.put, List.setIfInBounds_toArray, List.set_cons_zero, List.set_cons_succ]
      refine tail_take 4 rfl (by kernel_rfl) (by kernel_rfl) (by kernel_rfl) (by kernel_rfl) (fun _ _ _ h => h) (by rfl) (v := ?_) ?_ (by assumption) ?_
      rotate_left 1
      · intro w' hS'; (try dsimp only at hS'); go_simp; try with_reducible rfl
      try simp only [Act.put, List.setIfInBounds_toArray, List.set_cons_zero, List.set_cons_succ]
      refine tail_take 5 rfl (by kernel_rfl) (by kernel_rfl) (by kernel_rfl) (by kernel_rfl) (fun _ _ _ h => h) (by rfl) (v := ?_) ?_ (by assumption) ?_
      rotate_left 1
      · intro w' hS'; (try dsimp only at hS'); go_simp; try with_reducible rfl
      try simp only [Act.put, List.setIfInBounds_toArray, List.set_cons_zero, List.set_cons_succ]
      refine tail_take 6 rfl (by kernel_rfl) (by kernel_rfl) (by kernel_rfl) (by kernel_rfl) (fun _ _ _ h => h) (by rfl) (v := ?_) ?_ (by assumption) ?_
      rotate_left 1
      · intro w' hS'; (try dsimp only at hS'); go_simp; try with_reducible rfl
      try simp only [Act.put, List.setIfInBounds_toArray, List.set_cons_zero, List.set_cons_succ]
      refine tail_call 7 rfl (by kernel_rfl) rfl (fun K hK => ?_)
      go_simp
      go_at_call 41; refine (specSumAt h C (contL C s j ++ [0]) t A2 (some ⟨b, 0, none⟩) nc m2 t1 cap w5.heap.size _ (HC5.out.drew.more HN5.out) HO5.out.drew.intsE (Nat.le_refl _) htt (by omega) (by omega)).mono ?_; rw [HD.out]; rintro e' w6 ⟨rfl, hb6⟩; have HX6 := hide (HX5.out.drew.next hb6); have HO6 := hide (HO5.out.drew.below hb6 (Nat.le_refl _)); have HC6 := hide (HC5.out.drew.below (hb6.mono HN5.out)); have HN6 := hide (Nat.le_trans HN5.out hb6.size); clear hb6
      refine hK.out _ _ (by (try dsimp only); exact HX6.out.cells) (fun hS' => ?_)
      clear hK K
      try simp only [Act.put, List.setIfInBounds_toArray, List.set_cons_zero, List.set_cons_succ]
      refine tail_call 8 rfl (by kernel_rfl) rfl (fun K hK => ?_)
      go_simp
      go_at_call 40; refine (specNegE h d _).mono ?_; rintro e' w7 ⟨rfl, hb7⟩; have HX7 := hide (HX6.out.next hb7); have HO7 := hide (HO6.out.below hb7 (Nat.le_refl _)); have HC7 := hide (HC6.out.below (hb7.mono HN6.out)); have HN7 := hide (Nat.le_trans HN6.out hb7.size); clear hb7
      refine hK.out _ _ (by (try dsimp only); exact HX7.out.cells) (fun hS' => ?_)
      clear hK K
      try simp only [Act.put, List.setIfInBounds_toArray, List.set_cons_zero, List.set_cons_succ]
      refine tail_take 9 rfl (by kernel_rfl) (by kernel_rfl) (by kernel_rfl) (by kernel_rfl) (fun _ _ _ h => h) (by rfl) (v := ?_) ?_ (by assumption) ?_
      rotate_left 1
      · intro w' hS'; (try dsimp only at hS'); go_simp; try with_reducible rfl
      try simp only [Act.put, List.setIfInBounds_toArray, List.set_cons_zero, List.set_cons_succ]
      have hcx := HO7.out.cellAt (j := t) (List.getElem?_eq_getElem (by rw [iv_len, List.length_append, ← iv_len (contL C s j)]; show t < (iv (contL C s j)).length + 1; rw [HCL.out]; exact htt))
      have hfx := HO7.out.frozenAt t
      refine tail_last 10 rfl (by kernel_rfl) (by kernel_rfl) rfl rfl (fun K hK => ?_)
      go_simp
      refine hK.out _ _ ?_
      clear hK K
      try simp only [Act.put, List.setIfInBounds_toArray, List.set_cons_zero, List.set_cons_succ]
      have hbN : N1 ≤ b := (HO7.out.lt (g := b) rfl).1
      have HO8 := hide (HO7.out.stored t ((-d).val : Int)).1
      have HG8 := hide (HO7.out.stored t ((-d).val : Int)).2
      have HX8 := hide (HX7.out.set b t (.int .i64 ((-d).val : Int)) (Nat.lt_of_lt_of_le HNL.out hbN))
      have HC8 := hide (ints_kept HC7.out HG8.out (fun r hr => by injection hr with hr; omega) HN7.out)
      have HN8 := hide (Nat.le_trans HN7.out HG8.out.size)
      rw [HST.out] at HO8
      clear hcx hfx hS' HX6 HO6 HX7 HO7 HX HO HC HNW HC5 HC6 HC7 HN5 HN6 HN7 HO5 HX5 HG8
      go_wp2_with fail
      go_roundw
      case rel => exact ⟨j + 1, by omega, by go_num, HO8.out, HC8.out, HN8.out, HX8.out⟩
      case measure => simp [intOf]; omega
    · obtain rfl : j = M := by omega
      obtain ⟨AA, cA, rfl, hcA⟩ := HO.out.form
      have hcl : (iv (contL C s j)).length = n + j := by rw [iv_len, cont_len, HSN.out]
      rw [hcl] at hcA HO ⊢
      have HDR := hide (show ((iv (contL C s j)).drop n).take j = iv ((contL C s j).drop n) by
        rw [List.take_of_length_le (by rw [List.length_drop, hcl]; omega), iv, iv, List.map_drop])
      have HS0 := hide (Ints.sub (lo := n) (m := j) (HO.out.ints' hcl) hcA (Nat.le_refl _))
      rw [HDR.out] at HS0
      obtain ⟨rr, hrr⟩ : ∃ rr, (contL C s j).drop n = rr := ⟨_, rfl⟩
      have HQ := hide hrr
      rw [hrr] at HS0
      clear hrr HDR
      have HCA := hide hcA
      obtain ⟨t, ht⟩ : ∃ t, t = n + j := ⟨_, rfl⟩
      have htn : t - n = j := by omega
      have hnt : n ≤ t := by omega
      have htc : t ≤ cA := by omega
      have htb : t ≤ 128 := by omega
      rw [← ht] at HO ⊢
      clear hlt hcl hcA ht HCA
      have hle : wr.heap.size ≤ wr.heap.size := Nat.le_refl _
      by_cases hcp : cA = n
      · have h0 : j = 0 := by omega
        have h1 : t = n := by omega
        have HS2 := hide (show Ints .i64 wr wr.heap.size AA 0 (iv rr) by have := HS0.out; rw [subA, if_pos hcp, h0] at this; exact this)
        subst hcp
        subst h1
        clear HS0 h0 htn hnt htc hle
        go_wp2_with fail
        refine (specOwnE AA 0 _ _ _ _ HS2.out (Nat.le_refl _) (by omega)).mono ?_
        rintro e w9 ⟨A9, m9, rfl, hm9, ho9, hb9⟩
        have HX9 := hide (HX.out.next hb9)
        have HO9 := hide (ho9.low (base' := w.heap.size) (Nat.le_of_lt HX.out.lt))
        clear ho9 hm9 hb9
        go_wp2_with fail
        go_ret2
        rw [HQ.out]
        exact newIK_of HO9.out HX9.out.2 (Nat.le_refl _)
      · have HS2 := hide (show Ints .i64 wr wr.heap.size (AA.map (fun x => x.add n)) (t - n) (iv rr) by have := HS0.out; rw [subA, if_neg hcp, ← htn] at this; rw [htn] at this; rw [htn]; exact this)
        clear HS0 htn hle
        go_wp2_with fail
        refine (specOwnE (AA.map (fun x => x.add n)) (t - n) _ _ rr _ HS2.out (Nat.le_refl _) (by omega)).mono ?_
        rintro e w9 ⟨A9, m9, rfl, hm9, ho9, hb9⟩
        have HX9 := hide (HX.out.next hb9)
        have HO9 := hide (ho9.low (base' := w.heap.size) (Nat.le_of_lt HX.out.lt))
        clear ho9 hm9 hb9
        go_wp2_with fail
        go_ret2
        rw [HQ.out]
        exact newIK_of HO9.out HX9.out.2 (Nat.le_refl _)
theorem ct_both (p k g : Int) (z : List Int) (x : Int) (hz : z.length ≤ 1048576) : ∃ (r : List Int) (cd : Int), r.length ≤ 1048576 ∧ C1i 13 p k g z x (NewIK r cd) ∧ C1i 12 p k g z x (NewIR r cd) := by
  rcases sqErr_cases p k g z with ⟨cd, h, hne, _⟩ | ⟨h, _, R, s, hR, rfl, hs⟩
  · exact ⟨[], cd, by simp, ct_badS z x hz h hne, ct_badI z x hz h hne⟩
  · by_cases hx : 0 ≤ x ∧ x ≤ 64
    · obtain ⟨M, rfl⟩ : ∃ M : Nat, x = M := ⟨x.toNat, by omega⟩
      have hM : M ≤ 64 := by omega
      by_cases hL : s.length < 2 * (bm (cf s) s.length).L
      · exact ⟨[], 5, by simp, ct_noS hR s hs h M hM hL, ct_noI hR s hs h M hM hL⟩
      · exact ⟨_, 0, by rw [iv_len, List.length_drop, cont_len]; omega, ct_valS hR s hs h M hM hL, ct_valI hR s hs h M hM hL⟩
    · exact ⟨[], 2, by simp, ct_rngS _ x hz h (by omega), ct_rngI _ x hz h (by omega)⟩
end
end Go.Proofs.Ytdniocdmncldjaa
