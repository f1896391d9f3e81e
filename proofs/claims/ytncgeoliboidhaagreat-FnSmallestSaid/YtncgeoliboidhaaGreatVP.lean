/-
  Lengths of texts and segments: the program and the model.
  Lengths of texts and segments: the model.
  The model's table of best cells.
  The program's reaches: one step back.
  Condition: as each statement says.
-/
import Derived.Test.YtncgeoliboidhaaGreatVO
import Derived.Test.YtncgeoliboidhaaGreatTail2
import Derived.Test.YtncgeoliboidhaaGreatVN
import Derived.Deep.DeepCutAuto
import Derived.Deep.CutRange
namespace Go.Proofs.YtncgeoliboidhaaGreat
open Go.RowKit
set_option linter.unusedSimpArgs false
set_option linter.unusedVariables false
theorem implSizeB' {y : Int} (hy : y = 1) (w : World) : Calls Tryz.prog 185 #[.agg #[]] w (Gives (.int .i64 y) w) := by rw [hy]; exact implSizeB w

set_option maxRecDepth 100000 in
set_option maxHeartbeats 2000000 in
theorem implTextWidthA (a : ByteArray) (z : Int) (n G W1 W2 T : Nat) (hz : z = (G : Int)) (hn : n ≤ 255) (hg1 : 1 ≤ G) (hg3 : G ≤ 3) (hb1 : W1 ≤ 11) (hb2 : W2 ≤ 11) (hT : T = n / G * W1 + W2)
    (hL1 : ∀ w, Calls Tryz.prog 150 #[.iface 185 (.agg #[.string a, .int .i64 z]), .int .i64 (G : Nat)] w (Gives (.int .i64 (W1 : Nat)) w))
    (hL2 : ∀ w, Calls Tryz.prog 150 #[.iface 185 (.agg #[.string a, .int .i64 z]), .int .i64 (n % G : Nat)] w (Gives (.int .i64 (W2 : Nat)) w)) (w : World) :
    Calls Tryz.prog 142 #[.iface 185 (.agg #[.string a, .int .i64 z]), .int .i64 n] w (Gives (.int .i64 (T : Nat)) w) := by
  have hmd := mdG_a
  have hr0 : n % G < G := Nat.mod_lt _ hg1
  have hq0 : n / G ≤ n := Nat.div_le_self _ _
  have hrem : ((n : Int)).tmod (G : Int) = ((n % G : Nat) : Int) := by rw [Int.tmod_eq_emod_of_nonneg (by omega)]; rfl
  have hquo : ((n : Int)).tdiv (G : Int) = ((n / G : Nat) : Int) := by rw [Int.tdiv_eq_ediv_of_nonneg (by omega)]; rfl
  obtain ⟨R, hR⟩ : ∃ R, n % G = R := ⟨_, rfl⟩
  obtain ⟨Q, hQ⟩ : ∃ Q, n / G = Q := ⟨_, rfl⟩
  rw [hR] at hr0 hrem hL2
  rw [hQ] at hq0 hquo hT
  have hle : Q * W1 ≤ 255 * 11 := Nat.mul_le_mul (by omega) hb1
  have HL1 := hide hL1
  have HL2 := hide hL2
  subst hz
  clear hR hQ hL1 hL2
  obtain ⟨P1, hP⟩ : ∃ P1, Q * W1 = P1 := ⟨_, rfl⟩
  rw [hP] at hT hle
  have hmu : IntKind.i64.wrap ((Q : Int) * (W1 : Int)) = (P1 : Int) := by
    rw [← Int.natCast_mul, hP]; exact IntWalk.i64_in _ ⟨by omega, by omega⟩
  have had : IntKind.i64.wrap ((P1 : Int) + (W2 : Int)) = (T : Int) := by
    rw [hT]; rw [IntWalk.i64_in _ ⟨by omega, by omega⟩]; omega
  have hwQ : IntKind.i64.wrap (Q : Int) = (Q : Int) := IntWalk.i64_in _ ⟨by omega, by omega⟩
  have hwR : IntKind.i64.wrap (R : Int) = (R : Int) := IntWalk.i64_in _ ⟨by omega, by omega⟩
  clear hP hT hle
  obtain ⟨X, hX⟩ : ∃ X : Int, X = (n : Int) := ⟨_, rfl⟩
  obtain ⟨Y, hY⟩ : ∃ Y : Int, Y = (G : Int) := ⟨_, rfl⟩
  have hY0 : Y ≠ 0 := by omega
  rw [← hX, ← hY] at hrem hquo
  rw [← hX]
  rw [← hY] at HL1 HL2
  rw [← hY]
  clear hX hY hr0 hq0 hg1 hg3 hb1 hb2 hn
  go_enter Tryz.func142, Tryz.ntmps142
  go_wp2_with fail
  refine (implSizeA a _ _).mono ?_
  rintro e w1 ⟨rfl, hb1⟩
  have HB1 := hide hb1
  clear hb1
  go_wp2_with fail
  refine tail_begin (fun _ => True) 14 (by kernel_rfl) trivial (fun hS' => ?_)
  refine tail_take2 0 rfl (by kernel_rfl) (by kernel_rfl) (by kernel_rfl) (by decide) (fun _ _ _ h => h) (by rfl) (v := ?_) ?_ (by assumption) ?_
  rotate_left 1
  · intro w' hS'; (try dsimp only at hS'); go_simp; try with_reducible rfl
  try simp only [Act.put, List.setIfInBounds_toArray, List.set_cons_zero, List.set_cons_succ]
  refine tail_take2 1 rfl (by kernel_rfl) (by kernel_rfl) (by kernel_rfl) (by decide) (fun _ _ _ h => h) (by rfl) (v := ?_) ?_ (by assumption) ?_
  rotate_left 1
  · intro w' hS'; (try dsimp only at hS'); go_simp; try with_reducible rfl
  try simp only [Act.put, List.setIfInBounds_toArray, List.set_cons_zero, List.set_cons_succ]
  refine tail_take2 2 rfl (by kernel_rfl) (by kernel_rfl) (by kernel_rfl) (by decide) (fun _ _ _ h => h) (by rfl) (v := ?_) ?_ (by assumption) ?_
  rotate_left 1
  · intro w' hS'; (try dsimp only at hS'); go_simp; try with_reducible rfl
  try simp only [Act.put, List.setIfInBounds_toArray, List.set_cons_zero, List.set_cons_succ]
  refine tail_take2 3 rfl (by kernel_rfl) (by kernel_rfl) (by kernel_rfl) (by decide) (fun _ _ _ h => h) (by rfl) (v := ?_) ?_ (by assumption) ?_
  rotate_left 1
  · intro w' hS'; (try dsimp only at hS'); go_simp; try with_reducible rfl
  try simp only [Act.put, List.setIfInBounds_toArray, List.set_cons_zero, List.set_cons_succ]
  refine tail_take2 4 rfl (by kernel_rfl) (by kernel_rfl) (by kernel_rfl) (by decide) (fun _ _ _ h => h) (by rfl) (v := ?_) ?_ (by assumption) ?_
  rotate_left 1
  · intro w' hS'; (try dsimp only at hS'); go_simp; try with_reducible rfl
  try simp only [Act.put, List.setIfInBounds_toArray, List.set_cons_zero, List.set_cons_succ]
  refine tail_take2 7 rfl (by kernel_rfl) (by kernel_rfl) (by kernel_rfl) (by decide) (fun _ _ _ h => h) (by rfl) (v := ?_) ?_ (by assumption) ?_
  rotate_left 1
  · intro w' hS'; (try dsimp only at hS'); go_simp; try with_reducible rfl
  try simp only [Act.put, List.setIfInBounds_toArray, List.set_cons_zero, List.set_cons_succ]
  refine tail_take2 8 rfl (by kernel_rfl) (by kernel_rfl) (by kernel_rfl) (by decide) (fun _ _ _ h => h) (by rfl) (v := ?_) ?_ (by assumption) ?_
  rotate_left 1
  · intro w' hS'; (try dsimp only at hS'); go_simp; try with_reducible rfl
  try simp only [Act.put, List.setIfInBounds_toArray, List.set_cons_zero, List.set_cons_succ]
  refine tail_take2 9 rfl (by kernel_rfl) (by kernel_rfl) (by kernel_rfl) (by decide) (fun _ _ _ h => h) (by rfl) (v := ?_) ?_ (by assumption) ?_
  rotate_left 1
  · intro w' hS'; (try dsimp only at hS'); go_simp; try with_reducible rfl
  try simp only [Act.put, List.setIfInBounds_toArray, List.set_cons_zero, List.set_cons_succ]
  refine tail_take2 10 rfl (by kernel_rfl) (by kernel_rfl) (by kernel_rfl) (by decide) (fun _ _ _ h => h) (by rfl) (v := ?_) ?_ (by assumption) ?_
  rotate_left 1
  · intro w' hS'; (try dsimp only at hS'); go_simp; try with_reducible rfl
  try simp only [Act.put, List.setIfInBounds_toArray, List.set_cons_zero, List.set_cons_succ]
  refine tail_call 5 rfl (by kernel_rfl) rfl (fun K hK => ?_)
  go_simp
  (go_at_call 150; refine (HL1.out _).mono ?_; rintro e w2 ⟨rfl, hb2⟩; have HB2 := hide (HB1.out.drew.trans (hb2.mono HB1.out.drew.size)); clear hb2)
  refine hK.out _ _ (by (try dsimp only); all_goals trivial) (fun hS' => ?_)
  clear hK K
  try simp only [Act.put, List.setIfInBounds_toArray, List.set_cons_zero, List.set_cons_succ]
  refine tail_take2 6 rfl (by kernel_rfl) (by kernel_rfl) (by kernel_rfl) (by decide) (fun _ _ _ h => h) (by rfl) (v := ?_) ?_ (by assumption) ?_
  rotate_left 1
  · intro w' hS'; (try dsimp only at hS'); go_simp; try with_reducible rfl
  try simp only [Act.put, List.setIfInBounds_toArray, List.set_cons_zero, List.set_cons_succ]
  refine tail_call 11 rfl (by kernel_rfl) rfl (fun K hK => ?_)
  go_simp
  (go_at_call 150; refine (HL2.out _).mono ?_; rintro e w3 ⟨rfl, hb3⟩; have HB3 := hide (HB2.out.trans (hb3.mono HB2.out.size)); clear hb3)
  refine hK.out _ _ (by (try dsimp only); all_goals trivial) (fun hS' => ?_)
  clear hK K
  try simp only [Act.put, List.setIfInBounds_toArray, List.set_cons_zero, List.set_cons_succ]
  refine tail_take2 12 rfl (by kernel_rfl) (by kernel_rfl) (by kernel_rfl) (by decide) (fun _ _ _ h => h) (by rfl) (v := ?_) ?_ (by assumption) ?_
  rotate_left 1
  · intro w' hS'; (try dsimp only at hS'); go_simp; try with_reducible rfl
  try simp only [Act.put, List.setIfInBounds_toArray, List.set_cons_zero, List.set_cons_succ]
  refine tail_take2 13 rfl (by kernel_rfl) (by kernel_rfl) (by kernel_rfl) (by decide) (fun _ _ _ h => h) (by rfl) (v := ?_) ?_ (by assumption) ?_
  rotate_left 1
  · intro w' hS'; (try dsimp only at hS'); go_simp; try with_reducible rfl
  try simp only [Act.put, List.setIfInBounds_toArray, List.set_cons_zero, List.set_cons_succ]
  refine tail_end (by kernel_rfl) ?_
  go_wp2_with fail
  go_ret
  exact ⟨rfl, HB3.out⟩

set_option maxRecDepth 100000 in
set_option maxHeartbeats 2000000 in
theorem implTextWidthB (n G W1 W2 T : Nat) (hz : (1 : Int) = (G : Int)) (hn : n ≤ 255) (hg1 : 1 ≤ G) (hg3 : G ≤ 3) (hb1 : W1 ≤ 11) (hb2 : W2 ≤ 11) (hT : T = n / G * W1 + W2)
    (hL1 : ∀ w, Calls Tryz.prog 150 #[.iface 187 (.agg #[]), .int .i64 (G : Nat)] w (Gives (.int .i64 (W1 : Nat)) w))
    (hL2 : ∀ w, Calls Tryz.prog 150 #[.iface 187 (.agg #[]), .int .i64 (n % G : Nat)] w (Gives (.int .i64 (W2 : Nat)) w)) (w : World) :
    Calls Tryz.prog 142 #[.iface 187 (.agg #[]), .int .i64 n] w (Gives (.int .i64 (T : Nat)) w) := by
  have hmd := mdG_b
  have hr0 : n % G < G := Nat.mod_lt _ hg1
  have hq0 : n / G ≤ n := Nat.div_le_self _ _
  have hrem : ((n : Int)).tmod (G : Int) = ((n % G : Nat) : Int) := by rw [Int.tmod_eq_emod_of_nonneg (by omega)]; rfl
  have hquo : ((n : Int)).tdiv (G : Int) = ((n / G : Nat) : Int) := by rw [Int.tdiv_eq_ediv_of_nonneg (by omega)]; rfl
  obtain ⟨R, hR⟩ : ∃ R, n % G = R := ⟨_, rfl⟩
  obtain ⟨Q, hQ⟩ : ∃ Q, n / G = Q := ⟨_, rfl⟩
  rw [hR] at hr0 hrem hL2
  rw [hQ] at hq0 hquo hT
  have hle : Q * W1 ≤ 255 * 11 := Nat.mul_le_mul (by omega) hb1
  have HL1 := hide hL1
  have HL2 := hide hL2
  
  clear hR hQ hL1 hL2
  obtain ⟨P1, hP⟩ : ∃ P1, Q * W1 = P1 := ⟨_, rfl⟩
  rw [hP] at hT hle
  have hmu : IntKind.i64.wrap ((Q : Int) * (W1 : Int)) = (P1 : Int) := by
    rw [← Int.natCast_mul, hP]; exact IntWalk.i64_in _ ⟨by omega, by omega⟩
  have had : IntKind.i64.wrap ((P1 : Int) + (W2 : Int)) = (T : Int) := by
    rw [hT]; rw [IntWalk.i64_in _ ⟨by omega, by omega⟩]; omega
  have hwQ : IntKind.i64.wrap (Q : Int) = (Q : Int) := IntWalk.i64_in _ ⟨by omega, by omega⟩
  have hwR : IntKind.i64.wrap (R : Int) = (R : Int) := IntWalk.i64_in _ ⟨by omega, by omega⟩
  clear hP hT hle
  obtain ⟨X, hX⟩ : ∃ X : Int, X = (n : Int) := ⟨_, rfl⟩
  obtain ⟨Y, hY⟩ : ∃ Y : Int, Y = (G : Int) := ⟨_, rfl⟩
  have hY0 : Y ≠ 0 := by omega
  rw [← hX, ← hY] at hrem hquo
  rw [← hX]
  rw [← hY] at HL1 hz
  
  clear hX hY hr0 hq0 hg1 hg3 hb1 hb2 hn
  go_enter Tryz.func142, Tryz.ntmps142
  go_wp2_with fail
  refine (implSizeB' hz.symm _).mono ?_
  rintro e w1 ⟨rfl, hb1⟩
  have HB1 := hide hb1
  clear hb1
  go_wp2_with fail
  refine tail_begin (fun _ => True) 14 (by kernel_rfl) trivial (fun hS' => ?_)
  refine tail_take2 0 rfl (by kernel_rfl) (by kernel_rfl) (by kernel_rfl) (by decide) (fun _ _ _ h => h) (by rfl) (v := ?_) ?_ (by assumption) ?_
  rotate_left 1
  · intro w' hS'; (try dsimp only at hS'); go_simp; try with_reducible rfl
  try simp only [Act.put, List.setIfInBounds_toArray, List.set_cons_zero, List.set_cons_succ]
  refine tail_take2 1 rfl (by kernel_rfl) (by kernel_rfl) (by kernel_rfl) (by decide) (fun _ _ _ h => h) (by rfl) (v := ?_) ?_ (by assumption) ?_
  rotate_left 1
  · intro w' hS'; (try dsimp only at hS'); go_simp; try with_reducible rfl
  try simp only [Act.put, List.setIfInBounds_toArray, List.set_cons_zero, List.set_cons_succ]
  refine tail_take2 2 rfl (by kernel_rfl) (by kernel_rfl) (by kernel_rfl) (by decide) (fun _ _ _ h => h) (by rfl) (v := ?_) ?_ (by assumption) ?_
  rotate_left 1
  · intro w' hS'; (try dsimp only at hS'); go_simp; try with_reducible rfl
  try simp only [Act.put, List.setIfInBounds_toArray, List.set_cons_zero, List.set_cons_succ]
  refine tail_take2 3 rfl (by kernel_rfl) (by kernel_rfl) (by kernel_rfl) (by decide) (fun _ _ _ h => h) (by rfl) (v := ?_) ?_ (by assumption) ?_
  rotate_left 1
  · intro w' hS'; (try dsimp only at hS'); go_simp; try with_reducible rfl
  try simp only [Act.put, List.setIfInBounds_toArray, List.set_cons_zero, List.set_cons_succ]
  refine tail_take2 4 rfl (by kernel_rfl) (by kernel_rfl) (by kernel_rfl) (by decide) (fun _ _ _ h => h) (by rfl) (v := ?_) ?_ (by assumption) ?_
  rotate_left 1
  · intro w' hS'; (try dsimp only at hS'); go_simp; try with_reducible rfl
  try simp only [Act.put, List.setIfInBounds_toArray, List.set_cons_zero, List.set_cons_succ]
  refine tail_take2 7 rfl (by kernel_rfl) (by kernel_rfl) (by kernel_rfl) (by decide) (fun _ _ _ h => h) (by rfl) (v := ?_) ?_ (by assumption) ?_
  rotate_left 1
  · intro w' hS'; (try dsimp only at hS'); go_simp; try with_reducible rfl
  try simp only [Act.put, List.setIfInBounds_toArray, List.set_cons_zero, List.set_cons_succ]
  refine tail_take2 8 rfl (by kernel_rfl) (by kernel_rfl) (by kernel_rfl) (by decide) (fun _ _ _ h => h) (by rfl) (v := ?_) ?_ (by assumption) ?_
  rotate_left 1
  · intro w' hS'; (try dsimp only at hS'); go_simp; try with_reducible rfl
  try simp only [Act.put, List.setIfInBounds_toArray, List.set_cons_zero, List.set_cons_succ]
  refine tail_take2 9 rfl (by kernel_rfl) (by kernel_rfl) (by kernel_rfl) (by decide) (fun _ _ _ h => h) (by rfl) (v := ?_) ?_ (by assumption) ?_
  rotate_left 1
  · intro w' hS'; (try dsimp only at hS'); go_simp; try with_reducible rfl
  try simp only [Act.put, List.setIfInBounds_toArray, List.set_cons_zero, List.set_cons_succ]
  refine tail_take2 10 rfl (by kernel_rfl) (by kernel_rfl) (by kernel_rfl) (by decide) (fun _ _ _ h => h) (by rfl) (v := ?_) ?_ (by assumption) ?_
  rotate_left 1
  · intro w' hS'; (try dsimp only at hS'); go_simp; try with_reducible rfl
  try simp only [Act.put, List.setIfInBounds_toArray, List.set_cons_zero, List.set_cons_succ]
  refine tail_call 5 rfl (by kernel_rfl) rfl (fun K hK => ?_)
  go_simp
  (go_at_call 150; refine (HL1.out _).mono ?_; rintro e w2 ⟨rfl, hb2⟩; have HB2 := hide (HB1.out.drew.trans (hb2.mono HB1.out.drew.size)); clear hb2)
  refine hK.out _ _ (by (try dsimp only); all_goals trivial) (fun hS' => ?_)
  clear hK K
  try simp only [Act.put, List.setIfInBounds_toArray, List.set_cons_zero, List.set_cons_succ]
  refine tail_take2 6 rfl (by kernel_rfl) (by kernel_rfl) (by kernel_rfl) (by decide) (fun _ _ _ h => h) (by rfl) (v := ?_) ?_ (by assumption) ?_
  rotate_left 1
  · intro w' hS'; (try dsimp only at hS'); go_simp; try with_reducible rfl
  try simp only [Act.put, List.setIfInBounds_toArray, List.set_cons_zero, List.set_cons_succ]
  refine tail_call 11 rfl (by kernel_rfl) rfl (fun K hK => ?_)
  go_simp
  (go_at_call 150; refine (HL2.out _).mono ?_; rintro e w3 ⟨rfl, hb3⟩; have HB3 := hide (HB2.out.trans (hb3.mono HB2.out.size)); clear hb3)
  refine hK.out _ _ (by (try dsimp only); all_goals trivial) (fun hS' => ?_)
  clear hK K
  try simp only [Act.put, List.setIfInBounds_toArray, List.set_cons_zero, List.set_cons_succ]
  refine tail_take2 12 rfl (by kernel_rfl) (by kernel_rfl) (by kernel_rfl) (by decide) (fun _ _ _ h => h) (by rfl) (v := ?_) ?_ (by assumption) ?_
  rotate_left 1
  · intro w' hS'; (try dsimp only at hS'); go_simp; try with_reducible rfl
  try simp only [Act.put, List.setIfInBounds_toArray, List.set_cons_zero, List.set_cons_succ]
  refine tail_take2 13 rfl (by kernel_rfl) (by kernel_rfl) (by kernel_rfl) (by decide) (fun _ _ _ h => h) (by rfl) (v := ?_) ?_ (by assumption) ?_
  rotate_left 1
  · intro w' hS'; (try dsimp only at hS'); go_simp; try with_reducible rfl
  try simp only [Act.put, List.setIfInBounds_toArray, List.set_cons_zero, List.set_cons_succ]
  refine tail_end (by kernel_rfl) ?_
  go_wp2_with fail
  go_ret
  exact ⟨rfl, HB3.out⟩

theorem implTextWidth (m : Int) (hm : 1 ≤ m ∧ m ≤ 4) (n : Nat) (hn : n ≤ 255) (w : World) :
    Calls Tryz.prog 142 #[MV m, .int .i64 n] w (Gives (.int .i64 (twid m n : Nat)) w) := by
  have hW1 := implGroupWidth m hm (gsz m) (Nat.le_refl _)
  have hW2 := implGroupWidth m hm (n % gsz m) (Nat.le_of_lt (Nat.mod_lt _ (gsz_pos m)))
  by_cases h4 : m = 4
  · subst h4; rw [MV_b] at hW1 hW2 ⊢; exact implTextWidthB n (gsz 4) _ _ _ rfl hn (gsz_pos _) (gsz_le _) (wid_le _ _) (wid_le _ _) rfl hW1 hW2 w
  · have hm3 : m = 1 ∨ m = 2 ∨ m = 3 := by omega
    rw [MV_a hm3] at hW1 hW2 ⊢; exact implTextWidthA (stS m) _ n (gsz m) _ _ _ rfl hn (gsz_pos _) (gsz_le _) (wid_le _ _) (wid_le _ _) rfl hW1 hW2 w

set_option maxRecDepth 100000 in
set_option maxHeartbeats 1000000 in
theorem implSegLen0 (m : Int) (s : ByteArray) (hm : 1 ≤ m ∧ m ≤ 4) (hs : s.size ≤ 255) (w : World) :
    Calls Tryz.prog 126 #[.agg #[.int .i64 m, .string s]] w (Gives (.int .i64 (slen m s.size : Nat)) w) := by
  have HX := hide (SBox.start w 120 m s)
  obtain ⟨c0, c1⟩ := HX.out.cells
  have HM := hide (implModeOf m hm)
  have HT := hide (implTextWidth m hm s.size hs)
  have ht := twid_le (m := m) hs
  obtain ⟨M, hM⟩ : ∃ M, MV m = M := ⟨_, rfl⟩
  rw [hM] at HM HT
  have hsl : slen m s.size = 11 + twid m s.size := rfl
  rw [hsl]
  clear hsl
  obtain ⟨T, hT⟩ : ∃ T, twid m s.size = T := ⟨_, rfl⟩
  rw [hT] at HT ht ⊢
  have hw1 : IntKind.i64.wrap (11 + (T : Int)) = ((11 + T : Nat) : Int) := by rw [IntWalk.i64_in _ ⟨by omega, by omega⟩]; omega
  clear hM hT
  go_enter Tryz.func126, Tryz.ntmps126
  go_wp2_with fail
  refine (HM.out _).mono ?_
  rintro e _ ⟨rfl, rfl⟩
  go_wp2_with fail
  refine (HT.out _).mono ?_
  rintro e w1 ⟨rfl, hb1⟩
  have HX1 := hide (HX.out.next hb1)
  clear hb1 c0 c1
  go_wp2_with fail
  go_ret
  exact ⟨rfl, HX1.out.2⟩

/-- The length of a segment. -/
def segL (m : Int) (bs : List Int) : Int := if segB m bs then ((slen m bs.length : Nat) : Int) else -1

/-- How many characters the model takes a mode to have. -/
def sbase (m : Int) : Int := if m = 1 then 10 else if m = 2 then 45 else 256
theorem specGroup (m : Int) (hm : 1 ≤ m ∧ m ≤ 4) (w : World) :
    Calls Tryz.prog 129 #[.int .i64 m] w fun e w' => e = .returned (.tuple #[.int .i64 (gsz m : Nat), .int .i64 (sbase m)]) ∧ w' = w := by
  have hh : m = 1 ∨ m = 2 ∨ m = 3 ∨ m = 4 := by omega
  rcases hh with rfl | rfl | rfl | rfl
  all_goals
    go_enter Tryz.func129, Tryz.ntmps129
    go_wp2_with fail
    go_ret2
    exact ⟨rfl, rfl⟩

set_option maxRecDepth 100000 in
set_option maxHeartbeats 2000000 in
theorem specWidth (m : Int) (hm : 1 ≤ m ∧ m ≤ 4) (c : Nat) (hc1 : 1 ≤ c) (hc : c ≤ gsz m) (w : World) :
    Calls Tryz.prog 130 #[.int .i64 m, .int .i64 c] w (Gives (.int .i64 (wid m c : Nat)) w) := by
  have hh : m = 1 ∨ m = 2 ∨ m = 3 ∨ m = 4 := by omega
  rcases hh with rfl | rfl | rfl | rfl
  · have h3 : c ≤ 3 := hc
    have : c = 1 ∨ c = 2 ∨ c = 3 := by omega
    clear hc hm hc1 h3
    rcases this with rfl | rfl | rfl
    all_goals
      go_enter Tryz.func130, Tryz.ntmps130
      go_wp2_with fail
      go_ret
      exact ⟨rfl, (Below.refl _ _).alloc (Nat.le_refl _) _⟩
  · have h3 : c ≤ 2 := hc
    have : c = 1 ∨ c = 2 := by omega
    clear hc hm hc1 h3
    rcases this with rfl | rfl
    all_goals
      go_enter Tryz.func130, Tryz.ntmps130
      go_wp2_with fail
      go_ret
      exact ⟨rfl, (Below.refl _ _).alloc (Nat.le_refl _) _⟩
  all_goals
    have h3 : c ≤ 1 := hc
    have : c = 1 := by omega
    clear hc hm hc1 h3
    subst this
    go_enter Tryz.func130, Tryz.ntmps130
    go_wp2_with fail
    go_ret
    exact ⟨rfl, Below.refl _ _⟩
end Go.Proofs.YtncgeoliboidhaaGreat

namespace Go.Proofs.YtncgeoliboidhaaGreat
open Go.RowKit
set_option linter.unusedSimpArgs false
set_option linter.unusedVariables false

set_option maxRecDepth 100000 in
set_option maxHeartbeats 2000000 in
theorem specLength (m : Int) (hm : 1 ≤ m ∧ m ≤ 4) (n : Nat) (hn : n ≤ 255) (w : World) :
    Calls Tryz.prog 128 #[.int .i64 m, .int .i64 n] w (Gives (.int .i64 (slen m n : Nat)) w) := by
  have HG := hide (specGroup m hm)
  have hg1 := gsz_pos m
  have hg3 := gsz_le m
  have hL1 := specWidth m hm (gsz m) hg1 (Nat.le_refl _)
  have hr0 : n % gsz m < gsz m := Nat.mod_lt _ hg1
  have hL2 := fun h => specWidth m hm (n % gsz m) h (Nat.le_of_lt hr0)
  have hT : slen m n = 11 + (n / gsz m * wid m (gsz m) + wid m (n % gsz m)) := rfl
  have hb1 := wid_le m (gsz m)
  have hb2 := wid_le m (n % gsz m)
  have h0 : n % gsz m = 0 → wid m (n % gsz m) = 0 := fun h => by rw [h]; rfl
  generalize wid m (n % gsz m) = W2 at hL2 hT hb2 h0
  generalize wid m (gsz m) = W1 at hL1 hT hb1
  generalize slen m n = T at hT ⊢
  generalize gsz m = G at HG hg1 hg3 hL1 hL2 hr0 hT h0
  have hq0 : n / G ≤ n := Nat.div_le_self _ _
  have hrem : ((n : Int)).tmod (G : Int) = ((n % G : Nat) : Int) := by rw [Int.tmod_eq_emod_of_nonneg (by omega)]; rfl
  have hquo : ((n : Int)).tdiv (G : Int) = ((n / G : Nat) : Int) := by rw [Int.tdiv_eq_ediv_of_nonneg (by omega)]; rfl
  generalize n % G = R at hr0 hrem hL2 h0
  generalize n / G = Q at hq0 hquo hT
  have hle : Q * W1 ≤ 255 * 11 := Nat.mul_le_mul (by omega) hb1
  have HL1 := hide hL1
  have HL2 := hide hL2
  clear hL1 hL2
  obtain ⟨P1, hP⟩ : ∃ P1, Q * W1 = P1 := ⟨_, rfl⟩
  rw [hP] at hT hle
  have hmu : IntKind.i64.wrap ((Q : Int) * (W1 : Int)) = (P1 : Int) := by
    rw [← Int.natCast_mul, hP]; exact IntWalk.i64_in _ ⟨by omega, by omega⟩
  have ha1 : IntKind.i64.wrap (11 + (P1 : Int)) = ((11 + P1 : Nat) : Int) := by rw [IntWalk.i64_in _ ⟨by omega, by omega⟩]; omega
  have hwQ : IntKind.i64.wrap (Q : Int) = (Q : Int) := IntWalk.i64_in _ ⟨by omega, by omega⟩
  have hwR : IntKind.i64.wrap (R : Int) = (R : Int) := IntWalk.i64_in _ ⟨by omega, by omega⟩
  have had : IntKind.i64.wrap (((11 + P1 : Nat) : Int) + (W2 : Int)) = (T : Int) := by
    rw [hT]; rw [IntWalk.i64_in _ ⟨by omega, by omega⟩]; omega
  have HZ := hide (show R = 0 → 11 + P1 = T from fun h => by rw [hT, h0 h]; omega)
  generalize 11 + P1 = T1 at ha1 had HZ
  clear hP hT hle h0 hb1 hb2
  obtain ⟨X, hX⟩ : ∃ X : Int, X = (n : Int) := ⟨_, rfl⟩
  obtain ⟨Y, hY⟩ : ∃ Y : Int, Y = (G : Int) := ⟨_, rfl⟩
  have hY0 : Y ≠ 0 := by omega
  rw [← hX, ← hY] at hrem hquo
  rw [← hX]
  rw [← hY] at HL1 HG
  clear hX hY hr0 hq0 hg1 hg3 hn
  go_enter Tryz.func128, Tryz.ntmps128
  go_wp2_with fail
  refine (HG.out _).mono ?_
  rintro e w1 ⟨rfl, hw1⟩
  rw [hw1]
  clear hw1
  go_wp2_with fail
  refine tail_begin (fun _ => True) 9 (by kernel_rfl) trivial (fun hS' => ?_)
  refine tail_take2 0 rfl (by kernel_rfl) (by kernel_rfl) (by kernel_rfl) (by decide) (fun _ _ _ h => h) (by rfl) (v := ?_) ?_ (by assumption) ?_
  rotate_left 1
  · intro w' hS'; (try dsimp only at hS'); go_simp; try with_reducible rfl
  try simp only [Act.put, List.setIfInBounds_toArray, List.set_cons_zero, List.set_cons_succ]
  refine tail_take2 1 rfl (by kernel_rfl) (by kernel_rfl) (by kernel_rfl) (by decide) (fun _ _ _ h => h) (by rfl) (v := ?_) ?_ (by assumption) ?_
  rotate_left 1
  · intro w' hS'; (try dsimp only at hS'); go_simp; try with_reducible rfl
  try simp only [Act.put, List.setIfInBounds_toArray, List.set_cons_zero, List.set_cons_succ]
  refine tail_take2 2 rfl (by kernel_rfl) (by kernel_rfl) (by kernel_rfl) (by decide) (fun _ _ _ h => h) (by rfl) (v := ?_) ?_ (by assumption) ?_
  rotate_left 1
  · intro w' hS'; (try dsimp only at hS'); go_simp; try with_reducible rfl
  try simp only [Act.put, List.setIfInBounds_toArray, List.set_cons_zero, List.set_cons_succ]
  refine tail_take2 3 rfl (by kernel_rfl) (by kernel_rfl) (by kernel_rfl) (by decide) (fun _ _ _ h => h) (by rfl) (v := ?_) ?_ (by assumption) ?_
  rotate_left 1
  · intro w' hS'; (try dsimp only at hS'); go_simp; try with_reducible rfl
  try simp only [Act.put, List.setIfInBounds_toArray, List.set_cons_zero, List.set_cons_succ]
  refine tail_take2 4 rfl (by kernel_rfl) (by kernel_rfl) (by kernel_rfl) (by decide) (fun _ _ _ h => h) (by rfl) (v := ?_) ?_ (by assumption) ?_
  rotate_left 1
  · intro w' hS'; (try dsimp only at hS'); go_simp; try with_reducible rfl
  try simp only [Act.put, List.setIfInBounds_toArray, List.set_cons_zero, List.set_cons_succ]
  refine tail_call 5 rfl (by kernel_rfl) rfl (fun K hK => ?_)
  go_simp
  (go_at_call 130; refine (HL1.out _).mono ?_; rintro e w2 ⟨rfl, hb2⟩; have HB2 := hide (below_drewN (Below.refl _ w) 1 |>.trans hb2); clear hb2)
  refine hK.out _ _ (by (try dsimp only); all_goals trivial) (fun hS' => ?_)
  clear hK K
  try simp only [Act.put, List.setIfInBounds_toArray, List.set_cons_zero, List.set_cons_succ]
  refine tail_take2 6 rfl (by kernel_rfl) (by kernel_rfl) (by kernel_rfl) (by decide) (fun _ _ _ h => h) (by rfl) (v := ?_) ?_ (by assumption) ?_
  rotate_left 1
  · intro w' hS'; (try dsimp only at hS'); go_simp; try with_reducible rfl
  try simp only [Act.put, List.setIfInBounds_toArray, List.set_cons_zero, List.set_cons_succ]
  refine tail_take2 7 rfl (by kernel_rfl) (by kernel_rfl) (by kernel_rfl) (by decide) (fun _ _ _ h => h) (by rfl) (v := ?_) ?_ (by assumption) ?_
  rotate_left 1
  · intro w' hS'; (try dsimp only at hS'); go_simp; try with_reducible rfl
  try simp only [Act.put, List.setIfInBounds_toArray, List.set_cons_zero, List.set_cons_succ]
  refine tail_take2 8 rfl (by kernel_rfl) (by kernel_rfl) (by kernel_rfl) (by decide) (fun _ _ _ h => h) (by rfl) (v := ?_) ?_ (by assumption) ?_
  rotate_left 1
  · intro w' hS'; (try dsimp only at hS'); go_simp; try with_reducible rfl
  try simp only [Act.put, List.setIfInBounds_toArray, List.set_cons_zero, List.set_cons_succ]
  refine tail_end (by kernel_rfl) ?_
  by_cases hz : R = 0
  · have HE := hide (HZ.out hz)
    subst hz
    go_wp2_with fail
    go_ret
    exact ⟨ret_int (by rw [HE.out]), HB2.out⟩
  · have hpos : (0 : Int) < (R : Int) := by omega
    have HL3 := hide (HL2.out (by omega))
    clear hz HL2
    go_wp2_with fail
    refine (HL3.out _).mono ?_
    rintro e w3 ⟨rfl, hb3⟩
    have HB3 := hide (HB2.out.trans (hb3.mono HB2.out.size))
    clear hb3
    go_wp2_with fail
    go_ret
    exact ⟨rfl, HB3.out⟩

end Go.Proofs.YtncgeoliboidhaaGreat

namespace Go.Proofs.YtncgeoliboidhaaGreat
open Go.RowKit
set_option linter.unusedSimpArgs false
set_option linter.unusedVariables false

/-- A new block holds a cell. -/
def NewCel (T : TypeId) (wr : World) (l c s m : Nat) (v : Value) (wx : World) : Prop :=
  ∃ b, v = .pointer (some ⟨b, 0, none⟩) ∧ wr.heap.size ≤ b ∧ wx.heap[b]? = some (.cells #[.int .i64 l, .int .i64 c, .int .i64 s, .int .i64 m] T (0, 0)) ∧ Below wr.heap.size wr wx
def Rw1 (w : World) (n n1 : Nat) (bs : List Int) (i : Value) (wr : World) : Prop :=
  ∃ (x : Int) (q : Nat), i = .int .i64 x ∧ x = (q : Int) - 1 ∧ q ≤ n ∧ RowQ wr w.heap.size 138 n1 (tabN bs (n - q)) ∧ Below w.heap.size w wr
def Rw2 (w : World) (n1 : Nat) (bs : List Int) (p : Nat) (t : Nat → Cel) (f md : Value) (wr : World) : Prop :=
  ∃ q mq : Nat, q ≤ 4 ∧ Hid (mq = q + 1) ∧ 1 ≤ mq ∧ mq ≤ 5 ∧ md = .int .i64 mq ∧ f = .bool (decide ((fmd t bs p q).s ≠ 0)) ∧ RowQ wr w.heap.size 138 n1 (upd t p (fmd t bs p q)) ∧ Below w.heap.size w wr
def Rw3 (w : World) (n1 p mq R : Nat) (t : Nat → Cel) (a0 : Cel) (f sz : Value) (wr : World) : Prop :=
  ∃ k z : Nat, k ≤ R ∧ Hid (z = k + 1) ∧ 1 ≤ z ∧ z ≤ 256 ∧ sz = .int .i64 z ∧ f = .bool (decide ((fsiz t mq p k a0).s ≠ 0)) ∧ RowQ wr w.heap.size 138 n1 (upd t p (fsiz t mq p k a0)) ∧ Below w.heap.size w wr
/-- What the table leaves. -/
def TabPost (n : Nat) (bs : List Int) (w : World) (e : Ending) (w' : World) : Prop :=
  e = .returned (.slice (some ⟨w.heap.size, 0, none⟩) (n + 1) (n + 1)) ∧ RowQ w' w.heap.size 138 (n + 1) (tabN bs n) ∧ Below w.heap.size w w'
theorem row_keep4 {w : World} {b : Nat} {o : Obj} (h : w.heap[b]? = some o) (o' : Obj) : (w.alloc o').heap[b]? = some o := by
  rw [heap_alloc_old w o' (Array.getElem?_eq_some_iff.1 h).1]; exact h
theorem one4 (a b c d : Int) : (#[Value.int .i64 a, Value.int .i64 b, Value.int .i64 c, Value.int .i64 d] : Array Value).all (·.oneCell') = true := by simp [Value.oneCell']
theorem put_fin {w wy : World} {N p : Nat} {T : TypeId} {t : Nat → Cel} {a : Cel} (h1 : RowQ wy w.heap.size T N (upd t p a)) (h2 : Below w.heap.size w wy) (hp : p < N) (x : Cel) : RowQ (set4 wy w.heap.size p x) w.heap.size T N (upd t p x) ∧ Below w.heap.size w (set4 wy w.heap.size p x) :=
  ⟨by have h := h1.put hp x; rw [upd_upd] at h; exact h, h2.grown (set4_grown _ _ _ _) h2.size (fun g hg => by cases hg; exact Nat.le_refl _)⟩
theorem newcel_fin {T : TypeId} {wq w2 : World} {l c s m b : Nat} {old : Array Value} (hb : Below wq.heap.size wq w2) (hg : w2.heap[b]? = some (.cells old T (0, 0))) (h1 : wq.heap.size ≤ b) :
    NewCel T wq l c s m (.pointer (some ⟨b, 0, none⟩)) (w2.setRow b #[.int .i64 l, .int .i64 c, .int .i64 s, .int .i64 m]) :=
  ⟨b, rfl, h1, setRow_heap _ _ _ _ _ _ hg, ⟨hb.os, hb.tape, hb.output, by simp; exact hb.size, fun i hi => (setRow_other w2 b i _ (by omega)).trans (hb.block i hi)⟩⟩
theorem bytesI_at {s : ByteArray} {k : Nat} {y : Int} (h : (bytesI s)[k]? = some y) {p j : Nat} (hk : k = p + j) : ((bytesI s).drop p)[j]? = some y := by rw [List.getElem?_drop, ← hk]; exact h

set_option maxRecDepth 100000 in
set_option maxHeartbeats 8000000 in
theorem specTable (s : ByteArray) (hs : s.size ≤ 400) (w : World) :
    Calls Tryz.prog 109 #[.string s] w (TabPost s.size (bytesI s) w) := by
  obtain ⟨n1, hn1⟩ : ∃ n1, s.size + 1 = n1 := ⟨_, rfl⟩
  have HN1 := hide hn1
  obtain ⟨cs, hcs, hrun⟩ := make_cells n1 (by omega)
  have hrun0 := hrun w
  rw [show (n1 : Int) = (s.size : Int) + 1 by omega] at hrun0
  clear hn1
  have HR0 := hide (RowQ.new w 138 hcs)
  have HB0 := hide (show Below w.heap.size w (w.alloc (.cells cs 138)) from (Below.refl _ _).alloc (Nat.le_refl _) _)
  have hlen : (bytesI s).length = s.size := by rw [bytesI_len]
  have HLEN := hide hlen
  have HT0 := hide (show (fun _ => zc) = tabN (bytesI s) (s.size - s.size) by rw [Nat.sub_self]; funext i; rfl)
  clear hcs hrun hlen
  go_enter Tryz.func109, Tryz.ntmps109
  go_wp2_with fail
  obtain ⟨w0, hw0⟩ : ∃ w0, w.alloc (.cells cs 138) = w0 := ⟨_, rfl⟩
  rw [hw0] at HR0 HB0 ⊢
  clear hw0 hrun0
  go_loopw [5] (fun i wr => Rw1 w s.size n1 (bytesI s) i wr) (fun i _ => (intOf i + 1).toNat)
  case atStart => exact ⟨_, s.size, rfl, rfl, Nat.le_refl _, by rw [← HT0.out]; exact HR0.out, HB0.out⟩
  case round =>
    clear HR0 HB0 HT0
    obtain ⟨x1, q1, rfl, hx1, hq1, hrow, hb⟩ := hrel
    have HROW := hide hrow
    have HB := hide hb
    clear hrow hb
    by_cases hq : q1 = 0
    · have hx0 : x1 < 0 := by omega
      have HF := hide (show TabPost s.size (bytesI s) w (.returned (.slice (some ⟨w.heap.size, 0, none⟩) n1 n1)) wr from ⟨by rw [HN1.out], by have h := HROW.out; rw [hq, Nat.sub_zero, ← HN1.out] at h; exact h, HB.out⟩)
      clear hx1 hq
      go_wp2_with fail
      go_ret
      exact HF.out
    · obtain ⟨p, hp⟩ : ∃ p, q1 = p + 1 := ⟨q1 - 1, by omega⟩
      obtain rfl : x1 = (p : Int) := by omega
      have hps : p < s.size := by omega
      have HJ := hide (show p + (s.size - q1) + 1 = s.size by omega)
      have HQ1 := hide hp
      obtain ⟨t, ht⟩ : ∃ t, tabN (bytesI s) (s.size - q1) = t := ⟨_, rfl⟩
      have HOK := hide (show ∀ j, Ok s.size j (t j) from fun j => by have h := ok_tab (bytesI s) (s.size - q1) j; rw [HLEN.out, ht] at h; exact h)
      have HZ := hide (show t p = zc by rw [← ht]; exact tabN_zero (.inl (by rw [HLEN.out]; omega)))
      have HSTEP := hide (show upd t p (fmd t (bytesI s) p 4) = tabN (bytesI s) (s.size - p) by
        have h := tabN_step (bs := bytesI s) (j := s.size - q1) (i := p) (by rw [HLEN.out]; omega)
        rw [ht] at h
        rw [show s.size - p = s.size - q1 + 1 by omega]; exact h)
      rw [ht] at HROW
      have HROW0 := hide (show RowQ wr w.heap.size 138 n1 (upd t p (fmd t (bytesI s) p 0)) by
        rw [show fmd t (bytesI s) p 0 = t p by rw [HZ.out]; rfl, upd_self]; exact HROW.out)
      clear hp hx1 hq ht hq1 HROW
      go_wp2_with fail
      obtain ⟨wo, rfl⟩ : ∃ wo : World, wo = wr := ⟨_, rfl⟩
      go_loopw [6, 7] (fun f md wr => Rw2 w n1 (bytesI s) p t f md wr) (fun _ md _ => (5 - intOf md).toNat)
      case atStart => exact ⟨0, 1, by omega, rfl, by omega, by omega, rfl, rfl, HROW0.out, HB.out⟩
      case round =>
        clear HROW0 HB
        obtain ⟨q, mq, hq4, hmq, hm1, hm5, rfl, rfl, hrow, hb⟩ := hrel
        have HMQ := hmq
        have HROW := hide hrow
        have HB := hide hb
        clear hmq hrow hb
        by_cases hlast : mq = 5
        · have HQ4 := hide (show q = 4 by have := HMQ.out; omega)
          have hm5' : ¬ (mq : Int) ≤ 4 := by omega
          have HRW := hide (show RowQ wr w.heap.size 138 n1 (tabN (bytesI s) (s.size - p)) by have h := HROW.out; rw [HQ4.out, HSTEP.out] at h; exact h)
          clear hlast HROW
          obtain ⟨b0, hb0⟩ : ∃ b0, decide ((fmd t (bytesI s) p q).s ≠ 0) = b0 := ⟨_, rfl⟩
          rw [hb0]
          clear hb0
          go_wp2_with fail
          go_roundw
          case rel => exact ⟨_, p, rfl, rfl, by omega, HRW.out, HB.out⟩
          case measure => simp [intOf]
        · have hm4 : mq ≤ 4 := by omega
          have hm4D : decide ((mq : Int) ≤ 4) = true := decide_eq_true (by omega)
          obtain ⟨a0, ha0⟩ : ∃ a, fmd t (bytesI s) p q = a := ⟨_, rfl⟩
          obtain ⟨R, hR⟩ : ∃ R, rch (mq : Int) ((bytesI s).drop p) = R := ⟨_, rfl⟩
          have hRl : R ≤ s.size - p ∧ R ≤ 255 := by
            have h := rch_le (mq : Int) ((bytesI s).drop p)
            rw [hR, List.length_drop, HLEN.out] at h; exact h
          have HRR := hide hR
          have HFM := hide (show fmd t (bytesI s) p (q + 1) = fsiz t mq p R a0 by rw [fmd, ← HMQ.out, hR, ha0])
          have HOA := hide (show Ok s.size p a0 by rw [← ha0]; have h := ok_fmd (bs := bytesI s) (i := p) (t := t) (by rw [HLEN.out]; exact HOK.out) (by rw [HLEN.out]; omega) q hq4; rw [HLEN.out] at h; exact h)
          rw [ha0] at HROW ⊢
          clear ha0 hlast hR
          obtain ⟨b0, hb0⟩ : ∃ b0, decide (a0.s ≠ 0) = b0 := ⟨_, rfl⟩
          have HB0 := hide hb0
          rw [hb0]
          clear hb0
          go_wp2_with fail
          obtain ⟨wo2, rfl⟩ : ∃ wo : World, wo = wr := ⟨_, rfl⟩
          go_loopw [6, 8] (fun f sz wr => Rw3 w n1 p mq R t a0 f sz wr) (fun _ sz _ => (256 - intOf sz).toNat)
          case atStart => exact ⟨0, 1, Nat.zero_le _, rfl, by omega, by omega, rfl, by rw [← HB0.out]; rfl, HROW.out, HB.out⟩
          case round =>
            clear HROW HB HB0
            obtain ⟨k, z, hkR, hz, hz1, hz2, rfl, rfl, hrow, hb⟩ := hrel
            have HKZ := hz
            have HROW := hide hrow
            have HB := hide hb
            clear hz hrow hb
            obtain ⟨a, ha⟩ : ∃ a, fsiz t mq p k a0 = a := ⟨_, rfl⟩
            have HA := hide ha
            rw [ha] at HROW ⊢
            clear ha
            obtain ⟨b1, hb1⟩ : ∃ b1, decide (a.s ≠ 0) = b1 := ⟨_, rfl⟩
            have HB1 := hide hb1
            rw [hb1]
            clear hb1
            have HEND := hide (fun (h : k = R) => show Rw2 w n1 (bytesI s) p t (.bool b1) (.int .i64 ((mq + 1 : Nat) : Int)) wr from ⟨q + 1, mq + 1, by have := HMQ.out; omega, hide (by have := HMQ.out; omega), by omega, by omega, rfl, by rw [HFM.out, ← h, HA.out, HB1.out], by rw [HFM.out, ← h, HA.out]; exact HROW.out, HB.out⟩)
            by_cases hz255 : z = 256
            · have HE := hide (HEND.out (by have := HKZ.out; omega))
              have hz' : ¬ (z : Int) ≤ 255 := by omega
              clear hz255 HEND
              go_wp2_with fail
              go_roundw
              case rel => exact HE.out
              case measure => simp [intOf]; omega
            · have hz3 : z ≤ 255 := by omega
              obtain ⟨xz, hxz⟩ : ∃ xz, p + z = xz := ⟨_, rfl⟩
              have hxzI : (p : Int) + (z : Int) = (xz : Int) := by omega
              clear hz255
              by_cases hin : xz ≤ s.size
              ·
                obtain ⟨xb, hxb⟩ : ∃ xb, xz = xb + 1 := ⟨xz - 1, by omega⟩
                have hxbI : (xz : Int) - 1 = (xb : Int) := by omega
                have hxbs : xb < s.size := by omega
                have HXB := hide (show xb = p + k by have := HKZ.out; omega)
                obtain ⟨y, hy, hy2, hy0, hy1⟩ := byteAt s hxbs
                have HY := hide (bytesI_at hy2 HXB.out)
                have hwy : IntKind.i64.wrap y = y := IntWalk.i64_in _ ⟨by omega, by omega⟩
                have HXZ := hide hxz
                have hxz1 : xz < n1 := by have := HN1.out; omega
                clear hy2 hxb hxz
                go_wp2_with fail
                refine (specValue (mq : Int) y _).mono ?_
                rintro e wr ⟨rfl, rfl⟩
                obtain ⟨cv, hcv⟩ : ∃ cv, cval (mq : Int) y = cv := ⟨_, rfl⟩
                rw [hcv]
                have HCV := hide hcv
                clear hcv hwy hy hy0 hy1 hxbI
                by_cases hneg : cv < 0
                · have HE := hide (HEND.out (by
                    have h1 := rch_next (m := (mq : Int)) (l := (bytesI s).drop p) (k := k) (x := y) (by rw [HRR.out]; exact hkR) (by have := HKZ.out; omega) HY.out
                    rw [HRR.out, HCV.out] at h1; omega))
                  clear HEND
                  go_wp2_with fail
                  go_roundw
                  case rel => exact HE.out
                  case measure => simp [intOf]; omega
                · have HKR := hide (show k + 1 ≤ R by
                    have h1 := rch_next (m := (mq : Int)) (l := (bytesI s).drop p) (k := k) (x := y) (by rw [HRR.out]; exact hkR) (by have := HKZ.out; omega) HY.out
                    rw [HRR.out, HCV.out] at h1; omega)
                  obtain ⟨r, hr⟩ : ∃ r, t xz = r := ⟨_, rfl⟩
                  have hokr := HOK.out xz
                  have hC := HROW.out.cells (i := xz) hxz1
                  rw [upd_ne t a (by have := HXZ.out; omega), hr] at hC
                  rw [hr] at hokr
                  obtain ⟨l1, c1, s1, m1⟩ := r
                  obtain ⟨hc1, hl1, _⟩ := hokr
                  simp only at hC hc1 hl1
                  obtain ⟨d0, d1, d2, d3⟩ := hC
                  obtain ⟨sl, hsl⟩ : ∃ sl, slen (mq : Int) z = sl := ⟨_, rfl⟩
                  have hsl2 : sl ≤ 2827 := by rw [← hsl]; exact slen_le hz3
                  obtain ⟨lx, hlx⟩ : ∃ lx, sl + l1 = lx := ⟨_, rfl⟩
                  obtain ⟨cx, hcx⟩ : ∃ cx, c1 + 1 = cx := ⟨_, rfl⟩
                  have hw5 : IntKind.i64.wrap ((sl : Int) + (l1 : Int)) = (lx : Int) := by rw [IntWalk.i64_in _ ⟨by omega, by omega⟩]; omega
                  have hw8 : IntKind.i64.wrap ((c1 : Int) + 1) = (cx : Int) := by rw [IntWalk.i64_in _ ⟨by omega, by omega⟩]; omega
                  have HFS := hide (show fsiz t mq p (k + 1) a0 = cput a ⟨lx, cx, z, mq⟩ by
                    rw [fsiz, HA.out]
                    unfold cnd
                    rw [show k + 1 = z from HKZ.out.symm, HXZ.out, hr, hsl, ← hlx, ← hcx])
                  have HLEN1 := hide (specLength (mq : Int) ⟨by omega, by omega⟩ z hz3)
                  rw [hsl] at HLEN1
                  have HEND2 := hide (fun (a' : Cel) (wx : World) (h1 : cput a ⟨lx, cx, z, mq⟩ = a') (h2 : RowQ wx w.heap.size 138 n1 (upd t p a')) (h3 : Below w.heap.size w wx) => show Rw3 w n1 p mq R t a0 (.bool (decide (a'.s ≠ 0))) (.int .i64 ((z + 1 : Nat) : Int)) wx from ⟨k + 1, z + 1, HKR.out, hide (by have := HKZ.out; omega), by omega, by omega, rfl, by rw [HFS.out, h1], by rw [HFS.out, h1]; exact h2, h3⟩)
                  clear hsl hlx hcx hr hc1 hl1 HEND hsl2
                  go_upto_region 15 with fail
                  obtain ⟨wq, hwq⟩ : ∃ wq, wr.alloc (.cells #[.int .i64 l1, .int .i64 c1, .int .i64 s1, .int .i64 m1] 138) = wq := ⟨_, rfl⟩
                  have HROWq := hide (show RowQ wq w.heap.size 138 n1 (upd t p a) by rw [← hwq]; exact HROW.out.alloc _)
                  have HBq := hide (show Below w.heap.size w wq by rw [← hwq]; exact HB.out.alloc HB.out.size _)
                  have HRq := hide (show wq.heap[wr.heap.size]? = some (.cells #[.int .i64 l1, .int .i64 c1, .int .i64 s1, .int .i64 m1] 138 (0, 0)) by rw [← hwq]; exact heap_alloc_new wr _)
                  rw [hwq]
                  clear hwq d0 d1 d2 d3
                  go_cut [10] from 53 to 64 (fun s10 wx => NewCel 138 wq lx cx z mq s10 wx)
                  case first =>
                    have HRd := hide (show wq.drew.heap[wr.heap.size]? = some (.cells #[.int .i64 l1, .int .i64 c1, .int .i64 s1, .int .i64 m1] 138 (0, 0)) from HRq.out)
                    have HBd := hide (Below.refl wq.heap.size wq).drew
                    have hsd : wq.drew.heap.size = wq.heap.size := rfl
                    have HSD := hide hsd
                    refine tail_begin (fun w' => w'.cell? ⟨wr.heap.size, 0, none⟩ = some (.int .i64 l1) ∧ w'.cell? ⟨wr.heap.size, 1, none⟩ = some (.int .i64 c1) ∧ w'.cell? ⟨wr.heap.size, 2, none⟩ = some (.int .i64 s1) ∧ w'.cell? ⟨wr.heap.size, 3, none⟩ = some (.int .i64 m1)) 13 (by kernel_rfl) (row4 HRd.out) (fun hS' => ?_)
                    obtain ⟨wd, hwd⟩ : ∃ q, wq.drew = q := ⟨_, rfl⟩
                    rw [hwd] at hS' HRd HBd HSD ⊢
                    clear hwd hsd
                    refine tail_take 0 rfl (by kernel_rfl) (by kernel_rfl) (by kernel_rfl) (by kernel_rfl) (fun _ _ _ h => h) (by rfl) (v := ?_) ?_ (by assumption) ?_
                    rotate_left 1
                    · intro w' hS'; obtain ⟨c0, c1, c2, c3⟩ := hS'; go_simp; try with_reducible rfl
                    try simp only [Act.put, List.setIfInBounds_toArray, List.set_cons_zero, List.set_cons_succ]
                    refine tail_take 1 rfl (by kernel_rfl) (by kernel_rfl) (by kernel_rfl) (by kernel_rfl) (fun _ _ _ h => h) (by rfl) (v := ?_) ?_ (by assumption) ?_
                    rotate_left 1
                    · intro w' hS'; obtain ⟨c0, c1, c2, c3⟩ := hS'; go_simp; try with_reducible rfl
                    try simp only [Act.put, List.setIfInBounds_toArray, List.set_cons_zero, List.set_cons_succ]
                    refine tail_take 3 rfl (by kernel_rfl) (by kernel_rfl) (by kernel_rfl) (by kernel_rfl) (fun _ _ _ h => h) (by rfl) (v := ?_) ?_ (by assumption) ?_
                    rotate_left 1
                    · intro w' hS'; obtain ⟨c0, c1, c2, c3⟩ := hS'; go_simp; try with_reducible rfl
                    try simp only [Act.put, List.setIfInBounds_toArray, List.set_cons_zero, List.set_cons_succ]
                    refine tail_take 4 rfl (by kernel_rfl) (by kernel_rfl) (by kernel_rfl) (by kernel_rfl) (fun _ _ _ h => h) (by rfl) (v := ?_) ?_ (by assumption) ?_
                    rotate_left 1
                    · intro w' hS'; obtain ⟨c0, c1, c2, c3⟩ := hS'; go_simp; try with_reducible rfl
                    try simp only [Act.put, List.setIfInBounds_toArray, List.set_cons_zero, List.set_cons_succ]
                    refine tail_take 6 rfl (by kernel_rfl) (by kernel_rfl) (by kernel_rfl) (by kernel_rfl) (fun _ _ _ h => h) (by rfl) (v := ?_) ?_ (by assumption) ?_
                    rotate_left 1
                    · intro w' hS'; obtain ⟨c0, c1, c2, c3⟩ := hS'; go_simp; try with_reducible rfl
                    try simp only [Act.put, List.setIfInBounds_toArray, List.set_cons_zero, List.set_cons_succ]
                    refine tail_take 7 rfl (by kernel_rfl) (by kernel_rfl) (by kernel_rfl) (by kernel_rfl) (fun _ _ _ h => h) (by rfl) (v := ?_) ?_ (by assumption) ?_
                    rotate_left 1
                    · intro w' hS'; obtain ⟨c0, c1, c2, c3⟩ := hS'; go_simp; try with_reducible rfl
                    try simp only [Act.put, List.setIfInBounds_toArray, List.set_cons_zero, List.set_cons_succ]
                    refine tail_take 8 rfl (by kernel_rfl) (by kernel_rfl) (by kernel_rfl) (by kernel_rfl) (fun _ _ _ h => h) (by rfl) (v := ?_) ?_ (by assumption) ?_
                    rotate_left 1
                    · intro w' hS'; obtain ⟨c0, c1, c2, c3⟩ := hS'; go_simp; try with_reducible rfl
                    try simp only [Act.put, List.setIfInBounds_toArray, List.set_cons_zero, List.set_cons_succ]
                    refine tail_take 9 rfl (by kernel_rfl) (by kernel_rfl) (by kernel_rfl) (by kernel_rfl) (fun _ _ _ h => h) (by rfl) (v := ?_) ?_ (by assumption) ?_
                    rotate_left 1
                    · intro w' hS'; obtain ⟨c0, c1, c2, c3⟩ := hS'; go_simp; try with_reducible rfl
                    try simp only [Act.put, List.setIfInBounds_toArray, List.set_cons_zero, List.set_cons_succ]
                    refine tail_take 10 rfl (by kernel_rfl) (by kernel_rfl) (by kernel_rfl) (by kernel_rfl) (fun _ _ _ h => h) (by rfl) (v := ?_) ?_ (by assumption) ?_
                    rotate_left 1
                    · intro w' hS'; obtain ⟨c0, c1, c2, c3⟩ := hS'; go_simp; try with_reducible rfl
                    try simp only [Act.put, List.setIfInBounds_toArray, List.set_cons_zero, List.set_cons_succ]
                    refine tail_two 2 12 rfl rfl (by kernel_rfl) rfl rfl (fun K' hK => ?_) (fun K' hK => ?_)
                    · go_simp
                      go_at_call 128
                      refine (HLEN1.out _).mono ?_
                      rintro e w2 ⟨rfl, hb2⟩
                      have HR2 := hide (show w2.heap[wr.heap.size]? = some (.cells #[.int .i64 l1, .int .i64 c1, .int .i64 s1, .int .i64 m1] 138 (0, 0)) from by rw [hb2.block _ (Array.getElem?_eq_some_iff.1 HRd.out).1]; exact HRd.out)
                      have HB2 := hide (HBd.out.trans (hb2.mono HBd.out.size))
                      clear hb2
                      refine hK.out _ _ (by (try dsimp only); exact row4 HR2.out) (fun hS' => ?_)
                      clear hK K'
                      try simp only [Act.put, List.setIfInBounds_toArray, List.set_cons_zero, List.set_cons_succ]
                      refine tail_take 5 rfl (by kernel_rfl) (by kernel_rfl) (by kernel_rfl) (by kernel_rfl) (fun _ _ _ h => h) (by rfl) (v := ?_) ?_ (by assumption) ?_
                      rotate_left 1
                      · intro w' hS'; obtain ⟨c0, c1, c2, c3⟩ := hS'; go_simp; try with_reducible rfl
                      try simp only [Act.put, List.setIfInBounds_toArray, List.set_cons_zero, List.set_cons_succ]
                      refine tail_take 11 rfl (by kernel_rfl) (by kernel_rfl) (by kernel_rfl) (by kernel_rfl) (fun _ _ _ h => h) (by rfl) (v := ?_) ?_ (by assumption) ?_
                      rotate_left 1
                      · intro w' hS'; obtain ⟨c0, c1, c2, c3⟩ := hS'; go_simp; try with_reducible rfl
                      try simp only [Act.put, List.setIfInBounds_toArray, List.set_cons_zero, List.set_cons_succ]
                      refine tail_call 12 rfl (by kernel_rfl) rfl (fun K' hK => ?_)
                      go_simp
                      refine hK.out _ _ (by (try dsimp only); exact row4 (row_keep4 HR2.out _)) (fun hS' => ?_)
                      clear hK K'
                      try simp only [Act.put, List.setIfInBounds_toArray, List.set_cons_zero, List.set_cons_succ]
                      refine tail_last 13 rfl (by kernel_rfl) (by kernel_rfl) rfl rfl (fun K' hK => ?_)
                      refine wp_store_row 138 (.tmp 10) (.tmp 64) rfl w2.heap.size #[.int .i64 lx, .int .i64 cx, .int .i64 z, .int .i64 mq] rfl rfl 138 _ (heap_alloc_new w2 _) (by kernel_rfl) rfl (one4 _ _ _ _) ?_
                      refine hK.out _ _ ?_
                      clear hK K'
                      try simp only [Act.put, List.setIfInBounds_toArray, List.set_cons_zero, List.set_cons_succ]
                      have HF := hide (newcel_fin (l := lx) (c := cx) (s := z) (m := mq) (HB2.out.alloc HB2.out.size (.cells #[.int .i64 0, .int .i64 0, .int .i64 0, .int .i64 0] 138)) (heap_alloc_new w2 _) HB2.out.size)
                      clear hS'
                      (try go_wp2_with fail)
                      go_meet
                      exact HF.out
                    · go_simp
                      refine hK.out _ _ (by (try dsimp only); exact row4 (row_keep4 HRd.out _)) (fun hS' => ?_)
                      clear hK K'
                      try simp only [Act.put, List.setIfInBounds_toArray, List.set_cons_zero, List.set_cons_succ]
                      refine tail_call 2 rfl (by kernel_rfl) rfl (fun K' hK => ?_)
                      go_simp
                      go_at_call 128
                      refine (HLEN1.out _).mono ?_
                      rintro e w2 ⟨rfl, hb2⟩
                      have HR2 := hide (show w2.heap[wr.heap.size]? = some (.cells #[.int .i64 l1, .int .i64 c1, .int .i64 s1, .int .i64 m1] 138 (0, 0)) from by rw [hb2.block _ (by have := (Array.getElem?_eq_some_iff.1 HRd.out).1; rw [alloc_size]; omega)]; exact row_keep4 HRd.out _)
                      have HZ2 := hide (show w2.heap[wd.heap.size]? = some (.cells #[.int .i64 0, .int .i64 0, .int .i64 0, .int .i64 0] 138 (0, 0)) from by rw [hb2.block _ (by rw [alloc_size]; omega)]; exact heap_alloc_new wd _)
                      have HB2 := hide ((HBd.out.alloc HBd.out.size (.cells #[.int .i64 0, .int .i64 0, .int .i64 0, .int .i64 0] 138)).trans (hb2.mono (by rw [alloc_size]; have := HBd.out.size; omega)))
                      clear hb2
                      refine hK.out _ _ (by (try dsimp only); exact row4 HR2.out) (fun hS' => ?_)
                      clear hK K'
                      try simp only [Act.put, List.setIfInBounds_toArray, List.set_cons_zero, List.set_cons_succ]
                      refine tail_take 5 rfl (by kernel_rfl) (by kernel_rfl) (by kernel_rfl) (by kernel_rfl) (fun _ _ _ h => h) (by rfl) (v := ?_) ?_ (by assumption) ?_
                      rotate_left 1
                      · intro w' hS'; obtain ⟨c0, c1, c2, c3⟩ := hS'; go_simp; try with_reducible rfl
                      try simp only [Act.put, List.setIfInBounds_toArray, List.set_cons_zero, List.set_cons_succ]
                      refine tail_take 11 rfl (by kernel_rfl) (by kernel_rfl) (by kernel_rfl) (by kernel_rfl) (fun _ _ _ h => h) (by rfl) (v := ?_) ?_ (by assumption) ?_
                      rotate_left 1
                      · intro w' hS'; obtain ⟨c0, c1, c2, c3⟩ := hS'; go_simp; try with_reducible rfl
                      try simp only [Act.put, List.setIfInBounds_toArray, List.set_cons_zero, List.set_cons_succ]
                      refine tail_last 13 rfl (by kernel_rfl) (by kernel_rfl) rfl rfl (fun K' hK => ?_)
                      refine wp_store_row 138 (.tmp 10) (.tmp 64) rfl wd.heap.size #[.int .i64 lx, .int .i64 cx, .int .i64 z, .int .i64 mq] rfl rfl 138 _ HZ2.out (by kernel_rfl) rfl (one4 _ _ _ _) ?_
                      refine hK.out _ _ ?_
                      clear hK K'
                      try simp only [Act.put, List.setIfInBounds_toArray, List.set_cons_zero, List.set_cons_succ]
                      have HF := hide (newcel_fin (l := lx) (c := cx) (s := z) (m := mq) HB2.out HZ2.out (by rw [HSD.out]; exact Nat.le_refl _))
                      clear hS'
                      (try go_wp2_with fail)
                      go_meet
                      exact HF.out
                  case rest =>
                    obtain ⟨bx, hbx, hbx1, hbx2, hbx3⟩ := hcut
                    subst hbx
                    have HRX := hide hbx2
                    have HROWc := hide (HROWq.out.next hbx3)
                    have HBc := hide (HBq.out.trans (hbx3.mono HBq.out.size))
                    have hwq1 : w.heap.size < wq.heap.size := HROWq.out.lt
                    have hne : w.heap.size ≠ bx := by omega
                    clear hbx2 hbx3 HROWq HBq HRq
                    obtain ⟨x0, x1, x2, x3⟩ := row4 HRX.out
                    have hA := HROWc.out.cells (i := p) (by have := HN1.out; omega)
                    rw [upd_at] at hA
                    have HAA := hide hA
                    obtain ⟨a0', a1', a2', a3'⟩ := hA
                    have f0 := HROWc.out.frozen (p * 4)
                    have f1 := HROWc.out.frozen (p * 4 + 1)
                    have f2 := HROWc.out.frozen (p * 4 + 2)
                    have f3 := HROWc.out.frozen (p * 4 + 3)
                    have hps1 : p < n1 := by have := HN1.out; omega
                    have HEP := hide (fun (wy : World) (h0 : cput a ⟨lx, cx, z, mq⟩ = ⟨lx, cx, z, mq⟩) (h1 : RowQ wy w.heap.size 138 n1 (upd t p a)) (h2 : Below w.heap.size w wy) => show Rw3 w n1 p mq R t a0 (.bool true) (.int .i64 ((z + 1 : Nat) : Int)) (set4 wy w.heap.size p ⟨lx, cx, z, mq⟩) from by
                      obtain ⟨g1, g2⟩ := put_fin h1 h2 hps1 ⟨lx, cx, z, mq⟩
                      have h := HEND2.out ⟨lx, cx, z, mq⟩ _ h0 g1 g2
                      rw [show decide ((⟨lx, cx, z, mq⟩ : Cel).s ≠ 0) = true from decide_eq_true (by show z ≠ 0; omega)] at h
                      exact h)
                    by_cases ha0 : a.s = 0
                    · obtain rfl : b1 = false := by rw [← HB1.out]; simp [ha0]
                      have HCP := hide (show cput a ⟨lx, cx, z, mq⟩ = ⟨lx, cx, z, mq⟩ by unfold cput; rw [if_pos ha0])
                      clear ha0
                      go_wp2_with fail
                      refine tail_begin (fun _ => True) 10 (by kernel_rfl) trivial (fun hS' => ?_)
                      refine tail_take2 0 rfl (by kernel_rfl) (by kernel_rfl) (by kernel_rfl) (by decide) (fun _ _ _ h => h) (by rfl) (v := ?_) ?_ (by assumption) ?_
                      rotate_left 1
                      · intro w' hS'; (try dsimp only at hS'); go_simp; try with_reducible rfl
                      try simp only [Act.put, List.setIfInBounds_toArray, List.set_cons_zero, List.set_cons_succ]
                      refine tail_take2 1 rfl (by kernel_rfl) (by kernel_rfl) (by kernel_rfl) (by decide) (fun _ _ _ h => h) (by rfl) (v := ?_) ?_ (by assumption) ?_
                      rotate_left 1
                      · intro w' hS'; (try dsimp only at hS'); go_simp; try with_reducible rfl
                      try simp only [Act.put, List.setIfInBounds_toArray, List.set_cons_zero, List.set_cons_succ]
                      refine tail_take2 2 rfl (by kernel_rfl) (by kernel_rfl) (by kernel_rfl) (by decide) (fun _ _ _ h => h) (by rfl) (v := ?_) ?_ (by assumption) ?_
                      rotate_left 1
                      · intro w' hS'; (try dsimp only at hS'); go_simp; try with_reducible rfl
                      try simp only [Act.put, List.setIfInBounds_toArray, List.set_cons_zero, List.set_cons_succ]
                      refine tail_skip 3 rfl (by kernel_rfl) (by kernel_rfl) (by kernel_rfl) (by decide) (fun _ _ _ h => h) (by rfl) (by assumption) ?_
                      try simp only [Act.put, List.setIfInBounds_toArray, List.set_cons_zero, List.set_cons_succ]
                      refine tail_skip 4 rfl (by kernel_rfl) (by kernel_rfl) (by kernel_rfl) (by decide) (fun _ _ _ h => h) (by rfl) (by assumption) ?_
                      try simp only [Act.put, List.setIfInBounds_toArray, List.set_cons_zero, List.set_cons_succ]
                      refine tail_skip 5 rfl (by kernel_rfl) (by kernel_rfl) (by kernel_rfl) (by decide) (fun _ _ _ h => h) (by rfl) (by assumption) ?_
                      try simp only [Act.put, List.setIfInBounds_toArray, List.set_cons_zero, List.set_cons_succ]
                      refine tail_skip 6 rfl (by kernel_rfl) (by kernel_rfl) (by kernel_rfl) (by decide) (fun _ _ _ h => h) (by rfl) (by assumption) ?_
                      try simp only [Act.put, List.setIfInBounds_toArray, List.set_cons_zero, List.set_cons_succ]
                      refine tail_skip 7 rfl (by kernel_rfl) (by kernel_rfl) (by kernel_rfl) (by decide) (fun _ _ _ h => h) (by rfl) (by assumption) ?_
                      try simp only [Act.put, List.setIfInBounds_toArray, List.set_cons_zero, List.set_cons_succ]
                      refine tail_skip 8 rfl (by kernel_rfl) (by kernel_rfl) (by kernel_rfl) (by decide) (fun _ _ _ h => h) (by rfl) (by assumption) ?_
                      try simp only [Act.put, List.setIfInBounds_toArray, List.set_cons_zero, List.set_cons_succ]
                      refine tail_take2 9 rfl (by kernel_rfl) (by kernel_rfl) (by kernel_rfl) (by decide) (fun _ _ _ h => h) (by rfl) (v := ?_) ?_ (by assumption) ?_
                      rotate_left 1
                      · intro w' hS'; (try dsimp only at hS'); go_simp; try with_reducible rfl
                      try simp only [Act.put, List.setIfInBounds_toArray, List.set_cons_zero, List.set_cons_succ]
                      refine tail_end (by kernel_rfl) ?_
                      have HROWd := hide HROWc.out.drew
                      have HBd := hide HBc.out.drew
                      have HRXd := hide (show wc.drew.heap[bx]? = _ from HRX.out)
                      obtain ⟨wy, hwy⟩ : ∃ wy, wc.drew = wy := ⟨_, rfl⟩
                      rw [hwy] at HROWd HBd HRXd ⊢
                      clear hwy x0 x1 x2 x3 a0' a1' a2' a3' f0 f1 f2 f3
                      obtain ⟨x0, x1, x2, x3⟩ := row4 HRXd.out
                      obtain ⟨a0', a1', a2', a3'⟩ := HROWd.out.cells hps1
                      have f0 := HROWd.out.frozen (p * 4)
                      have f1 := HROWd.out.frozen (p * 4 + 1)
                      have f2 := HROWd.out.frozen (p * 4 + 2)
                      have f3 := HROWd.out.frozen (p * 4 + 3)
                      have HEPd := hide (HEP.out wy HCP.out HROWd.out HBd.out)
                      go_wp2_with fail
                      go_roundw
                      case rel => exact HEPd.out
                      case measure => simp [intOf]; omega
                    · obtain rfl : b1 = true := by rw [← HB1.out]; simp [ha0]
                      have HCP := hide (show cput a ⟨lx, cx, z, mq⟩ = if btr ⟨lx, cx, z, mq⟩ a then ⟨lx, cx, z, mq⟩ else a by unfold cput; rw [if_neg ha0])
                      have HRXn := hide (fun (wy : World) (h : Below wc.heap.size wc wy) => show wy.heap[bx]? = some (.cells #[.int .i64 lx, .int .i64 cx, .int .i64 z, .int .i64 mq] 138 (0, 0)) from by rw [h.block _ (Array.getElem?_eq_some_iff.1 HRX.out).1]; exact HRX.out)
                      have HRWn := hide (fun (wy : World) (h : Below wc.heap.size wc wy) => HROWc.out.next h)
                      have HBn := hide (fun (wy : World) (h : Below wc.heap.size wc wy) => HBc.out.trans (h.mono HBc.out.size))
                      have HSn := hide (fun (wy : World) (h : Below wc.heap.size wc wy) => show (wy.cell? ⟨bx, 0, none⟩ = some (.int .i64 lx) ∧ wy.cell? ⟨bx, 1, none⟩ = some (.int .i64 cx) ∧ wy.cell? ⟨bx, 2, none⟩ = some (.int .i64 z) ∧ wy.cell? ⟨bx, 3, none⟩ = some (.int .i64 mq)) ∧ (wy.cell? ⟨w.heap.size, p * 4, none⟩ = some (.int .i64 a.l) ∧ wy.cell? ⟨w.heap.size, p * 4 + 1, none⟩ = some (.int .i64 a.c) ∧ wy.cell? ⟨w.heap.size, p * 4 + 2, none⟩ = some (.int .i64 a.s) ∧ wy.cell? ⟨w.heap.size, p * 4 + 3, none⟩ = some (.int .i64 a.m)) from ⟨row4 (HRXn.out wy h), by have q := (HRWn.out wy h).cells hps1; rw [upd_at] at q; exact q⟩)
                      have HD := hide ((Below.refl wc.heap.size wc).drew)
                      clear ha0
                      go_wp2_with fail
                      go_region_held3 (fun w' => (w'.cell? ⟨bx, 0, none⟩ = some (.int .i64 lx) ∧ w'.cell? ⟨bx, 1, none⟩ = some (.int .i64 cx) ∧ w'.cell? ⟨bx, 2, none⟩ = some (.int .i64 z) ∧ w'.cell? ⟨bx, 3, none⟩ = some (.int .i64 mq)) ∧ (w'.cell? ⟨w.heap.size, p * 4, none⟩ = some (.int .i64 a.l) ∧ w'.cell? ⟨w.heap.size, p * 4 + 1, none⟩ = some (.int .i64 a.c) ∧ w'.cell? ⟨w.heap.size, p * 4 + 2, none⟩ = some (.int .i64 a.s) ∧ w'.cell? ⟨w.heap.size, p * 4 + 3, none⟩ = some (.int .i64 a.m)))
                        (first
                          | exact HSn.out _ HD.out
                          | exact HSn.out _ HD2.out)
                        ((go_at_call 138; refine (specBetter ⟨lx, cx, z, mq⟩ a _).mono ?_; rintro e w2 ⟨rfl, hb2⟩; have HD2 := hide (HD.out.trans (hb2.mono HD.out.size)); clear hb2))
                      have HROWd := hide (HRWn.out _ HD2.out)
                      have HBd := hide (HBn.out _ HD2.out)
                      have HRXd := hide (HRXn.out _ HD2.out)
                      clear x0 x1 x2 x3 a0' a1' a2' a3' f0 f1 f2 f3 HD HSn HRXn HRWn HBn
                      obtain ⟨x0, x1, x2, x3⟩ := row4 HRXd.out
                      obtain ⟨a0', a1', a2', a3'⟩ := HROWd.out.cells hps1
                      have f0 := HROWd.out.frozen (p * 4)
                      have f1 := HROWd.out.frozen (p * 4 + 1)
                      have f2 := HROWd.out.frozen (p * 4 + 2)
                      have f3 := HROWd.out.frozen (p * 4 + 3)
                      by_cases hbt : btr ⟨lx, cx, z, mq⟩ a = true
                      · have HEPd := hide (HEP.out w2 (by rw [HCP.out, if_pos hbt]) HROWd.out HBd.out)
                        rw [hbt]
                        clear hbt
                        go_wp2_with fail
                        go_roundw
                        case rel => exact HEPd.out
                        case measure => simp [intOf]; omega
                      · have hbf : btr ⟨lx, cx, z, mq⟩ a = false := by simpa using hbt
                        have HE2 := hide (show Rw3 w n1 p mq R t a0 (.bool true) (.int .i64 ((z + 1 : Nat) : Int)) w2 from by
                          have h := HEND2.out a w2 (by rw [HCP.out, if_neg hbt]) HROWd.out HBd.out
                          rw [HB1.out] at h; exact h)
                        rw [hbf]
                        clear hbt hbf
                        go_wp2_with fail
                        go_roundw
                        case rel => exact HE2.out
                        case measure => simp [intOf]; omega
              · have HE := hide (HEND.out (by have := HKZ.out; omega))
                have hin' : ¬ (xz : Int) ≤ (s.size : Int) := by omega
                clear HEND hin hxz
                go_wp2_with fail
                go_roundw
                case rel => exact HE.out
                case measure => simp [intOf]; omega
end Go.Proofs.YtncgeoliboidhaaGreat

namespace Go.Proofs.YtncgeoliboidhaaGreat
open Go.RowKit
set_option linter.unusedSimpArgs false
set_option linter.unusedVariables false

/-- How far a mode reaches one index before. -/
def stb (m y : Int) (sz : Nat) : Nat := if cval m y < 0 then 0 else min (sz + 1) 255
/-- What a step back leaves: one cell has changed. -/
def StepPost (g o ns : Nat) (w : World) (e : Ending) (w' : World) : Prop := e = .returned (.tuple #[]) ∧ ∃ w1, Below w.heap.size w w1 ∧ w' = w1.setCell ⟨g, o + 3, none⟩ (.int .i64 ns)

set_option maxRecDepth 100000 in
set_option maxHeartbeats 2000000 in
theorem implStepA (m : Int) (a : ByteArray) (zz : Int) (g o sz : Nat) (y : Int) (w : World) (hy0 : 0 ≤ y) (hy1 : y ≤ 255) (hsz : sz ≤ 255) (hg : g < w.heap.size)
    (hV : ∀ b w, Calls Tryz.prog 182 #[.agg #[.string a, .int .i64 zz], .int .i64 b] w (Gives (.int .i64 (cval m b)) w))
    (h1 : w.cell? ⟨g, o + 1, none⟩ = some (.iface 185 (.agg #[.string a, .int .i64 zz]))) (h3 : w.cell? ⟨g, o + 3, none⟩ = some (.int .i64 sz)) (hf : w.frozen? ⟨g, o + 3, none⟩ = false) :
    Calls Tryz.prog 117 #[.pointer (some ⟨g, o, none⟩), .int .u8 y] w (StepPost g o (stb m y sz) w) := by
  have hmd := mdW_a
  have hwy : IntKind.i64.wrap y = y := IntWalk.i64_in _ ⟨by omega, by omega⟩
  have HV := hide (hV y)
  have HN := hide (fun (wx : World) (hx : Below w.heap.size w wx) => show wx.cell? ⟨g, o + 3, none⟩ = some (.int .i64 sz) ∧ wx.frozen? ⟨g, o + 3, none⟩ = false from ⟨(hx.cell (p := ⟨g, o + 3, none⟩) hg).trans h3, (hx.frozen (p := ⟨g, o + 3, none⟩) hg).trans hf⟩)
  have hcc := cval_cases m y
  clear hV
  go_enter Tryz.func117, Tryz.ntmps117
  go_wp2_with fail
  refine (HV.out _).mono ?_
  rintro e w1 ⟨rfl, hb1⟩
  obtain ⟨d3, df⟩ := HN.out w1 hb1
  have HB1 := hide hb1
  clear hb1 h1 h3 hf HV
  by_cases hc : cval m y < 0
  · have HS := hide (show stb m y sz = 0 by unfold stb; rw [if_pos hc])
    have hcv : cval m y = -1 := by omega
    rw [hcv]
    clear hc hcc hcv
    go_wp2_with fail
    first | (refine bodyPost_ret (results_none rfl _ _ _) rfl ?_) | go_end0
    exact ⟨rfl, w1, HB1.out, by rw [HS.out]; rfl⟩
  · have HS := hide (show stb m y sz = min (sz + 1) 255 by unfold stb; rw [if_neg hc])
    obtain ⟨cv, hcv⟩ : ∃ cv, cval m y = cv := ⟨_, rfl⟩
    have hne : (cv == -1) = false := by rw [← hcv]; simp; omega
    rw [hcv]
    clear hc hcc hcv
    by_cases h5 : sz + 1 ≤ 255
    · have HS2 := hide (show stb m y sz = sz + 1 by rw [HS.out]; omega)
      clear HS
      go_wp2_with fail
      first | (refine bodyPost_ret (results_none rfl _ _ _) rfl ?_) | go_end0
      exact ⟨rfl, w1, HB1.out, by rw [HS2.out]; rfl⟩
    · have HS2 := hide (show stb m y sz = 255 by rw [HS.out]; omega)
      have h5' : sz = 255 := by omega
      subst h5'
      clear HS
      go_wp2_with fail
      first | (refine bodyPost_ret (results_none rfl _ _ _) rfl ?_) | go_end0
      exact ⟨rfl, w1, HB1.out, by rw [HS2.out]; rfl⟩

set_option maxRecDepth 100000 in
set_option maxHeartbeats 2000000 in
theorem implStepB (g o sz : Nat) (y : Int) (w : World) (hy0 : 0 ≤ y) (hy1 : y ≤ 255) (hsz : sz ≤ 255) (hg : g < w.heap.size)
    (h1 : w.cell? ⟨g, o + 1, none⟩ = some (.iface 187 (.agg #[]))) (h3 : w.cell? ⟨g, o + 3, none⟩ = some (.int .i64 sz)) (hf : w.frozen? ⟨g, o + 3, none⟩ = false) :
    Calls Tryz.prog 117 #[.pointer (some ⟨g, o, none⟩), .int .u8 y] w (StepPost g o (stb 4 y sz) w) := by
  have hmd := mdW_b
  have hwy : IntKind.i64.wrap y = y := IntWalk.i64_in _ ⟨by omega, by omega⟩
  have HV := hide (fun w' => implValueB y w')
  have HN := hide (fun (wx : World) (hx : Below w.heap.size w wx) => show wx.cell? ⟨g, o + 3, none⟩ = some (.int .i64 sz) ∧ wx.frozen? ⟨g, o + 3, none⟩ = false from ⟨(hx.cell (p := ⟨g, o + 3, none⟩) hg).trans h3, (hx.frozen (p := ⟨g, o + 3, none⟩) hg).trans hf⟩)
  have hcc := cval_byte hy0 hy1
  rw [hcc] at HV
  have HS := hide (show stb 4 y sz = min (sz + 1) 255 by unfold stb; rw [hcc, if_neg (by omega)])
  have hne : (y == -1) = false := by simp; omega
  clear hcc
  go_enter Tryz.func117, Tryz.ntmps117
  go_wp2_with fail
  refine (HV.out _).mono ?_
  rintro e w1 ⟨rfl, hb1⟩
  obtain ⟨d3, df⟩ := HN.out w1 hb1
  have HB1 := hide hb1
  clear hb1 h1 h3 hf HV
  by_cases h5 : sz + 1 ≤ 255
  · have HS2 := hide (show stb 4 y sz = sz + 1 by rw [HS.out]; omega)
    clear HS
    go_wp2_with fail
    first | (refine bodyPost_ret (results_none rfl _ _ _) rfl ?_) | go_end0
    exact ⟨rfl, w1, HB1.out, by rw [HS2.out]; rfl⟩
  · have HS2 := hide (show stb 4 y sz = 255 by rw [HS.out]; omega)
    have h5' : sz = 255 := by omega
    subst h5'
    clear HS
    go_wp2_with fail
    first | (refine bodyPost_ret (results_none rfl _ _ _) rfl ?_) | go_end0
    exact ⟨rfl, w1, HB1.out, by rw [HS2.out]; rfl⟩
/-- One step back, in whatever mode. -/
theorem implStep (m : Int) (hm : 1 ≤ m ∧ m ≤ 4) (g o sz : Nat) (y : Int) (w : World) (hy0 : 0 ≤ y) (hy1 : y ≤ 255) (hsz : sz ≤ 255) (hg : g < w.heap.size)
    (h1 : w.cell? ⟨g, o + 1, none⟩ = some (MV m)) (h3 : w.cell? ⟨g, o + 3, none⟩ = some (.int .i64 sz)) (hf : w.frozen? ⟨g, o + 3, none⟩ = false) :
    Calls Tryz.prog 117 #[.pointer (some ⟨g, o, none⟩), .int .u8 y] w (StepPost g o (stb m y sz) w) := by
  by_cases h4 : m = 4
  · subst h4; rw [MV_b] at h1; exact implStepB g o sz y w hy0 hy1 hsz hg h1 h3 hf
  · have hm3 : m = 1 ∨ m = 2 ∨ m = 3 := by omega
    rw [MV_a hm3] at h1
    refine implStepA m _ _ g o sz y w hy0 hy1 hsz hg (fun b w' => ?_) h1 h3 hf
    have h := implValueA (stS m) ((gsz m : Nat) : Int) b (by rw [stS_chars hm3]; exact ch_lt m) (by rw [stS_size hm3]; rcases hm3 with rfl | rfl | rfl <;> decide) w'
    rw [stS_chars hm3, ← cval_pos hm3] at h
    exact h
end Go.Proofs.YtncgeoliboidhaaGreat
