/-
  Lengths of texts and segments: the program and the model.
  Condition: as each statement says.
-/
import Derived.Test.YthbmfaogjaahoaaSg5
import Derived.Test.YthbmfaogjaahoaaSg7
import Derived.Test.YthbmfaogjaahoaaTail2
namespace Go.Proofs.Ythbmfaogjaahoaa
open Go.RowKit
set_option linter.unusedSimpArgs false
set_option linter.unusedVariables false
theorem implSizeB' {y : Int} (hy : y = 1) (w : World) : Calls Try.prog 155 #[.agg #[]] w (Gives (.int .i64 y) w) := by rw [hy]; exact implSizeB w

set_option maxRecDepth 100000 in
set_option maxHeartbeats 2000000 in
theorem implTextWidthA (a : ByteArray) (z : Int) (n G W1 W2 T : Nat) (hz : z = (G : Int)) (hn : n ≤ 255) (hg1 : 1 ≤ G) (hg3 : G ≤ 3) (hb1 : W1 ≤ 11) (hb2 : W2 ≤ 11) (hT : T = n / G * W1 + W2)
    (hL1 : ∀ w, Calls Try.prog 124 #[.iface 170 (.agg #[.string a, .int .i64 z]), .int .i64 (G : Nat)] w (Gives (.int .i64 (W1 : Nat)) w))
    (hL2 : ∀ w, Calls Try.prog 124 #[.iface 170 (.agg #[.string a, .int .i64 z]), .int .i64 (n % G : Nat)] w (Gives (.int .i64 (W2 : Nat)) w)) (w : World) :
    Calls Try.prog 115 #[.iface 170 (.agg #[.string a, .int .i64 z]), .int .i64 n] w (Gives (.int .i64 (T : Nat)) w) := by
  have hmd := mdG_a
  have hr0 : n % G < G := Nat.mod_lt _ hg1
  have hq0 : n / G ≤ n := Nat.div_le_self _ _
  have hrem : ((n : Int)).tmod (G : Int) = ((n % G : Nat) : Int) := by rw [Int.tmod_eq_emod_of_nonneg (by omega)]; rfl
  have hquo : ((n : Int)).tdiv (G : Int) = ((n / G : Nat) : Int) := by rw [Int.tdiv_eq_ediv_of_nonneg (by omega)]; rfl
  obtain ⟨R, hR⟩ : ∃ R, n % G = R := ⟨_, rfl⟩
  obtain ⟨Q, hQ⟩ : ∃ Q, n / G = Q := ⟨_, rfl⟩
  rw [hR] at hr0 hrem hL2
  rw [hQ] at hq0 hquo hT
  have hle : Q * W1 ≤ 255 * 11 := Nat.mul_le_mul (by omega) hb1
  have HL1 := hide hL1
  have HL2 := hide hL2
  subst hz
  clear hR hQ hL1 hL2
  obtain ⟨P1, hP⟩ : ∃ P1, Q * W1 = P1 := ⟨_, rfl⟩
  rw [hP] at hT hle
  have hmu : IntKind.i64.wrap ((Q : Int) * (W1 : Int)) = (P1 : Int) := by
    rw [← Int.natCast_mul, hP]; exact IntWalk.i64_in _ ⟨by omega, by omega⟩
  have had : IntKind.i64.wrap ((P1 : Int) + (W2 : Int)) = (T : Int) := by
    rw [hT]; rw [IntWalk.i64_in _ ⟨by omega, by omega⟩]; omega
  have hwQ : IntKind.i64.wrap (Q : Int) = (Q : Int) := IntWalk.i64_in _ ⟨by omega, by omega⟩
  have hwR : IntKind.i64.wrap (R : Int) = (R : Int) := IntWalk.i64_in _ ⟨by omega, by omega⟩
  clear hP hT hle
  obtain ⟨X, hX⟩ : ∃ X : Int, X = (n : Int) := ⟨_, rfl⟩
  obtain ⟨Y, hY⟩ : ∃ Y : Int, Y = (G : Int) := ⟨_, rfl⟩
  have hY0 : Y ≠ 0 := by omega
  rw [← hX, ← hY] at hrem hquo
  rw [← hX]
  rw [← hY] at HL1 HL2
  rw [← hY]
  clear hX hY hr0 hq0 hg1 hg3 hb1 hb2 hn
  go_enter Try.func115, Try.ntmps115
  go_wp2_with fail
  refine (implSizeA a _ _).mono ?_
  rintro e w1 ⟨rfl, hb1⟩
  have HB1 := hide hb1
  clear hb1
  go_wp2_with fail
  refine tail_begin (fun _ => True) 14 (by kernel_rfl) trivial (fun hS' => ?_)
  refine tail_take2 0 rfl (by kernel_rfl) (by kernel_rfl) (by kernel_rfl) (by decide) (fun _ _ _ h => h) (by rfl) (v := ?_) ?_ (by assumption) ?_
  rotate_left 1
  · intro w' hS'; (try dsimp only at hS'); go_simp; try with_reducible rfl
  try simp only [Act.put, List.setIfInBounds_toArray, List.set_cons_zero, List.set_cons_succ]
  refine tail_take2 1 rfl (by kernel_rfl) (by kernel_rfl) (by kernel_rfl) (by decide) (fun _ _ _ h => h) (by rfl) (v := ?_) ?_ (by assumption) ?_
  rotate_left 1
  · intro w' hS'; (try dsimp only at hS'); go_simp; try with_reducible rfl
  try simp only [Act.put, List.setIfInBounds_toArray, List.set_cons_zero, List.set_cons_succ]
  refine tail_take2 2 rfl (by kernel_rfl) (by kernel_rfl) (by kernel_rfl) (by decide) (fun _ _ _ h => h) (by rfl) (v := ?_) ?_ (by assumption) ?_
  rotate_left 1
  · intro w' hS'; (try dsimp only at hS'); go_simp; try with_reducible rfl
  try simp only [Act.put, List.setIfInBounds_toArray, List.set_cons_zero, List.set_cons_succ]
  refine tail_take2 3 rfl (by kernel_rfl) (by kernel_rfl) (by kernel_rfl) (by decide) (fun _ _ _ h => h) (by rfl) (v := ?_) ?_ (by assumption) ?_
  rotate_left 1
  · intro w' hS'; (try dsimp only at hS'); go_simp; try with_reducible rfl
  try simp only [Act.put, List.setIfInBounds_toArray, List.set_cons_zero, List.set_cons_succ]
  refine tail_take2 4 rfl (by kernel_rfl) (by kernel_rfl) (by kernel_rfl) (by decide) (fun _ _ _ h => h) (by rfl) (v := ?_) ?_ (by assumption) ?_
  rotate_left 1
  · intro w' hS'; (try dsimp only at hS'); go_simp; try with_reducible rfl
  try simp only [Act.put, List.setIfInBounds_toArray, List.set_cons_zero, List.set_cons_succ]
  refine tail_take2 7 rfl (by kernel_rfl) (by kernel_rfl) (by kernel_rfl) (by decide) (fun _ _ _ h => h) (by rfl) (v := ?_) ?_ (by assumption) ?_
  rotate_left 1
  · intro w' hS'; (try dsimp only at hS'); go_simp; try with_reducible rfl
  try simp only [Act.put, List.setIfInBounds_toArray, List.set_cons_zero, List.set_cons_succ]
  refine tail_take2 8 rfl (by kernel_rfl) (by kernel_rfl) (by kernel_rfl) (by decide) (fun _ _ _ h => h) (by rfl) (v := ?_) ?_ (by assumption) ?_
  rotate_left 1
  · intro w' hS'; (try dsimp only at hS'); go_simp; try with_reducible rfl
  try simp only [Act.put, List.setIfInBounds_toArray, List.set_cons_zero, List.set_cons_succ]
  refine tail_take2 9 rfl (by kernel_rfl) (by kernel_rfl) (by kernel_rfl) (by decide) (fun _ _ _ h => h) (by rfl) (v := ?_) ?_ (by assumption) ?_
  rotate_left 1
  · intro w' hS'; (try dsimp only at hS'); go_simp; try with_reducible rfl
  try simp only [Act.put, List.setIfInBounds_toArray, List.set_cons_zero, List.set_cons_succ]
  refine tail_take2 10 rfl (by kernel_rfl) (by kernel_rfl) (by kernel_rfl) (by decide) (fun _ _ _ h => h) (by rfl) (v := ?_) ?_ (by assumption) ?_
  rotate_left 1
  · intro w' hS'; (try dsimp only at hS'); go_simp; try with_reducible rfl
  try simp only [Act.put, List.setIfInBounds_toArray, List.set_cons_zero, List.set_cons_succ]
  refine tail_call 5 rfl (by kernel_rfl) rfl (fun K hK => ?_)
  go_simp
  (go_at_call 124; refine (HL1.out _).mono ?_; rintro e w2 ⟨rfl, hb2⟩; have HB2 := hide (HB1.out.drew.trans (hb2.mono HB1.out.drew.size)); clear hb2)
  refine hK.out _ _ (by (try dsimp only); all_goals trivial) (fun hS' => ?_)
  clear hK K
  try simp only [Act.put, List.setIfInBounds_toArray, List.set_cons_zero, List.set_cons_succ]
  refine tail_take2 6 rfl (by kernel_rfl) (by kernel_rfl) (by kernel_rfl) (by decide) (fun _ _ _ h => h) (by rfl) (v := ?_) ?_ (by assumption) ?_
  rotate_left 1
  · intro w' hS'; (try dsimp only at hS'); go_simp; try with_reducible rfl
  try simp only [Act.put, List.setIfInBounds_toArray, List.set_cons_zero, List.set_cons_succ]
  refine tail_call 11 rfl (by kernel_rfl) rfl (fun K hK => ?_)
  go_simp
  (go_at_call 124; refine (HL2.out _).mono ?_; rintro e w3 ⟨rfl, hb3⟩; have HB3 := hide (HB2.out.trans (hb3.mono HB2.out.size)); clear hb3)
  refine hK.out _ _ (by (try dsimp only); all_goals trivial) (fun hS' => ?_)
  clear hK K
  try simp only [Act.put, List.setIfInBounds_toArray, List.set_cons_zero, List.set_cons_succ]
  refine tail_take2 12 rfl (by kernel_rfl) (by kernel_rfl) (by kernel_rfl) (by decide) (fun _ _ _ h => h) (by rfl) (v := ?_) ?_ (by assumption) ?_
  rotate_left 1
  · intro w' hS'; (try dsimp only at hS'); go_simp; try with_reducible rfl
  try simp only [Act.put, List.setIfInBounds_toArray, List.set_cons_zero, List.set_cons_succ]
  refine tail_take2 13 rfl (by kernel_rfl) (by kernel_rfl) (by kernel_rfl) (by decide) (fun _ _ _ h => h) (by rfl) (v := ?_) ?_ (by assumption) ?_
  rotate_left 1
  · intro w' hS'; (try dsimp only at hS'); go_simp; try with_reducible rfl
  try simp only [Act.put, List.setIfInBounds_toArray, List.set_cons_zero, List.set_cons_succ]
  refine tail_end (by kernel_rfl) ?_
  go_wp2_with fail
  go_ret
  exact ⟨rfl, HB3.out⟩

set_option maxRecDepth 100000 in
set_option maxHeartbeats 2000000 in
theorem implTextWidthB (n G W1 W2 T : Nat) (hz : (1 : Int) = (G : Int)) (hn : n ≤ 255) (hg1 : 1 ≤ G) (hg3 : G ≤ 3) (hb1 : W1 ≤ 11) (hb2 : W2 ≤ 11) (hT : T = n / G * W1 + W2)
    (hL1 : ∀ w, Calls Try.prog 124 #[.iface 172 (.agg #[]), .int .i64 (G : Nat)] w (Gives (.int .i64 (W1 : Nat)) w))
    (hL2 : ∀ w, Calls Try.prog 124 #[.iface 172 (.agg #[]), .int .i64 (n % G : Nat)] w (Gives (.int .i64 (W2 : Nat)) w)) (w : World) :
    Calls Try.prog 115 #[.iface 172 (.agg #[]), .int .i64 n] w (Gives (.int .i64 (T : Nat)) w) := by
  have hmd := mdG_b
  have hr0 : n % G < G := Nat.mod_lt _ hg1
  have hq0 : n / G ≤ n := Nat.div_le_self _ _
  have hrem : ((n : Int)).tmod (G : Int) = ((n % G : Nat) : Int) := by rw [Int.tmod_eq_emod_of_nonneg (by omega)]; rfl
  have hquo : ((n : Int)).tdiv (G : Int) = ((n / G : Nat) : Int) := by rw [Int.tdiv_eq_ediv_of_nonneg (by omega)]; rfl
  obtain ⟨R, hR⟩ : ∃ R, n % G = R := ⟨_, rfl⟩
  obtain ⟨Q, hQ⟩ : ∃ Q, n / G = Q := ⟨_, rfl⟩
  rw [hR] at hr0 hrem hL2
  rw [hQ] at hq0 hquo hT
  have hle : Q * W1 ≤ 255 * 11 := Nat.mul_le_mul (by omega) hb1
  have HL1 := hide hL1
  have HL2 := hide hL2
  
  clear hR hQ hL1 hL2
  obtain ⟨P1, hP⟩ : ∃ P1, Q * W1 = P1 := ⟨_, rfl⟩
  rw [hP] at hT hle
  have hmu : IntKind.i64.wrap ((Q : Int) * (W1 : Int)) = (P1 : Int) := by
    rw [← Int.natCast_mul, hP]; exact IntWalk.i64_in _ ⟨by omega, by omega⟩
  have had : IntKind.i64.wrap ((P1 : Int) + (W2 : Int)) = (T : Int) := by
    rw [hT]; rw [IntWalk.i64_in _ ⟨by omega, by omega⟩]; omega
  have hwQ : IntKind.i64.wrap (Q : Int) = (Q : Int) := IntWalk.i64_in _ ⟨by omega, by omega⟩
  have hwR : IntKind.i64.wrap (R : Int) = (R : Int) := IntWalk.i64_in _ ⟨by omega, by omega⟩
  clear hP hT hle
  obtain ⟨X, hX⟩ : ∃ X : Int, X = (n : Int) := ⟨_, rfl⟩
  obtain ⟨Y, hY⟩ : ∃ Y : Int, Y = (G : Int) := ⟨_, rfl⟩
  have hY0 : Y ≠ 0 := by omega
  rw [← hX, ← hY] at hrem hquo
  rw [← hX]
  rw [← hY] at HL1 hz
  
  clear hX hY hr0 hq0 hg1 hg3 hb1 hb2 hn
  go_enter Try.func115, Try.ntmps115
  go_wp2_with fail
  refine (implSizeB' hz.symm _).mono ?_
  rintro e w1 ⟨rfl, hb1⟩
  have HB1 := hide hb1
  clear hb1
  go_wp2_with fail
  refine tail_begin (fun _ => True) 14 (by kernel_rfl) trivial (fun hS' => ?_)
  refine tail_take2 0 rfl (by kernel_rfl) (by kernel_rfl) (by kernel_rfl) (by decide) (fun _ _ _ h => h) (by rfl) (v := ?_) ?_ (by assumption) ?_
  rotate_left 1
  · intro w' hS'; (try dsimp only at hS'); go_simp; try with_reducible rfl
  try simp only [Act.put, List.setIfInBounds_toArray, List.set_cons_zero, List.set_cons_succ]
  refine tail_take2 1 rfl (by kernel_rfl) (by kernel_rfl) (by kernel_rfl) (by decide) (fun _ _ _ h => h) (by rfl) (v := ?_) ?_ (by assumption) ?_
  rotate_left 1
  · intro w' hS'; (try dsimp only at hS'); go_simp; try with_reducible rfl
  try simp only [Act.put, List.setIfInBounds_toArray, List.set_cons_zero, List.set_cons_succ]
  refine tail_take2 2 rfl (by kernel_rfl) (by kernel_rfl) (by kernel_rfl) (by decide) (fun _ _ _ h => h) (by rfl) (v := ?_) ?_ (by assumption) ?_
  rotate_left 1
  · intro w' hS'; (try dsimp only at hS'); go_simp; try with_reducible rfl
  try simp only [Act.put, List.setIfInBounds_toArray, List.set_cons_zero, List.set_cons_succ]
  refine tail_take2 3 rfl (by kernel_rfl) (by kernel_rfl) (by kernel_rfl) (by decide) (fun _ _ _ h => h) (by rfl) (v := ?_) ?_ (by assumption) ?_
  rotate_left 1
  · intro w' hS'; (try dsimp only at hS'); go_simp; try with_reducible rfl
  try simp only [Act.put, List.setIfInBounds_toArray, List.set_cons_zero, List.set_cons_succ]
  refine tail_take2 4 rfl (by kernel_rfl) (by kernel_rfl) (by kernel_rfl) (by decide) (fun _ _ _ h => h) (by rfl) (v := ?_) ?_ (by assumption) ?_
  rotate_left 1
  · intro w' hS'; (try dsimp only at hS'); go_simp; try with_reducible rfl
  try simp only [Act.put, List.setIfInBounds_toArray, List.set_cons_zero, List.set_cons_succ]
  refine tail_take2 7 rfl (by kernel_rfl) (by kernel_rfl) (by kernel_rfl) (by decide) (fun _ _ _ h => h) (by rfl) (v := ?_) ?_ (by assumption) ?_
  rotate_left 1
  · intro w' hS'; (try dsimp only at hS'); go_simp; try with_reducible rfl
  try simp only [Act.put, List.setIfInBounds_toArray, List.set_cons_zero, List.set_cons_succ]
  refine tail_take2 8 rfl (by kernel_rfl) (by kernel_rfl) (by kernel_rfl) (by decide) (fun _ _ _ h => h) (by rfl) (v := ?_) ?_ (by assumption) ?_
  rotate_left 1
  · intro w' hS'; (try dsimp only at hS'); go_simp; try with_reducible rfl
  try simp only [Act.put, List.setIfInBounds_toArray, List.set_cons_zero, List.set_cons_succ]
  refine tail_take2 9 rfl (by kernel_rfl) (by kernel_rfl) (by kernel_rfl) (by decide) (fun _ _ _ h => h) (by rfl) (v := ?_) ?_ (by assumption) ?_
  rotate_left 1
  · intro w' hS'; (try dsimp only at hS'); go_simp; try with_reducible rfl
  try simp only [Act.put, List.setIfInBounds_toArray, List.set_cons_zero, List.set_cons_succ]
  refine tail_take2 10 rfl (by kernel_rfl) (by kernel_rfl) (by kernel_rfl) (by decide) (fun _ _ _ h => h) (by rfl) (v := ?_) ?_ (by assumption) ?_
  rotate_left 1
  · intro w' hS'; (try dsimp only at hS'); go_simp; try with_reducible rfl
  try simp only [Act.put, List.setIfInBounds_toArray, List.set_cons_zero, List.set_cons_succ]
  refine tail_call 5 rfl (by kernel_rfl) rfl (fun K hK => ?_)
  go_simp
  (go_at_call 124; refine (HL1.out _).mono ?_; rintro e w2 ⟨rfl, hb2⟩; have HB2 := hide (HB1.out.drew.trans (hb2.mono HB1.out.drew.size)); clear hb2)
  refine hK.out _ _ (by (try dsimp only); all_goals trivial) (fun hS' => ?_)
  clear hK K
  try simp only [Act.put, List.setIfInBounds_toArray, List.set_cons_zero, List.set_cons_succ]
  refine tail_take2 6 rfl (by kernel_rfl) (by kernel_rfl) (by kernel_rfl) (by decide) (fun _ _ _ h => h) (by rfl) (v := ?_) ?_ (by assumption) ?_
  rotate_left 1
  · intro w' hS'; (try dsimp only at hS'); go_simp; try with_reducible rfl
  try simp only [Act.put, List.setIfInBounds_toArray, List.set_cons_zero, List.set_cons_succ]
  refine tail_call 11 rfl (by kernel_rfl) rfl (fun K hK => ?_)
  go_simp
  (go_at_call 124; refine (HL2.out _).mono ?_; rintro e w3 ⟨rfl, hb3⟩; have HB3 := hide (HB2.out.trans (hb3.mono HB2.out.size)); clear hb3)
  refine hK.out _ _ (by (try dsimp only); all_goals trivial) (fun hS' => ?_)
  clear hK K
  try simp only [Act.put, List.setIfInBounds_toArray, List.set_cons_zero, List.set_cons_succ]
  refine tail_take2 12 rfl (by kernel_rfl) (by kernel_rfl) (by kernel_rfl) (by decide) (fun _ _ _ h => h) (by rfl) (v := ?_) ?_ (by assumption) ?_
  rotate_left 1
  · intro w' hS'; (try dsimp only at hS'); go_simp; try with_reducible rfl
  try simp only [Act.put, List.setIfInBounds_toArray, List.set_cons_zero, List.set_cons_succ]
  refine tail_take2 13 rfl (by kernel_rfl) (by kernel_rfl) (by kernel_rfl) (by decide) (fun _ _ _ h => h) (by rfl) (v := ?_) ?_ (by assumption) ?_
  rotate_left 1
  · intro w' hS'; (try dsimp only at hS'); go_simp; try with_reducible rfl
  try simp only [Act.put, List.setIfInBounds_toArray, List.set_cons_zero, List.set_cons_succ]
  refine tail_end (by kernel_rfl) ?_
  go_wp2_with fail
  go_ret
  exact ⟨rfl, HB3.out⟩

theorem implTextWidth (m : Int) (hm : 1 ≤ m ∧ m ≤ 4) (n : Nat) (hn : n ≤ 255) (w : World) :
    Calls Try.prog 115 #[MV m, .int .i64 n] w (Gives (.int .i64 (twid m n : Nat)) w) := by
  have hW1 := implGroupWidth m hm (gsz m) (Nat.le_refl _)
  have hW2 := implGroupWidth m hm (n % gsz m) (Nat.le_of_lt (Nat.mod_lt _ (gsz_pos m)))
  by_cases h4 : m = 4
  · subst h4; rw [MV_b] at hW1 hW2 ⊢; exact implTextWidthB n (gsz 4) _ _ _ rfl hn (gsz_pos _) (gsz_le _) (wid_le _ _) (wid_le _ _) rfl hW1 hW2 w
  · have hm3 : m = 1 ∨ m = 2 ∨ m = 3 := by omega
    rw [MV_a hm3] at hW1 hW2 ⊢; exact implTextWidthA (stS m) _ n (gsz m) _ _ _ rfl hn (gsz_pos _) (gsz_le _) (wid_le _ _) (wid_le _ _) rfl hW1 hW2 w

set_option maxRecDepth 100000 in
set_option maxHeartbeats 1000000 in
theorem implSegLen0 (m : Int) (s : ByteArray) (hm : 1 ≤ m ∧ m ≤ 4) (hs : s.size ≤ 255) (w : World) :
    Calls Try.prog 101 #[.agg #[.int .i64 m, .string s]] w (Gives (.int .i64 (slen m s.size : Nat)) w) := by
  have HX := hide (SBox.start w 107 m s)
  obtain ⟨c0, c1⟩ := HX.out.cells
  have HM := hide (implModeOf m hm)
  have HT := hide (implTextWidth m hm s.size hs)
  have ht := twid_le (m := m) hs
  obtain ⟨M, hM⟩ : ∃ M, MV m = M := ⟨_, rfl⟩
  rw [hM] at HM HT
  have hsl : slen m s.size = 11 + twid m s.size := rfl
  rw [hsl]
  clear hsl
  obtain ⟨T, hT⟩ : ∃ T, twid m s.size = T := ⟨_, rfl⟩
  rw [hT] at HT ht ⊢
  have hw1 : IntKind.i64.wrap (11 + (T : Int)) = ((11 + T : Nat) : Int) := by rw [IntWalk.i64_in _ ⟨by omega, by omega⟩]; omega
  clear hM hT
  go_enter Try.func101, Try.ntmps101
  go_wp2_with fail
  refine (HM.out _).mono ?_
  rintro e _ ⟨rfl, rfl⟩
  go_wp2_with fail
  refine (HT.out _).mono ?_
  rintro e w1 ⟨rfl, hb1⟩
  have HX1 := hide (HX.out.next hb1)
  clear hb1 c0 c1
  go_wp2_with fail
  go_ret
  exact ⟨rfl, HX1.out.2⟩

/-- The length of a segment. -/
def segL (m : Int) (bs : List Int) : Int := if segB m bs then ((slen m bs.length : Nat) : Int) else -1

/-- How many characters the model takes a mode to have. -/
def sbase (m : Int) : Int := if m = 1 then 10 else if m = 2 then 45 else 256
theorem specGroup (m : Int) (hm : 1 ≤ m ∧ m ≤ 4) (w : World) :
    Calls Try.prog 96 #[.int .i64 m] w fun e w' => e = .returned (.tuple #[.int .i64 (gsz m : Nat), .int .i64 (sbase m)]) ∧ w' = w := by
  have hh : m = 1 ∨ m = 2 ∨ m = 3 ∨ m = 4 := by omega
  rcases hh with rfl | rfl | rfl | rfl
  all_goals
    go_enter Try.func96, Try.ntmps96
    go_wp2_with fail
    go_ret2
    exact ⟨rfl, rfl⟩

set_option maxRecDepth 100000 in
set_option maxHeartbeats 2000000 in
theorem specWidth (m : Int) (hm : 1 ≤ m ∧ m ≤ 4) (c : Nat) (hc1 : 1 ≤ c) (hc : c ≤ gsz m) (w : World) :
    Calls Try.prog 97 #[.int .i64 m, .int .i64 c] w (Gives (.int .i64 (wid m c : Nat)) w) := by
  have hh : m = 1 ∨ m = 2 ∨ m = 3 ∨ m = 4 := by omega
  rcases hh with rfl | rfl | rfl | rfl
  · have h3 : c ≤ 3 := hc
    have : c = 1 ∨ c = 2 ∨ c = 3 := by omega
    clear hc hm hc1 h3
    rcases this with rfl | rfl | rfl
    all_goals
      go_enter Try.func97, Try.ntmps97
      go_wp2_with fail
      go_ret
      exact ⟨rfl, (Below.refl _ _).alloc (Nat.le_refl _) _⟩
  · have h3 : c ≤ 2 := hc
    have : c = 1 ∨ c = 2 := by omega
    clear hc hm hc1 h3
    rcases this with rfl | rfl
    all_goals
      go_enter Try.func97, Try.ntmps97
      go_wp2_with fail
      go_ret
      exact ⟨rfl, (Below.refl _ _).alloc (Nat.le_refl _) _⟩
  all_goals
    have h3 : c ≤ 1 := hc
    have : c = 1 := by omega
    clear hc hm hc1 h3
    subst this
    go_enter Try.func97, Try.ntmps97
    go_wp2_with fail
    go_ret
    exact ⟨rfl, Below.refl _ _⟩
end Go.Proofs.Ythbmfaogjaahoaa
