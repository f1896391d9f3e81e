/-
  Lengths of texts and segments: the program and the model.
  Lengths of texts and segments: the model.
  Condition: as each statement says.
-/
import Derived.Test.YtncgeoliboidhaaVO
import Derived.Test.YtncgeoliboidhaaTail2
namespace Go.Proofs.Ytncgeoliboidhaa
open Go.RowKit
set_option linter.unusedSimpArgs false
set_option linter.unusedVariables false
theorem implSizeB' {y : Int} (hy : y = 1) (w : World) : Calls Try.prog 148 #[.agg #[]] w (Gives (.int .i64 y) w) := by rw [hy]; exact implSizeB w

set_option maxRecDepth 100000 in
set_option maxHeartbeats 2000000 in
theorem implTextWidthA (a : ByteArray) (z : Int) (n G W1 W2 T : Nat) (hz : z = (G : Int)) (hn : n ≤ 255) (hg1 : 1 ≤ G) (hg3 : G ≤ 3) (hb1 : W1 ≤ 11) (hb2 : W2 ≤ 11) (hT : T = n / G * W1 + W2)
    (hL1 : ∀ w, Calls Try.prog 121 #[.iface 139 (.agg #[.string a, .int .i64 z]), .int .i64 (G : Nat)] w (Gives (.int .i64 (W1 : Nat)) w))
    (hL2 : ∀ w, Calls Try.prog 121 #[.iface 139 (.agg #[.string a, .int .i64 z]), .int .i64 (n % G : Nat)] w (Gives (.int .i64 (W2 : Nat)) w)) (w : World) :
    Calls Try.prog 118 #[.iface 139 (.agg #[.string a, .int .i64 z]), .int .i64 n] w (Gives (.int .i64 (T : Nat)) w) := by
  have hmd := mdG_a
  have hr0 : n % G < G := Nat.mod_lt _ hg1
  have hq0 : n / G ≤ n := Nat.div_le_self _ _
  have hrem : ((n : Int)).tmod (G : Int) = ((n % G : Nat) : Int) := by rw [Int.tmod_eq_emod_of_nonneg (by omega)]; rfl
  have hquo : ((n : Int)).tdiv (G : Int) = ((n / G : Nat) : Int) := by rw [Int.tdiv_eq_ediv_of_nonneg (by omega)]; rfl
  obtain ⟨R, hR⟩ : ∃ R, n % G = R := ⟨_, rfl⟩
  obtain ⟨Q, hQ⟩ : ∃ Q, n / G = Q := ⟨_, rfl⟩
  rw [hR] at hr0 hrem hL2
  rw [hQ] at hq0 hquo hT
  have hle : Q * W1 ≤ 255 * 11 := Nat.mul_le_mul (by omega) hb1
  have HL1 := hide hL1
  have HL2 := hide hL2
  subst hz
  clear hR hQ hL1 hL2
  obtain ⟨P1, hP⟩ : ∃ P1, Q * W1 = P1 := ⟨_, rfl⟩
  rw [hP] at hT hle
  have hmu : IntKind.i64.wrap ((Q : Int) * (W1 : Int)) = (P1 : Int) := by
    rw [← Int.natCast_mul, hP]; exact IntWalk.i64_in _ ⟨by omega, by omega⟩
  have had : IntKind.i64.wrap ((P1 : Int) + (W2 : Int)) = (T : Int) := by
    rw [hT]; rw [IntWalk.i64_in _ ⟨by omega, by omega⟩]; omega
  have hwQ : IntKind.i64.wrap (Q : Int) = (Q : Int) := IntWalk.i64_in _ ⟨by omega, by omega⟩
  have hwR : IntKind.i64.wrap (R : Int) = (R : Int) := IntWalk.i64_in _ ⟨by omega, by omega⟩
  clear hP hT hle
  obtain ⟨X, hX⟩ : ∃ X : Int, X = (n : Int) := ⟨_, rfl⟩
  obtain ⟨Y, hY⟩ : ∃ Y : Int, Y = (G : Int) := ⟨_, rfl⟩
  have hY0 : Y ≠ 0 := by omega
  rw [← hX, ← hY] at hrem hquo
  rw [← hX]
  rw [← hY] at HL1 HL2
  rw [← hY]
  clear hX hY hr0 hq0 hg1 hg3 hb1 hb2 hn
  go_enter Try.func118, Try.ntmps118
  go_wp2_with fail
  refine (implSizeA a _ _).mono ?_
  rintro e w1 ⟨rfl, hb1⟩
  have HB1 := hide hb1
  clear hb1
  go_wp2_with fail
  refine tail_begin (fun _ => True) 14 (by kernel_rfl) trivial (fun hS' => ?_)
  refine tail_take2 0 rfl (by kernel_rfl) (by kernel_rfl) (by kernel_rfl) (by decide) (fun _ _ _ h => h) (by rfl) (v := ?_) ?_ (by assumption) ?_
  rotate_left 1
  · intro w' hS'; (try dsimp only at hS'); go_simp; try with_reducible rfl
  try simp only [Act.put, List.setIfInBounds_toArray, List.set_cons_zero, List.set_cons_succ]
  refine tail_take2 1 rfl (by kernel_rfl) (by kernel_rfl) (by kernel_rfl) (by decide) (fun _ _ _ h => h) (by rfl) (v := ?_) ?_ (by assumption) ?_
  rotate_left 1
  · intro w' hS'; (try dsimp only at hS'); go_simp; try with_reducible rfl
  try simp only [Act.put, List.setIfInBounds_toArray, List.set_cons_zero, List.set_cons_succ]
  refine tail_take2 2 rfl (by kernel_rfl) (by kernel_rfl) (by kernel_rfl) (by decide) (fun _ _ _ h => h) (by rfl) (v := ?_) ?_ (by assumption) ?_
  rotate_left 1
  · intro w' hS'; (try dsimp only at hS'); go_simp; try with_reducible rfl
  try simp only [Act.put, List.setIfInBounds_toArray, List.set_cons_zero, List.set_cons_succ]
  refine tail_take2 3 rfl (by kernel_rfl) (by kernel_rfl) (by kernel_rfl) (by decide) (fun _ _ _ h => h) (by rfl) (v := ?_) ?_ (by assumption) ?_
  rotate_left 1
  · intro w' hS'; (try dsimp only at hS'); go_simp; try with_reducible rfl
  try simp only [Act.put, List.setIfInBounds_toArray, List.set_cons_zero, List.set_cons_succ]
  refine tail_take2 4 rfl (by kernel_rfl) (by kernel_rfl) (by kernel_rfl) (by decide) (fun _ _ _ h => h) (by rfl) (v := ?_) ?_ (by assumption) ?_
  rotate_left 1
  · intro w' hS'; (try dsimp only at hS'); go_simp; try with_reducible rfl
  try simp only [Act.put, List.setIfInBounds_toArray, List.set_cons_zero, List.set_cons_succ]
  refine tail_take2 7 rfl (by kernel_rfl) (by kernel_rfl) (by kernel_rfl) (by decide) (fun _ _ _ h => h) (by rfl) (v := ?_) ?_ (by assumption) ?_
  rotate_left 1
  · intro w' hS'; (try dsimp only at hS'); go_simp; try with_reducible rfl
  try simp only [Act.put, List.setIfInBounds_toArray, List.set_cons_zero, List.set_cons_succ]
  refine tail_take2 8 rfl (by kernel_rfl) (by kernel_rfl) (by kernel_rfl) (by decide) (fun _ _ _ h => h) (by rfl) (v := ?_) ?_ (by assumption) ?_
  rotate_left 1
  · intro w' hS'; (try dsimp only at hS'); go_simp; try with_reducible rfl
  try simp only [Act.put, List.setIfInBounds_toArray, List.set_cons_zero, List.set_cons_succ]
  refine tail_take2 9 rfl (by kernel_rfl) (by kernel_rfl) (by kernel_rfl) (by decide) (fun _ _ _ h => h) (by rfl) (v := ?_) ?_ (by assumption) ?_
  rotate_left 1
  · intro w' hS'; (try dsimp only at hS'); go_simp; try with_reducible rfl
  try simp only [Act.put, List.setIfInBounds_toArray, List.set_cons_zero, List.set_cons_succ]
  refine tail_take2 10 rfl (by kernel_rfl) (by kernel_rfl) (by kernel_rfl) (by decide) (fun _ _ _ h => h) (by rfl) (v := ?_) ?_ (by assumption) ?_
  rotate_left 1
  · intro w' hS'; (try dsimp only at hS'); go_simp; try with_reducible rfl
  try simp only [Act.put, List.setIfInBounds_toArray, List.set_cons_zero, List.set_cons_succ]
  refine tail_call 5 rfl (by kernel_rfl) rfl (fun K hK => ?_)
  go_simp
  (go_at_call 121; refine (HL1.out _).mono ?_; rintro e w2 ⟨rfl, hb2⟩; have HB2 := hide (HB1.out.drew.trans (hb2.mono HB1.out.drew.size)); clear hb2)
  refine hK.out _ _ (by (try dsimp only); all_goals trivial) (fun hS' => ?_)
  clear hK K
  try simp only [Act.put, List.setIfInBounds_toArray, List.set_cons_zero, List.set_cons_succ]
  refine tail_take2 6 rfl (by kernel_rfl) (by kernel_rfl) (by kernel_rfl) (by decide) (fun _ _ _ h => h) (by rfl) (v := ?_) ?_ (by assumption) ?_
  rotate_left 1
  · intro w' hS'; (try dsimp only at hS'); go_simp; try with_reducible rfl
  try simp only [Act.put, List.setIfInBounds_toArray, List.set_cons_zero, List.set_cons_succ]
  refine tail_call 11 rfl (by kernel_rfl) rfl (fun K hK => ?_)
  go_simp
  (go_at_call 121; refine (HL2.out _).mono ?_; rintro e w3 ⟨rfl, hb3⟩; have HB3 := hide (HB2.out.trans (hb3.mono HB2.out.size)); clear hb3)
  refine hK.out _ _ (by (try dsimp only); all_goals trivial) (fun hS' => ?_)
  clear hK K
  try simp only [Act.put, List.setIfInBounds_toArray, List.set_cons_zero, List.set_cons_succ]
  refine tail_take2 12 rfl (by kernel_rfl) (by kernel_rfl) (by kernel_rfl) (by decide) (fun _ _ _ h => h) (by rfl) (v := ?_) ?_ (by assumption) ?_
  rotate_left 1
  · intro w' hS'; (try dsimp only at hS'); go_simp; try with_reducible rfl
  try simp only [Act.put, List.setIfInBounds_toArray, List.set_cons_zero, List.set_cons_succ]
  refine tail_take2 13 rfl (by kernel_rfl) (by kernel_rfl) (by kernel_rfl) (by decide) (fun _ _ _ h => h) (by rfl) (v := ?_) ?_ (by assumption) ?_
  rotate_left 1
  · intro w' hS'; (try dsimp only at hS'); go_simp; try with_reducible rfl
  try simp only [Act.put, List.setIfInBounds_toArray, List.set_cons_zero, List.set_cons_succ]
  refine tail_end (by kernel_rfl) ?_
  go_wp2_with fail
  go_ret
  exact ⟨rfl, HB3.out⟩

set_option maxRecDepth 100000 in
set_option maxHeartbeats 2000000 in
theorem implTextWidthB (n G W1 W2 T : Nat) (hz : (1 : Int) = (G : Int)) (hn : n ≤ 255) (hg1 : 1 ≤ G) (hg3 : G ≤ 3) (hb1 : W1 ≤ 11) (hb2 : W2 ≤ 11) (hT : T = n / G * W1 + W2)
    (hL1 : ∀ w, Calls Try.prog 121 #[.iface 141 (.agg #[]), .int .i64 (G : Nat)] w (Gives (.int .i64 (W1 : Nat)) w))
    (hL2 : ∀ w, Calls Try.prog 121 #[.iface 141 (.agg #[]), .int .i64 (n % G : Nat)] w (Gives (.int .i64 (W2 : Nat)) w)) (w : World) :
    Calls Try.prog 118 #[.iface 141 (.agg #[]), .int .i64 n] w (Gives (.int .i64 (T : Nat)) w) := by
  have hmd := mdG_b
  have hr0 : n % G < G := Nat.mod_lt _ hg1
  have hq0 : n / G ≤ n := Nat.div_le_self _ _
  have hrem : ((n : Int)).tmod (G : Int) = ((n % G : Nat) : Int) := by rw [Int.tmod_eq_emod_of_nonneg (by omega)]; rfl
  have hquo : ((n : Int)).tdiv (G : Int) = ((n / G : Nat) : Int) := by rw [Int.tdiv_eq_ediv_of_nonneg (by omega)]; rfl
  obtain ⟨R, hR⟩ : ∃ R, n % G = R := ⟨_, rfl⟩
  obtain ⟨Q, hQ⟩ : ∃ Q, n / G = Q := ⟨_, rfl⟩
  rw [hR] at hr0 hrem hL2
  rw [hQ] at hq0 hquo hT
  have hle : Q * W1 ≤ 255 * 11 := Nat.mul_le_mul (by omega) hb1
  have HL1 := hide hL1
  have HL2 := hide hL2
  
  clear hR hQ hL1 hL2
  obtain ⟨P1, hP⟩ : ∃ P1, Q * W1 = P1 := ⟨_, rfl⟩
  rw [hP] at hT hle
  have hmu : IntKind.i64.wrap ((Q : Int) * (W1 : Int)) = (P1 : Int) := by
    rw [← Int.natCast_mul, hP]; exact IntWalk.i64_in _ ⟨by omega, by omega⟩
  have had : IntKind.i64.wrap ((P1 : Int) + (W2 : Int)) = (T : Int) := by
    rw [hT]; rw [IntWalk.i64_in _ ⟨by omega, by omega⟩]; omega
  have hwQ : IntKind.i64.wrap (Q : Int) = (Q : Int) := IntWalk.i64_in _ ⟨by omega, by omega⟩
  have hwR : IntKind.i64.wrap (R : Int) = (R : Int) := IntWalk.i64_in _ ⟨by omega, by omega⟩
  clear hP hT hle
  obtain ⟨X, hX⟩ : ∃ X : Int, X = (n : Int) := ⟨_, rfl⟩
  obtain ⟨Y, hY⟩ : ∃ Y : Int, Y = (G : Int) := ⟨_, rfl⟩
  have hY0 : Y ≠ 0 := by omega
  rw [← hX, ← hY] at hrem hquo
  rw [← hX]
  rw [← hY] at HL1 hz
  
  clear hX hY hr0 hq0 hg1 hg3 hb1 hb2 hn
  go_enter Try.func118, Try.ntmps118
  go_wp2_with fail
  refine (implSizeB' hz.symm _).mono ?_
  rintro e w1 ⟨rfl, hb1⟩
  have HB1 := hide hb1
  clear hb1
  go_wp2_with fail
  refine tail_begin (fun _ => True) 14 (by kernel_rfl) trivial (fun hS' => ?_)
  refine tail_take2 0 rfl (by kernel_rfl) (by kernel_rfl) (by kernel_rfl) (by decide) (fun _ _ _ h => h) (by rfl) (v := ?_) ?_ (by assumption) ?_
  rotate_left 1
  · intro w' hS'; (try dsimp only at hS'); go_simp; try with_reducible rfl
  try simp only [Act.put, List.setIfInBounds_toArray, List.set_cons_zero, List.set_cons_succ]
  refine tail_take2 1 rfl (by kernel_rfl) (by kernel_rfl) (by kernel_rfl) (by decide) (fun _ _ _ h => h) (by rfl) (v := ?_) ?_ (by assumption) ?_
  rotate_left 1
  · intro w' hS'; (try dsimp only at hS'); go_simp; try with_reducible rfl
  try simp only [Act.put, List.setIfInBounds_toArray, List.set_cons_zero, List.set_cons_succ]
  refine tail_take2 2 rfl (by kernel_rfl) (by kernel_rfl) (by kernel_rfl) (by decide) (fun _ _ _ h => h) (by rfl) (v := ?_) ?_ (by assumption) ?_
  rotate_left 1
  · intro w' hS'; (try dsimp only at hS'); go_simp; try with_reducible rfl
  try simp only [Act.put, List.setIfInBounds_toArray, List.set_cons_zero, List.set_cons_succ]
  refine tail_take2 3 rfl (by kernel_rfl) (by kernel_rfl) (by kernel_rfl) (by decide) (fun _ _ _ h => h) (by rfl) (v := ?_) ?_ (by assumption) ?_
  rotate_left 1
  · intro w' hS'; (try dsimp only at hS'); go_simp; try with_reducible rfl
  try simp only [Act.put, List.setIfInBounds_toArray, List.set_cons_zero, List.set_cons_succ]
  refine tail_take2 4 rfl (by kernel_rfl) (by kernel_rfl) (by kernel_rfl) (by decide) (fun _ _ _ h => h) (by rfl) (v := ?_) ?_ (by assumption) ?_
  rotate_left 1
  · intro w' hS'; (try dsimp only at hS'); go_simp; try with_reducible rfl
  try simp only [Act.put, List.setIfInBounds_toArray, List.set_cons_zero, List.set_cons_succ]
  refine tail_take2 7 rfl (by kernel_rfl) (by kernel_rfl) (by kernel_rfl) (by decide) (fun _ _ _ h => h) (by rfl) (v := ?_) ?_ (by assumption) ?_
  rotate_left 1
  · intro w' hS'; (try dsimp only at hS'); go_simp; try with_reducible rfl
  try simp only [Act.put, List.setIfInBounds_toArray, List.set_cons_zero, List.set_cons_succ]
  refine tail_take2 8 rfl (by kernel_rfl) (by kernel_rfl) (by kernel_rfl) (by decide) (fun _ _ _ h => h) (by rfl) (v := ?_) ?_ (by assumption) ?_
  rotate_left 1
  · intro w' hS'; (try dsimp only at hS'); go_simp; try with_reducible rfl
  try simp only [Act.put, List.setIfInBounds_toArray, List.set_cons_zero, List.set_cons_succ]
  refine tail_take2 9 rfl (by kernel_rfl) (by kernel_rfl) (by kernel_rfl) (by decide) (fun _ _ _ h => h) (by rfl) (v := ?_) ?_ (by assumption) ?_
  rotate_left 1
  · intro w' hS'; (try dsimp only at hS'); go_simp; try with_reducible rfl
  try simp only [Act.put, List.setIfInBounds_toArray, List.set_cons_zero, List.set_cons_succ]
  refine tail_take2 10 rfl (by kernel_rfl) (by kernel_rfl) (by kernel_rfl) (by decide) (fun _ _ _ h => h) (by rfl) (v := ?_) ?_ (by assumption) ?_
  rotate_left 1
  · intro w' hS'; (try dsimp only at hS'); go_simp; try with_reducible rfl
  try simp only [Act.put, List.setIfInBounds_toArray, List.set_cons_zero, List.set_cons_succ]
  refine tail_call 5 rfl (by kernel_rfl) rfl (fun K hK => ?_)
  go_simp
  (go_at_call 121; refine (HL1.out _).mono ?_; rintro e w2 ⟨rfl, hb2⟩; have HB2 := hide (HB1.out.drew.trans (hb2.mono HB1.out.drew.size)); clear hb2)
  refine hK.out _ _ (by (try dsimp only); all_goals trivial) (fun hS' => ?_)
  clear hK K
  try simp only [Act.put, List.setIfInBounds_toArray, List.set_cons_zero, List.set_cons_succ]
  refine tail_take2 6 rfl (by kernel_rfl) (by kernel_rfl) (by kernel_rfl) (by decide) (fun _ _ _ h => h) (by rfl) (v := ?_) ?_ (by assumption) ?_
  rotate_left 1
  · intro w' hS'; (try dsimp only at hS'); go_simp; try with_reducible rfl
  try simp only [Act.put, List.setIfInBounds_toArray, List.set_cons_zero, List.set_cons_succ]
  refine tail_call 11 rfl (by kernel_rfl) rfl (fun K hK => ?_)
  go_simp
  (go_at_call 121; refine (HL2.out _).mono ?_; rintro e w3 ⟨rfl, hb3⟩; have HB3 := hide (HB2.out.trans (hb3.mono HB2.out.size)); clear hb3)
  refine hK.out _ _ (by (try dsimp only); all_goals trivial) (fun hS' => ?_)
  clear hK K
  try simp only [Act.put, List.setIfInBounds_toArray, List.set_cons_zero, List.set_cons_succ]
  refine tail_take2 12 rfl (by kernel_rfl) (by kernel_rfl) (by kernel_rfl) (by decide) (fun _ _ _ h => h) (by rfl) (v := ?_) ?_ (by assumption) ?_
  rotate_left 1
  · intro w' hS'; (try dsimp only at hS'); go_simp; try with_reducible rfl
  try simp only [Act.put, List.setIfInBounds_toArray, List.set_cons_zero, List.set_cons_succ]
  refine tail_take2 13 rfl (by kernel_rfl) (by kernel_rfl) (by kernel_rfl) (by decide) (fun _ _ _ h => h) (by rfl) (v := ?_) ?_ (by assumption) ?_
  rotate_left 1
  · intro w' hS'; (try dsimp only at hS'); go_simp; try with_reducible rfl
  try simp only [Act.put, List.setIfInBounds_toArray, List.set_cons_zero, List.set_cons_succ]
  refine tail_end (by kernel_rfl) ?_
  go_wp2_with fail
  go_ret
  exact ⟨rfl, HB3.out⟩

theorem implTextWidth (m : Int) (hm : 1 ≤ m ∧ m ≤ 4) (n : Nat) (hn : n ≤ 255) (w : World) :
    Calls Try.prog 118 #[MV m, .int .i64 n] w (Gives (.int .i64 (twid m n : Nat)) w) := by
  have hW1 := implGroupWidth m hm (gsz m) (Nat.le_refl _)
  have hW2 := implGroupWidth m hm (n % gsz m) (Nat.le_of_lt (Nat.mod_lt _ (gsz_pos m)))
  by_cases h4 : m = 4
  · subst h4; rw [MV_b] at hW1 hW2 ⊢; exact implTextWidthB n (gsz 4) _ _ _ rfl hn (gsz_pos _) (gsz_le _) (wid_le _ _) (wid_le _ _) rfl hW1 hW2 w
  · have hm3 : m = 1 ∨ m = 2 ∨ m = 3 := by omega
    rw [MV_a hm3] at hW1 hW2 ⊢; exact implTextWidthA (stS m) _ n (gsz m) _ _ _ rfl hn (gsz_pos _) (gsz_le _) (wid_le _ _) (wid_le _ _) rfl hW1 hW2 w

/-- The length of a segment. -/
def segL (m : Int) (bs : List Int) : Int := if segB m bs then ((slen m bs.length : Nat) : Int) else -1

/-- How many characters the model takes a mode to have. -/
def sbase (m : Int) : Int := if m = 1 then 10 else if m = 2 then 45 else 256
theorem specGroup (m : Int) (hm : 1 ≤ m ∧ m ≤ 4) (w : World) :
    Calls Try.prog 115 #[.int .i64 m] w fun e w' => e = .returned (.tuple #[.int .i64 (gsz m : Nat), .int .i64 (sbase m)]) ∧ w' = w := by
  have hh : m = 1 ∨ m = 2 ∨ m = 3 ∨ m = 4 := by omega
  rcases hh with rfl | rfl | rfl | rfl
  all_goals
    go_enter Try.func115, Try.ntmps115
    go_wp2_with fail
    go_ret2
    exact ⟨rfl, rfl⟩

set_option maxRecDepth 100000 in
set_option maxHeartbeats 2000000 in
theorem specWidth (m : Int) (hm : 1 ≤ m ∧ m ≤ 4) (c : Nat) (hc1 : 1 ≤ c) (hc : c ≤ gsz m) (w : World) :
    Calls Try.prog 116 #[.int .i64 m, .int .i64 c] w (Gives (.int .i64 (wid m c : Nat)) w) := by
  have hh : m = 1 ∨ m = 2 ∨ m = 3 ∨ m = 4 := by omega
  rcases hh with rfl | rfl | rfl | rfl
  · have h3 : c ≤ 3 := hc
    have : c = 1 ∨ c = 2 ∨ c = 3 := by omega
    clear hc hm hc1 h3
    rcases this with rfl | rfl | rfl
    all_goals
      go_enter Try.func116, Try.ntmps116
      go_wp2_with fail
      go_ret
      exact ⟨rfl, (Below.refl _ _).alloc (Nat.le_refl _) _⟩
  · have h3 : c ≤ 2 := hc
    have : c = 1 ∨ c = 2 := by omega
    clear hc hm hc1 h3
    rcases this with rfl | rfl
    all_goals
      go_enter Try.func116, Try.ntmps116
      go_wp2_with fail
      go_ret
      exact ⟨rfl, (Below.refl _ _).alloc (Nat.le_refl _) _⟩
  all_goals
    have h3 : c ≤ 1 := hc
    have : c = 1 := by omega
    clear hc hm hc1 h3
    subst this
    go_enter Try.func116, Try.ntmps116
    go_wp2_with fail
    go_ret
    exact ⟨rfl, Below.refl _ _⟩
end Go.Proofs.Ytncgeoliboidhaa

namespace Go.Proofs.Ytncgeoliboidhaa
open Go.RowKit
set_option linter.unusedSimpArgs false
set_option linter.unusedVariables false

set_option maxRecDepth 100000 in
set_option maxHeartbeats 2000000 in
theorem specLength (m : Int) (hm : 1 ≤ m ∧ m ≤ 4) (n : Nat) (hn : n ≤ 255) (w : World) :
    Calls Try.prog 107 #[.int .i64 m, .int .i64 n] w (Gives (.int .i64 (slen m n : Nat)) w) := by
  have HG := hide (specGroup m hm)
  have hg1 := gsz_pos m
  have hg3 := gsz_le m
  have hL1 := specWidth m hm (gsz m) hg1 (Nat.le_refl _)
  have hr0 : n % gsz m < gsz m := Nat.mod_lt _ hg1
  have hL2 := fun h => specWidth m hm (n % gsz m) h (Nat.le_of_lt hr0)
  have hT : slen m n = 11 + (n / gsz m * wid m (gsz m) + wid m (n % gsz m)) := rfl
  have hb1 := wid_le m (gsz m)
  have hb2 := wid_le m (n % gsz m)
  have h0 : n % gsz m = 0 → wid m (n % gsz m) = 0 := fun h => by rw [h]; rfl
  generalize wid m (n % gsz m) = W2 at hL2 hT hb2 h0
  generalize wid m (gsz m) = W1 at hL1 hT hb1
  generalize slen m n = T at hT ⊢
  generalize gsz m = G at HG hg1 hg3 hL1 hL2 hr0 hT h0
  have hq0 : n / G ≤ n := Nat.div_le_self _ _
  have hrem : ((n : Int)).tmod (G : Int) = ((n % G : Nat) : Int) := by rw [Int.tmod_eq_emod_of_nonneg (by omega)]; rfl
  have hquo : ((n : Int)).tdiv (G : Int) = ((n / G : Nat) : Int) := by rw [Int.tdiv_eq_ediv_of_nonneg (by omega)]; rfl
  generalize n % G = R at hr0 hrem hL2 h0
  generalize n / G = Q at hq0 hquo hT
  have hle : Q * W1 ≤ 255 * 11 := Nat.mul_le_mul (by omega) hb1
  have HL1 := hide hL1
  have HL2 := hide hL2
  clear hL1 hL2
  obtain ⟨P1, hP⟩ : ∃ P1, Q * W1 = P1 := ⟨_, rfl⟩
  rw [hP] at hT hle
  have hmu : IntKind.i64.wrap ((Q : Int) * (W1 : Int)) = (P1 : Int) := by
    rw [← Int.natCast_mul, hP]; exact IntWalk.i64_in _ ⟨by omega, by omega⟩
  have ha1 : IntKind.i64.wrap (11 + (P1 : Int)) = ((11 + P1 : Nat) : Int) := by rw [IntWalk.i64_in _ ⟨by omega, by omega⟩]; omega
  have hwQ : IntKind.i64.wrap (Q : Int) = (Q : Int) := IntWalk.i64_in _ ⟨by omega, by omega⟩
  have hwR : IntKind.i64.wrap (R : Int) = (R : Int) := IntWalk.i64_in _ ⟨by omega, by omega⟩
  have had : IntKind.i64.wrap (((11 + P1 : Nat) : Int) + (W2 : Int)) = (T : Int) := by
    rw [hT]; rw [IntWalk.i64_in _ ⟨by omega, by omega⟩]; omega
  have HZ := hide (show R = 0 → 11 + P1 = T from fun h => by rw [hT, h0 h]; omega)
  generalize 11 + P1 = T1 at ha1 had HZ
  clear hP hT hle h0 hb1 hb2
  obtain ⟨X, hX⟩ : ∃ X : Int, X = (n : Int) := ⟨_, rfl⟩
  obtain ⟨Y, hY⟩ : ∃ Y : Int, Y = (G : Int) := ⟨_, rfl⟩
  have hY0 : Y ≠ 0 := by omega
  rw [← hX, ← hY] at hrem hquo
  rw [← hX]
  rw [← hY] at HL1 HG
  clear hX hY hr0 hq0 hg1 hg3 hn
  go_enter Try.func107, Try.ntmps107
  go_wp2_with fail
  refine (HG.out _).mono ?_
  rintro e w1 ⟨rfl, hw1⟩
  rw [hw1]
  clear hw1
  go_wp2_with fail
  refine tail_begin (fun _ => True) 9 (by kernel_rfl) trivial (fun hS' => ?_)
  refine tail_take2 0 rfl (by kernel_rfl) (by kernel_rfl) (by kernel_rfl) (by decide) (fun _ _ _ h => h) (by rfl) (v := ?_) ?_ (by assumption) ?_
  rotate_left 1
  · intro w' hS'; (try dsimp only at hS'); go_simp; try with_reducible rfl
  try simp only [Act.put, List.setIfInBounds_toArray, List.set_cons_zero, List.set_cons_succ]
  refine tail_take2 1 rfl (by kernel_rfl) (by kernel_rfl) (by kernel_rfl) (by decide) (fun _ _ _ h => h) (by rfl) (v := ?_) ?_ (by assumption) ?_
  rotate_left 1
  · intro w' hS'; (try dsimp only at hS'); go_simp; try with_reducible rfl
  try simp only [Act.put, List.setIfInBounds_toArray, List.set_cons_zero, List.set_cons_succ]
  refine tail_take2 2 rfl (by kernel_rfl) (by kernel_rfl) (by kernel_rfl) (by decide) (fun _ _ _ h => h) (by rfl) (v := ?_) ?_ (by assumption) ?_
  rotate_left 1
  · intro w' hS'; (try dsimp only at hS'); go_simp; try with_reducible rfl
  try simp only [Act.put, List.setIfInBounds_toArray, List.set_cons_zero, List.set_cons_succ]
  refine tail_take2 3 rfl (by kernel_rfl) (by kernel_rfl) (by kernel_rfl) (by decide) (fun _ _ _ h => h) (by rfl) (v := ?_) ?_ (by assumption) ?_
  rotate_left 1
  · intro w' hS'; (try dsimp only at hS'); go_simp; try with_reducible rfl
  try simp only [Act.put, List.setIfInBounds_toArray, List.set_cons_zero, List.set_cons_succ]
  refine tail_take2 4 rfl (by kernel_rfl) (by kernel_rfl) (by kernel_rfl) (by decide) (fun _ _ _ h => h) (by rfl) (v := ?_) ?_ (by assumption) ?_
  rotate_left 1
  · intro w' hS'; (try dsimp only at hS'); go_simp; try with_reducible rfl
  try simp only [Act.put, List.setIfInBounds_toArray, List.set_cons_zero, List.set_cons_succ]
  refine tail_call 5 rfl (by kernel_rfl) rfl (fun K hK => ?_)
  go_simp
  (go_at_call 116; refine (HL1.out _).mono ?_; rintro e w2 ⟨rfl, hb2⟩; have HB2 := hide (below_drewN (Below.refl _ w) 1 |>.trans hb2); clear hb2)
  refine hK.out _ _ (by (try dsimp only); all_goals trivial) (fun hS' => ?_)
  clear hK K
  try simp only [Act.put, List.setIfInBounds_toArray, List.set_cons_zero, List.set_cons_succ]
  refine tail_take2 6 rfl (by kernel_rfl) (by kernel_rfl) (by kernel_rfl) (by decide) (fun _ _ _ h => h) (by rfl) (v := ?_) ?_ (by assumption) ?_
  rotate_left 1
  · intro w' hS'; (try dsimp only at hS'); go_simp; try with_reducible rfl
  try simp only [Act.put, List.setIfInBounds_toArray, List.set_cons_zero, List.set_cons_succ]
  refine tail_take2 7 rfl (by kernel_rfl) (by kernel_rfl) (by kernel_rfl) (by decide) (fun _ _ _ h => h) (by rfl) (v := ?_) ?_ (by assumption) ?_
  rotate_left 1
  · intro w' hS'; (try dsimp only at hS'); go_simp; try with_reducible rfl
  try simp only [Act.put, List.setIfInBounds_toArray, List.set_cons_zero, List.set_cons_succ]
  refine tail_take2 8 rfl (by kernel_rfl) (by kernel_rfl) (by kernel_rfl) (by decide) (fun _ _ _ h => h) (by rfl) (v := ?_) ?_ (by assumption) ?_
  rotate_left 1
  · intro w' hS'; (try dsimp only at hS'); go_simp; try with_reducible rfl
  try simp only [Act.put, List.setIfInBounds_toArray, List.set_cons_zero, List.set_cons_succ]
  refine tail_end (by kernel_rfl) ?_
  by_cases hz : R = 0
  · have HE := hide (HZ.out hz)
    subst hz
    go_wp2_with fail
    go_ret
    exact ⟨ret_int (by rw [HE.out]), HB2.out⟩
  · have hpos : (0 : Int) < (R : Int) := by omega
    have HL3 := hide (HL2.out (by omega))
    clear hz HL2
    go_wp2_with fail
    refine (HL3.out _).mono ?_
    rintro e w3 ⟨rfl, hb3⟩
    have HB3 := hide (HB2.out.trans (hb3.mono HB2.out.size))
    clear hb3
    go_wp2_with fail
    go_ret
    exact ⟨rfl, HB3.out⟩

end Go.Proofs.Ytncgeoliboidhaa
