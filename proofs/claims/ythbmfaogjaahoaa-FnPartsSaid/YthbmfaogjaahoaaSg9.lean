/-
  Lengths of texts and segments: the model.
  Condition: as each statement says.
-/
import Derived.Test.YthbmfaogjaahoaaSg8
namespace Go.Proofs.Ythbmfaogjaahoaa
open Go.RowKit
set_option linter.unusedSimpArgs false
set_option linter.unusedVariables false

set_option maxRecDepth 100000 in
set_option maxHeartbeats 2000000 in
theorem specLength (m : Int) (hm : 1 ≤ m ∧ m ≤ 4) (n : Nat) (hn : n ≤ 255) (w : World) :
    Calls Try.prog 95 #[.int .i64 m, .int .i64 n] w (Gives (.int .i64 (slen m n : Nat)) w) := by
  have HG := hide (specGroup m hm)
  have hg1 := gsz_pos m
  have hg3 := gsz_le m
  have hL1 := specWidth m hm (gsz m) hg1 (Nat.le_refl _)
  have hr0 : n % gsz m < gsz m := Nat.mod_lt _ hg1
  have hL2 := fun h => specWidth m hm (n % gsz m) h (Nat.le_of_lt hr0)
  have hT : slen m n = 11 + (n / gsz m * wid m (gsz m) + wid m (n % gsz m)) := rfl
  have hb1 := wid_le m (gsz m)
  have hb2 := wid_le m (n % gsz m)
  have h0 : n % gsz m = 0 → wid m (n % gsz m) = 0 := fun h => by rw [h]; rfl
  generalize wid m (n % gsz m) = W2 at hL2 hT hb2 h0
  generalize wid m (gsz m) = W1 at hL1 hT hb1
  generalize slen m n = T at hT ⊢
  generalize gsz m = G at HG hg1 hg3 hL1 hL2 hr0 hT h0
  have hq0 : n / G ≤ n := Nat.div_le_self _ _
  have hrem : ((n : Int)).tmod (G : Int) = ((n % G : Nat) : Int) := by rw [Int.tmod_eq_emod_of_nonneg (by omega)]; rfl
  have hquo : ((n : Int)).tdiv (G : Int) = ((n / G : Nat) : Int) := by rw [Int.tdiv_eq_ediv_of_nonneg (by omega)]; rfl
  generalize n % G = R at hr0 hrem hL2 h0
  generalize n / G = Q at hq0 hquo hT
  have hle : Q * W1 ≤ 255 * 11 := Nat.mul_le_mul (by omega) hb1
  have HL1 := hide hL1
  have HL2 := hide hL2
  clear hL1 hL2
  obtain ⟨P1, hP⟩ : ∃ P1, Q * W1 = P1 := ⟨_, rfl⟩
  rw [hP] at hT hle
  have hmu : IntKind.i64.wrap ((Q : Int) * (W1 : Int)) = (P1 : Int) := by
    rw [← Int.natCast_mul, hP]; exact IntWalk.i64_in _ ⟨by omega, by omega⟩
  have ha1 : IntKind.i64.wrap (11 + (P1 : Int)) = ((11 + P1 : Nat) : Int) := by rw [IntWalk.i64_in _ ⟨by omega, by omega⟩]; omega
  have hwQ : IntKind.i64.wrap (Q : Int) = (Q : Int) := IntWalk.i64_in _ ⟨by omega, by omega⟩
  have hwR : IntKind.i64.wrap (R : Int) = (R : Int) := IntWalk.i64_in _ ⟨by omega, by omega⟩
  have had : IntKind.i64.wrap (((11 + P1 : Nat) : Int) + (W2 : Int)) = (T : Int) := by
    rw [hT]; rw [IntWalk.i64_in _ ⟨by omega, by omega⟩]; omega
  have HZ := hide (show R = 0 → 11 + P1 = T from fun h => by rw [hT, h0 h]; omega)
  generalize 11 + P1 = T1 at ha1 had HZ
  clear hP hT hle h0 hb1 hb2
  obtain ⟨X, hX⟩ : ∃ X : Int, X = (n : Int) := ⟨_, rfl⟩
  obtain ⟨Y, hY⟩ : ∃ Y : Int, Y = (G : Int) := ⟨_, rfl⟩
  have hY0 : Y ≠ 0 := by omega
  rw [← hX, ← hY] at hrem hquo
  rw [← hX]
  rw [← hY] at HL1 HG
  clear hX hY hr0 hq0 hg1 hg3 hn
  go_enter Try.func95, Try.ntmps95
  go_wp2_with fail
  refine (HG.out _).mono ?_
  rintro e w1 ⟨rfl, hw1⟩
  rw [hw1]
  clear hw1
  go_wp2_with fail
  refine tail_begin (fun _ => True) 9 (by kernel_rfl) trivial (fun hS' => ?_)
  refine tail_take2 0 rfl (by kernel_rfl) (by kernel_rfl) (by kernel_rfl) (by decide) (fun _ _ _ h => h) (by rfl) (v := ?_) ?_ (by assumption) ?_
  rotate_left 1
  · intro w' hS'; (try dsimp only at hS'); go_simp; try with_reducible rfl
  try simp only [Act.put, List.setIfInBounds_toArray, List.set_cons_zero, List.set_cons_succ]
  refine tail_take2 1 rfl (by kernel_rfl) (by kernel_rfl) (by kernel_rfl) (by decide) (fun _ _ _ h => h) (by rfl) (v := ?_) ?_ (by assumption) ?_
  rotate_left 1
  · intro w' hS'; (try dsimp only at hS'); go_simp; try with_reducible rfl
  try simp only [Act.put, List.setIfInBounds_toArray, List.set_cons_zero, List.set_cons_succ]
  refine tail_take2 2 rfl (by kernel_rfl) (by kernel_rfl) (by kernel_rfl) (by decide) (fun _ _ _ h => h) (by rfl) (v := ?_) ?_ (by assumption) ?_
  rotate_left 1
  · intro w' hS'; (try dsimp only at hS'); go_simp; try with_reducible rfl
  try simp only [Act.put, List.setIfInBounds_toArray, List.set_cons_zero, List.set_cons_succ]
  refine tail_take2 3 rfl (by kernel_rfl) (by kernel_rfl) (by kernel_rfl) (by decide) (fun _ _ _ h => h) (by rfl) (v := ?_) ?_ (by assumption) ?_
  rotate_left 1
  · intro w' hS'; (try dsimp only at hS'); go_simp; try with_reducible rfl
  try simp only [Act.put, List.setIfInBounds_toArray, List.set_cons_zero, List.set_cons_succ]
  refine tail_take2 4 rfl (by kernel_rfl) (by kernel_rfl) (by kernel_rfl) (by decide) (fun _ _ _ h => h) (by rfl) (v := ?_) ?_ (by assumption) ?_
  rotate_left 1
  · intro w' hS'; (try dsimp only at hS'); go_simp; try with_reducible rfl
  try simp only [Act.put, List.setIfInBounds_toArray, List.set_cons_zero, List.set_cons_succ]
  refine tail_call 5 rfl (by kernel_rfl) rfl (fun K hK => ?_)
  go_simp
  (go_at_call 97; refine (HL1.out _).mono ?_; rintro e w2 ⟨rfl, hb2⟩; have HB2 := hide (below_drewN (Below.refl _ w) 1 |>.trans hb2); clear hb2)
  refine hK.out _ _ (by (try dsimp only); all_goals trivial) (fun hS' => ?_)
  clear hK K
  try simp only [Act.put, List.setIfInBounds_toArray, List.set_cons_zero, List.set_cons_succ]
  refine tail_take2 6 rfl (by kernel_rfl) (by kernel_rfl) (by kernel_rfl) (by decide) (fun _ _ _ h => h) (by rfl) (v := ?_) ?_ (by assumption) ?_
  rotate_left 1
  · intro w' hS'; (try dsimp only at hS'); go_simp; try with_reducible rfl
  try simp only [Act.put, List.setIfInBounds_toArray, List.set_cons_zero, List.set_cons_succ]
  refine tail_take2 7 rfl (by kernel_rfl) (by kernel_rfl) (by kernel_rfl) (by decide) (fun _ _ _ h => h) (by rfl) (v := ?_) ?_ (by assumption) ?_
  rotate_left 1
  · intro w' hS'; (try dsimp only at hS'); go_simp; try with_reducible rfl
  try simp only [Act.put, List.setIfInBounds_toArray, List.set_cons_zero, List.set_cons_succ]
  refine tail_take2 8 rfl (by kernel_rfl) (by kernel_rfl) (by kernel_rfl) (by decide) (fun _ _ _ h => h) (by rfl) (v := ?_) ?_ (by assumption) ?_
  rotate_left 1
  · intro w' hS'; (try dsimp only at hS'); go_simp; try with_reducible rfl
  try simp only [Act.put, List.setIfInBounds_toArray, List.set_cons_zero, List.set_cons_succ]
  refine tail_end (by kernel_rfl) ?_
  by_cases hz : R = 0
  · have HE := hide (HZ.out hz)
    subst hz
    go_wp2_with fail
    go_ret
    exact ⟨ret_int (by rw [HE.out]), HB2.out⟩
  · have hpos : (0 : Int) < (R : Int) := by omega
    have HL3 := hide (HL2.out (by omega))
    clear hz HL2
    go_wp2_with fail
    refine (HL3.out _).mono ?_
    rintro e w3 ⟨rfl, hb3⟩
    have HB3 := hide (HB2.out.trans (hb3.mono HB2.out.size))
    clear hb3
    go_wp2_with fail
    go_ret
    exact ⟨rfl, HB3.out⟩

end Go.Proofs.Ythbmfaogjaahoaa
