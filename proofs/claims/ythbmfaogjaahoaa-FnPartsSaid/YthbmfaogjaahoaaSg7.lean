/-
  Widths of groups and texts as the program reckons them: the number of different groups, the bits that it wants, the bits of a text.
  Condition: as each statement says.
-/
import Derived.Test.YthbmfaogjaahoaaSg4
import Derived.Test.YthbmfaogjaahoaaSgSz
namespace Go.Proofs.Ythbmfaogjaahoaa
open Go.RowKit
set_option linter.unusedSimpArgs false
set_option linter.unusedVariables false

theorem lim_bd {q k : Nat} (hq : q ≤ 256) (hk : k ≤ 3) : q ^ k ≤ 16777216 := by
  have h1 : q ^ k ≤ 256 ^ k := Nat.pow_le_pow_left hq k
  have h2 : 256 ^ k ≤ 256 ^ 3 := Nat.pow_le_pow_right (by omega) hk
  have h3 : 256 ^ 3 = 16777216 := by decide
  omega
theorem mdC_a (s : ByteArray) (z : Int) (n : Nat) (w : World) : (method (n + 1) 170 (.agg #[.string s, .int .i64 z]) "loop.example/g00879/impl.characterCount").run Try.prog w = .ok (150, .agg #[.string s, .int .i64 z]) w := by kernel_rfl
theorem mdC_b (n : Nat) (w : World) : (method (n + 1) 172 (.agg #[]) "loop.example/g00879/impl.characterCount").run Try.prog w = .ok (154, .agg #[]) w := by kernel_rfl
theorem mdG_a (s : ByteArray) (z : Int) (n : Nat) (w : World) : (method (n + 1) 170 (.agg #[.string s, .int .i64 z]) "loop.example/g00879/impl.groupSize").run Try.prog w = .ok (151, .agg #[.string s, .int .i64 z]) w := by kernel_rfl
theorem mdG_b (n : Nat) (w : World) : (method (n + 1) 172 (.agg #[]) "loop.example/g00879/impl.groupSize").run Try.prog w = .ok (155, .agg #[]) w := by kernel_rfl

set_option maxRecDepth 100000 in
set_option maxHeartbeats 2000000 in
theorem implLimA (a : ByteArray) (z : Int) (hasz : a.size ≤ 256) (c : Nat) (hc : c ≤ 3) (w : World) :
    Calls Try.prog 125 #[.iface 170 (.agg #[.string a, .int .i64 z]), .int .i64 c] w (Gives (.int .i64 ((a.size ^ c : Nat) : Int)) w) := by
  have hmd := mdC_a
  go_enter Try.func125, Try.ntmps125
  go_wp2_with fail
  go_loopw [5, 7] (fun p i wr => ∃ k q : Nat, k ≤ c ∧ i = .int .i64 k ∧ p = .int .i64 q ∧ Hid (a.size ^ k = q) ∧ Below w.heap.size w wr) (fun _ i _ => c - (intOf i).toNat)
  case atStart => exact ⟨0, 1, by omega, rfl, rfl, rfl, Below.refl _ _⟩
  case round =>
    obtain ⟨k, q, hk, rfl, rfl, hq, hbr⟩ := hrel
    have HBr := hide hbr
    clear hbr
    by_cases hlt : k < c
    · have hb := lim_bd hasz (show k + 1 ≤ 3 by omega)
      have HQ := hide (show a.size ^ (k + 1) = q * a.size by rw [Nat.pow_succ, hq.out])
      rw [HQ.out] at hb
      have hwm : IntKind.i64.wrap ((q : Int) * ((a.size : Nat) : Int)) = ((q * a.size : Nat) : Int) := by
        have h0 : ((q : Int) * ((a.size : Nat) : Int)) = ((q * a.size : Nat) : Int) := by rw [Int.natCast_mul]
        rw [h0]; exact IntWalk.i64_in _ ⟨by omega, by omega⟩
      clear hq hb
      obtain ⟨r, hr⟩ : ∃ r, q * a.size = r := ⟨_, rfl⟩
      rw [hr] at hwm HQ
      clear hr
      go_wp2_with fail
      refine (implCountA a z _).mono ?_
      rintro e w1 ⟨rfl, hb1⟩
      have HB1 := hide (HBr.out.trans (hb1.mono HBr.out.size))
      clear hb1
      go_wp2_with fail
      go_roundw
      case rel => exact ⟨k + 1, r, by omega, by go_num, rfl, HQ, HB1.out⟩
      case measure => simp [intOf]; omega
    · have hkc : k = c := by omega
      subst hkc
      go_wp2_with fail
      go_ret
      exact ⟨ret_int (by rw [hq.out]), HBr.out⟩

set_option maxRecDepth 100000 in
set_option maxHeartbeats 2000000 in
theorem implLimB (c : Nat) (hc : c ≤ 3) (w : World) :
    Calls Try.prog 125 #[.iface 172 (.agg #[]), .int .i64 c] w (Gives (.int .i64 ((256 ^ c : Nat) : Int)) w) := by
  have hmd := mdC_b
  go_enter Try.func125, Try.ntmps125
  go_wp2_with fail
  go_loopw [5, 7] (fun p i wr => ∃ k q : Nat, k ≤ c ∧ i = .int .i64 k ∧ p = .int .i64 q ∧ Hid (256 ^ k = q) ∧ Below w.heap.size w wr) (fun _ i _ => c - (intOf i).toNat)
  case atStart => exact ⟨0, 1, by omega, rfl, rfl, rfl, Below.refl _ _⟩
  case round =>
    obtain ⟨k, q, hk, rfl, rfl, hq, hbr⟩ := hrel
    have HBr := hide hbr
    clear hbr
    by_cases hlt : k < c
    · have hb := lim_bd (Nat.le_refl 256) (show k + 1 ≤ 3 by omega)
      have HQ := hide (show 256 ^ (k + 1) = q * 256 by rw [Nat.pow_succ, hq.out])
      rw [HQ.out] at hb
      have hwm : IntKind.i64.wrap ((q : Int) * 256) = ((q * 256 : Nat) : Int) := by
        have h0 : ((q : Int) * 256) = ((q * 256 : Nat) : Int) := by rw [Int.natCast_mul]; rfl
        rw [h0]; exact IntWalk.i64_in _ ⟨by omega, by omega⟩
      clear hq hb
      obtain ⟨r, hr⟩ : ∃ r, q * 256 = r := ⟨_, rfl⟩
      rw [hr] at hwm HQ
      clear hr
      go_wp2_with fail
      refine (implCountB _).mono ?_
      rintro e w1 ⟨rfl, hb1⟩
      have HB1 := hide (HBr.out.trans (hb1.mono HBr.out.size))
      clear hb1
      go_wp2_with fail
      go_roundw
      case rel => exact ⟨k + 1, r, by omega, by go_num, rfl, HQ, HB1.out⟩
      case measure => simp [intOf]; omega
    · have hkc : k = c := by omega
      subst hkc
      go_wp2_with fail
      go_ret
      exact ⟨ret_int (by rw [hq.out]), HBr.out⟩

theorem implLim (m : Int) (hm : 1 ≤ m ∧ m ≤ 4) (c : Nat) (hc : c ≤ 3) (w : World) :
    Calls Try.prog 125 #[MV m, .int .i64 c] w (Gives (.int .i64 (glim m c : Nat)) w) := by
  by_cases h4 : m = 4
  · subst h4; rw [MV_b]; exact implLimB c hc w
  · have hm3 : m = 1 ∨ m = 2 ∨ m = 3 := by omega
    have h := implLimA (stS m) (gsz m : Nat) (by rw [stS_size hm3]; rcases hm3 with rfl | rfl | rfl <;> decide) c hc w
    rw [MV_a hm3, glim, ← stS_size hm3]; exact h

set_option maxRecDepth 100000 in
set_option maxHeartbeats 4000000 in
theorem implLen64 (v r : Int) (h : (v, r) ∈ [(0, 0), (9, 4), (99, 7), (999, 10), (44, 6), (2024, 11), (31, 5), ((255 : Int), (8 : Int))]) (w : World) :
    Calls Try.prog 86 #[.int .u64 v] w fun e w' => e = .returned (.int .i64 r) ∧ w' = w := by
  simp only [List.mem_cons, Prod.mk.injEq, List.mem_nil_iff, or_false] at h
  rcases h with ⟨rfl, rfl⟩ | ⟨rfl, rfl⟩ | ⟨rfl, rfl⟩ | ⟨rfl, rfl⟩ | ⟨rfl, rfl⟩ | ⟨rfl, rfl⟩ | ⟨rfl, rfl⟩ | ⟨rfl, rfl⟩
  all_goals
    go_enter Try.func86, Try.ntmps86
    go_wp2_with fail
    go_ret
    exact ⟨by kernel_rfl, rfl⟩

/-- Whether a group may have so many bytes. -/
theorem wid_lim {m : Int} (hm : 1 ≤ m ∧ m ≤ 4) {c : Nat} (hc : c ≤ gsz m) : (((glim m c : Nat) : Int) - 1, ((wid m c : Nat) : Int)) ∈ [(0, 0), (9, 4), (99, 7), (999, 10), (44, 6), (2024, 11), (31, 5), ((255 : Int), (8 : Int))] := by
  have hh : m = 1 ∨ m = 2 ∨ m = 3 ∨ m = 4 := by omega
  rcases hh with rfl | rfl | rfl | rfl
  · have h3 : c ≤ 3 := hc
    have : c = 0 ∨ c = 1 ∨ c = 2 ∨ c = 3 := by omega
    rcases this with rfl | rfl | rfl | rfl <;> decide
  · have h3 : c ≤ 2 := hc
    have : c = 0 ∨ c = 1 ∨ c = 2 := by omega
    rcases this with rfl | rfl | rfl <;> decide
  · have h3 : c ≤ 1 := hc
    have : c = 0 ∨ c = 1 := by omega
    rcases this with rfl | rfl <;> decide
  · have h3 : c ≤ 1 := hc
    have : c = 0 ∨ c = 1 := by omega
    rcases this with rfl | rfl <;> decide

set_option maxRecDepth 100000 in
set_option maxHeartbeats 1000000 in
theorem implGroupWidth (m : Int) (hm : 1 ≤ m ∧ m ≤ 4) (c : Nat) (hc : c ≤ gsz m) (w : World) :
    Calls Try.prog 124 #[MV m, .int .i64 c] w (Gives (.int .i64 (wid m c : Nat)) w) := by
  have hg3 := gsz_le m
  have HL := hide (implLim m hm c (by omega))
  have HW := hide (wid_lim hm hc)
  have hl2 : glim m c ≤ 16777216 := lim_bd (by unfold gbase; split <;> (try split) <;> (try split) <;> omega) (by omega)
  have hl1 : 1 ≤ glim m c := Nat.pos_of_ne_zero (by unfold glim gbase; intro h; have := Nat.pow_eq_zero.1 h; split at this <;> (try split at this) <;> (try split at this) <;> omega)
  obtain ⟨M, hM⟩ : ∃ M, MV m = M := ⟨_, rfl⟩
  obtain ⟨L, hL⟩ : ∃ L, glim m c = L := ⟨_, rfl⟩
  obtain ⟨W, hW⟩ : ∃ W, wid m c = W := ⟨_, rfl⟩
  rw [hM, hL] at HL
  rw [hL, hW] at HW
  rw [hL] at hl1 hl2
  rw [hM, hW]
  clear hM hL hW hc hm hg3
  have hw1 : IntKind.i64.wrap ((L : Int) - 1) = (L : Int) - 1 := IntWalk.i64_in _ ⟨by omega, by omega⟩
  have hw2 : IntKind.u64.wrap ((L : Int) - 1) = (L : Int) - 1 := by rw [IntKind.wrap_u64]; omega
  go_enter Try.func124, Try.ntmps124
  go_wp2_with fail
  refine (HL.out w).mono ?_
  rintro e w1 ⟨rfl, hb1⟩
  have HB1 := hide hb1
  clear hb1
  go_wp2_with fail
  refine (implLen64 _ _ HW.out _).mono ?_
  rintro e _ ⟨rfl, rfl⟩
  go_wp2_with fail
  go_ret
  exact ⟨rfl, HB1.out⟩
end Go.Proofs.Ythbmfaogjaahoaa
