/-
  The contracts of AppendBits and what it calls, of the program and of the model.
  Condition: the slices are shorter than 2^40.
-/
import Derived.Test.YtncgeoliboidhaaGreatDist
namespace Go.Proofs.YtncgeoliboidhaaGreat
open Go.RowKit

/-- What a function leaves that appends to a slice of its caller's own. -/
def Longer (e : TypeId) (k : IntKind) (base : Nat) (zs : List Int) (w : World) (x : Ending) (w' : World) : Prop :=
  ∃ v, x = .returned v ∧ Own w' base e k v zs ∧ Below base w w'

def AppRel (base wd : Nat) (zs ys : List Int) (w : World) (v i : Value) (wr : World) : Prop :=
  ∃ j : Nat, j ≤ wd ∧ i = .int .i64 ((wd : Int) - 1 - (j : Int)) ∧ Own wr base 2 .i64 v (zs ++ ys.take j) ∧ Below base w wr

set_option maxHeartbeats 400000 in
theorem implAppendNumber (v : Value) (base wd : Nat) (zs : List Int) (val : Int) (w : World) (hO : Own w base 2 .i64 v zs) (hbase : base ≤ w.heap.size) (hl : zs.length ≤ 1099511627776) (hwd : wd ≤ 62) (hv0 : 0 ≤ val) (hv1 : val ≤ 9223372036854775807) :
    Calls Tryz.prog 92 #[v, .int .i64 val, .int .i64 (wd : Int)] w (Longer 2 .i64 base (zs ++ bitsOf val wd) w) := by
  have HO := hide hO
  clear hO
  go_enter Tryz.func92, Tryz.ntmps92
  go_wp2
  go_loopw [0, 7] (fun u i wr => AppRel base wd zs (bitsOf val wd) w u i wr) (fun _ i _ => (intOf i + 1).toNat)
  case atStart => exact ⟨0, by omega, by simp, by simpa using HO.out, Below.refl _ _⟩
  case round =>
    clear HO
    obtain ⟨u, rfl⟩ : ∃ u : Value, u = u0 := ⟨_, rfl⟩
    obtain ⟨j, hj, rfl, hOwn, hBl⟩ := hrel
    have HO := hide hOwn
    have HBl := hide hBl
    clear hOwn hBl
    by_cases hlt : j < wd
    · have s0 : 0 ≤ (wd : Int) - 1 - (j : Int) := by omega
      have s1 : (wd : Int) - 1 - (j : Int) < 64 := by omega
      have HS := hide (bitsOf_at val hlt)
      have hbit : bits .and .i64 (val / 2 ^ (wd - 1 - j)) 1 = val / 2 ^ (wd - 1 - j) % 2 :=
        and1 _ (Int.ediv_nonneg hv0 (by exact Int.le_of_lt (Int.pow_pos (by decide)))) (Int.le_trans (Int.ediv_le_self _ hv0) hv1)
      generalize val / 2 ^ (wd - 1 - j) % 2 = y at hbit HS
      have hbz : base ≤ wr.heap.size := by have := HBl.out.size; omega
      have hlen : (zs ++ (bitsOf val wd).take j).length + 1 ≤ 1099511628000 := by rw [List.length_append, List.length_take, bitsOf_len]; omega
      go_wp2_with (at_builtin; refine wpList_app1 wr rfl _ _ _ rfl elem64 base u _ rfl HO.out y rfl (by omega) hbz ?_; intro v' w1 hown1 hgrow)
      have HO1 := hide hown1
      have HG1 := hide hgrow
      clear hown1 hgrow hbit
      go_wp2
      go_roundw
      case rel =>
        refine ⟨j + 1, by omega, by go_num, ?_, HBl.out.grown HG1 hbz (fun g hg => (HO.out.lt hg).1)⟩
        have h := HO1.out
        rw [List.append_assoc, ← take_snocI HS] at h
        exact h
      case measure => simp [intOf]; omega
    · go_wp2
      go_ret
      have h := HO.out
      rw [List.take_of_length_le (by rw [bitsOf_len]; omega)] at h
      exact ⟨_, rfl, h, HBl⟩

set_option maxHeartbeats 400000 in
theorem implFits (val : Int) (wd : Nat) (w : World) (hwd : wd ≤ 32) :
    Calls Tryz.prog 91 #[.int .i64 val, .int .i64 (wd : Int)] w fun e w' => e = .returned (.bool (inR val 0 (2 ^ wd - 1))) ∧ w = w' := by
  obtain ⟨pw, hpw, he, hp1, hp2⟩ := pow_fits wd (by omega)
  rw [← he]
  clear he
  by_cases h1 : 0 ≤ val
  · by_cases h2 : val < pw
    · have HH := hide (inR_yes h1 (show val ≤ pw - 1 by omega))
      go_enter Tryz.func91, Tryz.ntmps91
      go_wp2
      go_ret
      exact ⟨ret_bool HH, rfl⟩
    · have HH := hide (inR_no (x := val) (lo := 0) (hi := pw - 1) (by omega))
      have h2' : decide (val < pw) = false := by simpa using h2
      go_enter Tryz.func91, Tryz.ntmps91
      go_wp2
      go_ret
      exact ⟨ret_bool HH, rfl⟩
  · have HH := hide (inR_no (x := val) (lo := 0) (hi := pw - 1) (by omega))
    have h1' : decide (0 ≤ val) = false := by simpa using h1
    go_enter Tryz.func91, Tryz.ntmps91
    go_wp2
    go_ret
    exact ⟨ret_bool HH, rfl⟩
theorem implFits_is (val : Int) (wd : Nat) (b : Bool) (w : World) (hwd : wd ≤ 32) (h : inR val 0 (2 ^ wd - 1) = b) :
    Calls Tryz.prog 91 #[.int .i64 val, .int .i64 (wd : Int)] w fun e w' => e = .returned (.bool b) ∧ w = w' := by
  rw [← h]; exact implFits val wd w hwd

theorem new2_nil (e : TypeId) (k : IntKind) (r : Int) (w : World) : NewInts2 e k [] r w (.returned (.tuple #[.slice none 0 0, .int .i64 r])) w :=
  ⟨none, 0, rfl, Nat.le_refl _, nilOwn _ _ _ _, Below.refl _ _⟩

set_option maxHeartbeats 400000 in
theorem specAppendL (A : Option Addr) (n c B wd : Nat) (zs : List Int) (val : Int) (w : World) (hI : Ints .i64 w B A n zs) (hB : B ≤ w.heap.size) (hn : n ≤ 1099511627776) (hwd : wd ≤ 62) (hv0 : 0 ≤ val) (hv1 : val ≤ 9223372036854775807) :
    Calls Tryz.prog 96 #[.slice A n c, .int .i64 val, .int .i64 (wd : Int)] w (Longer 2 .i64 w.heap.size (zs ++ bitsOf val wd) w) := by
  have hl := hide hI.len
  have HI := hide hI
  clear hI
  go_enter Tryz.func96, Tryz.ntmps96
  go_wp2_with (at_builtin; refine wpList_appL _ rfl _ _ _ rfl elem64 w.heap.size _ [] rfl (Own.lit0 w _ _) B A n c zs rfl (HI.out.below ((Below.refl B w).alloc hB _)) (by simp; omega) (by simp) ?_; intro v2 w2 hown hgr)
  have HO := hide (show Own w2 w.heap.size 2 .i64 v2 zs by simpa using hown)
  have HBl := hide (((Below.refl w.heap.size w).alloc (Nat.le_refl _) _).grown hgr (by simp) (fun g hg => ((Own.lit0 w 2 .i64).lt hg).1))
  clear hown hgr
  go_wp2
  go_loopw [7, 8] (fun u i wr => AppRel w.heap.size wd zs (bitsOf val wd) w u i wr) (fun _ i _ => (intOf i + 1).toNat)
  case atStart => exact ⟨0, by omega, by simp, by simpa using HO.out, HBl⟩
  case round =>
    clear HO HBl
    obtain ⟨u, rfl⟩ : ∃ u : Value, u = u7 := ⟨_, rfl⟩
    obtain ⟨j, hj, rfl, hOwn, hBl⟩ := hrel
    have HO := hide hOwn
    have HBl := hide hBl
    clear hOwn hBl
    by_cases hlt : j < wd
    · have s0 : 0 ≤ (wd : Int) - 1 - (j : Int) := by omega
      have s1 : (wd : Int) - 1 - (j : Int) < 64 := by omega
      have HS := hide (bitsOf_at val hlt)
      have hbit : bits .and .i64 (val / 2 ^ (wd - 1 - j)) 1 = val / 2 ^ (wd - 1 - j) % 2 :=
        and1 _ (Int.ediv_nonneg hv0 (by exact Int.le_of_lt (Int.pow_pos (by decide)))) (Int.le_trans (Int.ediv_le_self _ hv0) hv1)
      generalize val / 2 ^ (wd - 1 - j) % 2 = y at hbit HS
      have hbz : w.heap.size ≤ wr.heap.size := HBl.out.size
      have hlen : (zs ++ (bitsOf val wd).take j).length + 1 ≤ 1099511628000 := by rw [List.length_append, List.length_take, bitsOf_len, hl.out]; omega
      go_wp2_with (at_builtin; refine wpList_app1 wr rfl _ _ _ rfl elem64 w.heap.size u _ rfl HO.out y rfl (by omega) hbz ?_; intro v' w1 hown1 hgrow)
      have HO1 := hide hown1
      have HG1 := hide hgrow
      clear hown1 hgrow hbit
      go_wp2
      go_roundw
      case rel =>
        refine ⟨j + 1, by omega, by go_num, ?_, HBl.out.grown HG1 hbz (fun g hg => (HO.out.lt hg).1)⟩
        have h := HO1.out
        rw [List.append_assoc, ← take_snocI HS] at h
        exact h
      case measure => simp [intOf]; omega
    · go_wp2
      go_ret
      have h := HO.out
      rw [List.take_of_length_le (by rw [bitsOf_len]; omega)] at h
      exact ⟨_, rfl, h, HBl⟩

end Go.Proofs.YtncgeoliboidhaaGreat
