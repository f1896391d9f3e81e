/-
  The contracts of AppendBits and what it calls, of the program and of the model.
  Condition: the slices are shorter than 2^40.
-/
import Derived.Test.YtfjagcalfnjddaaDist
namespace Go.Proofs.Ytfjagcalfnjddaa
open Go.RowKit

/-- What a function leaves that appends to a slice of its caller's own. -/
def Longer (e : TypeId) (k : IntKind) (base : Nat) (zs : List Int) (w : World) (x : Ending) (w' : World) : Prop :=
  ∃ v, x = .returned v ∧ Own w' base e k v zs ∧ Below base w w'

def AppRel (base wd : Nat) (zs ys : List Int) (w : World) (v i : Value) (wr : World) : Prop :=
  ∃ j : Nat, j ≤ wd ∧ i = .int .i64 ((wd : Int) - 1 - (j : Int)) ∧ Own wr base 2 .i64 v (zs ++ ys.take j) ∧ Below base w wr

set_option maxHeartbeats 400000 in
theorem implAppendNumber (v : Value) (base wd : Nat) (zs : List Int) (val : Int) (w : World) (hO : Own w base 2 .i64 v zs) (hbase : base ≤ w.heap.size) (hl : zs.length ≤ 1099511627776) (hwd : wd ≤ 62) (hv0 : 0 ≤ val) (hv1 : val ≤ 9223372036854775807) :
    Calls Try.prog 47 #[v, .int .i64 val, .int .i64 (wd : Int)] w (Longer 2 .i64 base (zs ++ bitsOf val wd) w) := by
  have HO := hide hO
  clear hO
  go_enter Try.func47, Try.ntmps47
  go_wp2
  go_loopw [0, 7] (fun u i wr => AppRel base wd zs (bitsOf val wd) w u i wr) (fun _ i _ => (intOf i + 1).toNat)
  case atStart => exact ⟨0, by omega, by simp, by simpa using HO.out, Below.refl _ _⟩
  case round =>
    clear HO
    obtain ⟨u, rfl⟩ : ∃ u : Value, u = u0 := ⟨_, rfl⟩
    obtain ⟨j, hj, rfl, hOwn, hBl⟩ := hrel
    have HO := hide hOwn
    have HBl := hide hBl
    clear hOwn hBl
    by_cases hlt : j < wd
    · have s0 : 0 ≤ (wd : Int) - 1 - (j : Int) := by omega
      have s1 : (wd : Int) - 1 - (j : Int) < 64 := by omega
      have HS := hide (bitsOf_at val hlt)
      have hbit : bits .and .i64 (val / 2 ^ (wd - 1 - j)) 1 = val / 2 ^ (wd - 1 - j) % 2 :=
        and1 _ (Int.ediv_nonneg hv0 (by exact Int.le_of_lt (Int.pow_pos (by decide)))) (Int.le_trans (Int.ediv_le_self _ hv0) hv1)
      generalize val / 2 ^ (wd - 1 - j) % 2 = y at hbit HS
      have hbz : base ≤ wr.heap.size := by have := HBl.out.size; omega
      have hlen : (zs ++ (bitsOf val wd).take j).length + 1 ≤ 1099511628000 := by rw [List.length_append, List.length_take, bitsOf_len]; omega
      go_wp2_with (at_builtin; refine wpList_app1 wr rfl _ _ _ rfl elem64 base u _ rfl HO.out y rfl (by omega) hbz ?_; intro v' w1 hown1 hgrow)
      have HO1 := hide hown1
      have HG1 := hide hgrow
      clear hown1 hgrow hbit
      go_wp2
      go_roundw
      case rel =>
        refine ⟨j + 1, by omega, by go_num, ?_, HBl.out.grown HG1 hbz (fun g hg => (HO.out.lt hg).1)⟩
        have h := HO1.out
        rw [List.append_assoc, ← take_snocI HS] at h
        exact h
      case measure => simp [intOf]; omega
    · go_wp2
      go_ret
      have h := HO.out
      rw [List.take_of_length_le (by rw [bitsOf_len]; omega)] at h
      exact ⟨_, rfl, h, HBl⟩

set_option maxHeartbeats 400000 in
theorem implWidth (wd : Int) (w : World) :
    Calls Try.prog 45 #[.int .i64 wd] w fun e w' => e = .returned (.bool (inR wd 0 32)) ∧ w = w' := by
  by_cases h1 : 0 ≤ wd
  · by_cases h2 : wd ≤ 32
    · have HH := hide (inR_yes h1 h2)
      go_enter Try.func45, Try.ntmps45
      go_wp2
      go_ret
      exact ⟨ret_bool HH, rfl⟩
    · have HH := hide (inR_no (x := wd) (lo := 0) (hi := 32) (by omega))
      have h2' : decide (wd ≤ 32) = false := by simpa using h2
      go_enter Try.func45, Try.ntmps45
      go_wp2
      go_ret
      exact ⟨ret_bool HH, rfl⟩
  · have HH := hide (inR_no (x := wd) (lo := 0) (hi := 32) (by omega))
    have h1' : decide (0 ≤ wd) = false := by simpa using h1
    go_enter Try.func45, Try.ntmps45
    go_wp2
    go_ret
    exact ⟨ret_bool HH, rfl⟩
theorem implWidth_is (wd : Int) (b : Bool) (w : World) (h : inR wd 0 32 = b) :
    Calls Try.prog 45 #[.int .i64 wd] w fun e w' => e = .returned (.bool b) ∧ w = w' := by
  rw [← h]; exact implWidth wd w

set_option maxHeartbeats 400000 in
theorem implFits (val : Int) (wd : Nat) (w : World) (hwd : wd ≤ 32) :
    Calls Try.prog 46 #[.int .i64 val, .int .i64 (wd : Int)] w fun e w' => e = .returned (.bool (inR val 0 (2 ^ wd - 1))) ∧ w = w' := by
  obtain ⟨pw, hpw, he, hp1, hp2⟩ := pow_fits wd (by omega)
  rw [← he]
  clear he
  by_cases h1 : 0 ≤ val
  · by_cases h2 : val < pw
    · have HH := hide (inR_yes h1 (show val ≤ pw - 1 by omega))
      go_enter Try.func46, Try.ntmps46
      go_wp2
      go_ret
      exact ⟨ret_bool HH, rfl⟩
    · have HH := hide (inR_no (x := val) (lo := 0) (hi := pw - 1) (by omega))
      have h2' : decide (val < pw) = false := by simpa using h2
      go_enter Try.func46, Try.ntmps46
      go_wp2
      go_ret
      exact ⟨ret_bool HH, rfl⟩
  · have HH := hide (inR_no (x := val) (lo := 0) (hi := pw - 1) (by omega))
    have h1' : decide (0 ≤ val) = false := by simpa using h1
    go_enter Try.func46, Try.ntmps46
    go_wp2
    go_ret
    exact ⟨ret_bool HH, rfl⟩
theorem implFits_is (val : Int) (wd : Nat) (b : Bool) (w : World) (hwd : wd ≤ 32) (h : inR val 0 (2 ^ wd - 1) = b) :
    Calls Try.prog 46 #[.int .i64 val, .int .i64 (wd : Int)] w fun e w' => e = .returned (.bool b) ∧ w = w' := by
  rw [← h]; exact implFits val wd w hwd
theorem specIn_is (x lo hi : Int) (b : Bool) (w : World) (h : inR x lo hi = b) :
    Calls Try.prog 48 #[.int .i64 x, .int .i64 lo, .int .i64 hi] w fun e w' => e = .returned (.bool b) ∧ w = w' := by
  rw [← h]; exact specIn x lo hi w

theorem new2_nil (e : TypeId) (k : IntKind) (r : Int) (w : World) : NewInts2 e k [] r w (.returned (.tuple #[.slice none 0 0, .int .i64 r])) w :=
  ⟨none, 0, rfl, Nat.le_refl _, nilOwn _ _ _ _, Below.refl _ _⟩

set_option maxHeartbeats 1000000 in
theorem implAppend (A : Option Addr) (n c B : Nat) (zs : List Int) (val wd : Int) (w : World) (hI : Ints .i64 w B A n zs) (hB : B ≤ w.heap.size) (hn : n ≤ 1099511627776) (hv1 : val ≤ 9223372036854775807) :
    Calls Try.prog 17 #[.slice A n c, .int .i64 val, .int .i64 wd] w (NewInts2 2 .i64 (appOf zs val wd) (appCode zs val wd) w) := by
  have hl := hide hI.len
  have HI := hide hI
  clear hI
  rcases hb : isBits zs with _ | _
  · have HB := hide hb
    have HR := hide (app_bad hb val wd)
    clear hb
    rw [HR.out, appOf_bad HR (by decide)]
    go_enter Try.func17, Try.ntmps17
    go_wp2_with fail
    refine (implIsBits_no A n c B zs w HI hn HB).mono ?_
    rintro e w ⟨rfl, rfl⟩
    go_wp2_with fail
    go_ret2
    exact new2_nil _ _ _ _
  · have HB := hide hb
    rcases hw : inR wd 0 32 with _ | _
    · have HW := hide hw
      have HR := hide (app_wide hb val hw)
      clear hb hw
      rw [HR.out, appOf_bad HR (by decide)]
      go_enter Try.func17, Try.ntmps17
      go_wp2_with fail
      refine (implIsBits_yes A n c B zs w HI hn HB).mono ?_
      rintro e w ⟨rfl, rfl⟩
      go_wp2_with fail
      refine (implWidth_is wd false w HW).mono ?_
      rintro e w ⟨rfl, rfl⟩
      go_wp2_with fail
      go_ret2
      exact new2_nil _ _ _ _
    · obtain ⟨d, rfl⟩ : ∃ d : Nat, wd = d := ⟨wd.toNat, by simp only [inR, decide_eq_true_eq] at hw; omega⟩
      have hd : d ≤ 32 := by simp only [inR, decide_eq_true_eq] at hw; omega
      have HW := hide hw
      rcases hv : inR val 0 (2 ^ d - 1) with _ | _
      · have HV := hide hv
        have HR := hide (app_out hb hv)
        clear hb hw hv
        rw [HR.out, appOf_bad HR (by decide)]
        go_enter Try.func17, Try.ntmps17
        go_wp2_with fail
        refine (implIsBits_yes A n c B zs w HI hn HB).mono ?_
        rintro e w ⟨rfl, rfl⟩
        go_wp2_with fail
        refine (implWidth_is _ true w HW).mono ?_
        rintro e w ⟨rfl, rfl⟩
        go_wp2_with fail
        refine (implFits_is val d false w hd HV).mono ?_
        rintro e w ⟨rfl, rfl⟩
        go_wp2_with fail
        go_ret2
        exact new2_nil _ _ _ _
      · have HV := hide hv
        have hv0 : 0 ≤ val := by simp only [inR, decide_eq_true_eq] at hv; omega
        by_cases hlong : 8192 < n + d
        · have HR := hide (app_long hb hd hv (by rw [hl.out]; exact hlong))
          clear hb hw hv
          rw [HR.out, appOf_bad HR (by decide)]
          go_enter Try.func17, Try.ntmps17
          go_wp2_with fail
          refine (implIsBits_yes A n c B zs w HI hn HB).mono ?_
          rintro e w ⟨rfl, rfl⟩
          go_wp2_with fail
          refine (implWidth_is _ true w HW).mono ?_
          rintro e w ⟨rfl, rfl⟩
          go_wp2_with fail
          refine (implFits_is val d true w hd HV).mono ?_
          rintro e w ⟨rfl, rfl⟩
          go_wp2_with fail
          go_ret2
          exact new2_nil _ _ _ _
        · have HR := hide (app_ok hb hd hv (by rw [hl.out]; omega))
          have HD := hide (show appOf zs val d = zs ++ bitsOf val d by rw [appOf, if_pos HR.out, Int.toNat_natCast])
          clear hb hw hv
          rw [HR.out, HD.out]
          go_enter Try.func17, Try.ntmps17
          go_wp2_with fail
          refine (implIsBits_yes A n c B zs w HI hn HB).mono ?_
          rintro e w ⟨rfl, rfl⟩
          go_wp2_with fail
          refine (implWidth_is _ true w HW).mono ?_
          rintro e w ⟨rfl, rfl⟩
          go_wp2_with fail
          refine (implFits_is val d true w hd HV).mono ?_
          rintro e w ⟨rfl, rfl⟩
          go_wp2_with (first
            | (at_make; refine wpList_mk0 _ rfl _ _ _ rfl elem64 .i64 .i64 _ (n + d) rfl rfl (by omega) (by omega) ?_; intro w1 hown hbel; have HO := hide hown; have HBl := hide hbel; clear hown hbel)
            | (at_builtin; refine wpList_appL _ rfl _ _ _ rfl elem64 w.heap.size _ [] rfl HO.out B A n c zs rfl (HI.out.below (HBl.out.mono hB)) (by simp; omega) HBl.out.size ?_; intro v2 w2 hown hgr; have HO2 := hide hown; have HG2 := hide hgr; clear hown hgr))
          rw [List.nil_append] at HO2
          have HB2 := hide (HBl.out.grown HG2 HBl.out.size (fun g hg => (HO.out.lt hg).1))
          go_wp2_with fail
          refine (implAppendNumber v2 w.heap.size d zs val w2 HO2 HB2.out.size (by rw [hl.out]; exact hn) (by omega) hv0 hv1).mono ?_
          rintro e w3 ⟨v3, rfl, hown, hbel⟩
          have HO3 := hide hown
          have HB3 := hide (HB2.out.trans hbel)
          clear hown hbel
          go_wp2_with fail
          go_ret2
          obtain ⟨A3, c3, rfl, hc3⟩ := HO3.out.form
          exact ⟨A3, c3, rfl, hc3, HO3, HB3⟩

set_option maxHeartbeats 400000 in
theorem specAppendL (A : Option Addr) (n c B wd : Nat) (zs : List Int) (val : Int) (w : World) (hI : Ints .i64 w B A n zs) (hB : B ≤ w.heap.size) (hn : n ≤ 1099511627776) (hwd : wd ≤ 62) (hv0 : 0 ≤ val) (hv1 : val ≤ 9223372036854775807) :
    Calls Try.prog 49 #[.slice A n c, .int .i64 val, .int .i64 (wd : Int)] w (Longer 2 .i64 w.heap.size (zs ++ bitsOf val wd) w) := by
  have hl := hide hI.len
  have HI := hide hI
  clear hI
  go_enter Try.func49, Try.ntmps49
  go_wp2_with (at_builtin; refine wpList_appL _ rfl _ _ _ rfl elem64 w.heap.size _ [] rfl (Own.lit0 w _ _) B A n c zs rfl (HI.out.below ((Below.refl B w).alloc hB _)) (by simp; omega) (by simp) ?_; intro v2 w2 hown hgr)
  have HO := hide (show Own w2 w.heap.size 2 .i64 v2 zs by simpa using hown)
  have HBl := hide (((Below.refl w.heap.size w).alloc (Nat.le_refl _) _).grown hgr (by simp) (fun g hg => ((Own.lit0 w 2 .i64).lt hg).1))
  clear hown hgr
  go_wp2
  go_loopw [7, 8] (fun u i wr => AppRel w.heap.size wd zs (bitsOf val wd) w u i wr) (fun _ i _ => (intOf i + 1).toNat)
  case atStart => exact ⟨0, by omega, by simp, by simpa using HO.out, HBl⟩
  case round =>
    clear HO HBl
    obtain ⟨u, rfl⟩ : ∃ u : Value, u = u7 := ⟨_, rfl⟩
    obtain ⟨j, hj, rfl, hOwn, hBl⟩ := hrel
    have HO := hide hOwn
    have HBl := hide hBl
    clear hOwn hBl
    by_cases hlt : j < wd
    · have s0 : 0 ≤ (wd : Int) - 1 - (j : Int) := by omega
      have s1 : (wd : Int) - 1 - (j : Int) < 64 := by omega
      have HS := hide (bitsOf_at val hlt)
      have hbit : bits .and .i64 (val / 2 ^ (wd - 1 - j)) 1 = val / 2 ^ (wd - 1 - j) % 2 :=
        and1 _ (Int.ediv_nonneg hv0 (by exact Int.le_of_lt (Int.pow_pos (by decide)))) (Int.le_trans (Int.ediv_le_self _ hv0) hv1)
      generalize val / 2 ^ (wd - 1 - j) % 2 = y at hbit HS
      have hbz : w.heap.size ≤ wr.heap.size := HBl.out.size
      have hlen : (zs ++ (bitsOf val wd).take j).length + 1 ≤ 1099511628000 := by rw [List.length_append, List.length_take, bitsOf_len, hl.out]; omega
      go_wp2_with (at_builtin; refine wpList_app1 wr rfl _ _ _ rfl elem64 w.heap.size u _ rfl HO.out y rfl (by omega) hbz ?_; intro v' w1 hown1 hgrow)
      have HO1 := hide hown1
      have HG1 := hide hgrow
      clear hown1 hgrow hbit
      go_wp2
      go_roundw
      case rel =>
        refine ⟨j + 1, by omega, by go_num, ?_, HBl.out.grown HG1 hbz (fun g hg => (HO.out.lt hg).1)⟩
        have h := HO1.out
        rw [List.append_assoc, ← take_snocI HS] at h
        exact h
      case measure => simp [intOf]; omega
    · go_wp2
      go_ret
      have h := HO.out
      rw [List.take_of_length_le (by rw [bitsOf_len]; omega)] at h
      exact ⟨_, rfl, h, HBl⟩

set_option maxHeartbeats 1000000 in
theorem specAppend (A : Option Addr) (n c B : Nat) (zs : List Int) (val wd : Int) (w : World) (hI : Ints .i64 w B A n zs) (hB : B ≤ w.heap.size) (hn : n ≤ 1099511627776) (hv1 : val ≤ 9223372036854775807) :
    Calls Try.prog 18 #[.slice A n c, .int .i64 val, .int .i64 wd] w (NewInts2 2 .i64 (appOf zs val wd) (appCode zs val wd) w) := by
  have hl := hide hI.len
  have HI := hide hI
  clear hI
  rcases hb : isBits zs with _ | _
  · have HB := hide hb
    have HR := hide (app_bad hb val wd)
    clear hb
    rw [HR.out, appOf_bad HR (by decide)]
    go_enter Try.func18, Try.ntmps18
    go_wp2_with fail
    refine (specIsBits_no A n c B zs w HI hn HB).mono ?_
    rintro e w ⟨rfl, rfl⟩
    go_wp2_with fail
    go_ret2
    exact new2_nil _ _ _ _
  · have HB := hide hb
    rcases hw : inR wd 0 32 with _ | _
    · have HW := hide hw
      have HR := hide (app_wide hb val hw)
      clear hb hw
      rw [HR.out, appOf_bad HR (by decide)]
      go_enter Try.func18, Try.ntmps18
      go_wp2_with fail
      refine (specIsBits_yes A n c B zs w HI hn HB).mono ?_
      rintro e w ⟨rfl, rfl⟩
      go_wp2_with fail
      refine (specIn_is wd 0 32 false w HW).mono ?_
      rintro e w ⟨rfl, rfl⟩
      go_wp2_with fail
      go_ret2
      exact new2_nil _ _ _ _
    · obtain ⟨d, rfl⟩ : ∃ d : Nat, wd = d := ⟨wd.toNat, by simp only [inR, decide_eq_true_eq] at hw; omega⟩
      have hd : d ≤ 32 := by simp only [inR, decide_eq_true_eq] at hw; omega
      have HW := hide hw
      obtain ⟨pw, hpw, he, hp1, hp2⟩ := pow_fits d (by omega)
      have HE := hide he
      rcases hv : inR val 0 (pw - 1) with _ | _
      · have HV := hide hv
        have HR := hide (app_out (zs := zs) (val := val) (wd := d) hb (by rw [← he]; exact hv))
        clear hb hw hv he
        rw [HR.out, appOf_bad HR (by decide)]
        go_enter Try.func18, Try.ntmps18
        go_wp2_with fail
        refine (specIsBits_yes A n c B zs w HI hn HB).mono ?_
        rintro e w ⟨rfl, rfl⟩
        go_wp2_with fail
        refine (specIn_is _ 0 32 true w HW).mono ?_
        rintro e w ⟨rfl, rfl⟩
        go_wp2_with fail
        refine (specIn_is _ 0 _ false w HV).mono ?_
        rintro e w ⟨rfl, rfl⟩
        go_wp2_with fail
        go_ret2
        exact new2_nil _ _ _ _
      · have HV := hide hv
        have hv0 : 0 ≤ val := by simp only [inR, decide_eq_true_eq] at hv; omega
        by_cases hlong : 8192 < n + d
        · have HR := hide (app_long (zs := zs) (val := val) hb hd (by rw [← he]; exact hv) (by rw [hl.out]; exact hlong))
          clear hb hw hv he
          rw [HR.out, appOf_bad HR (by decide)]
          go_enter Try.func18, Try.ntmps18
          go_wp2_with fail
          refine (specIsBits_yes A n c B zs w HI hn HB).mono ?_
          rintro e w ⟨rfl, rfl⟩
          go_wp2_with fail
          refine (specIn_is _ 0 32 true w HW).mono ?_
          rintro e w ⟨rfl, rfl⟩
          go_wp2_with fail
          refine (specIn_is _ 0 _ true w HV).mono ?_
          rintro e w ⟨rfl, rfl⟩
          go_wp2_with fail
          go_ret2
          exact new2_nil _ _ _ _
        · have HR := hide (app_ok (zs := zs) (val := val) hb hd (by rw [← he]; exact hv) (by rw [hl.out]; omega))
          have HD := hide (show appOf zs val d = zs ++ bitsOf val d by rw [appOf, if_pos HR.out, Int.toNat_natCast])
          clear hb hw hv he
          rw [HR.out, HD.out]
          go_enter Try.func18, Try.ntmps18
          go_wp2_with fail
          refine (specIsBits_yes A n c B zs w HI hn HB).mono ?_
          rintro e w ⟨rfl, rfl⟩
          go_wp2_with fail
          refine (specIn_is _ 0 32 true w HW).mono ?_
          rintro e w ⟨rfl, rfl⟩
          go_wp2_with fail
          refine (specIn_is _ 0 _ true w HV).mono ?_
          rintro e w ⟨rfl, rfl⟩
          go_wp2_with fail
          refine (specAppendL A n c B d zs val w HI hB hn (by omega) hv0 hv1).mono ?_
          rintro e w3 ⟨v3, rfl, hown, hbel⟩
          have HO3 := hide hown
          have HB3 := hide hbel
          clear hown hbel
          go_wp2_with fail
          go_ret2
          obtain ⟨A3, c3, rfl, hc3⟩ := HO3.out.form
          exact ⟨A3, c3, rfl, hc3, HO3, HB3⟩
end Go.Proofs.Ytfjagcalfnjddaa
