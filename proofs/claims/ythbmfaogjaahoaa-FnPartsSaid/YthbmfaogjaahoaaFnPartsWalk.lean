/-
  The walk of the law FnParts: it returns true, and nothing that was there before is changed.
  Condition: none.
-/
import Derived.Test.YthbmfaogjaahoaaFp2
import Derived.Test.YthbmfaogjaahoaaTF
import Derived.Test.YthbmfaogjaahoaaRN
import Derived.Test.YthbmfaogjaahoaaDice
import Derived.Test.YthbmfaogjaahoaaLike
import Derived.Test.YthbmfaogjaahoaaShell
import Derived.BigQuiet
namespace Go.Proofs.Ythbmfaogjaahoaa
open Go Go.RowKit
set_option linter.unusedVariables false
set_option linter.unusedSimpArgs false

theorem fpw_u8 {n : Int} (h : (Lit.int .u8 n).wf = true) : 0 ≤ n ∧ n ≤ 255 := by
  simp [Lit.wf, IntKind.min, IntKind.max, IntKind.signed, IntKind.bits] at h
  omega
def FpRel (w w2 : World) (p k γ : Int) (bA bB base m : Nat) (X Y : Nat → PtV) (vA vB : Value) (u i : Value) (wr : World) : Prop :=
  ∃ (j : Nat) (q : Int), j ≤ m ∧ q = (m : Int) - 1 - j ∧ i = .int .i64 q ∧ OwnPt wr base u j (ptV Y) ∧ OwnPt wr bA vA m (ptV X) ∧ OwnPt wr bB vB m (ptV X) ∧ Box w2 wr 36 p k γ ∧ Below w.heap.size w wr ∧ base ≤ wr.heap.size

set_option maxRecDepth 100000 in
set_option maxHeartbeats 4000000 in
theorem fnPartsWalk (a0 : Option Addr) (n0 c0 : Nat) (z0 : List Int) (w : World) (h0 : Came .u8 w a0 n0 c0 z0) :
    Calls Try.prog 9 #[.slice a0 n0 c0] w fun e w' => e = .returned (.bool true) ∧ Below w.heap.size w w' := by
  obtain ⟨hI, hnc, hcm, hwf⟩ := h0
  have HI := hide hI
  have HBY := hide (show ∀ b ∈ z0, 0 ≤ b ∧ b ≤ 255 from fun b hb => fpw_u8 (hwf b hb))
  clear hI hwf
  unfold maxLen at hcm
  by_cases hbig : 4096 < n0
  · go_enter Try.func9, Try.ntmps9
    go_wp2_with fail
    refine (big_yes a0 n0 c0 w hbig (by omega)).mono ?_
    rintro e wz ⟨rfl, rfl⟩
    go_wp2_with fail
    go_ret
    exact ⟨rfl, Below.refl _ _⟩
  have hn0 : n0 ≤ 4096 := by omega
  go_enter Try.func9, Try.ntmps9
  go_wp2_with fail
  refine (big_no a0 n0 c0 w hn0).mono ?_
  rintro e wz ⟨rfl, rfl⟩
  go_wp2_with fail
  refine (drawSplit a0 n0 c0 z0 w HI.out hn0 HBY.out).mono ?_
  rintro e w1 ⟨p, k, γ, s, cap, rfl, hs, hb1⟩
  obtain ⟨m, X, cd, hm8, hX, HS, HM⟩ := sm_all p k γ s (by omega) cap
  have HSP := hide HS
  have HIM := hide HM
  have HXX := hide hX
  have HB1 := hide hb1
  clear HS HM hX hb1
  have HX1 := hide (Box.start w1 36 p k γ)
  obtain ⟨w2, hw2⟩ : ∃ w2, w1.alloc (.cells #[.int .i64 p, .int .i64 k, .int .i64 γ] 36) = w2 := ⟨_, rfl⟩
  rw [hw2] at HX1
  obtain ⟨b0, b1, b2⟩ := HX1.out.cells
  go_wp2_with fail
  clear hw2
  refine (HIM.out _).mono ?_
  rintro e w3 ⟨AG, cG, rfl, hcG, hcmG, hoG, hb3⟩
  have HX3 := hide (HX1.out.next hb3)
  have HOG3 := hide hoG
  clear hoG hb3 b0 b1 b2
  obtain ⟨b0, b1, b2⟩ := HX3.out.cells
  go_wp2_with fail
  refine (HSP.out _).mono ?_
  rintro e w4 ⟨AW, cW, rfl, hcW, hcmW, hoW, hb4⟩
  have HX4 := hide (HX3.out.next hb4)
  have HOG4 := hide (HOG3.out.next hb4)
  have HOW4 := hide hoW
  clear hoW hb4 HOG3 b0 b1 b2
  have q1 : (cd != cd) = false := by simp
  have q2 : ((m : Int) != (m : Int)) = false := by simp
  have HB4 := hide (HB1.out.trans (HX4.out.2.mono HB1.out.size))
  by_cases hcd : cd = 0
  case neg =>
    have q3 : (cd != 0) = true := by simpa using hcd
    go_wp2_with fail
    go_ret
    exact ⟨rfl, HB4.out⟩
  obtain ⟨r, hxn, hXe⟩ := HXX.out hcd
  obtain ⟨hm1, _⟩ := xpN_in hxn
  have HXN := hide hxn
  subst hcd hXe
  have q3 : ((0 : Int) != 0) = false := rfl
  obtain ⟨gA, cA, hA, hA1, hA2, hA3⟩ := HOG4.out.form (by omega)
  obtain ⟨gB, cB, hB, hB1, hB2, hB3⟩ := HOW4.out.form (by omega)
  injection hA with hA _ hA'
  injection hB with hB _ hB'
  subst hA hA' hB hB'
  clear hxn
  go_wp2_with fail
  have HOP0 := hide (OwnPt.lit0 w4 (ptV (rvY s r m)))
  have HOGx := hide (HOG4.out.next ((Below.refl _ _).alloc (Nat.le_refl _) (.cells #[] 26)))
  have HOWx := hide (HOW4.out.next ((Below.refl _ _).alloc (Nat.le_refl _) (.cells #[] 26)))
  have HXx := hide (HX4.out.alloc (.cells #[] 26))
  have HBx := hide (HB4.out.alloc HB4.out.size (.cells #[] 26))
  have HSZ := hide (show w4.heap.size ≤ (w4.alloc (.cells #[] 26)).heap.size by rw [alloc_size]; omega)
  have HGA := hide hA2
  have HGB := hide hB2
  have HLB := hide (show w.heap.size ≤ w4.heap.size from HB4.out.size)
  have HLX := hide HX4.out.lt
  obtain ⟨base, hbase⟩ : ∃ base, w4.heap.size = base := ⟨_, rfl⟩
  rw [hbase] at HOP0 HSZ HGA HGB HLB HLX
  try rw [hbase]
  obtain ⟨W0, hW0⟩ : ∃ W0, w4.alloc (.cells #[] 26) = W0 := ⟨_, rfl⟩
  rw [hW0] at HOP0 HOGx HOWx HXx HBx HSZ
  try rw [hW0]
  clear hW0 hbase hA2 hB2 HOG4 HOW4 HX4 HB4
  go_wp2_with fail
  go_loopw [10, 11] (fun u i wr => FpRel w w1 p k γ w2.heap.size w3.heap.size base m (smY s r m) (rvY s r m) (.slice (some ⟨gA, 0, none⟩) m cG) (.slice (some ⟨gB, 0, none⟩) m cW) u i wr) (fun _ i _ => (intOf i + 1).toNat)
  case atStart => exact ⟨0, (m : Int) - 1, Nat.zero_le _, by omega, by go_num, HOP0.out, HOGx.out, HOWx.out, HXx.out, HBx.out, HSZ.out⟩
  case round =>
    clear HOP0 HOGx HOWx HXx HBx HSZ
    obtain ⟨j, q, hj, hq, rfl, ho, hog, how, hx, hbl, hsz⟩ := hrel
    have HOP := hide ho
    have HOG := hide hog
    have HOW := hide how
    have HXR := hide hx
    have HB := hide hbl
    have HSZ := hide hsz
    obtain ⟨Ao, co, hu, hco, hcm'⟩ := ho.form0
    subst hu
    clear ho hog how hx hbl hsz
    by_cases hlt : j < m
    · obtain ⟨i, rfl⟩ : ∃ i : Nat, q = i := ⟨q.toNat, by omega⟩
      have him : i < m := by omega
      obtain ⟨a0, a1, a2, a3⟩ := HOG.out.at_ him
      obtain ⟨c0, c1, c2, c3⟩ := HOW.out.at_ him
      have HY := hide (show rvY s r m j = smY s r m i by unfold rvY; rw [show m - 1 - j = i by omega])
      have HYV := hide (ptV_at (rvY s r m) j)
      rw [HY.out] at HYV
      obtain ⟨⟨xi, xc, xp, xt⟩, hxv⟩ : ∃ x, smY s r m i = x := ⟨_, rfl⟩
      rw [hxv] at a0 a1 a2 a3 c0 c1 c2 c3 HYV
      simp only at a0 a1 a2 a3 c0 c1 c2 c3
      have HQ := hide hq
      have HNA := hide (show (Value.slice (some ⟨gA, 0, none⟩) m cG).ownBlock = none ∨ (Value.slice (some ⟨gA, 0, none⟩) m cG).ownBlock ≠ (Value.slice Ao j co).ownBlock from .inr fun e => by have := (HOP.out.lt (g := gA) e.symm).1; have := HGA.out; omega)
      have HNB := hide (show (Value.slice (some ⟨gB, 0, none⟩) m cW).ownBlock = none ∨ (Value.slice (some ⟨gB, 0, none⟩) m cW).ownBlock ≠ (Value.slice Ao j co).ownBlock from .inr fun e => by have := (HOP.out.lt (g := gB) e.symm).1; have := HGB.out; omega)
      clear HY hxv hq
      go_wp2_with fail
      go_quiet (fail)
      have HOPd := hide (show OwnPt (wr.drewN nq) base (.slice Ao j co) j (ptV (rvY s r m)) from HOP.out)
      have HOGd := hide (show OwnPt (wr.drewN nq) w2.heap.size (.slice (some ⟨gA, 0, none⟩) m cG) m (ptV (smY s r m)) from HOG.out)
      have HOWd := hide (show OwnPt (wr.drewN nq) w3.heap.size (.slice (some ⟨gB, 0, none⟩) m cW) m (ptV (smY s r m)) from HOW.out)
      have HXd := hide (show Box w1 (wr.drewN nq) 36 p k γ from ⟨HXR.out.1, below_drewN HXR.out.2 nq⟩)
      have HBd := hide (below_drewN HB.out nq)
      have HSZd := hide (show base ≤ (wr.drewN nq).heap.size from HSZ.out)
      have d0 : (wr.drewN nq).cell? ⟨gA, i * 4, none⟩ = some (.int .i64 xi) := a0
      have d1 : (wr.drewN nq).cell? ⟨gA, i * 4 + 1, none⟩ = some (.int .i64 xc) := a1
      have d2 : (wr.drewN nq).cell? ⟨gA, i * 4 + 2, none⟩ = some (.int .i64 xp) := a2
      have d3 : (wr.drewN nq).cell? ⟨gA, i * 4 + 3, none⟩ = some (.string xt) := a3
      obtain ⟨wd, hwd⟩ : ∃ wd, wr.drewN nq = wd := ⟨_, rfl⟩
      rw [hwd] at HOPd HOGd HOWd HXd HBd HSZd d0 d1 d2 d3 ⊢
      clear hwd a0 a1 a2 a3 c0 c1 c2 c3 HOP HOG HOW HXR HB HSZ
      go_wp2_with (at_builtin; refine wpList_appPt rfl wd rfl _ _ rfl rfl HOPd.out ⟨xi, xc, xp, xt⟩ HYV.out rfl (by omega) HSZd.out ?_; intro u w5 h1 h2)
      have HOP5 := hide h1
      have HOG5 := hide (HOGd.out.grown h2 HNA.out)
      have HOW5 := hide (HOWd.out.grown h2 HNB.out)
      have HX5 := hide (HXd.out.grow' h2 (fun b hb => Nat.lt_of_lt_of_le HLX.out (HOPd.out.lt hb).1))
      have HB5 := hide (HBd.out.grown h2 HBd.out.size (fun b hb => Nat.le_trans HLB.out (HOPd.out.lt hb).1))
      have HSZ5 := hide (Nat.le_trans HSZd.out h2.size)
      clear h1 h2
      go_wp2_with fail
      go_roundw
      case rel => exact ⟨j + 1, (i : Int) - 1, by omega, by have := HQ.out; omega, rfl, HOP5.out, HOG5.out, HOW5.out, HX5.out, HB5.out, HSZ5.out⟩
      case measure => simp [intOf]
    · obtain rfl : j = m := by omega
      have hq1 : q = -1 := by omega
      subst hq1
      clear hq
      obtain ⟨hj0, hjt⟩ := rv_join (s := s) (r := r) (n := j) (by omega) HXN.out
      have HJP := hide (implJp Ao j co wr.heap.size (rvY s r j) wr HOP.out.pts (Nat.le_refl _) (by omega) (fun i hi => ⟨by have := xpT_le s r (j - 1 - i); show (xpT s r (j - 1 - i)).size ≤ _; omega, by show (-9223372036854775808 : Int) ≤ (j : Int) ∧ (j : Int) ≤ 9223372036854775807; omega⟩))
      rw [hj0, hjt] at HJP
      have HII := hide (fun w' (h : Below w.heap.size w w') => (HI.out.below h).more h.size)
      clear hj0 hjt
      go_wp2_with fail
      refine HJP.out.mono ?_
      rintro e w6 ⟨rfl, hb6⟩
      have HB6 := hide (HB.out.trans (hb6.mono HB.out.size))
      have HOG6 := hide (HOG.out.next hb6)
      clear hb6 HJP HOW HB HOP HOG HXR HSZ
      go_wp2_with fail
      refine (roll_any _ _ _ z0 1201 w6 (HII.out w6 HB6.out) hn0 HBY.out).mono ?_
      rintro e w7 ⟨rfl, hd, hb7⟩
      have HB7 := hide (HB6.out.trans (hb7.mono HB6.out.size))
      have HOG7 := hide (HOG6.out.next hb7)
      have HDI := hide hd
      have HL7 := hide (show w.heap.size ≤ w6.heap.size from HB6.out.size)
      have HG6 := hide (show gA < w6.heap.size from (HOG6.out.lt (g := gA) rfl).2)
      clear hb7 hd HB6 HOG6
      go_wp2_with fail
      refine (below_any _ _ _ _ _ z0 (j : Int) w7 HDI.out (by omega) (by omega)).mono ?_
      rintro e w8 ⟨y, rfl, hy, hd8, hg8⟩
      have HB8 := hide (HB7.out.grown hg8 HB7.out.size (fun b hb => by injection hb with hb; have := HL7.out; omega))
      have HOG8 := hide (HOG7.out.grown hg8 (.inr (by intro e; have := HG6.out; simp only [Value.ownBlock, Option.some.injEq] at e; omega)))
      have hyj : y < j := by omega
      clear hg8 hd8 HDI HB7 HOG7
      go_wp2_with fail
      have hyw : IntKind.i64.wrap ((y : Int) + 1) = ((y + 1 : Nat) : Int) := by rw [IntWalk.i64_in _ ⟨by omega, by omega⟩]; rfl
      have hyj1 : y + 1 ≤ j := hyj
      have hyG : y ≤ cG := by omega
      have hyG2 : (y : Int) ≤ (y : Int) + 1 := by omega
      have hyb : 0 ≤ (y : Int) + 1 ∧ (y : Int) + 1 ≤ (j : Int) := by omega
      by_cases hyc : cG = y + 1
      · have hjz : j - (y + 1) = 0 := by omega
        have HJZ := hide hjz
        clear hjz
        refine tail_begin (fun _ => True) 11 (by kernel_rfl) trivial (fun hS' => ?_)
        have HOGd := hide (show OwnPt w8.drew w2.heap.size (.slice (some ⟨gA, 0, none⟩) j cG) j (ptV (smY s r j)) from HOG8.out)
        have HBd := hide HB8.out.drew
        obtain ⟨wd, hwd⟩ : ∃ wd, w8.drew = wd := ⟨_, rfl⟩
        rw [hwd] at HOGd HBd ⊢
        clear hwd HOG8 HB8
        refine tail_take2 1 rfl (by kernel_rfl) (by kernel_rfl) (by kernel_rfl) (by decide) (fun _ _ _ h => h) (by rfl) (v := ?_) ?_ (by assumption) ?_
        rotate_left 1
        · intro w' hS'; (try dsimp only at hS'); go_simp; (try rw [if_pos hyG]); (try rw [if_pos hyG2]); (try rw [if_pos hyb]); try with_reducible rfl
        try simp only [Act.put, List.setIfInBounds_toArray, List.set_cons_zero, List.set_cons_succ]
        refine tail_take2 2 rfl (by kernel_rfl) (by kernel_rfl) (by kernel_rfl) (by decide) (fun _ _ _ h => h) (by rfl) (v := ?_) ?_ (by assumption) ?_
        rotate_left 1
        · intro w' hS'; (try dsimp only at hS'); go_simp; (try rw [if_pos hyG]); (try rw [if_pos hyG2]); (try rw [if_pos hyb]); try with_reducible rfl
        try simp only [Act.put, List.setIfInBounds_toArray, List.set_cons_zero, List.set_cons_succ]
        refine tail_take2 3 rfl (by kernel_rfl) (by kernel_rfl) (by kernel_rfl) (by decide) (fun _ _ _ h => h) (by rfl) (v := ?_) ?_ (by assumption) ?_
        rotate_left 1
        · intro w' hS'; (try dsimp only at hS'); go_simp; (try rw [if_pos hyG]); (try rw [if_pos hyG2]); (try rw [if_pos hyb]); try with_reducible rfl
        try simp only [Act.put, List.setIfInBounds_toArray, List.set_cons_zero, List.set_cons_succ]
        refine tail_take2 5 rfl (by kernel_rfl) (by kernel_rfl) (by kernel_rfl) (by decide) (fun _ _ _ h => h) (by rfl) (v := ?_) ?_ (by assumption) ?_
        rotate_left 1
        · intro w' hS'; (try dsimp only at hS'); go_simp; (try rw [if_pos hyG]); (try rw [if_pos hyG2]); (try rw [if_pos hyb]); try with_reducible rfl
        try simp only [Act.put, List.setIfInBounds_toArray, List.set_cons_zero, List.set_cons_succ]
        refine tail_take2 6 rfl (by kernel_rfl) (by kernel_rfl) (by kernel_rfl) (by decide) (fun _ _ _ h => h) (by rfl) (v := ?_) ?_ (by assumption) ?_
        rotate_left 1
        · intro w' hS'; (try dsimp only at hS'); go_simp; (try rw [if_pos hyG]); (try rw [if_pos hyG2]); (try rw [if_pos hyb]); try with_reducible rfl
        try simp only [Act.put, List.setIfInBounds_toArray, List.set_cons_zero, List.set_cons_succ]
        refine tail_take2 7 rfl (by kernel_rfl) (by kernel_rfl) (by kernel_rfl) (by decide) (fun _ _ _ h => h) (by rfl) (v := ?_) ?_ (by assumption) ?_
        rotate_left 1
        · intro w' hS'; (try dsimp only at hS'); go_simp; (try rw [if_pos hyG]); (try rw [if_pos hyG2]); (try rw [if_pos hyb]); try with_reducible rfl
        try simp only [Act.put, List.setIfInBounds_toArray, List.set_cons_zero, List.set_cons_succ]
        refine tail_take2 8 rfl (by kernel_rfl) (by kernel_rfl) (by kernel_rfl) (by decide) (fun _ _ _ h => h) (by rfl) (v := ?_) ?_ (by assumption) ?_
        rotate_left 1
        · intro w' hS'; (try dsimp only at hS'); go_simp; (try rw [if_pos hyG]); (try rw [if_pos hyG2]); (try rw [if_pos hyb]); try with_reducible rfl
        try simp only [Act.put, List.setIfInBounds_toArray, List.set_cons_zero, List.set_cons_succ]
        have HV0 := hide (OwnPt.lit0 wd (ptV (cutY s r j y)))
        have HOGa := hide (HOGd.out.next ((Below.refl _ _).alloc (Nat.le_refl _) (.cells #[] 26)))
        have HBa := hide (HBd.out.alloc HBd.out.size (.cells #[] 26))
        have HSa := hide (show wd.heap.size ≤ (wd.alloc (.cells #[] 26)).heap.size by rw [alloc_size]; omega)
        have HGd := hide (show gA < wd.heap.size from (HOGd.out.lt (g := gA) rfl).2)
        have HLd := hide (show w.heap.size ≤ wd.heap.size from HBd.out.size)
        refine tail_call 0 rfl (by kernel_rfl) rfl (fun K hK => ?_)
        go_simp
        skip
        refine hK.out _ _ trivial (fun hS' => ?_)
        clear hK K
        try simp only [Act.put, List.setIfInBounds_toArray, List.set_cons_zero, List.set_cons_succ]
        obtain ⟨base, hbase⟩ : ∃ base, wd.heap.size = base := ⟨_, rfl⟩
        rw [hbase] at HV0 HSa HGd HLd ⊢
        obtain ⟨wa, hwa⟩ : ∃ wa, wd.alloc (.cells #[] 26) = wa := ⟨_, rfl⟩
        rw [hwa] at HV0 HOGa HBa HSa ⊢
        clear hwa hbase HOGd HBd
        refine tail_call 4 rfl (by kernel_rfl) rfl (fun K' hK => ?_)
        refine wp_appPts (base := base) (v := .slice (some ⟨base, 0, none⟩) 0 0) (n := 0) (m := y) (off := 0) (b := gA) (f := ptV (cutY s r j y)) (X := smY s r j) wa (.tmp 88) (.tmp 91) rfl rfl HV0.out (fun i hi => by rw [Nat.zero_add]; exact HOGa.out.at_ (by omega)) (fun i hi => by
          have h := ptV_at (cutY s r j y) i
          have e : cutY s r j y i = smY s r j i := by unfold cutY; rw [if_pos hi]
          rw [e] at h
          rw [Nat.zero_add]; exact h) rfl (by omega) HSa.out ?_
        intro u w9 hu9 hg9
        have HV1 := hide (show OwnPt w9 base u y (ptV (cutY s r j y)) by have h := hu9; rw [Nat.zero_add] at h; exact h)
        have HOGb := hide (HOGa.out.grown hg9 (.inr (by intro e; have := HGd.out; simp only [Value.ownBlock, Option.some.injEq] at e; omega)))
        have HBb := hide (HBa.out.grown hg9 HBa.out.size (fun b hb => by have h := (HV0.out.lt hb).1; exact Nat.le_trans HLd.out h))
        have HSb := hide (Nat.le_trans HSa.out hg9.size)
        clear hu9 hg9 HV0 HOGa HBa HSa
        refine hK.out _ _ trivial (fun hS' => ?_)
        clear hK K'
        try simp only [Act.put, List.setIfInBounds_toArray, List.set_cons_zero, List.set_cons_succ]
        refine tail_call 9 rfl (by kernel_rfl) rfl (fun K' hK => ?_)
        obtain ⟨Au, cu, hue, hcu, hcum⟩ := HV1.out.form0
        subst hue
        refine wp_appPts (base := base) (v := .slice Au y cu) (n := y) (m := j - (y + 1)) (off := 0) (b := gA) (f := ptV (cutY s r j y)) (X := fun i => smY s r j (y + 1 + i)) w9 (.tmp 92) (.tmp 96) rfl rfl HV1.out (fun i hi => by
          exact absurd hi (by have := HJZ.out; omega)) (fun i hi => by
          have h := ptV_at (cutY s r j y) (y + i)
          have e : cutY s r j y (y + i) = smY s r j (y + 1 + i) := by unfold cutY; rw [if_neg (by omega), show y + i + 1 = y + 1 + i by omega]
          rw [e] at h; exact h) (by first | rfl | (go_simp; rfl) | (go_simp)) (by omega) HSb.out ?_
        intro u w10 hu10 hg10
        have HV2 := hide (show OwnPt w10 base u (j - 1) (ptV (cutY s r j y)) by have h := hu10; rw [show y + (j - (y + 1)) = j - 1 by omega] at h; exact h)
        have HBc := hide (HBb.out.grown hg10 HBb.out.size (fun b hb => Nat.le_trans HLd.out (HV1.out.lt hb).1))
        clear hu10 hg10 HV1 HBb HSb HOGb
        refine hK.out _ _ trivial (fun hS' => ?_)
        clear hK K'
        try simp only [Act.put, List.setIfInBounds_toArray, List.set_cons_zero, List.set_cons_succ]
        refine tail_take2 10 rfl (by kernel_rfl) (by kernel_rfl) (by kernel_rfl) (by decide) (fun _ _ _ h => h) (by rfl) (v := ?_) ?_ (by assumption) ?_
        rotate_left 1
        · intro w' hS'; (try dsimp only at hS'); go_simp; (try rw [if_pos hyG]); (try rw [if_pos hyG2]); (try rw [if_pos hyb]); try with_reducible rfl
        try simp only [Act.put, List.setIfInBounds_toArray, List.set_cons_zero, List.set_cons_succ]
        refine tail_end (by kernel_rfl) ?_
        clear hS'
        obtain ⟨Av, cv, hve, hcv, hcvm⟩ := HV2.out.form0
        subst hve
        by_cases hj1 : j = 1
        · have hl : (((j - 1 : Nat) : Int) == 0) = true := by rw [beq_iff_eq]; omega
          go_wp2_with fail
          go_ret
          exact ⟨rfl, HBc.out⟩
        · have hl : (((j - 1 : Nat) : Int) == 0) = false := by rw [beq_eq_false_iff_ne]; omega
          obtain ⟨hp0, hmp, hjc, hjt⟩ := cut_all (s := s) (r := r) (n := j) (q := y) (by omega) hm8 (by omega) hyj
          have hXc : ∀ i, i < j - 1 → (cutY s r j y i).t.size ≤ 1099511627776 ∧ (-9223372036854775808 ≤ (cutY s r j y i).c ∧ (cutY s r j y i).c ≤ 9223372036854775807) := fun i hi => ⟨by have := xpT_le s r (if i < y then i else i + 1); show (xpT s r (if i < y then i else i + 1)).size ≤ _; omega, by show (-9223372036854775808 : Int) ≤ (j : Int) ∧ (j : Int) ≤ 9223372036854775807; omega⟩
          have HMI := hide (implMi Av (j - 1) cv w10.heap.size (cutY s r j y) w10 HV2.out.pts (Nat.le_refl _) (by omega) hXc)
          rw [hmp, hp0] at HMI
          have HJC := hide (fun w (hP : Pts w w.heap.size Av (j - 1) (cutY s r j y)) => implJp Av (j - 1) cv w.heap.size (cutY s r j y) w hP (Nat.le_refl _) (by omega) hXc)
          rw [hjc, hjt] at HJC
          clear hp0 hmp hjc hjt hXc
          go_wp2_with fail
          refine HMI.out.mono ?_
          rintro e w11 ⟨Am, cm, rfl, hcm1, hom, hb11⟩
          have HV3 := hide (HV2.out.next hb11)
          have HBd := hide (HBc.out.trans (hb11.mono HBc.out.size))
          have HOM := hide hom
          clear hb11 hom HMI HV2 HBc
          go_wp2_with fail
          refine (HJC.out _ HV3.out.pts).mono ?_
          rintro e w12 ⟨rfl, hb12⟩
          have HBe := hide (HBd.out.trans (hb12.mono HBd.out.size))
          have HOM2 := hide (HOM.out.below hb12 (Nat.le_refl _))
          clear hb12 HOM HV3 HBd HJC
          go_wp2_with fail
          have HOL := hide (show Own (w12.alloc (.cells #[.int .i64 (y : Int)] 2)) w12.heap.size 2 .i64 (.slice (some ⟨w12.heap.size, 0, none⟩) 1 1) [(y : Int)] from Own.intro (World.ownsRow_lit w12 #[.int .i64 (y : Int)] 1 (Nat.le_refl _) (by decide) rfl) rfl rfl)
          have HOM3 := hide (HOM2.out.alloc (.cells #[.int .i64 (y : Int)] 2))
          have HBf := hide (HBe.out.alloc HBe.out.size (.cells #[.int .i64 (y : Int)] 2))
          refine (likeSame Am 1 cm _ _ 1 1 _ [(y : Int)] _ HOM3.out.ints HOL.out.ints (by simp)).mono ?_
          rintro e w13 ⟨rfl, hb13⟩
          have HBg := hide (HBf.out.trans (hb13.mono HBf.out.size))
          clear hb13 HOL HOM3 HBf HBe HOM2
          go_wp2_with fail
          go_ret
          exact ⟨rfl, HBg.out⟩
      · have hyc2 : y + 1 < cG := by omega
        refine tail_begin (fun _ => True) 11 (by kernel_rfl) trivial (fun hS' => ?_)
        have HOGd := hide (show OwnPt w8.drew w2.heap.size (.slice (some ⟨gA, 0, none⟩) j cG) j (ptV (smY s r j)) from HOG8.out)
        have HBd := hide HB8.out.drew
        obtain ⟨wd, hwd⟩ : ∃ wd, w8.drew = wd := ⟨_, rfl⟩
        rw [hwd] at HOGd HBd ⊢
        clear hwd HOG8 HB8
        refine tail_take2 1 rfl (by kernel_rfl) (by kernel_rfl) (by kernel_rfl) (by decide) (fun _ _ _ h => h) (by rfl) (v := ?_) ?_ (by assumption) ?_
        rotate_left 1
        · intro w' hS'; (try dsimp only at hS'); go_simp; (try rw [if_pos hyG]); (try rw [if_pos hyG2]); (try rw [if_pos hyb]); try with_reducible rfl
        try simp only [Act.put, List.setIfInBounds_toArray, List.set_cons_zero, List.set_cons_succ]
        refine tail_take2 2 rfl (by kernel_rfl) (by kernel_rfl) (by kernel_rfl) (by decide) (fun _ _ _ h => h) (by rfl) (v := ?_) ?_ (by assumption) ?_
        rotate_left 1
        · intro w' hS'; (try dsimp only at hS'); go_simp; (try rw [if_pos hyG]); (try rw [if_pos hyG2]); (try rw [if_pos hyb]); try with_reducible rfl
        try simp only [Act.put, List.setIfInBounds_toArray, List.set_cons_zero, List.set_cons_succ]
        refine tail_take2 3 rfl (by kernel_rfl) (by kernel_rfl) (by kernel_rfl) (by decide) (fun _ _ _ h => h) (by rfl) (v := ?_) ?_ (by assumption) ?_
        rotate_left 1
        · intro w' hS'; (try dsimp only at hS'); go_simp; (try rw [if_pos hyG]); (try rw [if_pos hyG2]); (try rw [if_pos hyb]); try with_reducible rfl
        try simp only [Act.put, List.setIfInBounds_toArray, List.set_cons_zero, List.set_cons_succ]
        refine tail_take2 5 rfl (by kernel_rfl) (by kernel_rfl) (by kernel_rfl) (by decide) (fun _ _ _ h => h) (by rfl) (v := ?_) ?_ (by assumption) ?_
        rotate_left 1
        · intro w' hS'; (try dsimp only at hS'); go_simp; (try rw [if_pos hyG]); (try rw [if_pos hyG2]); (try rw [if_pos hyb]); try with_reducible rfl
        try simp only [Act.put, List.setIfInBounds_toArray, List.set_cons_zero, List.set_cons_succ]
        refine tail_take2 6 rfl (by kernel_rfl) (by kernel_rfl) (by kernel_rfl) (by decide) (fun _ _ _ h => h) (by rfl) (v := ?_) ?_ (by assumption) ?_
        rotate_left 1
        · intro w' hS'; (try dsimp only at hS'); go_simp; (try rw [if_pos hyG]); (try rw [if_pos hyG2]); (try rw [if_pos hyb]); try with_reducible rfl
        try simp only [Act.put, List.setIfInBounds_toArray, List.set_cons_zero, List.set_cons_succ]
        refine tail_take2 7 rfl (by kernel_rfl) (by kernel_rfl) (by kernel_rfl) (by decide) (fun _ _ _ h => h) (by rfl) (v := ?_) ?_ (by assumption) ?_
        rotate_left 1
        · intro w' hS'; (try dsimp only at hS'); go_simp; (try rw [if_pos hyG]); (try rw [if_pos hyG2]); (try rw [if_pos hyb]); try with_reducible rfl
        try simp only [Act.put, List.setIfInBounds_toArray, List.set_cons_zero, List.set_cons_succ]
        refine tail_take2 8 rfl (by kernel_rfl) (by kernel_rfl) (by kernel_rfl) (by decide) (fun _ _ _ h => h) (by rfl) (v := ?_) ?_ (by assumption) ?_
        rotate_left 1
        · intro w' hS'; (try dsimp only at hS'); go_simp; (try rw [if_pos hyG]); (try rw [if_pos hyG2]); (try rw [if_pos hyb]); try with_reducible rfl
        try simp only [Act.put, List.setIfInBounds_toArray, List.set_cons_zero, List.set_cons_succ]
        have HV0 := hide (OwnPt.lit0 wd (ptV (cutY s r j y)))
        have HOGa := hide (HOGd.out.next ((Below.refl _ _).alloc (Nat.le_refl _) (.cells #[] 26)))
        have HBa := hide (HBd.out.alloc HBd.out.size (.cells #[] 26))
        have HSa := hide (show wd.heap.size ≤ (wd.alloc (.cells #[] 26)).heap.size by rw [alloc_size]; omega)
        have HGd := hide (show gA < wd.heap.size from (HOGd.out.lt (g := gA) rfl).2)
        have HLd := hide (show w.heap.size ≤ wd.heap.size from HBd.out.size)
        refine tail_call 0 rfl (by kernel_rfl) rfl (fun K hK => ?_)
        go_simp
        skip
        refine hK.out _ _ trivial (fun hS' => ?_)
        clear hK K
        try simp only [Act.put, List.setIfInBounds_toArray, List.set_cons_zero, List.set_cons_succ]
        obtain ⟨base, hbase⟩ : ∃ base, wd.heap.size = base := ⟨_, rfl⟩
        rw [hbase] at HV0 HSa HGd HLd ⊢
        obtain ⟨wa, hwa⟩ : ∃ wa, wd.alloc (.cells #[] 26) = wa := ⟨_, rfl⟩
        rw [hwa] at HV0 HOGa HBa HSa ⊢
        clear hwa hbase HOGd HBd
        refine tail_call 4 rfl (by kernel_rfl) rfl (fun K' hK => ?_)
        refine wp_appPts (base := base) (v := .slice (some ⟨base, 0, none⟩) 0 0) (n := 0) (m := y) (off := 0) (b := gA) (f := ptV (cutY s r j y)) (X := smY s r j) wa (.tmp 88) (.tmp 91) rfl rfl HV0.out (fun i hi => by rw [Nat.zero_add]; exact HOGa.out.at_ (by omega)) (fun i hi => by
          have h := ptV_at (cutY s r j y) i
          have e : cutY s r j y i = smY s r j i := by unfold cutY; rw [if_pos hi]
          rw [e] at h
          rw [Nat.zero_add]; exact h) rfl (by omega) HSa.out ?_
        intro u w9 hu9 hg9
        have HV1 := hide (show OwnPt w9 base u y (ptV (cutY s r j y)) by have h := hu9; rw [Nat.zero_add] at h; exact h)
        have HOGb := hide (HOGa.out.grown hg9 (.inr (by intro e; have := HGd.out; simp only [Value.ownBlock, Option.some.injEq] at e; omega)))
        have HBb := hide (HBa.out.grown hg9 HBa.out.size (fun b hb => by have h := (HV0.out.lt hb).1; exact Nat.le_trans HLd.out h))
        have HSb := hide (Nat.le_trans HSa.out hg9.size)
        clear hu9 hg9 HV0 HOGa HBa HSa
        refine hK.out _ _ trivial (fun hS' => ?_)
        clear hK K'
        try simp only [Act.put, List.setIfInBounds_toArray, List.set_cons_zero, List.set_cons_succ]
        refine tail_call 9 rfl (by kernel_rfl) rfl (fun K' hK => ?_)
        obtain ⟨Au, cu, hue, hcu, hcum⟩ := HV1.out.form0
        subst hue
        refine wp_appPts (base := base) (v := .slice Au y cu) (n := y) (m := j - (y + 1)) (off := (y + 1) * 4) (b := gA) (f := ptV (cutY s r j y)) (X := fun i => smY s r j (y + 1 + i)) w9 (.tmp 92) (.tmp 96) rfl rfl HV1.out (fun i hi => by
          have h := HOGb.out.at_ (j := y + 1 + i) (by omega); rw [show (y + 1) * 4 + i * 4 = (y + 1 + i) * 4 by omega]; exact h) (fun i hi => by
          have h := ptV_at (cutY s r j y) (y + i)
          have e : cutY s r j y (y + i) = smY s r j (y + 1 + i) := by unfold cutY; rw [if_neg (by omega), show y + i + 1 = y + 1 + i by omega]
          rw [e] at h; exact h) (by first | rfl | (go_simp; rfl) | (go_simp)) (by omega) HSb.out ?_
        intro u w10 hu10 hg10
        have HV2 := hide (show OwnPt w10 base u (j - 1) (ptV (cutY s r j y)) by have h := hu10; rw [show y + (j - (y + 1)) = j - 1 by omega] at h; exact h)
        have HBc := hide (HBb.out.grown hg10 HBb.out.size (fun b hb => Nat.le_trans HLd.out (HV1.out.lt hb).1))
        clear hu10 hg10 HV1 HBb HSb HOGb
        refine hK.out _ _ trivial (fun hS' => ?_)
        clear hK K'
        try simp only [Act.put, List.setIfInBounds_toArray, List.set_cons_zero, List.set_cons_succ]
        refine tail_take2 10 rfl (by kernel_rfl) (by kernel_rfl) (by kernel_rfl) (by decide) (fun _ _ _ h => h) (by rfl) (v := ?_) ?_ (by assumption) ?_
        rotate_left 1
        · intro w' hS'; (try dsimp only at hS'); go_simp; (try rw [if_pos hyG]); (try rw [if_pos hyG2]); (try rw [if_pos hyb]); try with_reducible rfl
        try simp only [Act.put, List.setIfInBounds_toArray, List.set_cons_zero, List.set_cons_succ]
        refine tail_end (by kernel_rfl) ?_
        clear hS'
        obtain ⟨Av, cv, hve, hcv, hcvm⟩ := HV2.out.form0
        subst hve
        by_cases hj1 : j = 1
        · have hl : (((j - 1 : Nat) : Int) == 0) = true := by rw [beq_iff_eq]; omega
          go_wp2_with fail
          go_ret
          exact ⟨rfl, HBc.out⟩
        · have hl : (((j - 1 : Nat) : Int) == 0) = false := by rw [beq_eq_false_iff_ne]; omega
          obtain ⟨hp0, hmp, hjc, hjt⟩ := cut_all (s := s) (r := r) (n := j) (q := y) (by omega) hm8 (by omega) hyj
          have hXc : ∀ i, i < j - 1 → (cutY s r j y i).t.size ≤ 1099511627776 ∧ (-9223372036854775808 ≤ (cutY s r j y i).c ∧ (cutY s r j y i).c ≤ 9223372036854775807) := fun i hi => ⟨by have := xpT_le s r (if i < y then i else i + 1); show (xpT s r (if i < y then i else i + 1)).size ≤ _; omega, by show (-9223372036854775808 : Int) ≤ (j : Int) ∧ (j : Int) ≤ 9223372036854775807; omega⟩
          have HMI := hide (implMi Av (j - 1) cv w10.heap.size (cutY s r j y) w10 HV2.out.pts (Nat.le_refl _) (by omega) hXc)
          rw [hmp, hp0] at HMI
          have HJC := hide (fun w (hP : Pts w w.heap.size Av (j - 1) (cutY s r j y)) => implJp Av (j - 1) cv w.heap.size (cutY s r j y) w hP (Nat.le_refl _) (by omega) hXc)
          rw [hjc, hjt] at HJC
          clear hp0 hmp hjc hjt hXc
          go_wp2_with fail
          refine HMI.out.mono ?_
          rintro e w11 ⟨Am, cm, rfl, hcm1, hom, hb11⟩
          have HV3 := hide (HV2.out.next hb11)
          have HBd := hide (HBc.out.trans (hb11.mono HBc.out.size))
          have HOM := hide hom
          clear hb11 hom HMI HV2 HBc
          go_wp2_with fail
          refine (HJC.out _ HV3.out.pts).mono ?_
          rintro e w12 ⟨rfl, hb12⟩
          have HBe := hide (HBd.out.trans (hb12.mono HBd.out.size))
          have HOM2 := hide (HOM.out.below hb12 (Nat.le_refl _))
          clear hb12 HOM HV3 HBd HJC
          go_wp2_with fail
          have HOL := hide (show Own (w12.alloc (.cells #[.int .i64 (y : Int)] 2)) w12.heap.size 2 .i64 (.slice (some ⟨w12.heap.size, 0, none⟩) 1 1) [(y : Int)] from Own.intro (World.ownsRow_lit w12 #[.int .i64 (y : Int)] 1 (Nat.le_refl _) (by decide) rfl) rfl rfl)
          have HOM3 := hide (HOM2.out.alloc (.cells #[.int .i64 (y : Int)] 2))
          have HBf := hide (HBe.out.alloc HBe.out.size (.cells #[.int .i64 (y : Int)] 2))
          refine (likeSame Am 1 cm _ _ 1 1 _ [(y : Int)] _ HOM3.out.ints HOL.out.ints (by simp)).mono ?_
          rintro e w13 ⟨rfl, hb13⟩
          have HBg := hide (HBf.out.trans (hb13.mono HBf.out.size))
          clear hb13 HOL HOM3 HBf HBe HOM2
          go_wp2_with fail
          go_ret
          exact ⟨rfl, HBg.out⟩
end Go.Proofs.Ythbmfaogjaahoaa
