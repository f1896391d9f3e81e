/-
  The walk of the law FnFormatWords: it returns true, and nothing that was there before is changed.
  Condition: none.
-/
import Derived.Test.YtkaconpbmppekaaWdKey
import Derived.Test.YtkaconpbmppekaaWdDraw2
import Derived.Test.YtkaconpbmppekaaDice
import Derived.Test.YtkaconpbmppekaaLike
import Derived.Test.YtkaconpbmppekaaLawKit
import Derived.Test.YtkaconpbmppekaaShell
namespace Go.Proofs.Ytkaconpbmppekaa
open Go.RowKit
set_option linter.unusedVariables false
set_option linter.unusedSimpArgs false

theorem wbd_u8 {n : Int} (h : (Lit.int .u8 n).wf = true) : 0 ≤ n ∧ n ≤ 255 := by
  simp [Lit.wf, IntKind.min, IntKind.max, IntKind.signed, IntKind.bits] at h
  omega

theorem two_pow_wrap {D : Nat} (h : D ≤ 8) : ∃ N : Nat, N = 2 ^ D ∧ 1 ≤ N ∧ N ≤ 256 ∧ wrap64 (2 ^ D) = (N : Int) ∧ IntKind.u64.wrap (D : Int) = (D : Int) ∧ IntKind.i64.wrap (2 ^ D) = (N : Int) := by
  obtain ⟨pw, hpw, he, hp1, hp2⟩ := pow_fits D (by omega)
  have h256 : 2 ^ D ≤ 256 := (Nat.pow_le_pow_right (n := 2) (by decide) h : 2 ^ D ≤ 2 ^ 8)
  have hc : (2 : Int) ^ D = ((2 ^ D : Nat) : Int) := by push_cast; rfl
  refine ⟨2 ^ D, rfl, Nat.two_pow_pos D, h256, by rw [hpw, he, hc], by rw [IntKind.wrap_u64]; omega, ?_⟩
  rw [hc]
  generalize 2 ^ D = N at h256
  exact IntWalk.i64_in _ ⟨by omega, by omega⟩
theorem wints_kept {w w' : World} {B n : Nat} {row : Option Nat} {A : Option Addr} {zs : List Int} (h : Ints .i64 w B A n zs) (hg : w.grownBy w' row) (hr : ∀ b, row = some b → B ≤ b) (hs : B ≤ w.heap.size) : Ints .i64 w' B A n zs :=
  h.keep fun b o hb => World.cell?_of_block (hg.block b (by omega) (fun e => by have := hr b e.symm; omega))

set_option maxRecDepth 100000 in
set_option maxHeartbeats 16000000 in
theorem fnFormatWordsWalk (a0 : Option Addr) (n0 c0 : Nat) (z0 : List Int) (w : World) (h0 : Came .u8 w a0 n0 c0 z0) :
    Calls Try.prog 3 #[.slice a0 n0 c0] w fun e w' => e = .returned (.bool true) ∧ Below w.heap.size w w' := by
  obtain ⟨hI, hnc, hcm, hwf⟩ := h0
  have HI := hide hI
  have HBY := hide (show ∀ b ∈ z0, 0 ≤ b ∧ b ≤ 255 from fun b hb => wbd_u8 (hwf b hb))
  clear hI hwf
  unfold maxLen at hcm
  by_cases hbig : 4096 < n0
  · go_enter Try.func3, Try.ntmps3
    go_wp2_with fail
    refine (big_yes a0 n0 c0 w hbig (by omega)).mono ?_
    rintro e w ⟨rfl, rfl⟩
    go_wp2_with fail
    go_ret
    exact ⟨rfl, Below.refl _ _⟩
  have hn0 : n0 ≤ 4096 := by omega
  go_enter Try.func3, Try.ntmps3
  go_wp2_with fail
  refine (big_no a0 n0 c0 w hn0).mono ?_
  rintro e w ⟨rfl, rfl⟩
  go_wp2_with fail
  refine (drawFormatWord a0 n0 c0 z0 w HI hn0 HBY).mono ?_
  rintro e w1 ⟨d, l, p, v, rfl, hd, hl, hp, hv, hb⟩
  have HB1 := hide hb
  have HX1 := hide (Box.start w1 25 d l p)
  clear hb
  obtain ⟨b0, b1, b2⟩ := HX1.out.cells
  obtain ⟨r, k, hr, hS, hM, hC⟩ := fw_key d l p v (by omega)
  obtain ⟨s, hTS, hTI⟩ := ft_key d l p v r k hr hS hM
  obtain ⟨bl, hLS, hLI⟩ := isFc_both d l p (by omega)
  have HS := hide hS
  have HM := hide hM
  have HC := hide hC
  have HLS := hide hLS
  have HLI := hide hLI
  have HTS := hide hTS
  have HTI := hide hTI
  clear hS hM hC hLS hLI hTS hTI
  have hcc : (k != k) = false := by simp
  have hbb : (bl != bl) = false := by simp
  go_wp2_with fail
  refine (HM.out _).mono ?_
  rintro e w2 ⟨Ag, cg, rfl, hcg, hog, hb⟩
  have HX2 := hide (HX1.out.next hb)
  have Ig_2 := hide (hog.ints)
  clear hog hb b0 b1 b2
  obtain ⟨b0, b1, b2⟩ := HX2.out.cells
  go_wp2_with fail
  refine (HS.out _).mono ?_
  rintro e w3 ⟨Av, cv, rfl, hcv, hov, hb⟩
  have HX3 := hide (HX2.out.next hb)
  have Ig_3 := hide ((Ig_2.out.below hb).more hb.size)
  have Iv_3 := hide (hov.ints)
  clear Ig_2 hov hb hcv b0 b1 b2
  obtain ⟨b0, b1, b2⟩ := HX3.out.cells
  go_wp2_with fail
  go_region_held3 (fun w' => (w'.cell? ⟨w1.heap.size, 0, none⟩ = some (.int .i64 d) ∧ w'.cell? ⟨w1.heap.size, 1, none⟩ = some (.int .i64 l) ∧ w'.cell? ⟨w1.heap.size, 2, none⟩ = some (.int .i64 p)))
    (first
      | exact HX3.out.drew.cells
      | exact HX4.out.cells
      | exact HX5.out.cells
      | exact HX6.out.cells
      | exact HX7.out.cells
      | exact HX8.out.cells)
    (first
      | (go_at_call 20; have hm7 := HMK7; refine (HLS.out _).mono ?_; rintro e w8 ⟨rfl, hb⟩; have HX8 := hide (HX7.out.next hb); have Ig_8 := hide ((Ig_7.out.below hb).more hb.size); have HMK8 : True := trivial; clear hb)
      | (go_at_call 19; have hm6 := HMK6; refine (HLI.out _).mono ?_; rintro e w7 ⟨rfl, hb⟩; have HX7 := hide (HX6.out.next hb); have Ig_7 := hide ((Ig_6.out.below hb).more hb.size); have HMK7 : True := trivial; clear hb)
      | (go_at_call 18; have hm5 := HMK5; refine (HTS.out _).mono ?_; rintro e w6 ⟨rfl, hb⟩; have HX6 := hide (HX5.out.next hb); have Ig_6 := hide ((Ig_5.out.below hb).more hb.size); have HMK6 : True := trivial; clear hb)
      | (go_at_call 17; have hm4 := HMK4; refine (HTI.out _).mono ?_; rintro e w5 ⟨rfl, hb⟩; have HX5 := hide (HX4.out.next hb); have Ig_5 := hide ((Ig_4.out.below hb).more hb.size); have HMK5 : True := trivial; clear hb)
      | (go_at_call 16; refine (likeSame Ag _ cg _ Av _ cv _ r _ Ig_3.out.drew Iv_3.out.drew (by omega)).mono ?_; rintro e w4 ⟨rfl, hb⟩; have HX4 := hide (HX3.out.drew.next hb); have Ig_4 := hide ((Ig_3.out.drew.below hb).more hb.size); have HMK4 : True := trivial; clear hb))
  clear b0 b1 b2
  obtain ⟨b0, b1, b2⟩ := HX8.out.cells
  rcases HC.out with hcd | ⟨hcd, D, L, P, K, V, rfl, rfl, rfl, rfl, hf, hV, hre⟩
  · have e1 : (k != 0) = true := by simpa using hcd
    clear hcd
    go_wp2_with fail
    go_ret
    exact ⟨rfl, HB1.out.trans (HX8.out.2.mono HB1.out.size)⟩
  · subst hcd hre
    have hwl := wdL_len D L P K V
    rw [hwl] at Ig_8 hcg ⊢
    have hL := hf.l24
    have hD8 := hf.d8
    obtain ⟨N, hN, h1, h2, h3, h4, h5⟩ := two_pow_wrap hD8
    have H1 := hide h3
    have H2 := hide h1
    have H3 := hide h2
    have H4 := hide h4
    have H5 := hide h5
    clear h1 h2 h3 h4 h5
    have HF := hide hf
    have HV := hide hV
    have HN := hide hN
    have HB8 := hide (HB1.out.trans (HX8.out.2.mono HB1.out.size))
    have hw18 : w1.heap.size < w8.heap.size := HX8.out.lt
    clear hcc hbb HS HM HC HLS HLI HTS HTI hwl hr hf hV hN HX1 HX2 HX3 HX4 HX5 HX6 HX7 Ig_3 Iv_3 Ig_4 Ig_5 Ig_6 Ig_7
    clear hd hl hp hv
    go_wp2_with fail
    refine tail_begin (fun w' => w'.cell? ⟨w1.heap.size, 0, none⟩ = some (.int .i64 D) ∧ w'.cell? ⟨w1.heap.size, 1, none⟩ = some (.int .i64 L) ∧ w'.cell? ⟨w1.heap.size, 2, none⟩ = some (.int .i64 P)) 8 (by kernel_rfl) HX8.out.drew.cells (fun hS' => ?_)
    clear b0 b1 b2
    have hpw := H1.out
    have hp1 := H2.out
    have hp2 := H3.out
    have hcv := H4.out
    refine tail_take2 0 rfl (by kernel_rfl) (by kernel_rfl) (by kernel_rfl) (by decide) (fun _ _ _ h => h) (by rfl) (v := ?_) ?_ (by assumption) ?_
    rotate_left 1
    · intro w' hS'; obtain ⟨b0, b1, b2⟩ := hS'; go_simp; try with_reducible rfl
    try simp only [Act.put, List.setIfInBounds_toArray, List.set_cons_zero, List.set_cons_succ]
    refine tail_take2 2 rfl (by kernel_rfl) (by kernel_rfl) (by kernel_rfl) (by decide) (fun _ _ _ h => h) (by rfl) (v := ?_) ?_ (by assumption) ?_
    rotate_left 1
    · intro w' hS'; obtain ⟨b0, b1, b2⟩ := hS'; go_simp; try with_reducible rfl
    try simp only [Act.put, List.setIfInBounds_toArray, List.set_cons_zero, List.set_cons_succ]
    refine tail_take2 3 rfl (by kernel_rfl) (by kernel_rfl) (by kernel_rfl) (by decide) (fun _ _ _ h => h) (by rfl) (v := ?_) ?_ (by assumption) ?_
    rotate_left 1
    · intro w' hS'; obtain ⟨b0, b1, b2⟩ := hS'; go_simp; try with_reducible rfl
    try simp only [Act.put, List.setIfInBounds_toArray, List.set_cons_zero, List.set_cons_succ]
    refine tail_take2 4 rfl (by kernel_rfl) (by kernel_rfl) (by kernel_rfl) (by decide) (fun _ _ _ h => h) (by rfl) (v := ?_) ?_ (by assumption) ?_
    rotate_left 1
    · intro w' hS'; obtain ⟨b0, b1, b2⟩ := hS'; go_simp; try with_reducible rfl
    try simp only [Act.put, List.setIfInBounds_toArray, List.set_cons_zero, List.set_cons_succ]
    refine tail_take2 5 rfl (by kernel_rfl) (by kernel_rfl) (by kernel_rfl) (by decide) (fun _ _ _ h => h) (by rfl) (v := ?_) ?_ (by assumption) ?_
    rotate_left 1
    · intro w' hS'; obtain ⟨b0, b1, b2⟩ := hS'; go_simp; try with_reducible rfl
    try simp only [Act.put, List.setIfInBounds_toArray, List.set_cons_zero, List.set_cons_succ]
    refine tail_call 1 rfl (by kernel_rfl) rfl (fun K' hK => ?_)
    go_simp
    go_at_call 21; refine (roll_any a0 n0 c0 z0 801 _ ((HI.out.below HB8.out.drew).more HB8.out.drew.size) hn0 HBY.out).mono ?_; rintro e w9 ⟨rfl, hs, hb⟩; have HX9 := hide (HX8.out.drew.next hb); have Ig_9 := hide (Ig_8.out.drew.below hb); have HB9 := hide (HB8.out.drew.trans (hb.mono HB8.out.drew.size)); have hb9 : w8.heap.size ≤ w9.heap.size := hb.size; have HD9 := hide hs; clear hs hb
    refine hK.out _ _ (by (try dsimp only); exact HX9.out.cells) (fun hS' => ?_)
    clear hK K'
    try simp only [Act.put, List.setIfInBounds_toArray, List.set_cons_zero, List.set_cons_succ]
    refine tail_call 6 rfl (by kernel_rfl) rfl (fun K' hK => ?_)
    go_simp
    go_at_call 22; refine (below_any _ _ a0 n0 c0 z0 (IntKind.i64.wrap (2 ^ D)) _ HD9.out (by rw [H5.out]; have := H2.out; omega) (by rw [H5.out]; have := H3.out; omega)).mono ?_; rintro e wA ⟨y, rfl, hy, hs, hg⟩; rw [H5.out] at hy; have hAs : w9.heap.size ≤ wA.heap.size := hg.size; have HXA := hide (HX9.out.grow' hg (fun b e => by cases e; exact hw18)); have Ig_A := hide (wints_kept Ig_9.out hg (fun b e => by cases e; exact Nat.le_refl _) hb9); have HBA := hide (HB9.out.grown hg HB9.out.size (fun b e => by cases e; exact HB8.out.size)); clear hs hg
    refine hK.out _ _ (by (try dsimp only); exact HXA.out.cells) (fun hS' => ?_)
    clear hK K'
    try simp only [Act.put, List.setIfInBounds_toArray, List.set_cons_zero, List.set_cons_succ]
    refine tail_take2 7 rfl (by kernel_rfl) (by kernel_rfl) (by kernel_rfl) (by decide) (fun _ _ _ h => h) (by rfl) (v := ?_) ?_ (by assumption) ?_
    rotate_left 1
    · intro w' hS'; obtain ⟨b0, b1, b2⟩ := hS'; go_simp; try with_reducible rfl
    try simp only [Act.put, List.setIfInBounds_toArray, List.set_cons_zero, List.set_cons_succ]
    refine tail_end (by kernel_rfl) ?_
    obtain ⟨b0, b1, b2⟩ := HXA.out.cells
    have hwA : w8.heap.size ≤ wA.heap.size := Nat.le_trans hb9 hAs
    clear H1 H2 H3 H4 H5 hpw hcv HX8 HX9 Ig_8 Ig_9 HB8 HB9 HD9 hS'
    have hyN : y < N := by omega
    have hy2 : y < 2 ^ D := by rw [← HN.out]; exact hyN
    have hN256 : N ≤ 256 := hp2
    have hV256 : V < 256 := by have := HV.out; rw [← HN.out] at this; omega
    obtain ⟨z, hz⟩ : ∃ z, V ^^^ y = z := ⟨_, rfl⟩
    have hz2 : z < 2 ^ D := by rw [← hz]; exact Nat.xor_lt_two_pow HV.out hy2
    have hxz : bits .xor .i64 (V : Int) (y : Int) = (z : Int) := by rw [i64xor V y (by omega) (by omega), hz]
    have HWy := hide (show ∀ w', Calls Try.prog 14 #[.agg #[.int .i64 D, .int .i64 L, .int .i64 P], .int .i64 (y : Nat)] w' (NewInts2 2 .i64 (wdL D L P K y) 0 w') from fun w' => implFw_ok HF.out y hy2 w')
    have HWz := hide (show ∀ w', Calls Try.prog 14 #[.agg #[.int .i64 D, .int .i64 L, .int .i64 P], .int .i64 (z : Nat)] w' (NewInts2 2 .i64 (wdL D L P K z) 0 w') from fun w' => implFw_ok HF.out z hz2 w')
    obtain ⟨hp1, hp2, hp3, hp4⟩ := wd_pair HF.out HV.out hy2
    obtain ⟨q, hq⟩ : ∃ q, popN L (wordF D K P V ^^^ wordF D K P y) = q := ⟨_, rfl⟩
    obtain ⟨mn, hmn⟩ : ∃ mn, minD D L P K = mn := ⟨_, rfl⟩
    rw [hz] at hp2
    rw [hq] at hp3 hp4
    rw [hmn] at hp4
    have HXO := hide (show ∀ (Ab : Option Addr) (cb : Nat) (w' : World), Ints .i64 w' w'.heap.size Ag L (wdL D L P K V) → Ints .i64 w' w'.heap.size Ab L (wdL D L P K y) → Calls Try.prog 23 #[.slice Ag L cg, .slice Ab L cb] w' (NewInts2 2 .i64 (wdL D L P K z) 0 w') from fun Ab cb w' h1 h2 => by
      have := implXor Ag L cg _ _ Ab L cb _ _ w' h1 h2 (Nat.le_refl _) (Nat.le_refl _) (by omega) (by omega)
      rw [hp1, hp2] at this
      exact this)
    have HDI := hide (show ∀ (Ab : Option Addr) (cb : Nat) (w' : World), Ints .i64 w' w'.heap.size Ag L (wdL D L P K V) → Ints .i64 w' w'.heap.size Ab L (wdL D L P K y) → Calls Try.prog 24 #[.slice Ag L cg, .slice Ab L cb] w' (Gives2 (q : Nat) 0 w') from fun Ab cb w' h1 h2 => by
      have := implDist Ag L cg _ _ Ab L cb _ _ w' h1 h2 (by omega) (by omega)
      rw [hp1, hp3] at this
      exact this)
    have HFD := hide (show ∀ w', Calls Try.prog 25 #[.agg #[.int .i64 D, .int .i64 L, .int .i64 P]] w' (GivesII (mn : Nat) 0 w') from fun w' => by have := implFd_ok HF.out w'; rw [hmn] at this; exact this)
    have HP4 := hide hp4
    have hly := wdL_len D L P K y
    have hlz := wdL_len D L P K z
    clear hz hz2 hy2 hq hmn hp1 hp2 hp3 hp4 hy
    go_wp2_with fail
    refine (HWy.out _).mono ?_
    rintro e wB ⟨Ab, cb, rfl, hcb, hob, hb⟩
    have HXB := hide (HXA.out.next hb)
    have Ig_B := hide (((Ig_A.out.more hwA).below hb).more hb.size)
    have Ib_B := hide (hob.ints)
    rw [hly] at Ib_B hcb ⊢
    have HBB := hide (HBA.out.trans (hb.mono HBA.out.size))
    clear hob hb b0 b1 b2
    obtain ⟨b0, b1, b2⟩ := HXB.out.cells
    go_wp2_with fail
    refine (HWz.out _).mono ?_
    rintro e wC ⟨Az, cz, rfl, hcz, hoz, hb⟩
    have HXC := hide (HXB.out.next hb)
    have Ig_C := hide ((Ig_B.out.below hb).more hb.size)
    have Ib_C := hide ((Ib_B.out.below hb).more hb.size)
    have Iz_C := hide (hoz.ints)
    rw [hlz] at Iz_C hcz ⊢
    have HBC := hide (HBB.out.trans (hb.mono HBB.out.size))
    clear hoz hb b0 b1 b2
    go_wp2_with fail
    refine (HXO.out Ab cb _ Ig_C.out Ib_C.out).mono ?_
    rintro e wD ⟨Ax, cx, rfl, hcx, hox, hb⟩
    have HXD := hide (HXC.out.next hb)
    have Ig_D := hide ((Ig_C.out.below hb).more hb.size)
    have Ib_D := hide ((Ib_C.out.below hb).more hb.size)
    have Iz_D := hide ((Iz_C.out.below hb).more hb.size)
    have Ix_D := hide (hox.ints)
    rw [hlz] at Ix_D hcx ⊢
    have HBD := hide (HBC.out.trans (hb.mono HBC.out.size))
    clear hox hb
    go_wp2_with fail
    refine (HDI.out Ab cb _ Ig_D.out Ib_D.out).mono ?_
    rintro e wE ⟨rfl, hb⟩
    have HXE := hide (HXD.out.next hb)
    have Iz_E := hide ((Iz_D.out.below hb).more hb.size)
    have Ix_E := hide ((Ix_D.out.below hb).more hb.size)
    have HBE := hide (HBD.out.trans (hb.mono HBD.out.size))
    clear hb
    obtain ⟨b0, b1, b2⟩ := HXE.out.cells
    go_wp2_with fail
    refine (HFD.out _).mono ?_
    rintro e wF ⟨rfl, hb⟩
    have Iz_F := hide ((Iz_E.out.below hb).more hb.size)
    have Ix_F := hide ((Ix_E.out.below hb).more hb.size)
    have HBF := hide (HBE.out.trans (hb.mono HBE.out.size))
    clear hb b0 b1 b2
    have HLK := hide (likeSame Ax L cx _ Az L cz _ (wdL D L P K z) wF Ix_F.out Iz_F.out (by rw [hlz]; omega))
    by_cases hVy : V = y
    · have e5 : ((V : Int) == (y : Int)) = true := by rw [hVy]; simp
      have e6 : (V == y) = true := by rw [hVy]; simp
      have HVY := hide hVy
      clear hVy hly hlz
      go_wp2_with fail
      refine (HLK.out).mono ?_
      rintro e wG ⟨rfl, hb⟩
      have HBG := hide (HBF.out.trans (hb.mono HBF.out.size))
      clear hb
      go_wp2_with fail
      go_ret
      exact ⟨rfl, HBG⟩
    · have e5 : ((V : Int) == (y : Int)) = false := by simp; omega
      have e6 : (V == y) = false := by simp; omega
      have hge : (mn : Int) ≤ (q : Int) := by have := HP4.out hVy; omega
      clear hVy hly hlz
      go_wp2_with fail
      refine (HLK.out).mono ?_
      rintro e wG ⟨rfl, hb⟩
      have HBG := hide (HBF.out.trans (hb.mono HBF.out.size))
      clear hb
      go_wp2_with fail
      go_ret
      exact ⟨rfl, HBG⟩
end Go.Proofs.Ytkaconpbmppekaa
