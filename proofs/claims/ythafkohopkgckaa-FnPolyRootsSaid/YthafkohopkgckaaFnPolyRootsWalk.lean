/-
  The walk of the law FnPolyRoots: it returns true, and nothing that was there before is changed.
  Condition: none.
-/
import Derived.Test.YthafkohopkgckaaPolyMath3
import Derived.Test.YthafkohopkgckaaLike
import Derived.Test.YthafkohopkgckaaPValR
import Derived.Test.YthafkohopkgckaaPDraw4
namespace Go.Proofs.Ythafkohopkgckaa
open Go.RowKit
set_option linter.unusedVariables false
set_option linter.unusedSimpArgs false

def RlRel {R : Fld} (w1 : World) (p k γ : Int) (A1 Ag : Option Addr) (n m : Nat) (ps L : List (El R)) (i : Value) (wr : World) : Prop :=
  ∃ j : Nat, j ≤ n ∧ i = .int .i64 j ∧ Ints .i64 wr wr.heap.size A1 m (iv ps) ∧ Ints .i64 wr wr.heap.size Ag n (iv L) ∧ Box w1 wr 25 p k γ

set_option maxRecDepth 100000 in
set_option maxHeartbeats 8000000 in
theorem fnPolyRootsWalk (a0 : Option Addr) (n0 c0 : Nat) (z0 : List Int) (w : World) (h0 : Came .u8 w a0 n0 c0 z0) :
    Calls Try.prog 6 #[.slice a0 n0 c0] w fun e w' => e = .returned (.bool true) ∧ Below w.heap.size w w' := by
  obtain ⟨hI, hnc, hcm, hwf⟩ := h0
  have HI := hide hI
  have HBY := hide (show ∀ b ∈ z0, 0 ≤ b ∧ b ≤ 255 from fun b hb => bd_u8 (hwf b hb))
  clear hI hwf
  unfold maxLen at hcm
  by_cases hbig : 4096 < n0
  · go_enter Try.func6, Try.ntmps6
    go_wp2_with fail
    refine (big_yes a0 n0 c0 w hbig (by omega)).mono ?_
    rintro e w ⟨rfl, rfl⟩
    go_wp2_with fail
    go_ret
    exact ⟨rfl, Below.refl _ _⟩
  have hn0 : n0 ≤ 4096 := by omega
  go_enter Try.func6, Try.ntmps6
  go_wp2_with fail
  refine (big_no a0 n0 c0 w hn0).mono ?_
  rintro e w ⟨rfl, rfl⟩
  go_wp2_with fail
  refine (drawRoots a0 n0 c0 z0 w HI hn0 HBY).mono ?_
  rintro e w1 ⟨p, k, γ, z1, A1, c1, rfl, hz1, hI1, hb⟩
  have HB1 := hide hb
  have HX1 := hide (Box.start w1 25 p k γ)
  have I1_1 := hide ((hI1.below HX1.out.2).more HX1.out.2.size)
  clear hI1 hb HI
  obtain ⟨b0, b1, b2⟩ := HX1.out.cells
  obtain ⟨r, cd, hr, hS, hM, hC⟩ := roots_key p k γ z1 hz1
  have HS := hide hS
  have HM := hide hM
  have HC := hide hC
  clear hS hM hC
  have hcc : (cd != cd) = false := by simp
  go_wp2_with fail
  refine (HM.out A1 _ c1 _ _ I1_1.out (Nat.le_refl _)).mono ?_
  rintro e w2 ⟨Ag, cg, rfl, hcg, hog, hb⟩
  have HX2 := hide (HX1.out.next hb)
  have I1_2 := hide ((I1_1.out.below hb).more hb.size)
  clear I1_1
  have Ig_2 := hide (hog.ints)
  clear hog
  clear hb b0 b1 b2
  obtain ⟨b0, b1, b2⟩ := HX2.out.cells
  clear hcg
  go_wp2_with fail
  refine (HS.out A1 _ c1 _ _ I1_2.out (Nat.le_refl _)).mono ?_
  rintro e w3 ⟨Av, cv, rfl, hcv, hov, hb⟩
  have HX3 := hide (HX2.out.next hb)
  have I1_3 := hide ((I1_2.out.below hb).more hb.size)
  have Ig_3 := hide ((Ig_2.out.below hb).more hb.size)
  clear I1_2
  clear Ig_2
  have Iv_3 := hide (hov.ints)
  clear hov
  clear hb b0 b1 b2
  obtain ⟨b0, b1, b2⟩ := HX3.out.cells
  clear hcv
  go_wp2_with fail
  refine (likeSame Ag _ cg _ Av _ cv _ r _ Ig_3.out Iv_3.out (by omega)).mono ?_
  rintro e w4 ⟨rfl, hb⟩
  have HX4 := hide (HX3.out.next hb)
  have I1_4 := hide ((I1_3.out.below hb).more hb.size)
  have Ig_4 := hide ((Ig_3.out.below hb).more hb.size)
  have Iv_4 := hide ((Iv_3.out.below hb).more hb.size)
  clear I1_3
  clear Ig_3
  clear Iv_3
  clear hb b0 b1 b2
  obtain ⟨b0, b1, b2⟩ := HX4.out.cells
  rcases HC.out with hcd | ⟨hcd, hf, R, ps, hR, hz1e, hp, hpl, hre, hpos⟩
  · have e1 : (cd != 0) = true := by simpa using hcd
    clear hcd
    go_wp2_with fail
    go_ret
    exact ⟨rfl, HB1.out.trans (HX4.out.2.mono HB1.out.size)⟩
  · subst hcd hz1e hre
    obtain ⟨L, hL⟩ : ∃ L, L = rootsE ps R.q := ⟨_, rfl⟩
    obtain ⟨hrl, hrn, hrm⟩ := roots_facts ps R.q
    rw [← hL] at hrl hrn hrm
    rw [← hL] at Ig_4 ⊢
    have hfew : L.length < ps.length := roots_few hp hpos hrn (fun x hx => (hrm x hx).1)
    have HRM := hide (show ∀ x ∈ L, ev x ps = 0 from fun x hx => (hrm x hx).1)
    obtain ⟨n, hn⟩ : ∃ n, (iv L).length = n := ⟨_, rfl⟩
    obtain ⟨m, hm⟩ : ∃ m, (iv ps).length = m := ⟨_, rfl⟩
    rw [hn] at Ig_4 ⊢
    rw [hm] at I1_4 ⊢
    have hnm : n < m := by rw [← hn, ← hm, iv_len, iv_len]; exact hfew
    have hmb : m ≤ 512 := by rw [← hm, iv_len]; exact hpl
    have HN := hide (show L.length = n by rw [← hn, iv_len])
    have HEV := hide (fun X : El R => eval_val hR ps (iv_small (by omega)) hp hpl (pErr_ok1 hf hR hp hpl) X)
    clear hcc HS HM HC hL hrl hrn hrm hfew hn hm
    go_wp2_with fail
    go_loopw [9] (fun i wr => RlRel w1 p k γ A1 Ag n m ps L i wr) (fun i _ => n - (intOf i).toNat)
    case atStart => exact ⟨0, by omega, rfl, I1_4.out, Ig_4.out, HX4.out⟩
    case round =>
      clear b0 b1 b2 I1_4 Ig_4 HX1 HX2 HX3 HX4
      obtain ⟨j, hj, rfl, hI1, hIg, HX⟩ := hrel
      have HX := hide HX
      have HI1 := hide hI1
      have HIg := hide hIg
      clear hI1 hIg
      by_cases hlt : j < n
      · obtain ⟨b, off, x, rfl, hb, hx, hc⟩ := HIg.out.at_ hlt
        rw [iv_at (by rw [HN.out]; omega)] at hx
        simp only [Option.some.injEq] at hx
        subst hx
        obtain ⟨X, hX⟩ : ∃ X, X = cf L j := ⟨_, rfl⟩
        have hev : ev X ps = 0 := HRM.out X (by rw [hX]; exact List.mem_of_getElem? (at_cf (by rw [HN.out]; omega)))
        have HEX := hide (HEV.out X)
        rw [hev] at HEX
        rw [← hX] at hc
        have HCL := hide hc
        have HBL := hide hb
        clear hX hev hc hb
        go_wp2_with fail
        go_region_held3 (fun w' => w'.cell? ⟨w1.heap.size, 0, none⟩ = some (.int .i64 p) ∧ w'.cell? ⟨w1.heap.size, 1, none⟩ = some (.int .i64 k) ∧ w'.cell? ⟨w1.heap.size, 2, none⟩ = some (.int .i64 γ) ∧ w'.cell? ⟨b, off + j, none⟩ = some (.int .i64 (X.val : Int)))
          (first
            | exact ⟨HX.out.drew.cells.1, HX.out.drew.cells.2.1, HX.out.drew.cells.2.2, HCL.out⟩
            | exact ⟨HX9.out.cells.1, HX9.out.cells.2.1, HX9.out.cells.2.2, HCL9.out⟩)
          ((go_at_call 30; refine (HEX.out A1 m c1 wr.heap.size wr.drew HI1.out.drew (Nat.le_refl _)).mono ?_; rintro e w9 ⟨rfl, hb9⟩; have HX9 := hide (HX.out.drew.next hb9); have I19 := hide ((HI1.out.drew.below hb9).more hb9.size); have Ig9 := hide ((HIg.out.drew.below hb9).more hb9.size); have HCL9 := hide ((hb9.cell (p := ⟨b, off + j, none⟩) HBL.out).trans HCL.out); clear hb9))
        go_wp2_with fail
        go_roundw
        case rel => exact ⟨j + 1, by omega, by go_num, I19.out, Ig9.out, HX9.out⟩
        case measure => simp [intOf]; omega
      · have hd : decide (j < n) = false := by simpa using hlt
        clear hlt
        go_wp2_with fail
        go_ret
        exact ⟨rfl, HB1.out.trans (HX.out.2.mono HB1.out.size)⟩
end Go.Proofs.Ythafkohopkgckaa
