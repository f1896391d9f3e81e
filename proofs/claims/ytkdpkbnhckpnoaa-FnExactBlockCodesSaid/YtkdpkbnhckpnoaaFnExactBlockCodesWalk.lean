/-
  The walk of the law FnExactBlockCodes: it returns true, and nothing that was there before is changed.
  Condition: none.
-/
import Derived.Test.YtkdpkbnhckpnoaaYCodeS
import Derived.Test.YtkdpkbnhckpnoaaLay7
import Derived.Test.YtkdpkbnhckpnoaaYShell
namespace Go.Proofs.Ytkdpkbnhckpnoaa
open Go.RowKit
set_option linter.unusedVariables false

theorem bc_both (p k g D K C : Int) (hD : -9223372036854775808 ≤ D ∧ D ≤ 9223372036854775807) (hC : -9223372036854775808 ≤ C ∧ C ≤ 9223372036854775807) :
    ∃ (n : Nat) (f : Nat → Int) (cd : Int), n ≤ 10000 ∧ E0 23 p k g D K C (NewCK n f cd) ∧ E0 19 p k g D K C (NewCK n f cd) := by
  rcases hv : layB p k g D K C with _ | _
  · exact ⟨0, _, 1, by omega, fun w => specCodes_bad hv w, fun w => implBlockCodes_bad hv hD hC w⟩
  · obtain ⟨R, γ, d, c, m, rfl, rfl, rfl, hI⟩ := layB_open hv
    have := hI.c16
    exact ⟨m, _, 0, by omega, fun w => specCodes hI w, fun w => implBlockCodes hI w⟩
theorem OwnC.ne {w w1 : World} {b b1 n n1 : Nat} {v v1 : Value} {f f1 : Nat → Int} (h : OwnC w b v n f) (h1 : OwnC w1 b1 v1 n1 f1) (hle : w.heap.size ≤ b1) : (v.ownBlock = none ∨ v.ownBlock ≠ v1.ownBlock) := by
  rcases hv : v.ownBlock with _ | g
  · exact .inl rfl
  · refine .inr fun e => ?_
    have a := World.ownsRow.lt h g hv
    have b := World.ownsRow.lt h1 g e.symm
    omega

set_option maxRecDepth 100000 in
set_option maxHeartbeats 4000000 in
theorem fnExactBlockCodesWalk (a0x a0y a0z a0d a0k a0c : Int) (w : World) (h0x : (Lit.int .i64 a0x).wf = true) (h0y : (Lit.int .i64 a0y).wf = true) (h0z : (Lit.int .i64 a0z).wf = true) (h0d : (Lit.int .i64 a0d).wf = true) (h0k : (Lit.int .i64 a0k).wf = true) (h0c : (Lit.int .i64 a0c).wf = true) :
    Calls Try.prog 5 #[.agg #[.int .i64 a0x, .int .i64 a0y, .int .i64 a0z, .int .i64 a0d, .int .i64 a0k, .int .i64 a0c]] w fun e w' => e = .returned (.bool true) ∧ Below w.heap.size w w' := by
  have hD := bd_i64 h0d
  have hC := bd_i64 h0c
  clear h0x h0y h0z h0d h0k h0c
  have HX0 := hide (KBox.start w a0x a0y a0z a0d a0k a0c)
  obtain ⟨n, f, cd, hn, HS, HM⟩ := bc_both a0x a0y a0z a0d a0k a0c hD hC
  have HSP := hide HS
  have HIM := hide HM
  clear HS HM
  have hcd : (cd != cd) = false := by simp
  have hqq : (((1 + n * 5 : Nat) : Int) != ((1 + n * 5 : Nat) : Int)) = false := by simp
  have hq0 : ¬ (((1 + n * 5 : Nat) : Int) < 0) := by omega
  obtain ⟨m, hm⟩ : ∃ m : Int, ((1 + n * 5 : Nat) : Int) = m := ⟨_, rfl⟩
  have HMM := hide hm
  rw [hm] at hqq hq0
  clear hm
  go_enter Try.func5, Try.ntmps5
  go_wp2_with fail
  refine (toLayout a0x a0y a0z a0d a0k a0c _).mono ?_
  rintro e w1 ⟨rfl, hb⟩
  have HX1 := hide (HX0.out.next hb)
  clear hb
  obtain ⟨b0, b1, b2, b3, b4, b5⟩ := HX1.out.cells
  go_wp2_with fail
  refine (HSP.out _).mono ?_
  rintro e w2 ⟨vW, rfl, ho, hb⟩
  have HX2 := hide (HX1.out.next hb)
  have HOW := hide ho
  clear ho
  clear hb b0 b1 b2 b3 b4 b5
  obtain ⟨b0, b1, b2, b3, b4, b5⟩ := HX2.out.cells
  go_wp2_with fail
  refine (toLayout a0x a0y a0z a0d a0k a0c _).mono ?_
  rintro e w3 ⟨rfl, hb⟩
  have HX3 := hide (HX2.out.next hb)
  have HOW := hide (HOW.out.next hb)
  clear hb b0 b1 b2 b3 b4 b5
  obtain ⟨b0, b1, b2, b3, b4, b5⟩ := HX3.out.cells
  go_wp2_with fail
  refine (HIM.out _).mono ?_
  rintro e w4 ⟨vG, rfl, ho, hb⟩
  have HXG := hide HX3.out.lt
  have HX4 := hide (HX3.out.next hb)
  have NWG := hide (HOW.out.ne ho (Nat.le_refl _))
  have HOW := hide (HOW.out.next hb)
  have HOG := hide ho
  clear ho
  clear hb b0 b1 b2 b3 b4 b5
  obtain ⟨b0, b1, b2, b3, b4, b5⟩ := HX4.out.cells
  go_wp2_with fail
  refine (eqCodes_same vG vW n _ _ f _ HOG.out HOW.out hn).mono ?_
  rintro e w5 ⟨rfl, hb⟩
  have HX5 := hide (HX4.out.next hb)
  have HOW := hide (HOW.out.next hb)
  have HOG := hide (HOG.out.next hb)
  clear hb b0 b1 b2 b3 b4 b5
  obtain ⟨b0, b1, b2, b3, b4, b5⟩ := HX5.out.cells
  go_wp2_with fail
  have hlG := HOG.out
  refine (markCodes vG n _ 1 1 rfl f _ HOG.out hn (by omega)).mono ?_
  rw [HMM.out]
  rintro e w6 ⟨rfl, ho, hg⟩
  have HX6 := hide (HX5.out.grow' hg (fun b' hb' => by have := (World.ownsRow.lt hlG b' hb').1; have := HX0.out.lt; have := HXG.out; omega))
  have HOW := hide (HOW.out.grown hg NWG.out)
  have HOG := hide ho
  clear ho hg b0 b1 b2 b3 b4 b5 hlG
  obtain ⟨b0, b1, b2, b3, b4, b5⟩ := HX6.out.cells
  go_wp2_with fail
  refine (heldCodes vG n _ 1 1 rfl _ HOG.out hn (by omega)).mono ?_
  rw [HMM.out]
  rintro e w6 ⟨rfl, rfl⟩
  go_wp2_with fail
  refine (toLayout a0x a0y a0z a0d a0k a0c _).mono ?_
  rintro e w7 ⟨rfl, hb⟩
  have HX7 := hide (HX6.out.next hb)
  have HOW := hide (HOW.out.next hb)
  have HOG := hide (HOG.out.next hb)
  clear hb b0 b1 b2 b3 b4 b5
  obtain ⟨b0, b1, b2, b3, b4, b5⟩ := HX7.out.cells
  go_wp2_with fail
  refine (HIM.out _).mono ?_
  rintro e w8 ⟨vH, rfl, ho, hb⟩
  have HX8 := hide (HX7.out.next hb)
  have NWH := hide (HOW.out.ne ho (Nat.le_refl _))
  have NGH := hide (HOG.out.ne ho (Nat.le_refl _))
  have HOW := hide (HOW.out.next hb)
  have HOG := hide (HOG.out.next hb)
  have HOH := hide ho
  clear ho
  clear hb b0 b1 b2 b3 b4 b5
  obtain ⟨b0, b1, b2, b3, b4, b5⟩ := HX8.out.cells
  go_wp2_with fail
  refine (eqCodes_same vH vW n _ _ f _ HOH.out HOW.out hn).mono ?_
  rintro e w9 ⟨rfl, hb⟩
  have HX9 := hide (HX8.out.next hb)
  have HOW := hide (HOW.out.next hb)
  have HOG := hide (HOG.out.next hb)
  have HOH := hide (HOH.out.next hb)
  clear hb b0 b1 b2 b3 b4 b5
  obtain ⟨b0, b1, b2, b3, b4, b5⟩ := HX9.out.cells
  go_wp2_with fail
  refine (heldCodes vG n _ 1 1 rfl _ HOG.out hn (by omega)).mono ?_
  rw [HMM.out]
  rintro e w9 ⟨rfl, rfl⟩
  go_wp2_with fail
  go_ret
  exact ⟨rfl, HX9.out.2⟩
end Go.Proofs.Ytkdpkbnhckpnoaa
