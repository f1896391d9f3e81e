/-
  The walk of the law FnFieldRing: it returns true, and nothing that was there before is changed.
  Condition: none.
-/
import Derived.Test.YthafkohopkgckaaFDraw4
import Derived.Test.YthafkohopkgckaaDice
import Derived.Test.YthafkohopkgckaaFld
import Derived.Test.YthafkohopkgckaaLike
import Derived.Test.YthafkohopkgckaaPoly3
namespace Go.Proofs.Ythafkohopkgckaa
open Go.RowKit
set_option linter.unusedVariables false
set_option linter.unusedSimpArgs false

theorem Dice.below {w w' : World} {g Bc : Nat} {A : Option Addr} {n c : Nat} {code : List Int} {B : Nat} (h : Dice w g Bc A n c code) (hb : Below B w w') (hB : g < B) : Dice w' g Bc A n c code := by
  obtain ⟨h1, h2, h3, h4, p, sd, h5, h8⟩ := h
  exact ⟨h1.below (hb.mono (by omega)), h2, h3, h4, p, sd, h5, by rw [hb.block g hB]; exact h8⟩
theorem Dice.lt {w : World} {g Bc : Nat} {A : Option Addr} {n c : Nat} {code : List Int} (h : Dice w g Bc A n c code) : g < w.heap.size := by
  obtain ⟨h1, h2, h3, h4, p, sd, h5, h8⟩ := h
  exact (Array.getElem?_eq_some_iff.1 h8).1
theorem errE {R : Fld} {p k g : Int} (hf : fieldB p k g = true) (h : FldIs R p k g) (X Y : El R) : errC p k g [(X.val : Int), (Y.val : Int)] = 0 := by
  have h1 : elB R.q (X.val : Int) = true := by have := X.lt; rw [elB, decide_eq_true_eq]; omega
  have h2 : elB R.q (Y.val : Int) = true := by have := Y.lt; rw [elB, decide_eq_true_eq]; omega
  rw [errC_is hf h.kind]; simp [h1, h2]
theorem fMulE {R : Fld} {p k g : Int} (hf : fieldB p k g = true) (h : FldIs R p k g) (X Y : El R) : fMul p k g X.val Y.val = ((X * Y).val : Nat) ∧ errC p k g [(X.val : Int), (Y.val : Int)] = 0 :=
  ⟨by rw [fMul_ok (errE hf h X Y) h.kind]; rfl, errE hf h X Y⟩
theorem fAddE {R : Fld} {p k g : Int} (hf : fieldB p k g = true) (h : FldIs R p k g) (X Y : El R) : fAdd p k g X.val Y.val = ((X + Y).val : Nat) ∧ errC p k g [(X.val : Int), (Y.val : Int)] = 0 :=
  ⟨by rw [fAdd_ok (errE hf h X Y) h.kind, val_add, h.add], errE hf h X Y⟩
theorem field_ok {p k g a b : Int} (h : errC p k g [a, b] = 0) : fieldB p k g = true := by
  rcases hf : fieldB p k g with _ | _
  · rw [errC_no hf] at h; cases h
  · rfl

set_option maxHeartbeats 4000000 in
theorem fnFieldRingWalk (a0 : Option Addr) (n0 c0 : Nat) (z0 : List Int) (w : World) (h0 : Came .u8 w a0 n0 c0 z0) :
    Calls Try.prog 3 #[.slice a0 n0 c0] w fun e w' => e = .returned (.bool true) ∧ Below w.heap.size w w' := by
  obtain ⟨hI, hnc, hcm, hwf⟩ := h0
  have HI := hide hI
  have HBY := hide (show ∀ b ∈ z0, 0 ≤ b ∧ b ≤ 255 from fun b hb => bd_u8 (hwf b hb))
  clear hI hwf
  unfold maxLen at hcm
  by_cases hbig : 4096 < n0
  · go_enter Try.func3, Try.ntmps3
    go_wp2_with fail
    refine (big_yes a0 n0 c0 w hbig (by omega)).mono ?_
    rintro e w ⟨rfl, rfl⟩
    go_wp2_with fail
    go_ret
    exact ⟨rfl, Below.refl _ _⟩
  have hn0 : n0 ≤ 4096 := by omega
  go_enter Try.func3, Try.ntmps3
  go_wp2_with fail
  refine (big_no a0 n0 c0 w hn0).mono ?_
  rintro e w ⟨rfl, rfl⟩
  go_wp2_with fail
  refine (drawAdd a0 n0 c0 z0 w HI hn0 HBY).mono ?_
  rintro e w1 ⟨p, k, γ, a, b, rfl, hb⟩
  have HB1 := hide hb
  have HX := hide (Box.start w1 25 p k γ)
  clear hb
  go_wp2_with fail
  refine (implAdd p k γ a b _).mono ?_
  rintro e w2 ⟨rfl, hb⟩
  have HX2 := hide (HX.out.next hb)
  obtain ⟨c0', c1', c2'⟩ := HX2.out.cells
  clear hb
  go_wp2_with fail
  refine (specAdd p k γ a b _).mono ?_
  rintro e w3 ⟨rfl, hb⟩
  have HX3 := hide (HX2.out.next hb)
  have HD := hide HX3.out.drew
  clear hb c0' c1' c2'
  obtain ⟨c0', c1', c2'⟩ := HX3.out.cells
  obtain ⟨v, hv⟩ : ∃ v, fAdd p k γ a b = v := ⟨_, rfl⟩
  obtain ⟨cd, hcd⟩ : ∃ cd, errC p k γ [a, b] = cd := ⟨_, rfl⟩
  rw [hv, hcd]
  have HV := hide hv
  have HCD := hide hcd
  clear hv hcd
  have hvv : (v != v) = false := by simp
  have hcc : (cd != cd) = false := by simp
  rcases err2 p k γ a b with ⟨c, hc, hne, hne'⟩ | ⟨x, y, q, mul, hc, rfl, rfl, hx, hy, hK⟩
  · obtain rfl : c = cd := by rw [← hc]; exact HCD
    clear hc hne'
    go_wp2_with fail
    go_ret
    exact ⟨rfl, HB1.out.trans (HX3.out.2.mono HB1.out.size)⟩
  · have hf := field_ok hc
    obtain ⟨R, hR⟩ := fld_ex hf
    obtain rfl : q = R.q := by have h1 := hK.size; rw [hR.kind.size] at h1; omega
    obtain ⟨X, rfl⟩ : ∃ X : El R, x = X.val := ⟨⟨x, hx⟩, rfl⟩
    obtain ⟨Y, rfl⟩ : ∃ Y : El R, y = Y.val := ⟨⟨y, hy⟩, rfl⟩
    obtain rfl : cd = 0 := by rw [← HCD.out]; exact hc
    obtain rfl : v = ((X + Y).val : Nat) := by rw [← HV.out]; exact (fAddE hf hR X Y).1
    have hq1 := hR.kind.big
    have HSZ := hide (show fsize p k γ = (R.q : Int) by rw [fsize, if_pos hf, hR.kind.size])
    have hnI := hide (Below.trans HB1.out (HX3.out.2.mono HB1.out.size))
    have HI3 := hide (show Ints .u8 w3.drew w3.drew.heap.size a0 n0 z0 from (HI.out.below hnI.out).more hnI.out.size)
    clear hx hy hK hc HV HCD
    go_wp2_with fail
    go_region_held3 (fun w' => w'.cell? ⟨w1.heap.size, 0, none⟩ = some (.int .i64 p) ∧ w'.cell? ⟨w1.heap.size, 1, none⟩ = some (.int .i64 k) ∧ w'.cell? ⟨w1.heap.size, 2, none⟩ = some (.int .i64 γ))
      (first
        | exact ⟨HD.out.cells.1, HD.out.cells.2.1, HD.out.cells.2.2⟩
        | exact ⟨HX4.out.cells.1, HX4.out.cells.2.1, HX4.out.cells.2.2⟩
        | exact ⟨HX5.out.cells.1, HX5.out.cells.2.1, HX5.out.cells.2.2⟩
        | exact ⟨HX6.out.cells.1, HX6.out.cells.2.1, HX6.out.cells.2.2⟩)
      (first
        | (go_at_call 24; refine (specFieldSize p k γ _).mono ?_; rw [HSZ.out]; rintro e w5 ⟨rfl, hb5⟩; have HX5 := hide (HX4.out.next hb5); have HD5 := hide (HD4.out.below hb5 HD4.out.lt); clear hb5)
        | (go_at_call 23; refine (below_any _ _ a0 n0 c0 z0 (R.q : Int) _ HD5.out (by omega) (by omega)).mono ?_; rintro e w6 ⟨zz, rfl, hzz, hd6, hg6⟩; have HX6 := hide (HX5.out.grown hg6 HX3.out.lt); clear hd6 hg6)
        | (go_at_call 22; refine (roll_any a0 n0 c0 z0 201 w3.drew HI3.out hn0 HBY).mono ?_; rintro e w4 ⟨rfl, hd4, hb4⟩; have HX4 := hide (HD.out.next hb4); have HD4 := hide hd4; clear hb4 hd4))
    have HZ : zz < R.q := by omega
    obtain ⟨Z, rfl⟩ : ∃ Z : El R, zz = Z.val := ⟨⟨zz, HZ⟩, rfl⟩
    have HL := hide (fMulE hf hR Z (X + Y))
    have HP := hide (fMulE hf hR Z X)
    have HQ := hide (fMulE hf hR Z Y)
    have HS := hide (show fAdd p k γ (Z * X).val (Z * Y).val = ((Z * (X + Y)).val : Nat) ∧ errC p k γ [((Z * X).val : Int), ((Z * Y).val : Int)] = 0 by
      rw [edl]; exact fAddE hf hR (Z * X) (Z * Y))
    clear c0' c1' c2' hvv hcc
    obtain ⟨c0', c1', c2'⟩ := HX6.out.cells
    go_wp2_with fail
    refine (implMul p k γ _ _ _).mono ?_
    rw [HL.out.1, HL.out.2]
    rintro e w7 ⟨rfl, hb⟩
    have HX7 := hide (HX6.out.next hb)
    clear hb c0' c1' c2'
    obtain ⟨c0', c1', c2'⟩ := HX7.out.cells
    go_wp2_with fail
    refine (implMul p k γ _ _ _).mono ?_
    rw [HP.out.1, HP.out.2]
    rintro e w8 ⟨rfl, hb⟩
    have HX8 := hide (HX7.out.next hb)
    clear hb c0' c1' c2'
    obtain ⟨c0', c1', c2'⟩ := HX8.out.cells
    go_wp2_with fail
    refine (implMul p k γ _ _ _).mono ?_
    rw [HQ.out.1, HQ.out.2]
    rintro e w9 ⟨rfl, hb⟩
    have HX9 := hide (HX8.out.next hb)
    clear hb c0' c1' c2'
    obtain ⟨c0', c1', c2'⟩ := HX9.out.cells
    go_wp2_with fail
    refine (implAdd p k γ _ _ _).mono ?_
    rw [HS.out.1, HS.out.2]
    rintro e w10 ⟨rfl, hb⟩
    have HX10 := hide (HX9.out.next hb)
    clear hb c0' c1' c2'
    go_wp2_with fail
    go_ret
    exact ⟨rfl, HB1.out.trans (HX10.out.2.mono HB1.out.size)⟩
end Go.Proofs.Ythafkohopkgckaa
