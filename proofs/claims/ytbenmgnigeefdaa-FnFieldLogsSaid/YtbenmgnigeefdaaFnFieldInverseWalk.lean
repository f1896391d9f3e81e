/-
  The walk of the law FnFieldInverse: it returns true, and nothing that was there before is changed.
  Condition: none.
-/
import Derived.Test.YtbenmgnigeefdaaFDraw3
import Derived.Test.YtbenmgnigeefdaaFSpec4
namespace Go.Proofs.Ytbenmgnigeefdaa
open Go.RowKit
set_option linter.unusedVariables false
set_option linter.unusedSimpArgs false

theorem inv_field {p k g a : Int} (h : invC p k g a = 0) : fieldB p k g = true := by
  rcases hf : fieldB p k g with _ | _
  · rw [invC_bad (errC_no hf) (by decide)] at h; cases h
  · rfl
theorem err_two {p k g : Int} {q x y : Nat} {mul : Nat → Nat → Nat} (hf : fieldB p k g = true) (hK : Kd p k g q mul) (hx : x < q) (hy : y < q) : errC p k g [(x : Int), (y : Int)] = 0 := by
  have h1 : elB q (x : Int) = true := by rw [elB, decide_eq_true_eq]; omega
  have h2 : elB q (y : Int) = true := by rw [elB, decide_eq_true_eq]; omega
  rw [errC_is hf hK]; simp [h1, h2]
theorem err_one {p k g : Int} {q x : Nat} {mul : Nat → Nat → Nat} (hf : fieldB p k g = true) (hK : Kd p k g q mul) (hx : x < q) : errC p k g [(x : Int)] = 0 := by
  have h1 : elB q (x : Int) = true := by rw [elB, decide_eq_true_eq]; omega
  rw [errC_is hf hK]; simp [h1]
theorem negF_lt {p k g : Int} {q x : Nat} {mul : Nat → Nat → Nat} (hK : Kd p k g q mul) (hx : x < q) : negF p q x < q := by
  unfold negF; split
  · exact hx
  · exact Nat.mod_lt _ (by omega)
theorem add_neg {p k g : Int} {q x : Nat} {mul : Nat → Nat → Nat} (hK : Kd p k g q mul) (hx : x < q) : addF p q x (negF p q x) = 0 := by
  unfold addF negF; split
  · exact Nat.xor_self x
  · rw [Nat.add_mod_mod, show x + (q - x) = q by omega, Nat.mod_self]

set_option maxHeartbeats 4000000 in
theorem fnFieldInverseWalk (a0 : Option Addr) (n0 c0 : Nat) (z0 : List Int) (w : World) (h0 : Came .u8 w a0 n0 c0 z0) :
    Calls Try.prog 4 #[.slice a0 n0 c0] w fun e w' => e = .returned (.bool true) ∧ Below w.heap.size w w' := by
  obtain ⟨hI, hnc, hcm, hwf⟩ := h0
  have HI := hide hI
  have HBY := hide (show ∀ b ∈ z0, 0 ≤ b ∧ b ≤ 255 from fun b hb => bd_u8 (hwf b hb))
  clear hI hwf
  unfold maxLen at hcm
  by_cases hbig : 4096 < n0
  · go_enter Try.func4, Try.ntmps4
    go_wp2_with fail
    refine (big_yes a0 n0 c0 w hbig (by omega)).mono ?_
    rintro e w ⟨rfl, rfl⟩
    go_wp2_with fail
    go_ret
    exact ⟨rfl, Below.refl _ _⟩
  have hn0 : n0 ≤ 4096 := by omega
  go_enter Try.func4, Try.ntmps4
  go_wp2_with fail
  refine (big_no a0 n0 c0 w hn0).mono ?_
  rintro e w ⟨rfl, rfl⟩
  go_wp2_with fail
  refine (drawInv a0 n0 c0 z0 w HI hn0 HBY).mono ?_
  rintro e w1 ⟨p, k, γ, a, rfl, hb⟩
  have HB1 := hide hb
  have HX := hide (Box.start w1 25 p k γ)
  clear hb
  go_wp2_with fail
  refine (implInv p k γ a _).mono ?_
  rintro e w2 ⟨rfl, hb⟩
  have HX2 := hide (HX.out.next hb)
  obtain ⟨c0', c1', c2'⟩ := HX2.out.cells
  clear hb
  go_wp2_with fail
  refine (specInv p k γ a _).mono ?_
  rintro e w3 ⟨rfl, hb⟩
  have HX3 := hide (HX2.out.next hb)
  have HD := hide HX3.out.drew
  clear hb c0' c1' c2'
  obtain ⟨c0', c1', c2'⟩ := HX3.out.cells
  obtain ⟨v, hv⟩ : ∃ v, fInv p k γ a = v := ⟨_, rfl⟩
  obtain ⟨cd, hcd⟩ : ∃ cd, invC p k γ a = cd := ⟨_, rfl⟩
  rw [hv, hcd]
  have HV := hide hv
  have HCD := hide hcd
  clear hv hcd
  obtain ⟨bf, hbf⟩ : ∃ bf, fieldB p k γ = bf := ⟨_, rfl⟩
  have HBF := hide hbf
  clear hbf
  have hvv : (v != v) = false := by simp
  have hcc : (cd != cd) = false := by simp
  have hbb : (bf != bf) = false := by simp
  go_wp2_with fail
  go_region_held3 (fun w' => w'.cell? ⟨w1.heap.size, 0, none⟩ = some (.int .i64 p) ∧ w'.cell? ⟨w1.heap.size, 1, none⟩ = some (.int .i64 k) ∧ w'.cell? ⟨w1.heap.size, 2, none⟩ = some (.int .i64 γ))
    (first
      | exact ⟨HD.out.cells.1, HD.out.cells.2.1, HD.out.cells.2.2⟩
      | exact ⟨HX4.out.cells.1, HX4.out.cells.2.1, HX4.out.cells.2.2⟩
      | exact ⟨HX5.out.cells.1, HX5.out.cells.2.1, HX5.out.cells.2.2⟩)
    (first
      | (go_at_call 27; refine (implIsField p k γ _).mono ?_; rw [HBF.out]; rintro e w4 ⟨rfl, hb4⟩; have HX4 := hide (HD.out.next hb4); clear hb4)
      | (go_at_call 28; refine (specIsField p k γ _).mono ?_; rw [HBF.out]; rintro e w5 ⟨rfl, hb5⟩; have HX5 := hide (HX4.out.next hb5); clear hb5))
  clear c0' c1' c2' hvv hcc hbb
  obtain ⟨c0', c1', c2'⟩ := HX5.out.cells
  rcases inv_cases p k γ a with ⟨c, hc, hne, hne'⟩ | ⟨x, q, mul, δ, hc, rfl, hx0, hx, hK, h1, h2, h3, h4, h5⟩
  · obtain rfl : c = cd := by rw [← hc]; exact HCD
    clear hc hne'
    go_wp2_with fail
    go_ret
    exact ⟨rfl, HB1.out.trans (HX5.out.2.mono HB1.out.size)⟩
  · have hf := inv_field hc
    have M := hK.mon
    obtain ⟨y, hy⟩ : ∃ y, pw mul x (q - 2) = y := ⟨_, rfl⟩
    have hyq : y < q := by rw [← hy]; exact pw_lt M hx _
    obtain rfl : cd = 0 := by rw [← HCD.out]; exact hc
    obtain rfl : v = (y : Int) := by rw [← HV.out, fInv_ok hc hK, hy]
    obtain ⟨m, hm⟩ : ∃ m, negF p q x = m := ⟨_, rfl⟩
    have hmq : m < q := by rw [← hm]; exact negF_lt hK hx
    have HMUL := hide (show fMul p k γ x y = 1 ∧ errC p k γ [(x : Int), (y : Int)] = 0 from ⟨by rw [fMul_ok (err_two hf hK hx hyq) hK, ← hy, inv_mul M h2 h3 hx hx0]; rfl, err_two hf hK hx hyq⟩)
    have HNEG := hide (show fNeg p k γ x = (m : Int) ∧ errC p k γ [(x : Int)] = 0 from ⟨by rw [fNeg_ok (err_one hf hK hx) hK, hm], err_one hf hK hx⟩)
    have HADD := hide (show fAdd p k γ x m = 0 ∧ errC p k γ [(x : Int), (m : Int)] = 0 from ⟨by rw [fAdd_ok (err_two hf hK hx hmq) hK, ← hm, add_neg hK hx]; rfl, err_two hf hK hx hmq⟩)
    clear hc hf h3 h4 h5 hy hm hx0 HV HCD HBF
    go_wp2_with fail
    refine (implMul p k γ _ _ _).mono ?_
    rw [HMUL.out.1, HMUL.out.2]
    rintro e w6 ⟨rfl, hb⟩
    have HX6 := hide (HX5.out.next hb)
    clear hb c0' c1' c2'
    obtain ⟨c0', c1', c2'⟩ := HX6.out.cells
    go_wp2_with fail
    refine (implNeg p k γ _ _).mono ?_
    rw [HNEG.out.1, HNEG.out.2]
    rintro e w7 ⟨rfl, hb⟩
    have HX7 := hide (HX6.out.next hb)
    clear hb c0' c1' c2'
    obtain ⟨c0', c1', c2'⟩ := HX7.out.cells
    go_wp2_with fail
    refine (implAdd p k γ _ _ _).mono ?_
    rw [HADD.out.1, HADD.out.2]
    rintro e w8 ⟨rfl, hb⟩
    have HX8 := hide (HX7.out.next hb)
    clear hb c0' c1' c2'
    go_wp2_with fail
    go_ret
    exact ⟨rfl, HB1.out.trans (HX8.out.2.mono HB1.out.size)⟩
end Go.Proofs.Ytbenmgnigeefdaa
