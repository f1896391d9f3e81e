/-
  The walk of the law FnFieldLogs: it returns true, and nothing that was there before is changed.
  Condition: none.
-/
import Derived.Test.YtbenmgnigeefdaaFDraw4
import Derived.Test.YtbenmgnigeefdaaFnFieldInverseWalk
namespace Go.Proofs.Ytbenmgnigeefdaa
open Go.RowKit
set_option linter.unusedVariables false
set_option linter.unusedSimpArgs false

set_option maxHeartbeats 4000000 in
theorem fnFieldLogsWalk (a0 : Option Addr) (n0 c0 : Nat) (z0 : List Int) (w : World) (h0 : Came .u8 w a0 n0 c0 z0) :
    Calls Try.prog 3 #[.slice a0 n0 c0] w fun e w' => e = .returned (.bool true) ∧ Below w.heap.size w w' := by
  obtain ⟨hI, hnc, hcm, hwf⟩ := h0
  have HI := hide hI
  have HBY := hide (show ∀ b ∈ z0, 0 ≤ b ∧ b ≤ 255 from fun b hb => bd_u8 (hwf b hb))
  clear hI hwf
  unfold maxLen at hcm
  by_cases hbig : 4096 < n0
  · go_enter Try.func3, Try.ntmps3
    go_wp2_with fail
    refine (big_yes a0 n0 c0 w hbig (by omega)).mono ?_
    rintro e w ⟨rfl, rfl⟩
    go_wp2_with fail
    go_ret
    exact ⟨rfl, Below.refl _ _⟩
  have hn0 : n0 ≤ 4096 := by omega
  go_enter Try.func3, Try.ntmps3
  go_wp2_with fail
  refine (big_no a0 n0 c0 w hn0).mono ?_
  rintro e w ⟨rfl, rfl⟩
  go_wp2_with fail
  refine (drawMul a0 n0 c0 z0 w HI hn0 HBY).mono ?_
  rintro e w1 ⟨p, k, γ, a, b, rfl, hb⟩
  have HB1 := hide hb
  have HX := hide (Box.start w1 25 p k γ)
  clear hb
  go_wp2_with fail
  refine (implMul p k γ a b _).mono ?_
  rintro e w2 ⟨rfl, hb⟩
  have HX2 := hide (HX.out.next hb)
  obtain ⟨c0', c1', c2'⟩ := HX2.out.cells
  clear hb
  go_wp2_with fail
  refine (specMul p k γ a b _).mono ?_
  rintro e w3 ⟨rfl, hb⟩
  have HX3 := hide (HX2.out.next hb)
  clear hb c0' c1' c2'
  obtain ⟨c0', c1', c2'⟩ := HX3.out.cells
  rcases err2 p k γ a b with ⟨c, hc, hne, hne'⟩ | hh
  · rw [hc]
    clear hc hne'
    go_wp2_with fail
    go_ret
    exact ⟨rfl, HB1.out.trans (HX3.out.2.mono HB1.out.size)⟩
  · have hc0 : errC p k γ [a, b] = 0 := by obtain ⟨_, _, _, _, h, _⟩ := hh; exact h
    clear hh
    rcases errC_cases p k γ [a, b] with ⟨h, _⟩ | ⟨h, _⟩ | ⟨hc, hf, q, mul, δ, hK, hd1, hd2, hgen, hgk, hall⟩
    · rw [hc0] at h; cases h
    · rw [hc0] at h; cases h
    · obtain ⟨x, rfl⟩ : ∃ x : Nat, a = x := ⟨a.toNat, by have := hall a (by simp); omega⟩
      obtain ⟨y, rfl⟩ : ∃ y : Nat, b = y := ⟨b.toNat, by have := hall b (by simp); omega⟩
      have hx : x < q := by have := hall x (by simp); omega
      have hy : y < q := by have := hall y (by simp); omega
      have M := hK.mon
      have hq := hK.big
      have HGF := hide (genF_is hgk)
      rw [hc, fMul_ok hc hK]
      have HF := hide hf
      have HGEN := hide hgen
      have HGK := hide hgk
      clear hall hc hc0 hf hgen hgk
      by_cases hx0 : x = 0
      · subst hx0
        have HI0 := hide (show invC p k γ 0 = 5 from invC_zero (err_one (x := 0) HF.out hK hx))
        have HL0 := hide (fLog_bad HI0.out (by decide))
        have hm0 : mul 0 y = 0 := M.zero y
        rw [hm0]
        clear hm0
        go_wp2_with fail
        refine (implLog p k γ _ _).mono ?_
        rw [HL0.out, HI0.out]
        rintro e w4 ⟨rfl, hb⟩
        have HX4 := hide (HX3.out.next hb)
        clear hb c0' c1' c2'
        obtain ⟨c0', c1', c2'⟩ := HX4.out.cells
        go_wp2_with fail
        refine (implLog p k γ _ _).mono ?_
        rintro e w5 ⟨rfl, hb⟩
        have HX5 := hide (HX4.out.next hb)
        clear hb c0' c1' c2'
        go_wp2_with fail
        go_ret
        exact ⟨rfl, HB1.out.trans (HX5.out.2.mono HB1.out.size)⟩
      · obtain ⟨l, hl, hla⟩ := log_exists M hd2 HGEN.out hx hx0
        have HIx := hide (invC_ok (err_one HF.out hK hx) (show (x : Int) ≠ 0 by omega))
        have HLx := hide (show fLog p k γ x = (l : Int) by rw [fLog_ok HIx.out hK HGF.out, logF_is M hd2 HGEN.out hl hla])
        have ex0 : ((x : Int) == 0) = false := by simp; omega
        have HLA := hide hla
        clear hla hx0
        by_cases hy0 : y = 0
        · subst hy0
          have HI0 := hide (show invC p k γ 0 = 5 from invC_zero (err_one (x := 0) HF.out hK hy))
          have HL0 := hide (fLog_bad HI0.out (by decide))
          have hm0 : mul x 0 = 0 := mul_zero M hx
          rw [hm0]
          clear hm0
          go_wp2_with fail
          refine (implLog p k γ _ _).mono ?_
          rw [HLx.out, HIx.out]
          rintro e w4 ⟨rfl, hb⟩
          have HX4 := hide (HX3.out.next hb)
          clear hb c0' c1' c2'
          obtain ⟨c0', c1', c2'⟩ := HX4.out.cells
          go_wp2_with fail
          refine (implLog p k γ _ _).mono ?_
          rw [HL0.out, HI0.out]
          rintro e w5 ⟨rfl, hb⟩
          have HX5 := hide (HX4.out.next hb)
          clear hb c0' c1' c2'
          go_wp2_with fail
          go_ret
          exact ⟨rfl, HB1.out.trans (HX5.out.2.mono HB1.out.size)⟩
        · obtain ⟨l', hl', hla'⟩ := log_exists M hd2 HGEN.out hy hy0
          have HIy := hide (invC_ok (err_one HF.out hK hy) (show (y : Int) ≠ 0 by omega))
          have HLy := hide (show fLog p k γ y = (l' : Int) by rw [fLog_ok HIy.out hK HGF.out, logF_is M hd2 HGEN.out hl' hla'])
          have HPC := hide (powC_ok (p := p) (k := k) (g := γ) (a := (δ : Int)) (n := ((l + l' : Nat) : Int)) (err_one HF.out hK hd2) (by omega))
          have HPV := hide (show fPow p k γ (δ : Int) ((l + l' : Nat) : Int) = ((mul x y : Nat) : Int) by rw [fPow_ok HPC.out hK, pw_add M hd2, HLA.out, hla'])
          have hll : (l : Int) + (l' : Int) = ((l + l' : Nat) : Int) := by omega
          obtain ⟨v, hv⟩ : ∃ v, mul x y = v := ⟨_, rfl⟩
          rw [hv] at HPV ⊢
          obtain ⟨s, hs⟩ : ∃ s, fsize p k γ = s := ⟨_, rfl⟩
          have HSZ := hide hs
          have HLL := hide hll
          clear hla' hy0 hv hs hll
          rcases HGK.out with ⟨g1, g2, g3⟩ | ⟨g1, g2, g3⟩
          · subst g2 g3
            go_wp2_with fail
            refine (implLog _ _ _ _ _).mono ?_
            rw [HLx.out, HIx.out]
            rintro e w4 ⟨rfl, hb⟩
            have HX4 := hide (HX3.out.next hb)
            clear hb c0' c1' c2'
            obtain ⟨c0', c1', c2'⟩ := HX4.out.cells
            go_wp2_with fail
            refine (implLog _ _ _ _ _).mono ?_
            rw [HLy.out, HIy.out]
            rintro e w5 ⟨rfl, hb⟩
            have HX5 := hide (HX4.out.next hb)
            clear hb c0' c1' c2'
            obtain ⟨c0', c1', c2'⟩ := HX5.out.cells
            go_wp2_with fail
            rw [HLL.out]
            refine (implPow _ _ _ _ _ _).mono ?_
            first | rw [HPV.out, HPC.out] | rw [show fPow 2 k γ 2 ((l + l' : Nat) : Int) = (v : Int) from HPV.out, show powC 2 k γ 2 ((l + l' : Nat) : Int) = 0 from HPC.out]
            rintro e w6 ⟨rfl, hb⟩
            have HX6 := hide (HX5.out.next hb)
            have HD := hide HX6.out.drew
            clear hb c0' c1' c2'
            obtain ⟨c0', c1', c2'⟩ := HX6.out.cells
            go_wp2_with fail
            go_region_held3 (fun w' => w'.cell? ⟨w1.heap.size, 0, none⟩ = some (.int .i64 p) ∧ w'.cell? ⟨w1.heap.size, 1, none⟩ = some (.int .i64 1) ∧ w'.cell? ⟨w1.heap.size, 2, none⟩ = some (.int .i64 (δ : Int)))
              (first
                | exact ⟨HD.out.cells.1, HD.out.cells.2.1, HD.out.cells.2.2⟩
                | exact ⟨HX7.out.cells.1, HX7.out.cells.2.1, HX7.out.cells.2.2⟩
                | exact ⟨HX8.out.cells.1, HX8.out.cells.2.1, HX8.out.cells.2.2⟩)
              (first
                | (go_at_call 22; refine (implFieldSize _ _ _ _).mono ?_; rw [HSZ.out]; rintro e w7 ⟨rfl, hb7⟩; have HX7 := hide (HD.out.next hb7); clear hb7)
                | (go_at_call 23; refine (specFieldSize _ _ _ _).mono ?_; rw [HSZ.out]; rintro e w8 ⟨rfl, hb8⟩; have HX8 := hide (HX7.out.next hb8); clear hb8))
            go_wp2_with fail
            go_ret
            exact ⟨rfl, HB1.out.trans (HX8.out.2.mono HB1.out.size)⟩
          · subst g1 g3
            have ek : (k == 1) = false := by simp; omega
            go_wp2_with fail
            refine (implLog _ _ _ _ _).mono ?_
            rw [HLx.out, HIx.out]
            rintro e w4 ⟨rfl, hb⟩
            have HX4 := hide (HX3.out.next hb)
            clear hb c0' c1' c2'
            obtain ⟨c0', c1', c2'⟩ := HX4.out.cells
            go_wp2_with fail
            refine (implLog _ _ _ _ _).mono ?_
            rw [HLy.out, HIy.out]
            rintro e w5 ⟨rfl, hb⟩
            have HX5 := hide (HX4.out.next hb)
            clear hb c0' c1' c2'
            obtain ⟨c0', c1', c2'⟩ := HX5.out.cells
            go_wp2_with fail
            rw [HLL.out]
            refine (implPow _ _ _ _ _ _).mono ?_
            first | rw [HPV.out, HPC.out] | rw [show fPow 2 k γ 2 ((l + l' : Nat) : Int) = (v : Int) from HPV.out, show powC 2 k γ 2 ((l + l' : Nat) : Int) = 0 from HPC.out]
            rintro e w6 ⟨rfl, hb⟩
            have HX6 := hide (HX5.out.next hb)
            have HD := hide HX6.out.drew
            clear hb c0' c1' c2'
            obtain ⟨c0', c1', c2'⟩ := HX6.out.cells
            go_wp2_with fail
            go_region_held3 (fun w' => w'.cell? ⟨w1.heap.size, 0, none⟩ = some (.int .i64 2) ∧ w'.cell? ⟨w1.heap.size, 1, none⟩ = some (.int .i64 k) ∧ w'.cell? ⟨w1.heap.size, 2, none⟩ = some (.int .i64 γ))
              (first
                | exact ⟨HD.out.cells.1, HD.out.cells.2.1, HD.out.cells.2.2⟩
                | exact ⟨HX7.out.cells.1, HX7.out.cells.2.1, HX7.out.cells.2.2⟩
                | exact ⟨HX8.out.cells.1, HX8.out.cells.2.1, HX8.out.cells.2.2⟩)
              (first
                | (go_at_call 22; refine (implFieldSize _ _ _ _).mono ?_; rw [HSZ.out]; rintro e w7 ⟨rfl, hb7⟩; have HX7 := hide (HD.out.next hb7); clear hb7)
                | (go_at_call 23; refine (specFieldSize _ _ _ _).mono ?_; rw [HSZ.out]; rintro e w8 ⟨rfl, hb8⟩; have HX8 := hide (HX7.out.next hb8); clear hb8))
            go_wp2_with fail
            go_ret
            exact ⟨rfl, HB1.out.trans (HX8.out.2.mono HB1.out.size)⟩
end Go.Proofs.Ytbenmgnigeefdaa
