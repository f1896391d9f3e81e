/-
  The contracts of the draws of a field with one or two polynomials: some field, some short lists, no old memory changed.
  Condition: the code has at most 4096 bytes.
-/
import Derived.Test.YthafkohopkgckaaPDraw2
import Derived.Test.YthafkohopkgckaaPBoth1
namespace Go.Proofs.Ythafkohopkgckaa
open Go.RowKit
set_option linter.unusedSimpArgs false
set_option linter.unusedVariables false

set_option maxRecDepth 100000 in
set_option maxHeartbeats 4000000 in
theorem drawGcd (A : Option Addr) (n c : Nat) (code : List Int) (w : World) (hI : Ints .u8 w w.heap.size A n code) (hn : n ≤ 4096) (hby : ∀ b ∈ code, 0 ≤ b ∧ b ≤ 255) :
    Calls Try.prog 42 #[.slice A n c] w (DrawnFLL w) := by
  have HI := hide ((hI.below ((Below.refl _ _).alloc (Nat.le_refl _) (.cells #[.int .i64 0, .int .i64 0, .int .i64 0] 25))).more (B' := (w.alloc (.cells #[.int .i64 0, .int .i64 0, .int .i64 0] 25)).heap.size) (by rw [alloc_size]; omega))
  have HBY := hide hby
  have HZ := hide (Zero3.start w)
  clear hI hby
  go_enter Try.func42, Try.ntmps42
  go_wp2_with fail
  refine (from_any A n c code _ HI.out hn HBY.out).mono ?_
  rintro e w1 ⟨rfl, hs, hb⟩
  have HZ1 := hide (HZ.out.below hb)
  have HB1 := hide (((Below.refl w.heap.size w).alloc (Nat.le_refl _) _).trans (hb.mono (by rw [alloc_size]; omega)))
  have hg1 : (w.alloc (.cells #[.int .i64 0, .int .i64 0, .int .i64 0] 25)).heap.size = w.heap.size + 1 := alloc_size _ _
  generalize (w.alloc (.cells #[.int .i64 0, .int .i64 0, .int .i64 0] 25)).heap.size = g at hs hg1 ⊢
  have hgN : w.heap.size < g := by omega
  have HS1 := hide hs
  clear hs hb hg1
  go_wp2_with fail
  refine (drawAny g _ A n c code _ HS1.out).mono ?_
  rintro e w2 ⟨p, k, γ, rfl, hs, hg⟩
  have HD2 := hide (show Dst w g _ A n c code w2.heap.size p k γ (w2.alloc (.cells #[.int .i64 p, .int .i64 k, .int .i64 γ] 25)) from
    ⟨hs.still (World.grownBy_alloc w2 _ none) (by simp), (HZ1.out.grown hg (by omega)).alloc _, heap_alloc_new w2 _, (below_grown HB1.out hg (by omega)).alloc (Nat.le_of_lt (HZ1.out.grown hg (by omega)).lt) _, hgN, hs.lt⟩)
  have hg2 : g < w2.heap.size := hs.lt
  clear hs hg HZ1 HB1 HS1 HZ HI
  go_wp2_with fail
  generalize w2.alloc (.cells #[.int .i64 p, .int .i64 k, .int .i64 γ] 25) = ws at HD2 ⊢
  generalize w2.heap.size = N at hg2 HD2 ⊢
  obtain ⟨d0, d1, d2⟩ := cells3 HD2.out.2.2.1
  refine (drawPoly p k γ 4 g _ A n c code _ HD2.out.1 (by omega) (by omega)).mono ?_
  rintro e w3 ⟨z3, A3, c3, rfl, hl3, ho, hs, hg⟩
  have HD3 := hide (HD2.out.src hs hg)
  have HO3 := hide (ho.low (base' := N) (Nat.le_of_lt HD2.out.lt))
  clear ho hs hg d0 d1 d2
  obtain ⟨d0, d1, d2⟩ := cells3 HD3.out.2.2.1
  go_wp2_with fail
  refine (drawPoly p k γ 4 g _ A n c code _ HD3.out.1 (by omega) (by omega)).mono ?_
  rintro e w4 ⟨z4, A4, c4, rfl, hl4, ho, hs, hg⟩
  have HD4 := hide (HD3.out.src hs hg)
  have HO4 := hide (ho.low (base' := N) (Nat.le_of_lt HD3.out.lt))
  have HO3 := hide (HO3.out.src hg hg2)
  clear ho hs hg d0 d1 d2
  obtain ⟨d0, d1, d2⟩ := cells3 HD4.out.2.2.1
  go_wp2_with fail
  refine (drawPoly p k γ 3 g _ A n c code _ HD4.out.1 (by omega) (by omega)).mono ?_
  rintro e w5 ⟨z5, A5, c5, rfl, hl5, ho, hs, hg⟩
  have HD5 := hide (HD4.out.src hs hg)
  have HO5 := hide (ho.low (base' := N) (Nat.le_of_lt HD4.out.lt))
  have HO3 := hide (HO3.out.src hg hg2)
  have HO4 := hide (HO4.out.src hg hg2)
  clear ho hs hg d0 d1 d2
  obtain ⟨d0, d1, d2⟩ := cells3 HD5.out.2.2.1
  rcases hf : fieldB p k γ with _ | _
  · have HB := hide hf
    clear hf
    go_wp2_with fail
    refine (specIsField p k γ _).mono ?_
    rw [HB.out]
    rintro e w6 ⟨rfl, hb⟩
    have HD6 := hide (HD5.out.next hb)
    have HO3 := hide (HO3.out.below hb (Nat.le_refl _))
    have HO4 := hide (HO4.out.below hb (Nat.le_refl _))
    have HO5 := hide (HO5.out.below hb (Nat.le_refl _))
    clear hb d0 d1 d2
    obtain ⟨d0, d1, d2⟩ := cells3 HD6.out.2.2.1
    obtain ⟨c0', c1', c2'⟩ := HD6.out.2.1.cells
    obtain ⟨f0', f1', f2'⟩ := HD6.out.2.1.frozen
    go_wp2_with fail
    refine bodyPost_ret (v := .tuple #[.agg #[.int .i64 p, .int .i64 k, .int .i64 γ], .slice A3 z3.length c3, .slice A4 z4.length c4]) (by simp [results, Try.results42, go_sem, c0', c1', c2']) rfl ?_
    exact fll_mk HD6.out HO3.out HO4.out (Nat.le_refl _) (Nat.le_refl _) (by omega) (by omega) _ _ _
  · obtain ⟨R, hR⟩ := fld_ex hf
    have HB := hide hf
    clear hf
    go_wp2_with fail
    refine (specIsField p k γ _).mono ?_
    rw [HB.out]
    rintro e w6 ⟨rfl, hb⟩
    have HD6 := hide (HD5.out.next hb)
    have HO3 := hide (HO3.out.below hb (Nat.le_refl _))
    have HO4 := hide (HO4.out.below hb (Nat.le_refl _))
    have HO5 := hide (HO5.out.below hb (Nat.le_refl _))
    clear hb d0 d1 d2
    obtain ⟨d0, d1, d2⟩ := cells3 HD6.out.2.2.1
    go_wp2_with fail
    refine (specL3Is hR.kind A3 z3.length c3 _ z3 _ HO3.out.ints (Nat.le_refl _) (by omega)).mono ?_
    rintro e w7 ⟨rfl, hb⟩
    have HD7 := hide (HD6.out.next hb)
    have HO3 := hide (HO3.out.below hb (Nat.le_refl _))
    have HO4 := hide (HO4.out.below hb (Nat.le_refl _))
    have HO5 := hide (HO5.out.below hb (Nat.le_refl _))
    clear hb d0 d1 d2
    obtain ⟨d0, d1, d2⟩ := cells3 HD7.out.2.2.1
    rcases hp3 : polyB R.q z3 with _ | _
    · obtain ⟨c0', c1', c2'⟩ := HD7.out.2.1.cells
      obtain ⟨f0', f1', f2'⟩ := HD7.out.2.1.frozen
      go_wp2_with fail
      refine bodyPost_ret (v := .tuple #[.agg #[.int .i64 p, .int .i64 k, .int .i64 γ], .slice A3 z3.length c3, .slice A4 z4.length c4]) (by simp [results, Try.results42, go_sem, c0', c1', c2']) rfl ?_
      exact fll_mk HD7.out HO3.out HO4.out (Nat.le_refl _) (Nat.le_refl _) (by omega) (by omega) _ _ _
    · have HP3 := hide hp3
      clear hp3
      go_wp2_with fail
      refine (specL3Is hR.kind A4 z4.length c4 _ z4 _ HO4.out.ints (Nat.le_refl _) (by omega)).mono ?_
      rintro e w8 ⟨rfl, hb⟩
      have HD8 := hide (HD7.out.next hb)
      have HO3 := hide (HO3.out.below hb (Nat.le_refl _))
      have HO4 := hide (HO4.out.below hb (Nat.le_refl _))
      have HO5 := hide (HO5.out.below hb (Nat.le_refl _))
      clear hb d0 d1 d2
      obtain ⟨d0, d1, d2⟩ := cells3 HD8.out.2.2.1
      rcases hp4 : polyB R.q z4 with _ | _
      · obtain ⟨c0', c1', c2'⟩ := HD8.out.2.1.cells
        obtain ⟨f0', f1', f2'⟩ := HD8.out.2.1.frozen
        go_wp2_with fail
        refine bodyPost_ret (v := .tuple #[.agg #[.int .i64 p, .int .i64 k, .int .i64 γ], .slice A3 z3.length c3, .slice A4 z4.length c4]) (by simp [results, Try.results42, go_sem, c0', c1', c2']) rfl ?_
        exact fll_mk HD8.out HO3.out HO4.out (Nat.le_refl _) (Nat.le_refl _) (by omega) (by omega) _ _ _
      · have HP4 := hide hp4
        clear hp4
        go_wp2_with fail
        refine (specL3Is hR.kind A5 z5.length c5 _ z5 _ HO5.out.ints (Nat.le_refl _) (by omega)).mono ?_
        rintro e w9 ⟨rfl, hb⟩
        have HD9 := hide (HD8.out.next hb)
        have HO3 := hide (HO3.out.below hb (Nat.le_refl _))
        have HO4 := hide (HO4.out.below hb (Nat.le_refl _))
        have HO5 := hide (HO5.out.below hb (Nat.le_refl _))
        clear hb d0 d1 d2
        obtain ⟨d0, d1, d2⟩ := cells3 HD9.out.2.2.1
        rcases hp5 : polyB R.q z5 with _ | _
        · obtain ⟨c0', c1', c2'⟩ := HD9.out.2.1.cells
          obtain ⟨f0', f1', f2'⟩ := HD9.out.2.1.frozen
          go_wp2_with fail
          refine bodyPost_ret (v := .tuple #[.agg #[.int .i64 p, .int .i64 k, .int .i64 γ], .slice A3 z3.length c3, .slice A4 z4.length c4]) (by simp [results, Try.results42, go_sem, c0', c1', c2']) rfl ?_
          exact fll_mk HD9.out HO3.out HO4.out (Nat.le_refl _) (Nat.le_refl _) (by omega) (by omega) _ _ _
        · have HP5 := hide hp5
          clear hp5
          obtain ⟨ps, rfl, hps, hpl⟩ := poly_open HP3.out
          obtain ⟨qs, rfl, hqs, hql⟩ := poly_open HP4.out
          obtain ⟨rs, rfl, hrs, hrl⟩ := poly_open HP5.out
          rw [iv_len] at hl3 hl4 hl5 HO3 HO4 HO5 ⊢
          rw [iv_len, iv_len]
          go_wp2_with fail
          have hpr : plen ps rs ≤ 1000 := by unfold plen; split <;> omega
          have hqr : plen qs rs ≤ 1000 := by unfold plen; split <;> omega
          have hNW : w.heap.size ≠ N := by omega
          go_region_held3 (fun w' => w'.cell? ⟨N, 0, none⟩ = some (.int .i64 p) ∧ w'.cell? ⟨N, 1, none⟩ = some (.int .i64 k) ∧ w'.cell? ⟨N, 2, none⟩ = some (.int .i64 γ))
            (first
              | exact ⟨(cells3 HD9.out.drew.2.2.1).1, (cells3 HD9.out.drew.2.2.1).2.1, (cells3 HD9.out.drew.2.2.1).2.2⟩
              | exact ⟨(cells3 HD10.out.2.2.1).1, (cells3 HD10.out.2.2.1).2.1, (cells3 HD10.out.2.2.1).2.2⟩
              | exact ⟨d0', d1', d2'⟩
              | go_keep)
            (first
              | (go_at_call 71; have hm1 := HM1; refine (specMulE' hR qs rs A4 A5 qs.length c4 rs.length c5 w10.heap.size _ (HO4b.out.intsE) (HO5b.out.intsE) (Nat.le_refl _) (by omega) (by omega)).mono ?_; rintro e w11 ⟨A11, c11, rfl, hc11, ho, hb⟩; have HD11 := hide (HD10.out.next hb); have HO11 := hide (ho.low (base' := N) (Nat.le_of_lt HD10.out.lt)); have HO10b := hide (HO10.out.below hb (Nat.le_refl _)); obtain ⟨c0', c1', c2'⟩ := HD11.out.2.1.cells; obtain ⟨f0', f1', f2'⟩ := HD11.out.2.1.frozen; obtain ⟨d0', d1', d2'⟩ := cells3 HD11.out.2.2.1; clear ho hb)
              | (go_at_call 71; refine (specMulE' hR ps rs A3 A5 ps.length c3 rs.length c5 w9.heap.size _ (HO3.out.drew.intsE) (HO5.out.drew.intsE) (Nat.le_refl _) (by omega) (by omega)).mono ?_; rintro e w10 ⟨A10, c10, rfl, hc10, ho, hb⟩; have HD10 := hide (HD9.out.drew.next hb); have HO10 := hide (ho.low (base' := N) (Nat.le_of_lt HD9.out.lt)); have HO4b := hide (HO4.out.drew.below hb (Nat.le_refl _)); have HO5b := hide (HO5.out.drew.below hb (Nat.le_refl _)); have HM1 : True := trivial; obtain ⟨d0'', d1'', d2''⟩ := cells3 HD10.out.2.2.1; clear ho hb))
          all_goals
            have HL1 := hide (show (trim (mulP ps rs)).length ≤ 1000 by have := trim_le (mulP ps rs); rw [mulP, tab_len] at this; rw [mulP]; omega)
            have HL2 := hide (show (trim (mulP qs rs)).length ≤ 1000 by have := trim_le (mulP qs rs); rw [mulP, tab_len] at this; rw [mulP]; omega)
            go_wp2_with fail
            have HE1 := hide (iv_len (trim (mulP ps rs)))
            have HE2 := hide (iv_len (trim (mulP qs rs)))
            refine bodyPost_ret (v := .tuple #[.agg #[.int .i64 p, .int .i64 k, .int .i64 γ], .slice A10 (iv (trim (mulP ps rs))).length c10, .slice A11 (iv (trim (mulP qs rs))).length c11]) (by rw [HE1.out, HE2.out]; simp [results, Try.results42, go_sem, c0', c1', c2']) rfl ?_
            exact fll_mk HD11.out (by rw [HE1.out]; exact HO10b.out) (by rw [HE2.out]; exact HO11.out) (Nat.le_refl _) (Nat.le_refl _) (by rw [HE1.out]; have := HL1.out; omega) (by rw [HE2.out]; have := HL2.out; omega) _ _ _

end Go.Proofs.Ythafkohopkgckaa
