/-
  The contracts of the draws of a field with one or two polynomials: some field, some short lists, no old memory changed.
  Condition: the code has at most 4096 bytes.
-/
import Derived.Test.YthafkohopkgckaaPDraw2
import Derived.Test.YthafkohopkgckaaPBoth1
namespace Go.Proofs.Ythafkohopkgckaa
open Go.RowKit
set_option linter.unusedSimpArgs false
set_option linter.unusedVariables false

def RdRel {R : Fld} (w : World) (g Bc : Nat) (A : Option Addr) (n c : Nat) (code : List Int) (N : Nat) (p k γ : Int) (v i : Value) (wr : World) : Prop :=
  ∃ (j : Nat) (ps : List (El R)), ps.length + j ≤ 10 ∧ i = .int .i64 j ∧ Own wr N 2 .i64 v (iv ps) ∧ Dst w g Bc A n c code N p k γ wr

set_option maxRecDepth 100000 in
set_option maxHeartbeats 4000000 in
theorem drawRoots (A : Option Addr) (n c : Nat) (code : List Int) (w : World) (hI : Ints .u8 w w.heap.size A n code) (hn : n ≤ 4096) (hby : ∀ b ∈ code, 0 ≤ b ∧ b ≤ 255) :
    Calls Try.prog 36 #[.slice A n c] w (DrawnFL w) := by
  have HI := hide ((hI.below ((Below.refl _ _).alloc (Nat.le_refl _) (.cells #[.int .i64 0, .int .i64 0, .int .i64 0] 25))).more (B' := (w.alloc (.cells #[.int .i64 0, .int .i64 0, .int .i64 0] 25)).heap.size) (by rw [alloc_size]; omega))
  have HBY := hide hby
  have HZ := hide (Zero3.start w)
  clear hI hby
  go_enter Try.func36, Try.ntmps36
  go_wp2_with fail
  refine (from_any A n c code _ HI.out hn HBY.out).mono ?_
  rintro e w1 ⟨rfl, hs, hb⟩
  have HZ1 := hide (HZ.out.below hb)
  have HB1 := hide (((Below.refl w.heap.size w).alloc (Nat.le_refl _) _).trans (hb.mono (by rw [alloc_size]; omega)))
  have hg1 : (w.alloc (.cells #[.int .i64 0, .int .i64 0, .int .i64 0] 25)).heap.size = w.heap.size + 1 := alloc_size _ _
  generalize (w.alloc (.cells #[.int .i64 0, .int .i64 0, .int .i64 0] 25)).heap.size = g at hs hg1 ⊢
  have hgN : w.heap.size < g := by omega
  have HS1 := hide hs
  clear hs hb hg1
  go_wp2_with fail
  refine (drawAny g _ A n c code _ HS1.out).mono ?_
  rintro e w2 ⟨p, k, γ, rfl, hs, hg⟩
  have HD2 := hide (show Dst w g _ A n c code w2.heap.size p k γ (w2.alloc (.cells #[.int .i64 p, .int .i64 k, .int .i64 γ] 25)) from
    ⟨hs.still (World.grownBy_alloc w2 _ none) (by simp), (HZ1.out.grown hg (by omega)).alloc _, heap_alloc_new w2 _, (below_grown HB1.out hg (by omega)).alloc (Nat.le_of_lt (HZ1.out.grown hg (by omega)).lt) _, hgN, hs.lt⟩)
  have hg2 : g < w2.heap.size := hs.lt
  clear hs hg HZ1 HB1 HS1 HZ HI
  go_wp2_with fail
  generalize w2.alloc (.cells #[.int .i64 p, .int .i64 k, .int .i64 γ] 25) = ws at HD2 ⊢
  generalize w2.heap.size = N at hg2 HD2 ⊢
  obtain ⟨d0, d1, d2⟩ := cells3 HD2.out.2.2.1
  rcases hf : fieldB p k γ with _ | _
  · have HB := hide hf
    clear hf
    refine (specIsField p k γ _).mono ?_
    rw [HB.out]
    rintro e w3 ⟨rfl, hb⟩
    have HD3 := hide (HD2.out.next hb)
    clear hb d0 d1 d2
    obtain ⟨d0, d1, d2⟩ := cells3 HD3.out.2.2.1
    go_wp2_with fail
    go_region_with (go_at_call 65; refine (drawPoly p k γ 5 g _ A n c code _ HD3.out.drew.1 (by omega) (by omega)).mono ?_; rintro e w9 ⟨z9, A9, c9, rfl, hl9, ho, hs, hg⟩; have HD9 := hide (HD3.out.drew.src hs hg); have HO9 := hide (ho.low (base' := N) (Nat.le_of_lt HD3.out.lt)); obtain ⟨c0', c1', c2'⟩ := HD9.out.2.1.cells; obtain ⟨f0', f1', f2'⟩ := HD9.out.2.1.frozen; obtain ⟨d0', d1', d2'⟩ := cells3 HD9.out.2.2.1; clear ho hs hg)
    all_goals
      go_wp2_with fail
      refine bodyPost_ret (v := .tuple #[.agg #[.int .i64 p, .int .i64 k, .int .i64 γ], .slice A9 z9.length c9]) (by simp [results, Try.results36, go_sem, c0', c1', c2']) rfl ?_
      exact fl_mk HD9.out HO9.out (Nat.le_refl _) (by omega) _ _ _
  · obtain ⟨R, hR⟩ := fld_ex hf
    have hq := hR.le
    have hq3 := R.three
    have HB := hide hf
    clear hf
    refine (specIsField p k γ _).mono ?_
    rw [HB.out]
    rintro e w3 ⟨rfl, hb⟩
    have HD3 := hide (HD2.out.next hb)
    clear hb d0 d1 d2
    obtain ⟨d0, d1, d2⟩ := cells3 HD3.out.2.2.1
    go_wp2_with fail
    refine (next_any g _ A n c code 4 _ HD3.out.1 (by omega)).mono ?_
    rintro e w4 ⟨y, rfl, hy0, hy1, hs, hg⟩
    have HD4 := hide (HD3.out.src hs hg)
    clear hs hg d0 d1 d2
    obtain ⟨d0, d1, d2⟩ := cells3 HD4.out.2.2.1
    by_cases hy : y = 0
    · subst hy
      go_wp2_with fail
      go_region_with (go_at_call 65; refine (drawPoly p k γ 5 g _ A n c code _ HD4.out.drew.1 (by omega) (by omega)).mono ?_; rintro e w9 ⟨z9, A9, c9, rfl, hl9, ho, hs, hg⟩; have HD9 := hide (HD4.out.drew.src hs hg); have HO9 := hide (ho.low (base' := N) (Nat.le_of_lt HD4.out.lt)); obtain ⟨c0', c1', c2'⟩ := HD9.out.2.1.cells; obtain ⟨f0', f1', f2'⟩ := HD9.out.2.1.frozen; obtain ⟨d0', d1', d2'⟩ := cells3 HD9.out.2.2.1; clear ho hs hg)
      all_goals
        go_wp2_with fail
        refine bodyPost_ret (v := .tuple #[.agg #[.int .i64 p, .int .i64 k, .int .i64 γ], .slice A9 z9.length c9]) (by simp [results, Try.results36, go_sem, c0', c1', c2']) rfl ?_
        exact fl_mk HD9.out HO9.out (Nat.le_refl _) (by omega) _ _ _
    · have e0 : (y == 0) = false := by simpa using hy
      clear hy hy0 hy1
      have HD5 := hide (HD4.out.next ((Below.refl _ _).alloc (Nat.le_refl _) (.cells #[.int .i64 1] 2)))
      have HO5 := hide ((Own.lit1 w4 2 .i64 1).low (base' := N) (Nat.le_of_lt HD4.out.lt))
      go_wp2_with fail
      refine (next_any g _ A n c code 5 _ HD5.out.1 (by omega)).mono ?_
      rintro e w6 ⟨y2, rfl, hy2, hy3, hs, hg⟩
      obtain ⟨y2, rfl⟩ : ∃ m : Nat, y2 = m := ⟨y2.toNat, by omega⟩
      have HD6 := hide (HD5.out.src hs hg)
      have HO6 := hide (HO5.out.src hg hg2)
      clear hs hg d0 d1 d2 HD2 HD3 HD4 HD5 HO5
      go_wp2_with fail
      go_loopw [6, 7] (fun v i wr => RdRel (R := R) w g g A n c code N p k γ v i wr) (fun _ i _ => (intOf i).toNat)
      case atStart => exact ⟨y2, [1], by simp; omega, rfl, HO6.out, HD6.out⟩
      case round =>
        clear HD6 HO6 hy2 hy3 e0
        obtain ⟨v, rfl⟩ : ∃ v : Value, v = u6 := ⟨_, rfl⟩
        obtain ⟨j, ps, hj, rfl, HO, HD⟩ := hrel
        have HD := hide HD
        have HO := hide HO
        obtain ⟨Av, cv, rfl, hcv⟩ := HO.out.form
        rw [iv_len] at hcv HO ⊢
        obtain ⟨ln, hln⟩ : ∃ ln, ln = ps.length := ⟨_, rfl⟩
        rw [← hln] at hcv HO hj ⊢
        have HLN := hide hln
        clear hln
        by_cases hlt : 0 < j
        · obtain ⟨i, hi⟩ : ∃ i, j = i + 1 := ⟨j - 1, by omega⟩
          have hw1 : (j : Int) - 1 = (i : Int) := by omega
          have HII := hide hi
          clear hi
          go_wp2_with fail
          go_region_held3 (fun w' => w'.cell? ⟨N, 0, none⟩ = some (.int .i64 p) ∧ w'.cell? ⟨N, 1, none⟩ = some (.int .i64 k) ∧ w'.cell? ⟨N, 2, none⟩ = some (.int .i64 γ))
            (first
              | exact ⟨(cells3 HD.out.drew.2.2.1).1, (cells3 HD.out.drew.2.2.1).2.1, (cells3 HD.out.drew.2.2.1).2.2⟩
              | exact ⟨(cells3 HDa.out.2.2.1).1, (cells3 HDa.out.2.2.1).2.1, (cells3 HDa.out.2.2.1).2.2⟩
              | exact ⟨(cells3 HDb.out.2.2.1).1, (cells3 HDb.out.2.2.1).2.1, (cells3 HDb.out.2.2.1).2.2⟩
              | exact ⟨(cells3 HDc.out.2.2.1).1, (cells3 HDc.out.2.2.1).2.1, (cells3 HDc.out.2.2.1).2.2⟩
              | exact ⟨(cells3 HDd.out.2.2.1).1, (cells3 HDd.out.2.2.1).2.1, (cells3 HDd.out.2.2.1).2.2⟩)
            (first
              | (go_at_call 63; refine (specSize hR.kind _).mono ?_; rintro e wa ⟨rfl, hb⟩; have HDa := hide (HD.out.drew.next hb); have HOa := hide (HO.out.drew.below hb (Nat.le_refl _)); clear hb)
              | (go_at_call 66; refine (next_any g _ A n c code (R.q : Int) _ HDa.out.1 (by omega)).mono ?_; rintro e wb ⟨y, rfl, hy0, hy1, hs, hg⟩; obtain ⟨Y, rfl⟩ : ∃ Y : El R, y = (Y.val : Int) := ⟨⟨y.toNat, by omega⟩, by show y = ((y.toNat : Nat) : Int); omega⟩; have HDb := hide (HDa.out.src hs hg); have HOb := hide (HOa.out.src hg hg2); have HDc := hide (HDb.out.next ((Below.refl _ _).alloc (Nat.le_refl _) (.cells #[.int .i64 (Y.val : Int), .int .i64 1] 2))); have HOc := hide (HOb.out.alloc (.cells #[.int .i64 (Y.val : Int), .int .i64 1] 2)); have HIc := hide (HOc.out.intsE); have HTc := hide (ints_two wb 2 .i64 (Y.val : Int) 1); clear hs hg hy0 hy1)
              | (go_at_call 71; refine (specMulE' hR ps [Y, 1] Av (some ⟨wb.heap.size, 0, none⟩) ln cv 2 2 (wb.heap.size + 1) _ (by have := HIc.out; rw [alloc_size] at this; exact this) HTc.out (by rw [alloc_size]; exact Nat.le_refl _) (by omega) (by omega)).mono ?_; rintro e wd ⟨Ad, cd, rfl, hcd, ho, hb⟩; have HDd := hide (HDc.out.next hb); have HOd := hide (ho.low (base' := N) (by have := HDb.out.lt; rw [alloc_size]; omega)); clear ho hb))
          have HLT := hide (show (trim (mulP ps [Y, 1])).length + i ≤ 10 by have h1 := trim_le (mulP ps [Y, 1]); rw [mulP, tab_len] at h1; rw [mulP]; have h2 : plen ps [Y, 1] ≤ ps.length + 1 := by { unfold plen; split <;> simp }; have := HII.out; have := HLN.out; omega)
          go_wp2_with fail
          go_roundw
          case rel => exact ⟨i, trim (mulP ps [Y, 1]), HLT.out, rfl, HOd.out, HDd.out⟩
          case measure => have := HII.out; simp [intOf]; omega
        · have hz : decide (0 < j) = false := by simpa using hlt
          obtain ⟨c0', c1', c2'⟩ := HD.out.2.1.cells
          obtain ⟨f0', f1', f2'⟩ := HD.out.2.1.frozen
          obtain ⟨d0', d1', d2'⟩ := cells3 HD.out.2.2.1
          have HE1 := hide (show (iv ps).length = ln by rw [iv_len, HLN.out])
          clear hlt
          go_wp2_with fail
          refine bodyPost_ret (v := .tuple #[.agg #[.int .i64 p, .int .i64 k, .int .i64 γ], .slice Av (iv ps).length cv]) (by rw [HE1.out]; simp [results, Try.results36, go_sem, c0', c1', c2']) rfl ?_
          exact fl_mk HD.out (by rw [HE1.out]; exact HO.out) (Nat.le_refl _) (by rw [HE1.out]; omega) _ _ _

end Go.Proofs.Ythafkohopkgckaa
