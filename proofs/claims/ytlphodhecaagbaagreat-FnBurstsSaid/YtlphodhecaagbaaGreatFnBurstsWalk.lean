/-
  The walk of the law FnBursts: it returns true, and nothing that was there before is changed.
  Condition: none.
-/
import Derived.Test.YtlphodhecaagbaaGreatJX
import Derived.Test.YtlphodhecaagbaaGreatJU
import Derived.Test.YtlphodhecaagbaaGreatDice2
import Derived.Test.YtlphodhecaagbaaGreatJW
import Derived.Test.YtlphodhecaagbaaGreatJV
import Derived.Test.YtlphodhecaagbaaGreatJH
namespace Go.Proofs.YtlphodhecaagbaaGreat
open Go.RowKit
set_option linter.unusedVariables false
set_option linter.unusedSimpArgs false

section
variable {R : Fld} {D C K : Nat}
theorem datX_cat (X : Nat → List (El R)) : ∀ n, datX D C X n = catL D C X n
  | 0 => rfl
  | n + 1 => by show datX D C X n ++ _ = catL D C X n ++ _; rw [datX_cat X n]
theorem chgX_chg (ws : List (El R)) (X : Nat → List (El R)) : ∀ n, chgX D C K ws X n = chgL D C K ws X n
  | 0 => rfl
  | n + 1 => by show chgX D C K ws X n + _ = chgL D C K ws X n + _; rw [chgX_chg ws X n]
theorem datX_enc {γ : El R} {ds : List (El R)} (hC : 0 < C) (hd : ds.length = D) : datX D C (encB γ D C K ds) C = ds := by
  rw [datX_cat]; exact cat_all hC hd fun k hk => encB_take hk hd
theorem era_none (D C K k : Nat) : era D C K [] k = [] := by unfold era; simp
theorem burst_len (hC : 0 < C) : burst D C K ≤ D + C * K := by
  have h1 : K / 2 ≤ K := Nat.div_le_self _ _
  have h2 : K / 2 * C ≤ K * C := Nat.mul_le_mul_right _ h1
  have h3 : (K / 2 - 1) * C ≤ K * C := Nat.mul_le_mul_right _ (by omega)
  have h4 := Nat.mod_le D C
  have h5 := Nat.mul_comm K C
  unfold burst
  split
  · omega
  · split <;> omega
end
theorem stream_ok {R : Fld} {γ : El R} {p k g : Int} {D K C : Nat} (h : LayIs R γ p k g D K C) (S : List (El R)) (hS : S.length = D + C * K) : lErr p k g D K C (stN D K C) (iv S) = 0 := by
  have hwb := word_shut S
  rw [hS] at hwb
  rw [stN_is h, lErr_is (layB_is h) h.fld.kind, if_pos hwb]
/-- Within a burst of the bound's length. -/
theorem dec_burst {R : Fld} {γ : El R} {p k g : Int} {D K C : Nat} (h : LayIs R γ p k g D K C) (ds S : List (El R)) (hd : ds.length = D) (hS : S.length = D + C * K) (at' : Nat)
    (hs : ∀ i, cf S i ≠ cf (strL D C K (encB γ D C K ds)) i → at' ≤ i ∧ i < at' + burst D C K) :
    ∃ a : Nat, a ≤ burst D C K ∧ E3 15 p k g D K C (iv S) [] (NewIKI (iv ds) a 0) := by
  have h4 := h.tot
  have hX : AllOk γ D C K [] S (encB γ D C K ds) := fun k hk => by
    rw [era_none]; exact burst_ok hk (Nat.le_refl _) (encB_len hk hd) (encB_cw γ ds k) hs
  have hc : chgX D C K S (encB γ D C K ds) C ≤ burst D C K := by rw [chgX_chg]; exact burst_chg h.c1 hs
  have := dsI_val h S hS [] (by rw [iv_len, hS]; omega) (by simp) (stream_ok h S hS) rfl (encB γ D C K ds) hX
  rw [datX_enc h.c1 hd] at this
  exact ⟨_, hc, this⟩
theorem cf_set7 {R : Fld} (ps : List (El R)) (i : Nat) (x : El R) (j : Nat) (h : j ≠ i) : cf (ps.set i x) j = cf ps j := by
  unfold cf; rw [List.getD_eq_getElem?_getD, List.getD_eq_getElem?_getD, List.getElem?_set_ne (Ne.symm h)]
theorem Dice.re {w : World} {g Bc B0 : Nat} {A : Option Addr} {n c : Nat} {code : List Int} (h : Dice w g Bc A n c code) (hI : Ints .u8 w B0 A n code) (hB : B0 ≤ Bc) : Dice w g B0 A n c code :=
  ⟨hI, Nat.le_trans hB h.2.1, h.2.2⟩
theorem Dice.over {w w' : World} {g Bc b : Nat} {A : Option Addr} {n c : Nat} {code : List Int} (h : Dice w g Bc A n c code) (hg : w.grownBy w' (some b)) (hb : Bc ≤ b) (hne : g ≠ b) : Dice w' g Bc A n c code := by
  have hl := h.lt
  obtain ⟨h1, h2, h3, h4, p, sd, h5, h8⟩ := h
  exact ⟨h1.keep fun q o hq => World.cell?_of_block (hg.block q (by omega) (fun e => by injection e with e; omega)), h2, h3, h4, p, sd, h5, by rw [hg.block g hl (fun e => by injection e with e; exact hne e)]; exact h8⟩
def FbRel {R : Fld} (w1 : World) (p k γ D K C : Int) (a0 : Option Addr) (n0 c0 B0 gD : Nat) (z0 : List Int) (gS cS N at' b : Nat) (W : List (El R)) (i : Value) (wr : World) : Prop :=
  ∃ (j : Nat) (S : List (El R)), j ≤ b ∧ i = .int .i64 ((at' + j : Nat) : Int) ∧ Hid (S.length = N) ∧ Hid (∀ i, cf S i ≠ cf W i → at' ≤ i ∧ i < at' + b) ∧
    Own wr w1.heap.size 2 .i64 (.slice (some ⟨gS, 0, none⟩) N cS) (iv S) ∧ Dice wr gD B0 a0 n0 c0 z0 ∧ YBox w1 wr p k γ D K C

set_option maxRecDepth 100000 in
set_option maxHeartbeats 8000000 in
theorem fnBurstsWalk (a0 : Option Addr) (n0 c0 : Nat) (z0 : List Int) (w : World) (h0 : Came .u8 w a0 n0 c0 z0) :
    Calls Tryz.prog 3 #[.slice a0 n0 c0] w fun e w' => e = .returned (.bool true) ∧ Below w.heap.size w w' := by
  obtain ⟨hI, hnc, hcm, hwf⟩ := h0
  have HI := hide hI
  have HBY := hide (show ∀ b ∈ z0, 0 ≤ b ∧ b ≤ 255 from fun b hb => bd_u8 (hwf b hb))
  clear hI hwf
  unfold maxLen at hcm
  by_cases hbig : 4096 < n0
  · go_enter Tryz.func3, Tryz.ntmps3
    go_wp2_with fail
    refine (big_yes a0 n0 c0 w hbig (by omega)).mono ?_
    rintro e w ⟨rfl, rfl⟩
    go_wp2_with fail
    go_ret
    exact ⟨rfl, Below.refl _ _⟩
  have hn0 : n0 ≤ 4096 := by omega
  go_enter Tryz.func3, Tryz.ntmps3
  go_wp2_with fail
  refine (big_no a0 n0 c0 w hn0).mono ?_
  rintro e w ⟨rfl, rfl⟩
  go_wp2_with fail
  refine (drawEncS a0 n0 c0 z0 w HI.out hn0 HBY.out).mono ?_
  rintro e w1 ⟨p, k, γ, D, K, C, z1, A1, c1, rfl, hD0, hD1, hK0, hK1, hC0, hC1, hl1, hn1, hI1, hb⟩
  have HB1 := hide hb
  have HX1 := hide (YBox.start w1 p k γ D K C)
  have hDb : -9223372036854775808 ≤ D ∧ D ≤ 9223372036854775807 := by omega
  have hCb : -9223372036854775808 ≤ C ∧ C ≤ 9223372036854775807 := by omega
  have I1 := hide hI1
  clear hI1 hb
  obtain ⟨b0, b1, b2, b3, b4, b5⟩ := HX1.out.cells
  obtain ⟨r, cd, hr, hS, hM, hC⟩ := es_key p k γ D K C z1 (by omega) hDb hCb
  have HS := hide hS
  have HM := hide hM
  have HC := hide hC
  clear hS hM hC
  have hcc : (cd == cd) = true := by simp
  go_wp2_with fail
  refine (HS.out A1 _ c1 _ _ (I1.out.below HX1.out.2) hn1 HX1.out.2.size).mono ?_
  rintro e w2 ⟨Ag, cg, rfl, hcg, hog, hb⟩
  have HX2 := hide (HX1.out.next hb)
  have HOG := hide hog
  clear hog hb b0 b1 b2 b3 b4 b5
  obtain ⟨b0, b1, b2, b3, b4, b5⟩ := HX2.out.cells
  rcases HC.out with hcd | ⟨hcd, R, γ', d, c, m, ds, hDe, hKe, hCe, hL, hze, hml, hre⟩
  · have e1 : (cd != 0) = true := by simpa using hcd
    clear hcd
    go_wp2_with fail
    refine (HM.out A1 _ c1 _ _ (I1.out.below HX2.out.2) hn1 HX2.out.2.size).mono ?_
    rintro e w3 ⟨Av, cv, rfl, hcv, hov, hb⟩
    have HX3 := hide (HX2.out.next hb)
    clear hov hb hcv b0 b1 b2 b3 b4 b5
    go_wp2_with fail
    go_ret
    exact ⟨rfl, HB1.out.trans (HX3.out.2.mono HB1.out.size)⟩
  · subst hcd hDe hKe hCe hze hre
    have hzl : (iv ds).length = d := by rw [iv_len]; exact hml
    have hsl : (iv (strL d m c (encB γ' d m c ds))).length = d + m * c := str_lenI γ' ds
    rw [hzl] at I1 hn1 hl1 ⊢
    by_cases h120 : 120 < d
    · have e2 : (120 : Int) < (d : Int) := by omega
      go_wp2_with fail
      refine (HM.out A1 _ c1 _ _ (I1.out.below HX2.out.2) (by rw [hzl]; exact hn1) HX2.out.2.size).mono ?_
      rintro e w3 ⟨Av, cv, rfl, hcv, hov, hb⟩
      have HX3 := hide (HX2.out.next hb)
      clear hov hb hcv b0 b1 b2 b3 b4 b5
      go_wp2_with fail
      go_ret
      exact ⟨rfl, HB1.out.trans (HX3.out.2.mono HB1.out.size)⟩
    · have e2 : ¬ (120 : Int) < (d : Int) := by omega
      have h1 := hL.c1; have h2 := hL.c16; have h3 := hL.cd; have h4 := hL.tot; have h5 := hL.k1; have h6 := hL.d1500
      have hbl := burst_len (D := d) (K := c) h1
      have HBI := hide (fun w' => bbI_val hL w')
      have HBS := hide (fun w' => bbS_val hL w')
      have HDEC := hide (fun S (hS : S.length = d + m * c) at' hs => dec_burst hL ds S hml hS at' hs)
      have HFS := hide (show fsize p k γ = R.q by rw [fsize, if_pos (hL.code 0 h1).ok, hL.fld.kind.size])
      have hqb := hL.fld.kind.big
      have hq3 := R.three
      have hpos : 0 < (iv (strL d m c (encB γ' d m c ds))).length := by rw [hsl]; omega
      obtain ⟨gS, cS, hAg, hgS1, hgS2, _⟩ := HOG.out.some_ hpos
      rw [alloc_size] at hgS1
      have HO2 := hide (HOG.out.low (base' := w1.heap.size) (by rw [alloc_size]; omega))
      rw [hsl] at hAg HO2 hcg hr ⊢
      simp only [Value.slice.injEq] at hAg
      obtain ⟨rfl, _, rfl⟩ := hAg
      have HSL := hide (show (strL d m c (encB γ' d m c ds)).length = d + m * c by rw [← iv_len]; exact hsl)
      obtain ⟨W, hW⟩ : ∃ W, strL d m c (encB γ' d m c ds) = W := ⟨_, rfl⟩
      rw [hW] at HO2 HSL HDEC
      obtain ⟨N, hN⟩ : ∃ N, d + m * c = N := ⟨_, rfl⟩
      rw [hN] at HO2 HSL HDEC hcg hr h4 hbl ⊢
      obtain ⟨b, hbu⟩ : ∃ b, burst d m c = b := ⟨_, rfl⟩
      rw [hbu] at HBI HBS HDEC hbl
      obtain ⟨M, hM⟩ : ∃ M, N = M + b := ⟨N - b, by omega⟩
      have HMN := hide hM
      have hbb : (((b : Nat) : Int) != ((b : Nat) : Int)) = false := by simp
      have hbb2 : (b != b) = false := by simp
      have hw1 : IntKind.i64.wrap ((N : Int) - (b : Int)) = (M : Int) := by rw [IntWalk.i64_in _ ⟨by omega, by omega⟩]; omega
      have hw2 : IntKind.i64.wrap ((M : Int) + 1) = (M : Int) + 1 := IntWalk.i64_in _ ⟨by omega, by omega⟩
      have hM15 : M + b ≤ 1500 := by omega
      have HZL := hide hzl
      clear hW hN hbu hM hpos hsl HS HM HC HOG hL hml hzl
      go_wp2_with fail
      refine (HBI.out _).mono ?_
      rintro e w3 ⟨rfl, hb⟩
      have HX3 := hide (HX2.out.next hb)
      have HO3 := hide (HO2.out.below hb (Nat.le_refl _))
      clear hb HO2 b0 b1 b2 b3 b4 b5
      obtain ⟨b0, b1, b2, b3, b4, b5⟩ := HX3.out.cells
      go_wp2_with fail
      refine (HBS.out _).mono ?_
      rintro e w4 ⟨rfl, hb⟩
      have HX4 := hide (HX3.out.next hb)
      have HO4 := hide (HO3.out.below hb (Nat.le_refl _))
      have hgS4 := hb.size
      have HB4 := hide (HB1.out.trans (HX4.out.2.mono HB1.out.size))
      clear hb HO3 b0 b1 b2 b3 b4 b5
      have hgS5 : gS < w4.heap.size := (HO4.out.lt rfl).2
      have hx4 := HX4.out.lt
      go_wp2_with fail
      refine (roll_any a0 n0 c0 z0 701 _ ((HI.out.below HB4.out).more HB4.out.size) hn0 HBY.out).mono ?_
      rintro e w5 ⟨rfl, hd5, hb5⟩
      have HB5 := hide (HB4.out.trans (hb5.mono HB4.out.size))
      have HX5 := hide (HX4.out.next hb5)
      have HO5 := hide (HO4.out.below hb5 (Nat.le_refl _))
      have HD5 := hide (hd5.re (HI.out.below HB5.out) HB4.out.size)
      clear hd5 hb5 HO4
      go_wp2_with fail
      refine (below_any _ _ a0 n0 c0 z0 ((M : Int) + 1) w5 HD5.out (by omega) (by omega)).mono ?_
      rintro e w6 ⟨at', rfl, hat, hd6, hg6⟩
      have HX6 := hide (HX5.out.grow hg6 (fun q hq => by injection hq with hq; omega))
      have HO6 := hide (HO5.out.grown hg6 (.inr fun e => by have e2 : gS = w4.heap.size := Option.some.inj e; omega))
      have HD6 := hide hd6
      clear hd6 hg6 HO5 HD5
      obtain ⟨gD, hgD⟩ : ∃ gD, w4.heap.size = gD := ⟨_, rfl⟩
      rw [hgD] at HD6 hgS5 hx4 ⊢
      have hB0 : w.heap.size ≤ w1.heap.size := HB1.out.size
      have hat2 : at' + b ≤ N := by have := HMN.out; omega
      clear hgD hbb hbb2 hw1 hw2
      go_wp2_with fail
      go_loopw [15] (fun i wr => FbRel w1 p k γ d c m a0 n0 c0 w.heap.size gD z0 gS cg N at' b W i wr) (fun i _ => at' + b - (intOf i).toNat)
      case atStart => exact ⟨0, W, Nat.zero_le _, rfl, HSL.out, (fun i hi => absurd rfl hi), HO6.out, HD6.out, HX6.out⟩
      case round =>
        clear HX6 HO6 HD6 HSL
        obtain ⟨j, S, hj, rfl, hSL, hSC, hO, hD, hX⟩ := hrel
        have HSL := hide hSL.out
        have HSC := hide hSC.out
        have HO := hide hO
        have HD := hide hD
        have HX := hide hX
        clear hSL hSC hO hD hX
        obtain ⟨b0, b1, b2, b3, b4, b5⟩ := HX.out.cells
        have hwb : IntKind.i64.wrap ((at' : Int) + (b : Int)) = ((at' + b : Nat) : Int) := by rw [IntWalk.i64_in _ ⟨by omega, by omega⟩]; omega
        by_cases hlt : j < b
        · have hti : ((at' + j : Nat) : Int) < ((at' + b : Nat) : Int) := by omega
          have hxN : at' + j < N := by omega
          have hxN2 : ((at' + j : Nat) : Int) < (N : Int) := by omega
          obtain ⟨x, hx⟩ : ∃ x, at' + j = x := ⟨_, rfl⟩
          have HXE := hide hx
          rw [hx] at hti hxN hxN2 ⊢
          clear hx
          go_wp2_with fail
          refine (specFieldSize p k γ _).mono ?_
          rw [HFS.out]
          rintro e w7 ⟨rfl, hb7⟩
          have HX7 := hide (HX.out.next hb7)
          have HO7 := hide (HO.out.below hb7 (Nat.le_refl _))
          have HD7 := hide (HD.out.below hb7 HD.out.lt)
          clear hb7 b0 b1 b2 b3 b4 b5
          go_wp2_with fail
          refine (below_any _ _ a0 n0 c0 z0 (R.q : Int) w7 HD7.out (by omega) (by omega)).mono ?_
          rintro e w8 ⟨y, rfl, hy, hd8, hg8⟩
          have HX8 := hide (HX7.out.grow hg8 (fun q hq => by injection hq with hq; omega))
          have HO8 := hide (HO7.out.grown hg8 (.inr fun e => by have e2 : gS = gD := Option.some.inj e; omega))
          obtain ⟨Y, hY⟩ : ∃ Y : El R, Y.val = y := ⟨⟨y, by omega⟩, rfl⟩
          have hfx := HO8.out.frozenAt x
          have hcx := HO8.out.cellAt (iv_at (ps := S) (i := x) (by rw [HSL.out]; exact hxN))
          obtain ⟨u, hu⟩ : ∃ u : Int, ((cf S x).val : Int) = u := ⟨_, rfl⟩
          rw [hu] at hcx
          have hst := HO8.out.stored x ((Y.val : Nat) : Int)
          rw [iv_set, hY] at hst
          have HO9 := hide hst.1
          have HD9 := hide (hd8.over hst.2 (by omega) (by omega))
          have HX9 := hide (HX8.out.set (b := gS) (by omega) x (.int .i64 (y : Nat)))
          have HSL9 := hide (show (S.set x Y).length = N by rw [List.length_set]; exact HSL.out)
          have HSC9 := hide (show ∀ i, cf (S.set x Y) i ≠ cf W i → at' ≤ i ∧ i < at' + b from fun i hi => by
            by_cases hix : i = x
            · have := HXE.out; omega
            · rw [cf_set7 _ _ _ _ hix] at hi; exact HSC.out i hi)
          clear hst hu hY hd8 hg8 hy
          go_wp2_with fail
          go_roundw
          case rel => exact ⟨j + 1, S.set x Y, by omega, by have := HXE.out; go_num, HSL9, HSC9, HO9.out, HD9.out, HX9.out⟩
          case measure => have := HXE.out; simp [intOf]; omega
        · obtain rfl : j = b := by omega
          obtain ⟨a, hab, hdec⟩ := HDEC.out S HSL.out at' HSC.out
          have HDE := hide hdec
          have hab2 : ((a : Nat) : Int) ≤ (j : Int) := by omega
          have HNC := hide (show (iv S).length ≤ cg by rw [iv_len, HSL.out]; exact hcg)
          have HII := hide (Own.ints HO.out)
          rw [iv_len, HSL.out] at HII
          have HN0 : Ints .i64 wr wr.heap.size none 0 [] := ⟨rfl, fun h => absurd h (Nat.lt_irrefl _)⟩
          clear hdec
          go_wp2_with fail
          refine (HDE.out (some ⟨gS, 0, none⟩) N cg none 0 0 wr.heap.size wr HII.out HN0 HNC.out (Nat.zero_le _) (Nat.le_refl _)).mono ?_
          rintro e w9 ⟨Ad, cD, rfl, hcD, hod, hb9⟩
          have HX9 := hide (HX.out.next hb9)
          have HOD := hide (Own.ints hod)
          rw [HZL.out] at HOD
          rw [HZL.out]
          clear hod hb9 b0 b1 b2 b3 b4 b5
          go_wp2_with fail
          refine (likeSame Ad _ cD _ A1 _ c1 _ (iv ds) _ HOD.out (I1.out.below HX9.out.2) (by rw [HZL.out]; omega)).mono ?_
          rintro e' w10 ⟨rfl, hb10⟩
          have HX10 := hide (HX9.out.next hb10)
          clear hb10
          go_wp2_with fail
          go_ret
          exact ⟨rfl, HB1.out.trans (HX10.out.2.mono HB1.out.size)⟩
end Go.Proofs.YtlphodhecaagbaaGreat
