/-
  The walk of the law FnRecurrences: it returns true, and nothing that was there before is changed.
  Condition: none.
-/
import Derived.Test.YtdniocdmncldjaaRDraw2
import Derived.Test.YtdniocdmncldjaaCLaw
namespace Go.Proofs.Ytdniocdmncldjaa
open Go.RowKit
set_option linter.unusedVariables false
set_option linter.unusedSimpArgs false

theorem sat_fits {R : Fld} {C s : List (El R)} {L : Nat} (h : Fits (cf s) s.length (cf C) L) (hl : C.length ≤ L + 1) : satB C s L = true := satB_all hl h.sums
/-- What the functions of the law return. -/
theorem rec_key (p k g : Int) (z : List Int) (x : Int) (hz : z.length ≤ 1048576) :
    (∃ (r : List Int) (cd : Int), r.length ≤ 1048576 ∧ (cd != 0) = true ∧ C1i 13 p k g z x (NewIK r cd) ∧ C1i 12 p k g z x (NewIR r cd)) ∨
    (∃ (N Cz : List Int) (L : Int), z.length ≤ 64 ∧ N.length ≤ 64 ∧ (N.length : Int) = x ∧ Cz.length ≤ 66 ∧ C1i 13 p k g z x (NewIK N 0) ∧ C1i 12 p k g z x (NewIR N 0) ∧
      C1 15 p k g z (NewIK Cz 0) ∧ C1 16 p k g z (GivesII L 0) ∧ C2i 17 p k g z Cz L (Gives (.bool true)) ∧
      (z.length + N.length ≤ 64 → C1 16 p k g (z ++ N) (GivesII L 0) ∧ C2i 17 p k g (z ++ N) Cz L (Gives (.bool true)))) := by
  rcases sqErr_cases p k g z with ⟨cd, h, hne, _⟩ | ⟨h, hf, R, s, hR, rfl, hs⟩
  · exact .inl ⟨[], cd, by simp, hne, ct_badS z x hz h hne, ct_badI z x hz h hne⟩
  · by_cases hx : 0 ≤ x ∧ x ≤ 64
    · obtain ⟨M, rfl⟩ : ∃ M : Nat, x = M := ⟨x.toNat, by omega⟩
      have hM : M ≤ 64 := by omega
      by_cases hL : s.length < 2 * (bm (cf s) s.length).L
      · exact .inl ⟨[], 5, by simp, rfl, ct_noS hR s hs h M hM hL, ct_noI hR s hs h M hM hL⟩
      · right
        have hrc := rc_valI hR s hs h
        rw [(recL_yes hL).1, recK_yes hL] at hrc
        have b1 := bm_len (cf s) s.length
        have b2 := bm_le (cf s) s.length
        have hft := bm_fit (cf s) s.length
        have htr := bm_tr (cf s) s.length
        have hlen : ((contL (bm (cf s) s.length).C s M).drop s.length).length = M := by rw [List.length_drop, cont_len]; omega
        have hsat := is_valI hR s hs h (bm (cf s) s.length).C htr (by omega) hft.one (bm (cf s) s.length).L (by omega)
        rw [sat_fits hft b1] at hsat
        refine ⟨iv ((contL (bm (cf s) s.length).C s M).drop s.length), iv (bm (cf s) s.length).C, ((bm (cf s) s.length).L : Nat), by rw [iv_len]; exact hs, by rw [iv_len, hlen]; exact hM, by rw [iv_len, hlen], by rw [iv_len]; omega,
          ct_valS hR s hs h M hM hL, ct_valI hR s hs h M hM hL, hrc, sl_valI hR s hs h, hsat, fun hle => ?_⟩
        rw [iv_len, iv_len, hlen] at hle
        have hall : iv s ++ iv ((contL (bm (cf s) s.length).C s M).drop s.length) = iv (contL (bm (cf s) s.length).C s M) := by
          rw [show iv s ++ iv ((contL (bm (cf s) s.length).C s M).drop s.length) = iv (s ++ (contL (bm (cf s) s.length).C s M).drop s.length) from List.map_append.symm]
          congr 1
          conv => rhs; rw [← List.take_append_drop s.length (contL (bm (cf s) s.length).C s M), cont_take]
        rw [hall]
        obtain ⟨k1, k2⟩ := cont_bm (s := s) M
        have hal : (contL (bm (cf s) s.length).C s M).length = s.length + M := cont_len _ _ _
        have hE := sqErr_ok (s := contL (bm (cf s) s.length).C s M) hR hf (by omega)
        have h1 := sl_valI hR _ (by omega) hE
        rw [hal, k2] at h1
        have hft2 := bm_fit (cf (contL (bm (cf s) s.length).C s M)) (s.length + M)
        rw [k1, k2, ← hal] at hft2
        have h2 := is_valI hR _ (by omega) hE (bm (cf s) s.length).C htr (by omega) hft.one (bm (cf s) s.length).L (by omega)
        rw [sat_fits hft2 b1] at h2
        exact ⟨h1, h2⟩
    · exact .inl ⟨[], 2, by simp, rfl, ct_rngS _ x hz h (by omega), ct_rngI _ x hz h (by omega)⟩

set_option maxRecDepth 100000 in
set_option maxHeartbeats 8000000 in
theorem fnRecurrencesWalk (a0 : Option Addr) (n0 c0 : Nat) (z0 : List Int) (w : World) (h0 : Came .u8 w a0 n0 c0 z0) :
    Calls Try.prog 3 #[.slice a0 n0 c0] w fun e w' => e = .returned (.bool true) ∧ Below w.heap.size w w' := by
  obtain ⟨hI, hnc, hcm, hwf⟩ := h0
  have HI := hide hI
  have HBY := hide (show ∀ b ∈ z0, 0 ≤ b ∧ b ≤ 255 from fun b hb => bd_u8 (hwf b hb))
  clear hI hwf
  unfold maxLen at hcm
  by_cases hbig : 4096 < n0
  · go_enter Try.func3, Try.ntmps3
    go_wp2_with fail
    refine (big_yes a0 n0 c0 w hbig (by omega)).mono ?_
    rintro e w ⟨rfl, rfl⟩
    go_wp2_with fail
    go_ret
    exact ⟨rfl, Below.refl _ _⟩
  have hn0 : n0 ≤ 4096 := by omega
  go_enter Try.func3, Try.ntmps3
  go_wp2_with fail
  refine (big_no a0 n0 c0 w hn0).mono ?_
  rintro e w ⟨rfl, rfl⟩
  go_wp2_with fail
  refine (drawCont a0 n0 c0 z0 w HI hn0 HBY).mono ?_
  rintro e w1 ⟨p, k, γ, x, zs, A1, c1, rfl, hl1, hx0, hx1, hI1, hb⟩
  have HB1 := hide hb
  have HX1 := hide (Box.start w1 25 p k γ)
  have I1 := hide ((hI1.below HX1.out.2).more HX1.out.2.size)
  obtain ⟨n1, hn1⟩ : ∃ n1, zs.length = n1 := ⟨_, rfl⟩
  have HN1 := hide hn1
  have hzl : zs.length ≤ 1048576 := by omega
  rw [hn1] at I1 hl1 ⊢
  clear hI1 hb HI hn1
  obtain ⟨b0, b1, b2⟩ := HX1.out.cells
  rcases rec_key p k γ zs x hzl with ⟨r, cd, hr, hne, hS, hM⟩ | ⟨N, Cz, L, hz64, hN64, hNx, hCz, hS, hM, hRC, hSL, hIS, hAll⟩
  · have HS := hide hS
    have HM := hide hM
    have hcc : (cd != cd) = false := by simp
    obtain ⟨nr, hnr⟩ : ∃ nr, r.length = nr := ⟨_, rfl⟩
    have HNR := hide hnr
    rw [hnr] at hr
    clear hS hM hnr hzl
    go_wp2_with fail
    refine (HM.out A1 n1 c1 _ _ I1.out (Nat.le_refl _)).mono ?_
    rintro e w2 ⟨A2, m2, rfl, hm2, ho2, hb⟩
    rw [HNR.out] at ho2 ⊢
    have HX2 := hide (HX1.out.next hb)
    have I2 := hide ((I1.out.below hb).more hb.size)
    have J2 := hide (ho2.ints' HNR.out)
    clear ho2 hb hm2 b0 b1 b2
    obtain ⟨b0, b1, b2⟩ := HX2.out.cells
    go_wp2_with fail
    refine (HS.out A1 n1 c1 _ _ I2.out (Nat.le_refl _)).mono ?_
    rintro e w3 ⟨A3, m3, rfl, hm3, ho3, hb⟩
    rw [HNR.out] at ho3 ⊢
    have HX3 := hide (HX2.out.next hb)
    have J3 := hide ((J2.out.below hb).more hb.size)
    have K3 := hide (ho3.ints' HNR.out)
    clear ho3 hb hm3 b0 b1 b2
    go_wp2_with fail
    refine (likeSame A2 nr m2 _ A3 nr m3 _ r _ J3.out K3.out (by rw [HNR.out]; omega)).mono ?_
    rintro e w4 ⟨rfl, hb⟩
    have HX4 := hide (HX3.out.next hb)
    clear hb
    go_wp2_with fail
    go_ret
    exact ⟨rfl, HB1.out.trans (HX4.out.2.mono HB1.out.size)⟩
  · have HS := hide hS
    have HM := hide hM
    have HRC := hide hRC
    have HSL := hide hSL
    have HIS := hide hIS
    have HAL := hide hAll
    obtain ⟨nN, hnN⟩ : ∃ nN, N.length = nN := ⟨_, rfl⟩
    obtain ⟨nC, hnC⟩ : ∃ nC, Cz.length = nC := ⟨_, rfl⟩
    have HNN := hide hnN
    have HNC := hide hnC
    rw [hnN] at hN64 hNx
    rw [hnC] at hCz
    subst hNx
    have HEX := hide HX1.out
    clear hS hM hRC hSL hIS hAll hnN hnC hzl HEX
    have hn64 : n1 ≤ 64 := by rw [← HN1.out]; exact hz64
    clear hz64
    go_wp2_with fail
    refine (HM.out A1 n1 c1 _ _ I1.out (Nat.le_refl _)).mono ?_
    rintro e w2 ⟨A2, m2, rfl, hm2, ho2, hb⟩
    rw [HNN.out] at ho2 ⊢
    have HX2 := hide (HX1.out.next hb)
    have I2 := hide ((I1.out.below hb).more hb.size)
    have J2 := hide (ho2.ints' HNN.out)
    clear ho2 hb hm2 b0 b1 b2
    obtain ⟨b0, b1, b2⟩ := HX2.out.cells
    go_wp2_with fail
    refine (HS.out A1 n1 c1 _ _ I2.out (Nat.le_refl _)).mono ?_
    rintro e w3 ⟨A3, m3, rfl, hm3, ho3, hb⟩
    rw [HNN.out] at ho3 ⊢
    have HX3 := hide (HX2.out.next hb)
    have I3 := hide ((I2.out.below hb).more hb.size)
    have J3 := hide ((J2.out.below hb).more hb.size)
    have K3 := hide (ho3.ints' HNN.out)
    clear ho3 hb hm3 b0 b1 b2
    go_wp2_with fail
    refine (likeSame A2 nN m2 _ A3 nN m3 _ N _ J3.out K3.out (by rw [HNN.out]; omega)).mono ?_
    rintro e w4 ⟨rfl, hb⟩
    have HX4 := hide (HX3.out.next hb)
    have I4 := hide ((I3.out.below hb).more hb.size)
    have J4 := hide ((J3.out.below hb).more hb.size)
    clear hb
    obtain ⟨b0, b1, b2⟩ := HX4.out.cells
    go_wp2_with fail
    refine (HRC.out A1 n1 c1 _ _ I4.out (Nat.le_refl _)).mono ?_
    rintro e w5 ⟨A5, m5, rfl, hm5, ho5, hb⟩
    rw [HNC.out] at ho5 ⊢
    have HX5 := hide (HX4.out.next hb)
    have I5 := hide ((I4.out.below hb).more hb.size)
    have J5 := hide ((J4.out.below hb).more hb.size)
    have C5 := hide (ho5.ints' HNC.out)
    clear ho5 hb hm5 b0 b1 b2
    obtain ⟨b0, b1, b2⟩ := HX5.out.cells
    go_wp2_with fail
    refine (HSL.out A1 n1 c1 _ _ I5.out (Nat.le_refl _)).mono ?_
    rintro e w6 ⟨rfl, hb⟩
    have HX6 := hide (HX5.out.next hb)
    have I6 := hide ((I5.out.below hb).more hb.size)
    have J6 := hide ((J5.out.below hb).more hb.size)
    have C6 := hide ((C5.out.below hb).more hb.size)
    clear hb b0 b1 b2
    obtain ⟨B0, hB0⟩ : ∃ B0, w6.heap.size = B0 := ⟨_, rfl⟩
    have HO7 := hide (Own.lit0 w6 2 .i64)
    have I7 := hide (I6.out.below ((Below.refl w6.heap.size w6).alloc (Nat.le_refl _) (.cells #[] 2)))
    have J7 := hide (J6.out.below ((Below.refl w6.heap.size w6).alloc (Nat.le_refl _) (.cells #[] 2)))
    have C7 := hide (C6.out.below ((Below.refl w6.heap.size w6).alloc (Nat.le_refl _) (.cells #[] 2)))
    have HX7 := hide (HX6.out.alloc (.cells #[] 2))
    have hs7 : B0 ≤ (w6.alloc (.cells #[] 2)).heap.size := by rw [alloc_size, hB0]; exact Nat.le_succ _
    have hxB : w1.heap.size < B0 := by rw [← hB0]; exact HX6.out.lt
    rw [hB0] at HO7 I7 J7 C7
    have hl8 : (([] : List Int).length + n1) * 8 ≤ 140737488355328 := by simp; omega
    have hl9 : (zs.length + nN) * 8 ≤ 140737488355328 := by rw [HN1.out]; omega
    have hnx : ((nN : Int) != (nN : Int)) = false := by simp
    have HBZ := hide hB0
    clear hB0 HX1 HX2 HX3 HX4 HX5 I1 I2 I3 I4 I5 J2 J3 J4 J5 K3 C5
    go_wp2_with (first
      | (at_builtin; refine wpList_appL _ rfl _ _ _ rfl elem64 B0 _ [] (by rw [← HBZ.out]; rfl) HO7.out _ A1 n1 c1 zs rfl I7.out hl8 hs7 ?_; intro v8 w8 hown hgrow; have HO8 := hide (show Own w8 B0 2 .i64 v8 zs by simpa using hown); have HX8 := hide (HX7.out.grow' hgrow (fun r hr => Nat.lt_of_lt_of_le hxB (HO7.out.lt hr).1)); have I8 := hide (ints_kept I7.out hgrow (fun r hr => (HO7.out.lt hr).1) hs7); have J8 := hide (ints_kept J7.out hgrow (fun r hr => (HO7.out.lt hr).1) hs7); have C8 := hide (ints_kept C7.out hgrow (fun r hr => (HO7.out.lt hr).1) hs7); have hs8 : B0 ≤ w8.heap.size := Nat.le_trans hs7 hgrow.size; clear hown hgrow)
      | (at_builtin; refine wpList_appL w8 rfl _ _ _ rfl elem64 B0 v8 zs rfl HO8.out _ A2 nN m2 N rfl J8.out hl9 hs8 ?_; intro v9 w9 hown hgrow; have HO9 := hide hown; have HX9 := hide (HX8.out.grow' hgrow (fun r hr => Nat.lt_of_lt_of_le hxB (HO8.out.lt hr).1)); have I9 := hide (ints_kept I8.out hgrow (fun r hr => (HO8.out.lt hr).1) hs8); have C9 := hide (ints_kept C8.out hgrow (fun r hr => (HO8.out.lt hr).1) hs8); have hs9 : B0 ≤ w9.heap.size := Nat.le_trans hs8 hgrow.size; obtain ⟨b0, b1, b2⟩ := HX9.out.cells; clear hown hgrow))
    refine (HIS.out A1 n1 c1 A5 nC m5 _ _ I9.out C9.out hs9).mono ?_
    rintro e w10 ⟨rfl, hb⟩
    have HXa := hide (HX9.out.next hb)
    have HOa := hide (HO9.out.below hb (Nat.le_refl _))
    have Ca := hide ((C9.out.more hs9).below hb |>.more hb.size)
    clear hb b0 b1 b2 HX6 I6 J6 C6 HO7 I7 J7 C7 HX7 HO8 HX8 I8 J8 C8 HO9 HX9 I9 C9
    obtain ⟨A9, m9, rfl, hm9⟩ := HOa.out.form
    obtain ⟨nA, hnA⟩ : ∃ nA, (zs ++ N).length = nA := ⟨_, rfl⟩
    have HNA := hide hnA
    have hnAe : nA = n1 + nN := by rw [← hnA, List.length_append, HN1.out, HNN.out]
    have hAll2 : nA ≤ 64 → C1 16 p k γ (zs ++ N) (GivesII L 0) ∧ C2i 17 p k γ (zs ++ N) Cz L (Gives (.bool true)) := fun h => HAL.out (by rw [HN1.out, HNN.out]; omega)
    have HA2 := hide hAll2
    have hIa := HOa.out.ints
    rw [hnA] at hm9 hIa ⊢
    have Ia := hide hIa
    have hnAb : nA ≤ 128 := by omega
    obtain ⟨b0, b1, b2⟩ := HXa.out.cells
    clear hnA hnAe hAll2 HOa hIa
    by_cases h64 : nA ≤ 64
    · have z1 : decide ((64 : Int) < (nA : Int)) = false := by rw [decide_eq_false_iff_not]; omega
      have HSA := hide (HA2.out h64).1
      have HIA := hide (HA2.out h64).2
      have hLL : (L == L) = true := by simp
      go_wp2_with fail
      refine (HSA.out A9 nA m9 _ _ Ia.out (Nat.le_refl _)).mono ?_
      rintro e w11 ⟨rfl, hb⟩
      have HXb := hide (HXa.out.next hb)
      have Ib := hide ((Ia.out.below hb).more hb.size)
      have Cb := hide ((Ca.out.below hb).more hb.size)
      clear hb b0 b1 b2
      obtain ⟨b0, b1, b2⟩ := HXb.out.cells
      go_wp2_with fail
      refine (HIA.out A9 nA m9 A5 nC m5 _ _ Ib.out Cb.out (Nat.le_refl _)).mono ?_
      rintro e w12 ⟨rfl, hb⟩
      have HXc := hide (HXb.out.next hb)
      clear hb b0 b1 b2
      go_wp2_with fail
      go_ret
      exact ⟨rfl, HB1.out.trans (HXc.out.2.mono HB1.out.size)⟩
    · have z1 : decide ((64 : Int) < (nA : Int)) = true := by rw [decide_eq_true_eq]; omega
      go_wp2_with fail
      go_ret
      exact ⟨rfl, HB1.out.trans (HXa.out.2.mono HB1.out.size)⟩
end Go.Proofs.Ytdniocdmncldjaa
