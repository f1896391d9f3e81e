/-
  The words of a stream, of whatever numbers, as the model takes them.
  Condition: the layout is valid.
-/
import Derived.Test.YtlphodhecaagbaaGreatLay6
import Derived.Test.YtlphodhecaagbaaGreatLay7
import Derived.Test.YtlphodhecaagbaaGreatLay9
import Derived.Test.YtlphodhecaagbaaGreatMat2
namespace Go.Proofs.YtlphodhecaagbaaGreat
open Go.RowKit
set_option linter.unusedSimpArgs false
set_option linter.unusedVariables false

/-- The rows of zeros. -/
def zerZ (D C K k : Nat) : List Int := List.replicate (lsz D C k + K) 0
/-- The words when the first i elements of the stream are laid. -/
def fillZ (D C K : Nat) (zs : List Int) (i k : Nat) : List Int := (List.range (lsz D C k + K)).map fun e => if sidx D C k e < i then zs.getD (sidx D C k e) 0 else 0
theorem fillZ_len (D C K : Nat) (zs : List Int) (i k : Nat) : (fillZ D C K zs i k).length = lsz D C k + K := by unfold fillZ; rw [List.length_map, List.length_range]
theorem fillZ_zero (D C K : Nat) (zs : List Int) (k : Nat) : fillZ D C K zs 0 k = zerZ D C K k := by
  unfold fillZ zerZ
  apply List.ext_getElem?
  intro j
  by_cases hj : j < lsz D C k + K
  · simp [hj]
  · rw [List.getElem?_eq_none (by simp; omega), List.getElem?_eq_none (by simp; omega)]
theorem fillZ_all {D C K k : Nat} (hk : k < C) (zs : List Int) : fillZ D C K zs (D + C * K) k = wrdZ D C K zs k := by
  unfold fillZ wrdZ
  exact List.map_congr_left fun e he => by rw [if_pos ((sidx_lt hk).2 (List.mem_range.1 he))]
theorem fillZ_step {D C K i : Nat} (hC : 0 < C) (hi : i < D + C * K) (zs : List Int) (k : Nat) (hk : k < C) :
    fillZ D C K zs (i + 1) k = if k = (pairOf D C i).1 then (fillZ D C K zs i k).set (pairOf D C i).2 (zs.getD i 0) else fillZ D C K zs i k := by
  have hp := sidx_pair (D := D) hC i
  by_cases hk2 : k = (pairOf D C i).1
  · rw [if_pos hk2]
    apply List.ext_getElem?
    intro e
    by_cases he : e < lsz D C k + K
    · by_cases hee : e = (pairOf D C i).2
      · subst hee
        rw [List.getElem?_set_self (by rw [fillZ_len]; exact he)]
        unfold fillZ
        rw [List.getElem?_map, List.getElem?_range he]
        rw [← hk2] at hp
        simp [hp]
      · rw [List.getElem?_set_ne (Ne.symm hee)]
        unfold fillZ
        rw [List.getElem?_map, List.getElem?_map, List.getElem?_range he]
        have hne : sidx D C k e ≠ i := fun h => by
          rw [← h, pair_sidx hk] at hee
          exact hee rfl
        have : (sidx D C k e < i + 1) = (sidx D C k e < i) := by apply propext; omega
        simp [this]
    · rw [List.getElem?_eq_none (by rw [fillZ_len]; omega), List.getElem?_eq_none (by rw [List.length_set, fillZ_len]; omega)]
  · rw [if_neg hk2]
    unfold fillZ
    refine List.map_congr_left fun e he => ?_
    have hne : sidx D C k e ≠ i := fun h => hk2 (by rw [← h, pair_sidx hk])
    have : (sidx D C k e < i + 1) = (sidx D C k e < i) := by apply propext; omega
    simp [this]

/-- Two slices of slices that share no block. -/
def Apart (v : Value) (vs : List Value) (vo : Value) (os : List Value) : Prop :=
  ∀ g, (v.ownBlock = some g ∨ ∃ (k : Nat) (u : Value), vs[k]? = some u ∧ u.ownBlock = some g) → vo.ownBlock ≠ some g ∧ ∀ (k : Nat) (u : Value), os[k]? = some u → u.ownBlock ≠ some g
def W1Rel (w : World) (p k g : Int) (D K C : Nat) (v i : Value) (wr : World) : Prop :=
  ∃ (b : Nat) (vs : List Value), b ≤ C ∧ i = .int .i64 b ∧ Mat wr (w.heap.size + 1) v b vs (zerZ D C K) ∧ YBox w wr p k g D K C
def W2Rel (w : World) (p k g : Int) (D K C N : Nat) (v : Value) (vo : Value) (zs : List Int) (i : Value) (wr : World) : Prop :=
  ∃ (j : Nat) (vs os : List Value), j ≤ N ∧ i = .int .i64 j ∧ Mat wr (w.heap.size + 1) v C vs (fillZ D C K zs j) ∧ Mat wr (w.heap.size + 1) vo N os (ordZ D C) ∧ Apart v vs vo os ∧ Below w.heap.size w wr

set_option maxRecDepth 100000 in
set_option maxHeartbeats 4000000 in
theorem specWords {R : Fld} {γ : El R} {p k g : Int} {D K C : Nat} (h : LayIs R γ p k g D K C) (A : Option Addr) (n c B : Nat) (zs : List Int) (w : World) (hI : Ints .i64 w B A n zs) (hB : B ≤ w.heap.size) (hn : n = D + C * K) :
    Calls Tryz.prog 76 #[.agg #[.int .i64 p, .int .i64 k, .int .i64 g, .int .i64 D, .int .i64 K, .int .i64 C], .slice A n c] w (NewSS C (wrdZ D C K zs) w) := by
  have h1 := h.c1; have h2 := h.c16; have h3 := h.cd; have h4 := h.tot; have h5 := h.k1; have h6 := h.d1500
  have HX := hide (YBox.start w p k g D K C)
  obtain ⟨c0, c1, c2, c3, c4, c5⟩ := HX.out.cells
  have HI := hide hI
  have HN := hide hn
  clear h hI hn
  go_enter Tryz.func76, Tryz.ntmps76
  go_wp2_with fail
  have HX1 := hide (HX.out.alloc (.cells #[] 28))
  have HO1 := hide (show Mat ((w.alloc (.cells #[.int .i64 p, .int .i64 k, .int .i64 g, .int .i64 D, .int .i64 K, .int .i64 C] 27)).alloc (.cells #[] 28)) (w.heap.size + 1) (.slice (some ⟨w.heap.size + 1, 0, none⟩) 0 0) 0 [] (zerZ D C K) from by
    have h := World.ownsRow_lit (base := w.heap.size + 1) (size := 1) (e := 28) (w.alloc (.cells #[.int .i64 p, .int .i64 k, .int .i64 g, .int .i64 D, .int .i64 K, .int .i64 C] 27)) #[] 0 (by rw [alloc_size]; omega) (by decide) rfl
    rw [alloc_size] at h
    exact ⟨h, Rowz.nil _ _ _, fun k u hu => by simp at hu⟩)
  clear HX c0 c1 c2 c3 c4 c5
  go_loopw [5, 6] (fun v i wr => W1Rel w p k g D K C v i wr) (fun _ i _ => C - (intOf i).toNat)
  case atStart => exact ⟨0, [], Nat.zero_le _, rfl, HO1.out, HX1.out⟩
  case round =>
    clear HX1 HO1
    obtain ⟨b, vs, hb, rfl, HM, HX⟩ := hrel
    have HM := hide HM
    have HX := hide HX
    obtain ⟨v, hv⟩ : ∃ v, v = u5 := ⟨_, rfl⟩
    subst hv
    obtain ⟨c0, c1, c2, c3, c4, c5⟩ := HX.out.cells
    by_cases hlt : b < C
    · have hls := lsz_le D C b
      have hdd := Nat.div_le_self D C
      have HZ := hide (show zerZ D C K b = List.replicate (lsz D C b + K) 0 from rfl)
      have HCON := hide (fun w' => specSizeZ p k g K D C b (b : Int) rfl h1 (by omega) (by omega) hlt w')
      have hs1 : lsz D C b ≤ 1501 := by omega
      obtain ⟨s, hs⟩ : ∃ s, lsz D C b = s := ⟨_, rfl⟩
      rw [hs] at HZ HCON hs1
      have hw1 : IntKind.i64.wrap ((s : Int) + (K : Int)) = (s : Int) + (K : Int) := IntWalk.i64_in _ ⟨by omega, by omega⟩
      clear hls hdd hs
      go_wp2_with fail
      refine tail_begin (fun w' => Cells6 w' w.heap.size p k g D K C) 11 (by kernel_rfl) ⟨c0, c1, c2, c3, c4, c5⟩ (fun hS' => ?_)
      clear c0 c1 c2 c3 c4 c5
      refine tail_take2 0 rfl (by kernel_rfl) (by kernel_rfl) (by kernel_rfl) (by decide) (fun _ _ _ h => h) (by rfl) (v := ?_) ?_ (by assumption) ?_
      rotate_left 1
      · intro w' hS'; obtain ⟨c0, c1, c2, c3, c4, c5⟩ := hS'; go_simp; try with_reducible rfl
      try simp only [Act.put, List.setIfInBounds_toArray, List.set_cons_zero, List.set_cons_succ]
      refine tail_take2 1 rfl (by kernel_rfl) (by kernel_rfl) (by kernel_rfl) (by decide) (fun _ _ _ h => h) (by rfl) (v := ?_) ?_ (by assumption) ?_
      rotate_left 1
      · intro w' hS'; obtain ⟨c0, c1, c2, c3, c4, c5⟩ := hS'; go_simp; try with_reducible rfl
      try simp only [Act.put, List.setIfInBounds_toArray, List.set_cons_zero, List.set_cons_succ]
      refine tail_take2 2 rfl (by kernel_rfl) (by kernel_rfl) (by kernel_rfl) (by decide) (fun _ _ _ h => h) (by rfl) (v := ?_) ?_ (by assumption) ?_
      rotate_left 1
      · intro w' hS'; obtain ⟨c0, c1, c2, c3, c4, c5⟩ := hS'; go_simp; try with_reducible rfl
      try simp only [Act.put, List.setIfInBounds_toArray, List.set_cons_zero, List.set_cons_succ]
      refine tail_take2 4 rfl (by kernel_rfl) (by kernel_rfl) (by kernel_rfl) (by decide) (fun _ _ _ h => h) (by rfl) (v := ?_) ?_ (by assumption) ?_
      rotate_left 1
      · intro w' hS'; obtain ⟨c0, c1, c2, c3, c4, c5⟩ := hS'; go_simp; try with_reducible rfl
      try simp only [Act.put, List.setIfInBounds_toArray, List.set_cons_zero, List.set_cons_succ]
      refine tail_take2 5 rfl (by kernel_rfl) (by kernel_rfl) (by kernel_rfl) (by decide) (fun _ _ _ h => h) (by rfl) (v := ?_) ?_ (by assumption) ?_
      rotate_left 1
      · intro w' hS'; obtain ⟨c0, c1, c2, c3, c4, c5⟩ := hS'; go_simp; try with_reducible rfl
      try simp only [Act.put, List.setIfInBounds_toArray, List.set_cons_zero, List.set_cons_succ]
      refine tail_call 3 rfl (by kernel_rfl) rfl (fun K hK => ?_)
      go_simp
      go_at_call 59; refine (HCON.out _).mono ?_; rintro e w2 ⟨rfl, hb2⟩; have HX2 := hide (HX.out.drew.next hb2); have HM2 := hide (HM.out.drew.next hb2); clear hb2
      refine hK.out _ _ (by (try dsimp only); exact HX2.out.cells) (fun hS' => ?_)
      clear hK K
      try simp only [Act.put, List.setIfInBounds_toArray, List.set_cons_zero, List.set_cons_succ]
      refine tail_take2 6 rfl (by kernel_rfl) (by kernel_rfl) (by kernel_rfl) (by decide) (fun _ _ _ h => h) (by rfl) (v := ?_) ?_ (by assumption) ?_
      rotate_left 1
      · intro w' hS'; obtain ⟨c0, c1, c2, c3, c4, c5⟩ := hS'; go_simp; try with_reducible rfl
      try simp only [Act.put, List.setIfInBounds_toArray, List.set_cons_zero, List.set_cons_succ]
      have hwz : w.heap.size + 1 ≤ w2.heap.size := HX2.out.lt
      refine tail_call 7 rfl (by kernel_rfl) rfl (fun K' hK => ?_)
      refine wp_mkN w2 _ _ _ rfl elem64 .i64 .i64 _ _ (s + K) rfl rfl (by omega) (by omega) (by omega) ?_
      intro w3 ho3 hb3
      have HX3 := hide (HX2.out.next hb3)
      have HM3 := hide (HM2.out.next hb3)
      have HO3 := hide ho3
      have hb3s := hb3.size
      clear ho3 hb3
      refine hK.out _ _ HX3.out.cells (fun hS' => ?_)
      clear hK K'
      try simp only [Act.put, List.setIfInBounds_toArray, List.set_cons_zero, List.set_cons_succ]
      refine tail_call 8 rfl (by kernel_rfl) rfl (fun K hK => ?_)
      go_simp
      refine hK.out _ _ (by (try dsimp only); exact (HX3.out.alloc _).cells) (fun hS' => ?_)
      clear hK K
      try simp only [Act.put, List.setIfInBounds_toArray, List.set_cons_zero, List.set_cons_succ]
      refine tail_call 9 rfl (by kernel_rfl) rfl (fun K' hK => ?_)
      refine wp_appRow w3 _ _ rfl rfl HM3.out (.slice (some ⟨w2.heap.size, 0, none⟩) (s + K) (s + K)) (List.replicate (s + K) 0) (World.ownsRow.mono HO3.out hwz) (fun b' hb' => ?_) rfl (by omega) (by omega) ?_
      · have hb'' : w2.heap.size = b' := by simpa [Value.ownBlock] using hb'
        exact ⟨fun j t ht e => by have := (HM2.out.rows.lt ht e).2; omega, fun e => by have := (World.ownsRow.lt HM2.out.row b' e).2; omega⟩
      intro v4 w4 hm4 hg4
      have HX4 := hide (HX3.out.grow hg4 (fun b' hb' => by have := (World.ownsRow.lt HM3.out.row b' hb').1; omega))
      have HM4 := hide (hm4.congr (Y := zerZ D C K) fun j hj => by
        by_cases hjb : j = b
        · subst hjb; rw [if_pos rfl, HZ.out]
        · rw [if_neg hjb])
      clear hm4 hg4
      refine hK.out _ _ HX4.out.cells (fun hS' => ?_)
      clear hK K'
      try simp only [Act.put, List.setIfInBounds_toArray, List.set_cons_zero, List.set_cons_succ]
      refine tail_take2 10 rfl (by kernel_rfl) (by kernel_rfl) (by kernel_rfl) (by decide) (fun _ _ _ h => h) (by rfl) (v := ?_) ?_ (by assumption) ?_
      rotate_left 1
      · intro w' hS'; obtain ⟨c0, c1, c2, c3, c4, c5⟩ := hS'; go_simp; try with_reducible rfl
      try simp only [Act.put, List.setIfInBounds_toArray, List.set_cons_zero, List.set_cons_succ]
      refine tail_end (by kernel_rfl) ?_
      go_wp2_with fail
      go_roundw
      case rel => exact ⟨b + 1, _, by omega, by go_num, HM4.out, HX4.out⟩
      case measure => simp [intOf]; omega
    · obtain rfl : b = C := by omega
      go_wp2_with fail
      refine (specOrder p k g D K b h1 h2 h3 (by omega) h4 wr).mono ?_
      rintro e w2 ⟨vo, os, rfl, hmo, hb2⟩
      have hHX := HX.out.lt
      have HM2 := hide ((HM.out.next hb2).congr (Y := fillZ D b K zs 0) fun j _ => fillZ_zero D b K zs j)
      have HAP := hide (show Apart v vs vo os from by
        intro g' hg'
        have hlt : g' < wr.heap.size := by
          rcases hg' with hg' | ⟨k', u', hu', hg'⟩
          · exact (World.ownsRow.lt HM.out.row g' hg').2
          · exact (HM.out.rows.lt hu' hg').2
        exact ⟨fun e => by have := (World.ownsRow.lt hmo.row g' e).1; omega, fun k' u' hu' e => by have := (hmo.rows.lt hu' e).1; omega⟩)
      have HMO := hide (hmo.low (base' := w.heap.size + 1) (by omega))
      have HBL := hide (HX.out.2.trans (hb2.mono HX.out.2.size))
      obtain ⟨N, hN⟩ : ∃ N, D + b * K = N := ⟨_, rfl⟩
      have HNN := hide hN
      rw [hN] at HMO h4
      have hN0 : 0 < N := by omega
      obtain ⟨gv, cv, rfl, hgv1, hgv2, hgv3⟩ := HM2.out.form h1
      obtain ⟨go, co, rfl, hgo1, hgo2, hgo3⟩ := HMO.out.form hN0
      clear hmo hb2 hN c0 c1 c2 c3 c4 c5 HX HM
      go_wp2_with fail
      go_loopw [8] (fun i wr => W2Rel w p k g D K b N (.slice (some ⟨gv, 0, none⟩) b cv) (.slice (some ⟨go, 0, none⟩) N co) zs i wr) (fun i _ => N - (intOf i).toNat)
      case atStart => exact ⟨0, vs, os, Nat.zero_le _, rfl, HM2.out, HMO.out, HAP.out, HBL.out⟩
      case round =>
        clear HM2 HMO HAP HBL
        obtain ⟨j, vs, os, hj, rfl, HM, HMO, HAP, HBL⟩ := hrel
        have HM := hide HM
        have HMO := hide HMO
        have HAP := hide HAP
        have HBL := hide HBL
        by_cases hlt : j < N
        · have hjN : j < D + b * K := by rw [HNN.out]; exact hlt
          have hpk := pair_lt (D := D) h1 j
          have hpe := pair_elem (D := D) (K := K) h1 hjN
          have hst := fillZ_step (K := K) h1 hjN zs
          obtain ⟨ro, mo, d0, d1, d2, hmo2, hro1, hro2⟩ := HMO.out.pair_at hlt
          obtain ⟨Ar, mr, hvs, hrc, hro, hmr⟩ := HM.out.at_ hpk
          have hlen := fillZ_len D b K zs j (pairOf D b j).1
          obtain ⟨sb, so, z, rfl, hsb, hz, hsc⟩ := ((HI.out.below (HBL.out.mono hB))).at_ (j := j) (by rw [HN.out]; exact hjN)
          have hzd : zs.getD j 0 = z := by rw [List.getD_eq_getElem?_getD, hz]; rfl
          rw [hzd] at hst
          obtain ⟨px, hpx⟩ : ∃ q, (pairOf D b j).1 = q := ⟨_, rfl⟩
          obtain ⟨py, hpy⟩ : ∃ q, (pairOf D b j).2 = q := ⟨_, rfl⟩
          rw [hpx] at hpk hpe d1 hvs hrc hro hlen hst
          rw [hpy] at hpe d2 hst
          have hpL : 0 < (fillZ D b K zs j px).length := by omega
          obtain ⟨rw', mr', hA, hrw1, hrw2, hrw3⟩ := hro.some_ hpL
          simp only [Value.slice.injEq] at hA
          obtain ⟨rfl, _, rfl⟩ := hA
          obtain ⟨y0, hy0⟩ : ∃ y0, (fillZ D b K zs j px)[py]? = some y0 := ⟨_, List.getElem?_eq_getElem (by omega)⟩
          have hc20 := hro.cellAt hy0
          have hf20 := hro.frozenAt py
          obtain ⟨hm5, hg5⟩ := HM.out.write hvs py z
          have HM5 := hide (hm5.congr (Y := fillZ D b K zs (j + 1)) fun i hi => by
            rw [hst i hi]
            by_cases hii : i = px
            · subst hii; simp
            · simp [hii])
          obtain ⟨ap1, ap2⟩ := HAP.out rw' (.inr ⟨px, _, hvs, rfl⟩)
          have HMO5 := hide (HMO.out.grown hg5 (.inr ap1) (fun i u hu => .inr (ap2 i u hu)))
          have HBL5 := hide (HBL.out.grown hg5 HBL.out.size (fun r e => by injection e with e; omega))
          have HRC := hide hrc
          obtain ⟨L, hL⟩ : ∃ L, (fillZ D b K zs j px).length = L := ⟨_, rfl⟩
          rw [hL] at hrc hlen
          have hpyL : py < L := by omega
          have hpy15 : px < b := hpk
          have hjn : j < n := by rw [HN.out]; exact hjN
          clear hm5 hg5 ap1 ap2 hst hzd hz hvs hro hpL hL hlen hpe hpx hpy hy0 HRC
          go_wp2_with fail
          refine tail_begin (fun w' => w'.cell? ⟨gv, px, none⟩ = some (.slice (some ⟨rw', 0, none⟩) L mr) ∧ w'.cell? ⟨go, j, none⟩ = some (.slice (some ⟨ro, 0, none⟩) 2 mo) ∧ w'.cell? ⟨ro, 0, none⟩ = some (.int .i64 px) ∧ w'.cell? ⟨ro, 1, none⟩ = some (.int .i64 py) ∧ w'.cell? ⟨sb, so + j, none⟩ = some (.int .i64 z)) 20 (by kernel_rfl) ⟨hrc, d0, d1, d2, hsc⟩ (fun hS' => ?_)
          clear hrc d0 d1 d2 hsc
          refine tail_take 0 rfl (by kernel_rfl) (by kernel_rfl) (by kernel_rfl) (by kernel_rfl) (fun _ _ _ h => h) (by rfl) (v := ?_) ?_ (by assumption) ?_
          rotate_left 1
          · intro w' hS'; obtain ⟨q0, q1, q2, q3, q4⟩ := hS'; go_simp; try with_reducible rfl
          try simp only [Act.put, List.setIfInBounds_toArray, List.set_cons_zero, List.set_cons_succ]
          refine tail_take 1 rfl (by kernel_rfl) (by kernel_rfl) (by kernel_rfl) (by kernel_rfl) (fun _ _ _ h => h) (by rfl) (v := ?_) ?_ (by assumption) ?_
          rotate_left 1
          · intro w' hS'; obtain ⟨q0, q1, q2, q3, q4⟩ := hS'; go_simp; try with_reducible rfl
          try simp only [Act.put, List.setIfInBounds_toArray, List.set_cons_zero, List.set_cons_succ]
          refine tail_take 2 rfl (by kernel_rfl) (by kernel_rfl) (by kernel_rfl) (by kernel_rfl) (fun _ _ _ h => h) (by rfl) (v := ?_) ?_ (by assumption) ?_
          rotate_left 1
          · intro w' hS'; obtain ⟨q0, q1, q2, q3, q4⟩ := hS'; go_simp; try with_reducible rfl
          try simp only [Act.put, List.setIfInBounds_toArray, List.set_cons_zero, List.set_cons_succ]
          refine tail_take 3 rfl (by kernel_rfl) (by kernel_rfl) (by kernel_rfl) (by kernel_rfl) (fun _ _ _ h => h) (by rfl) (v := ?_) ?_ (by assumption) ?_
          rotate_left 1
          · intro w' hS'; obtain ⟨q0, q1, q2, q3, q4⟩ := hS'; go_simp; try with_reducible rfl
          try simp only [Act.put, List.setIfInBounds_toArray, List.set_cons_zero, List.set_cons_succ]
          refine tail_take 4 rfl (by kernel_rfl) (by kernel_rfl) (by kernel_rfl) (by kernel_rfl) (fun _ _ _ h => h) (by rfl) (v := ?_) ?_ (by assumption) ?_
          rotate_left 1
          · intro w' hS'; obtain ⟨q0, q1, q2, q3, q4⟩ := hS'; go_simp; try with_reducible rfl
          try simp only [Act.put, List.setIfInBounds_toArray, List.set_cons_zero, List.set_cons_succ]
          refine tail_take 5 rfl (by kernel_rfl) (by kernel_rfl) (by kernel_rfl) (by kernel_rfl) (fun _ _ _ h => h) (by rfl) (v := ?_) ?_ (by assumption) ?_
          rotate_left 1
          · intro w' hS'; obtain ⟨q0, q1, q2, q3, q4⟩ := hS'; go_simp; try with_reducible rfl
          try simp only [Act.put, List.setIfInBounds_toArray, List.set_cons_zero, List.set_cons_succ]
          refine tail_take 6 rfl (by kernel_rfl) (by kernel_rfl) (by kernel_rfl) (by kernel_rfl) (fun _ _ _ h => h) (by rfl) (v := ?_) ?_ (by assumption) ?_
          rotate_left 1
          · intro w' hS'; obtain ⟨q0, q1, q2, q3, q4⟩ := hS'; go_simp; try with_reducible rfl
          try simp only [Act.put, List.setIfInBounds_toArray, List.set_cons_zero, List.set_cons_succ]
          refine tail_take 7 rfl (by kernel_rfl) (by kernel_rfl) (by kernel_rfl) (by kernel_rfl) (fun _ _ _ h => h) (by rfl) (v := ?_) ?_ (by assumption) ?_
          rotate_left 1
          · intro w' hS'; obtain ⟨q0, q1, q2, q3, q4⟩ := hS'; go_simp; try with_reducible rfl
          try simp only [Act.put, List.setIfInBounds_toArray, List.set_cons_zero, List.set_cons_succ]
          refine tail_take 8 rfl (by kernel_rfl) (by kernel_rfl) (by kernel_rfl) (by kernel_rfl) (fun _ _ _ h => h) (by rfl) (v := ?_) ?_ (by assumption) ?_
          rotate_left 1
          · intro w' hS'; obtain ⟨q0, q1, q2, q3, q4⟩ := hS'; go_simp; try with_reducible rfl
          try simp only [Act.put, List.setIfInBounds_toArray, List.set_cons_zero, List.set_cons_succ]
          refine tail_take 9 rfl (by kernel_rfl) (by kernel_rfl) (by kernel_rfl) (by kernel_rfl) (fun _ _ _ h => h) (by rfl) (v := ?_) ?_ (by assumption) ?_
          rotate_left 1
          · intro w' hS'; obtain ⟨q0, q1, q2, q3, q4⟩ := hS'; go_simp; try with_reducible rfl
          try simp only [Act.put, List.setIfInBounds_toArray, List.set_cons_zero, List.set_cons_succ]
          refine tail_take 10 rfl (by kernel_rfl) (by kernel_rfl) (by kernel_rfl) (by kernel_rfl) (fun _ _ _ h => h) (by rfl) (v := ?_) ?_ (by assumption) ?_
          rotate_left 1
          · intro w' hS'; obtain ⟨q0, q1, q2, q3, q4⟩ := hS'; go_simp; try with_reducible rfl
          try simp only [Act.put, List.setIfInBounds_toArray, List.set_cons_zero, List.set_cons_succ]
          refine tail_take 11 rfl (by kernel_rfl) (by kernel_rfl) (by kernel_rfl) (by kernel_rfl) (fun _ _ _ h => h) (by rfl) (v := ?_) ?_ (by assumption) ?_
          rotate_left 1
          · intro w' hS'; obtain ⟨q0, q1, q2, q3, q4⟩ := hS'; go_simp; try with_reducible rfl
          try simp only [Act.put, List.setIfInBounds_toArray, List.set_cons_zero, List.set_cons_succ]
          refine tail_take 12 rfl (by kernel_rfl) (by kernel_rfl) (by kernel_rfl) (by kernel_rfl) (fun _ _ _ h => h) (by rfl) (v := ?_) ?_ (by assumption) ?_
          rotate_left 1
          · intro w' hS'; obtain ⟨q0, q1, q2, q3, q4⟩ := hS'; go_simp; try with_reducible rfl
          try simp only [Act.put, List.setIfInBounds_toArray, List.set_cons_zero, List.set_cons_succ]
          refine tail_take 13 rfl (by kernel_rfl) (by kernel_rfl) (by kernel_rfl) (by kernel_rfl) (fun _ _ _ h => h) (by rfl) (v := ?_) ?_ (by assumption) ?_
          rotate_left 1
          · intro w' hS'; obtain ⟨q0, q1, q2, q3, q4⟩ := hS'; go_simp; try with_reducible rfl
          try simp only [Act.put, List.setIfInBounds_toArray, List.set_cons_zero, List.set_cons_succ]
          refine tail_take 14 rfl (by kernel_rfl) (by kernel_rfl) (by kernel_rfl) (by kernel_rfl) (fun _ _ _ h => h) (by rfl) (v := ?_) ?_ (by assumption) ?_
          rotate_left 1
          · intro w' hS'; obtain ⟨q0, q1, q2, q3, q4⟩ := hS'; go_simp; try with_reducible rfl
          try simp only [Act.put, List.setIfInBounds_toArray, List.set_cons_zero, List.set_cons_succ]
          refine tail_take 15 rfl (by kernel_rfl) (by kernel_rfl) (by kernel_rfl) (by kernel_rfl) (fun _ _ _ h => h) (by rfl) (v := ?_) ?_ (by assumption) ?_
          rotate_left 1
          · intro w' hS'; obtain ⟨q0, q1, q2, q3, q4⟩ := hS'; go_simp; try with_reducible rfl
          try simp only [Act.put, List.setIfInBounds_toArray, List.set_cons_zero, List.set_cons_succ]
          refine tail_take 16 rfl (by kernel_rfl) (by kernel_rfl) (by kernel_rfl) (by kernel_rfl) (fun _ _ _ h => h) (by rfl) (v := ?_) ?_ (by assumption) ?_
          rotate_left 1
          · intro w' hS'; obtain ⟨q0, q1, q2, q3, q4⟩ := hS'; go_simp; try with_reducible rfl
          try simp only [Act.put, List.setIfInBounds_toArray, List.set_cons_zero, List.set_cons_succ]
          refine tail_take 17 rfl (by kernel_rfl) (by kernel_rfl) (by kernel_rfl) (by kernel_rfl) (fun _ _ _ h => h) (by rfl) (v := ?_) ?_ (by assumption) ?_
          rotate_left 1
          · intro w' hS'; obtain ⟨q0, q1, q2, q3, q4⟩ := hS'; go_simp; try with_reducible rfl
          try simp only [Act.put, List.setIfInBounds_toArray, List.set_cons_zero, List.set_cons_succ]
          refine tail_take 18 rfl (by kernel_rfl) (by kernel_rfl) (by kernel_rfl) (by kernel_rfl) (fun _ _ _ h => h) (by rfl) (v := ?_) ?_ (by assumption) ?_
          rotate_left 1
          · intro w' hS'; obtain ⟨q0, q1, q2, q3, q4⟩ := hS'; go_simp; try with_reducible rfl
          try simp only [Act.put, List.setIfInBounds_toArray, List.set_cons_zero, List.set_cons_succ]
          refine tail_take 19 rfl (by kernel_rfl) (by kernel_rfl) (by kernel_rfl) (by kernel_rfl) (fun _ _ _ h => h) (by rfl) (v := ?_) ?_ (by assumption) ?_
          rotate_left 1
          · intro w' hS'; obtain ⟨q0, q1, q2, q3, q4⟩ := hS'; go_simp; try with_reducible rfl
          try simp only [Act.put, List.setIfInBounds_toArray, List.set_cons_zero, List.set_cons_succ]
          refine tail_last 20 rfl (by kernel_rfl) (by kernel_rfl) rfl rfl (fun K hK => ?_)
          go_simp
          refine hK.out _ _ ?_
          clear hK K
          try simp only [Act.put, List.setIfInBounds_toArray, List.set_cons_zero, List.set_cons_succ]
          go_wp2_with fail
          go_roundw
          case rel => exact ⟨j + 1, vs, os, by omega, by go_num, HM5.out.drew, HMO5.out.drew, HAP.out, HBL5.out.drew⟩
          case measure => simp [intOf]; omega
        · obtain rfl : j = N := by omega
          have HF := hide (show NewSS b (wrdZ D b K zs) w (.returned (.slice (some ⟨gv, 0, none⟩) b cv)) wr from ⟨_, vs, rfl, HM.out.congr fun i hi => by rw [← HNN.out]; exact (fillZ_all hi zs).symm, HBL.out⟩)
          go_wp2_with fail
          go_ret
          exact HF.out
end Go.Proofs.YtlphodhecaagbaaGreat
