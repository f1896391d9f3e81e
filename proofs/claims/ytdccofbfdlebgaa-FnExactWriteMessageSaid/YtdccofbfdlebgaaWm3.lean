/-
  WriteMessage of the program.
  Condition: as each statement says.
-/
import Derived.Test.YtdccofbfdlebgaaWm2
import Derived.Test.YtdccofbfdlebgaaSgE
namespace Go.Proofs.Ytdccofbfdlebgaa
open Go Go.RowKit
set_option linter.unusedSimpArgs false
set_option linter.unusedVariables false

def WiRel (w : World) (s : ByteArray) (zs : List Int) (V : Value) (v i : Value) (wr : World) : Prop :=
  ∃ (k : Nat) (A : Option Addr) (c : Nat) (Z : List Int), k ≤ sgN s ∧ i = .int .i64 k ∧ Hid (zs ++ wmP s k = Z) ∧ v = .slice A Z.length c ∧ Own wr w.heap.size 2 .i64 (.slice A Z.length c) Z ∧ OwnS wr w.heap.size V (sgN s) (segV (sgM s) (sgT s)) ∧ (V.ownBlock = none ∨ V.ownBlock ≠ (Value.slice A Z.length c).ownBlock) ∧ Below w.heap.size w wr

set_option maxRecDepth 100000 in
set_option maxHeartbeats 4000000 in
theorem implWm (A : Option Addr) (n c B : Nat) (zs : List Int) (s : ByteArray) (hs : s.size ≤ 1099511627776) (w : World) (hI : Ints .i64 w B A n zs) (hB : B ≤ w.heap.size) (hn : n ≤ 1048576) :
    Calls Try.prog 47 #[.slice A n c, .string s] w (NewInts2 2 .i64 (wmOf zs s) (wmCode zs s) w) := by
  have hl := hide hI.len
  have HI := hide hI
  have hn : n ≤ 1099511627776 := by omega
  clear hI
  rcases hb : isBits zs with _ | _
  · have HB := hide hb
    obtain ⟨h1, h2⟩ := wm_bad hb s
    rw [h1, h2]
    clear hb h1 h2
    go_enter Try.func47, Try.ntmps47
    go_wp2_with fail
    refine (implIsBits_no A n c B zs _ HI.out hn HB).mono ?_
    rintro e wz ⟨rfl, rfl⟩
    go_wp2_with fail
    go_ret2
    exact new2_nil' (Below.refl _ _)
  have HB := hide hb
  have hz8 : n ≤ 8192 := by have := isBits_len hb; rw [hl.out] at this; exact this
  by_cases h4 : s.size ≤ 400
  · have hlb := bsT_l s h4
    have HALL := hide (wmP_all s)
    have HLE := hide (wmP_len s)
    have HVV := hide (fun k => sg_valid s (k := k))
    have HC := hide (implChoices s h4)
    have HSG := hide (fun b w hr => implSegments s h4 b w hr)
    obtain ⟨Z0, hZ0, hz⟩ := zero_table
    have HZT := hide hZ0
    obtain ⟨L, hL⟩ : ∃ L, (bsT s 0).l = L := ⟨_, rfl⟩
    have HL := hide hL
    rw [hL] at hlb HALL HLE
    have hw1 : IntKind.i64.wrap ((n : Int) + (L : Int)) = ((n + L : Nat) : Int) := by rw [IntWalk.i64_in _ ⟨by omega, by omega⟩]; omega
    by_cases hbig : 8192 < n + L
    · obtain ⟨h1, h2⟩ := wm_long hb h4 (by rw [hL, hl.out]; exact hbig)
      rw [h1, h2]
      obtain ⟨nL, hnL⟩ : ∃ nL, n + L = nL := ⟨_, rfl⟩
      rw [hnL] at hw1 hbig
      have z1 : (8192 : Int) < (nL : Int) := by omega
      clear hb hL hnL h1 h2 hZ0
      go_enter Try.func47, Try.ntmps47
      go_wp2_with fail
      refine (implIsBits_yes A n c B zs _ HI.out hn HB).mono ?_
      rintro e wz ⟨rfl, rfl⟩
      go_wp2_with fail
      refine (implIsMsg_yes s h4 _).mono ?_
      rintro e _ ⟨rfl, rfl⟩
      go_wp2_with fail
      refine (HC.out _).mono ?_
      rintro e w1 ⟨cs, rfl, ht, hb1⟩
      have HT := hide ht
      have HB1 := hide hb1
      have HS := hide (show (Try.prog.info? 104).map (·.size) = some cs.size by rw [ht.1]; exact size_table)
      have HZS := hide (show Z0.size = cs.size by rw [ht.1, HZT.out.1])
      have HRZ := hide (heap_alloc_new w1 (.cells Z0 104))
      have HT2 := hide (show tabN (bytesI s) s.size = bsT s by unfold bsT tabT; rw [bytesI_len])
      have HROW := hide (show RowQ ((w1.alloc (.cells Z0 104)).setRow w1.heap.size cs) w1.heap.size 104 401 (bsT s) from row_of (w0 := w1) HRZ.out (by rw [← HT2.out]; exact ht))
      have HB2 := hide (below_row (hb1.alloc hb1.size (.cells Z0 104)) hb1.size cs)
      obtain ⟨d0, _⟩ := HROW.out.cells (i := 0) (by omega)
      rw [Nat.zero_mul, HL.out] at d0
      clear ht hb1 HC
      go_wp2_with (first
        | (with_reducible refine wpList_store_row rfl 104 (.tmp 6) (.tmp 18) rfl w1.heap.size cs rfl rfl 104 Z0 HRZ.out HS.out HZS.out HT.out.one ?_))
      go_ret2
      exact new2_nil' HB2.out
    · obtain ⟨h1, h2⟩ := wm_ok hb h4 (by rw [hL, hl.out]; omega)
      rw [h1, h2]
      obtain ⟨nL, hnL⟩ : ∃ nL, n + L = nL := ⟨_, rfl⟩
      have HNL := hide hnL
      rw [hnL] at hw1 hbig
      have z1 : ¬ (8192 : Int) < (nL : Int) := by omega
      clear hb hL hnL h1 h2 hZ0
      go_enter Try.func47, Try.ntmps47
      go_wp2_with fail
      refine (implIsBits_yes A n c B zs _ HI.out hn HB).mono ?_
      rintro e wz ⟨rfl, rfl⟩
      go_wp2_with fail
      refine (implIsMsg_yes s h4 _).mono ?_
      rintro e _ ⟨rfl, rfl⟩
      go_wp2_with fail
      refine (HC.out _).mono ?_
      rintro e w1 ⟨cs, rfl, ht, hb1⟩
      have HT := hide ht
      have HB1 := hide hb1
      have HS := hide (show (Try.prog.info? 104).map (·.size) = some cs.size by rw [ht.1]; exact size_table)
      have HZS := hide (show Z0.size = cs.size by rw [ht.1, HZT.out.1])
      have HRZ := hide (heap_alloc_new w1 (.cells Z0 104))
      have HT2 := hide (show tabN (bytesI s) s.size = bsT s by unfold bsT tabT; rw [bytesI_len])
      have HROW := hide (show RowQ ((w1.alloc (.cells Z0 104)).setRow w1.heap.size cs) w1.heap.size 104 401 (bsT s) from row_of (w0 := w1) HRZ.out (by rw [← HT2.out]; exact ht))
      have HB2 := hide (below_row (hb1.alloc hb1.size (.cells Z0 104)) hb1.size cs)
      have hbase : w.heap.size ≤ w1.heap.size := hb1.size
      have hbt : w1.heap.size < ((w1.alloc (.cells Z0 104)).setRow w1.heap.size cs).heap.size := HROW.out.lt
      obtain ⟨d0, _⟩ := HROW.out.cells (i := 0) (by omega)
      rw [Nat.zero_mul, HL.out] at d0
      clear ht hb1 HC
      go_wp2_with (first
        | (with_reducible refine wpList_store_row rfl 104 (.tmp 6) (.tmp 18) rfl w1.heap.size cs rfl rfl 104 Z0 HRZ.out HS.out HZS.out HT.out.one ?_; obtain ⟨wq, hwq⟩ : ∃ wq, (w1.alloc (.cells Z0 104)).setRow w1.heap.size cs = wq := ⟨_, rfl⟩; rw [hwq] at HROW HB2 hbt d0 ⊢; clear hwq)
        | (at_make; refine wpList_mk0 _ rfl _ _ _ rfl elem64 .i64 .i64 _ nL rfl rfl (by omega) (by omega) ?_; intro w3 hown hbel; have HO3 := hide hown; have HR3 := hide (HROW.out.next hbel); have HB3 := hide (HB2.out.trans (hbel.mono HB2.out.size)); have hs3 := hide hbel.size; clear hown hbel d0)
        | (at_builtin; go_loud (refine wpList_appL _ rfl _ _ _ rfl elem64 wq.heap.size _ [] rfl HO3.out B A n c zs rfl (HI.out.below (HB3.out.mono hB)) (by simp; omega) hs3.out ?_; intro v4 w4 hown hgr; have HO4 := hide (show Own w4 wq.heap.size 2 .i64 v4 zs by simpa using hown); have HR4 := hide (HR3.out.grown hgr (fun e => by have h : some wq.heap.size = some w1.heap.size := e; injection h with h; omega)); have HB4 := hide (HB3.out.grown hgr HB3.out.size (fun g hg => Nat.le_trans HB2.out.size (HO3.out.lt hg).1)); have hs4 := hide (Nat.le_trans hs3.out hgr.size); clear hown hgr; obtain ⟨A4, c4, rfl, hc4⟩ := HO4.out.form)))
      refine (HSG.out w1.heap.size w4 HR4.out).mono ?_
      rintro e w5 ⟨A5, c5, rfl, hc5, hc5', ho5, hb5⟩
      have HO5 := hide ((HO4.out.below hb5 (Nat.le_refl _)).low HB2.out.size)
      have HS5 := hide (ho5.low HB4.out.size)
      have HNE := hide (show (Value.slice A5 (sgN s) c5).ownBlock = none ∨ (Value.slice A5 (sgN s) c5).ownBlock ≠ (Value.slice A4 zs.length c4).ownBlock by
        rcases h1 : (Value.slice A5 (sgN s) c5).ownBlock with _ | g
        · exact .inl rfl
        · refine .inr fun e => ?_
          have h2 := (World.ownsRow.lt ho5 g h1).1
          have h3 := (HO4.out.lt (g := g) e.symm).2
          omega)
      have HB5 := hide (HB4.out.trans (hb5.mono HB4.out.size))
      have hs5 := hide (Nat.le_trans hs4.out hb5.size)
      clear ho5 hb5 HO4 HSG
      go_wp2_with fail
      go_loopw [8, 36] (fun v i wr => WiRel w s zs (.slice A5 (sgN s) c5) v i wr) (fun _ i _ => sgN s - (intOf i).toNat)
      case atStart => exact ⟨0, A4, c4, zs, Nat.zero_le _, rfl, by simp [Hid, wmP], rfl, HO5.out, HS5.out, HNE.out, HB5.out⟩
      case round =>
        clear HO5 HS5 HB5 HNE
        obtain ⟨k, Av, cv, Z, hk, rfl, hZ, hv4, ho, hsg, hne, hb⟩ := hrel
        obtain ⟨v, hvv⟩ : ∃ v, v = u8 := ⟨_, rfl⟩
        rw [← hvv] at hv4
        subst hvv
        subst hv4
        have HZ := hZ
        have HO := hide ho
        have HSG := hide hsg
        have HNE := hide hne
        have HBr := hide hb
        clear hZ ho hsg hne hb
        by_cases hlt : k < sgN s
        · obtain ⟨b, off, rfl, hbb, hc⟩ := HSG.out.segs (by omega)
          obtain ⟨e0, e1⟩ := hc k hlt
          have hv := HVV.out k hlt
          have h5 := HLE.out k hk
          have h6 : Z.length = n + (wmP s k).length := by rw [← HZ.out, List.length_append, hl.out]
          have HZ8 := hide (show Z.length ≤ 8192 by rw [h6]; have := HNL.out; omega)
          have HZN := hide (show zs ++ wmP s (k + 1) = Z ++ segBits (sgM s k) (bytesI (sgT s k)) by rw [wmP, ← List.append_assoc, HZ.out])
          have hN : sgN s ≤ 400 := Nat.le_trans (sgN_le s) h4
          obtain ⟨m, hm⟩ : ∃ m, sgM s k = m := ⟨_, rfl⟩
          obtain ⟨t, ht⟩ : ∃ t, sgT s k = t := ⟨_, rfl⟩
          rw [hm] at e0 hv HZN
          rw [ht] at e1 hv HZN
          have HV := hide hv
          have HX := hide (SBox.start wr 24 m t)
          obtain ⟨q0, q1⟩ := HX.out.cells
          clear hm ht hc hv h5 h6
          go_wp2_with fail
          refine (implAppTo m t HV.out Av Z.length cv w.heap.size Z _ (HO.out.alloc _) (Nat.le_trans HBr.out.size HX.out.2.size) HZ8.out).mono ?_
          rintro e w5 ⟨v5, rfl, ho5, hb5, hg5, hs5⟩
          obtain ⟨A5', c5', rfl, hc5⟩ := ho5.form
          have HO5 := hide ho5
          have HS5 := hide ((HSG.out.next HX.out.2).grown hg5 HNE.out)
          have HN5 := hide (show (Value.slice (some ⟨b, off, none⟩) (sgN s) c5).ownBlock = none ∨ (Value.slice (some ⟨b, off, none⟩) (sgN s) c5).ownBlock ≠ (Value.slice A5' (Z ++ segBits m (bytesI t)).length c5').ownBlock by
            rcases h1 : (Value.slice (some ⟨b, off, none⟩) (sgN s) c5).ownBlock with _ | g
            · exact .inl rfl
            · refine .inr fun e => ?_
              have h2 := (World.ownsRow.lt HSG.out g h1).2
              rcases hs5 g e.symm with h3 | h3
              · rcases HNE.out with h4 | h4
                · rw [h1] at h4; cases h4
                · exact h4 (h1.trans h3.symm)
              · have := HX.out.2.size
                omega)
          have HB5 := hide ((HBr.out.trans (HX.out.2.mono HBr.out.size)).trans hb5)
          clear ho5 hb5 hg5 hs5 e0 e1 q0 q1
          go_wp2_with fail
          go_roundw
          case rel => exact ⟨k + 1, A5', c5', _, hlt, by go_num, HZN.out, by rw [List.length_append], HO5.out, HS5.out, HN5.out, HB5.out⟩
          case measure => simp [intOf]; omega
        · obtain rfl : k = sgN s := by omega
          have HF := hide (show NewInts2 2 .i64 (zs ++ wmP s (sgN s)) 0 w (.returned (.tuple #[.slice Av Z.length cv, .int .i64 0])) wr by rw [HZ.out]; exact new2_of HO.out HBr.out (Nat.le_refl _))
          have hN : sgN s ≤ 400 := Nat.le_trans (sgN_le s) h4
          go_wp2_with fail
          go_ret2
          exact HF.out
  · obtain ⟨h1, h2⟩ := wm_big hb h4
    rw [h1, h2]
    clear hb h1 h2
    go_enter Try.func47, Try.ntmps47
    go_wp2_with fail
    refine (implIsBits_yes A n c B zs _ HI.out hn HB).mono ?_
    rintro e wz ⟨rfl, rfl⟩
    go_wp2_with fail
    refine (implIsMsg_no s hs h4 _).mono ?_
    rintro e _ ⟨rfl, rfl⟩
    go_wp2_with fail
    go_ret2
    exact new2_nil' (Below.refl _ _)
end Go.Proofs.Ytdccofbfdlebgaa
