/-
  WriteMessage of the model.
  Condition: as each statement says.
-/
import Derived.Test.YtdccofbfdlebgaaWm1
import Derived.Test.YtdccofbfdlebgaaDpC
import Derived.Test.YtdccofbfdlebgaaSgA
import Derived.Test.YtdccofbfdlebgaaSgF
import Derived.Test.YtdccofbfdlebgaaIsBits
import Derived.Test.YtdccofbfdlebgaaWords
namespace Go.Proofs.Ytdccofbfdlebgaa
open Go Go.RowKit
set_option linter.unusedSimpArgs false
set_option linter.unusedVariables false

theorem bl_of {s : ByteArray} (hs : s.size ≤ 400) : blOf s = (((bsT s 0).l : Nat) : Int) := by
  rw [blOf, if_pos hs]; unfold bsT tabT; rw [bytesI_len]
set_option maxHeartbeats 1000000 in
theorem ownListW (A : Option Addr) (n c B : Nat) (zs : List Int) (w : World) (hI : Ints .i64 w B A n zs) (hB : B ≤ w.heap.size) (hn : n ≤ 1099511627776) :
    Calls Try.prog 82 #[.slice A n c] w (Longer 2 .i64 w.heap.size zs w) := by
  have HI := hide hI
  clear hI
  go_enter Try.func82, Try.ntmps82
  go_wp2_with (at_builtin; refine wpList_appL _ rfl _ _ _ rfl elem64 w.heap.size _ [] rfl (Own.lit0 w _ _) B A n c zs rfl (HI.out.below ((Below.refl B w).alloc hB _)) (by simp; omega) (by simp) ?_; intro v2 w2 hown hgr)
  have HO := hide (show Own w2 w.heap.size 2 .i64 v2 zs by simpa using hown)
  have HBl := hide (((Below.refl w.heap.size w).alloc (Nat.le_refl _) _).grown hgr (by simp) (fun g hg => ((Own.lit0 w 2 .i64).lt hg).1))
  clear hown hgr
  go_wp2_with fail
  go_ret
  exact ⟨_, rfl, HO, HBl⟩

def WmRel (w : World) (s : ByteArray) (zs : List Int) (V : Value) (v i : Value) (wr : World) : Prop :=
  ∃ (k : Nat) (A : Option Addr) (c : Nat) (Z : List Int), k ≤ sgN s ∧ i = .int .i64 k ∧ Hid (zs ++ wmP s k = Z) ∧ v = .slice A Z.length c ∧ Own wr w.heap.size 2 .i64 (.slice A Z.length c) Z ∧ OwnS wr w.heap.size V (sgN s) (segV (sgM s) (sgT s)) ∧ Below w.heap.size w wr

set_option maxRecDepth 100000 in
set_option maxHeartbeats 4000000 in
theorem specWm (A : Option Addr) (n c B : Nat) (zs : List Int) (s : ByteArray) (hs : s.size ≤ 1099511627776) (w : World) (hI : Ints .i64 w B A n zs) (hB : B ≤ w.heap.size) (hn : n ≤ 1048576) :
    Calls Try.prog 46 #[.slice A n c, .string s] w (NewInts2 2 .i64 (wmOf zs s) (wmCode zs s) w) := by
  have hl := hide hI.len
  have HI := hide hI
  have hn : n ≤ 1099511627776 := by omega
  clear hI
  rcases hb : isBits zs with _ | _
  · have HB := hide hb
    obtain ⟨h1, h2⟩ := wm_bad hb s
    rw [h1, h2]
    clear hb h1 h2
    go_enter Try.func46, Try.ntmps46
    go_wp2_with fail
    refine (specIsBits_no A n c B zs _ HI.out hn HB).mono ?_
    rintro e wz ⟨rfl, rfl⟩
    go_wp2_with fail
    go_ret2
    exact new2_nil' (Below.refl _ _)
  have HB := hide hb
  have hz8 : n ≤ 8192 := by have := isBits_len hb; rw [hl.out] at this; exact this
  have HBL := hide (specBl s hs)
  by_cases h4 : s.size ≤ 400
  · rw [bl_of h4, show lbCode s = 0 by rw [lbCode, if_pos h4]] at HBL
    have hlb := bsT_l s h4
    have HALL := hide (wmP_all s)
    have HLE := hide (wmP_len s)
    have HVV := hide (fun k => sg_valid s (k := k))
    have HSB := hide (specBest s h4)
    obtain ⟨L, hL⟩ : ∃ L, (bsT s 0).l = L := ⟨_, rfl⟩
    rw [hL] at HBL hlb HALL HLE
    have hw1 : IntKind.i64.wrap ((n : Int) + (L : Int)) = ((n + L : Nat) : Int) := by rw [IntWalk.i64_in _ ⟨by omega, by omega⟩]; omega
    by_cases hbig : 8192 < n + L
    · obtain ⟨h1, h2⟩ := wm_long hb h4 (by rw [hL, hl.out]; exact hbig)
      rw [h1, h2]
      obtain ⟨nL, hnL⟩ : ∃ nL, n + L = nL := ⟨_, rfl⟩
      rw [hnL] at hw1 hbig
      have z1 : (8192 : Int) < (nL : Int) := by omega
      clear hb hL hnL h1 h2
      go_enter Try.func46, Try.ntmps46
      go_wp2_with fail
      refine (specIsBits_yes A n c B zs _ HI.out hn HB).mono ?_
      rintro e wz ⟨rfl, rfl⟩
      go_wp2_with fail
      refine (HBL.out _).mono ?_
      rintro e w1 ⟨rfl, hb1⟩
      have HB1 := hide hb1
      clear hb1
      go_wp2_with fail
      go_ret2
      exact new2_nil' HB1.out
    · obtain ⟨h1, h2⟩ := wm_ok hb h4 (by rw [hL, hl.out]; omega)
      rw [h1, h2]
      obtain ⟨nL, hnL⟩ : ∃ nL, n + L = nL := ⟨_, rfl⟩
      have HNL := hide hnL
      rw [hnL] at hw1 hbig
      have z1 : ¬ (8192 : Int) < (nL : Int) := by omega
      clear hb hL hnL h1 h2
      go_enter Try.func46, Try.ntmps46
      go_wp2_with fail
      refine (specIsBits_yes A n c B zs _ HI.out hn HB).mono ?_
      rintro e wz ⟨rfl, rfl⟩
      go_wp2_with fail
      refine (HBL.out _).mono ?_
      rintro e w1 ⟨rfl, hb1⟩
      have HB1 := hide hb1
      clear hb1
      go_wp2_with fail
      refine (ownListW A n c B zs w1 (HI.out.below (HB1.out.mono hB)) (Nat.le_trans hB HB1.out.size) hn).mono ?_
      rintro e w2 ⟨v2, rfl, ho2, hb2⟩
      have HO2 := hide (ho2.low HB1.out.size)
      have HB2 := hide (HB1.out.trans (hb2.mono HB1.out.size))
      clear ho2 hb2
      obtain ⟨A2, c2, rfl, hc2⟩ := HO2.out.form
      go_wp2_with fail
      refine (HSB.out w2).mono ?_
      rintro e w3 ⟨A3, c3, rfl, hc3, hc3', ho3, hb3⟩
      have HS3 := hide (ho3.low HB2.out.size)
      have HO3 := hide (HO2.out.below hb3 (Nat.le_refl _))
      have HB3 := hide (HB2.out.trans (hb3.mono HB2.out.size))
      clear ho3 hb3 HO2 HSB HBL
      go_wp2_with fail
      go_loopw [8, 10] (fun v i wr => WmRel w s zs (.slice A3 (sgN s) c3) v i wr) (fun _ i _ => sgN s - (intOf i).toNat)
      case atStart => exact ⟨0, A2, c2, zs, Nat.zero_le _, rfl, by simp [Hid, wmP], rfl, HO3.out, HS3.out, HB3.out⟩
      case round =>
        clear HO3 HS3 HB3
        obtain ⟨k, A4, c4, Z, hk, rfl, hZ, hv4, ho, hsg, hb⟩ := hrel
        obtain ⟨v, hvv⟩ : ∃ v, v = u8 := ⟨_, rfl⟩
        rw [← hvv] at hv4
        subst hvv
        subst hv4
        have HZ := hZ
        have HO := hide ho
        have HSG := hide hsg
        have HBr := hide hb
        clear hZ ho hsg hb
        by_cases hlt : k < sgN s
        · obtain ⟨b, off, rfl, hbb, hc⟩ := HSG.out.segs (by omega)
          obtain ⟨e0, e1⟩ := hc k hlt
          have hv := HVV.out k hlt
          have h5 := HLE.out k hk
          have h6 : Z.length = n + (wmP s k).length := by rw [← HZ.out, List.length_append, hl.out]
          have HZ8 := hide (show Z.length ≤ 8192 by rw [h6]; have := HNL.out; omega)
          have HZN := hide (show zs ++ wmP s (k + 1) = Z ++ segBits (sgM s k) (bytesI (sgT s k)) by rw [wmP, ← List.append_assoc, HZ.out])
          have HN := hide (show sgN s ≤ 400 from Nat.le_trans (sgN_le s) h4)
          have hN := HN.out
          obtain ⟨m, hm⟩ : ∃ m, sgM s k = m := ⟨_, rfl⟩
          obtain ⟨t, ht⟩ : ∃ t, sgT s k = t := ⟨_, rfl⟩
          rw [hm] at e0 hv HZN
          rw [ht] at e1 hv HZN
          have HV := hide hv
          clear hm ht hc hv h5 h6
          go_wp2_with fail
          refine (specWrite A4 Z.length c4 wr.heap.size Z m t wr HO.out.ints (Nat.le_refl _) HZ8.out HV.out).mono ?_
          rintro e w5 ⟨v5, rfl, ho5, hb5⟩
          obtain ⟨A5, c5, rfl, hc5⟩ := ho5.form
          have HO5 := hide (ho5.low HBr.out.size)
          have HS5 := hide (HSG.out.next hb5)
          have HB5 := hide (HBr.out.trans (hb5.mono HBr.out.size))
          clear ho5 hb5 e0 e1
          go_wp2_with fail
          go_roundw
          case rel => exact ⟨k + 1, A5, c5, _, hlt, by go_num, HZN.out, by rw [List.length_append], HO5.out, HS5.out, HB5.out⟩
          case measure => simp [intOf]; omega
        · obtain rfl : k = sgN s := by omega
          have HF := hide (show NewInts2 2 .i64 (zs ++ wmP s (sgN s)) 0 w (.returned (.tuple #[.slice A4 Z.length c4, .int .i64 0])) wr by rw [HZ.out]; exact new2_of HO.out HBr.out (Nat.le_refl _))
          have hN : sgN s ≤ 400 := Nat.le_trans (sgN_le s) h4
          go_wp2_with fail
          go_ret2
          exact HF.out
  · rw [show lbCode s = 3 by rw [lbCode, if_neg h4]] at HBL
    obtain ⟨h1, h2⟩ := wm_big hb h4
    rw [h1, h2]
    clear hb h1 h2
    go_enter Try.func46, Try.ntmps46
    go_wp2_with fail
    refine (specIsBits_yes A n c B zs _ HI.out hn HB).mono ?_
    rintro e wz ⟨rfl, rfl⟩
    go_wp2_with fail
    refine (HBL.out _).mono ?_
    rintro e w1 ⟨rfl, hb1⟩
    have HB1 := hide hb1
    clear hb1
    go_wp2_with fail
    go_ret2
    exact new2_nil' HB1.out
end Go.Proofs.Ytdccofbfdlebgaa
