/-
  The walk of the law FnCharacters: it returns true, and nothing that was there before is changed.
  Condition: the table of names reads as the row lays it.
-/
import Derived.Test.YtlphodhecaagbaaDoorSgDraw2
import Derived.Test.YtlphodhecaagbaaDoorSg6
import Derived.Test.YtlphodhecaagbaaDoorMn1
import Derived.Test.YtlphodhecaagbaaDoorDice
import Derived.Test.YtlphodhecaagbaaDoorLike
import Derived.Test.YtlphodhecaagbaaDoorShell
namespace Go.Proofs.YtlphodhecaagbaaDoor
open Go.RowKit
set_option linter.unusedVariables false
set_option linter.unusedSimpArgs false

theorem cbd_u8 {n : Int} (h : (Lit.int .u8 n).wf = true) : 0 ≤ n ∧ n ≤ 255 := by
  simp [Lit.wf, IntKind.min, IntKind.max, IntKind.signed, IntKind.bits] at h
  omega
theorem gbase_le' (m : Int) : gbase m ≤ 256 := by unfold gbase; (repeat' split) <;> omega
theorem cval_inj {m a b : Int} (h : cval m a = cval m b) (h0 : 0 ≤ cval m a) : a = b := by
  rw [← chr_cval h0, h, chr_cval (by omega)]
theorem narrow_all (s : ByteArray) : allV (narrow (bytesI s)) (bytesI s) = true := by
  unfold narrow
  rcases h1 : allV 1 (bytesI s) with _ | _
  · rcases h3 : allV 3 (bytesI s) with _ | _
    · rcases h2 : allV 2 (bytesI s) with _ | _
      · simp only [Bool.false_eq_true, if_false]
        unfold allV
        rw [List.all_eq_true]
        intro b hb
        obtain ⟨k, hk⟩ := List.getElem?_of_mem hb
        have hks : k < s.size := by have := (List.getElem?_eq_some_iff.1 hk).1; rw [bytesI_len] at this; exact this
        obtain ⟨y, _, hy, h0, h255⟩ := byteAt s hks
        rw [hk] at hy
        obtain rfl := Option.some.inj hy
        rw [cval_byte h0 h255]
        simpa using h0
      · simpa using h2
    · simpa using h3
  · simpa using h1
theorem NamesAt.next {W W' : World} (h : NamesAt W) (hb : Below W.heap.size W W') : NamesAt W' := fun j b hj =>
  (hb.cell (p := ⟨0, j, none⟩) (World.block_lt_of_cell? W ⟨0, j, none⟩ (h j b hj))).trans (h j b hj)

set_option maxRecDepth 100000 in
set_option maxHeartbeats 8000000 in
theorem fnCharactersWalk (a0 : Option Addr) (n0 c0 : Nat) (z0 : List Int) (w : World) (h0 : Came .u8 w a0 n0 c0 z0) (hN : NamesAt w) :
    Calls Tryd.prog 3 #[.slice a0 n0 c0] w fun e w' => e = .returned (.bool true) ∧ Below w.heap.size w w' := by
  obtain ⟨hI, hnc, hcm, hwf⟩ := h0
  have HI := hide hI
  have HN := hide hN
  have HBY := hide (show ∀ b ∈ z0, 0 ≤ b ∧ b ≤ 255 from fun b hb => cbd_u8 (hwf b hb))
  clear hI hwf hN
  unfold maxLen at hcm
  by_cases hbig : 4096 < n0
  · go_enter Tryd.func3, Tryd.ntmps3
    go_wp2_with fail
    refine (big_yes a0 n0 c0 w hbig (by omega)).mono ?_
    rintro e wz ⟨rfl, rfl⟩
    go_wp2_with fail
    go_ret
    exact ⟨rfl, Below.refl _ _⟩
  have hn0 : n0 ≤ 4096 := by omega
  go_enter Tryd.func3, Tryd.ntmps3
  go_wp2_with fail
  refine (big_no a0 n0 c0 w hn0).mono ?_
  rintro e wz ⟨rfl, rfl⟩
  go_wp2_with fail
  refine (drawCharVal a0 n0 c0 z0 w HI hn0 HBY).mono ?_
  rintro e w1 ⟨m, b, rfl, hm0, hm1, hb0, hb1, hbe⟩
  have HB1 := hide hbe
  have HN1 := hide (HN.out.next hbe)
  clear hbe
  go_wp2_with fail
  refine (implCval m b w1).mono ?_
  rintro e w2 ⟨rfl, hbe⟩
  have HB2 := hide (HB1.out.trans (hbe.mono HB1.out.size))
  have HN2 := hide (HN1.out.next hbe)
  clear hbe
  have HCC := hide (fun x => cval_inj (m := m) (a := b) (b := x))
  have hvr := cval_cases m b
  have hSV := hide (specValue m b)
  obtain ⟨v, hv⟩ : ∃ v, cval m b = v := ⟨_, rfl⟩
  rw [hv] at HCC hvr hSV ⊢
  have hvb : -1 ≤ v ∧ v ≤ 256 := by
    have := gbase_le' m
    rcases hvr with h | ⟨h1, h2, _⟩ <;> omega
  have hne : (v != v) = false := by simp
  clear hv hvr
  go_wp2_with fail
  refine (hSV.out _).mono ?_
  rintro e wz ⟨rfl, hwz⟩
  rw [hwz]
  clear hwz
  go_wp2_with fail
  refine (implModeName m _ HN2.out).mono ?_
  rintro e wz ⟨rfl, hwz⟩
  rw [hwz]
  clear hwz
  go_wp2_with fail
  refine (specModeName m _).mono ?_
  rintro e w3 ⟨rfl, hbe⟩
  have HB3 := hide (HB2.out.trans (hbe.mono HB2.out.size))
  clear hbe
  go_wp2_with fail
  refine (roll_any a0 n0 c0 z0 901 w3 ((HI.out.below HB3.out).more HB3.out.size) hn0 HBY).mono ?_
  rintro e w4 ⟨rfl, hdi, hbe⟩
  have HDI := hide hdi
  have HB4 := hide (HB3.out.trans (hbe.mono HB3.out.size))
  clear hdi hbe
  go_wp2_with fail
  refine (below_any _ _ a0 n0 c0 z0 256 w4 HDI.out (by omega) (by omega)).mono ?_
  rintro e w5 ⟨o, rfl, ho, _, hgr⟩
  have HB5 := hide (HB4.out.grown hgr HB4.out.size (fun r hr => by cases hr; exact HB3.out.size))
  clear hgr
  by_cases hv0 : v < 0
  · have hv1 : ¬ 0 ≤ v := by omega
    go_wp2_with fail
    refine (drawNarrow a0 n0 c0 z0 w5 ((HI.out.below HB5.out).more HB5.out.size) hn0 HBY).mono ?_
    rintro e w7 ⟨s, rfl, hs, hbe⟩
    have HB7 := hide (HB5.out.trans (hbe.mono HB5.out.size))
    clear hbe
    go_wp2_with fail
    refine (implNarrow s (by omega) _).mono ?_
    rintro e w8 ⟨rfl, hbe⟩
    have HB8 := hide (HB7.out.trans (hbe.mono HB7.out.size))
    clear hbe
    have HNA := hide (narrow_all s)
    have HSN := hide (specNarrow s (by omega))
    obtain ⟨nm, hnm⟩ : ∃ nm, narrow (bytesI s) = nm := ⟨_, rfl⟩
    rw [hnm] at HNA HSN ⊢
    have hne2 : (nm != nm) = false := by simp
    clear hnm
    go_wp2_with fail
    refine (HSN.out _).mono ?_
    rintro e w9 ⟨rfl, hbe⟩
    have HB9 := hide (HB8.out.trans (hbe.mono HB8.out.size))
    clear hbe
    go_wp2_with fail
    go_loopw [9] (fun i wr => ∃ k : Nat, k ≤ s.size ∧ i = .int .i64 k ∧ Below w.heap.size w wr) (fun i _ => s.size - (intOf i).toNat)
    case atStart => exact ⟨0, by omega, rfl, HB9.out⟩
    case round =>
      clear HB9 HB8 HB7
      obtain ⟨k, hk, rfl, hbr⟩ := hrel
      have HBr := hide hbr
      clear hbr
      by_cases hlt : k < s.size
      · obtain ⟨y, hy, hy2, hy0, hy1⟩ := byteAt s hlt
        have hc0 := all_at HNA.out hy2
        clear hy2
        have HCV := hide (implCval nm y)
        obtain ⟨cv, hcv⟩ : ∃ cv, cval nm y = cv := ⟨_, rfl⟩
        rw [hcv] at HCV hc0
        clear hcv
        go_wp2_with fail
        refine (HCV.out _).mono ?_
        rintro e w10 ⟨rfl, hbe⟩
        have HB10 := hide (HBr.out.trans (hbe.mono HBr.out.size))
        clear hbe
        go_wp2_with fail
        go_roundw
        case rel => exact ⟨k + 1, by omega, by go_num, HB10.out⟩
        case measure => simp [intOf]; omega
      · go_wp2_with fail
        go_ret
        exact ⟨rfl, HBr.out⟩
  · have hv1 : 0 ≤ v := by omega
    by_cases hob : (o : Int) = b
    · have e1 : ((o : Int) != b) = false := by simpa using hob
      clear hob
      go_wp2_with fail
      refine (drawNarrow a0 n0 c0 z0 w5 ((HI.out.below HB5.out).more HB5.out.size) hn0 HBY).mono ?_
      rintro e w7 ⟨s, rfl, hs, hbe⟩
      have HB7 := hide (HB5.out.trans (hbe.mono HB5.out.size))
      clear hbe
      go_wp2_with fail
      refine (implNarrow s (by omega) _).mono ?_
      rintro e w8 ⟨rfl, hbe⟩
      have HB8 := hide (HB7.out.trans (hbe.mono HB7.out.size))
      clear hbe
      have HNA := hide (narrow_all s)
      have HSN := hide (specNarrow s (by omega))
      obtain ⟨nm, hnm⟩ : ∃ nm, narrow (bytesI s) = nm := ⟨_, rfl⟩
      rw [hnm] at HNA HSN ⊢
      have hne2 : (nm != nm) = false := by simp
      clear hnm
      go_wp2_with fail
      refine (HSN.out _).mono ?_
      rintro e w9 ⟨rfl, hbe⟩
      have HB9 := hide (HB8.out.trans (hbe.mono HB8.out.size))
      clear hbe
      go_wp2_with fail
      go_loopw [9] (fun i wr => ∃ k : Nat, k ≤ s.size ∧ i = .int .i64 k ∧ Below w.heap.size w wr) (fun i _ => s.size - (intOf i).toNat)
      case atStart => exact ⟨0, by omega, rfl, HB9.out⟩
      case round =>
        clear HB9 HB8 HB7
        obtain ⟨k, hk, rfl, hbr⟩ := hrel
        have HBr := hide hbr
        clear hbr
        by_cases hlt : k < s.size
        · obtain ⟨y, hy, hy2, hy0, hy1⟩ := byteAt s hlt
          have hc0 := all_at HNA.out hy2
          clear hy2
          have HCV := hide (implCval nm y)
          obtain ⟨cv, hcv⟩ : ∃ cv, cval nm y = cv := ⟨_, rfl⟩
          rw [hcv] at HCV hc0
          clear hcv
          go_wp2_with fail
          refine (HCV.out _).mono ?_
          rintro e w10 ⟨rfl, hbe⟩
          have HB10 := hide (HBr.out.trans (hbe.mono HBr.out.size))
          clear hbe
          go_wp2_with fail
          go_roundw
          case rel => exact ⟨k + 1, by omega, by go_num, HB10.out⟩
          case measure => simp [intOf]; omega
        · go_wp2_with fail
          go_ret
          exact ⟨rfl, HBr.out⟩
    · have e1 : ((o : Int) != b) = true := by simpa using hob
      have HNV := hide (show cval m (o : Int) ≠ v from fun h => hob (HCC.out _ h.symm hv1).symm)
      have HCV6 := hide (implCval m (o : Int))
      obtain ⟨v6, hv6⟩ : ∃ v6, cval m (o : Int) = v6 := ⟨_, rfl⟩
      rw [hv6] at HNV HCV6
      have e2 : (v6 == v) = false := by simpa using HNV.out
      clear hob hv6
      go_wp2_with fail
      refine (HCV6.out _).mono ?_
      rintro e w6 ⟨rfl, hbe⟩
      have HB6 := hide (HB5.out.trans (hbe.mono HB5.out.size))
      clear hbe
      go_wp2_with fail
      refine (drawNarrow a0 n0 c0 z0 w6 ((HI.out.below HB6.out).more HB6.out.size) hn0 HBY).mono ?_
      rintro e w7 ⟨s, rfl, hs, hbe⟩
      have HB7 := hide (HB6.out.trans (hbe.mono HB6.out.size))
      clear hbe
      go_wp2_with fail
      refine (implNarrow s (by omega) _).mono ?_
      rintro e w8 ⟨rfl, hbe⟩
      have HB8 := hide (HB7.out.trans (hbe.mono HB7.out.size))
      clear hbe
      have HNA := hide (narrow_all s)
      have HSN := hide (specNarrow s (by omega))
      obtain ⟨nm, hnm⟩ : ∃ nm, narrow (bytesI s) = nm := ⟨_, rfl⟩
      rw [hnm] at HNA HSN ⊢
      have hne2 : (nm != nm) = false := by simp
      clear hnm
      go_wp2_with fail
      refine (HSN.out _).mono ?_
      rintro e w9 ⟨rfl, hbe⟩
      have HB9 := hide (HB8.out.trans (hbe.mono HB8.out.size))
      clear hbe
      go_wp2_with fail
      go_loopw [9] (fun i wr => ∃ k : Nat, k ≤ s.size ∧ i = .int .i64 k ∧ Below w.heap.size w wr) (fun i _ => s.size - (intOf i).toNat)
      case atStart => exact ⟨0, by omega, rfl, HB9.out⟩
      case round =>
        clear HB9 HB8 HB7
        obtain ⟨k, hk, rfl, hbr⟩ := hrel
        have HBr := hide hbr
        clear hbr
        by_cases hlt : k < s.size
        · obtain ⟨y, hy, hy2, hy0, hy1⟩ := byteAt s hlt
          have hc0 := all_at HNA.out hy2
          clear hy2
          have HCV := hide (implCval nm y)
          obtain ⟨cv, hcv⟩ : ∃ cv, cval nm y = cv := ⟨_, rfl⟩
          rw [hcv] at HCV hc0
          clear hcv
          go_wp2_with fail
          refine (HCV.out _).mono ?_
          rintro e w10 ⟨rfl, hbe⟩
          have HB10 := hide (HBr.out.trans (hbe.mono HBr.out.size))
          clear hbe
          go_wp2_with fail
          go_roundw
          case rel => exact ⟨k + 1, by omega, by go_num, HB10.out⟩
          case measure => simp [intOf]; omega
        · go_wp2_with fail
          go_ret
          exact ⟨rfl, HBr.out⟩
end Go.Proofs.YtlphodhecaagbaaDoor
