/-
  WriteSegment, of the program and of the model.
  Condition: the list is shorter than 2^20, the text than 2^40.
-/
import Derived.Test.YthmpfnbcodolcaaSgA
import Derived.Test.YthmpfnbcodolcaaSgE
import Derived.Test.YthmpfnbcodolcaaIsBits
namespace Go.Proofs.Ythmpfnbcodolcaa
open Go.RowKit
set_option linter.unusedSimpArgs false
set_option linter.unusedVariables false

theorem new2_of {r : List Int} {c : Int} {w w' : World} {v : Value} {base : Nat} (h : Own w' base 2 .i64 v r) (hb : Below w.heap.size w w') (hB : w.heap.size ≤ base) : NewInts2 2 .i64 r c w (.returned (.tuple #[v, .int .i64 c])) w' := by
  obtain ⟨A, m, rfl, hc⟩ := h.form
  exact ⟨A, m, rfl, hc, h.low hB, hb⟩
theorem new2_nil' {c : Int} {w w' : World} (hb : Below w.heap.size w w') : NewInts2 2 .i64 [] c w (.returned (.tuple #[.slice none 0 0, .int .i64 c])) w' :=
  ⟨none, 0, rfl, Nat.le_refl _, World.ownsRow_nil _ _ _ _, hb⟩

theorem segL_ok {m : Int} {s : ByteArray} (h : segB m (bytesI s) = true) : segL m (bytesI s) = ((slen m s.size : Nat) : Int) := by simp [segL, h, bytesI_len]

-- BOTH
set_option maxRecDepth 100000 in
set_option maxHeartbeats 2000000 in
theorem specWs (A : Option Addr) (n c B : Nat) (zs : List Int) (m : Int) (s : ByteArray) (hs : s.size ≤ 1099511627776) (w : World) (hI : Ints .i64 w B A n zs) (hB : B ≤ w.heap.size) (hn : n ≤ 1048576) :
    Calls Try.prog 15 #[.slice A n c, .agg #[.int .i64 m, .string s]] w (NewInts2 2 .i64 (wsOf zs m (bytesI s)) (wsCode zs m (bytesI s)) w) := by
  have hl := hide hI.len
  have HI := hide hI
  have hn : n ≤ 1099511627776 := by omega
  have HX := hide (SBox.start w 26 m s)
  obtain ⟨c0, c1⟩ := HX.out.cells
  clear hI
  rcases hb : isBits zs with _ | _
  · have HB := hide hb
    have HR := hide (ws_bad hb m (bytesI s))
    clear hb
    rw [HR.out, wsOf_bad HR (by decide)]
    go_enter Try.func15, Try.ntmps15
    go_wp2_with fail
    refine (specIsBits_no A n c B zs _ (HI.out.below (HX.out.2.mono hB)) hn HB).mono ?_
    rintro e wz ⟨rfl, hwz⟩
    rw [← hwz]
    clear hwz
    go_wp2_with fail
    go_ret2
    exact new2_nil' HX.out.2
  · have HB := hide hb
    have hz8 : n ≤ 8192 := by have := isBits_len hb; rw [hl.out] at this; exact this
    have HV := hide (specIsSeg m s hs)
    rcases hv : segB m (bytesI s) with _ | _
    · have HR := hide (ws_seg hb hv)
      rw [hv] at HV
      clear hb hv
      rw [HR.out, wsOf_bad HR (by decide)]
      go_enter Try.func15, Try.ntmps15
      go_wp2_with fail
      refine (specIsBits_yes A n c B zs _ (HI.out.below (HX.out.2.mono hB)) hn HB).mono ?_
      rintro e wz ⟨rfl, hwz⟩
      rw [← hwz]
      clear hwz
      go_wp2_with fail
      refine (HV.out _).mono ?_
      rintro e w1 ⟨rfl, hb1⟩
      have HX1 := hide (HX.out.next hb1)
      clear hb1 c0 c1
      go_wp2_with fail
      go_ret2
      exact new2_nil' HX1.out.2
    · obtain ⟨hm, hlen, _⟩ := seg_ok hv
      rw [bytesI_len] at hlen
      have HSV := hide hv
      have HBL := hide (bytesI_len s)
      have htw := twid_le (m := m) hlen.2
      have HLN := hide (specSegLen m s hs)
      rw [segL_ok hv] at HLN
      obtain ⟨T, hT⟩ : ∃ T, slen m s.size = T := ⟨_, rfl⟩
      have hTb : T ≤ 2827 := by rw [← hT]; unfold slen; omega
      rw [hT] at HLN
      have hw1 : IntKind.i64.wrap ((n : Int) + (T : Int)) = ((n + T : Nat) : Int) := by rw [IntWalk.i64_in _ ⟨by omega, by omega⟩]; omega
      by_cases hbig : 8192 < n + T
      · have HR := hide (ws_long hb hv (by rw [bytesI_len, hT, hl.out]; exact hbig))
        rw [hv] at HV
        rw [HR.out, wsOf_bad HR (by decide)]
        obtain ⟨nT, hnT⟩ : ∃ nT, n + T = nT := ⟨_, rfl⟩
        rw [hnT] at hw1 hbig
        have z1 : (8192 : Int) < (nT : Int) := by omega
        clear hb hv hm hT hnT
        go_enter Try.func15, Try.ntmps15
        go_wp2_with fail
        refine (specIsBits_yes A n c B zs _ (HI.out.below (HX.out.2.mono hB)) hn HB).mono ?_
        rintro e wz ⟨rfl, hwz⟩
        rw [← hwz]
        clear hwz
        go_wp2_with fail
        refine (HV.out _).mono ?_
        rintro e w1 ⟨rfl, hb1⟩
        have HX1 := hide (HX.out.next hb1)
        clear hb1 c0 c1
        obtain ⟨c0, c1⟩ := HX1.out.cells
        go_wp2_with fail
        refine (HLN.out _).mono ?_
        rintro e w2 ⟨rfl, hb2⟩
        have HX2 := hide (HX1.out.next hb2)
        clear hb2 c0 c1
        go_wp2_with fail
        go_ret2
        exact new2_nil' HX2.out.2
      · have HR := hide (ws_ok hb hv (by rw [bytesI_len, hT, hl.out]; omega))
        have HO := hide (wsOf_ok HR.out)
        rw [hv] at HV
        rw [HR.out, HO.out]
        obtain ⟨nT, hnT⟩ : ∃ nT, n + T = nT := ⟨_, rfl⟩
        rw [hnT] at hw1 hbig
        have z1 : ¬ (8192 : Int) < (nT : Int) := by omega
        clear hb hv hm hT hnT
        go_enter Try.func15, Try.ntmps15
        go_wp2_with fail
        refine (specIsBits_yes A n c B zs _ (HI.out.below (HX.out.2.mono hB)) hn HB).mono ?_
        rintro e wz ⟨rfl, hwz⟩
        rw [← hwz]
        clear hwz
        go_wp2_with fail
        refine (HV.out _).mono ?_
        rintro e w1 ⟨rfl, hb1⟩
        have HX1 := hide (HX.out.next hb1)
        clear hb1 c0 c1
        obtain ⟨c0, c1⟩ := HX1.out.cells
        go_wp2_with fail
        refine (HLN.out _).mono ?_
        rintro e w2 ⟨rfl, hb2⟩
        have HX2 := hide (HX1.out.next hb2)
        clear hb2 c0 c1
        obtain ⟨c0, c1⟩ := HX2.out.cells
        go_wp2_with fail
        refine (specWrite A n c B zs m s _ (HI.out.below (HX2.out.2.mono hB)) (Nat.le_trans hB HX2.out.2.size) hz8 HSV.out).mono ?_
        rintro e w3 ⟨v3, rfl, ho3, hb3⟩
        have HX3 := hide (HX2.out.next hb3)
        have HO3 := hide (ho3.low (Nat.le_of_lt HX2.out.lt))
        clear hb3 c0 c1 ho3
        go_wp2_with fail
        go_ret2
        exact new2_of HO3.out HX3.out.2 (Nat.le_refl _)

set_option maxRecDepth 100000 in
set_option maxHeartbeats 2000000 in
theorem implWs (A : Option Addr) (n c B : Nat) (zs : List Int) (m : Int) (s : ByteArray) (hs : s.size ≤ 1099511627776) (w : World) (hI : Ints .i64 w B A n zs) (hB : B ≤ w.heap.size) (hn : n ≤ 1048576) :
    Calls Try.prog 14 #[.slice A n c, .agg #[.int .i64 m, .string s]] w (NewInts2 2 .i64 (wsOf zs m (bytesI s)) (wsCode zs m (bytesI s)) w) := by
  have hl := hide hI.len
  have HI := hide hI
  have hn : n ≤ 1099511627776 := by omega
  have HX := hide (SBox.start w 26 m s)
  obtain ⟨c0, c1⟩ := HX.out.cells
  clear hI
  rcases hb : isBits zs with _ | _
  · have HB := hide hb
    have HR := hide (ws_bad hb m (bytesI s))
    clear hb
    rw [HR.out, wsOf_bad HR (by decide)]
    go_enter Try.func14, Try.ntmps14
    go_wp2_with fail
    refine (implIsBits_no A n c B zs _ (HI.out.below (HX.out.2.mono hB)) hn HB).mono ?_
    rintro e wz ⟨rfl, hwz⟩
    rw [← hwz]
    clear hwz
    go_wp2_with fail
    go_ret2
    exact new2_nil' HX.out.2
  · have HB := hide hb
    have hz8 : n ≤ 8192 := by have := isBits_len hb; rw [hl.out] at this; exact this
    have HV := hide (implSegValid m s hs)
    rcases hv : segB m (bytesI s) with _ | _
    · have HR := hide (ws_seg hb hv)
      rw [hv] at HV
      clear hb hv
      rw [HR.out, wsOf_bad HR (by decide)]
      go_enter Try.func14, Try.ntmps14
      go_wp2_with fail
      refine (implIsBits_yes A n c B zs _ (HI.out.below (HX.out.2.mono hB)) hn HB).mono ?_
      rintro e wz ⟨rfl, hwz⟩
      rw [← hwz]
      clear hwz
      go_wp2_with fail
      refine (HV.out _).mono ?_
      rintro e w1 ⟨rfl, hb1⟩
      have HX1 := hide (HX.out.next hb1)
      clear hb1 c0 c1
      go_wp2_with fail
      go_ret2
      exact new2_nil' HX1.out.2
    · obtain ⟨hm, hlen, _⟩ := seg_ok hv
      rw [bytesI_len] at hlen
      have HSV := hide hv
      have HBL := hide (bytesI_len s)
      have htw := twid_le (m := m) hlen.2
      have HLN := hide (implSegLen0 m s hm hlen.2)
      obtain ⟨T, hT⟩ : ∃ T, slen m s.size = T := ⟨_, rfl⟩
      have hTb : T ≤ 2827 := by rw [← hT]; unfold slen; omega
      rw [hT] at HLN
      have hw1 : IntKind.i64.wrap ((n : Int) + (T : Int)) = ((n + T : Nat) : Int) := by rw [IntWalk.i64_in _ ⟨by omega, by omega⟩]; omega
      by_cases hbig : 8192 < n + T
      · have HR := hide (ws_long hb hv (by rw [bytesI_len, hT, hl.out]; exact hbig))
        rw [hv] at HV
        rw [HR.out, wsOf_bad HR (by decide)]
        obtain ⟨nT, hnT⟩ : ∃ nT, n + T = nT := ⟨_, rfl⟩
        rw [hnT] at hw1 hbig
        have z1 : (8192 : Int) < (nT : Int) := by omega
        clear hb hv hm hT hnT
        go_enter Try.func14, Try.ntmps14
        go_wp2_with fail
        refine (implIsBits_yes A n c B zs _ (HI.out.below (HX.out.2.mono hB)) hn HB).mono ?_
        rintro e wz ⟨rfl, hwz⟩
        rw [← hwz]
        clear hwz
        go_wp2_with fail
        refine (HV.out _).mono ?_
        rintro e w1 ⟨rfl, hb1⟩
        have HX1 := hide (HX.out.next hb1)
        clear hb1 c0 c1
        obtain ⟨c0, c1⟩ := HX1.out.cells
        go_wp2_with fail
        refine (HLN.out _).mono ?_
        rintro e w2 ⟨rfl, hb2⟩
        have HX2 := hide (HX1.out.next hb2)
        clear hb2 c0 c1
        go_wp2_with fail
        go_ret2
        exact new2_nil' HX2.out.2
      · have HR := hide (ws_ok hb hv (by rw [bytesI_len, hT, hl.out]; omega))
        have HO := hide (wsOf_ok HR.out)
        rw [hv] at HV
        rw [HR.out, HO.out]
        obtain ⟨nT, hnT⟩ : ∃ nT, n + T = nT := ⟨_, rfl⟩
        rw [hnT] at hw1 hbig
        have z1 : ¬ (8192 : Int) < (nT : Int) := by omega
        clear hb hv hm hT hnT
        go_enter Try.func14, Try.ntmps14
        go_wp2_with fail
        refine (implIsBits_yes A n c B zs _ (HI.out.below (HX.out.2.mono hB)) hn HB).mono ?_
        rintro e wz ⟨rfl, hwz⟩
        rw [← hwz]
        clear hwz
        go_wp2_with fail
        refine (HV.out _).mono ?_
        rintro e w1 ⟨rfl, hb1⟩
        have HX1 := hide (HX.out.next hb1)
        clear hb1 c0 c1
        obtain ⟨c0, c1⟩ := HX1.out.cells
        go_wp2_with fail
        refine (HLN.out _).mono ?_
        rintro e w2 ⟨rfl, hb2⟩
        have HX2 := hide (HX1.out.next hb2)
        clear hb2 c0 c1
        obtain ⟨c0, c1⟩ := HX2.out.cells
        go_wp2_with (first
          | (at_make; refine wpList_mk0 _ rfl _ _ _ rfl elem64 .i64 .i64 _ nT rfl rfl (by omega) (by omega) ?_; intro w3 hown hbel; have HO3 := hide hown; have HX3 := hide (HX2.out.next hbel); have hs3 := hide hbel.size; clear hown hbel c0 c1)
          | (at_builtin; refine wpList_appL _ rfl _ _ _ rfl elem64 w2.heap.size _ [] rfl HO3.out B A n c zs rfl (HI.out.below (HX3.out.2.mono hB)) (by simp; omega) hs3.out ?_; intro v4 w4 hown hgr; have HO4 := hide (show Own w4 w2.heap.size 2 .i64 v4 zs by simpa using hown); have HX4 := hide (HX3.out.grow' hgr (fun g hg => Nat.lt_of_lt_of_le HX2.out.lt (HO3.out.lt hg).1)); have hs4 := hide (Nat.le_trans hs3.out hgr.size); clear hown hgr; obtain ⟨A4, c4, rfl, hc4⟩ := HO4.out.form; obtain ⟨c0, c1⟩ := HX4.out.cells))
        refine (implAppTo m s HSV.out A4 zs.length c4 w2.heap.size zs w4 HO4.out hs4.out (by rw [hl.out]; exact hz8)).mono ?_
        rintro e w5 ⟨v5, rfl, ho5, hb5, _, _⟩
        have HO5 := hide ho5
        have HB5 := hide (show Below w.heap.size w w5 from HX4.out.2.trans (hb5.mono (Nat.le_of_lt HX2.out.lt)))
        clear ho5 hb5 c0 c1
        go_wp2_with fail
        go_ret2
        exact new2_of HO5.out HB5.out (Nat.le_of_lt HX2.out.lt)

theorem ws_both (m : Int) (s : ByteArray) (zs : List Int) (hz : zs.length ≤ 1048576) (hs : s.size ≤ 1099511627776) :
    ∃ (r : List Int) (k : Int), r.length ≤ 1048576 ∧ (∀ (A : Option Addr) (n c B : Nat) (w : World), Ints .i64 w B A n zs → B ≤ w.heap.size → Calls Try.prog 15 #[.slice A n c, .agg #[.int .i64 m, .string s]] w (NewInts2 2 .i64 r k w)) ∧
      (∀ (A : Option Addr) (n c B : Nat) (w : World), Ints .i64 w B A n zs → B ≤ w.heap.size → Calls Try.prog 14 #[.slice A n c, .agg #[.int .i64 m, .string s]] w (NewInts2 2 .i64 r k w)) := by
  refine ⟨wsOf zs m (bytesI s), wsCode zs m (bytesI s), ?_, fun A n c B w hI hB => specWs A n c B zs m s hs w hI hB (by rw [← hI.len]; exact hz), fun A n c B w hI hB => implWs A n c B zs m s hs w hI hB (by rw [← hI.len]; exact hz)⟩
  unfold wsOf
  split
  · have h1 := txP_le m (bytesI s) (gct (gsz m) (bytesI s).length)
    have h2 := gct_le (gsz_pos m) (bytesI s).length
    rename_i hk
    have h3 : zs.length + slen m (bytesI s).length ≤ 8192 ∧ segB m (bytesI s) = true := by
      unfold wsCode at hk
      split at hk
      · split at hk
        · split at hk
          · exact ⟨by assumption, by assumption⟩
          · simp at hk
        · simp at hk
      · simp at hk
    obtain ⟨_, hl, _⟩ := seg_ok h3.2
    rw [List.length_append, segBits, List.length_append, headB_len]
    omega
  · simp
end Go.Proofs.Ythmpfnbcodolcaa
