/-
  The order of a stream as the model lists it.
  Condition: the layout has one block at least, and its numbers are small.
-/
import Derived.Test.YtlphodhecaagbaaGreatLay4
import Derived.Test.YtlphodhecaagbaaGreatLOrd
import Derived.Test.YtlphodhecaagbaaGreatMat
namespace Go.Proofs.YtlphodhecaagbaaGreat
open Go.RowKit
set_option linter.unusedSimpArgs false
set_option linter.unusedVariables false

theorem ridx_start0 {D C e : Nat} (he : e ≤ D / C) : ridx D C e 0 = lidx D C e := by
  unfold ridx lidx
  rw [if_pos he]
  split
  · rfl
  · rw [show e = D / C by omega]; omega
theorem ridx_skip0 {D C e b : Nat} (he : lsz D C b ≤ e) (he2 : e ≤ D / C) : ridx D C e (b + 1) = ridx D C e b := by
  have h0 := lsz_ge D C b
  have h2 : b < C - D % C := Nat.lt_of_not_le fun h => by rw [lsz_long h] at he; omega
  unfold ridx
  rw [if_neg (by omega), if_neg (by omega)]
  omega
/-- What the model's order has at an index. -/
def ordZ (D C i : Nat) : List Int := [((pairOf D C i).1 : Int), ((pairOf D C i).2 : Int)]
theorem ordZ_at {D C i b e : Nat} (hb : b < C) (h : i = sidx D C b e) : ordZ D C i = [(b : Int), (e : Int)] := by unfold ordZ; rw [h, pair_sidx hb]
theorem own_lit2 (w : World) (base : Nat) (hb : base ≤ w.heap.size) (x y : Int) : Own (w.alloc (.cells #[.int .i64 x, .int .i64 y] 2)) base 2 .i64 (.slice (some ⟨w.heap.size, 0, none⟩) 2 2) [x, y] :=
  World.ownsRow_lit (base := base) (size := 1) w #[.int .i64 x, .int .i64 y] 2 hb (by decide) rfl

/-- append(out, []int64{x, y}). -/
theorem wpList_appPair {base : Nat} {v : Value} {n : Nat} {vs : List Value} {Z : Nat → List Int} (w : World) {ops : Array Oper} {rest : List Oper} {o : Oper} {a : Act} {Q : Exit → Act → World → Prop} (hgd : o.guard = none) (s xo : Operand)
    (ho : o.op = .call { callee := .builtin .append, args := #[s, xo], argTypes := #[65, 65] })
    (hs : a.eval s = v) (h : Mat w base v n vs Z) (x y : Int) (hx : a.eval xo = .slice (some ⟨w.heap.size + 1, 0, none⟩) 1 1) (hlen : n ≤ 100000) (hbase : base ≤ w.heap.size)
    (hk : ∀ v' w' vs', Mat w' base v' (n + 1) vs' (fun i => if i = n then [x, y] else Z i) → w.grownBy w' v.ownBlock → wpList Tryz.prog ops Q rest (a.put o.dst v') w') :
    wpList Tryz.prog ops Q (o :: rest) a ((w.alloc (.cells #[.int .i64 x, .int .i64 y] 2)).alloc (.cells #[.slice (some ⟨w.heap.size, 0, none⟩) 2 2] 28)) := by
  refine wpList_appRow (w.alloc (.cells #[.int .i64 x, .int .i64 y] 2)) hgd s xo ho hs (h.alloc _) (.slice (some ⟨w.heap.size, 0, none⟩) 2 2) [x, y] (own_lit2 w base hbase x y) (fun b hb => ?_) (by rw [alloc_size]; exact hx) (by omega) (by rw [alloc_size]; omega) fun v' w' hm hg => hk v' w' _ hm (grown_trans (World.grownBy_alloc w _ _) hg)
  have hb' : w.heap.size = b := by simpa [Value.ownBlock] using hb
  refine ⟨fun j t ht e => ?_, fun e => ?_⟩
  · have := (h.rows.lt ht e).2
    omega
  · have := (World.ownsRow.lt h.row b e).2
    omega
theorem ord_next {w w' : World} {base i : Nat} {v : Value} {vs : List Value} {D C : Nat} {x y : Int} (h : Mat w' base v (i + 1) vs (fun j => if j = i then [x, y] else ordZ D C j)) (hz : ordZ D C i = [x, y]) : Mat w' base v (i + 1) vs (ordZ D C) :=
  h.congr fun j _ => by
    by_cases hj : j = i
    · subst hj; simp [hz]
    · simp [hj]

def Ord (w : World) (D C n : Nat) (v : Value) (wr : World) : Prop := ∃ vs, Mat wr (w.heap.size + 1) v n vs (ordZ D C)
def NewOrd (D C n : Nat) (w : World) (x : Ending) (w' : World) : Prop := ∃ v vs, x = .returned v ∧ Mat w' (w.heap.size + 1) v n vs (ordZ D C) ∧ Below w.heap.size w w'
def P1Rel (w : World) (p k g : Int) (D K C : Nat) (v i4 : Value) (wr : World) : Prop :=
  ∃ e : Nat, e ≤ D / C + 1 ∧ i4 = .int .i64 e ∧ Ord w D C (lidx D C e) v wr ∧ YBox w wr p k g D K C
def P2Rel (w : World) (p k g : Int) (D K C e : Nat) (v i5 : Value) (wr : World) : Prop :=
  ∃ b : Nat, b ≤ C ∧ i5 = .int .i64 b ∧ Ord w D C (ridx D C e b) v wr ∧ YBox w wr p k g D K C
def P3Rel (w : World) (p k g : Int) (D K C : Nat) (v i6 : Value) (wr : World) : Prop :=
  ∃ c : Nat, c ≤ K ∧ i6 = .int .i64 c ∧ Ord w D C (D + c * C) v wr ∧ YBox w wr p k g D K C
def P4Rel (w : World) (p k g : Int) (D K C c : Nat) (v i7 : Value) (wr : World) : Prop :=
  ∃ b : Nat, b ≤ C ∧ i7 = .int .i64 b ∧ Ord w D C (D + c * C + b) v wr ∧ YBox w wr p k g D K C

set_option maxRecDepth 100000 in
set_option maxHeartbeats 4000000 in
theorem specOrder (p k g : Int) (D K C : Nat) (hC : 1 ≤ C) (hC16 : C ≤ 16) (hDC : C ≤ D) (hK : K ≤ 1500) (hN : D + C * K ≤ 1500) (w : World) :
    Calls Tryz.prog 37 #[.agg #[.int .i64 p, .int .i64 k, .int .i64 g, .int .i64 D, .int .i64 K, .int .i64 C]] w (NewOrd D C (D + C * K) w) := by
  have HX := hide (YBox.start w p k g D K C)
  obtain ⟨c0, c1, c2, c3, c4, c5⟩ := HX.out.cells
  have hq := quoN D C
  have hdd := Nat.div_le_self D C
  obtain ⟨q, hq'⟩ : ∃ q, D / C = q := ⟨_, rfl⟩
  have HQ := hide hq'
  rw [hq'] at hq hdd
  have hC0 : (C : Int) ≠ 0 := by omega
  clear hq'
  go_enter Tryz.func37, Tryz.ntmps37
  go_wp2_with fail
  have HX1 := hide (HX.out.alloc (.cells #[] 28))
  have HO1 := hide (show Ord w D C 0 (.slice (some ⟨w.heap.size + 1, 0, none⟩) 0 0) ((w.alloc (.cells #[.int .i64 p, .int .i64 k, .int .i64 g, .int .i64 D, .int .i64 K, .int .i64 C] 27)).alloc (.cells #[] 28)) from ⟨[], by
    have h := World.ownsRow_lit (base := w.heap.size + 1) (size := 1) (e := 28) (w.alloc (.cells #[.int .i64 p, .int .i64 k, .int .i64 g, .int .i64 D, .int .i64 K, .int .i64 C] 27)) #[] 0 (by rw [alloc_size]; omega) (by decide) rfl
    rw [alloc_size] at h
    exact h, Rowz.nil _ _ _, fun k u hu => by simp at hu⟩)
  clear HX c0 c1 c2 c3 c4 c5
  go_loopw [3, 4] (fun v i4 wr => P1Rel w p k g D K C v i4 wr) (fun _ i4 _ => q + 1 - (intOf i4).toNat)
  case atStart => exact ⟨0, Nat.zero_le _, rfl, by rw [lidx_zero]; exact HO1.out, HX1.out⟩
  case round =>
    clear HX1 HO1
    obtain ⟨e, he, rfl, ⟨vs, HM⟩, HX⟩ := hrel
    have HM := hide HM
    have HX := hide HX
    obtain ⟨v, hv⟩ : ∃ v, v = u3 := ⟨_, rfl⟩
    subst hv
    rw [HQ.out] at he
    obtain ⟨c0, c1, c2, c3, c4, c5⟩ := HX.out.cells
    by_cases hle : e ≤ q
    · have HS := hide (ridx_start0 (D := D) (C := C) (e := e) (by rw [HQ.out]; exact hle))
      go_wp2_with fail
      go_loopw [3, 5] (fun v i5 wr => P2Rel w p k g D K C e v i5 wr) (fun _ i5 _ => C - (intOf i5).toNat)
      case atStart => exact ⟨0, Nat.zero_le _, rfl, by rw [HS.out]; exact ⟨vs, HM.out⟩, HX.out⟩
      case round =>
        clear HM HX c0 c1 c2 c3 c4 c5
        obtain ⟨b, hb, rfl, ⟨vs, HM⟩, HX⟩ := hrel
        have HM := hide HM
        have HX := hide HX
        obtain ⟨v, hv⟩ : ∃ v, v = u3 := ⟨_, rfl⟩
        subst hv
        obtain ⟨c0, c1, c2, c3, c4, c5⟩ := HX.out.cells
        by_cases hbl : b < C
        · go_wp2_with fail
          refine (specSizeZ p k g K D C b (b : Int) rfl hC (by omega) (by omega) hbl wr).mono ?_
          rintro e' w2 ⟨rfl, hb2⟩
          have HM2 := hide (HM.out.next hb2)
          have HX2 := hide (HX.out.next hb2)
          clear hb2 c0 c1 c2 c3 c4 c5 HX HM
          obtain ⟨c0, c1, c2, c3, c4, c5⟩ := HX2.out.cells
          by_cases hs : lsz D C b ≤ e
          · have HR := hide (ridx_skip0 hs (by rw [HQ.out]; exact hle))
            obtain ⟨s, hs'⟩ : ∃ s, lsz D C b = s := ⟨_, rfl⟩
            rw [hs'] at hs ⊢
            clear hs'
            go_wp2_with fail
            go_roundw
            case rel => exact ⟨b + 1, by omega, by go_num, by rw [HR.out]; exact ⟨vs, HM2.out⟩, HX2.out⟩
            case measure => simp [intOf]; omega
          · have hne : e < lsz D C b := Nat.lt_of_not_le hs
            obtain ⟨i, hi⟩ : ∃ i, ridx D C e b = i := ⟨_, rfl⟩
            have hiD : i < D + C * K := by have := ridx_lt hbl hne; omega
            have HR := hide (show ridx D C e (b + 1) = i + 1 by rw [ridx_next hne, hi])
            have HZ := hide (ordZ_at (D := D) (i := i) (b := b) (e := e) hbl (by rw [ridx_is hne, hi]))
            rw [hi] at HM2
            obtain ⟨s, hs'⟩ : ∃ s, lsz D C b = s := ⟨_, rfl⟩
            rw [hs'] at hne ⊢
            have hi15 : i ≤ 1500 := by omega
            have hwz : w.heap.size + 1 ≤ w2.heap.size := HX2.out.lt
            clear hs' hs hi
            go_wp2_with (at_builtin; refine wpList_appPair w2 rfl _ _ rfl rfl HM2.out (b : Int) (e : Int) rfl (by omega) (by omega) ?_; intro v3 w3 vs3 hm3 hg3)
            have HM3 := hide (ord_next (w := w) hm3 HZ.out)
            have HX3 := hide (HX2.out.grow hg3 (fun b' hb' => by have := (World.ownsRow.lt HM2.out.row b' hb').1; omega))
            clear hm3 hg3 c0 c1 c2 c3 c4 c5
            go_wp2_with fail
            go_roundw
            case rel => exact ⟨b + 1, by omega, by go_num, by rw [HR.out]; exact ⟨vs3, HM3.out⟩, HX3.out⟩
            case measure => simp [intOf]; omega
        · obtain rfl : b = C := by omega
          have HR := hide (ridx_end (D := D) e hC)
          go_wp2_with fail
          go_roundw
          case rel => exact ⟨e + 1, by rw [HQ.out]; omega, by go_num, by rw [← HR.out]; exact ⟨vs, HM.out⟩, HX.out⟩
          case measure => simp [intOf]; omega
    · have hgt : q < e := Nat.lt_of_not_le hle
      have hdec : decide (e ≤ q) = false := decide_eq_false hle
      have HR := hide (show lidx D C e = D + 0 * C by unfold lidx; rw [if_neg (by rw [HQ.out]; omega)]; omega)
      clear hle
      go_wp2_with fail
      go_loopw [3, 6] (fun v i6 wr => P3Rel w p k g D K C v i6 wr) (fun _ i6 _ => K - (intOf i6).toNat)
      case atStart => exact ⟨0, Nat.zero_le _, rfl, by rw [← HR.out]; exact ⟨vs, HM.out⟩, HX.out⟩
      case round =>
        clear HM HX c0 c1 c2 c3 c4 c5
        obtain ⟨c, hc, rfl, ⟨vs, HM⟩, HX⟩ := hrel
        have HM := hide HM
        have HX := hide HX
        obtain ⟨v, hv⟩ : ∃ v, v = u3 := ⟨_, rfl⟩
        subst hv
        obtain ⟨c0, c1, c2, c3, c4, c5⟩ := HX.out.cells
        by_cases hlt : c < K
        · go_wp2_with fail
          go_loopw [3, 7] (fun v i7 wr => P4Rel w p k g D K C c v i7 wr) (fun _ i7 _ => C - (intOf i7).toNat)
          case atStart => exact ⟨0, Nat.zero_le _, rfl, ⟨vs, HM.out⟩, HX.out⟩
          case round =>
            clear HM HX c0 c1 c2 c3 c4 c5
            obtain ⟨b, hb, rfl, ⟨vs, HM⟩, HX⟩ := hrel
            have HM := hide HM
            have HX := hide HX
            obtain ⟨v, hv⟩ : ∃ v, v = u3 := ⟨_, rfl⟩
            subst hv
            obtain ⟨c0, c1, c2, c3, c4, c5⟩ := HX.out.cells
            by_cases hbl : b < C
            · go_wp2_with fail
              refine (specSizeZ p k g K D C b (b : Int) rfl hC (by omega) (by omega) hbl wr).mono ?_
              rintro e' w2 ⟨rfl, hb2⟩
              have HM2 := hide (HM.out.next hb2)
              have HX2 := hide (HX.out.next hb2)
              clear hb2 c0 c1 c2 c3 c4 c5 HX HM
              obtain ⟨c0, c1, c2, c3, c4, c5⟩ := HX2.out.cells
              have hiD := cidx_lt (D := D) (C := C) (K := K) hlt hbl
              have hls := lsz_le D C b
              obtain ⟨i, hi⟩ : ∃ i, D + c * C + b = i := ⟨_, rfl⟩
              rw [hi] at hiD HM2
              have HR := hide (show D + c * C + (b + 1) = i + 1 by omega)
              have hz := ordZ_at (D := D) (i := i) (b := b) (e := lsz D C b + c) hbl (by rw [cidx_is, hi])
              have hs1500 : lsz D C b ≤ 1501 := by rw [HQ.out] at hls; omega
              obtain ⟨s, hs'⟩ : ∃ s, lsz D C b = s := ⟨_, rfl⟩
              rw [hs'] at hz hs1500 ⊢
              have HZ := hide (show ordZ D C i = [(b : Int), (s : Int) + (c : Int)] by rw [hz]; simp)
              have hi15 : i ≤ 1500 := by omega
              have hwz : w.heap.size + 1 ≤ w2.heap.size := HX2.out.lt
              clear hs' hi hls hz
              go_wp2_with (at_builtin; refine wpList_appPair w2 rfl _ _ rfl rfl HM2.out (b : Int) ((s : Int) + (c : Int)) rfl (by omega) (by omega) ?_; intro v3 w3 vs3 hm3 hg3)
              have HM3 := hide (ord_next (w := w) hm3 HZ.out)
              have HX3 := hide (HX2.out.grow hg3 (fun b' hb' => by have := (World.ownsRow.lt HM2.out.row b' hb').1; omega))
              clear hm3 hg3 c0 c1 c2 c3 c4 c5
              go_wp2_with fail
              go_roundw
              case rel => exact ⟨b + 1, by omega, by go_num, by rw [HR.out]; exact ⟨vs3, HM3.out⟩, HX3.out⟩
              case measure => simp [intOf]; omega
            · obtain rfl : b = C := by omega
              have HR := hide (show D + (c + 1) * b = D + c * b + b by rw [Nat.add_mul, Nat.one_mul]; omega)
              go_wp2_with fail
              go_roundw
              case rel => exact ⟨c + 1, by omega, by go_num, by rw [HR.out]; exact ⟨vs, HM.out⟩, HX.out⟩
              case measure => simp [intOf]; omega
        · obtain rfl : c = K := by omega
          have HR := hide (show D + c * C = D + C * c by rw [Nat.mul_comm])
          have HF := hide (show NewOrd D C (D + C * c) w (.returned v) wr from ⟨v, vs, rfl, by rw [← HR.out]; exact HM.out, HX.out.2⟩)
          go_wp2_with fail
          go_ret
          exact HF.out
end Go.Proofs.YtlphodhecaagbaaGreat
