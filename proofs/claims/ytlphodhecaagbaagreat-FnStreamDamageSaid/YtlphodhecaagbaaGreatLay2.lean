/-
  The order of a stream as the program produces it: what is ranged over gives each index, with the block and the element that lie there, in their order.
  Condition: the layout has one block at least, and its numbers are small.
-/
import Derived.Test.YtlphodhecaagbaaGreatLay3
import Derived.Test.YtlphodhecaagbaaGreatLOrd
import Derived.RangeFuncNested
import Derived.RangeFuncBound
import Derived.RangeFuncCalls
import Derived.RangeFuncLeaves
import Derived.Shelf.Abstract
import Derived.Shelf.RegionOpen
import Derived.WalkKit
import Derived.OwnWalkIn
import Derived.TacticsInMore
import Derived.LoopNIn
import Derived.LoopIn
namespace Go.Proofs.YtlphodhecaagbaaGreat
open Go Go.RowKit
set_option linter.unusedSimpArgs false
set_option linter.unusedVariables false
attribute [local go_sem] Oper.semAt_some

/-- A layout lies in a block. -/
def YRow (W : World) (b : Nat) (p k g D K C : Int) : Prop := W.heap[b]? = some (.cells #[.int .i64 p, .int .i64 k, .int .i64 g, .int .i64 D, .int .i64 K, .int .i64 C] 27 (0, 0))
theorem YRow.cells {W : World} {b : Nat} {p k g D K C : Int} (h : YRow W b p k g D K C) : W.cell? ⟨b, 0, none⟩ = some (.int .i64 p) ∧ W.cell? ⟨b, 1, none⟩ = some (.int .i64 k) ∧ W.cell? ⟨b, 2, none⟩ = some (.int .i64 g) ∧ W.cell? ⟨b, 3, none⟩ = some (.int .i64 D) ∧ W.cell? ⟨b, 4, none⟩ = some (.int .i64 K) ∧ W.cell? ⟨b, 5, none⟩ = some (.int .i64 C) :=
  ⟨cell_of_row W b 0 _ _ _ h, cell_of_row W b 1 _ _ _ h, cell_of_row W b 2 _ _ _ h, cell_of_row W b 3 _ _ _ h, cell_of_row W b 4 _ _ _ h, cell_of_row W b 5 _ _ _ h⟩
theorem YRow.next {W W' : World} {b : Nat} {p k g D K C : Int} (h : YRow W b p k g D K C) (hb : Below W.heap.size W W') : YRow W' b p k g D K C := by
  unfold YRow; rw [hb.block _ (Array.getElem?_eq_some_iff.1 h).1]; exact h
theorem YRow.same {W W' : World} {b : Nat} {p k g D K C : Int} (h : YRow W b p k g D K C) (hb : W'.heap[b]? = W.heap[b]?) : YRow W' b p k g D K C := by unfold YRow; rw [hb]; exact h

/-- What comes at an index. -/
def encO (D C N : Nat) (x : Fin N) : Array Value := #[.int .i64 (x.val : Nat), .agg #[.int .i64 ((pairOf D C x.val).1 : Nat), .int .i64 ((pairOf D C x.val).2 : Nat)]]
theorem encO_at {D C N i b e : Nat} (hi : i < N) (hC : b < C) (h : i = sidx D C b e) : encO D C N ⟨i, hi⟩ = #[.int .i64 (i : Nat), .agg #[.int .i64 (b : Nat), .int .i64 (e : Nat)]] := by
  unfold encO
  simp only []
  rw [h, pair_sidx hC]

def O1Rel (p k g : Int) (D K C Bn : Nat) (J : List (Fin (D + C * K)) → World → Prop) (i3 i13 : Value) (wr : World) : Prop :=
  ∃ e : Nat, e ≤ lsz D C (C - 1) ∧ i13 = .int .i64 e ∧ i3 = .int .i64 (lidx D C e : Nat) ∧ YRow wr Bn p k g D K C ∧ J (upsF (D + C * K) (lidx D C e)) wr
def O2Rel (p k g : Int) (D K C Bn e : Nat) (J : List (Fin (D + C * K)) → World → Prop) (i3 i18 : Value) (wr : World) : Prop :=
  ∃ b : Nat, b ≤ C ∧ i18 = .int .i64 b ∧ i3 = .int .i64 (ridx D C e b : Nat) ∧ YRow wr Bn p k g D K C ∧ J (upsF (D + C * K) (ridx D C e b)) wr
def O3Rel (p k g : Int) (D K C Bn : Nat) (J : List (Fin (D + C * K)) → World → Prop) (i3 i39 : Value) (wr : World) : Prop :=
  ∃ c : Nat, c ≤ K ∧ i39 = .int .i64 c ∧ i3 = .int .i64 (D + c * C : Nat) ∧ YRow wr Bn p k g D K C ∧ J (upsF (D + C * K) (D + c * C)) wr
def O4Rel (p k g : Int) (D K C Bn c : Nat) (J : List (Fin (D + C * K)) → World → Prop) (i3 i44 : Value) (wr : World) : Prop :=
  ∃ b : Nat, b ≤ C ∧ i44 = .int .i64 b ∧ i3 = .int .i64 (D + c * C + b : Nat) ∧ YRow wr Bn p k g D K C ∧ J (upsF (D + C * K) (D + c * C + b)) wr
def OPost (N : Nat) (J Jx : List (Fin N) → World → Prop) (e : Ending) (W' : World) : Prop :=
  (∃ v, e = .returned v) ∧ ((∃ ys, ys = List.finRange N ∧ J ys W') ∨ (∃ pre, pre <+: List.finRange N ∧ Jx pre W'))
/-- What a round leaves. -/
def OYield (N Bn l n : Nat) (J Jx : List (Fin N) → World → Prop) (pre : List (Fin N)) (x : Fin N) (args : Array Value) (W : World) : Prop :=
  YieldAt Fence.wide (n - 1) Tryz.prog l args W fun e W' => (e = .returned (.bool true) ∧ J (pre ++ [x]) W' ∧ W'.heap[Bn]? = W.heap[Bn]?) ∨ (e = .returned (.bool false) ∧ Jx (pre ++ [x]) W')

theorem ups_pre (N i : Nat) : upsF N i <+: List.finRange N := List.take_prefix _ _

set_option maxRecDepth 100000 in
set_option maxHeartbeats 4000000 in
theorem order1_in (p k g : Int) (D K C n l Bn : Nat) (hn : 1 ≤ n) (hC : 1 ≤ C) (hC16 : C ≤ 16) (hDC : C ≤ D) (hK : K ≤ 1500) (hN : D + C * K ≤ 1500) (J Jx : List (Fin (D + C * K)) → World → Prop)
    (hJ : ∀ s W W', J s W → Below W.heap.size W W' → J s W')
    (hY : ∀ pre x W, J pre W → pre.length < D + C * K → OYield (D + C * K) Bn l n J Jx pre x (encO D C (D + C * K) x) W)
    (W : World) (hB : YRow W Bn p k g D K C) (h0 : J [] W) :
    CallsIn Fence.wide n Tryz.prog 92 #[.func (.yield l) #[] #[], .pointer (some ⟨Bn, 0, none⟩)] W (OPost (D + C * K) J Jx) := by
  have HJ := hide hJ
  have HY := hide hY
  have HB := hide hB
  have H0 := hide h0
  have hcell := hB.cells
  obtain ⟨c0, c1, c2, c3, c4, c5⟩ := hcell
  clear hJ hY hB h0
  refine callsIn_of_wp Tryz.func92 rfl trivial ?_ rfl
  simp only [Tryz.ntmps92, List.size_toArray, List.length_cons, List.length_nil, Nat.reduceAdd, Nat.reduceSub, Array.replicate_succ, Array.replicate_zero, List.push_toArray, List.append_toArray, List.nil_append, List.cons_append]
  have hw1 : IntKind.i64.wrap ((C : Int) - 1) = (C : Int) - 1 := IntWalk.i64_in _ ⟨by omega, by omega⟩
  have hls := lsz_le D C (C - 1)
  have hdd := Nat.div_le_self D C
  have hlsz : lsz D C (C - 1) ≤ 1501 := by omega
  gi_wp2_with fail
  refine ⟨trivial, (callsIn_wide.2 (implDataLenZ p k g K D C (C - 1) ((C : Int) - 1) (by omega) hC (by omega) (by omega) (by omega) W)).mono ?_⟩
  rintro e w1 ⟨rfl, hb⟩
  have HB1 := hide (HB.out.next hb)
  have HJ1 := hide (HJ.out _ _ _ H0.out hb)
  clear hb c0 c1 c2 c3 c4 c5 HB H0
  obtain ⟨M, hM⟩ : ∃ M, lsz D C (C - 1) = M := ⟨_, rfl⟩
  have HM := hide hM
  rw [hM] at hlsz
  rw [hM]
  clear hM hls hdd hw1
  gi_wp2_with fail
  gi_loopw [3, 13] (fun i3 i13 wr => O1Rel p k g D K C Bn J i3 i13 wr) (fun _ i13 _ => M - (intOf i13).toNat)
  case atStart => exact ⟨0, Nat.zero_le _, rfl, by rw [lidx_zero]; rfl, HB1.out, by rw [lidx_zero]; exact HJ1.out⟩
  case round =>
    clear HB1 HJ1
    obtain ⟨e, he, rfl, rfl, HBr, HJr⟩ := hrel
    have HBr := hide HBr
    have HJr := hide HJr
    obtain ⟨c0, c1, c2, c3, c4, c5⟩ := HBr.out.cells
    rw [HM.out] at he
    by_cases hlt : e < M
    · have hlt2 : e < lsz D C (C - 1) := by rw [HM.out]; exact hlt
      have HS := hide (ridx_start hlt2)
      have HLT := hide hlt2
      clear hlt2
      gi_wp2_with fail
      gi_loopw [3, 18] (fun i3 i18 wr => O2Rel p k g D K C Bn e J i3 i18 wr) (fun _ i18 _ => C - (intOf i18).toNat)
      case atStart => exact ⟨0, Nat.zero_le _, rfl, by rw [HS.out], HBr.out, by rw [HS.out]; exact HJr.out⟩
      case round =>
        clear HBr HJr c0 c1 c2 c3 c4 c5
        obtain ⟨b, hb, rfl, rfl, HBr, HJr⟩ := hrel
        have HBr := hide HBr
        have HJr := hide HJr
        obtain ⟨c0, c1, c2, c3, c4, c5⟩ := HBr.out.cells
        by_cases hbl : b < C
        · gi_wp2_with fail
          refine ⟨trivial, (callsIn_wide.2 (implDataLenZ p k g K D C b (b : Int) rfl hC (by omega) (by omega) hbl wr)).mono ?_⟩
          rintro e' w2 ⟨rfl, hb2⟩
          have HB2 := hide (HBr.out.next hb2)
          have HJ2 := hide (HJ.out _ _ _ HJr.out hb2)
          clear hb2 c0 c1 c2 c3 c4 c5 HBr HJr
          obtain ⟨c0, c1, c2, c3, c4, c5⟩ := HB2.out.cells
          by_cases hs : lsz D C b ≤ e
          · have HR := hide (ridx_skip hs HLT.out)
            obtain ⟨s, hs'⟩ : ∃ s, lsz D C b = s := ⟨_, rfl⟩
            rw [hs'] at hs ⊢
            clear hs'
            gi_wp2_with fail
            go_roundw
            case rel => exact ⟨b + 1, by omega, by go_num, by rw [HR.out], HB2.out, by rw [HR.out]; exact HJ2.out⟩
            case measure => simp [intOf]; omega
          · have hne : e < lsz D C b := Nat.lt_of_not_le hs
            obtain ⟨i, hi⟩ : ∃ i, ridx D C e b = i := ⟨_, rfl⟩
            have hiD : i < D + C * K := by have := ridx_lt hbl hne; omega
            have HR := hide (show ridx D C e (b + 1) = i + 1 by rw [ridx_next hne, hi])
            have hyy := HY.out (upsF (D + C * K) i) ⟨i, hiD⟩ w2 (by rw [← hi]; exact HJ2.out) (by rw [ups_len (by omega)]; exact hiD)
            rw [encO_at hiD hbl (show i = sidx D C b e by rw [ridx_is hne, hi])] at hyy
            obtain ⟨fn, tmps, assign, body, hy, hR⟩ := hyy
            have HU := hide (ups_succ hiD)
            rw [hi]
            obtain ⟨s, hs'⟩ : ∃ s, lsz D C b = s := ⟨_, rfl⟩
            rw [hs'] at hne ⊢
            have hi15 : i ≤ 1500 := by omega
            clear hs' hs hi HJ2
            gi_wp2_with fail
            refine hR.mono ?_
            rintro e'' w3 (⟨rfl, hJ3, hk3⟩ | ⟨rfl, hJx3⟩)
            · have HB3 := hide (HB2.out.same hk3)
              have HJ3 := hide hJ3
              clear hk3 hJ3 hy hR c0 c1 c2 c3 c4 c5
              obtain ⟨c0, c1, c2, c3, c4, c5⟩ := HB3.out.cells
              gi_wp2_with fail
              go_roundw
              case rel => exact ⟨b + 1, by omega, by go_num, by rw [HR.out]; go_num, HB3.out, by rw [HR.out, HU.out]; exact HJ3.out⟩
              case measure => simp [intOf]; omega
            · have HX3 := hide hJx3
              clear hJx3 hy hR
              gi_wp2_with fail
              refine bodyPost_ret (results_none rfl _ _ _) rfl ?_
              exact ⟨⟨_, rfl⟩, .inr ⟨_, by rw [← HU.out]; exact ups_pre _ _, HX3.out⟩⟩
        · obtain rfl : b = C := by omega
          have HR := hide (ridx_end (D := D) e hC)
          gi_wp2_with fail
          go_roundw
          case rel => exact ⟨e + 1, by rw [HM.out]; omega, by go_num, by rw [HR.out], HBr.out, by rw [← HR.out]; exact HJr.out⟩
          case measure => simp [intOf]; omega
    · obtain rfl : e = M := by omega
      have HR := hide (show lidx D C e = D + 0 * C by rw [← HM.out, lidx_end hC]; omega)
      gi_wp2_with fail
      gi_loopw [3, 39] (fun i3 i39 wr => O3Rel p k g D K C Bn J i3 i39 wr) (fun _ i39 _ => K - (intOf i39).toNat)
      case atStart => exact ⟨0, Nat.zero_le _, rfl, by rw [HR.out], HBr.out, by rw [← HR.out]; exact HJr.out⟩
      case round =>
        clear HBr HJr c0 c1 c2 c3 c4 c5
        obtain ⟨c, hc, rfl, rfl, HBr, HJr⟩ := hrel
        have HBr := hide HBr
        have HJr := hide HJr
        obtain ⟨c0, c1, c2, c3, c4, c5⟩ := HBr.out.cells
        by_cases hlt : c < K
        · gi_wp2_with fail
          gi_loopw [3, 44] (fun i3 i44 wr => O4Rel p k g D K C Bn c J i3 i44 wr) (fun _ i44 _ => C - (intOf i44).toNat)
          case atStart => exact ⟨0, Nat.zero_le _, rfl, rfl, HBr.out, HJr.out⟩
          case round =>
            clear HBr HJr c0 c1 c2 c3 c4 c5
            obtain ⟨b, hb, rfl, rfl, HBr, HJr⟩ := hrel
            have HBr := hide HBr
            have HJr := hide HJr
            obtain ⟨c0, c1, c2, c3, c4, c5⟩ := HBr.out.cells
            by_cases hbl : b < C
            · gi_wp2_with fail
              refine ⟨trivial, (callsIn_wide.2 (implDataLenZ p k g K D C b (b : Int) rfl hC (by omega) (by omega) hbl wr)).mono ?_⟩
              rintro e' w2 ⟨rfl, hb2⟩
              have HB2 := hide (HBr.out.next hb2)
              have HJ2 := hide (HJ.out _ _ _ HJr.out hb2)
              clear hb2 c0 c1 c2 c3 c4 c5 HBr HJr
              obtain ⟨c0, c1, c2, c3, c4, c5⟩ := HB2.out.cells
              have hiD0 := cidx_lt (D := D) (C := C) (K := K) hlt hbl
              have hls := lsz_le D C b
              have hdd := Nat.div_le_self D C
              obtain ⟨i, hi⟩ : ∃ i, D + c * C + b = i := ⟨_, rfl⟩
              rw [hi] at hiD0
              have hiD := hiD0
              have HR := hide (show D + c * C + (b + 1) = i + 1 by omega)
              have hyy := HY.out (upsF (D + C * K) i) ⟨i, hiD⟩ w2 (by rw [← hi]; exact HJ2.out) (by rw [ups_len (by omega)]; exact hiD)
              rw [encO_at hiD hbl (show i = sidx D C b (lsz D C b + c) by rw [cidx_is, hi])] at hyy
              have HU := hide (ups_succ hiD)
              rw [hi]
              have hs1500 : lsz D C b ≤ 1501 := by omega
              obtain ⟨s, hs'⟩ : ∃ s, lsz D C b = s := ⟨_, rfl⟩
              rw [hs'] at hyy hs1500 ⊢
              rw [show (((s + c : Nat)) : Int) = (s : Int) + (c : Int) by omega] at hyy
              obtain ⟨fn, tmps, assign, body, hy, hR⟩ := hyy
              have hi15 : i ≤ 1500 := by omega
              clear hs' hi HJ2 hiD0 hls hdd
              gi_wp2_with fail
              refine hR.mono ?_
              rintro e'' w3 (⟨rfl, hJ3, hk3⟩ | ⟨rfl, hJx3⟩)
              · have HB3 := hide (HB2.out.same hk3)
                have HJ3 := hide hJ3
                clear hk3 hJ3 hy hR c0 c1 c2 c3 c4 c5
                obtain ⟨c0, c1, c2, c3, c4, c5⟩ := HB3.out.cells
                gi_wp2_with fail
                go_roundw
                case rel => exact ⟨b + 1, by omega, by go_num, by rw [HR.out]; go_num, HB3.out, by rw [HR.out, HU.out]; exact HJ3.out⟩
                case measure => simp [intOf]; omega
              · have HX3 := hide hJx3
                clear hJx3 hy hR
                gi_wp2_with fail
                refine bodyPost_ret (results_none rfl _ _ _) rfl ?_
                exact ⟨⟨_, rfl⟩, .inr ⟨_, by rw [← HU.out]; exact ups_pre _ _, HX3.out⟩⟩
            · obtain rfl : b = C := by omega
              have HR := hide (show D + (c + 1) * b = D + c * b + b by rw [Nat.add_mul, Nat.one_mul]; omega)
              gi_wp2_with fail
              go_roundw
              case rel => exact ⟨c + 1, by omega, by go_num, by rw [HR.out], HBr.out, by rw [HR.out]; exact HJr.out⟩
              case measure => simp [intOf]; omega
        · obtain rfl : c = K := by omega
          have HR := hide (show upsF (D + C * c) (D + c * C) = List.finRange (D + C * c) by rw [Nat.mul_comm c C]; exact ups_all _)
          gi_wp2_with fail
          go_end0
          exact ⟨⟨_, rfl⟩, .inl ⟨_, rfl, by rw [← HR.out]; exact HJr.out⟩⟩

/-- What is ranged over: each index of the stream in its order. -/
theorem order_stops (p k g : Int) (D K C n Bn : Nat) (hn : 1 ≤ n) (hC : 1 ≤ C) (hC16 : C ≤ 16) (hDC : C ≤ D) (hK : K ≤ 1500) (hN : D + C * K ≤ 1500) (w : World) (hB : YRow w Bn p k g D K C) :
    SeqStopsK Fence.wide n Tryz.prog 92 #[.pointer (some ⟨Bn, 0, none⟩)] (encO D C (D + C * K)) (fun W W' => W'.heap[Bn]? = W.heap[Bn]?) (fun ys => ys = List.finRange (D + C * K)) (fun pre => pre <+: List.finRange (D + C * K)) (D + C * K) w := fun l J Jx W hW hJ hJx hY h0 =>
  order1_in p k g D K C n l Bn hn hC hC16 hDC hK hN J Jx
    (fun s W1 W2 hs hb => hJ s W1 W2 none hs ⟨hb.os, hb.tape, hb.output, hb.size, fun i hi _ => hb.block i hi⟩ (fun r e => by cases e))
    (fun pre x W1 hj hl => hY pre x W1 hj hl) W (hB.next hW) h0
end Go.Proofs.YtlphodhecaagbaaGreat
