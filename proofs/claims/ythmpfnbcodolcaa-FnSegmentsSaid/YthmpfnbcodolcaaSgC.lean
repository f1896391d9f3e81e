/-
  The chunks of a slice of bytes, one after the other: what slices.Chunk gives to a loop that ranges over it.
  Condition: the slice has 1 to 255 bytes, a chunk 1 to 3.
-/
import Derived.Test.YthmpfnbcodolcaaProg
import Derived.Test.YthmpfnbcodolcaaSgBits
import Derived.Test.YthmpfnbcodolcaaBox
import Derived.Test.YthmpfnbcodolcaaTail2
import Derived.RangeFuncNested
import Derived.RangeFuncBound
import Derived.RangeFuncCalls
import Derived.RangeFuncLeaves
import Derived.OrdersIn
import Derived.Shelf.Abstract
import Derived.Shelf.RegionOpen
import Derived.WalkKit
import Derived.OwnWalkIn
import Derived.TacticsInMore
import Derived.LoopNIn
import Derived.LoopIn
namespace Go.Proofs.Ythmpfnbcodolcaa
open Go Go.RowKit
set_option linter.unusedSimpArgs false
set_option linter.unusedVariables false
attribute [local go_sem] Oper.semAt_some

/-- The indices below i. -/
def upsN (N i : Nat) : List (Fin N) := (List.finRange N).take i
theorem upn_succ {N i : Nat} (h : i < N) : upsN N (i + 1) = upsN N i ++ [⟨i, h⟩] := by
  unfold upsN
  rw [List.take_add_one, List.getElem?_eq_getElem (by rw [List.length_finRange]; exact h), List.getElem_finRange]
  rfl
theorem upn_all (N : Nat) : upsN N N = List.finRange N := by
  unfold upsN
  rw [List.take_of_length_le (by rw [List.length_finRange]; exact Nat.le_refl _)]
theorem upn_len {N i : Nat} (h : i ≤ N) : (upsN N i).length = i := by unfold upsN; rw [List.length_take, List.length_finRange]; omega
theorem upn_pre (N i : Nat) : upsN N i <+: List.finRange N := List.take_prefix _ _

/-- The boxes of an iterator over chunks. -/
def CkRow (W : World) (b bd off n c G : Nat) : Prop := W.heap[b]? = some (.cells #[.slice (some ⟨bd, off, none⟩) n c] 22 (0, 0)) ∧ W.heap[b + 1]? = some (.cells #[.int .i64 (G : Nat)] 3 (0, 0))
section
variable {W W' : World} {b bd off n c G : Nat}
theorem CkRow.cells (h : CkRow W b bd off n c G) : W.cell? ⟨b, 0, none⟩ = some (.slice (some ⟨bd, off, none⟩) n c) ∧ W.cell? ⟨b + 1, 0, none⟩ = some (.int .i64 (G : Nat)) := ⟨cell_of_row W b 0 _ _ _ h.1, cell_of_row W (b + 1) 0 _ _ _ h.2⟩
theorem CkRow.lt (h : CkRow W b bd off n c G) : b + 1 < W.heap.size := (Array.getElem?_eq_some_iff.1 h.2).1
theorem CkRow.next (h : CkRow W b bd off n c G) (hb : Below W.heap.size W W') : CkRow W' b bd off n c G :=
  ⟨by rw [hb.block _ (by have := h.lt; omega)]; exact h.1, by rw [hb.block _ h.lt]; exact h.2⟩
theorem CkRow.same (h : CkRow W b bd off n c G) (h1 : W'.heap[b]? = W.heap[b]? ∧ W'.heap[b + 1]? = W.heap[b + 1]?) : CkRow W' b bd off n c G := ⟨by rw [h1.1]; exact h.1, by rw [h1.2]; exact h.2⟩
theorem CkRow.drew (h : CkRow W b bd off n c G) : CkRow W.drew b bd off n c G := h
end
/-- A chunk as it comes. -/
def encC (bd off n G N : Nat) (x : Fin N) : Array Value := #[.slice (some ⟨bd, off + x.val * G, none⟩) (min G (n - x.val * G)) (min G (n - x.val * G))]
/-- What the iterator's boxes keep in a round. -/
def CkKeep (Bn : Nat) (W W' : World) : Prop := W'.heap[Bn]? = W.heap[Bn]? ∧ W'.heap[Bn + 1]? = W.heap[Bn + 1]?
def CPost (N : Nat) (J Jx : List (Fin N) → World → Prop) (e : Ending) (W' : World) : Prop :=
  (∃ v, e = .returned v) ∧ ((∃ ys, ys = List.finRange N ∧ J ys W') ∨ (∃ pre, pre <+: List.finRange N ∧ Jx pre W'))
def CYield (N Bn l n : Nat) (J Jx : List (Fin N) → World → Prop) (pre : List (Fin N)) (x : Fin N) (args : Array Value) (W : World) : Prop :=
  YieldAt Fence.wide (n - 1) Try.prog l args W fun e W' => (e = .returned (.bool true) ∧ J (pre ++ [x]) W' ∧ CkKeep Bn W W') ∨ (e = .returned (.bool false) ∧ Jx (pre ++ [x]) W')
def CkRel (bd off n c G N Bn : Nat) (J : List (Fin N) → World → Prop) (i4 : Value) (wr : World) : Prop :=
  ∃ j : Nat, j ≤ N ∧ i4 = .int .i64 (j * G : Nat) ∧ CkRow wr Bn bd off n c G ∧ J (upsN N j) wr

set_option maxRecDepth 100000 in
set_option maxHeartbeats 2000000 in
theorem chunk1_in (bd off n c G nn l Bn : Nat) (hnn : 1 ≤ nn) (hG : 1 ≤ G) (hG3 : G ≤ 3) (hn : n ≤ 255) (hc : n ≤ c) (hcc : c ≤ 9223372036854775807) (J Jx : List (Fin (gct G n)) → World → Prop)
    (hJ : ∀ s W W', J s W → Below W.heap.size W W' → J s W')
    (hY : ∀ (j : Nat) (hj : j < gct G n) W, J (upsN (gct G n) j) W → CYield (gct G n) Bn l nn J Jx (upsN (gct G n) j) ⟨j, hj⟩ (encC bd off n G (gct G n) ⟨j, hj⟩) W)
    (W : World) (hB : CkRow W Bn bd off n c G) (h0 : J [] W) :
    CallsIn Fence.wide nn Try.prog 113 #[.func (.yield l) #[] #[], .pointer (some ⟨Bn, 0, none⟩), .pointer (some ⟨Bn + 1, 0, none⟩)] W (CPost (gct G n) J Jx) := by
  have HJ := hide hJ
  have HY := hide hY
  have HB := hide hB
  have H0 := hide h0
  clear hJ hY hB h0
  refine callsIn_of_wp Try.func113 rfl trivial ?_ rfl
  simp only [Try.ntmps113, List.size_toArray, List.length_cons, List.length_nil, Nat.reduceAdd, Nat.reduceSub, Array.replicate_succ, Array.replicate_zero, List.push_toArray, List.append_toArray, List.nil_append, List.cons_append]
  gi_wp2_with fail
  gi_loopw [4] (fun i4 wr => CkRel bd off n c G (gct G n) Bn J i4 wr) (fun i4 _ => n - (intOf i4).toNat)
  case atStart => exact ⟨0, Nat.zero_le _, by simp, HB.out, H0.out⟩
  case round =>
    clear HB H0
    obtain ⟨j, hj, rfl, hBr, hJr⟩ := hrel
    have HBr := hide hBr
    have HJr := hide hJr
    clear hBr hJr
    obtain ⟨c0, c1⟩ := HBr.out.cells
    by_cases hlt : j * G < n
    · have hjN := (gct_lt hG).2 hlt
      have HU := hide (upn_succ hjN)
      have hyy := fun W' hj' => HY.out j hjN W' hj'
      simp only [encC] at hyy
      have hpG : (j + 1) * G = j * G + G := by rw [Nat.add_mul, Nat.one_mul]
      obtain ⟨p, hp⟩ : ∃ p, j * G = p := ⟨_, rfl⟩
      rw [hp] at hlt hpG hyy ⊢
      have HPG := hide hpG
      have HYY := hide hyy
      have hws : IntKind.i64.wrap ((p : Int) + (G : Int)) = ((p + G : Nat) : Int) := by rw [IntWalk.i64_in _ ⟨by omega, by omega⟩]; omega
      clear hp hpG hyy
      gi_wp2_with fail
      clear c0 c1
      obtain ⟨r, hr0⟩ : ∃ r, n - p = r := ⟨_, rfl⟩
      rw [hr0] at HYY
      by_cases hr : r < G
      · have hmm : min G r = r := by omega
        rw [hmm] at HYY
        have z1 : (r : Int) < (G : Int) := by omega
        have hpn : p ≤ n := by omega
        have hcp : ¬ c = p := by omega
        refine wpIn_wide.2 ?_
        refine tail_begin (fun w' => w'.cell? ⟨Bn, 0, none⟩ = some (.slice (some ⟨bd, off, none⟩) n c) ∧ w'.cell? ⟨Bn + 1, 0, none⟩ = some (.int .i64 G)) 7 (by kernel_rfl) HBr.out.drew.cells (fun hS' => ?_)
        refine tail_take2 0 rfl (by kernel_rfl) (by kernel_rfl) (by kernel_rfl) (by decide) (fun _ _ _ h => h) (by rfl) (v := ?_) ?_ (by assumption) ?_
        rotate_left 1
        · intro w' hS'; obtain ⟨d0, d1⟩ := hS'; go_simp; try with_reducible rfl
        try simp only [Act.put, List.setIfInBounds_toArray, List.set_cons_zero, List.set_cons_succ]
        refine tail_take2 1 rfl (by kernel_rfl) (by kernel_rfl) (by kernel_rfl) (by decide) (fun _ _ _ h => h) (by rfl) (v := ?_) ?_ (by assumption) ?_
        rotate_left 1
        · intro w' hS'; obtain ⟨d0, d1⟩ := hS'; go_simp; try with_reducible rfl
        try simp only [Act.put, List.setIfInBounds_toArray, List.set_cons_zero, List.set_cons_succ]
        refine tail_take2 2 rfl (by kernel_rfl) (by kernel_rfl) (by kernel_rfl) (by decide) (fun _ _ _ h => h) (by rfl) (v := ?_) ?_ (by assumption) ?_
        rotate_left 1
        · intro w' hS'; obtain ⟨d0, d1⟩ := hS'; go_simp; try with_reducible rfl
        try simp only [Act.put, List.setIfInBounds_toArray, List.set_cons_zero, List.set_cons_succ]
        refine tail_take2 3 rfl (by kernel_rfl) (by kernel_rfl) (by kernel_rfl) (by decide) (fun _ _ _ h => h) (by rfl) (v := ?_) ?_ (by assumption) ?_
        rotate_left 1
        · intro w' hS'; obtain ⟨d0, d1⟩ := hS'; go_simp; try with_reducible rfl
        try simp only [Act.put, List.setIfInBounds_toArray, List.set_cons_zero, List.set_cons_succ]
        refine tail_take2 4 rfl (by kernel_rfl) (by kernel_rfl) (by kernel_rfl) (by decide) (fun _ _ _ h => h) (by rfl) (v := ?_) ?_ (by assumption) ?_
        rotate_left 1
        · intro w' hS'; obtain ⟨d0, d1⟩ := hS'; go_simp; try with_reducible rfl
        try simp only [Act.put, List.setIfInBounds_toArray, List.set_cons_zero, List.set_cons_succ]
        refine tail_take2 5 rfl (by kernel_rfl) (by kernel_rfl) (by kernel_rfl) (by decide) (fun _ _ _ h => h) (by rfl) (v := ?_) ?_ (by assumption) ?_
        rotate_left 1
        · intro w' hS'; obtain ⟨d0, d1⟩ := hS'; go_simp; try with_reducible rfl
        try simp only [Act.put, List.setIfInBounds_toArray, List.set_cons_zero, List.set_cons_succ]
        refine tail_take2 6 rfl (by kernel_rfl) (by kernel_rfl) (by kernel_rfl) (by decide) (fun _ _ _ h => h) (by rfl) (v := ?_) ?_ (by assumption) ?_
        rotate_left 1
        · intro w' hS'; obtain ⟨d0, d1⟩ := hS'; go_simp; try with_reducible rfl
        try simp only [Act.put, List.setIfInBounds_toArray, List.set_cons_zero, List.set_cons_succ]
        refine tail_end (by kernel_rfl) ?_
        have hpq : IntKind.i64.wrap ((p : Int) + (r : Int)) = ((p + r : Nat) : Int) := by rw [IntWalk.i64_in _ ⟨by omega, by omega⟩]; omega
        have hq0 : ¬ r = 0 := by omega
        have hb1 : p + r ≤ c := by omega
        have HB2 := hide HBr.out.drew
        have HJ2 := hide (HJ.out _ _ _ HJr.out ((Below.refl wr.heap.size wr).drew))
        obtain ⟨wd, hwd⟩ : ∃ wd, wr.drew = wd := ⟨_, rfl⟩
        rw [hwd] at HB2 HJ2 ⊢
        clear hwd HBr HJr hS' hr z1 hmm hr0
        obtain ⟨c0, c1⟩ := HB2.out.cells
        obtain ⟨fn, tmps, assign, body, hy, hR⟩ := HYY.out wd HJ2.out
        clear HYY
        gi_wp2_with fail
        refine hR.mono ?_
        rintro e'' w3 (⟨rfl, hJ3, hk3⟩ | ⟨rfl, hJx3⟩)
        · have HB3 := hide (HB2.out.same hk3)
          have HJ3 := hide hJ3
          clear hk3 hJ3 hy hR c0 c1 HB2 HJ2
          obtain ⟨c0, c1⟩ := HB3.out.cells
          gi_wp2_with fail
          go_roundw
          case rel => exact ⟨j + 1, by omega, by rw [HPG.out, Int.natCast_add], HB3.out, by rw [HU.out]; exact HJ3.out⟩
          case measure => simp [intOf]; omega
        · have HX3 := hide hJx3
          clear hJx3 hy hR
          gi_wp2_with fail
          refine bodyPost_ret (results_none rfl _ _ _) rfl ?_
          exact ⟨⟨_, rfl⟩, .inr ⟨_, by rw [← HU.out]; exact upn_pre _ _, HX3.out⟩⟩
      · have hmm : min G r = G := by omega
        rw [hmm] at HYY
        have z1 : ¬ (r : Int) < (G : Int) := by omega
        have hpn : p ≤ n := by omega
        have hcp : ¬ c = p := by omega
        refine wpIn_wide.2 ?_
        refine tail_begin (fun w' => w'.cell? ⟨Bn, 0, none⟩ = some (.slice (some ⟨bd, off, none⟩) n c) ∧ w'.cell? ⟨Bn + 1, 0, none⟩ = some (.int .i64 G)) 7 (by kernel_rfl) HBr.out.drew.cells (fun hS' => ?_)
        refine tail_take2 0 rfl (by kernel_rfl) (by kernel_rfl) (by kernel_rfl) (by decide) (fun _ _ _ h => h) (by rfl) (v := ?_) ?_ (by assumption) ?_
        rotate_left 1
        · intro w' hS'; obtain ⟨d0, d1⟩ := hS'; go_simp; try with_reducible rfl
        try simp only [Act.put, List.setIfInBounds_toArray, List.set_cons_zero, List.set_cons_succ]
        refine tail_take2 1 rfl (by kernel_rfl) (by kernel_rfl) (by kernel_rfl) (by decide) (fun _ _ _ h => h) (by rfl) (v := ?_) ?_ (by assumption) ?_
        rotate_left 1
        · intro w' hS'; obtain ⟨d0, d1⟩ := hS'; go_simp; try with_reducible rfl
        try simp only [Act.put, List.setIfInBounds_toArray, List.set_cons_zero, List.set_cons_succ]
        refine tail_take2 2 rfl (by kernel_rfl) (by kernel_rfl) (by kernel_rfl) (by decide) (fun _ _ _ h => h) (by rfl) (v := ?_) ?_ (by assumption) ?_
        rotate_left 1
        · intro w' hS'; obtain ⟨d0, d1⟩ := hS'; go_simp; try with_reducible rfl
        try simp only [Act.put, List.setIfInBounds_toArray, List.set_cons_zero, List.set_cons_succ]
        refine tail_take2 3 rfl (by kernel_rfl) (by kernel_rfl) (by kernel_rfl) (by decide) (fun _ _ _ h => h) (by rfl) (v := ?_) ?_ (by assumption) ?_
        rotate_left 1
        · intro w' hS'; obtain ⟨d0, d1⟩ := hS'; go_simp; try with_reducible rfl
        try simp only [Act.put, List.setIfInBounds_toArray, List.set_cons_zero, List.set_cons_succ]
        refine tail_take2 4 rfl (by kernel_rfl) (by kernel_rfl) (by kernel_rfl) (by decide) (fun _ _ _ h => h) (by rfl) (v := ?_) ?_ (by assumption) ?_
        rotate_left 1
        · intro w' hS'; obtain ⟨d0, d1⟩ := hS'; go_simp; try with_reducible rfl
        try simp only [Act.put, List.setIfInBounds_toArray, List.set_cons_zero, List.set_cons_succ]
        refine tail_take2 5 rfl (by kernel_rfl) (by kernel_rfl) (by kernel_rfl) (by decide) (fun _ _ _ h => h) (by rfl) (v := ?_) ?_ (by assumption) ?_
        rotate_left 1
        · intro w' hS'; obtain ⟨d0, d1⟩ := hS'; go_simp; try with_reducible rfl
        try simp only [Act.put, List.setIfInBounds_toArray, List.set_cons_zero, List.set_cons_succ]
        refine tail_take2 6 rfl (by kernel_rfl) (by kernel_rfl) (by kernel_rfl) (by decide) (fun _ _ _ h => h) (by rfl) (v := ?_) ?_ (by assumption) ?_
        rotate_left 1
        · intro w' hS'; obtain ⟨d0, d1⟩ := hS'; go_simp; try with_reducible rfl
        try simp only [Act.put, List.setIfInBounds_toArray, List.set_cons_zero, List.set_cons_succ]
        refine tail_end (by kernel_rfl) ?_
        have hpq : IntKind.i64.wrap ((p : Int) + (G : Int)) = ((p + G : Nat) : Int) := by rw [IntWalk.i64_in _ ⟨by omega, by omega⟩]; omega
        have hq0 : ¬ G = 0 := by omega
        have hb1 : p + G ≤ c := by omega
        have HB2 := hide HBr.out.drew
        have HJ2 := hide (HJ.out _ _ _ HJr.out ((Below.refl wr.heap.size wr).drew))
        obtain ⟨wd, hwd⟩ : ∃ wd, wr.drew = wd := ⟨_, rfl⟩
        rw [hwd] at HB2 HJ2 ⊢
        clear hwd HBr HJr hS' hr z1 hmm hr0
        obtain ⟨c0, c1⟩ := HB2.out.cells
        obtain ⟨fn, tmps, assign, body, hy, hR⟩ := HYY.out wd HJ2.out
        clear HYY
        gi_wp2_with fail
        refine hR.mono ?_
        rintro e'' w3 (⟨rfl, hJ3, hk3⟩ | ⟨rfl, hJx3⟩)
        · have HB3 := hide (HB2.out.same hk3)
          have HJ3 := hide hJ3
          clear hk3 hJ3 hy hR c0 c1 HB2 HJ2
          obtain ⟨c0, c1⟩ := HB3.out.cells
          gi_wp2_with fail
          go_roundw
          case rel => exact ⟨j + 1, by omega, by rw [HPG.out, Int.natCast_add], HB3.out, by rw [HU.out]; exact HJ3.out⟩
          case measure => simp [intOf]; omega
        · have HX3 := hide hJx3
          clear hJx3 hy hR
          gi_wp2_with fail
          refine bodyPost_ret (results_none rfl _ _ _) rfl ?_
          exact ⟨⟨_, rfl⟩, .inr ⟨_, by rw [← HU.out]; exact upn_pre _ _, HX3.out⟩⟩
    · have hje := gct_end hG hj hlt
      obtain ⟨p, hp⟩ : ∃ p, j * G = p := ⟨_, rfl⟩
      rw [hp] at hlt ⊢
      have HJE := hide hje
      clear hp hje
      gi_wp2_with fail
      go_end0
      exact ⟨⟨_, rfl⟩, .inl ⟨_, rfl, by have h := HJr.out; rw [HJE.out, upn_all] at h; exact h⟩⟩

/-- What is ranged over: the chunks in their order. -/
theorem chunk_stops (bd off n c G nn Bn : Nat) (hnn : 1 ≤ nn) (hG : 1 ≤ G) (hG3 : G ≤ 3) (hn : n ≤ 255) (hc : n ≤ c) (hcc : c ≤ 9223372036854775807) (w : World) (hB : CkRow w Bn bd off n c G) :
    SeqStopsK Fence.wide nn Try.prog 113 #[.pointer (some ⟨Bn, 0, none⟩), .pointer (some ⟨Bn + 1, 0, none⟩)] (encC bd off n G (gct G n)) (CkKeep Bn) (fun ys => ys = List.finRange (gct G n)) (fun pre => pre <+: List.finRange (gct G n)) (gct G n) w := fun l J Jx W hW hJ hJx hY h0 =>
  chunk1_in bd off n c G nn l Bn hnn hG hG3 hn hc hcc J Jx
    (fun s W1 W2 hs hb => hJ s W1 W2 none hs ⟨hb.os, hb.tape, hb.output, hb.size, fun i hi _ => hb.block i hi⟩ (fun r e => by cases e))
    (fun j hj W1 h => hY (upsN (gct G n) j) ⟨j, hj⟩ W1 h (by rw [upn_len (by omega)]; exact hj)) W (hB.next hW) h0

set_option maxRecDepth 100000 in
theorem implChunk (bd off n c G : Nat) (hG : 1 ≤ G) (w : World) :
    Calls Try.prog 84 #[.slice (some ⟨bd, off, none⟩) n c, .int .i64 G] w fun e w' => e = .returned (.func (.func 113) #[] #[.pointer (some ⟨w.heap.size, 0, none⟩), .pointer (some ⟨w.heap.size + 1, 0, none⟩)]) ∧ w' = (w.alloc (.cells #[.slice (some ⟨bd, off, none⟩) n c] 22)).alloc (.cells #[.int .i64 (G : Nat)] 3) := by
  have hg : ¬ (G : Int) < 1 := by omega
  go_enter Try.func84, Try.ntmps84
  go_wp2_with fail
  go_ret
  exact ⟨rfl, rfl⟩
end Go.Proofs.Ythmpfnbcodolcaa
