/-
  The chunks of a slice of bytes, one after the other: what slices.Chunk gives to a loop that ranges over it.
  A range over the chunks of a slice of bytes: the law for its callers.
  Appending a number to a slice of the caller's own: where the new slice lies, and that every other block stays as it was.
  A slice in a box that grows while other boxes stay: what a loop keeps that appends to a variable of its caller's.
  Condition: as each statement says.
-/
import Derived.Test.YthbmfaogjaahoaaProg
import Derived.Test.YthbmfaogjaahoaaSgBits
import Derived.Test.YthbmfaogjaahoaaBox
import Derived.Test.YthbmfaogjaahoaaTail2
import Derived.RangeFuncNested
import Derived.RangeFuncBound
import Derived.RangeFuncCalls
import Derived.RangeFuncLeaves
import Derived.OrdersIn
import Derived.Shelf.Abstract
import Derived.Shelf.RegionOpen
import Derived.WalkKit
import Derived.OwnWalkIn
import Derived.TacticsInMore
import Derived.LoopNIn
import Derived.LoopIn
import Derived.Test.YthbmfaogjaahoaaAppend
import Derived.Deep.AppendLies
import Derived.Laws.IdiomStrings
namespace Go.Proofs.Ythbmfaogjaahoaa
open Go Go.RowKit
set_option linter.unusedSimpArgs false
set_option linter.unusedVariables false
attribute [local go_sem] Oper.semAt_some

/-- The indices below i. -/
def upsN (N i : Nat) : List (Fin N) := (List.finRange N).take i
theorem upn_succ {N i : Nat} (h : i < N) : upsN N (i + 1) = upsN N i ++ [⟨i, h⟩] := by
  unfold upsN
  rw [List.take_add_one, List.getElem?_eq_getElem (by rw [List.length_finRange]; exact h), List.getElem_finRange]
  rfl
theorem upn_all (N : Nat) : upsN N N = List.finRange N := by
  unfold upsN
  rw [List.take_of_length_le (by rw [List.length_finRange]; exact Nat.le_refl _)]
theorem upn_len {N i : Nat} (h : i ≤ N) : (upsN N i).length = i := by unfold upsN; rw [List.length_take, List.length_finRange]; omega
theorem upn_pre (N i : Nat) : upsN N i <+: List.finRange N := List.take_prefix _ _

/-- The boxes of an iterator over chunks. -/
def CkRow (W : World) (b bd off n c G : Nat) : Prop := W.heap[b]? = some (.cells #[.slice (some ⟨bd, off, none⟩) n c] 57 (0, 0)) ∧ W.heap[b + 1]? = some (.cells #[.int .i64 (G : Nat)] 3 (0, 0))
section
variable {W W' : World} {b bd off n c G : Nat}
theorem CkRow.cells (h : CkRow W b bd off n c G) : W.cell? ⟨b, 0, none⟩ = some (.slice (some ⟨bd, off, none⟩) n c) ∧ W.cell? ⟨b + 1, 0, none⟩ = some (.int .i64 (G : Nat)) := ⟨cell_of_row W b 0 _ _ _ h.1, cell_of_row W (b + 1) 0 _ _ _ h.2⟩
theorem CkRow.lt (h : CkRow W b bd off n c G) : b + 1 < W.heap.size := (Array.getElem?_eq_some_iff.1 h.2).1
theorem CkRow.next (h : CkRow W b bd off n c G) (hb : Below W.heap.size W W') : CkRow W' b bd off n c G :=
  ⟨by rw [hb.block _ (by have := h.lt; omega)]; exact h.1, by rw [hb.block _ h.lt]; exact h.2⟩
theorem CkRow.same (h : CkRow W b bd off n c G) (h1 : W'.heap[b]? = W.heap[b]? ∧ W'.heap[b + 1]? = W.heap[b + 1]?) : CkRow W' b bd off n c G := ⟨by rw [h1.1]; exact h.1, by rw [h1.2]; exact h.2⟩
theorem CkRow.drew (h : CkRow W b bd off n c G) : CkRow W.drew b bd off n c G := h
end
/-- A chunk as it comes. -/
def encC (bd off n G N : Nat) (x : Fin N) : Array Value := #[.slice (some ⟨bd, off + x.val * G, none⟩) (min G (n - x.val * G)) (min G (n - x.val * G))]
/-- What the iterator's boxes keep in a round. -/
def CkKeep (Bn : Nat) (W W' : World) : Prop := W'.heap[Bn]? = W.heap[Bn]? ∧ W'.heap[Bn + 1]? = W.heap[Bn + 1]?
def CPost (N : Nat) (J Jx : List (Fin N) → World → Prop) (e : Ending) (W' : World) : Prop :=
  (∃ v, e = .returned v) ∧ ((∃ ys, ys = List.finRange N ∧ J ys W') ∨ (∃ pre, pre <+: List.finRange N ∧ Jx pre W'))
def CYield (N Bn l n : Nat) (J Jx : List (Fin N) → World → Prop) (pre : List (Fin N)) (x : Fin N) (args : Array Value) (W : World) : Prop :=
  YieldAt Fence.wide (n - 1) Try.prog l args W fun e W' => (e = .returned (.bool true) ∧ J (pre ++ [x]) W' ∧ CkKeep Bn W W') ∨ (e = .returned (.bool false) ∧ Jx (pre ++ [x]) W')
def CkRel (bd off n c G N Bn : Nat) (J : List (Fin N) → World → Prop) (i4 : Value) (wr : World) : Prop :=
  ∃ j : Nat, j ≤ N ∧ i4 = .int .i64 (j * G : Nat) ∧ CkRow wr Bn bd off n c G ∧ J (upsN N j) wr

set_option maxRecDepth 100000 in
set_option maxHeartbeats 2000000 in
theorem chunk1_in (bd off n c G nn l Bn : Nat) (hnn : 1 ≤ nn) (hG : 1 ≤ G) (hG3 : G ≤ 3) (hn : n ≤ 255) (hc : n ≤ c) (hcc : c ≤ 9223372036854775807) (J Jx : List (Fin (gct G n)) → World → Prop)
    (hJ : ∀ s W W', J s W → Below W.heap.size W W' → J s W')
    (hY : ∀ (j : Nat) (hj : j < gct G n) W, J (upsN (gct G n) j) W → CYield (gct G n) Bn l nn J Jx (upsN (gct G n) j) ⟨j, hj⟩ (encC bd off n G (gct G n) ⟨j, hj⟩) W)
    (W : World) (hB : CkRow W Bn bd off n c G) (h0 : J [] W) :
    CallsIn Fence.wide nn Try.prog 129 #[.func (.yield l) #[] #[], .pointer (some ⟨Bn, 0, none⟩), .pointer (some ⟨Bn + 1, 0, none⟩)] W (CPost (gct G n) J Jx) := by
  have HJ := hide hJ
  have HY := hide hY
  have HB := hide hB
  have H0 := hide h0
  clear hJ hY hB h0
  refine callsIn_of_wp Try.func129 rfl trivial ?_ rfl
  simp only [Try.ntmps129, List.size_toArray, List.length_cons, List.length_nil, Nat.reduceAdd, Nat.reduceSub, Array.replicate_succ, Array.replicate_zero, List.push_toArray, List.append_toArray, List.nil_append, List.cons_append]
  gi_wp2_with fail
  gi_loopw [4] (fun i4 wr => CkRel bd off n c G (gct G n) Bn J i4 wr) (fun i4 _ => n - (intOf i4).toNat)
  case atStart => exact ⟨0, Nat.zero_le _, by simp, HB.out, H0.out⟩
  case round =>
    clear HB H0
    obtain ⟨j, hj, rfl, hBr, hJr⟩ := hrel
    have HBr := hide hBr
    have HJr := hide hJr
    clear hBr hJr
    obtain ⟨c0, c1⟩ := HBr.out.cells
    by_cases hlt : j * G < n
    · have hjN := (gct_lt hG).2 hlt
      have HU := hide (upn_succ hjN)
      have hyy := fun W' hj' => HY.out j hjN W' hj'
      simp only [encC] at hyy
      have hpG : (j + 1) * G = j * G + G := by rw [Nat.add_mul, Nat.one_mul]
      obtain ⟨p, hp⟩ : ∃ p, j * G = p := ⟨_, rfl⟩
      rw [hp] at hlt hpG hyy ⊢
      have HPG := hide hpG
      have HYY := hide hyy
      have hws : IntKind.i64.wrap ((p : Int) + (G : Int)) = ((p + G : Nat) : Int) := by rw [IntWalk.i64_in _ ⟨by omega, by omega⟩]; omega
      clear hp hpG hyy
      gi_wp2_with fail
      clear c0 c1
      obtain ⟨r, hr0⟩ : ∃ r, n - p = r := ⟨_, rfl⟩
      rw [hr0] at HYY
      by_cases hr : r < G
      · have hmm : min G r = r := by omega
        rw [hmm] at HYY
        have z1 : (r : Int) < (G : Int) := by omega
        have hpn : p ≤ n := by omega
        have hcp : ¬ c = p := by omega
        refine wpIn_wide.2 ?_
        refine tail_begin (fun w' => w'.cell? ⟨Bn, 0, none⟩ = some (.slice (some ⟨bd, off, none⟩) n c) ∧ w'.cell? ⟨Bn + 1, 0, none⟩ = some (.int .i64 G)) 7 (by kernel_rfl) HBr.out.drew.cells (fun hS' => ?_)
        refine tail_take2 0 rfl (by kernel_rfl) (by kernel_rfl) (by kernel_rfl) (by decide) (fun _ _ _ h => h) (by rfl) (v := ?_) ?_ (by assumption) ?_
        rotate_left 1
        · intro w' hS'; obtain ⟨d0, d1⟩ := hS'; go_simp; try with_reducible rfl
        try simp only [Act.put, List.setIfInBounds_toArray, List.set_cons_zero, List.set_cons_succ]
        refine tail_take2 1 rfl (by kernel_rfl) (by kernel_rfl) (by kernel_rfl) (by decide) (fun _ _ _ h => h) (by rfl) (v := ?_) ?_ (by assumption) ?_
        rotate_left 1
        · intro w' hS'; obtain ⟨d0, d1⟩ := hS'; go_simp; try with_reducible rfl
        try simp only [Act.put, List.setIfInBounds_toArray, List.set_cons_zero, List.set_cons_succ]
        refine tail_take2 2 rfl (by kernel_rfl) (by kernel_rfl) (by kernel_rfl) (by decide) (fun _ _ _ h => h) (by rfl) (v := ?_) ?_ (by assumption) ?_
        rotate_left 1
        · intro w' hS'; obtain ⟨d0, d1⟩ := hS'; go_simp; try with_reducible rfl
        try simp only [Act.put, List.setIfInBounds_toArray, List.set_cons_zero, List.set_cons_succ]
        refine tail_take2 3 rfl (by kernel_rfl) (by kernel_rfl) (by kernel_rfl) (by decide) (fun _ _ _ h => h) (by rfl) (v := ?_) ?_ (by assumption) ?_
        rotate_left 1
        · intro w' hS'; obtain ⟨d0, d1⟩ := hS'; go_simp; try with_reducible rfl
        try simp only [Act.put, List.setIfInBounds_toArray, List.set_cons_zero, List.set_cons_succ]
        refine tail_take2 4 rfl (by kernel_rfl) (by kernel_rfl) (by kernel_rfl) (by decide) (fun _ _ _ h => h) (by rfl) (v := ?_) ?_ (by assumption) ?_
        rotate_left 1
        · intro w' hS'; obtain ⟨d0, d1⟩ := hS'; go_simp; try with_reducible rfl
        try simp only [Act.put, List.setIfInBounds_toArray, List.set_cons_zero, List.set_cons_succ]
        refine tail_take2 5 rfl (by kernel_rfl) (by kernel_rfl) (by kernel_rfl) (by decide) (fun _ _ _ h => h) (by rfl) (v := ?_) ?_ (by assumption) ?_
        rotate_left 1
        · intro w' hS'; obtain ⟨d0, d1⟩ := hS'; go_simp; try with_reducible rfl
        try simp only [Act.put, List.setIfInBounds_toArray, List.set_cons_zero, List.set_cons_succ]
        refine tail_take2 6 rfl (by kernel_rfl) (by kernel_rfl) (by kernel_rfl) (by decide) (fun _ _ _ h => h) (by rfl) (v := ?_) ?_ (by assumption) ?_
        rotate_left 1
        · intro w' hS'; obtain ⟨d0, d1⟩ := hS'; go_simp; try with_reducible rfl
        try simp only [Act.put, List.setIfInBounds_toArray, List.set_cons_zero, List.set_cons_succ]
        refine tail_end (by kernel_rfl) ?_
        have hpq : IntKind.i64.wrap ((p : Int) + (r : Int)) = ((p + r : Nat) : Int) := by rw [IntWalk.i64_in _ ⟨by omega, by omega⟩]; omega
        have hq0 : ¬ r = 0 := by omega
        have hb1 : p + r ≤ c := by omega
        have HB2 := hide HBr.out.drew
        have HJ2 := hide (HJ.out _ _ _ HJr.out ((Below.refl wr.heap.size wr).drew))
        obtain ⟨wd, hwd⟩ : ∃ wd, wr.drew = wd := ⟨_, rfl⟩
        rw [hwd] at HB2 HJ2 ⊢
        clear hwd HBr HJr hS' hr z1 hmm hr0
        obtain ⟨c0, c1⟩ := HB2.out.cells
        obtain ⟨fn, tmps, assign, body, hy, hR⟩ := HYY.out wd HJ2.out
        clear HYY
        gi_wp2_with fail
        refine hR.mono ?_
        rintro e'' w3 (⟨rfl, hJ3, hk3⟩ | ⟨rfl, hJx3⟩)
        · have HB3 := hide (HB2.out.same hk3)
          have HJ3 := hide hJ3
          clear hk3 hJ3 hy hR c0 c1 HB2 HJ2
          obtain ⟨c0, c1⟩ := HB3.out.cells
          gi_wp2_with fail
          go_roundw
          case rel => exact ⟨j + 1, by omega, by rw [HPG.out, Int.natCast_add], HB3.out, by rw [HU.out]; exact HJ3.out⟩
          case measure => simp [intOf]; omega
        · have HX3 := hide hJx3
          clear hJx3 hy hR
          gi_wp2_with fail
          refine bodyPost_ret (results_none rfl _ _ _) rfl ?_
          exact ⟨⟨_, rfl⟩, .inr ⟨_, by rw [← HU.out]; exact upn_pre _ _, HX3.out⟩⟩
      · have hmm : min G r = G := by omega
        rw [hmm] at HYY
        have z1 : ¬ (r : Int) < (G : Int) := by omega
        have hpn : p ≤ n := by omega
        have hcp : ¬ c = p := by omega
        refine wpIn_wide.2 ?_
        refine tail_begin (fun w' => w'.cell? ⟨Bn, 0, none⟩ = some (.slice (some ⟨bd, off, none⟩) n c) ∧ w'.cell? ⟨Bn + 1, 0, none⟩ = some (.int .i64 G)) 7 (by kernel_rfl) HBr.out.drew.cells (fun hS' => ?_)
        refine tail_take2 0 rfl (by kernel_rfl) (by kernel_rfl) (by kernel_rfl) (by decide) (fun _ _ _ h => h) (by rfl) (v := ?_) ?_ (by assumption) ?_
        rotate_left 1
        · intro w' hS'; obtain ⟨d0, d1⟩ := hS'; go_simp; try with_reducible rfl
        try simp only [Act.put, List.setIfInBounds_toArray, List.set_cons_zero, List.set_cons_succ]
        refine tail_take2 1 rfl (by kernel_rfl) (by kernel_rfl) (by kernel_rfl) (by decide) (fun _ _ _ h => h) (by rfl) (v := ?_) ?_ (by assumption) ?_
        rotate_left 1
        · intro w' hS'; obtain ⟨d0, d1⟩ := hS'; go_simp; try with_reducible rfl
        try simp only [Act.put, List.setIfInBounds_toArray, List.set_cons_zero, List.set_cons_succ]
        refine tail_take2 2 rfl (by kernel_rfl) (by kernel_rfl) (by kernel_rfl) (by decide) (fun _ _ _ h => h) (by rfl) (v := ?_) ?_ (by assumption) ?_
        rotate_left 1
        · intro w' hS'; obtain ⟨d0, d1⟩ := hS'; go_simp; try with_reducible rfl
        try simp only [Act.put, List.setIfInBounds_toArray, List.set_cons_zero, List.set_cons_succ]
        refine tail_take2 3 rfl (by kernel_rfl) (by kernel_rfl) (by kernel_rfl) (by decide) (fun _ _ _ h => h) (by rfl) (v := ?_) ?_ (by assumption) ?_
        rotate_left 1
        · intro w' hS'; obtain ⟨d0, d1⟩ := hS'; go_simp; try with_reducible rfl
        try simp only [Act.put, List.setIfInBounds_toArray, List.set_cons_zero, List.set_cons_succ]
        refine tail_take2 4 rfl (by kernel_rfl) (by kernel_rfl) (by kernel_rfl) (by decide) (fun _ _ _ h => h) (by rfl) (v := ?_) ?_ (by assumption) ?_
        rotate_left 1
        · intro w' hS'; obtain ⟨d0, d1⟩ := hS'; go_simp; try with_reducible rfl
        try simp only [Act.put, List.setIfInBounds_toArray, List.set_cons_zero, List.set_cons_succ]
        refine tail_take2 5 rfl (by kernel_rfl) (by kernel_rfl) (by kernel_rfl) (by decide) (fun _ _ _ h => h) (by rfl) (v := ?_) ?_ (by assumption) ?_
        rotate_left 1
        · intro w' hS'; obtain ⟨d0, d1⟩ := hS'; go_simp; try with_reducible rfl
        try simp only [Act.put, List.setIfInBounds_toArray, List.set_cons_zero, List.set_cons_succ]
        refine tail_take2 6 rfl (by kernel_rfl) (by kernel_rfl) (by kernel_rfl) (by decide) (fun _ _ _ h => h) (by rfl) (v := ?_) ?_ (by assumption) ?_
        rotate_left 1
        · intro w' hS'; obtain ⟨d0, d1⟩ := hS'; go_simp; try with_reducible rfl
        try simp only [Act.put, List.setIfInBounds_toArray, List.set_cons_zero, List.set_cons_succ]
        refine tail_end (by kernel_rfl) ?_
        have hpq : IntKind.i64.wrap ((p : Int) + (G : Int)) = ((p + G : Nat) : Int) := by rw [IntWalk.i64_in _ ⟨by omega, by omega⟩]; omega
        have hq0 : ¬ G = 0 := by omega
        have hb1 : p + G ≤ c := by omega
        have HB2 := hide HBr.out.drew
        have HJ2 := hide (HJ.out _ _ _ HJr.out ((Below.refl wr.heap.size wr).drew))
        obtain ⟨wd, hwd⟩ : ∃ wd, wr.drew = wd := ⟨_, rfl⟩
        rw [hwd] at HB2 HJ2 ⊢
        clear hwd HBr HJr hS' hr z1 hmm hr0
        obtain ⟨c0, c1⟩ := HB2.out.cells
        obtain ⟨fn, tmps, assign, body, hy, hR⟩ := HYY.out wd HJ2.out
        clear HYY
        gi_wp2_with fail
        refine hR.mono ?_
        rintro e'' w3 (⟨rfl, hJ3, hk3⟩ | ⟨rfl, hJx3⟩)
        · have HB3 := hide (HB2.out.same hk3)
          have HJ3 := hide hJ3
          clear hk3 hJ3 hy hR c0 c1 HB2 HJ2
          obtain ⟨c0, c1⟩ := HB3.out.cells
          gi_wp2_with fail
          go_roundw
          case rel => exact ⟨j + 1, by omega, by rw [HPG.out, Int.natCast_add], HB3.out, by rw [HU.out]; exact HJ3.out⟩
          case measure => simp [intOf]; omega
        · have HX3 := hide hJx3
          clear hJx3 hy hR
          gi_wp2_with fail
          refine bodyPost_ret (results_none rfl _ _ _) rfl ?_
          exact ⟨⟨_, rfl⟩, .inr ⟨_, by rw [← HU.out]; exact upn_pre _ _, HX3.out⟩⟩
    · have hje := gct_end hG hj hlt
      obtain ⟨p, hp⟩ : ∃ p, j * G = p := ⟨_, rfl⟩
      rw [hp] at hlt ⊢
      have HJE := hide hje
      clear hp hje
      gi_wp2_with fail
      go_end0
      exact ⟨⟨_, rfl⟩, .inl ⟨_, rfl, by have h := HJr.out; rw [HJE.out, upn_all] at h; exact h⟩⟩

/-- What is ranged over: the chunks in their order. -/
theorem chunk_stops (bd off n c G nn Bn : Nat) (hnn : 1 ≤ nn) (hG : 1 ≤ G) (hG3 : G ≤ 3) (hn : n ≤ 255) (hc : n ≤ c) (hcc : c ≤ 9223372036854775807) (w : World) (hB : CkRow w Bn bd off n c G) :
    SeqStopsK Fence.wide nn Try.prog 129 #[.pointer (some ⟨Bn, 0, none⟩), .pointer (some ⟨Bn + 1, 0, none⟩)] (encC bd off n G (gct G n)) (CkKeep Bn) (fun ys => ys = List.finRange (gct G n)) (fun pre => pre <+: List.finRange (gct G n)) (gct G n) w := fun l J Jx W hW hJ hJx hY h0 =>
  chunk1_in bd off n c G nn l Bn hnn hG hG3 hn hc hcc J Jx
    (fun s W1 W2 hs hb => hJ s W1 W2 none hs ⟨hb.os, hb.tape, hb.output, hb.size, fun i hi _ => hb.block i hi⟩ (fun r e => by cases e))
    (fun j hj W1 h => hY (upsN (gct G n) j) ⟨j, hj⟩ W1 h (by rw [upn_len (by omega)]; exact hj)) W (hB.next hW) h0

set_option maxRecDepth 100000 in
theorem implChunk (bd off n c G : Nat) (hG : 1 ≤ G) (w : World) :
    Calls Try.prog 123 #[.slice (some ⟨bd, off, none⟩) n c, .int .i64 G] w fun e w' => e = .returned (.func (.func 129) #[] #[.pointer (some ⟨w.heap.size, 0, none⟩), .pointer (some ⟨w.heap.size + 1, 0, none⟩)]) ∧ w' = (w.alloc (.cells #[.slice (some ⟨bd, off, none⟩) n c] 57)).alloc (.cells #[.int .i64 (G : Nat)] 3) := by
  have hg : ¬ (G : Int) < 1 := by omega
  go_enter Try.func123, Try.ntmps123
  go_wp2_with fail
  go_ret
  exact ⟨rfl, rfl⟩
end Go.Proofs.Ythbmfaogjaahoaa

namespace Go.Proofs.Ythbmfaogjaahoaa
open Go Go.RowKit
set_option linter.unusedSimpArgs false
set_option linter.unusedVariables false
attribute [local go_sem] Oper.semAt_some

section
variable {P : Program} {ops : Array Oper} {Q : Exit → Act → World → Prop} {md : Region.Mode} {n l : Nat}
theorem calls_round {f : FuncId} {args : Array Value} {w : World} {R : Ending → World → Prop} (l n : Nat) (h : Calls P f args w R) : CallsIn (Fence.wide.inRound l) n P f args w R := CallsIn.inRound l (callsIn_wide.2 h)
theorem rows_wide {row : String} {args : Array Value} {w : World} {R : Value → World → Prop} (h : Rows P row args w R) : RowsIn (Fence.wide.inRound l) n P row args w R :=
  fun c cs _ => let ⟨v, w', r, s⟩ := h c cs; ⟨v, w', r, stepsIn_wide.2 s⟩
/-- No operation of these defers a call. -/
def noDefer (ops : Array Oper) : Bool := ops.all fun o => match o.op with | .defer _ => false | _ => true
theorem noDefer_spec (h : noDefer ops = true) {i : Nat} {o : Oper} (ho : ops[i]? = some o) : ∀ c, o.op ≠ .defer c := by
  intro c hc
  have h1 := (Array.all_eq_true.1 h) i (Array.getElem?_eq_some_iff.1 ho).1
  rw [(Array.getElem?_eq_some_iff.1 ho).2, hc] at h1
  cases h1
theorem oper_round {o : Oper} {a : Act} {w : World} {K : Act → World → Prop} (hd : ∀ c, o.op ≠ .defer c) (h : o.wp P a w K Q) : o.wpIn (Fence.wide.inRound l) n P a w K Q := by
  refine ⟨fun _ _ => trivial, ?_⟩
  show Oper.uponIn _ n P o a K Q ((o.semAt (some l) a.eval).run P w)
  rw [Oper.semAt_eq _ _ _ hd]
  have h' : o.upon P a K Q ((execOp a.eval o).run P w) := h
  generalize (execOp a.eval o).run P w = r at h'
  cases r with
  | ok x w' =>
    cases x with
    | value v => exact h'
    | skip => exact h'
    | defer d => exact h'
    | enter f args => exact ⟨fun e => (by cases e), calls_round l _ h'⟩
    | row row args => exact ⟨fun e => (by cases e), rows_wide h'⟩
    | _ => exact h'.elim
  | halt x w' => cases x <;> first | exact h' | exact h'.elim
theorem any_round (hd : noDefer ops = true) (hQ : ¬ LetsOut Q) : ∀ (fuel : Nat) (listed : Array Bool) (a : Act) (w : World), wpAny P md ops Q fuel listed a w → wpAnyIn (Fence.wide.inRound l) n P md ops Q fuel listed a w := by
  intro fuel
  induction fuel with
  | zero => exact fun _ _ _ h => h
  | succ m ih =>
    refine fun listed a w h => ⟨h.1, fun i hi => ?_⟩
    have h1 := h.2 i hi
    unfold wpOp at h1
    unfold wpOpIn
    cases ho : ops[i]? with
    | none => rw [ho] at h1; exact ih _ _ _ h1
    | some o =>
      rw [ho] at h1
      dsimp only at h1 ⊢
      by_cases hw : Region.wanted o (yielded ops a.tmps) = true
      · rw [if_pos hw] at h1 ⊢
        rcases h1 with h1 | h1
        · exact oper_round (noDefer_spec hd ho) (Oper.wp_mono (fun _ _ hk => ih _ _ _ hk) h1)
        · exact absurd h1.2 hQ
      · rw [if_neg hw] at h1 ⊢
        exact ⟨fun _ _ => trivial, ih _ _ _ h1⟩
/-- The beginning of such a region within a round. -/
theorem round_begin {id : Nat} {os : List Oper} {a : Act} {w : World} (S : World → Prop) (z : Nat) (hm : P.follows .mixedOrders = true) (hd : noDefer os.toArray = true) (hQ : ¬ LetsOut Q) (hS : S w.drew)
    (h : S w.drew → wpTail P .any os.toArray Q S z os.length (Array.replicate os.length false) a w.drew) : (Code.region id os.toArray true).wpIn (Fence.wide.inRound l) n P Q a w :=
  wpIn_region_any hm (any_round hd hQ _ _ _ _ (by have := tail_any _ _ _ _ (h hS); simpa using this))
theorem letsOut_G {α : Type} {B : Nat} {Kp : World → World → Prop} {I : List α → World → Prop} {Ix : Code → List α → World → Prop} {xs : List α} {W : World} : ¬ LetsOut (ownPostG B Kp I Ix xs W) := fun ⟨_, _, h⟩ => h
end

/-- Some new blocks, and a change of one block from B on that holds no cells. -/
def Turn (B : Nat) (W W' : World) : Prop := ∃ row, W.grownBy W' row ∧ ∀ r, row = some r → B ≤ r ∧ ∃ o : Obj, W.heap[r]? = some o ∧ o.isCells = false
section
variable {B : Nat} {W W' : World}
theorem turn_below (h : Below W.heap.size W W') : Turn B W W' := ⟨none, ⟨h.os, h.tape, h.output, h.size, fun i hi _ => h.block i hi⟩, fun r e => by cases e⟩
theorem Turn.row {b : Nat} {cs : Array Value} {t : TypeId} {f : Nat × Nat} (h : Turn B W W') (hb : W.heap[b]? = some (.cells cs t f)) : W'.heap[b]? = some (.cells cs t f) := by
  obtain ⟨row, hg, hr⟩ := h
  refine (hg.block b (Array.getElem?_eq_some_iff.1 hb).1 fun e => ?_).trans hb
  obtain ⟨_, o, ho, hc⟩ := hr b e.symm
  rw [hb] at ho; cases ho; cases hc
/-- A block before B stays. -/
theorem Turn.block {b : Nat} (h : Turn B W W') (hb : b < B) (hw : b < W.heap.size) : W'.heap[b]? = W.heap[b]? := by
  obtain ⟨row, hg, hr⟩ := h
  refine hg.block b hw fun e => ?_
  have := (hr b e.symm).1; omega
theorem Turn.apart {base : Nat} {e : TypeId} {size n : Nat} {v : Value} {xs : List Value} (h : Turn B W W') (ho : W.ownsRow base e size v n xs) : ∃ row, W.grownBy W' row ∧ (v.ownBlock = none ∨ v.ownBlock ≠ row) := by
  obtain ⟨row, hg, hr⟩ := h
  refine ⟨row, hg, ?_⟩
  rcases ho.2 with ⟨rfl, _⟩ | ⟨g, cap, cur, rfl, _, hgb, _⟩
  · exact .inl rfl
  · refine .inr fun e' => ?_
    obtain ⟨_, o, ho, hc⟩ := hr g (by simpa [Value.ownBlock] using e'.symm)
    rw [hgb] at ho; cases ho; cases hc
theorem Turn.own {base : Nat} {e : TypeId} {k : IntKind} {v : Value} {zs : List Int} (h : Turn B W W') (ho : Go.Proofs.Ythbmfaogjaahoaa.Own W base e k v zs) : Go.Proofs.Ythbmfaogjaahoaa.Own W' base e k v zs := by
  obtain ⟨row, hg, hne⟩ := h.apart ho
  exact World.ownsRow.kept ho hg hne
theorem Turn.below {B0 : Nat} {W0 : World} (h : Turn B W W') (hb : Below B0 W0 W) (h1 : B0 ≤ W0.heap.size) (h2 : B0 ≤ B) : Below B0 W0 W' := by
  obtain ⟨row, hg, hr⟩ := h
  exact hb.grown hg (Nat.le_trans h1 hb.size) fun r e => Nat.le_trans h2 (hr r e).1
theorem Turn.size (h : Turn B W W') : W.heap.size ≤ W'.heap.size := by obtain ⟨row, hg, _⟩ := h; exact hg.size
end
theorem turn_put {B l : Nat} {W : World} {o : Obj} (o' : Obj) (hl : W.heap[l]? = some o) (ho : o.isCells = false) (hB : B ≤ l) : Turn B W (W.putObj l o') := ⟨some l, grownBy_putObj' W l o', fun r e => by cases e; exact ⟨hB, o, hl, ho⟩⟩
/-- What abides such turns. -/
def Steady {α : Type} (B : Nat) (I : List α → World → Prop) : Prop := ∀ s W W', I s W → Turn B W W' → I s W'
theorem Steady.from {α : Type} {B : Nat} {I : List α → World → Prop} (h : Steady B I) : OwnFrom B I := fun s W W' row hs hg hr => h s W W' hs ⟨row, hg, hr⟩
theorem keeps_below {B : Nat} {W W' : World} (h : Below W.heap.size W W') : KeepsFrom B W W' :=
  (KeepsOthers.of_grownBy (row := none) ⟨h.os, h.tape, h.output, h.size, fun i hi _ => h.block i hi⟩ (fun j o e => by cases e)).from _
theorem keeps_owned {B base : Nat} {W W' : World} {e : TypeId} {size n : Nat} {v : Value} {xs : List Value} (hg : W.grownBy W' v.ownBlock) (ho : W.ownsRow base e size v n xs) : KeepsFrom B W W' :=
  (KeepsOthers.of_grownBy hg fun j o e' hj => by
    rcases ho.2 with ⟨rfl, _⟩ | ⟨g, cap, cur, rfl, _, hgb, _⟩
    · cases e'
    · obtain rfl : g = j := by simpa [Value.ownBlock] using e'
      rw [hgb] at hj; cases hj; rfl).from _

/-- A range over chunks. -/
theorem range_chunk {bd off n c G nn Bn : Nat} (hG : 1 ≤ G) (hG3 : G ≤ 3) (hn : n ≤ 255) (hc : n ≤ c) (hcc : c ≤ 9223372036854775807) {w : World} (hB : CkRow w Bn bd off n c G)
    {go : Operand} {ps : Array Tmp} {assign body : Code} {Q : Exit → Act → World → Prop} {a : Act} (h1 : 2 ≤ nn)
    (hg : a.eval go = .func (.func 129) #[] #[.pointer (some ⟨Bn, 0, none⟩), .pointer (some ⟨Bn + 1, 0, none⟩)]) (hps : ps.size = 1)
    (I : List (Fin (gct G n)) → World → Prop) (Ix : Code → List (Fin (gct G n)) → World → Prop) (hI : Steady w.heap.size I) (hIx : ∀ c, Steady w.heap.size (Ix c)) (h0 : I [] w) (A : Fin (gct G n) → Act)
    (hassign : ∀ (l : Nat) (x : Fin (gct G n)) (W : World) (K' : Act → World → Prop), K' (A x) W →
      assign.wpIn (Fence.wide.inRound l) (nn - 1 - 1) Try.prog (Exit.then K' (fun _ _ _ => False)) { tmps := (ps.zip #[.slice (some ⟨bd, off + x.val * G, none⟩) (min G (n - x.val * G)) (min G (n - x.val * G))]).foldl (fun t (p, v) => t.setIfInBounds p v) a.tmps, defers := [] } W)
    (hbody : ∀ (l : Nat) (pre : List (Fin (gct G n))) (x : Fin (gct G n)) (W : World), I pre W → pre.length < gct G n →
      body.wpIn (Fence.wide.inRound l) (nn - 1 - 1) Try.prog (ownPostG w.heap.size (CkKeep Bn) I Ix (pre ++ [x]) W) (A x) W)
    (hdone : ∀ (Dd : Nat) (W : World), w.heap.size ≤ Dd → I (List.finRange (gct G n)) W → W.heap[Dd]? = some (.deferred (some [])) → Q .normal { a with defers := { target := .collected Dd, args := #[] } :: a.defers } W)
    (hstop : ∀ (Dd : Nat) (c : Code) (pre : List (Fin (gct G n))) (W : World), w.heap.size ≤ Dd → pre <+: List.finRange (gct G n) → Ix c pre W → W.heap[Dd]? = some (.deferred (some [])) → c.wpIn Fence.wide nn Try.prog Q { a with defers := { target := .collected Dd, args := #[] } :: a.defers } W) :
    (Code.rangeFunc go ps assign body).wpIn Fence.wide nn Try.prog Q a w := by
  have hlt := hB.lt
  refine wpIn_rangeFunc_ownH rfl (by omega) (gf := 129) (lb := #[.pointer (some ⟨Bn, 0, none⟩), .pointer (some ⟨Bn + 1, 0, none⟩)]) hg trivial (enters_of Try.func129 (by kernel_rfl) rfl)
    (chunk_stops bd off n c G (nn - 1) Bn (by omega) hG hG3 hn hc hcc w hB) (fun h h' => ⟨h'.1.trans h.1, h'.2.trans h.2⟩) (fun W l o o' hl ho h2 h3 => ⟨World.putObj_heap_other (by omega), World.putObj_heap_other (by omega)⟩) (Below.refl _ _) (fun _ => hps.symm)
    I Ix hI.from (fun c => (hIx c).from) h0 (fun x a' W => a' = A x)
    (fun x a' _ X Y row hs hg' hr => hs) ?assign ?body ?done ?stop
  case assign =>
    intro l pre x W K' hi hK'
    exact hassign l x W K' (hK' _ _ (KeepsFrom.refl _ _) ⟨rfl, rfl⟩ hi rfl)
  case body =>
    rintro l pre x a' W hl ⟨r, hr⟩ hi rfl hlen
    exact hbody l pre x W hi hlen
  case done =>
    rintro Dd xs W hDd rfl hi hk
    exact hdone Dd W hDd hi hk
  case stop =>
    rintro Dd c pre W hDd hpre hi hk
    exact hstop Dd c pre W hDd hpre hi hk
end Go.Proofs.Ythbmfaogjaahoaa

namespace Go.Proofs.Ythbmfaogjaahoaa
open Go.RowKit

/-- append(out, y), and where the new slice lies. -/
theorem wpList_app1M {P : Program} (w : World) {ops : Array Oper} {rest : List Oper} {o : Oper} {a : Act} {Q : Exit → Act → World → Prop} (hgd : o.guard = none) (s x : Operand) (t : TypeId)
    (ho : o.op = .call { callee := .builtin .append, args := #[s, x], argTypes := #[t, t] }) {e : TypeId} {k : IntKind} {bytes : Nat} (E : IsElem P t e k bytes)
    (base : Nat) (v : Value) (zs : List Int) (hs : a.eval s = v) (hown : Own w base e k v zs) (y : Int) (hx : a.eval x = .slice (some ⟨w.heap.size, 0, none⟩) 1 1)
    (hlen : (zs.length + 1) * 8 ≤ 140737488355328) (hbase : base ≤ w.heap.size)
    (h : ∀ v' w', Own w' base e k v' (zs ++ [y]) → w.grownBy w' v.ownBlock → (∀ g, v'.ownBlock = some g → v.ownBlock = some g ∨ w.heap.size ≤ g) → wpList P ops Q rest (a.put o.dst v') w') : wpList P ops Q (o :: rest) a (w.alloc (.cells #[.int k y] e)) := by
  obtain ⟨i, hi, hz0, hz1, hz2⟩ := info_parts E.info
  have hby : (zs.length + 1) * bytes ≤ 140737488355328 := Nat.le_trans (Nat.mul_le_mul_left _ E.small) hlen
  refine wpList_append_lies (w := w.alloc (.cells #[.int k y] e)) hgd s x t ho base e i (.int k 0) 1 bytes E.under hi hz0 hz1 hz2 rfl (by decide) v zs.length (zs.map (Value.int k)) hs (hown.alloc _) ⟨w.heap.size, 0, none⟩ 1 1 [.int k y] hx rfl (fun j u hu => ?_) (ints_oneCell k [y]) (by decide) (by simp only [maxLen]; omega) hby (by rw [alloc_size]; omega) (w.heap.size + 1) (alloc_size _ _) fun b cap w' h2 h3 h4 _ => ?_
  · have hj : j = 0 := by
      have := (List.getElem?_eq_some_iff.1 hu).1
      simp at this; exact this
    subst hj
    simp only [List.getElem?_cons_zero, Option.some.injEq] at hu
    subst hu
    rw [addr_add, World.cell?_alloc_at _ _ _ _ rfl]; rfl
  · refine h _ w' (Own.intro h2 (by simp) (by simp)) (grown_trans (World.grownBy_alloc w _ _) h3) fun g hg => ?_
    have hbg : b = g := by simpa [Value.ownBlock] using hg
    subst hbg
    rcases h4 with h4 | h4
    · exact .inl h4
    · exact .inr (by omega)

theorem grown_step {w wr w1 : World} {v u : Value} (h : w.grownBy wr v.ownBlock) (hl : ∀ g, u.ownBlock = some g → v.ownBlock = some g ∨ w.heap.size ≤ g) (h1 : wr.grownBy w1 u.ownBlock) : w.grownBy w1 v.ownBlock :=
  ⟨h1.os.trans h.os, h1.tape.trans h.tape, h1.output.trans h.output, Nat.le_trans h.size h1.size, fun i hi hne => (h1.block i (Nat.lt_of_lt_of_le hi h.size) (fun e => by
    rcases hl i e.symm with h2 | h2
    · exact hne h2.symm
    · omega)).trans (h.block i hi hne)⟩
theorem lies_step {w wr : World} {v u u' : Value} (hs : w.heap.size ≤ wr.heap.size) (hl : ∀ g, u.ownBlock = some g → v.ownBlock = some g ∨ w.heap.size ≤ g) (h1 : ∀ g, u'.ownBlock = some g → u.ownBlock = some g ∨ wr.heap.size ≤ g) : ∀ g, u'.ownBlock = some g → v.ownBlock = some g ∨ w.heap.size ≤ g := by
  intro g hg
  rcases h1 g hg with h2 | h2
  · exact hl g h2
  · exact .inr (by omega)

/-- What a function leaves that appends to a slice of its caller's own, with the place of the new slice. -/
def LongerM (e : TypeId) (k : IntKind) (base : Nat) (v : Value) (zs : List Int) (w : World) (x : Ending) (w' : World) : Prop :=
  ∃ v', x = .returned v' ∧ Own w' base e k v' zs ∧ w.grownBy w' v.ownBlock ∧ ∀ g, v'.ownBlock = some g → v.ownBlock = some g ∨ w.heap.size ≤ g
def AppRelM (base wd : Nat) (zs ys : List Int) (v : Value) (w : World) (u i : Value) (wr : World) : Prop :=
  ∃ j : Nat, j ≤ wd ∧ i = .int .i64 ((wd : Int) - 1 - (j : Int)) ∧ Own wr base 2 .i64 u (zs ++ ys.take j) ∧ w.grownBy wr v.ownBlock ∧ ∀ g, u.ownBlock = some g → v.ownBlock = some g ∨ w.heap.size ≤ g

set_option maxHeartbeats 400000 in
theorem implAppendNumberM (v : Value) (base wd : Nat) (zs : List Int) (val : Int) (w : World) (hO : Own w base 2 .i64 v zs) (hbase : base ≤ w.heap.size) (hl : zs.length ≤ 1099511627776) (hwd : wd ≤ 62) (hv0 : 0 ≤ val) (hv1 : val ≤ 9223372036854775807) :
    Calls Try.prog 74 #[v, .int .i64 val, .int .i64 (wd : Int)] w (LongerM 2 .i64 base v (zs ++ bitsOf val wd) w) := by
  have HO := hide hO
  clear hO
  go_enter Try.func74, Try.ntmps74
  go_wp2
  go_loopw [0, 7] (fun u i wr => AppRelM base wd zs (bitsOf val wd) v w u i wr) (fun _ i _ => (intOf i + 1).toNat)
  case atStart => exact ⟨0, by omega, by simp, by simpa using HO.out, ⟨rfl, rfl, rfl, Nat.le_refl _, fun _ _ _ => rfl⟩, fun g hg => .inl hg⟩
  case round =>
    clear HO
    obtain ⟨u, rfl⟩ : ∃ u : Value, u = u0 := ⟨_, rfl⟩
    obtain ⟨j, hj, rfl, hOwn, hGr, hLi⟩ := hrel
    have HO := hide hOwn
    have HGr := hide hGr
    have HLi := hide hLi
    clear hOwn hGr hLi
    by_cases hlt : j < wd
    · have s0 : 0 ≤ (wd : Int) - 1 - (j : Int) := by omega
      have s1 : (wd : Int) - 1 - (j : Int) < 64 := by omega
      have HS := hide (bitsOf_at val hlt)
      have hbit : bits .and .i64 (val / 2 ^ (wd - 1 - j)) 1 = val / 2 ^ (wd - 1 - j) % 2 :=
        and1 _ (Int.ediv_nonneg hv0 (by exact Int.le_of_lt (Int.pow_pos (by decide)))) (Int.le_trans (Int.ediv_le_self _ hv0) hv1)
      generalize val / 2 ^ (wd - 1 - j) % 2 = y at hbit HS
      have hbz : base ≤ wr.heap.size := by have := HGr.out.size; omega
      have hlen : (zs ++ (bitsOf val wd).take j).length + 1 ≤ 1099511628000 := by rw [List.length_append, List.length_take, bitsOf_len]; omega
      go_wp2_with (at_builtin; refine wpList_app1M wr rfl _ _ _ rfl elem64 base u _ rfl HO.out y rfl (by omega) hbz ?_; intro v' w1 hown1 hgrow hlies)
      have HO1 := hide hown1
      have HG1 := hide (grown_step HGr.out HLi.out hgrow)
      have HL1 := hide (lies_step HGr.out.size HLi.out hlies)
      clear hown1 hgrow hbit hlies
      go_wp2
      go_roundw
      case rel =>
        refine ⟨j + 1, by omega, by go_num, ?_, HG1.out, HL1.out⟩
        have h := HO1.out
        rw [List.append_assoc, ← take_snocI HS] at h
        exact h
      case measure => simp [intOf]; omega
    · go_wp2
      go_ret
      have h := HO.out
      rw [List.take_of_length_le (by rw [bitsOf_len]; omega)] at h
      exact ⟨_, rfl, h, HGr.out, HLi.out⟩
end Go.Proofs.Ythbmfaogjaahoaa

namespace Go.Proofs.Ythbmfaogjaahoaa
open Go Go.RowKit
set_option linter.unusedSimpArgs false
set_option linter.unusedVariables false

/-- A stretch that is left at its end alone. -/
def OnlyN (Q : Exit → Act → World → Prop) : Exit → Act → World → Prop
  | .normal, a, w => Q .normal a w
  | _, _, _ => False
theorem region_only {P : Program} {n : Nat} {c : Code} {Q : Exit → Act → World → Prop} {a : Act} {w : World} (h : c.wp P (OnlyN Q) a w) : c.wpIn Fence.wide n P Q a w :=
  wpIn_wide.2 (wp_mono h fun e a w hq => by cases e <;> first | exact hq | exact hq.elim)

theorem row_put {W : World} {b b' off : Nat} {o : Obj} {v : Value} (h : W.heap[b]? = some o) (hne : b ≠ b') : (W.setCell ⟨b', off, none⟩ v).heap[b]? = some o := by
  rw [heap_setCell_other W ⟨b', off, none⟩ b v hne]; exact h
theorem cell1 {W : World} {b : Nat} {v : Value} {t : TypeId} (h : W.heap[b]? = some (.cells #[v] t (0, 0))) : W.cell? ⟨b, 0, none⟩ = some v ∧ W.frozen? ⟨b, 0, none⟩ = false :=
  ⟨cell_of_row W b 0 _ _ _ h, frozen_of_row W b 0 _ _ h⟩
theorem keepsO_owned {base : Nat} {W W' : World} {e : TypeId} {size n : Nat} {v : Value} {xs : List Value} (hg : W.grownBy W' v.ownBlock) (ho : W.ownsRow base e size v n xs) : KeepsOthers W W' :=
  KeepsOthers.of_grownBy hg fun j o e' hj => by
    rcases ho.2 with ⟨rfl, _⟩ | ⟨g, cap, cur, rfl, _, hgb, _⟩
    · cases e'
    · obtain rfl : g = j := by simpa [Value.ownBlock] using e'
      rw [hgb] at hj; cases hj; rfl

/-- The variable in block b3 holds the slice v, which reads as zs and is its own; the other blocks of L are as they were in W1. -/
structure AppV (v0 : Value) (w W1 W : World) (base b3 : Nat) (L : List Nat) (v : Value) (zs : List Int) : Prop where
  box : W.heap[b3]? = some (.cells #[v] 33 (0, 0))
  own : Own W base 2 .i64 v zs
  lies : ∀ g, v.ownBlock = some g → g ∉ L
  keep : ∀ i ∈ L, i ≠ b3 → W.heap[i]? = W1.heap[i]?
  bel : Below base w W
  size : W1.heap.size ≤ W.heap.size
  old : ∀ i, i < w.heap.size → v0.ownBlock ≠ some i → W.heap[i]? = w.heap[i]?
  src : ∀ g, v.ownBlock = some g → v0.ownBlock = some g ∨ w.heap.size ≤ g
/-- What a function leaves that appends to a slice of its caller's own: nothing else of what was there has changed. -/
def LongerB (e : TypeId) (k : IntKind) (base : Nat) (v0 : Value) (zs : List Int) (w : World) (x : Ending) (w' : World) : Prop :=
  ∃ v, x = .returned v ∧ Own w' base e k v zs ∧ Below base w w' ∧ w.grownBy w' v0.ownBlock ∧ ∀ g, v.ownBlock = some g → v0.ownBlock = some g ∨ w.heap.size ≤ g
section
variable {v0 : Value} {w W1 W W' : World} {base b3 : Nat} {L : List Nat} {v v' : Value} {zs zs' : List Int}
theorem AppV.next (h : AppV v0 w W1 W base b3 L v zs) (hL : ∀ i ∈ L, i < W1.heap.size) (hbase : base ≤ w.heap.size) (hb : Below W.heap.size W W') : AppV v0 w W1 W' base b3 L v zs :=
  ⟨by rw [hb.block _ (Array.getElem?_eq_some_iff.1 h.box).1]; exact h.box, h.own.below hb (Nat.le_refl _), h.lies,
   fun i hi hne => by rw [hb.block _ (Nat.lt_of_lt_of_le (hL i hi) h.size)]; exact h.keep i hi hne,
   h.bel.trans (hb.mono (Nat.le_trans hbase h.bel.size)), Nat.le_trans h.size hb.size,
   fun i hi hne => by rw [hb.block _ (Nat.lt_of_lt_of_le hi h.bel.size)]; exact h.old i hi hne, h.src⟩
theorem AppV.drew (h : AppV v0 w W1 W base b3 L v zs) : AppV v0 w W1 W.drew base b3 L v zs := ⟨h.box, h.own, h.lies, h.keep, h.bel.drew, h.size, h.old, h.src⟩
theorem AppV.turn (h : AppV v0 w W1 W base b3 L v zs) (hL : ∀ i ∈ L, i < W1.heap.size) (hbase : base ≤ w.heap.size) (hw1 : w.heap.size ≤ W1.heap.size) (ht : Turn W1.heap.size W W') : AppV v0 w W1 W' base b3 L v zs :=
  ⟨ht.row h.box, ht.own h.own, h.lies, fun i hi hne => by rw [ht.block (hL i hi) (Nat.lt_of_lt_of_le (hL i hi) h.size)]; exact h.keep i hi hne,
   ht.below h.bel hbase (Nat.le_trans hbase hw1), Nat.le_trans h.size ht.size,
   fun i hi hne => by rw [ht.block (Nat.lt_of_lt_of_le hi hw1) (Nat.lt_of_lt_of_le hi h.bel.size)]; exact h.old i hi hne, h.src⟩
theorem AppV.put (h : AppV v0 w W1 W base b3 L v zs) (hb3 : b3 ∈ L) (hL : ∀ i ∈ L, i < W1.heap.size) (hb3w : w.heap.size ≤ b3) (hbw : base ≤ w.heap.size) (ho : Own W' base 2 .i64 v' zs') (hg : W.grownBy W' v.ownBlock)
    (hl : ∀ g, v'.ownBlock = some g → v.ownBlock = some g ∨ W.heap.size ≤ g) : AppV v0 w W1 (W'.setCell ⟨b3, 0, none⟩ v') base b3 L v' zs' := by
  have hlies : ∀ g, v'.ownBlock = some g → g ∉ L := fun g hg' hm => by
    rcases hl g hg' with h1 | h1
    · exact h.lies g h1 hm
    · have := hL g hm; have := h.size; omega
  have hbk : ∀ i ∈ L, W'.heap[i]? = W.heap[i]? := fun i hi => hg.block i (Nat.lt_of_lt_of_le (hL i hi) h.size) fun e => h.lies i e.symm hi
  have hbase : base ≤ b3 := Nat.le_trans hbw hb3w
  refine ⟨?_, ?_, hlies, ?_, ?_, ?_, ?_, ?_⟩
  · exact heap_setCell_same W' b3 0 _ _ v' ((hbk b3 hb3).trans h.box)
  · refine ho.grown (row := some b3) (grownBy_setCell' W' b3 v') ?_
    rcases hv : v'.ownBlock with _ | g
    · exact .inl rfl
    · exact .inr fun e => hlies g hv (by cases e; exact hb3)
  · intro i hi hne
    rw [heap_setCell_other W' ⟨b3, 0, none⟩ i v' hne, hbk i hi]
    exact h.keep i hi hne
  · exact (h.bel.grown hg (Nat.le_trans hbw h.bel.size) (fun r hr => (h.own.lt hr).1)).setCell (p := ⟨b3, 0, none⟩) hbase v'
  · have h1 := (grownBy_setCell' W' b3 v').size
    exact Nat.le_trans h.size (Nat.le_trans hg.size h1)
  · intro i hi hne
    rw [heap_setCell_other W' ⟨b3, 0, none⟩ i v' (show i ≠ b3 by omega), hg.block i (Nat.lt_of_lt_of_le hi h.bel.size) (fun e => ?_)]
    · exact h.old i hi hne
    · rcases h.src i e.symm with h1 | h1
      · exact hne h1
      · omega
  · intro g hg'
    rcases hl g hg' with h1 | h1
    · exact h.src g h1
    · exact .inr (Nat.le_trans h.bel.size h1)
theorem AppV.gro (h : AppV v0 w W1 W base b3 L v zs) : w.grownBy W v0.ownBlock := ⟨h.bel.os, h.bel.tape, h.bel.output, h.bel.size, fun i hi hne => h.old i hi (fun e => hne e.symm)⟩
/-- The same, seen from a later world. -/
theorem AppV.from {L' : List Nat} {W2 : World} (h : AppV v0 w W1 W2 base b3 L v zs) (hl : ∀ g, v.ownBlock = some g → g ∉ L') : AppV v0 w W2 W2 base b3 L' v zs :=
  ⟨h.box, h.own, hl, fun _ _ _ => rfl, h.bel, Nat.le_refl _, h.old, h.src⟩
theorem AppV.keeps (h : AppV v0 w W1 W base b3 L v zs) (hg : W.grownBy W' v.ownBlock) (v' : Value) : KeepsOthers W (W'.setCell ⟨b3, 0, none⟩ v') :=
  (keepsO_owned hg h.own).trans (KeepsOthers.setCell _ _ _)
end

theorem AppV.rows {v0 : Value} {w W1 W W' : World} {base b3 : Nat} {L : List Nat} {v : Value} {zs : List Int} (h : AppV v0 w W1 W base b3 L v zs) (hL : ∀ i ∈ L, i < W1.heap.size) (hg : W.grownBy W' v.ownBlock) : ∀ i ∈ L, W'.heap[i]? = W.heap[i]? :=
  fun i hi => hg.block i (Nat.lt_of_lt_of_le (hL i hi) h.size) fun e => h.lies i e.symm hi
theorem row_keep {w : World} {b : Nat} {o : Obj} (h : w.heap[b]? = some o) (o' : Obj) : (w.alloc o').heap[b]? = some o := by
  rw [heap_alloc_old w o' (Array.getElem?_eq_some_iff.1 h).1]; exact h
theorem seg_cells {W : World} {b : Nat} {m : Int} {s : ByteArray} {t : TypeId} (h : W.heap[b]? = some (.cells #[.int .i64 m, .string s] t (0, 0))) : W.cell? ⟨b, 0, none⟩ = some (.int .i64 m) ∧ W.cell? ⟨b, 1, none⟩ = some (.string s) :=
  ⟨cell_of_row W b 0 _ _ _ h, cell_of_row W b 1 _ _ _ h⟩
theorem setCell_size (W : World) (a : Addr) (v : Value) : (W.setCell a v).heap.size = W.heap.size := by simp [World.setCell]

/-- The bytes of a string in a block of their own. -/
theorem bytes_row (w : World) (s : ByteArray) (cap : Nat) (e : TypeId) (f : Nat × Nat) : Ints .u8 (w.alloc (.cells (bytesRow s cap) e f)) (w.heap.size + 1) (some ⟨w.heap.size, 0, none⟩) s.size (bytesI s) := by
  refine ⟨bytesI_len s, fun hp => ⟨w.heap.size, 0, rfl, by omega, fun j x hx => ?_⟩⟩
  have hj : j < s.size := by have := (List.getElem?_eq_some_iff.1 hx).1; rw [bytesI_len] at this; exact this
  have hj' : j < s.data.size := hj
  have hx' : ((s.data[j]'hj').toNat : Int) = x := by
    unfold bytesI at hx
    rw [List.getElem?_map, Array.getElem?_toList, Array.getElem?_eq_getElem hj'] at hx
    simpa using hx
  rw [cell_of_row _ w.heap.size (0 + j) _ _ _ (heap_alloc_new w _), Nat.zero_add, bytesRow, Array.getElem?_append_left (by rw [Array.size_map]; exact hj'), Array.getElem?_map, Array.getElem?_eq_getElem hj']
  simp [hx']

/-- The bits of some groups. -/
def txL {N : Nat} (m : Int) (bs : List Int) (pre : List (Fin N)) : List Int := pre.flatMap fun x => bitsOf (gnum m (grp (gsz m) bs x.val)) (wid m (grp (gsz m) bs x.val).length)
theorem txL_snoc {N : Nat} (m : Int) (bs : List Int) (pre : List (Fin N)) (x : Fin N) : txL m bs (pre ++ [x]) = txL m bs pre ++ bitsOf (gnum m (grp (gsz m) bs x.val)) (wid m (grp (gsz m) bs x.val).length) := by simp [txL, List.flatMap_append]
theorem txL_le {N : Nat} (m : Int) (bs : List Int) (pre : List (Fin N)) : (txL m bs pre).length ≤ 11 * pre.length := by
  induction pre with
  | nil => simp [txL]
  | cons x pre ih =>
    have := wid_le m (grp (gsz m) bs x.val).length
    simp only [txL, List.flatMap_cons, List.length_append, bitsOf_len, List.length_cons] at ih ⊢
    omega
theorem txL_ups {m : Int} {bs : List Int} {N : Nat} : ∀ j, j ≤ N → txL m bs (upsN N j) = txP m bs j := by
  intro j
  induction j with
  | zero => intro _; rfl
  | succ j ih =>
    intro hj
    rw [upn_succ (by omega), txL_snoc, txP_succ, ih (by omega)]
theorem txL_all (m : Int) (bs : List Int) (N : Nat) : txL m bs (List.finRange N) = txP m bs N := by rw [← upn_all, txL_ups N (Nat.le_refl _)]
end Go.Proofs.Ythbmfaogjaahoaa
