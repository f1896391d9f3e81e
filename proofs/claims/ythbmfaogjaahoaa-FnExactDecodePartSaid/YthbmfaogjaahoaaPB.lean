/-
  A range over the chunks of a slice of bytes, in order: the body is asked for the next chunk alone.
  A slice of bytes from its end: what slices.Backward gives to a loop that ranges over it.
  A range over a slice of bytes from its end, within a round of another loop: the body is asked for the next index alone, and is left at its end.
  The program's characters: what a mode gives for a value.
  Condition: as each statement says.
-/
import Derived.Test.YthbmfaogjaahoaaPE
import Derived.Test.YthbmfaogjaahoaaSg1
import Derived.Test.YthbmfaogjaahoaaSgSz
import Derived.Test.YthbmfaogjaahoaaBox
namespace Go.Proofs.Ythbmfaogjaahoaa
open Go Go.RowKit
set_option linter.unusedSimpArgs false
set_option linter.unusedVariables false

section
variable {N : Nat} (lp : LoopState → Option Code → Loop) (L : Nat) (I : Nat → World → Prop) (Ix : Code → World → Prop)
/-- Between two rounds: the first chunks have come, the loop's record is ready. -/
def NextJ (s : List (Fin N)) (W : World) : Prop := s = upsN N s.length ∧ I s.length W ∧ W.heap[L + 1]? = some (.loop (lp .ready none)) ∧ W.heap[L]? = some (.deferred (some []))
/-- Behind a round that left the loop. -/
def NextX (_ : List (Fin N)) (W : World) : Prop := ∃ c, Ix c W ∧ W.heap[L + 1]? = some (.loop (lp .done (some c))) ∧ W.heap[L]? = some (.deferred (some []))
end

theorem range_next {bd off n c G nn Bn : Nat} (hG : 1 ≤ G) (hG3 : G ≤ 3) (hn : n ≤ 255) (hc : n ≤ c) (hcc : c ≤ 9223372036854775807) {w : World} (hB : CkRow w Bn bd off n c G)
    {go : Operand} {ps : Array Tmp} {assign body : Code} {Q : Exit → Act → World → Prop} {a : Act} (h1 : 2 ≤ nn)
    (hg : a.eval go = .func (.func 129) #[] #[.pointer (some ⟨Bn, 0, none⟩), .pointer (some ⟨Bn + 1, 0, none⟩)]) (hps : ps.size = 1)
    (I : Nat → World → Prop) (Ix : Code → World → Prop) (hI : ∀ j W W', I j W → Turn w.heap.size W W' → I j W') (hIx : ∀ c W W', Ix c W → Turn w.heap.size W W' → Ix c W') (h0 : I 0 w)
    (AR : Fin (gct G n) → Act → World → Prop) (hAR : ∀ x b W W', AR x b W → Turn w.heap.size W W' → AR x b W')
    (hassign : ∀ (l : Nat) (x : Fin (gct G n)) (W : World) (K' : Act → World → Prop), w.heap.size ≤ W.heap.size → I x.val W → (∀ b W', Below W.heap.size W W' → AR x b W' → K' b W') →
      assign.wpIn (Fence.wide.inRound l) (nn - 1 - 1) Try.prog (Exit.then K' (fun _ _ _ => False)) { tmps := (ps.zip (encC bd off n G (gct G n) x)).foldl (fun t (p, v) => t.setIfInBounds p v) a.tmps, defers := [] } W)
    (hbody : ∀ (l : Nat) (x : Fin (gct G n)) (b : Act) (W : World), w.heap.size ≤ l → (∃ r, W.heap[l]? = some (.loop r)) → I x.val W → AR x b W →
      body.wpIn (Fence.wide.inRound l) (nn - 1 - 1) Try.prog (ownPostG w.heap.size (CkKeep Bn) (fun (s : List Unit) W => I s.length W) (fun c _ W => Ix c W) (List.replicate (x.val + 1) ()) W) b W)
    (hdone : ∀ (D : Nat) (W : World), w.heap.size ≤ D → I (gct G n) W → W.heap[D]? = some (.deferred (some [])) → Q .normal { a with defers := { target := .collected D, args := #[] } :: a.defers } W)
    (hstop : ∀ (D : Nat) (c : Code) (W : World), w.heap.size ≤ D → Ix c W → W.heap[D]? = some (.deferred (some [])) → c.wpIn Fence.wide nn Try.prog Q { a with defers := { target := .collected D, args := #[] } :: a.defers } W) :
    (Code.rangeFunc go ps assign body).wpIn Fence.wide nn Try.prog Q a w := by
  have hBl := hB.lt
  refine wpIn_rangeFunc fun fn hfn => ?_
  obtain ⟨lp, hlp⟩ : ∃ lp : LoopState → Option Code → Loop, lp = fun st pe => { state := st, pending := pe, fn, tmps := a.tmps, params := ps, assign, body, defers := w.heap.size } := ⟨_, rfl⟩
  have hrec : Below w.heap.size w ((w.alloc (.deferred (some []))).alloc (.loop (lp .ready none))) := ((Below.refl _ _).alloc (Nat.le_refl _) _).alloc (by rw [alloc_size]; omega) _
  have hloop : ((w.alloc (.deferred (some []))).alloc (.loop (lp .ready none))).heap[w.heap.size + 1]? = some (.loop (lp .ready none)) := by
    have h := heap_alloc_new (w.alloc (.deferred (some []))) (.loop (lp .ready none)); rwa [alloc_size] at h
  have hdef : ((w.alloc (.deferred (some []))).alloc (.loop (lp .ready none))).heap[w.heap.size]? = some (.deferred (some [])) := (by rw [heap_alloc_old _ _ (by rw [alloc_size]; omega)]; exact heap_alloc_new w _)
  have hent := run_enterLoop_outer (P := Try.prog) (w := w) fn a.tmps ps assign body
  refine ⟨w.heap.size + 1, [{ target := .collected w.heap.size, args := #[] }], (w.alloc (.deferred (some []))).alloc (.loop (lp .ready none)),
    { target := .fn (.func 129) #[.pointer (some ⟨Bn, 0, none⟩), .pointer (some ⟨Bn + 1, 0, none⟩)], args := #[.func (.yield (w.heap.size + 1)) #[] #[]] }, (w.alloc (.deferred (some []))).alloc (.loop (lp .ready none)), 129,
    #[.func (.yield (w.heap.size + 1)) #[] #[], .pointer (some ⟨Bn, 0, none⟩), .pointer (some ⟨Bn + 1, 0, none⟩)], (w.alloc (.deferred (some []))).alloc (.loop (lp .ready none)), by rw [hlp]; exact hent, by simp only [resolve, hg]; simp [go_sem], ?_, ?_, fun _ => by omega, ?_⟩
  · intro f' hf'; trivial
  · have eg := enters_of Try.func129 (by kernel_rfl) rfl
    simp [invoke, go_sem, eg]
  · refine (chunk1_in bd off n c G (nn - 1) (w.heap.size + 1) Bn (by omega) hG hG3 hn hc hcc (NextJ lp w.heap.size I) (NextX lp w.heap.size Ix) ?_ ?_ _ (hB.next hrec) ⟨by simp [upsN], hI 0 _ _ h0 (turn_below hrec), hloop, hdef⟩).mono ?_
    · rintro s W W' ⟨e1, e2, e3, e4⟩ hb
      exact ⟨e1, hI _ _ _ e2 (turn_below hb), by rw [hb.block _ (Array.getElem?_eq_some_iff.1 e3).1]; exact e3, by rw [hb.block _ (Array.getElem?_eq_some_iff.1 e4).1]; exact e4⟩
    · rintro j hj W ⟨_, e2, e3, e4⟩
      rw [upn_len (by omega)] at e2
      have hlt := (Array.getElem?_eq_some_iff.1 e3).1
      have hy := run_yield (P := Try.prog) (args := encC bd off n G (gct G n) ⟨j, hj⟩) e3 (by rw [hlp]; exact hps.symm)
      rw [hlp] at hy
      refine ⟨fn, _, assign, body, hy, roundIn_of_wpIn hfn (hassign _ ⟨j, hj⟩ W _ (by omega) e2 fun a1 W1 hb1 har1 => ?_)⟩
      have hck : CkKeep Bn W W1 := ⟨hb1.block _ (by omega), hb1.block _ (by omega)⟩
      have hlt1 : w.heap.size + 1 < W1.heap.size := Nat.lt_of_lt_of_le hlt hb1.size
      replace e2 := hI _ _ _ e2 (turn_below (B := w.heap.size) hb1)
      replace e3 := (hb1.block _ (by omega)).trans e3
      replace e4 := (hb1.block _ (by omega)).trans e4
      clear hy
      obtain ⟨W0, hW0⟩ : ∃ W0, W0 = W := ⟨_, rfl⟩
      rw [← hW0] at hck ⊢
      clear hW0 hb1 hlt
      have hlt := hlt1
      clear hlt1
      obtain ⟨W, rfl⟩ : ∃ W, W = W1 := ⟨_, rfl⟩
      refine ⟨_, run_beginRound e3 (by rw [hlp]), ?_⟩
      obtain ⟨bz, hbz⟩ : ∃ bz : Loop, { lp .ready none with state := .busy } = bz := ⟨_, rfl⟩
      rw [hbz]
      have t1 : Turn w.heap.size W (W.putObj (w.heap.size + 1) (.loop bz)) := turn_put _ e3 rfl (by omega)
      have k1 : CkKeep Bn W (W.putObj (w.heap.size + 1) (.loop bz)) := ⟨World.putObj_heap_other (by omega), World.putObj_heap_other (by omega)⟩
      have l1 : (W.putObj (w.heap.size + 1) (.loop bz)).heap[w.heap.size + 1]? = some (.loop bz) := World.putObj_heap_same hlt
      have d1 : (W.putObj (w.heap.size + 1) (.loop bz)).heap[w.heap.size]? = some (.deferred (some [])) := (World.putObj_heap_other (by omega)).trans e4
      refine wpIn_mono (hbody _ ⟨j, hj⟩ a1 _ (by omega) ⟨_, l1⟩ (hI _ _ _ e2 t1) (hAR _ _ _ _ har1 t1)) ?_
      have fin : ∀ (jump : Option Code) (W3 : World), KeepsFrom w.heap.size (W.putObj (w.heap.size + 1) (.loop bz)) W3 → ∃ lp' : Loop, lp' = lp (if jump.isNone then .ready else .done) jump ∧
          (Instr.endRound (w.heap.size + 1) jump).run Try.prog W3 = .ok (.bool jump.isNone) (W3.putObj (w.heap.size + 1) (.loop lp')) ∧
          Turn w.heap.size W3 (W3.putObj (w.heap.size + 1) (.loop lp')) ∧ CkKeep Bn W3 (W3.putObj (w.heap.size + 1) (.loop lp')) ∧
          (W3.putObj (w.heap.size + 1) (.loop lp')).heap[w.heap.size + 1]? = some (.loop lp') ∧ (W3.putObj (w.heap.size + 1) (.loop lp')).heap[w.heap.size]? = some (.deferred (some [])) := fun jump W3 hk => by
        have l3 := hk.same _ _ (by omega) l1 rfl
        have d3 := hk.same _ _ (Nat.le_refl _) d1 rfl
        have hr := run_endRound (P := Try.prog) jump l3
        rw [← hbz, hlp] at hr
        refine ⟨_, rfl, by rw [hlp]; exact hr, turn_put _ l3 rfl (by omega), ⟨World.putObj_heap_other (by omega), World.putObj_heap_other (by omega)⟩, World.putObj_heap_same (Array.getElem?_eq_some_iff.1 l3).1, (World.putObj_heap_other (by omega)).trans d3⟩
      have leave : ∀ (c : Code) (W3 : World), KeepsFrom w.heap.size (W.putObj (w.heap.size + 1) (.loop bz)) W3 → Ix c W3 → ∃ v W4, (Instr.endRound (w.heap.size + 1) (some c)).run Try.prog W3 = .ok v W4 ∧ v = .bool false ∧ NextX (N := gct G n) lp w.heap.size Ix (upsN (gct G n) j ++ [⟨j, hj⟩]) W4 := fun c W3 hk hx => by
        obtain ⟨lp', hl, hr, ht, _, l4, d4⟩ := fin (some c) W3 hk
        exact ⟨_, _, hr, rfl, c, hIx _ _ _ hx ht, l4.trans (by rw [hl]; rfl), d4⟩
      rintro e a3 W3 hp
      cases e with
      | normal =>
        obtain ⟨hk, hkp, hi⟩ := hp
        obtain ⟨lp', hl, hr, ht, hk4, l4, d4⟩ := fin none W3 hk
        rw [List.length_replicate] at hi
        refine ⟨_, _, hr, .inl ⟨rfl, ⟨?_, ?_, l4.trans (by rw [hl]; rfl), d4⟩, ⟨((hk4.1.trans hkp.1).trans k1.1).trans hck.1, ((hk4.2.trans hkp.2).trans k1.2).trans hck.2⟩⟩⟩
        · rw [← upn_succ hj, upn_len (by omega)]
        · rw [← upn_succ hj, upn_len (by omega)]; exact hI _ _ _ hi ht
      | ret => obtain ⟨v, W4, r, rfl, hx⟩ := leave .ret W3 hp.1 hp.2; exact ⟨_, _, r, .inr ⟨rfl, hx⟩⟩
      | exit id => obtain ⟨v, W4, r, rfl, hx⟩ := leave (.exit id) W3 hp.1 hp.2; exact ⟨_, _, r, .inr ⟨rfl, hx⟩⟩
      | goto t => obtain ⟨v, W4, r, rfl, hx⟩ := leave (.goto t) W3 hp.1 hp.2; exact ⟨_, _, r, .inr ⟨rfl, hx⟩⟩
      | panic ch => exact hp.elim
      | outgrown => exact hp.elim
    · rintro e W2 ⟨⟨v, rfl⟩, ⟨ys, rfl, e1, e2, e3, e4⟩ | ⟨pre, _, c, e2, e3, e4⟩⟩
      · rw [List.length_finRange] at e2
        have hr := run_endLoop (P := Try.prog) e3 (by rw [hlp]; simp)
        rw [hlp] at hr
        exact ⟨none, _, hr, hdone _ _ (Nat.le_refl _) (hI _ _ _ e2 (turn_put _ e3 rfl (by omega))) ((World.putObj_heap_other (by omega)).trans e4)⟩
      · have hr := run_endLoop (P := Try.prog) e3 (by rw [hlp]; simp)
        rw [hlp] at hr
        exact ⟨some c, _, hr, hstop _ c _ (Nat.le_refl _) (hIx _ _ _ e2 (turn_put _ e3 rfl (by omega))) ((World.putObj_heap_other (by omega)).trans e4)⟩
end Go.Proofs.Ythbmfaogjaahoaa

namespace Go.Proofs.Ythbmfaogjaahoaa
open Go Go.RowKit
set_option linter.unusedSimpArgs false
set_option linter.unusedVariables false
attribute [local go_sem] Oper.semAt_some

/-- The box of an iterator from the end. -/
def BkRow (W : World) (b bd off n c : Nat) : Prop := W.heap[b]? = some (.cells #[.slice (some ⟨bd, off, none⟩) n c] 57 (0, 0))
theorem BkRow.next {W W' : World} {b bd off n c : Nat} (h : BkRow W b bd off n c) (hb : Below W.heap.size W W') : BkRow W' b bd off n c := (hb.block _ (Array.getElem?_eq_some_iff.1 h).1).trans h
def BkRel (bd off n c Bn : Nat) (J : Nat → World → Prop) (i3 : Value) (wr : World) : Prop :=
  ∃ j : Nat, j ≤ n ∧ i3 = .int .i64 ((n : Int) - 1 - (j : Int)) ∧ BkRow wr Bn bd off n c ∧ J j wr
/-- One round of such a loop: the next index and its byte. -/
def BYield (Bn l n : Nat) (J : Nat → World → Prop) (Jx : World → Prop) (j : Nat) (args : Array Value) (W : World) : Prop :=
  YieldAt Fence.wide (n - 1) Try.prog l args W fun e W' => (e = .returned (.bool true) ∧ J (j + 1) W' ∧ W'.heap[Bn]? = W.heap[Bn]?) ∨ (e = .returned (.bool false) ∧ Jx W')

set_option maxRecDepth 100000 in
theorem implBackward (bd off n c : Nat) (w : World) :
    Calls Try.prog 126 #[.slice (some ⟨bd, off, none⟩) n c] w fun e w' => e = .returned (.func (.func 130) #[] #[.pointer (some ⟨w.heap.size, 0, none⟩)]) ∧ w' = w.alloc (.cells #[.slice (some ⟨bd, off, none⟩) n c] 57) := by
  go_enter Try.func126, Try.ntmps126
  go_wp2_with fail
  go_ret
  exact ⟨rfl, rfl⟩

set_option maxRecDepth 100000 in
set_option maxHeartbeats 2000000 in
theorem back1_in (bd off n c nn l Bn : Nat) (hnn : 1 ≤ nn) (hn : n ≤ 255) (hc : n ≤ c) (hcc : c ≤ 9223372036854775807) (J : Nat → World → Prop) (Jx : World → Prop)
    (hJ : ∀ j W W', J j W → Below W.heap.size W W' → J j W')
    (hC : ∀ j W, J j W → j < n → W.cell? ⟨bd, off + (n - 1 - j), none⟩ = some (.int .u8 0))
    (hY : ∀ (j : Nat) W, j < n → J j W → BYield Bn l nn J Jx j #[.int .i64 (n - 1 - j : Nat), .int .u8 0] W)
    (W : World) (hB : BkRow W Bn bd off n c) (h0 : J 0 W) :
    CallsIn Fence.wide nn Try.prog 130 #[.func (.yield l) #[] #[], .pointer (some ⟨Bn, 0, none⟩)] W (fun e W' => (∃ v, e = .returned v) ∧ (J n W' ∨ Jx W')) := by
  have HJ := hide hJ
  have HC := hide hC
  have HY := hide hY
  have HB := hide hB
  have H0 := hide h0
  have c0 : W.cell? ⟨Bn, 0, none⟩ = some (.slice (some ⟨bd, off, none⟩) n c) := cell_of_row W Bn 0 _ _ _ hB
  have hw0 : IntKind.i64.wrap ((n : Int) - 1) = (n : Int) - 1 := IntWalk.i64_in _ ⟨by omega, by omega⟩
  clear hJ hC hY hB h0
  refine callsIn_of_wp Try.func130 rfl trivial ?_ rfl
  simp only [Try.ntmps130, List.size_toArray, List.length_cons, List.length_nil, Nat.reduceAdd, Nat.reduceSub, Array.replicate_succ, Array.replicate_zero, List.push_toArray, List.append_toArray, List.nil_append, List.cons_append]
  gi_wp2_with fail
  gi_loopw [3] (fun i3 wr => BkRel bd off n c Bn J i3 wr) (fun i3 _ => (intOf i3 + 1).toNat)
  case atStart => exact ⟨0, Nat.zero_le _, by simp, HB.out, H0.out⟩
  case round =>
    clear HB H0 c0
    obtain ⟨j, hj, rfl, hBr, hJr⟩ := hrel
    have HBr := hide hBr
    have HJr := hide hJr
    have c0 : wr.cell? ⟨Bn, 0, none⟩ = some (.slice (some ⟨bd, off, none⟩) n c) := cell_of_row wr Bn 0 _ _ _ hBr
    clear hBr hJr
    by_cases hlt : j < n
    · have hcell := HC.out j wr HJr.out hlt
      have hyy := HY.out j wr hlt HJr.out
      obtain ⟨k, hk⟩ : ∃ k, n - 1 - j = k := ⟨_, rfl⟩
      rw [hk] at hcell hyy
      have hkI : (n : Int) - 1 - (j : Int) = (k : Int) := by omega
      have hkn : k < n := by omega
      rw [hkI]
      have hwk : IntKind.i64.wrap ((k : Int) - 1) = (k : Int) - 1 := IntWalk.i64_in _ ⟨by omega, by omega⟩
      obtain ⟨fn, tmps, assign, body, hy, hR⟩ := hyy
      clear hk
      gi_wp2_with fail
      refine hR.mono ?_
      rintro e'' w3 (⟨rfl, hJ3, hk3⟩ | ⟨rfl, hJx3⟩)
      · have HB3 := hide (show BkRow w3 Bn bd off n c from hk3.trans HBr.out)
        have HJ3 := hide hJ3
        clear hk3 hJ3 hy hR c0 hcell
        gi_wp2_with fail
        go_roundw
        case rel => exact ⟨j + 1, by omega, by go_num, HB3.out, HJ3.out⟩
        case measure => simp [intOf]
      · have HX3 := hide hJx3
        clear hJx3 hy hR
        gi_wp2_with fail
        refine bodyPost_ret (results_none rfl _ _ _) rfl ?_
        exact ⟨⟨_, rfl⟩, .inr HX3.out⟩
    · obtain rfl : j = n := by omega
      have hkI : (j : Int) - 1 - (j : Int) = -1 := by omega
      rw [hkI]
      gi_wp2_with fail
      go_end0
      exact ⟨⟨_, rfl⟩, .inl HJr.out⟩
end Go.Proofs.Ythbmfaogjaahoaa

namespace Go.Proofs.Ythbmfaogjaahoaa
open Go Go.RowKit
set_option linter.unusedSimpArgs false
set_option linter.unusedVariables false

theorem range_back {bd off n c nn Bn l0 : Nat} {r0 : Loop} (hn : n ≤ 255) (hc : n ≤ c) (hcc : c ≤ 9223372036854775807) {w : World} (hB : BkRow w Bn bd off n c) (hl0 : w.heap[l0]? = some (.loop r0))
    {go : Operand} {ps : Array Tmp} {assign body : Code} {Q : Exit → Act → World → Prop} {a : Act} (h1 : 2 ≤ nn)
    (hg : a.eval go = .func (.func 130) #[] #[.pointer (some ⟨Bn, 0, none⟩)]) (hps : ps.size = 2)
    (I : Nat → World → Prop) (hI : ∀ j W W', I j W → Turn w.heap.size W W' → I j W') (hC : ∀ j W, I j W → j < n → W.cell? ⟨bd, off + (n - 1 - j), none⟩ = some (.int .u8 0)) (h0 : I 0 w) (A : Nat → Act)
    (hassign : ∀ (l j : Nat) (W : World) (K' : Act → World → Prop), j < n → K' (A j) W →
      assign.wpIn (Fence.wide.inRound l) (nn - 1 - 1) Try.prog (Exit.then K' (fun _ _ _ => False)) { tmps := (ps.zip #[.int .i64 (n - 1 - j : Nat), .int .u8 0]).foldl (fun t (p, v) => t.setIfInBounds p v) a.tmps, defers := [] } W)
    (hbody : ∀ (l j : Nat) (W : World), j < n → w.heap.size ≤ l → I j W →
      body.wpIn (Fence.wide.inRound l) (nn - 1 - 1) Try.prog (ownPostG w.heap.size (fun X Y => Y.heap[Bn]? = X.heap[Bn]?) (fun (s : List Unit) W => I s.length W) (fun _ _ _ => False) (List.replicate (j + 1) ()) W) (A j) W)
    (hdone : ∀ (W : World), I n W → Q .normal a W) :
    (Code.rangeFunc go ps assign body).wpIn (Fence.wide.inRound l0) nn Try.prog Q a w := by
  have hBl := (Array.getElem?_eq_some_iff.1 hB).1
  refine wpIn_rangeFunc fun fn hfn => ?_
  obtain ⟨lp, hlp⟩ : ∃ lp : LoopState → Option Code → Loop, lp = fun st pe => { state := st, pending := pe, fn, tmps := a.tmps, params := ps, assign, body, defers := r0.defers } := ⟨_, rfl⟩
  have hrec : Below w.heap.size w (w.alloc (.loop (lp .ready none))) := (Below.refl _ _).alloc (Nat.le_refl _) _
  have hloop : (w.alloc (.loop (lp .ready none))).heap[w.heap.size]? = some (.loop (lp .ready none)) := heap_alloc_new w _
  have hent := run_enterLoop_inner (P := Try.prog) (w := w) hl0 fn a.tmps ps assign body
  refine ⟨w.heap.size, [], w.alloc (.loop (lp .ready none)),
    { target := .fn (.func 130) #[.pointer (some ⟨Bn, 0, none⟩)], args := #[.func (.yield w.heap.size) #[] #[]] }, w.alloc (.loop (lp .ready none)), 130,
    #[.func (.yield w.heap.size) #[] #[], .pointer (some ⟨Bn, 0, none⟩)], w.alloc (.loop (lp .ready none)), by rw [hlp]; exact hent, by simp only [resolve, hg]; simp [go_sem], ?_, ?_, fun _ => by omega, ?_⟩
  · intro f' hf'; trivial
  · have eg := enters_of Try.func130 (by kernel_rfl) rfl
    simp [invoke, go_sem, eg]
  · have hcall := back1_in bd off n c (nn - 1) w.heap.size Bn (by omega) hn hc hcc (fun j W => I j W ∧ W.heap[w.heap.size]? = some (.loop (lp .ready none))) (fun _ => False) ?_ ?_ ?_ (w.alloc (.loop (lp .ready none))) (hB.next hrec) ⟨hI 0 _ _ h0 (turn_below hrec), hloop⟩
    · refine CallsIn.mono (show CallsIn (Fence.wide.inRound l0) (nn - 1) Try.prog _ _ _ _ from hcall) ?_
      rintro e W2 ⟨⟨v, rfl⟩, ⟨e2, e3⟩ | h⟩
      · have hr := run_endLoop (P := Try.prog) e3 (by rw [hlp]; simp)
        rw [hlp] at hr
        exact ⟨none, _, hr, hdone _ (hI _ _ _ e2 (turn_put _ e3 rfl (Nat.le_refl _)))⟩
      · exact h.elim
    · rintro j W W' ⟨e2, e3⟩ hb
      exact ⟨hI _ _ _ e2 (turn_below hb), by rw [hb.block _ (Array.getElem?_eq_some_iff.1 e3).1]; exact e3⟩
    · rintro j W ⟨e2, _⟩ hj
      exact hC j W e2 hj
    · rintro j W hj ⟨e2, e3⟩
      have hlt := (Array.getElem?_eq_some_iff.1 e3).1
      have hy := run_yield (P := Try.prog) (args := #[.int .i64 (n - 1 - j : Nat), .int .u8 0]) e3 (by rw [hlp]; exact hps.symm)
      rw [hlp] at hy
      refine ⟨fn, _, assign, body, hy, roundIn_of_wpIn (F := Fence.wide) hfn (hassign _ j W _ hj ?_)⟩
      refine ⟨_, run_beginRound e3 (by rw [hlp]), ?_⟩
      obtain ⟨bz, hbz⟩ : ∃ bz : Loop, { lp .ready none with state := .busy } = bz := ⟨_, rfl⟩
      rw [hbz]
      have t1 : Turn w.heap.size W (W.putObj w.heap.size (.loop bz)) := turn_put _ e3 rfl (Nat.le_refl _)
      have l1 : (W.putObj w.heap.size (.loop bz)).heap[w.heap.size]? = some (.loop bz) := World.putObj_heap_same hlt
      refine wpIn_mono (hbody _ j _ hj (Nat.le_refl _) (hI _ _ _ e2 t1)) ?_
      rintro e a3 W3 hp
      cases e with
      | normal =>
        obtain ⟨hk, hkp, hi⟩ := hp
        have l3 := hk.same _ _ (Nat.le_refl _) l1 rfl
        have hr := run_endRound (P := Try.prog) none l3
        rw [← hbz, hlp] at hr
        rw [List.length_replicate] at hi
        obtain ⟨lp', hl⟩ : ∃ lp' : Loop, lp' = lp .ready none := ⟨_, rfl⟩
        refine ⟨_, _, hr, .inl ⟨rfl, ⟨hI _ _ _ hi (turn_put _ l3 rfl (Nat.le_refl _)), ?_⟩, ?_⟩⟩
        · rw [World.putObj_heap_same (Array.getElem?_eq_some_iff.1 l3).1, hlp]; rfl
        · rw [World.putObj_heap_other (by omega), hkp, World.putObj_heap_other (by omega)]
      | ret => exact hp.2.elim
      | exit id => exact hp.2.elim
      | goto t => exact hp.2.elim
      | panic ch => exact hp.elim
      | outgrown => exact hp.elim
end Go.Proofs.Ythbmfaogjaahoaa

namespace Go.Proofs.Ythbmfaogjaahoaa
open Go.RowKit
set_option linter.unusedSimpArgs false
set_option linter.unusedVariables false

theorem mdK_a (s : ByteArray) (z : Int) (n : Nat) (w : World) : (method (n + 1) 170 (.agg #[.string s, .int .i64 z]) "loop.example/g00879/impl.character").run Try.prog w = .ok (149, .agg #[.string s, .int .i64 z]) w := by kernel_rfl
theorem mdK_b (n : Nat) (w : World) : (method (n + 1) 172 (.agg #[]) "loop.example/g00879/impl.character").run Try.prog w = .ok (153, .agg #[]) w := by kernel_rfl
theorem naK_a (s : ByteArray) (z : Int) (n : Nat) (w : World) : (nilAhead (n + 1) 170 (.agg #[.string s, .int .i64 z]) "loop.example/g00879/impl.character").run Try.prog w = .ok (some false) w := by kernel_rfl
theorem naK_b (n : Nat) (w : World) : (nilAhead (n + 1) 172 (.agg #[]) "loop.example/g00879/impl.character").run Try.prog w = .ok (some false) w := by kernel_rfl

set_option maxRecDepth 100000 in
set_option maxHeartbeats 1000000 in
theorem implCharA (m : Int) (hm : m = 1 ∨ m = 2 ∨ m = 3) (s : ByteArray) (z : Int) (hs : bytesI s = chL m) (x : Nat) (hx : x < gbase m) (w : World) :
    Calls Try.prog 149 #[.agg #[.string s, .int .i64 z], .int .i64 x] w (Gives (.int .u8 (chr m (x : Int))) w) := by
  have hsz : s.size = gbase m := by rw [← bytesI_len, hs, ch_len hm]
  have hxs : x < s.size := by rw [hsz]; exact hx
  obtain ⟨q, hq, hq2, hq0, hq1⟩ := byteAt s hxs
  have HC := hide (show chr m (x : Int) = q by
    rw [chr, if_neg (by omega), List.getD_eq_getElem?_getD, Int.toNat_natCast, ← hs, hq2]; rfl)
  rw [HC.out]
  have hxI : (x : Int) < (s.size : Int) := by omega
  clear hq2 hm hs hx HC hsz
  go_enter Try.func149, Try.ntmps149
  go_wp2_with fail
  go_ret
  exact ⟨rfl, (Below.refl _ _).alloc (Nat.le_refl _) _⟩
set_option maxRecDepth 100000 in
set_option maxHeartbeats 1000000 in
theorem implCharB (x : Nat) (hx : x < 256) (w : World) :
    Calls Try.prog 153 #[.agg #[], .int .i64 x] w (Gives (.int .u8 (chr 4 (x : Int))) w) := by
  have hw : IntKind.u8.wrap (x : Int) = (x : Int) := by rw [IntKind.wrap_u8]; omega
  have HC := hide (show chr 4 (x : Int) = (x : Int) from rfl)
  rw [HC.out]
  clear HC
  go_enter Try.func153, Try.ntmps153
  go_wp2_with fail
  go_ret
  exact ⟨rfl, (Below.refl _ _).alloc (Nat.le_refl _) _⟩
end Go.Proofs.Ythbmfaogjaahoaa
