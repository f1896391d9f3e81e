/-
  A range over the chunks of a slice of bytes, in order: the body is asked for the next chunk alone.
  Condition: the slice has 1 to 255 bytes, a chunk 1 to 3.
-/
import Derived.Test.YthmpfnbcodolcaaSgTurn
namespace Go.Proofs.Ythmpfnbcodolcaa
open Go Go.RowKit
set_option linter.unusedSimpArgs false
set_option linter.unusedVariables false

section
variable {N : Nat} (lp : LoopState → Option Code → Loop) (L : Nat) (I : Nat → World → Prop) (Ix : Code → World → Prop)
/-- Between two rounds: the first chunks have come, the loop's record is ready. -/
def NextJ (s : List (Fin N)) (W : World) : Prop := s = upsN N s.length ∧ I s.length W ∧ W.heap[L + 1]? = some (.loop (lp .ready none)) ∧ W.heap[L]? = some (.deferred (some []))
/-- Behind a round that left the loop. -/
def NextX (_ : List (Fin N)) (W : World) : Prop := ∃ c, Ix c W ∧ W.heap[L + 1]? = some (.loop (lp .done (some c))) ∧ W.heap[L]? = some (.deferred (some []))
end

theorem range_next {bd off n c G nn Bn : Nat} (hG : 1 ≤ G) (hG3 : G ≤ 3) (hn : n ≤ 255) (hc : n ≤ c) (hcc : c ≤ 9223372036854775807) {w : World} (hB : CkRow w Bn bd off n c G)
    {go : Operand} {ps : Array Tmp} {assign body : Code} {Q : Exit → Act → World → Prop} {a : Act} (h1 : 2 ≤ nn)
    (hg : a.eval go = .func (.func 113) #[] #[.pointer (some ⟨Bn, 0, none⟩), .pointer (some ⟨Bn + 1, 0, none⟩)]) (hps : ps.size = 1)
    (I : Nat → World → Prop) (Ix : Code → World → Prop) (hI : ∀ j W W', I j W → Turn w.heap.size W W' → I j W') (hIx : ∀ c W W', Ix c W → Turn w.heap.size W W' → Ix c W') (h0 : I 0 w)
    (AR : Fin (gct G n) → Act → World → Prop) (hAR : ∀ x b W W', AR x b W → Turn w.heap.size W W' → AR x b W')
    (hassign : ∀ (l : Nat) (x : Fin (gct G n)) (W : World) (K' : Act → World → Prop), w.heap.size ≤ W.heap.size → I x.val W → (∀ b W', Below W.heap.size W W' → AR x b W' → K' b W') →
      assign.wpIn (Fence.wide.inRound l) (nn - 1 - 1) Try.prog (Exit.then K' (fun _ _ _ => False)) { tmps := (ps.zip (encC bd off n G (gct G n) x)).foldl (fun t (p, v) => t.setIfInBounds p v) a.tmps, defers := [] } W)
    (hbody : ∀ (l : Nat) (x : Fin (gct G n)) (b : Act) (W : World), w.heap.size ≤ l → (∃ r, W.heap[l]? = some (.loop r)) → I x.val W → AR x b W →
      body.wpIn (Fence.wide.inRound l) (nn - 1 - 1) Try.prog (ownPostG w.heap.size (CkKeep Bn) (fun (s : List Unit) W => I s.length W) (fun c _ W => Ix c W) (List.replicate (x.val + 1) ()) W) b W)
    (hdone : ∀ (D : Nat) (W : World), w.heap.size ≤ D → I (gct G n) W → W.heap[D]? = some (.deferred (some [])) → Q .normal { a with defers := { target := .collected D, args := #[] } :: a.defers } W)
    (hstop : ∀ (D : Nat) (c : Code) (W : World), w.heap.size ≤ D → Ix c W → W.heap[D]? = some (.deferred (some [])) → c.wpIn Fence.wide nn Try.prog Q { a with defers := { target := .collected D, args := #[] } :: a.defers } W) :
    (Code.rangeFunc go ps assign body).wpIn Fence.wide nn Try.prog Q a w := by
  have hBl := hB.lt
  refine wpIn_rangeFunc fun fn hfn => ?_
  obtain ⟨lp, hlp⟩ : ∃ lp : LoopState → Option Code → Loop, lp = fun st pe => { state := st, pending := pe, fn, tmps := a.tmps, params := ps, assign, body, defers := w.heap.size } := ⟨_, rfl⟩
  have hrec : Below w.heap.size w ((w.alloc (.deferred (some []))).alloc (.loop (lp .ready none))) := ((Below.refl _ _).alloc (Nat.le_refl _) _).alloc (by rw [alloc_size]; omega) _
  have hloop : ((w.alloc (.deferred (some []))).alloc (.loop (lp .ready none))).heap[w.heap.size + 1]? = some (.loop (lp .ready none)) := by
    have h := heap_alloc_new (w.alloc (.deferred (some []))) (.loop (lp .ready none)); rwa [alloc_size] at h
  have hdef : ((w.alloc (.deferred (some []))).alloc (.loop (lp .ready none))).heap[w.heap.size]? = some (.deferred (some [])) := (by rw [heap_alloc_old _ _ (by rw [alloc_size]; omega)]; exact heap_alloc_new w _)
  have hent := run_enterLoop_outer (P := Try.prog) (w := w) fn a.tmps ps assign body
  refine ⟨w.heap.size + 1, [{ target := .collected w.heap.size, args := #[] }], (w.alloc (.deferred (some []))).alloc (.loop (lp .ready none)),
    { target := .fn (.func 113) #[.pointer (some ⟨Bn, 0, none⟩), .pointer (some ⟨Bn + 1, 0, none⟩)], args := #[.func (.yield (w.heap.size + 1)) #[] #[]] }, (w.alloc (.deferred (some []))).alloc (.loop (lp .ready none)), 113,
    #[.func (.yield (w.heap.size + 1)) #[] #[], .pointer (some ⟨Bn, 0, none⟩), .pointer (some ⟨Bn + 1, 0, none⟩)], (w.alloc (.deferred (some []))).alloc (.loop (lp .ready none)), by rw [hlp]; exact hent, by simp only [resolve, hg]; simp [go_sem], ?_, ?_, fun _ => by omega, ?_⟩
  · intro f' hf'; trivial
  · have eg := enters_of Try.func113 (by kernel_rfl) rfl
    simp [invoke, go_sem, eg]
  · refine (chunk1_in bd off n c G (nn - 1) (w.heap.size + 1) Bn (by omega) hG hG3 hn hc hcc (NextJ lp w.heap.size I) (NextX lp w.heap.size Ix) ?_ ?_ _ (hB.next hrec) ⟨by simp [upsN], hI 0 _ _ h0 (turn_below hrec), hloop, hdef⟩).mono ?_
    · rintro s W W' ⟨e1, e2, e3, e4⟩ hb
      exact ⟨e1, hI _ _ _ e2 (turn_below hb), by rw [hb.block _ (Array.getElem?_eq_some_iff.1 e3).1]; exact e3, by rw [hb.block _ (Array.getElem?_eq_some_iff.1 e4).1]; exact e4⟩
    · rintro j hj W ⟨_, e2, e3, e4⟩
      rw [upn_len (by omega)] at e2
      have hlt := (Array.getElem?_eq_some_iff.1 e3).1
      have hy := run_yield (P := Try.prog) (args := encC bd off n G (gct G n) ⟨j, hj⟩) e3 (by rw [hlp]; exact hps.symm)
      rw [hlp] at hy
      refine ⟨fn, _, assign, body, hy, roundIn_of_wpIn hfn (hassign _ ⟨j, hj⟩ W _ (by omega) e2 fun a1 W1 hb1 har1 => ?_)⟩
      have hck : CkKeep Bn W W1 := ⟨hb1.block _ (by omega), hb1.block _ (by omega)⟩
      have hlt1 : w.heap.size + 1 < W1.heap.size := Nat.lt_of_lt_of_le hlt hb1.size
      replace e2 := hI _ _ _ e2 (turn_below (B := w.heap.size) hb1)
      replace e3 := (hb1.block _ (by omega)).trans e3
      replace e4 := (hb1.block _ (by omega)).trans e4
      clear hy
      obtain ⟨W0, hW0⟩ : ∃ W0, W0 = W := ⟨_, rfl⟩
      rw [← hW0] at hck ⊢
      clear hW0 hb1 hlt
      have hlt := hlt1
      clear hlt1
      obtain ⟨W, rfl⟩ : ∃ W, W = W1 := ⟨_, rfl⟩
      refine ⟨_, run_beginRound e3 (by rw [hlp]), ?_⟩
      obtain ⟨bz, hbz⟩ : ∃ bz : Loop, { lp .ready none with state := .busy } = bz := ⟨_, rfl⟩
      rw [hbz]
      have t1 : Turn w.heap.size W (W.putObj (w.heap.size + 1) (.loop bz)) := turn_put _ e3 rfl (by omega)
      have k1 : CkKeep Bn W (W.putObj (w.heap.size + 1) (.loop bz)) := ⟨World.putObj_heap_other (by omega), World.putObj_heap_other (by omega)⟩
      have l1 : (W.putObj (w.heap.size + 1) (.loop bz)).heap[w.heap.size + 1]? = some (.loop bz) := World.putObj_heap_same hlt
      have d1 : (W.putObj (w.heap.size + 1) (.loop bz)).heap[w.heap.size]? = some (.deferred (some [])) := (World.putObj_heap_other (by omega)).trans e4
      refine wpIn_mono (hbody _ ⟨j, hj⟩ a1 _ (by omega) ⟨_, l1⟩ (hI _ _ _ e2 t1) (hAR _ _ _ _ har1 t1)) ?_
      have fin : ∀ (jump : Option Code) (W3 : World), KeepsFrom w.heap.size (W.putObj (w.heap.size + 1) (.loop bz)) W3 → ∃ lp' : Loop, lp' = lp (if jump.isNone then .ready else .done) jump ∧
          (Instr.endRound (w.heap.size + 1) jump).run Try.prog W3 = .ok (.bool jump.isNone) (W3.putObj (w.heap.size + 1) (.loop lp')) ∧
          Turn w.heap.size W3 (W3.putObj (w.heap.size + 1) (.loop lp')) ∧ CkKeep Bn W3 (W3.putObj (w.heap.size + 1) (.loop lp')) ∧
          (W3.putObj (w.heap.size + 1) (.loop lp')).heap[w.heap.size + 1]? = some (.loop lp') ∧ (W3.putObj (w.heap.size + 1) (.loop lp')).heap[w.heap.size]? = some (.deferred (some [])) := fun jump W3 hk => by
        have l3 := hk.same _ _ (by omega) l1 rfl
        have d3 := hk.same _ _ (Nat.le_refl _) d1 rfl
        have hr := run_endRound (P := Try.prog) jump l3
        rw [← hbz, hlp] at hr
        refine ⟨_, rfl, by rw [hlp]; exact hr, turn_put _ l3 rfl (by omega), ⟨World.putObj_heap_other (by omega), World.putObj_heap_other (by omega)⟩, World.putObj_heap_same (Array.getElem?_eq_some_iff.1 l3).1, (World.putObj_heap_other (by omega)).trans d3⟩
      have leave : ∀ (c : Code) (W3 : World), KeepsFrom w.heap.size (W.putObj (w.heap.size + 1) (.loop bz)) W3 → Ix c W3 → ∃ v W4, (Instr.endRound (w.heap.size + 1) (some c)).run Try.prog W3 = .ok v W4 ∧ v = .bool false ∧ NextX (N := gct G n) lp w.heap.size Ix (upsN (gct G n) j ++ [⟨j, hj⟩]) W4 := fun c W3 hk hx => by
        obtain ⟨lp', hl, hr, ht, _, l4, d4⟩ := fin (some c) W3 hk
        exact ⟨_, _, hr, rfl, c, hIx _ _ _ hx ht, l4.trans (by rw [hl]; rfl), d4⟩
      rintro e a3 W3 hp
      cases e with
      | normal =>
        obtain ⟨hk, hkp, hi⟩ := hp
        obtain ⟨lp', hl, hr, ht, hk4, l4, d4⟩ := fin none W3 hk
        rw [List.length_replicate] at hi
        refine ⟨_, _, hr, .inl ⟨rfl, ⟨?_, ?_, l4.trans (by rw [hl]; rfl), d4⟩, ⟨((hk4.1.trans hkp.1).trans k1.1).trans hck.1, ((hk4.2.trans hkp.2).trans k1.2).trans hck.2⟩⟩⟩
        · rw [← upn_succ hj, upn_len (by omega)]
        · rw [← upn_succ hj, upn_len (by omega)]; exact hI _ _ _ hi ht
      | ret => obtain ⟨v, W4, r, rfl, hx⟩ := leave .ret W3 hp.1 hp.2; exact ⟨_, _, r, .inr ⟨rfl, hx⟩⟩
      | exit id => obtain ⟨v, W4, r, rfl, hx⟩ := leave (.exit id) W3 hp.1 hp.2; exact ⟨_, _, r, .inr ⟨rfl, hx⟩⟩
      | goto t => obtain ⟨v, W4, r, rfl, hx⟩ := leave (.goto t) W3 hp.1 hp.2; exact ⟨_, _, r, .inr ⟨rfl, hx⟩⟩
      | panic ch => exact hp.elim
      | outgrown => exact hp.elim
    · rintro e W2 ⟨⟨v, rfl⟩, ⟨ys, rfl, e1, e2, e3, e4⟩ | ⟨pre, _, c, e2, e3, e4⟩⟩
      · rw [List.length_finRange] at e2
        have hr := run_endLoop (P := Try.prog) e3 (by rw [hlp]; simp)
        rw [hlp] at hr
        exact ⟨none, _, hr, hdone _ _ (Nat.le_refl _) (hI _ _ _ e2 (turn_put _ e3 rfl (by omega))) ((World.putObj_heap_other (by omega)).trans e4)⟩
      · have hr := run_endLoop (P := Try.prog) e3 (by rw [hlp]; simp)
        rw [hlp] at hr
        exact ⟨some c, _, hr, hstop _ c _ (Nat.le_refl _) (hIx _ _ _ e2 (turn_put _ e3 rfl (by omega))) ((World.putObj_heap_other (by omega)).trans e4)⟩
end Go.Proofs.Ythmpfnbcodolcaa
