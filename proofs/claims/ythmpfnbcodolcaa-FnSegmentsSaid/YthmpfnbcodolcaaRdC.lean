/-
  A range over a slice of bytes from its end, within a round of another loop: the body is asked for the next index alone, and is left at its end.
  Condition: the slice has at most 255 bytes.
-/
import Derived.Test.YthmpfnbcodolcaaRdB
import Derived.Test.YthmpfnbcodolcaaSgTurn
namespace Go.Proofs.Ythmpfnbcodolcaa
open Go Go.RowKit
set_option linter.unusedSimpArgs false
set_option linter.unusedVariables false

theorem range_back {bd off n c nn Bn l0 : Nat} {r0 : Loop} (hn : n ≤ 255) (hc : n ≤ c) (hcc : c ≤ 9223372036854775807) {w : World} (hB : BkRow w Bn bd off n c) (hl0 : w.heap[l0]? = some (.loop r0))
    {go : Operand} {ps : Array Tmp} {assign body : Code} {Q : Exit → Act → World → Prop} {a : Act} (h1 : 2 ≤ nn)
    (hg : a.eval go = .func (.func 128) #[] #[.pointer (some ⟨Bn, 0, none⟩)]) (hps : ps.size = 2)
    (I : Nat → World → Prop) (hI : ∀ j W W', I j W → Turn w.heap.size W W' → I j W') (hC : ∀ j W, I j W → j < n → W.cell? ⟨bd, off + (n - 1 - j), none⟩ = some (.int .u8 0)) (h0 : I 0 w) (A : Nat → Act)
    (hassign : ∀ (l j : Nat) (W : World) (K' : Act → World → Prop), j < n → K' (A j) W →
      assign.wpIn (Fence.wide.inRound l) (nn - 1 - 1) Try.prog (Exit.then K' (fun _ _ _ => False)) { tmps := (ps.zip #[.int .i64 (n - 1 - j : Nat), .int .u8 0]).foldl (fun t (p, v) => t.setIfInBounds p v) a.tmps, defers := [] } W)
    (hbody : ∀ (l j : Nat) (W : World), j < n → w.heap.size ≤ l → I j W →
      body.wpIn (Fence.wide.inRound l) (nn - 1 - 1) Try.prog (ownPostG w.heap.size (fun X Y => Y.heap[Bn]? = X.heap[Bn]?) (fun (s : List Unit) W => I s.length W) (fun _ _ _ => False) (List.replicate (j + 1) ()) W) (A j) W)
    (hdone : ∀ (W : World), I n W → Q .normal a W) :
    (Code.rangeFunc go ps assign body).wpIn (Fence.wide.inRound l0) nn Try.prog Q a w := by
  have hBl := (Array.getElem?_eq_some_iff.1 hB).1
  refine wpIn_rangeFunc fun fn hfn => ?_
  obtain ⟨lp, hlp⟩ : ∃ lp : LoopState → Option Code → Loop, lp = fun st pe => { state := st, pending := pe, fn, tmps := a.tmps, params := ps, assign, body, defers := r0.defers } := ⟨_, rfl⟩
  have hrec : Below w.heap.size w (w.alloc (.loop (lp .ready none))) := (Below.refl _ _).alloc (Nat.le_refl _) _
  have hloop : (w.alloc (.loop (lp .ready none))).heap[w.heap.size]? = some (.loop (lp .ready none)) := heap_alloc_new w _
  have hent := run_enterLoop_inner (P := Try.prog) (w := w) hl0 fn a.tmps ps assign body
  refine ⟨w.heap.size, [], w.alloc (.loop (lp .ready none)),
    { target := .fn (.func 128) #[.pointer (some ⟨Bn, 0, none⟩)], args := #[.func (.yield w.heap.size) #[] #[]] }, w.alloc (.loop (lp .ready none)), 128,
    #[.func (.yield w.heap.size) #[] #[], .pointer (some ⟨Bn, 0, none⟩)], w.alloc (.loop (lp .ready none)), by rw [hlp]; exact hent, by simp only [resolve, hg]; simp [go_sem], ?_, ?_, fun _ => by omega, ?_⟩
  · intro f' hf'; trivial
  · have eg := enters_of Try.func128 (by kernel_rfl) rfl
    simp [invoke, go_sem, eg]
  · have hcall := back1_in bd off n c (nn - 1) w.heap.size Bn (by omega) hn hc hcc (fun j W => I j W ∧ W.heap[w.heap.size]? = some (.loop (lp .ready none))) (fun _ => False) ?_ ?_ ?_ (w.alloc (.loop (lp .ready none))) (hB.next hrec) ⟨hI 0 _ _ h0 (turn_below hrec), hloop⟩
    · refine CallsIn.mono (show CallsIn (Fence.wide.inRound l0) (nn - 1) Try.prog _ _ _ _ from hcall) ?_
      rintro e W2 ⟨⟨v, rfl⟩, ⟨e2, e3⟩ | h⟩
      · have hr := run_endLoop (P := Try.prog) e3 (by rw [hlp]; simp)
        rw [hlp] at hr
        exact ⟨none, _, hr, hdone _ (hI _ _ _ e2 (turn_put _ e3 rfl (Nat.le_refl _)))⟩
      · exact h.elim
    · rintro j W W' ⟨e2, e3⟩ hb
      exact ⟨hI _ _ _ e2 (turn_below hb), by rw [hb.block _ (Array.getElem?_eq_some_iff.1 e3).1]; exact e3⟩
    · rintro j W ⟨e2, _⟩ hj
      exact hC j W e2 hj
    · rintro j W hj ⟨e2, e3⟩
      have hlt := (Array.getElem?_eq_some_iff.1 e3).1
      have hy := run_yield (P := Try.prog) (args := #[.int .i64 (n - 1 - j : Nat), .int .u8 0]) e3 (by rw [hlp]; exact hps.symm)
      rw [hlp] at hy
      refine ⟨fn, _, assign, body, hy, roundIn_of_wpIn (F := Fence.wide) hfn (hassign _ j W _ hj ?_)⟩
      refine ⟨_, run_beginRound e3 (by rw [hlp]), ?_⟩
      obtain ⟨bz, hbz⟩ : ∃ bz : Loop, { lp .ready none with state := .busy } = bz := ⟨_, rfl⟩
      rw [hbz]
      have t1 : Turn w.heap.size W (W.putObj w.heap.size (.loop bz)) := turn_put _ e3 rfl (Nat.le_refl _)
      have l1 : (W.putObj w.heap.size (.loop bz)).heap[w.heap.size]? = some (.loop bz) := World.putObj_heap_same hlt
      refine wpIn_mono (hbody _ j _ hj (Nat.le_refl _) (hI _ _ _ e2 t1)) ?_
      rintro e a3 W3 hp
      cases e with
      | normal =>
        obtain ⟨hk, hkp, hi⟩ := hp
        have l3 := hk.same _ _ (Nat.le_refl _) l1 rfl
        have hr := run_endRound (P := Try.prog) none l3
        rw [← hbz, hlp] at hr
        rw [List.length_replicate] at hi
        obtain ⟨lp', hl⟩ : ∃ lp' : Loop, lp' = lp .ready none := ⟨_, rfl⟩
        refine ⟨_, _, hr, .inl ⟨rfl, ⟨hI _ _ _ hi (turn_put _ l3 rfl (Nat.le_refl _)), ?_⟩, ?_⟩⟩
        · rw [World.putObj_heap_same (Array.getElem?_eq_some_iff.1 l3).1, hlp]; rfl
        · rw [World.putObj_heap_other (by omega), hkp, World.putObj_heap_other (by omega)]
      | ret => exact hp.2.elim
      | exit id => exact hp.2.elim
      | goto t => exact hp.2.elim
      | panic ch => exact hp.elim
      | outgrown => exact hp.elim
end Go.Proofs.Ythmpfnbcodolcaa
