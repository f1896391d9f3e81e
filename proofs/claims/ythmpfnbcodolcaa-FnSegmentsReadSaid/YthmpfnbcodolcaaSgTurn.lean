/-
  A range over the chunks of a slice of bytes: the law for its callers.
  Condition: the slice has 1 to 255 bytes, a chunk 1 to 3.
-/
import Derived.Test.YthmpfnbcodolcaaSgC
namespace Go.Proofs.Ythmpfnbcodolcaa
open Go Go.RowKit
set_option linter.unusedSimpArgs false
set_option linter.unusedVariables false
attribute [local go_sem] Oper.semAt_some

section
variable {P : Program} {ops : Array Oper} {Q : Exit → Act → World → Prop} {md : Region.Mode} {n l : Nat}
theorem calls_round {f : FuncId} {args : Array Value} {w : World} {R : Ending → World → Prop} (l n : Nat) (h : Calls P f args w R) : CallsIn (Fence.wide.inRound l) n P f args w R := CallsIn.inRound l (callsIn_wide.2 h)
theorem rows_wide {row : String} {args : Array Value} {w : World} {R : Value → World → Prop} (h : Rows P row args w R) : RowsIn (Fence.wide.inRound l) n P row args w R :=
  fun c cs _ => let ⟨v, w', r, s⟩ := h c cs; ⟨v, w', r, stepsIn_wide.2 s⟩
/-- No operation of these defers a call. -/
def noDefer (ops : Array Oper) : Bool := ops.all fun o => match o.op with | .defer _ => false | _ => true
theorem noDefer_spec (h : noDefer ops = true) {i : Nat} {o : Oper} (ho : ops[i]? = some o) : ∀ c, o.op ≠ .defer c := by
  intro c hc
  have h1 := (Array.all_eq_true.1 h) i (Array.getElem?_eq_some_iff.1 ho).1
  rw [(Array.getElem?_eq_some_iff.1 ho).2, hc] at h1
  cases h1
theorem oper_round {o : Oper} {a : Act} {w : World} {K : Act → World → Prop} (hd : ∀ c, o.op ≠ .defer c) (h : o.wp P a w K Q) : o.wpIn (Fence.wide.inRound l) n P a w K Q := by
  refine ⟨fun _ _ => trivial, ?_⟩
  show Oper.uponIn _ n P o a K Q ((o.semAt (some l) a.eval).run P w)
  rw [Oper.semAt_eq _ _ _ hd]
  have h' : o.upon P a K Q ((execOp a.eval o).run P w) := h
  generalize (execOp a.eval o).run P w = r at h'
  cases r with
  | ok x w' =>
    cases x with
    | value v => exact h'
    | skip => exact h'
    | defer d => exact h'
    | enter f args => exact ⟨fun e => (by cases e), calls_round l _ h'⟩
    | row row args => exact ⟨fun e => (by cases e), rows_wide h'⟩
    | _ => exact h'.elim
  | halt x w' => cases x <;> first | exact h' | exact h'.elim
theorem any_round (hd : noDefer ops = true) (hQ : ¬ LetsOut Q) : ∀ (fuel : Nat) (listed : Array Bool) (a : Act) (w : World), wpAny P md ops Q fuel listed a w → wpAnyIn (Fence.wide.inRound l) n P md ops Q fuel listed a w := by
  intro fuel
  induction fuel with
  | zero => exact fun _ _ _ h => h
  | succ m ih =>
    refine fun listed a w h => ⟨h.1, fun i hi => ?_⟩
    have h1 := h.2 i hi
    unfold wpOp at h1
    unfold wpOpIn
    cases ho : ops[i]? with
    | none => rw [ho] at h1; exact ih _ _ _ h1
    | some o =>
      rw [ho] at h1
      dsimp only at h1 ⊢
      by_cases hw : Region.wanted o (yielded ops a.tmps) = true
      · rw [if_pos hw] at h1 ⊢
        rcases h1 with h1 | h1
        · exact oper_round (noDefer_spec hd ho) (Oper.wp_mono (fun _ _ hk => ih _ _ _ hk) h1)
        · exact absurd h1.2 hQ
      · rw [if_neg hw] at h1 ⊢
        exact ⟨fun _ _ => trivial, ih _ _ _ h1⟩
/-- The beginning of such a region within a round. -/
theorem round_begin {id : Nat} {os : List Oper} {a : Act} {w : World} (S : World → Prop) (z : Nat) (hm : P.follows .mixedOrders = true) (hd : noDefer os.toArray = true) (hQ : ¬ LetsOut Q) (hS : S w.drew)
    (h : S w.drew → wpTail P .any os.toArray Q S z os.length (Array.replicate os.length false) a w.drew) : (Code.region id os.toArray true).wpIn (Fence.wide.inRound l) n P Q a w :=
  wpIn_region_any hm (any_round hd hQ _ _ _ _ (by have := tail_any _ _ _ _ (h hS); simpa using this))
theorem letsOut_G {α : Type} {B : Nat} {Kp : World → World → Prop} {I : List α → World → Prop} {Ix : Code → List α → World → Prop} {xs : List α} {W : World} : ¬ LetsOut (ownPostG B Kp I Ix xs W) := fun ⟨_, _, h⟩ => h
end

/-- Some new blocks, and a change of one block from B on that holds no cells. -/
def Turn (B : Nat) (W W' : World) : Prop := ∃ row, W.grownBy W' row ∧ ∀ r, row = some r → B ≤ r ∧ ∃ o : Obj, W.heap[r]? = some o ∧ o.isCells = false
section
variable {B : Nat} {W W' : World}
theorem turn_below (h : Below W.heap.size W W') : Turn B W W' := ⟨none, ⟨h.os, h.tape, h.output, h.size, fun i hi _ => h.block i hi⟩, fun r e => by cases e⟩
theorem Turn.row {b : Nat} {cs : Array Value} {t : TypeId} {f : Nat × Nat} (h : Turn B W W') (hb : W.heap[b]? = some (.cells cs t f)) : W'.heap[b]? = some (.cells cs t f) := by
  obtain ⟨row, hg, hr⟩ := h
  refine (hg.block b (Array.getElem?_eq_some_iff.1 hb).1 fun e => ?_).trans hb
  obtain ⟨_, o, ho, hc⟩ := hr b e.symm
  rw [hb] at ho; cases ho; cases hc
/-- A block before B stays. -/
theorem Turn.block {b : Nat} (h : Turn B W W') (hb : b < B) (hw : b < W.heap.size) : W'.heap[b]? = W.heap[b]? := by
  obtain ⟨row, hg, hr⟩ := h
  refine hg.block b hw fun e => ?_
  have := (hr b e.symm).1; omega
theorem Turn.apart {base : Nat} {e : TypeId} {size n : Nat} {v : Value} {xs : List Value} (h : Turn B W W') (ho : W.ownsRow base e size v n xs) : ∃ row, W.grownBy W' row ∧ (v.ownBlock = none ∨ v.ownBlock ≠ row) := by
  obtain ⟨row, hg, hr⟩ := h
  refine ⟨row, hg, ?_⟩
  rcases ho.2 with ⟨rfl, _⟩ | ⟨g, cap, cur, rfl, _, hgb, _⟩
  · exact .inl rfl
  · refine .inr fun e' => ?_
    obtain ⟨_, o, ho, hc⟩ := hr g (by simpa [Value.ownBlock] using e'.symm)
    rw [hgb] at ho; cases ho; cases hc
theorem Turn.own {base : Nat} {e : TypeId} {k : IntKind} {v : Value} {zs : List Int} (h : Turn B W W') (ho : Go.Proofs.Ythmpfnbcodolcaa.Own W base e k v zs) : Go.Proofs.Ythmpfnbcodolcaa.Own W' base e k v zs := by
  obtain ⟨row, hg, hne⟩ := h.apart ho
  exact World.ownsRow.kept ho hg hne
theorem Turn.below {B0 : Nat} {W0 : World} (h : Turn B W W') (hb : Below B0 W0 W) (h1 : B0 ≤ W0.heap.size) (h2 : B0 ≤ B) : Below B0 W0 W' := by
  obtain ⟨row, hg, hr⟩ := h
  exact hb.grown hg (Nat.le_trans h1 hb.size) fun r e => Nat.le_trans h2 (hr r e).1
theorem Turn.size (h : Turn B W W') : W.heap.size ≤ W'.heap.size := by obtain ⟨row, hg, _⟩ := h; exact hg.size
end
theorem turn_put {B l : Nat} {W : World} {o : Obj} (o' : Obj) (hl : W.heap[l]? = some o) (ho : o.isCells = false) (hB : B ≤ l) : Turn B W (W.putObj l o') := ⟨some l, grownBy_putObj' W l o', fun r e => by cases e; exact ⟨hB, o, hl, ho⟩⟩
/-- What abides such turns. -/
def Steady {α : Type} (B : Nat) (I : List α → World → Prop) : Prop := ∀ s W W', I s W → Turn B W W' → I s W'
theorem Steady.from {α : Type} {B : Nat} {I : List α → World → Prop} (h : Steady B I) : OwnFrom B I := fun s W W' row hs hg hr => h s W W' hs ⟨row, hg, hr⟩
theorem keeps_below {B : Nat} {W W' : World} (h : Below W.heap.size W W') : KeepsFrom B W W' :=
  (KeepsOthers.of_grownBy (row := none) ⟨h.os, h.tape, h.output, h.size, fun i hi _ => h.block i hi⟩ (fun j o e => by cases e)).from _
theorem keeps_owned {B base : Nat} {W W' : World} {e : TypeId} {size n : Nat} {v : Value} {xs : List Value} (hg : W.grownBy W' v.ownBlock) (ho : W.ownsRow base e size v n xs) : KeepsFrom B W W' :=
  (KeepsOthers.of_grownBy hg fun j o e' hj => by
    rcases ho.2 with ⟨rfl, _⟩ | ⟨g, cap, cur, rfl, _, hgb, _⟩
    · cases e'
    · obtain rfl : g = j := by simpa [Value.ownBlock] using e'
      rw [hgb] at hj; cases hj; rfl).from _

/-- A range over chunks. -/
theorem range_chunk {bd off n c G nn Bn : Nat} (hG : 1 ≤ G) (hG3 : G ≤ 3) (hn : n ≤ 255) (hc : n ≤ c) (hcc : c ≤ 9223372036854775807) {w : World} (hB : CkRow w Bn bd off n c G)
    {go : Operand} {ps : Array Tmp} {assign body : Code} {Q : Exit → Act → World → Prop} {a : Act} (h1 : 2 ≤ nn)
    (hg : a.eval go = .func (.func 113) #[] #[.pointer (some ⟨Bn, 0, none⟩), .pointer (some ⟨Bn + 1, 0, none⟩)]) (hps : ps.size = 1)
    (I : List (Fin (gct G n)) → World → Prop) (Ix : Code → List (Fin (gct G n)) → World → Prop) (hI : Steady w.heap.size I) (hIx : ∀ c, Steady w.heap.size (Ix c)) (h0 : I [] w) (A : Fin (gct G n) → Act)
    (hassign : ∀ (l : Nat) (x : Fin (gct G n)) (W : World) (K' : Act → World → Prop), K' (A x) W →
      assign.wpIn (Fence.wide.inRound l) (nn - 1 - 1) Try.prog (Exit.then K' (fun _ _ _ => False)) { tmps := (ps.zip #[.slice (some ⟨bd, off + x.val * G, none⟩) (min G (n - x.val * G)) (min G (n - x.val * G))]).foldl (fun t (p, v) => t.setIfInBounds p v) a.tmps, defers := [] } W)
    (hbody : ∀ (l : Nat) (pre : List (Fin (gct G n))) (x : Fin (gct G n)) (W : World), I pre W → pre.length < gct G n →
      body.wpIn (Fence.wide.inRound l) (nn - 1 - 1) Try.prog (ownPostG w.heap.size (CkKeep Bn) I Ix (pre ++ [x]) W) (A x) W)
    (hdone : ∀ (Dd : Nat) (W : World), w.heap.size ≤ Dd → I (List.finRange (gct G n)) W → W.heap[Dd]? = some (.deferred (some [])) → Q .normal { a with defers := { target := .collected Dd, args := #[] } :: a.defers } W)
    (hstop : ∀ (Dd : Nat) (c : Code) (pre : List (Fin (gct G n))) (W : World), w.heap.size ≤ Dd → pre <+: List.finRange (gct G n) → Ix c pre W → W.heap[Dd]? = some (.deferred (some [])) → c.wpIn Fence.wide nn Try.prog Q { a with defers := { target := .collected Dd, args := #[] } :: a.defers } W) :
    (Code.rangeFunc go ps assign body).wpIn Fence.wide nn Try.prog Q a w := by
  have hlt := hB.lt
  refine wpIn_rangeFunc_ownH rfl (by omega) (gf := 113) (lb := #[.pointer (some ⟨Bn, 0, none⟩), .pointer (some ⟨Bn + 1, 0, none⟩)]) hg trivial (enters_of Try.func113 (by kernel_rfl) rfl)
    (chunk_stops bd off n c G (nn - 1) Bn (by omega) hG hG3 hn hc hcc w hB) (fun h h' => ⟨h'.1.trans h.1, h'.2.trans h.2⟩) (fun W l o o' hl ho h2 h3 => ⟨World.putObj_heap_other (by omega), World.putObj_heap_other (by omega)⟩) (Below.refl _ _) (fun _ => hps.symm)
    I Ix hI.from (fun c => (hIx c).from) h0 (fun x a' W => a' = A x)
    (fun x a' _ X Y row hs hg' hr => hs) ?assign ?body ?done ?stop
  case assign =>
    intro l pre x W K' hi hK'
    exact hassign l x W K' (hK' _ _ (KeepsFrom.refl _ _) ⟨rfl, rfl⟩ hi rfl)
  case body =>
    rintro l pre x a' W hl ⟨r, hr⟩ hi rfl hlen
    exact hbody l pre x W hi hlen
  case done =>
    rintro Dd xs W hDd rfl hi hk
    exact hdone Dd W hDd hi hk
  case stop =>
    rintro Dd c pre W hDd hpre hi hk
    exact hstop Dd c pre W hDd hpre hi hk
end Go.Proofs.Ythmpfnbcodolcaa
