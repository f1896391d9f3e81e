/-
  The codes of the blocks: a slice of codes.
  Condition: the layout is valid.
-/
import Derived.Test.YtlphodhecaagbaaGreatLay4
import Derived.Deep.AppendLies
import Derived.Deep.Onto
namespace Go.Proofs.YtlphodhecaagbaaGreat
open Go.RowKit
set_option linter.unusedSimpArgs false
set_option linter.unusedVariables false

/-- A slice of n codes whose numbers, laid behind one another, are f 0, f 1, ..: it is owned. -/
def OwnC (w : World) (base : Nat) (v : Value) (n : Nat) (f : Nat → Int) : Prop := w.ownsRow base 89 5 v n ((List.range (n * 5)).map fun i => Value.int .i64 (f i))
section
variable {w w' : World} {base n : Nat} {v : Value} {f : Nat → Int}
theorem OwnC.below (h : OwnC w base v n f) {B : Nat} (hb : Below B w w') (hB : w.heap.size ≤ B) : OwnC w' base v n f := by
  refine World.ownsRow.kept h (row := none) ⟨hb.os, hb.tape, hb.output, hb.size, fun i hi _ => hb.block i (by omega)⟩ ?_
  rcases v.ownBlock with _ | g <;> simp
theorem OwnC.next (h : OwnC w base v n f) (hb : Below w.heap.size w w') : OwnC w' base v n f := h.below hb (Nat.le_refl _)
theorem OwnC.drew (h : OwnC w base v n f) : OwnC w.drew base v n f := h
theorem OwnC.drewN (h : OwnC w base v n f) (m : Nat) : OwnC (w.drewN m) base v n f := h
theorem OwnC.grown {row : Option Nat} (h : OwnC w base v n f) (hg : w.grownBy w' row) (hne : v.ownBlock = none ∨ v.ownBlock ≠ row) : OwnC w' base v n f := World.ownsRow.kept h hg hne
theorem OwnC.form (h : OwnC w base v n f) (hn : 0 < n) : ∃ g c, v = .slice (some ⟨g, 0, none⟩) n c ∧ base ≤ g ∧ g < w.heap.size ∧ n ≤ c := by
  rcases h.2 with ⟨_, h0⟩ | ⟨g, cap, cur, hv, hb, hg, hnc, _⟩
  · omega
  · exact ⟨g, cap, hv, hb, (Array.getElem?_eq_some_iff.1 hg).1, hnc⟩
theorem OwnC.form0 (h : OwnC w base v n f) : ∃ A c, v = .slice A n c ∧ n ≤ c := by
  rcases h.2 with ⟨rfl, rfl⟩ | ⟨g, cap, cur, hv, hb, hg, hnc, _⟩
  · exact ⟨none, 0, rfl, Nat.le_refl _⟩
  · exact ⟨_, cap, hv, hnc⟩
theorem OwnC.cell {g c i : Nat} (h : OwnC w base (.slice (some ⟨g, 0, none⟩) n c) n f) (hi : i < n * 5) : w.cell? ⟨g, i, none⟩ = some (.int .i64 (f i)) := by
  rw [World.ownsRow.cellAt h i hi, List.getElem?_map, List.getElem?_range hi]; rfl
theorem OwnC.frozen {g c : Nat} (h : OwnC w base (.slice (some ⟨g, 0, none⟩) n c) n f) (i : Nat) : w.frozen? ⟨g, i, none⟩ = false := World.ownsRow.frozenAt h i
theorem OwnC.congr {f' : Nat → Int} (h : OwnC w base v n f) (he : ∀ i, i < n * 5 → f' i = f i) : OwnC w base v n f' := by
  unfold OwnC
  rw [show ((List.range (n * 5)).map fun i => Value.int .i64 (f' i)) = ((List.range (n * 5)).map fun i => Value.int .i64 (f i)) from List.map_congr_left fun i hi => by rw [he i (List.mem_range.1 hi)]]
  exact h
theorem OwnC.put {g c : Nat} (h : OwnC w base (.slice (some ⟨g, 0, none⟩) n c) n f) (i : Nat) (x : Int) :
    OwnC (w.setCell ⟨g, i, none⟩ (.int .i64 x)) base (.slice (some ⟨g, 0, none⟩) n c) n (fun j => if j = i then x else f j) ∧ w.grownBy (w.setCell ⟨g, i, none⟩ (.int .i64 x)) (some g) := by
  obtain ⟨h1, h2⟩ := World.ownsRow.stored h i (.int .i64 x)
  refine ⟨?_, h2⟩
  unfold OwnC
  rw [show ((List.range (n * 5)).map fun j => Value.int .i64 (if j = i then x else f j)) = ((List.range (n * 5)).map fun j => Value.int .i64 (f j)).set i (.int .i64 x) from ?_]
  · exact h1
  · apply List.ext_getElem?
    intro j
    by_cases hj : j < n * 5
    · by_cases hji : j = i
      · subst hji
        rw [List.getElem?_set_self (by simpa using hj), List.getElem?_map, List.getElem?_range hj]
        simp
      · rw [List.getElem?_set_ne (Ne.symm hji), List.getElem?_map, List.getElem?_map, List.getElem?_range hj]
        simp [hji]
    · rw [List.getElem?_eq_none (by simp; omega), List.getElem?_eq_none (by simp; omega)]
theorem OwnC.put5 {g c i : Nat} (h : OwnC w base (.slice (some ⟨g, 0, none⟩) n c) n f) (x0 x1 x2 x3 x4 : Int) :
    OwnC (((((w.setCell ⟨g, i, none⟩ (.int .i64 x0)).setCell ⟨g, i + 1, none⟩ (.int .i64 x1)).setCell ⟨g, i + 2, none⟩ (.int .i64 x2)).setCell ⟨g, i + 3, none⟩ (.int .i64 x3)).setCell ⟨g, i + 4, none⟩ (.int .i64 x4)) base (.slice (some ⟨g, 0, none⟩) n c) n
      (fun j => if j = i + 4 then x4 else if j = i + 3 then x3 else if j = i + 2 then x2 else if j = i + 1 then x1 else if j = i then x0 else f j) ∧
    w.grownBy (((((w.setCell ⟨g, i, none⟩ (.int .i64 x0)).setCell ⟨g, i + 1, none⟩ (.int .i64 x1)).setCell ⟨g, i + 2, none⟩ (.int .i64 x2)).setCell ⟨g, i + 3, none⟩ (.int .i64 x3)).setCell ⟨g, i + 4, none⟩ (.int .i64 x4)) (some g) := by
  obtain ⟨a0, b0⟩ := h.put i x0
  obtain ⟨a1, b1⟩ := a0.put (i + 1) x1
  obtain ⟨a2, b2⟩ := a1.put (i + 2) x2
  obtain ⟨a3, b3⟩ := a2.put (i + 3) x3
  obtain ⟨a4, b4⟩ := a3.put (i + 4) x4
  exact ⟨a4, grown_trans (grown_trans (grown_trans (grown_trans b0 b1) b2) b3) b4⟩
end
/-- The numbers of the codes of the blocks. -/
def codN (p k g : Int) (D K C : Nat) (i : Nat) : Int := if i % 5 = 0 then p else if i % 5 = 1 then k else if i % 5 = 2 then g else if i % 5 = 3 then ((lsz D C (i / 5) + K : Nat) : Int) else K
theorem codN_at (p k g : Int) (D K C b : Nat) : codN p k g D K C (b * 5) = p ∧ codN p k g D K C (b * 5 + 1) = k ∧ codN p k g D K C (b * 5 + 2) = g ∧ codN p k g D K C (b * 5 + 3) = ((lsz D C b + K : Nat) : Int) ∧ codN p k g D K C (b * 5 + 4) = K := by
  have e0 : (b * 5) % 5 = 0 := by omega
  have e1 : (b * 5 + 1) % 5 = 1 := by omega
  have e2 : (b * 5 + 2) % 5 = 2 := by omega
  have e3 : (b * 5 + 3) % 5 = 3 := by omega
  have e4 : (b * 5 + 4) % 5 = 4 := by omega
  have e5 : (b * 5 + 3) / 5 = b := by omega
  refine ⟨?_, ?_, ?_, ?_, ?_⟩
  · unfold codN; rw [if_pos e0]
  · unfold codN; rw [if_neg (by omega), if_pos e1]
  · unfold codN; rw [if_neg (by omega), if_neg (by omega), if_pos e2]
  · unfold codN; rw [if_neg (by omega), if_neg (by omega), if_neg (by omega), if_pos e3, e5]
  · unfold codN; rw [if_neg (by omega), if_neg (by omega), if_neg (by omega), if_neg (by omega)]
/-- The numbers, as far as they have been laid. -/
def codT (p k g : Int) (D K C b : Nat) (i : Nat) : Int := if i < b * 5 then codN p k g D K C i else 0
theorem codT_step (p k g : Int) (D K C b : Nat) : (fun j => if j = b * 5 + 4 then (K : Int) else if j = b * 5 + 3 then ((lsz D C b + K : Nat) : Int) else if j = b * 5 + 2 then g else if j = b * 5 + 1 then k else if j = b * 5 then p else codT p k g D K C b j) = codT p k g D K C (b + 1) := by
  obtain ⟨h0, h1, h2, h3, h4⟩ := codN_at p k g D K C b
  funext j
  unfold codT
  split
  · subst j; rw [if_pos (by omega), h4]
  · split
    · subst j; rw [if_pos (by omega), h3]
    · split
      · subst j; rw [if_pos (by omega), h2]
      · split
        · subst j; rw [if_pos (by omega), h1]
        · split
          · subst j; rw [if_pos (by omega), h0]
          · by_cases hj : j < b * 5
            · rw [if_pos hj, if_pos (by omega)]
            · rw [if_neg hj, if_neg (by omega)]
/-- A new slice of codes. -/
def NewC (n : Nat) (f : Nat → Int) (w : World) (x : Ending) (w' : World) : Prop := ∃ v, x = .returned v ∧ OwnC w' (w.heap.size + 1) v n f ∧ Below w.heap.size w w'
def IcRel (w : World) (p k g : Int) (D K C gS : Nat) (i : Value) (wr : World) : Prop :=
  ∃ b : Nat, b ≤ C ∧ i = .int .i64 b ∧ OwnC wr (w.heap.size + 1) (.slice (some ⟨gS, 0, none⟩) C C) C (codT p k g D K C b) ∧ YBox w wr p k g D K C
theorem elemC : (Tryz.prog.info? 89).map (fun i => (i.zero, i.size, i.bytes)) = some (some (.agg #[.int .i64 0, .int .i64 0, .int .i64 0, .int .i64 0, .int .i64 0]), 5, 40) := by kernel_rfl

set_option maxRecDepth 100000 in
set_option maxHeartbeats 2000000 in
theorem implCodes {R : Fld} {γ : El R} {p k g : Int} {D K C : Nat} (h : LayIs R γ p k g D K C) (w : World) :
    Calls Tryz.prog 62 #[.agg #[.int .i64 p, .int .i64 k, .int .i64 g, .int .i64 D, .int .i64 K, .int .i64 C]] w (NewC C (codN p k g D K C) w) := by
  have h1 := h.c1; have h2 := h.c16; have h3 := h.cd; have h4 := h.tot; have h5 := h.k1; have h6 := h.d1500
  have HX := hide (YBox.start w p k g D K C)
  obtain ⟨c0, c1, c2, c3, c4, c5⟩ := HX.out.cells
  have hCs : (w.alloc (.cells #[.int .i64 p, .int .i64 k, .int .i64 g, .int .i64 D, .int .i64 K, .int .i64 C] 27)).heap.size = w.heap.size + 1 := alloc_size _ _
  obtain ⟨w0, hw0⟩ : ∃ w0, w0 = w.alloc (.cells #[.int .i64 p, .int .i64 k, .int .i64 g, .int .i64 D, .int .i64 K, .int .i64 C] 27) := ⟨_, rfl⟩
  rw [← hw0] at hCs
  obtain ⟨ti, hi, hz0, hz1, hz2⟩ := info_parts elemC
  obtain ⟨w1, hrun, ho, hg⟩ := run_make_full (P := Tryz.prog) w0 (w.heap.size + 1) 93 89 ti _ 5 Tryz.underlying93 hi hz0 hz1 .i64 .i64 C (by rw [hz2]; omega) (by simp only [maxLen]; omega) (by omega)
  rw [hCs] at hrun ho
  have HG := hide ((Below.refl w0.heap.size w0).grown hg (Nat.le_refl _) (by simp))
  have HO := hide (show OwnC w1 (w.heap.size + 1) (.slice (some ⟨w.heap.size + 1, 0, none⟩) C C) C (codT p k g D K C 0) by
    unfold OwnC
    rw [show ((List.range (C * 5)).map fun i => Value.int .i64 (codT p k g D K C 0 i)) = (madeCells (Value.cells (.agg #[.int .i64 0, .int .i64 0, .int .i64 0, .int .i64 0, .int .i64 0])) (C * 5)).toList from ?_]
    · exact ho
    · apply List.ext_getElem?
      intro j
      by_cases hj : j < C * 5
      · have h5 : j % 5 < 5 := Nat.mod_lt _ (by decide)
        have hz : ∀ m, m < 5 → (#[Value.int .i64 0, Value.int .i64 0, Value.int .i64 0, Value.int .i64 0, Value.int .i64 0] : Array Value)[m]! = .int .i64 0 := by
          intro m hm
          match m, hm with
          | 0, _ => rfl
          | 1, _ => rfl
          | 2, _ => rfl
          | 3, _ => rfl
          | 4, _ => rfl
        have hz' := hz (j % 5) h5
        have hc0 : codT p k g D K C 0 j = 0 := by unfold codT; rw [if_neg (by omega)]
        simp [madeCells, hj, Value.cells, hc0]
        simpa using hz'.symm
      · simp [madeCells, hj])
  have HX1 := hide (show YBox w w1 p k g D K C from by rw [← hw0] at HX; exact HX.out.next HG.out)
  obtain ⟨d0, d1, d2, d3, d4, d5⟩ := HX1.out.cells
  have HW := hide hw0
  rw [hw0] at hrun
  have HRUN := hide hrun
  clear ho hg hrun hw0 hi hz0 hz1 hz2 hCs
  have hrun := HRUN.out
  go_enter Tryz.func62, Tryz.ntmps62
  go_wp2_with fail
  clear c0 c1 c2 c3 c4 c5 d0 d1 d2 d3 d4 d5 HRUN hrun HX
  go_loopw [10] (fun i wr => IcRel w p k g D K C (w.heap.size + 1) i wr) (fun i _ => C - (intOf i).toNat)
  case atStart => exact ⟨0, Nat.zero_le _, rfl, HO.out, HX1.out⟩
  case round =>
    clear HO HX1 HG HW
    obtain ⟨b, hb, rfl, HO, HX⟩ := hrel
    have HO := hide HO
    have HX := hide HX
    obtain ⟨c0, c1, c2, c3, c4, c5⟩ := HX.out.cells
    by_cases hlt : b < C
    · have hls := lsz_le D C b
      have hdd := Nat.div_le_self D C
      have hcon := implLayCode p k g K D C b (b : Int) rfl h1 (by omega) (by omega) hlt wr
      rw [IntWalk.i64_in _ ⟨by omega, by omega⟩] at hcon
      have HCON := hide hcon
      have HST := hide (codT_step p k g D K C b)
      obtain ⟨s, hs⟩ : ∃ s, lsz D C b + K = s := ⟨_, rfl⟩
      rw [show (((lsz D C b : Nat) : Int) + (K : Int)) = (s : Int) by omega] at HCON
      rw [hs] at HST
      clear hcon hls hdd hs
      go_wp2_with fail
      refine HCON.out.mono ?_
      rintro e w2 ⟨rfl, hb2⟩
      have HX2 := hide (HX.out.next hb2)
      have HO2 := hide (HO.out.next hb2)
      clear hb2 HX HO HCON c0 c1 c2 c3 c4 c5
      obtain ⟨c0, c1, c2, c3, c4, c5⟩ := HX2.out.cells
      have f0 := HO2.out.frozen (b * 5)
      have f1 := HO2.out.frozen (b * 5 + 1)
      have f2 := HO2.out.frozen (b * 5 + 2)
      have f3 := HO2.out.frozen (b * 5 + 3)
      have f4 := HO2.out.frozen (b * 5 + 4)
      have z0 := HO2.out.cell (i := b * 5) (by omega)
      have z1 := HO2.out.cell (i := b * 5 + 1) (by omega)
      have z2 := HO2.out.cell (i := b * 5 + 2) (by omega)
      have z3 := HO2.out.cell (i := b * 5 + 3) (by omega)
      have z4 := HO2.out.cell (i := b * 5 + 4) (by omega)
      obtain ⟨q1, q2⟩ := HO2.out.put5 (i := b * 5) p k g s K
      rw [HST.out] at q1
      have Q1 := hide q1
      have Q2 := hide (HX2.out.grow q2 (fun g' hg' => by injection hg' with hg'; omega))
      clear q1 q2
      go_wp2_with fail
      go_roundw
      case rel => exact ⟨b + 1, by omega, by go_num, Q1.out, Q2.out⟩
      case measure => simp [intOf]; omega
    · obtain rfl : b = C := by omega
      have HF := hide (show NewC b (codN p k g D K b) w (.returned (.slice (some ⟨w.heap.size + 1, 0, none⟩) b b)) wr from ⟨_, rfl, HO.out.congr fun i hi => by unfold codT; rw [if_pos hi], HX.out.2⟩)
      go_wp2_with fail
      go_ret
      exact HF.out

/-- append(out, code). -/
theorem wpList_appCode {base : Nat} {v : Value} {n : Nat} {f : Nat → Int} (w : World) {ops : Array Oper} {rest : List Oper} {o : Oper} {a : Act} {Q : Exit → Act → World → Prop} (hgd : o.guard = none) (s x : Operand)
    (ho : o.op = .call { callee := .builtin .append, args := #[s, x], argTypes := #[93, 93] })
    (hs : a.eval s = v) (h : OwnC w base v n f) (x0 x1 x2 x3 x4 : Int) (hf : f (n * 5) = x0 ∧ f (n * 5 + 1) = x1 ∧ f (n * 5 + 2) = x2 ∧ f (n * 5 + 3) = x3 ∧ f (n * 5 + 4) = x4)
    (hx : a.eval x = .slice (some ⟨w.heap.size, 0, none⟩) 1 1) (hlen : n ≤ 10000) (hbase : base ≤ w.heap.size)
    (hk : ∀ v' w', OwnC w' base v' (n + 1) f → w.grownBy w' v.ownBlock → wpList Tryz.prog ops Q rest (a.put o.dst v') w') :
    wpList Tryz.prog ops Q (o :: rest) a (w.alloc (.cells #[.int .i64 x0, .int .i64 x1, .int .i64 x2, .int .i64 x3, .int .i64 x4] 89)) := by
  obtain ⟨i, hi, hz0, hz1, hz2⟩ := info_parts elemC
  refine wpList_append_own (w := w.alloc (.cells #[.int .i64 x0, .int .i64 x1, .int .i64 x2, .int .i64 x3, .int .i64 x4] 89)) hgd s x 93 ho base 89 i _ 5 40 Tryz.underlying93 hi hz0 hz1 hz2 rfl (by decide) v n _ hs (World.ownsRow.alloc h _) ⟨w.heap.size, 0, none⟩ 1 1 [.int .i64 x0, .int .i64 x1, .int .i64 x2, .int .i64 x3, .int .i64 x4] hx rfl
    (World.news_of_block (heap_alloc_new w (.cells #[.int .i64 x0, .int .i64 x1, .int .i64 x2, .int .i64 x3, .int .i64 x4] 89))) (fun u hu => ?_) (by simp only [maxLen]; omega) (by omega) (by rw [alloc_size]; omega) fun v' w' h2 h3 _ => ?_
  · simp only [List.mem_cons, List.not_mem_nil, or_false] at hu
    rcases hu with rfl | rfl | rfl | rfl | rfl <;> rfl
  · refine hk v' w' ?_ (grown_trans (World.grownBy_alloc w _ _) h3)
    unfold OwnC
    obtain ⟨f0, f1, f2, f3, f4⟩ := hf
    rw [show (n + 1) * 5 = n * 5 + 5 by omega, show (List.range (n * 5 + 5)) = List.range (n * 5) ++ [n * 5, n * 5 + 1, n * 5 + 2, n * 5 + 3, n * 5 + 4] by simp [List.range_succ], List.map_append]
    simp only [List.map_cons, List.map_nil, f0, f1, f2, f3, f4]
    exact h2
def NewCK (n : Nat) (f : Nat → Int) (cd : Int) (w : World) (x : Ending) (w' : World) : Prop := ∃ v, x = .returned (.tuple #[v, .int .i64 cd]) ∧ OwnC w' w.heap.size v n f ∧ Below w.heap.size w w'
def ScRel8 (w : World) (p k g : Int) (D K C : Nat) (v i : Value) (wr : World) : Prop :=
  ∃ b : Nat, b ≤ C ∧ i = .int .i64 b ∧ OwnC wr (w.heap.size + 1) v b (codN p k g D K C) ∧ YBox w wr p k g D K C
theorem OwnC.low {w : World} {base base' n : Nat} {v : Value} {f : Nat → Int} (h : OwnC w base v n f) (hb : base' ≤ base) : OwnC w base' v n f := World.ownsRow.mono h hb
theorem OwnC.nil (w : World) (base : Nat) (f : Nat → Int) : OwnC w base (.slice none 0 0) 0 f := World.ownsRow_nil _ _ _ _

end Go.Proofs.YtlphodhecaagbaaGreat
