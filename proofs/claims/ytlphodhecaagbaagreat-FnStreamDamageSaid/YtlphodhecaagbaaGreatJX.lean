/-
  The program's decoded: the data of the corrected words of a stream.
  DecodeStream: the program's answer.
  Condition: as each statement says.
-/
import Derived.Test.YtlphodhecaagbaaGreatLDec
import Derived.Test.YtlphodhecaagbaaGreatJT
import Derived.Test.YtlphodhecaagbaaGreatDImpl6
import Derived.Test.YtlphodhecaagbaaGreatTail2
import Derived.Deep.AppendLies
import Derived.Deep.DeepCutAuto
import Derived.Deep.CutRange
import Derived.Test.YtlphodhecaagbaaGreatLayH
import Derived.Test.YtlphodhecaagbaaGreatLayL
import Derived.Test.YtlphodhecaagbaaGreatJK
namespace Go.Proofs.YtlphodhecaagbaaGreat
open Go Go.RowKit
set_option linter.unusedSimpArgs false
set_option linter.unusedVariables false

/-- append(out, list...), and where the new slice lies. -/
theorem wpList_appLM {P : Program} (w : World) {ops : Array Oper} {rest : List Oper} {o : Oper} {a : Act} {Q : Exit → Act → World → Prop} (hgd : o.guard = none) (s x : Operand) (t : TypeId)
    (ho : o.op = .call { callee := .builtin .append, args := #[s, x], argTypes := #[t, t] }) {e : TypeId} {k : IntKind} {bytes : Nat} (E : IsElem P t e k bytes)
    (base : Nat) (v : Value) (zs : List Int) (hs : a.eval s = v) (hown : Own w base e k v zs) (B : Nat) (A : Option Addr) (m c : Nat) (news : List Int) (hx : a.eval x = .slice A m c) (hI : Ints k w B A m news) (hm : 0 < m)
    (hlen : (zs.length + m) * 8 ≤ 140737488355328) (hbase : base ≤ w.heap.size)
    (h : ∀ v' w', Own w' base e k v' (zs ++ news) → w.grownBy w' v.ownBlock → (∀ g, v'.ownBlock = some g → v.ownBlock = some g ∨ w.heap.size ≤ g) → wpList P ops Q rest (a.put o.dst v') w') : wpList P ops Q (o :: rest) a w := by
  obtain ⟨i, hi, hz0, hz1, hz2⟩ := info_parts E.info
  have hl := hI.len
  obtain ⟨b, off, rfl, hb, hc⟩ := hI.2 hm
  have hby : (zs.length + m) * bytes ≤ 140737488355328 := Nat.le_trans (Nat.mul_le_mul_left _ E.small) hlen
  refine wpList_append_lies (w := w) hgd s x t ho base e i (.int k 0) 1 bytes E.under hi hz0 hz1 hz2 rfl (by decide) v zs.length (zs.map (Value.int k)) hs hown ⟨b, off, none⟩ m c (news.map (Value.int k)) hx (by simp [hl]) (fun j u hu => ?_) (ints_oneCell k news) hm (by simp only [maxLen]; omega) hby hbase w.heap.size rfl fun g cap w' h2 h3 h4 _ => ?_
  · rw [List.getElem?_map] at hu
    rcases hj : news[j]? with _ | y
    · rw [hj] at hu; cases hu
    · rw [hj] at hu
      simp only [Option.map_some, Option.some.injEq] at hu
      subst hu
      rw [addr_add]
      exact hc j y hj
  · refine h _ w' (Own.intro h2 (by rw [List.length_append, hl]) (by rw [List.map_append])) h3 fun g' hg' => ?_
    have hgg : g = g' := by simpa [Value.ownBlock] using hg'
    subst hgg
    rcases h4 with h4 | h4
    · exact .inl h4
    · exact .inr (by omega)
theorem grownD_step {w wr w1 : World} {gd : Nat} {u : Value} (h : w.grownBy wr (some gd)) (hl : ∀ g, u.ownBlock = some g → g = gd ∨ w.heap.size ≤ g) (h1 : wr.grownBy w1 u.ownBlock) : w.grownBy w1 (some gd) :=
  ⟨h1.os.trans h.os, h1.tape.trans h.tape, h1.output.trans h.output, Nat.le_trans h.size h1.size, fun i hi hne => (h1.block i (Nat.lt_of_lt_of_le hi h.size) (fun e => by
    rcases hl i e.symm with h2 | h2
    · exact hne (by rw [h2])
    · omega)).trans (h.block i hi hne)⟩
theorem grownD_below {w wr w1 : World} {gd : Nat} (h : w.grownBy wr (some gd)) (hb : Below wr.heap.size wr w1) : w.grownBy w1 (some gd) :=
  grown_trans h ⟨hb.os, hb.tape, hb.output, hb.size, fun i hi _ => hb.block i hi⟩

/-- What the program's decoding leaves. -/
def PdcPost {R : Fld} (γ : El R) (D C K : Nat) (es : List Int) (ws : List (El R)) (w : World) (x : Ending) (w' : World) : Prop :=
  (∃ X, AllOk γ D C K es ws X ∧ ∃ A m, x = .returned (.tuple #[.slice A (datX D C X C).length m, .int .i64 (chgX D C K ws X C : Nat), .int .i64 0]) ∧ (datX D C X C).length ≤ m ∧ Own w' w.heap.size 2 .i64 (.slice A (datX D C X C).length m) (iv (datX D C X C)) ∧ Below w.heap.size w w') ∨
  (SomeBad γ D C K es ws ∧ x = .returned (.tuple #[.slice none 0 0, .int .i64 0, .int .i64 7]) ∧ Below w.heap.size w w')
def PdcRel {R : Fld} (γ : El R) (D C K : Nat) (es : List Int) (ws : List (El R)) (base gd : Nat) (w4 : World) (v n i : Value) (wr : World) : Prop :=
  ∃ (b : Nat) (X : Nat → List (El R)), b ≤ C ∧ i = .int .i64 b ∧ n = .int .i64 (chgX D C K ws X b : Nat) ∧ chgX D C K ws X b ≤ b * 2000 ∧ Own wr base 2 .i64 v (iv (datX D C X b)) ∧ (∀ g, v.ownBlock = some g → g = gd ∨ w4.heap.size ≤ g) ∧ Hid (∀ j, j < b → Okw γ (lsz D C j + K) K (era D C K es j) (wrdL D C K ws j) (X j)) ∧ w4.grownBy wr (some gd)

/-- What the words and the erasures of the blocks leave. -/
def PdcReg {R : Fld} (D C K : Nat) (es : List Int) (ws : List (El R)) (w1 : World) (v11 v12 : Value) (wx : World) : Prop :=
  ∃ (vW : Value) (vsW vE : List Value) (gN : Nat), vW = v11 ∧ v12 = .pointer (some ⟨gN, 0, none⟩) ∧ vE.length = 16 ∧ Mat wx w1.heap.size vW C vsW (fun k => iv (wrdL D C K ws k)) ∧ Rowz wx w1.heap.size vE (fun k => if k < C then nv (era D C K es k) else []) ∧
    w1.heap.size ≤ gN ∧ gN < wx.heap.size ∧ wx.heap[gN]? = some (.cells vE.toArray 104 (0, 0)) ∧ Below w1.heap.size w1 wx
theorem Rowz.low {w : World} {base base' : Nat} {vs : List Value} {Z : Nat → List Int} (h : Rowz w base vs Z) (hb : base' ≤ base) : Rowz w base' vs Z :=
  ⟨fun k u hu => World.ownsRow.mono (h.own k u hu) hb, h.dis⟩
theorem Rowz.apart {w : World} {base g : Nat} {vs : List Value} {Z : Nat → List Int} (h : Rowz w base vs Z) (hg : g < base ∨ w.heap.size ≤ g) : ∀ (k : Nat) (u : Value), vs[k]? = some u → u.ownBlock = none ∨ u.ownBlock ≠ some g :=
  fun k u hu => .inr fun e => by have := h.lt hu e; omega
theorem reg_fin {R : Fld} {D C K : Nat} {es : List Int} {ws : List (El R)} {w1 w3 : World} {vW : Value} {vsW vE : List Value} {b1 b2 gN : Nat} {old : Array Value} {t : TypeId} (hm : Mat w3 b1 vW C vsW (fun k => iv (wrdL D C K ws k))) (hr : Rowz w3 b2 vE (fun k => if k < C then nv (era D C K es k) else []))
    (hb : Below w1.heap.size w1 w3) (ht : t = 104) (hg : w3.heap[gN]? = some (.cells old t (0, 0))) (h1 : w1.heap.size ≤ gN) (hb1 : w1.heap.size ≤ b1) (hb2 : w1.heap.size ≤ b2)
    (nW : (vW.ownBlock = none ∨ vW.ownBlock ≠ some gN) ∧ ∀ (k : Nat) (u : Value), vsW[k]? = some u → u.ownBlock = none ∨ u.ownBlock ≠ some gN) (nE : ∀ (k : Nat) (u : Value), vE[k]? = some u → u.ownBlock = none ∨ u.ownBlock ≠ some gN) (hl : vE.length = 16) :
    PdcReg D C K es ws w1 vW (.pointer (some ⟨gN, 0, none⟩)) (w3.setRow gN vE.toArray) := by
  have hgg : w3.grownBy (w3.setRow gN vE.toArray) (some gN) := ⟨rfl, rfl, rfl, by simp, fun k _ hk => setRow_other w3 gN k _ (fun e => hk (by rw [e]))⟩
  refine ⟨vW, vsW, vE, gN, rfl, rfl, hl, (hm.grown hgg nW.1 nW.2).low hb1, (hr.grown hgg nE).low hb2, h1, ?_, ?_, below_setRow hb h1 _⟩
  · rw [size_setRow]; exact (Array.getElem?_eq_some_iff.1 hg).1
  · subst ht; exact setRow_heap _ _ _ _ _ _ hg
theorem one16 {w : World} {base : Nat} {vE : List Value} {Z : Nat → List Int} (h : Rowz w base vE Z) : vE.toArray.all (·.oneCell') = true := by
  rw [Array.all_eq_true_iff_forall_mem]
  intro e he
  obtain ⟨q, hq⟩ := List.getElem?_of_mem (show e ∈ vE by simpa using he)
  obtain ⟨A, n, c, rfl⟩ := own_slice (h.own q e hq)
  rfl

set_option maxRecDepth 100000 in
set_option maxHeartbeats 8000000 in
theorem implDecoded {R : Fld} {γ : El R} {p k g : Int} {D K C : Nat} (h : LayIs R γ p k g D K C) (ws : List (El R)) (hw : ws.length = D + C * K) (es : List Int) (hes : es.Pairwise (· < ·))
    (A : Option Addr) (n c : Nat) (A' : Option Addr) (n' c' B : Nat) (w : World) (hI : Ints .i64 w B A n (iv ws)) (hJ : Ints .i64 w B A' n' es) (hB : B ≤ w.heap.size) (hn' : n' ≤ 1048576) :
    Calls Tryz.prog 43 #[.agg #[.int .i64 p, .int .i64 k, .int .i64 g, .int .i64 D, .int .i64 K, .int .i64 C], .slice A n c, .slice A' n' c'] w (PdcPost γ D C K es ws w) := by
  have h1 := h.c1; have h2 := h.c16; have h3 := h.cd; have h4 := h.tot; have h5 := h.k1; have h6 := h.d1500
  have hnN : n = D + C * K := by rw [← hw, ← iv_len]; exact hI.len.symm
  have HX := hide (YBox.start w p k g D K C)
  obtain ⟨c0, c1, c2, c3, c4, c5⟩ := HX.out.cells
  have HI := hide hI
  have HJ := hide hJ
  have HH := hide h
  have HW := hide hw
  have HNN := hide hnN
  have HES := hide hes
  clear h hI hJ hw hnN hes
  go_enter Tryz.func43, Tryz.ntmps43
  go_wp2_with (at_make; refine wpList_mk0 _ rfl _ _ _ rfl elem64 .i64 .i64 _ D rfl rfl (by omega) (by omega) ?_; intro w1 hown hbel; have HO1 := hide hown; have HX1 := hide (HX.out.next hbel); clear hown hbel c0 c1 c2 c3 c4 c5; obtain ⟨c0, c1, c2, c3, c4, c5⟩ := HX1.out.cells)
  go_upto_region 3 with fail
  go_cut [11, 12] from 20 to 25 (fun s11 s12 wx => PdcReg D C K es ws w1 s11 s12 wx)
  case first =>
    have HX_wd := hide HX1.out.drew
    have HB_wd := hide (Below.refl w1.heap.size w1).drew
    have hsd : w1.drew.heap.size = w1.heap.size := rfl
    have HSD := hide hsd
    clear hsd
    refine tail_begin (fun w' => Cells6 w' w.heap.size p k g D K C) 8 (by kernel_rfl) HX_wd.out.cells (fun hS' => ?_)
    obtain ⟨wd, hwd⟩ : ∃ q, w1.drew = q := ⟨_, rfl⟩
    rw [hwd] at hS' HX_wd HB_wd HSD ⊢
    clear hwd c0 c1 c2 c3 c4 c5
    refine tail_take 0 rfl (by kernel_rfl) (by kernel_rfl) (by kernel_rfl) (by kernel_rfl) (fun _ _ _ h => h) (by rfl) (v := ?_) ?_ (by assumption) ?_
    rotate_left 1
    · intro w' hS'; obtain ⟨c0, c1, c2, c3, c4, c5⟩ := hS'; go_simp; try with_reducible rfl
    try simp only [Act.put, List.setIfInBounds_toArray, List.set_cons_zero, List.set_cons_succ]
    refine tail_take 1 rfl (by kernel_rfl) (by kernel_rfl) (by kernel_rfl) (by kernel_rfl) (fun _ _ _ h => h) (by rfl) (v := ?_) ?_ (by assumption) ?_
    rotate_left 1
    · intro w' hS'; obtain ⟨c0, c1, c2, c3, c4, c5⟩ := hS'; go_simp; try with_reducible rfl
    try simp only [Act.put, List.setIfInBounds_toArray, List.set_cons_zero, List.set_cons_succ]
    refine tail_take 3 rfl (by kernel_rfl) (by kernel_rfl) (by kernel_rfl) (by kernel_rfl) (fun _ _ _ h => h) (by rfl) (v := ?_) ?_ (by assumption) ?_
    rotate_left 1
    · intro w' hS'; obtain ⟨c0, c1, c2, c3, c4, c5⟩ := hS'; go_simp; try with_reducible rfl
    try simp only [Act.put, List.setIfInBounds_toArray, List.set_cons_zero, List.set_cons_succ]
    refine tail_take 4 rfl (by kernel_rfl) (by kernel_rfl) (by kernel_rfl) (by kernel_rfl) (fun _ _ _ h => h) (by rfl) (v := ?_) ?_ (by assumption) ?_
    rotate_left 1
    · intro w' hS'; obtain ⟨c0, c1, c2, c3, c4, c5⟩ := hS'; go_simp; try with_reducible rfl
    try simp only [Act.put, List.setIfInBounds_toArray, List.set_cons_zero, List.set_cons_succ]
    refine tail_two 2 6 rfl rfl (by kernel_rfl) rfl rfl (fun K' hK => ?_) (fun K' hK => ?_)
    · go_simp
      go_at_call 68
      refine (implSplit HH.out A n c wd.heap.size (iv ws) _ ((HI.out.below (HX_wd.out.2.mono hB)).more (Nat.le_trans hB (Nat.le_of_lt HX_wd.out.lt))) (Nat.le_refl _) HNN.out).mono ?_
      rintro e w2 ⟨vW, vsW, rfl, hm, hb⟩
      have HX_w2 := hide (HX_wd.out.next hb)
      have HB_w2 := hide (HB_wd.out.trans (hb.mono HB_wd.out.size))
      have HW_w2 := hide (hm.congr (Y := fun k => iv (wrdL D C K ws k)) fun k hk => (wrdZ_iv hk HW.out).symm)
      have hs_w2 := hide hb.size
      skip
      clear hm hb
      refine hK.out _ _ (by (try dsimp only); exact HX_w2.out.cells) (fun hS' => ?_)
      clear hK K'
      try simp only [Act.put, List.setIfInBounds_toArray, List.set_cons_zero, List.set_cons_succ]
      refine tail_two 5 6 rfl rfl (by kernel_rfl) rfl rfl (fun K' hK => ?_) (fun K' hK => ?_)
      · go_simp
        go_at_call 71
        refine (implErasures HH.out A' n' c' w2.heap.size es _ ((HJ.out.below (HX_w2.out.2.mono hB)).more (Nat.le_trans hB (Nat.le_of_lt HX_w2.out.lt))) (Nat.le_refl _) (by omega) HES.out).mono ?_
        rintro e w3 ⟨vE, hvE, rfl, hr, hb⟩
        have HX_w3 := hide (HX_w2.out.next hb)
        have HB_w3 := hide (HB_w2.out.trans (hb.mono HB_w2.out.size))
        have HW_w3 := hide (HW_w2.out.next hb)
        have HE_w3 := hide hr
        have hs_w3 := hide hb.size
        skip
        clear hr hb
        obtain ⟨e0, e1, e2, e3, e4, e5, e6, e7, e8, e9, e10, e11, e12, e13, e14, e15, hv16⟩ := list16 vE hvE
        subst hv16
        refine hK.out _ _ (by (try dsimp only); exact HX_w3.out.cells) (fun hS' => ?_)
        clear hK K'
        try simp only [Act.put, List.setIfInBounds_toArray, List.set_cons_zero, List.set_cons_succ]
        refine tail_call 6 rfl (by kernel_rfl) rfl (fun K' hK => ?_)
        go_simp
        refine hK.out _ _ (by (try dsimp only); exact (HX_w3.out.alloc _).cells) (fun hS' => ?_)
        clear hK K'
        try simp only [Act.put, List.setIfInBounds_toArray, List.set_cons_zero, List.set_cons_succ]
        obtain ⟨wz, hwz⟩ : ∃ wz, w3.alloc (.cells #[(.slice none 0 0 : Value), (.slice none 0 0 : Value), (.slice none 0 0 : Value), (.slice none 0 0 : Value), (.slice none 0 0 : Value), (.slice none 0 0 : Value), (.slice none 0 0 : Value), (.slice none 0 0 : Value), (.slice none 0 0 : Value), (.slice none 0 0 : Value), (.slice none 0 0 : Value), (.slice none 0 0 : Value), (.slice none 0 0 : Value), (.slice none 0 0 : Value), (.slice none 0 0 : Value), (.slice none 0 0 : Value)] 104) = wz := ⟨_, rfl⟩
        have hbz : Below w3.heap.size w3 wz := by rw [← hwz]; exact (Below.refl _ _).alloc (Nat.le_refl _) _
        have HZ_wz := hide (show wz.heap[w3.heap.size]? = some (.cells #[(.slice none 0 0 : Value), (.slice none 0 0 : Value), (.slice none 0 0 : Value), (.slice none 0 0 : Value), (.slice none 0 0 : Value), (.slice none 0 0 : Value), (.slice none 0 0 : Value), (.slice none 0 0 : Value), (.slice none 0 0 : Value), (.slice none 0 0 : Value), (.slice none 0 0 : Value), (.slice none 0 0 : Value), (.slice none 0 0 : Value), (.slice none 0 0 : Value), (.slice none 0 0 : Value), (.slice none 0 0 : Value)] 104 (0, 0)) by rw [← hwz]; exact heap_alloc_new w3 _)
        have hsz : wz.heap.size = w3.heap.size + 1 := by rw [← hwz]; exact alloc_size _ _
        have HX_wz := hide (HX_w3.out.next hbz)
        have HB_wz := hide (HB_w3.out.trans (hbz.mono HB_w3.out.size))
        have HSZ := hide hsz
        have HW_wz := hide (HW_w3.out.next hbz)
        have HE_wz := hide (HE_w3.out.next hbz)
        have NWW := hide (HW_w3.out.apart (g := w3.heap.size) (.inr (Nat.le_refl _)))
        have NEE := hide (HE_w3.out.apart (g := w3.heap.size) (.inr (Nat.le_refl _)))
        have hg1 : w1.heap.size ≤ w3.heap.size := HB_w3.out.size
        have hb1 : w1.heap.size ≤ wd.heap.size + 1 := by have := HSD.out; omega
        have hb2 : w1.heap.size ≤ w2.heap.size + 1 := by have := HB_w2.out.size; omega
        rw [hwz] at hS' ⊢
        clear hwz hbz hsz
        refine tail_take 7 rfl (by kernel_rfl) (by kernel_rfl) (by kernel_rfl) (by kernel_rfl) (fun _ _ _ h => h) (by rfl) (v := ?_) ?_ (by assumption) ?_
        rotate_left 1
        · intro w' hS'; obtain ⟨c0, c1, c2, c3, c4, c5⟩ := hS'; go_simp; try with_reducible rfl
        try simp only [Act.put, List.setIfInBounds_toArray, List.set_cons_zero, List.set_cons_succ]
        have h1c := one16 HE_wz.out
        refine tail_last 8 rfl (by kernel_rfl) (by kernel_rfl) rfl rfl (fun K' hK => ?_)
        refine wp_store_row 104 (.tmp 12) (.tmp 25) rfl w3.heap.size #[e0, e1, e2, e3, e4, e5, e6, e7, e8, e9, e10, e11, e12, e13, e14, e15] rfl rfl 104 _ HZ_wz.out (by kernel_rfl) rfl h1c ?_
        refine hK.out _ _ ?_
        clear hK K'
        try simp only [Act.put, List.setIfInBounds_toArray, List.set_cons_zero, List.set_cons_succ]
        have HF := hide (reg_fin HW_wz.out HE_wz.out HB_wz.out rfl HZ_wz.out hg1 hb1 hb2 NWW.out NEE.out rfl)
        clear h1c hS'
        (try go_wp2_with fail)
        go_meet
        exact HF.out
      · go_simp
        refine hK.out _ _ (by (try dsimp only); exact (HX_w2.out.alloc _).cells) (fun hS' => ?_)
        clear hK K'
        try simp only [Act.put, List.setIfInBounds_toArray, List.set_cons_zero, List.set_cons_succ]
        obtain ⟨wz, hwz⟩ : ∃ wz, w2.alloc (.cells #[(.slice none 0 0 : Value), (.slice none 0 0 : Value), (.slice none 0 0 : Value), (.slice none 0 0 : Value), (.slice none 0 0 : Value), (.slice none 0 0 : Value), (.slice none 0 0 : Value), (.slice none 0 0 : Value), (.slice none 0 0 : Value), (.slice none 0 0 : Value), (.slice none 0 0 : Value), (.slice none 0 0 : Value), (.slice none 0 0 : Value), (.slice none 0 0 : Value), (.slice none 0 0 : Value), (.slice none 0 0 : Value)] 104) = wz := ⟨_, rfl⟩
        have hbz : Below w2.heap.size w2 wz := by rw [← hwz]; exact (Below.refl _ _).alloc (Nat.le_refl _) _
        have HZ_wz := hide (show wz.heap[w2.heap.size]? = some (.cells #[(.slice none 0 0 : Value), (.slice none 0 0 : Value), (.slice none 0 0 : Value), (.slice none 0 0 : Value), (.slice none 0 0 : Value), (.slice none 0 0 : Value), (.slice none 0 0 : Value), (.slice none 0 0 : Value), (.slice none 0 0 : Value), (.slice none 0 0 : Value), (.slice none 0 0 : Value), (.slice none 0 0 : Value), (.slice none 0 0 : Value), (.slice none 0 0 : Value), (.slice none 0 0 : Value), (.slice none 0 0 : Value)] 104 (0, 0)) by rw [← hwz]; exact heap_alloc_new w2 _)
        have hsz : wz.heap.size = w2.heap.size + 1 := by rw [← hwz]; exact alloc_size _ _
        have HX_wz := hide (HX_w2.out.next hbz)
        have HB_wz := hide (HB_w2.out.trans (hbz.mono HB_w2.out.size))
        have HSZ := hide hsz
        have HW_wz := hide (HW_w2.out.next hbz)
        have NWW := hide (HW_w2.out.apart (g := w2.heap.size) (.inr (Nat.le_refl _)))
        have hg1 : w1.heap.size ≤ w2.heap.size := HB_w2.out.size
        have hb1 : w1.heap.size ≤ wd.heap.size + 1 := by have := HSD.out; omega
        rw [hwz] at hS' ⊢
        clear hwz hbz hsz
        refine tail_call 5 rfl (by kernel_rfl) rfl (fun K' hK => ?_)
        go_simp
        go_at_call 71
        refine (implErasures HH.out A' n' c' wz.heap.size es _ ((HJ.out.below (HX_wz.out.2.mono hB)).more (Nat.le_trans hB (Nat.le_of_lt HX_wz.out.lt))) (Nat.le_refl _) (by omega) HES.out).mono ?_
        rintro e w3 ⟨vE, hvE, rfl, hr, hb⟩
        have HX_w3 := hide (HX_wz.out.next hb)
        have HB_w3 := hide (HB_wz.out.trans (hb.mono HB_wz.out.size))
        have HW_w3 := hide (HW_wz.out.next hb)
        have HE_w3 := hide hr
        have hs_w3 := hide hb.size
        have HZ_w3 := hide ((hb.block w2.heap.size (by have := HSZ.out; omega)).trans HZ_wz.out)
        have NEE := hide (hr.apart (g := w2.heap.size) (.inl (by have := HSZ.out; omega)))
        have hb2 : w1.heap.size ≤ wz.heap.size + 1 := by have := HB_wz.out.size; omega
        clear hr hb
        obtain ⟨e0, e1, e2, e3, e4, e5, e6, e7, e8, e9, e10, e11, e12, e13, e14, e15, hv16⟩ := list16 vE hvE
        subst hv16
        refine hK.out _ _ (by (try dsimp only); exact HX_w3.out.cells) (fun hS' => ?_)
        clear hK K'
        try simp only [Act.put, List.setIfInBounds_toArray, List.set_cons_zero, List.set_cons_succ]
        refine tail_take 7 rfl (by kernel_rfl) (by kernel_rfl) (by kernel_rfl) (by kernel_rfl) (fun _ _ _ h => h) (by rfl) (v := ?_) ?_ (by assumption) ?_
        rotate_left 1
        · intro w' hS'; obtain ⟨c0, c1, c2, c3, c4, c5⟩ := hS'; go_simp; try with_reducible rfl
        try simp only [Act.put, List.setIfInBounds_toArray, List.set_cons_zero, List.set_cons_succ]
        have h1c := one16 HE_w3.out
        refine tail_last 8 rfl (by kernel_rfl) (by kernel_rfl) rfl rfl (fun K' hK => ?_)
        refine wp_store_row 104 (.tmp 12) (.tmp 25) rfl w2.heap.size #[e0, e1, e2, e3, e4, e5, e6, e7, e8, e9, e10, e11, e12, e13, e14, e15] rfl rfl 104 _ HZ_w3.out (by kernel_rfl) rfl h1c ?_
        refine hK.out _ _ ?_
        clear hK K'
        try simp only [Act.put, List.setIfInBounds_toArray, List.set_cons_zero, List.set_cons_succ]
        have HF := hide (reg_fin HW_w3.out HE_w3.out HB_w3.out rfl HZ_w3.out hg1 hb1 hb2 NWW.out NEE.out rfl)
        clear h1c hS'
        (try go_wp2_with fail)
        go_meet
        exact HF.out
    · go_simp
      refine hK.out _ _ (by (try dsimp only); exact (HX_wd.out.alloc _).cells) (fun hS' => ?_)
      clear hK K'
      try simp only [Act.put, List.setIfInBounds_toArray, List.set_cons_zero, List.set_cons_succ]
      obtain ⟨wz, hwz⟩ : ∃ wz, wd.alloc (.cells #[(.slice none 0 0 : Value), (.slice none 0 0 : Value), (.slice none 0 0 : Value), (.slice none 0 0 : Value), (.slice none 0 0 : Value), (.slice none 0 0 : Value), (.slice none 0 0 : Value), (.slice none 0 0 : Value), (.slice none 0 0 : Value), (.slice none 0 0 : Value), (.slice none 0 0 : Value), (.slice none 0 0 : Value), (.slice none 0 0 : Value), (.slice none 0 0 : Value), (.slice none 0 0 : Value), (.slice none 0 0 : Value)] 104) = wz := ⟨_, rfl⟩
      have hbz : Below wd.heap.size wd wz := by rw [← hwz]; exact (Below.refl _ _).alloc (Nat.le_refl _) _
      have HZ_wz := hide (show wz.heap[wd.heap.size]? = some (.cells #[(.slice none 0 0 : Value), (.slice none 0 0 : Value), (.slice none 0 0 : Value), (.slice none 0 0 : Value), (.slice none 0 0 : Value), (.slice none 0 0 : Value), (.slice none 0 0 : Value), (.slice none 0 0 : Value), (.slice none 0 0 : Value), (.slice none 0 0 : Value), (.slice none 0 0 : Value), (.slice none 0 0 : Value), (.slice none 0 0 : Value), (.slice none 0 0 : Value), (.slice none 0 0 : Value), (.slice none 0 0 : Value)] 104 (0, 0)) by rw [← hwz]; exact heap_alloc_new wd _)
      have hsz : wz.heap.size = wd.heap.size + 1 := by rw [← hwz]; exact alloc_size _ _
      have HX_wz := hide (HX_wd.out.next hbz)
      have HB_wz := hide (HB_wd.out.trans (hbz.mono HB_wd.out.size))
      have HSZ := hide hsz
      have hg1 : w1.heap.size ≤ wd.heap.size := HB_wd.out.size
      have hb1 : w1.heap.size ≤ wd.heap.size + 1 + 1 := by have := HSD.out; omega
      rw [hwz] at hS' ⊢
      clear hwz hbz hsz
      refine tail_call 2 rfl (by kernel_rfl) rfl (fun K' hK => ?_)
      go_simp
      go_at_call 68
      refine (implSplit HH.out A n c wz.heap.size (iv ws) _ ((HI.out.below (HX_wz.out.2.mono hB)).more (Nat.le_trans hB (Nat.le_of_lt HX_wz.out.lt))) (Nat.le_refl _) HNN.out).mono ?_
      rintro e w2 ⟨vW, vsW, rfl, hm, hb⟩
      have HX_w2 := hide (HX_wz.out.next hb)
      have HB_w2 := hide (HB_wz.out.trans (hb.mono HB_wz.out.size))
      have HW_w2 := hide (hm.congr (Y := fun k => iv (wrdL D C K ws k)) fun k hk => (wrdZ_iv hk HW.out).symm)
      have hs_w2 := hide hb.size
      have HZ_w2 := hide ((hb.block wd.heap.size (by have := HSZ.out; omega)).trans HZ_wz.out)
      have NWW := hide (hm.apart (g := wd.heap.size) (.inl (by have := HSZ.out; omega)))
      have hb1 : w1.heap.size ≤ wz.heap.size + 1 := by have := HB_wz.out.size; omega
      clear hm hb
      refine hK.out _ _ (by (try dsimp only); exact HX_w2.out.cells) (fun hS' => ?_)
      clear hK K'
      try simp only [Act.put, List.setIfInBounds_toArray, List.set_cons_zero, List.set_cons_succ]
      refine tail_call 5 rfl (by kernel_rfl) rfl (fun K' hK => ?_)
      go_simp
      go_at_call 71
      refine (implErasures HH.out A' n' c' w2.heap.size es _ ((HJ.out.below (HX_w2.out.2.mono hB)).more (Nat.le_trans hB (Nat.le_of_lt HX_w2.out.lt))) (Nat.le_refl _) (by omega) HES.out).mono ?_
      rintro e w3 ⟨vE, hvE, rfl, hr, hb⟩
      have HX_w3 := hide (HX_w2.out.next hb)
      have HB_w3 := hide (HB_w2.out.trans (hb.mono HB_w2.out.size))
      have HW_w3 := hide (HW_w2.out.next hb)
      have HE_w3 := hide hr
      have hs_w3 := hide hb.size
      have HZ_w3 := hide ((hb.block wd.heap.size (by have := HSZ.out; have := hs_w2.out; omega)).trans HZ_w2.out)
      have NEE := hide (hr.apart (g := wd.heap.size) (.inl (by have := HSZ.out; have := hs_w2.out; omega)))
      have hb2 : w1.heap.size ≤ w2.heap.size + 1 := by have := HB_w2.out.size; omega
      clear hr hb
      obtain ⟨e0, e1, e2, e3, e4, e5, e6, e7, e8, e9, e10, e11, e12, e13, e14, e15, hv16⟩ := list16 vE hvE
      subst hv16
      refine hK.out _ _ (by (try dsimp only); exact HX_w3.out.cells) (fun hS' => ?_)
      clear hK K'
      try simp only [Act.put, List.setIfInBounds_toArray, List.set_cons_zero, List.set_cons_succ]
      refine tail_take 7 rfl (by kernel_rfl) (by kernel_rfl) (by kernel_rfl) (by kernel_rfl) (fun _ _ _ h => h) (by rfl) (v := ?_) ?_ (by assumption) ?_
      rotate_left 1
      · intro w' hS'; obtain ⟨c0, c1, c2, c3, c4, c5⟩ := hS'; go_simp; try with_reducible rfl
      try simp only [Act.put, List.setIfInBounds_toArray, List.set_cons_zero, List.set_cons_succ]
      have h1c := one16 HE_w3.out
      refine tail_last 8 rfl (by kernel_rfl) (by kernel_rfl) rfl rfl (fun K' hK => ?_)
      refine wp_store_row 104 (.tmp 12) (.tmp 25) rfl wd.heap.size #[e0, e1, e2, e3, e4, e5, e6, e7, e8, e9, e10, e11, e12, e13, e14, e15] rfl rfl 104 _ HZ_w3.out (by kernel_rfl) rfl h1c ?_
      refine hK.out _ _ ?_
      clear hK K'
      try simp only [Act.put, List.setIfInBounds_toArray, List.set_cons_zero, List.set_cons_succ]
      have HF := hide (reg_fin HW_w3.out HE_w3.out HB_w3.out rfl HZ_w3.out hg1 hb1 hb2 NWW.out NEE.out rfl)
      clear h1c hS'
      (try go_wp2_with fail)
      go_meet
      exact HF.out
  case rest =>
    obtain ⟨vW, vsW, vE, gN, hq1, hq2, hvE, hmW, hrE, hgN1, hgN2, hgNr, hbX⟩ := hcut
    subst hq1 hq2
    obtain ⟨e0, e1, e2, e3, e4, e5, e6, e7, e8, e9, e10, e11, e12, e13, e14, e15, hv16⟩ := list16 vE hvE
    subst hv16
    have HXs := hide (HX1.out.next hbX)
    have HOs := hide (HO1.out.below hbX (Nat.le_refl _))
    have HWs := hide hmW
    have HEs := hide hrE
    have HER := hide hgNr
    have hs1' : w.heap.size + 1 < w1.heap.size := by
      have h := (HO1.out.lt rfl).2
      rw [alloc_size] at h; exact h
    clear hmW hrE hgNr hbX hvE c0 c1 c2 c3 c4 c5
    obtain ⟨c0, c1, c2, c3, c4, c5⟩ := HXs.out.cells
    go_wp2_with fail
    refine (implCodes HH.out wc).mono ?_
    rintro e w4 ⟨vc, rfl, hoc, hb4⟩
    have HX4 := hide (HXs.out.next hb4)
    have HO4 := hide (HOs.out.below hb4 (Nat.le_refl _))
    have HW4 := hide (HWs.out.next hb4)
    have HE4 := hide (HEs.out.next hb4)
    have HER4 := hide ((hb4.block _ hgN2).trans HER.out)
    have hs4 := hb4.size
    obtain ⟨gc, cc, rfl, hgc1, hgc2, hgc3⟩ := hoc.form h1
    have HC4 := hide hoc
    clear hoc hb4 HXs HOs HWs HEs c0 c1 c2 c3 c4 c5
    rw [alloc_size] at HO4
    obtain ⟨gw, cw, rfl, hgw1, hgw2, hgw3⟩ := HW4.out.form h1
    go_wp2_with fail
    go_loopw [9, 10, 29] (fun v n i wr => PdcRel γ D C K es ws (w.heap.size + 1) (w.heap.size + 1) w4 v n i wr) (fun _ _ i _ => C - (intOf i).toNat)
    case atStart => exact ⟨0, fun _ => [], Nat.zero_le _, rfl, rfl, Nat.zero_le _, HO4.out, (fun g hg => .inl (by simpa [Value.ownBlock] using hg.symm)), (fun j hj => absurd hj (Nat.not_lt_zero j)), World.grownBy.refl _ _⟩
    case round =>
      obtain ⟨v, hvv⟩ : ∃ v : Value, v = u9 := ⟨_, rfl⟩
      subst hvv
      obtain ⟨b, X, hb, rfl, rfl, hch, ho, hli, HOK, hgr⟩ := hrel
      have HO := hide ho
      have HLI := hide hli
      have HGR := hide hgr
      clear ho hli hgr
      by_cases hlt : b < C
      · have HWr := hide (HW4.out.grown HGR.out (HW4.out.apart (g := w.heap.size + 1) (.inl (by omega))).1 (HW4.out.apart (g := w.heap.size + 1) (.inl (by omega))).2)
        have HCr := hide (HC4.out.grown HGR.out (.inr fun e => by have e2 : gc = w.heap.size + 1 := Option.some.inj e; omega))
        obtain ⟨eb, hebq⟩ : ∃ eb, [e0, e1, e2, e3, e4, e5, e6, e7, e8, e9, e10, e11, e12, e13, e14, e15][b]? = some eb := ⟨_, List.getElem?_eq_getElem (by simp only [List.length_cons, List.length_nil]; omega)⟩
        have heo4 := HE4.out.own b eb hebq
        have heor : Own wr w1.heap.size 2 .i64 eb _ := heo4.grown HGR.out (by
          rcases hq : eb.ownBlock with _ | q
          · exact .inl rfl
          · exact .inr fun e => by have := (heo4.lt hq).1; cases e; omega)
        simp only [if_pos hlt] at heor
        have HERr := hide ((HGR.out.block gN (by omega) (fun e => by cases e; omega)).trans HER4.out)
        have hce0 : wr.cell? ⟨gN, b, none⟩ = some eb := by
          rw [cell_of_row wr gN b _ _ _ HERr.out]
          simpa using hebq
        have hcode := HH.out.code b hlt
        have hcl := hcode.cl
        have hc255 := hcode.l255
        have HEI := hide (eraB_idx D C K es b)
        have hwl := wrd_len (D := D) (C := C) (K := K) ws b
        obtain ⟨Aw, mw, hvw, hcw, how, hmw⟩ := HWr.out.at_ hlt
        rw [iv_len, hwl] at hvw hcw how hmw
        have HWI := hide (Own.ints how)
        rw [iv_len, hwl] at HWI
        obtain ⟨Ae, me, hve, hme⟩ := heor.form
        subst hve
        have HEE := hide (Own.ints heor)
        rw [nv_len] at HEE hme hce0
        obtain ⟨f0, f1, f2, f3, f4⟩ := codN_at p k g D K C b
        have z0 := HCr.out.cell (i := b * 5) (by omega)
        have z1 := HCr.out.cell (i := b * 5 + 1) (by omega)
        have z2 := HCr.out.cell (i := b * 5 + 2) (by omega)
        have z3 := HCr.out.cell (i := b * 5 + 3) (by omega)
        have z4 := HCr.out.cell (i := b * 5 + 4) (by omega)
        rw [f0] at z0
        rw [f1] at z1
        rw [f2] at z2
        rw [f3] at z3
        rw [f4] at z4
        have HDX := hide (show ∀ Y : List (El R), (∀ Z : Nat → List (El R), (∀ j, j < b → Z j = X j) → Z b = Y → datX D C Z (b + 1) = datX D C X b ++ Y.take (lsz D C b) ∧ chgX D C K ws Z (b + 1) = chgX D C K ws X b + (difs (wrdL D C K ws b) Y).length) from fun Y Z hZ hY => by
          refine ⟨?_, ?_⟩
          · show datX D C Z b ++ _ = _
            rw [datX_congr hZ, hY]
          · show chgX D C K ws Z b + _ = _
            rw [chgX_congr hZ, hY])
        obtain ⟨s, hs⟩ : ∃ s, lsz D C b = s := ⟨_, rfl⟩
        have HSE := hide hs
        rw [hs] at hcl hc255 HEI hwl hcw HWI hcode hmw z3 HDX
        obtain ⟨L, hL⟩ : ∃ L, s + K = L := ⟨_, rfl⟩
        have HLE := hide hL
        rw [hL] at hcl hc255 HEI hwl hcw HWI hcode hmw z3
        obtain ⟨me', hme'⟩ : ∃ q, (era D C K es b).length = q := ⟨_, rfl⟩
        rw [hme'] at HEE hme hce0
        have HCODE := hide hcode
        have hxb : w.heap.size < wr.heap.size := by have := HGR.out.size; omega
        have hgwr : gw < wr.heap.size := by have := HGR.out.size; omega
        have hNr : gN < wr.heap.size := by have := HGR.out.size; omega
        have hb16 : (b : Int) < 16 := by omega
        clear how heo4 heor f0 f1 f2 f3 f4 hs hL hebq hcode hme'
        go_wp2_with fail
        obtain ⟨wa, hwa⟩ : ∃ wa, wr.alloc (.cells #[.int .i64 p, .int .i64 k, .int .i64 g, .int .i64 L, .int .i64 K] 89) = wa := ⟨_, rfl⟩
        have HRa := hide (show wa.heap[wr.heap.size]? = some (.cells #[.int .i64 p, .int .i64 k, .int .i64 g, .int .i64 L, .int .i64 K] 89 (0, 0)) by rw [← hwa]; exact heap_alloc_new wr _)
        have HBa := hide (show Below wr.heap.size wr wa by rw [← hwa]; exact (Below.refl _ _).alloc (Nat.le_refl _) _)
        rw [hwa]
        obtain ⟨q0, q1, q2, q3, q4, _⟩ := row5w HRa.out
        have hcw' := (HBa.out.cell (p := ⟨gw, b, none⟩) hgwr).trans hcw
        have hce' := (HBa.out.cell (p := ⟨gN, b, none⟩) hNr).trans hce0
        clear hwa hcw hce0 z0 z1 z2 z3 z4
        refine tail_begin (fun w' => Cells5 w' wr.heap.size p k g L K ∧ w'.cell? ⟨gw, b, none⟩ = some (.slice Aw L mw) ∧ w'.cell? ⟨gN, b, none⟩ = some (.slice Ae me' me)) 14 (by kernel_rfl) ⟨⟨q0, q1, q2, q3, q4⟩, hcw', hce'⟩ (fun hS' => ?_)
        clear q0 q1 q2 q3 q4 hcw' hce'
        refine tail_take2 0 rfl (by kernel_rfl) (by kernel_rfl) (by kernel_rfl) (by decide) (fun _ _ _ h => h) (by rfl) (v := ?_) ?_ (by assumption) ?_
        rotate_left 1
        · intro w' hS'; obtain ⟨⟨q0, q1, q2, q3, q4⟩, qw, qe⟩ := hS'; go_simp; try with_reducible rfl
        try simp only [Act.put, List.setIfInBounds_toArray, List.set_cons_zero, List.set_cons_succ]
        refine tail_take2 1 rfl (by kernel_rfl) (by kernel_rfl) (by kernel_rfl) (by decide) (fun _ _ _ h => h) (by rfl) (v := ?_) ?_ (by assumption) ?_
        rotate_left 1
        · intro w' hS'; obtain ⟨⟨q0, q1, q2, q3, q4⟩, qw, qe⟩ := hS'; go_simp; try with_reducible rfl
        try simp only [Act.put, List.setIfInBounds_toArray, List.set_cons_zero, List.set_cons_succ]
        refine tail_take2 2 rfl (by kernel_rfl) (by kernel_rfl) (by kernel_rfl) (by decide) (fun _ _ _ h => h) (by rfl) (v := ?_) ?_ (by assumption) ?_
        rotate_left 1
        · intro w' hS'; obtain ⟨⟨q0, q1, q2, q3, q4⟩, qw, qe⟩ := hS'; go_simp; try with_reducible rfl
        try simp only [Act.put, List.setIfInBounds_toArray, List.set_cons_zero, List.set_cons_succ]
        refine tail_take2 3 rfl (by kernel_rfl) (by kernel_rfl) (by kernel_rfl) (by decide) (fun _ _ _ h => h) (by rfl) (v := ?_) ?_ (by assumption) ?_
        rotate_left 1
        · intro w' hS'; obtain ⟨⟨q0, q1, q2, q3, q4⟩, qw, qe⟩ := hS'; go_simp; try with_reducible rfl
        try simp only [Act.put, List.setIfInBounds_toArray, List.set_cons_zero, List.set_cons_succ]
        refine tail_take2 4 rfl (by kernel_rfl) (by kernel_rfl) (by kernel_rfl) (by decide) (fun _ _ _ h => h) (by rfl) (v := ?_) ?_ (by assumption) ?_
        rotate_left 1
        · intro w' hS'; obtain ⟨⟨q0, q1, q2, q3, q4⟩, qw, qe⟩ := hS'; go_simp; try with_reducible rfl
        try simp only [Act.put, List.setIfInBounds_toArray, List.set_cons_zero, List.set_cons_succ]
        refine tail_take2 5 rfl (by kernel_rfl) (by kernel_rfl) (by kernel_rfl) (by decide) (fun _ _ _ h => h) (by rfl) (v := ?_) ?_ (by assumption) ?_
        rotate_left 1
        · intro w' hS'; obtain ⟨⟨q0, q1, q2, q3, q4⟩, qw, qe⟩ := hS'; go_simp; try with_reducible rfl
        try simp only [Act.put, List.setIfInBounds_toArray, List.set_cons_zero, List.set_cons_succ]
        refine tail_take2 6 rfl (by kernel_rfl) (by kernel_rfl) (by kernel_rfl) (by decide) (fun _ _ _ h => h) (by rfl) (v := ?_) ?_ (by assumption) ?_
        rotate_left 1
        · intro w' hS'; obtain ⟨⟨q0, q1, q2, q3, q4⟩, qw, qe⟩ := hS'; go_simp; try with_reducible rfl
        try simp only [Act.put, List.setIfInBounds_toArray, List.set_cons_zero, List.set_cons_succ]
        refine tail_take2 7 rfl (by kernel_rfl) (by kernel_rfl) (by kernel_rfl) (by decide) (fun _ _ _ h => h) (by rfl) (v := ?_) ?_ (by assumption) ?_
        rotate_left 1
        · intro w' hS'; obtain ⟨⟨q0, q1, q2, q3, q4⟩, qw, qe⟩ := hS'; go_simp; try with_reducible rfl
        try simp only [Act.put, List.setIfInBounds_toArray, List.set_cons_zero, List.set_cons_succ]
        refine tail_call 8 rfl (by kernel_rfl) rfl (fun K' hK => ?_)
        go_simp
        obtain ⟨⟨q0, q1, q2, q3, q4⟩, qw, qe⟩ := hS'
        go_at_call 72
        refine (implCorrected HCODE.out (era D C K es b) HEI.out (wrdL D C K ws b) Aw Ae mw me' me wa.drew.heap.size wa.drew ((HWI.out.below HBa.out.drew).more HBa.out.drew.size) ((HEE.out.below HBa.out.drew).more HBa.out.drew.size) (Nat.le_refl _)).mono ?_
        have hlta : wr.heap.size < wa.heap.size := (Array.getElem?_eq_some_iff.1 HRa.out).1
        have HSS := hide (fun (w8 : World) (hb : Below wa.drew.heap.size wa.drew w8) => (⟨by
          obtain ⟨a0, a1, a2, a3, a4, _⟩ := row5w ((hb.block wr.heap.size hlta).trans HRa.out)
          exact ⟨a0, a1, a2, a3, a4⟩, (hb.cell (p := ⟨gw, b, none⟩) (Nat.lt_trans hgwr hlta)).trans qw, (hb.cell (p := ⟨gN, b, none⟩) (Nat.lt_trans hNr hlta)).trans qe⟩ : Cells5 w8 wr.heap.size p k g L K ∧ w8.cell? ⟨gw, b, none⟩ = some (.slice Aw L mw) ∧ w8.cell? ⟨gN, b, none⟩ = some (.slice Ae me' me)))
        have HWA := hide (show wr.heap.size < wa.heap.size from hlta)
        have HXr := hide (HX4.out.grow HGR.out (fun r e => by cases e; omega))
        rintro e w8 (⟨out, ⟨Ao, mo, rfl, hmo, hoo, hb8⟩, hol, hok, huniq⟩ | ⟨⟨Ao, mo, rfl, hmo, hoo, hb8⟩, hno⟩)
        · refine hK.out _ _ (by (try dsimp only); exact HSS.out w8 hb8) (fun hS' => ?_)
          clear hK K' q0 q1 q2 q3 q4 qw qe
          try simp only [Act.put, List.setIfInBounds_toArray, List.set_cons_zero, List.set_cons_succ]
          have HB8 := hide (HBa.out.drew.trans (hb8.mono HBa.out.drew.size))
          rw [iv_len, hol] at hmo hoo ⊢
          have HOO := hide hoo
          have HOK2 := hide hok
          have HOL := hide hol
          have hdl : (difs (wrdL D C K ws b) out).length ≤ L := by
            have : (difs (wrdL D C K ws b) out).length ≤ (wrdL D C K ws b).length := by
              unfold difs
              have := List.length_filter_le (fun i => !decide (cf (wrdL D C K ws b) i = cf out i)) (List.range (wrdL D C K ws b).length)
              rw [List.length_range] at this
              exact this
            omega
          clear hoo hok huniq hb8 hol
          refine tail_take2 9 rfl (by kernel_rfl) (by kernel_rfl) (by kernel_rfl) (by decide) (fun _ _ _ h => h) (by rfl) (v := ?_) ?_ (by assumption) ?_
          rotate_left 1
          · intro w' hS'; obtain ⟨⟨q0, q1, q2, q3, q4⟩, qw, qe⟩ := hS'; go_simp; try with_reducible rfl
          try simp only [Act.put, List.setIfInBounds_toArray, List.set_cons_zero, List.set_cons_succ]
          refine tail_take2 10 rfl (by kernel_rfl) (by kernel_rfl) (by kernel_rfl) (by decide) (fun _ _ _ h => h) (by rfl) (v := ?_) ?_ (by assumption) ?_
          rotate_left 1
          · intro w' hS'; obtain ⟨⟨q0, q1, q2, q3, q4⟩, qw, qe⟩ := hS'; go_simp; try with_reducible rfl
          try simp only [Act.put, List.setIfInBounds_toArray, List.set_cons_zero, List.set_cons_succ]
          refine tail_take2 11 rfl (by kernel_rfl) (by kernel_rfl) (by kernel_rfl) (by decide) (fun _ _ _ h => h) (by rfl) (v := ?_) ?_ (by assumption) ?_
          rotate_left 1
          · intro w' hS'; obtain ⟨⟨q0, q1, q2, q3, q4⟩, qw, qe⟩ := hS'; go_simp; try with_reducible rfl
          try simp only [Act.put, List.setIfInBounds_toArray, List.set_cons_zero, List.set_cons_succ]
          refine tail_take2 12 rfl (by kernel_rfl) (by kernel_rfl) (by kernel_rfl) (by decide) (fun _ _ _ h => h) (by rfl) (v := ?_) ?_ (by assumption) ?_
          rotate_left 1
          · intro w' hS'; obtain ⟨⟨q0, q1, q2, q3, q4⟩, qw, qe⟩ := hS'; go_simp; try with_reducible rfl
          try simp only [Act.put, List.setIfInBounds_toArray, List.set_cons_zero, List.set_cons_succ]
          refine tail_take2 13 rfl (by kernel_rfl) (by kernel_rfl) (by kernel_rfl) (by decide) (fun _ _ _ h => h) (by rfl) (v := ?_) ?_ (by assumption) ?_
          rotate_left 1
          · intro w' hS'; obtain ⟨⟨q0, q1, q2, q3, q4⟩, qw, qe⟩ := hS'; go_simp; try with_reducible rfl
          try simp only [Act.put, List.setIfInBounds_toArray, List.set_cons_zero, List.set_cons_succ]
          refine tail_end (by kernel_rfl) ?_
          obtain ⟨⟨q0, q1, q2, q3, q4⟩, -, -⟩ := hS'
          have hsL : s ≤ L := by have := HLE.out; omega
          have hs1 : 0 < s := by have := HLE.out; omega
          have HML := hide (fun w' => implMsgLen p k g L K hc255 hcl w')
          rw [show L - K = s by have := HLE.out; omega] at HML
          have hcut := run_cut_h Ao L mo s (by omega)
          have HO8 := hide (HO.out.below HB8.out (Nat.le_refl _))
          go_wp2_with fail
          refine (HML.out _).mono ?_
          rintro e w9 ⟨rfl, hb9⟩
          have HB9 := hide (HB8.out.trans (hb9.mono HB8.out.size))
          have HO9 := hide (HO8.out.below hb9 (Nat.le_refl _))
          have HOO9 := hide (HOO.out.below hb9 (Nat.le_refl _))
          have HN9 := hide (show Ints .i64 w9 w9.heap.size Ao s ((iv out).take s) from by
            have := Own.ints HOO9.out
            rw [iv_len, HOL.out] at this
            exact this.headI hsL)
          clear hb9 q0 q1 q2 q3 q4
          have htl : (iv (datX D C X b)).length ≤ 3000 := by
            rw [iv_len, datX_len (fun j hj => (HOK.out j hj).1)]
            have := offB_le (D := D) (k := b) h1 hb
            omega
          obtain ⟨X', hX'⟩ : ∃ X' : Nat → List (El R), X' = fun j => if j = b then out else X j := ⟨_, rfl⟩
          have hX1 : ∀ j, j < b → X' j = X j := fun j hj => by rw [hX']; exact if_neg (by omega)
          have hX2 : X' b = out := by rw [hX']; exact if_pos rfl
          obtain ⟨hd1, hd2⟩ := HDX.out out X' hX1 hX2
          have HD1 := hide hd1
          have HD2 := hide hd2
          have HXA := hide hX1
          have HXB := hide hX2
          have hb16n : b ≤ 16 := by omega
          have hbs9 : w.heap.size + 1 ≤ w9.heap.size := by have := HB9.out.size; omega
          have hw49 : w4.heap.size ≤ w9.heap.size := Nat.le_trans HGR.out.size HB9.out.size
          clear hX' hX1 hX2 hd1 hd2
          go_wp2_with (
            at_builtin
            refine wpList_appLM w9 rfl _ _ _ rfl elem64 (w.heap.size + 1) v (iv (datX D C X b)) rfl HO9.out w9.heap.size Ao s mo ((iv out).take s) rfl HN9.out hs1 (by omega) hbs9 ?_
            intro v' w10 hown hgrow hlies
            have HO10 := hide (show Own w10 (w.heap.size + 1) 2 .i64 v' (iv (datX D C X' (b + 1))) from by
              rw [HD1.out, iv_app, ← iv_take]; exact hown)
            have HG10 := hide (grownD_step (grownD_below HGR.out HB9.out) HLI.out hgrow)
            have HL10 := hide (show ∀ g, v'.ownBlock = some g → g = w.heap.size + 1 ∨ w4.heap.size ≤ g from fun q hq => by
              rcases hlies q hq with h | h
              · exact HLI.out q h
              · exact .inr (by omega))
            have HOO10 := hide (HOO9.out.grown hgrow (by
              rcases hq : (Value.slice Ao L mo).ownBlock with _ | q
              · exact .inl rfl
              · refine .inr fun e => ?_
                have hq1 := (HOO9.out.lt hq).1
                have hq2 := (HO.out.lt e.symm).2
                have : wa.drew.heap.size = wa.heap.size := rfl
                omega))
            have HW10 := hide (HW4.out.grown HG10.out (HW4.out.apart (g := w.heap.size + 1) (.inl (by omega))).1 (HW4.out.apart (g := w.heap.size + 1) (.inl (by omega))).2)
            have hcw10 : w10.cell? ⟨gw, b, none⟩ = some (.slice Aw L mw) := by
              obtain ⟨Aw2, mw2, hvw2, hcw2, _, _⟩ := HW10.out.at_ hlt
              rw [hvw] at hvw2
              rw [← HLE.out, ← HSE.out, Option.some.inj hvw2]; exact hcw2
            have how10 := HW10.out.rows.own b _ hvw
            have HWI10 := hide (Own.ints how10)
            rw [iv_len, hwl] at HWI10
            have HOI10 := hide (Own.ints HOO10.out)
            rw [iv_len, HOL.out] at HOI10
            clear hown hgrow hlies how10)
          refine (implDifferences (wrdL D C K ws b) out Aw Ao L mw mo w10.heap.size w10 HWI10.out HOI10.out (Nat.le_refl _) (by omega)).mono ?_
          rintro e w11 ⟨Ad, md, rfl, hmd, hod, hb11⟩
          rw [nv_len] at hmd ⊢
          have HO11 := hide (HO10.out.below hb11 (Nat.le_refl _))
          have HG11 := hide (grownD_below HG10.out hb11)
          obtain ⟨dd, hdd⟩ : ∃ dd, (difs (wrdL D C K ws b) out).length = dd := ⟨_, rfl⟩
          have HDD := hide hdd
          rw [hdd] at hdl ⊢
          obtain ⟨ch, hche⟩ : ∃ ch, chgX D C K ws X b = ch := ⟨_, rfl⟩
          have HCH := hide hche
          rw [hche] at hch ⊢
          have hw3 : IntKind.i64.wrap ((ch : Int) + (dd : Int)) = ((ch + dd : Nat) : Int) := by rw [IntWalk.i64_in _ ⟨by omega, by omega⟩]; omega
          clear hod hmd hdd hche hb11 hcw10
          go_wp2_with fail
          go_roundw
          case rel => exact ⟨b + 1, X', by omega, by go_num, by rw [HD2.out, HCH.out, HDD.out]; simp, by rw [HD2.out, HCH.out, HDD.out]; omega, HO11.out, HL10.out, (fun j hj => by
            by_cases hjb : j = b
            · rw [hjb, HXB.out, HSE.out, HLE.out]; exact HOK2.out
            · rw [HXA.out j (by omega)]; exact HOK.out j (by omega)), HG11.out⟩
          case measure => simp [intOf]; omega
        · refine hK.out _ _ (by (try dsimp only); exact HSS.out w8 hb8) (fun hS' => ?_)
          clear hK K' q0 q1 q2 q3 q4 qw qe
          try simp only [Act.put, List.setIfInBounds_toArray, List.set_cons_zero, List.set_cons_succ]
          have HB8 := hide (HBa.out.drew.trans (hb8.mono HBa.out.drew.size))
          have HNO := hide hno
          clear hoo hno hb8 hmo
          refine tail_take2 9 rfl (by kernel_rfl) (by kernel_rfl) (by kernel_rfl) (by decide) (fun _ _ _ h => h) (by rfl) (v := ?_) ?_ (by assumption) ?_
          rotate_left 1
          · intro w' hS'; obtain ⟨⟨q0, q1, q2, q3, q4⟩, qw, qe⟩ := hS'; go_simp; try with_reducible rfl
          try simp only [Act.put, List.setIfInBounds_toArray, List.set_cons_zero, List.set_cons_succ]
          refine tail_take2 10 rfl (by kernel_rfl) (by kernel_rfl) (by kernel_rfl) (by decide) (fun _ _ _ h => h) (by rfl) (v := ?_) ?_ (by assumption) ?_
          rotate_left 1
          · intro w' hS'; obtain ⟨⟨q0, q1, q2, q3, q4⟩, qw, qe⟩ := hS'; go_simp; try with_reducible rfl
          try simp only [Act.put, List.setIfInBounds_toArray, List.set_cons_zero, List.set_cons_succ]
          refine tail_take2 11 rfl (by kernel_rfl) (by kernel_rfl) (by kernel_rfl) (by decide) (fun _ _ _ h => h) (by rfl) (v := ?_) ?_ (by assumption) ?_
          rotate_left 1
          · intro w' hS'; obtain ⟨⟨q0, q1, q2, q3, q4⟩, qw, qe⟩ := hS'; go_simp; try with_reducible rfl
          try simp only [Act.put, List.setIfInBounds_toArray, List.set_cons_zero, List.set_cons_succ]
          refine tail_take2 12 rfl (by kernel_rfl) (by kernel_rfl) (by kernel_rfl) (by decide) (fun _ _ _ h => h) (by rfl) (v := ?_) ?_ (by assumption) ?_
          rotate_left 1
          · intro w' hS'; obtain ⟨⟨q0, q1, q2, q3, q4⟩, qw, qe⟩ := hS'; go_simp; try with_reducible rfl
          try simp only [Act.put, List.setIfInBounds_toArray, List.set_cons_zero, List.set_cons_succ]
          refine tail_take2 13 rfl (by kernel_rfl) (by kernel_rfl) (by kernel_rfl) (by decide) (fun _ _ _ h => h) (by rfl) (v := ?_) ?_ (by assumption) ?_
          rotate_left 1
          · intro w' hS'; obtain ⟨⟨q0, q1, q2, q3, q4⟩, qw, qe⟩ := hS'; go_simp; try with_reducible rfl
          try simp only [Act.put, List.setIfInBounds_toArray, List.set_cons_zero, List.set_cons_succ]
          refine tail_end (by kernel_rfl) ?_
          go_wp2_with fail
          go_ret3
          exact .inr ⟨⟨b, hlt, by rw [HSE.out, HLE.out]; exact HNO.out⟩, rfl, HXr.out.2.trans (HB8.out.mono (Nat.le_of_lt HXr.out.lt))⟩
      · obtain rfl : b = C := by omega
        have HXr := hide (HX4.out.grow HGR.out (fun r e => by cases e; omega))
        obtain ⟨Ao, co, rfl, hco⟩ := HO.out.form
        have hlo := HO.out
        rw [iv_len] at hlo hco ⊢
        have HLO := hide (hlo.low (base' := w.heap.size) (by omega))
        clear hlo
        go_wp2_with fail
        go_ret3
        exact .inl ⟨X, HOK.out, Ao, co, rfl, hco, HLO.out, HXr.out.2⟩
end Go.Proofs.YtlphodhecaagbaaGreat

namespace Go.Proofs.YtlphodhecaagbaaGreat
open Go.RowKit
set_option linter.unusedSimpArgs false
set_option linter.unusedVariables false

/-- What a function leaves that returns a new list, a number and a code. -/
def NewIKI (r : List Int) (a c : Int) (w : World) (x : Ending) (w' : World) : Prop :=
  ∃ A m, x = .returned (.tuple #[.slice A r.length m, .int .i64 a, .int .i64 c]) ∧ r.length ≤ m ∧ Own w' w.heap.size 2 .i64 (.slice A r.length m) r ∧ Below w.heap.size w w'
theorem newIKI_nil {a c : Int} {w w' : World} (hb : Below w.heap.size w w') : NewIKI [] a c w (.returned (.tuple #[.slice none 0 0, .int .i64 a, .int .i64 c])) w' :=
  ⟨none, 0, rfl, Nat.le_refl _, World.ownsRow_nil _ _ _ _, hb⟩
/-- A function of a layout and two lists, whatever their capacities: its contract. -/
def E3 (f : Nat) (p k g D K C : Int) (z z' : List Int) (Post : World → Ending → World → Prop) : Prop :=
  ∀ (A : Option Addr) (n c : Nat) (A' : Option Addr) (n' c' B : Nat) (w : World), Ints .i64 w B A n z → Ints .i64 w B A' n' z' → z.length ≤ c → z'.length ≤ c' → B ≤ w.heap.size → Calls Tryz.prog f #[.agg #[.int .i64 p, .int .i64 k, .int .i64 g, .int .i64 D, .int .i64 K, .int .i64 C], .slice A n c, .slice A' n' c'] w (Post w)
theorem idxB_pw {l : Nat} {zs : List Int} (h : idxB l zs = true) : zs.Pairwise (· < ·) := by
  obtain ⟨J, rfl, hJ, _⟩ := idx_open h
  unfold nv
  exact List.pairwise_map.2 (hJ.imp fun h => by omega)
theorem okw_uniq {R : Fld} {γ : El R} {l c : Nat} {E : List Nat} {ws a b : List (El R)} (hF : Far γ l) (hw : ws.length = l) (ha : Okw γ l c E ws a) (hb : Okw γ l c E ws b) : a = b := by
  have h1 := ha.2.2; have h2 := hb.2.2
  refine near_same hF (Nat.le_of_eq ha.1) (ha.1.trans hb.1.symm) ha.2.1 hb.2.1 ?_
  have h3 : (difs a b).length ≤ (errs l E ws a ++ errs l E ws b ++ E).length := by
    refine len_le_of_sub (by unfold difs; exact List.Pairwise.filter _ List.nodup_range) fun i hi => ?_
    rw [difs_mem, ha.1] at hi
    simp only [List.mem_append, errs_mem]
    by_cases hE : i ∈ E
    · exact .inr hE
    · by_cases hi1 : cf ws i = cf a i
      · exact .inl (.inr ⟨hi.1, hE, fun e => hi.2 (hi1.symm.trans e)⟩)
      · exact .inl (.inl ⟨hi.1, hE, hi1⟩)
  rw [List.length_append, List.length_append] at h3
  omega
theorem allOk_uniq {R : Fld} {γ : El R} {p k g : Int} {D K C : Nat} (h : LayIs R γ p k g D K C) {es : List Int} {ws : List (El R)} {X Y : Nat → List (El R)} (hX : AllOk γ D C K es ws X) (hY : AllOk γ D C K es ws Y) : ∀ j, j < C → X j = Y j :=
  fun j hj => okw_uniq (h.code j hj).far (wrd_len ws j) (hX j hj) (hY j hj)

set_option maxRecDepth 100000 in
set_option maxHeartbeats 4000000 in
theorem dsI_bad (p k g D K C : Int) (hD : -9223372036854775808 ≤ D ∧ D ≤ 9223372036854775807) (hC : -9223372036854775808 ≤ C ∧ C ≤ 9223372036854775807) (z z' : List Int) (cd : Int) (hz : z.length ≤ 1048576) (hz' : z'.length ≤ 1048576) (h : lErr p k g D K C (stN D K C) z = cd) (hne : (cd != 0) = true) : E3 15 p k g D K C z z' (NewIKI [] 0 cd) := by
  intro A n c A' n' c' B w hI hJ hnc hnc' hB
  have HX := hide (YBox.start w p k g D K C)
  obtain ⟨c0, c1, c2, c3, c4, c5⟩ := HX.out.cells
  have hn : n ≤ 1048576 := by rw [← hI.len]; exact hz
  have hn' : n' ≤ 1048576 := by rw [← hJ.len]; exact hz'
  have HI := hide hI
  have HJ := hide hJ
  clear hI hJ
  have HE := hide h
  clear h
  go_enter Tryz.func15, Tryz.ntmps15
  go_wp2_with fail
  go_region_held3 (fun w' => (w'.cell? ⟨w.heap.size, 0, none⟩ = some (.int .i64 p) ∧ w'.cell? ⟨w.heap.size, 1, none⟩ = some (.int .i64 k) ∧ w'.cell? ⟨w.heap.size, 2, none⟩ = some (.int .i64 g) ∧ w'.cell? ⟨w.heap.size, 3, none⟩ = some (.int .i64 D) ∧ w'.cell? ⟨w.heap.size, 4, none⟩ = some (.int .i64 K) ∧ w'.cell? ⟨w.heap.size, 5, none⟩ = some (.int .i64 C)))
    (first
      | exact HX.out.drew.cells
      | exact HX2.out.cells
      | exact HX9.out.cells)
    (first
      | (go_at_call 41; refine (implStreamLen p k g D K C (stN D K C) rfl _).mono ?_; rintro e w2 ⟨rfl, hb⟩; have HX2 := hide (HX.out.drew.next hb); clear hb)
      | (go_at_call 33; refine (implListErr p k g D K C (stN D K C) hD hC A n c B z _ (HI.out.below (HX2.out.2.mono hB)) (Nat.le_trans hB (Nat.le_of_lt HX2.out.lt)) (by omega)).mono ?_; rw [HE.out]; rintro e w9 ⟨rfl, hb⟩; have HX9 := hide (HX2.out.next hb); clear hb))
  clear c0 c1 c2 c3 c4 c5
  obtain ⟨c0, c1, c2, c3, c4, c5⟩ := HX9.out.cells
  go_wp2_with fail
  go_ret3
  exact newIKI_nil HX9.out.2

set_option maxRecDepth 100000 in
set_option maxHeartbeats 4000000 in
theorem dsI_no {R : Fld} {γ : El R} {p k g : Int} {D K C : Nat} (h : LayIs R γ p k g D K C) (z z' : List Int) (hz : z.length ≤ 1048576) (hz' : z'.length ≤ 1048576) (he : lErr p k g D K C (stN D K C) z = 0) (hm : idxB ((D + C * K : Nat) : Int) z' = false) : E3 15 p k g D K C z z' (NewIKI [] 0 5) := by
  intro A n c A' n' c' B w hI hJ hnc hnc' hB
  have HX := hide (YBox.start w p k g D K C)
  obtain ⟨c0, c1, c2, c3, c4, c5⟩ := HX.out.cells
  have hn : n ≤ 1048576 := by rw [← hI.len]; exact hz
  have hn' : n' ≤ 1048576 := by rw [← hJ.len]; exact hz'
  have HI := hide hI
  have HJ := hide hJ
  clear hI hJ
  have h2 := h.c16; have h4 := h.tot; have h6 := h.d1500
  have HE := hide he
  have hD : -9223372036854775808 ≤ (D : Int) ∧ (D : Int) ≤ 9223372036854775807 := by omega
  have hC : -9223372036854775808 ≤ (C : Int) ∧ (C : Int) ≤ 9223372036854775807 := by omega
  have HT := hide (fun w' => implStreamLen p k g D K C ((D + C * K : Nat) : Int) (stN_is h) w')
  obtain ⟨N, hN⟩ : ∃ N, D + C * K = N := ⟨_, rfl⟩
  rw [hN] at HT h4 hm
  clear he
  go_enter Tryz.func15, Tryz.ntmps15
  go_wp2_with fail
  go_region_held3 (fun w' => (w'.cell? ⟨w.heap.size, 0, none⟩ = some (.int .i64 p) ∧ w'.cell? ⟨w.heap.size, 1, none⟩ = some (.int .i64 k) ∧ w'.cell? ⟨w.heap.size, 2, none⟩ = some (.int .i64 g) ∧ w'.cell? ⟨w.heap.size, 3, none⟩ = some (.int .i64 D) ∧ w'.cell? ⟨w.heap.size, 4, none⟩ = some (.int .i64 K) ∧ w'.cell? ⟨w.heap.size, 5, none⟩ = some (.int .i64 C)))
    (first
      | exact HX.out.drew.cells
      | exact HX2.out.cells
      | exact HX9.out.cells)
    (first
      | (go_at_call 41; refine (implStreamLen p k g D K C (stN D K C) rfl _).mono ?_; rintro e w2 ⟨rfl, hb⟩; have HX2 := hide (HX.out.drew.next hb); clear hb)
      | (go_at_call 33; refine (implListErr p k g D K C (stN D K C) hD hC A n c B z _ (HI.out.below (HX2.out.2.mono hB)) (Nat.le_trans hB (Nat.le_of_lt HX2.out.lt)) (by omega)).mono ?_; rw [HE.out]; rintro e w9 ⟨rfl, hb⟩; have HX9 := hide (HX2.out.next hb); clear hb))
  clear c0 c1 c2 c3 c4 c5
  obtain ⟨c0, c1, c2, c3, c4, c5⟩ := HX9.out.cells
  go_wp2_with fail
  refine (implHasI p k g D K C (N : Int) (by omega) HT.out A' n' c' B z' _ (HJ.out.below (HX9.out.2.mono hB)) (Nat.le_trans hB (Nat.le_of_lt HX9.out.lt)) (by omega)).mono ?_
  rw [hm]
  rintro x w3 ⟨rfl, hb3⟩
  have HX3 := hide (HX9.out.next hb3)
  clear hb3 c0 c1 c2 c3 c4 c5
  obtain ⟨c0, c1, c2, c3, c4, c5⟩ := HX3.out.cells
  go_wp2_with fail
  go_ret3
  exact newIKI_nil HX3.out.2

set_option maxRecDepth 100000 in
set_option maxHeartbeats 4000000 in
theorem dsI_val {R : Fld} {γ : El R} {p k g : Int} {D K C : Nat} (h : LayIs R γ p k g D K C) (ws : List (El R)) (hw : ws.length = D + C * K) (z' : List Int) (hz : (iv ws).length ≤ 1048576) (hz' : z'.length ≤ 1048576) (he : lErr p k g D K C (stN D K C) (iv ws) = 0) (hm : idxB ((D + C * K : Nat) : Int) z' = true) (X : Nat → List (El R)) (hX : AllOk γ D C K z' ws X) : E3 15 p k g D K C (iv ws) z' (NewIKI (iv (datX D C X C)) (chgX D C K ws X C : Nat) 0) := by
  intro A n c A' n' c' B w hI hJ hnc hnc' hB
  have HX := hide (YBox.start w p k g D K C)
  obtain ⟨c0, c1, c2, c3, c4, c5⟩ := HX.out.cells
  have hn : n ≤ 1048576 := by rw [← hI.len]; exact hz
  have hn' : n' ≤ 1048576 := by rw [← hJ.len]; exact hz'
  have HI := hide hI
  have HJ := hide hJ
  clear hI hJ
  have HUQ := hide (fun Y (hY : AllOk γ D C K z' ws Y) => (show datX D C Y C = datX D C X C ∧ chgX D C K ws Y C = chgX D C K ws X C from ⟨datX_congr (allOk_uniq h hY hX), chgX_congr (allOk_uniq h hY hX)⟩))
  have HXX := hide hX
  have HDC := hide (fun (w' : World) (hI' : Ints .i64 w' B A n (iv ws)) (hJ' : Ints .i64 w' B A' n' z') (hB' : B ≤ w'.heap.size) => implDecoded h ws hw z' (idxB_pw hm) A n c A' n' c' B w' hI' hJ' hB' (by omega))
  have h2 := h.c16; have h4 := h.tot; have h6 := h.d1500
  have HE := hide he
  have hD : -9223372036854775808 ≤ (D : Int) ∧ (D : Int) ≤ 9223372036854775807 := by omega
  have hC : -9223372036854775808 ≤ (C : Int) ∧ (C : Int) ≤ 9223372036854775807 := by omega
  have HT := hide (fun w' => implStreamLen p k g D K C ((D + C * K : Nat) : Int) (stN_is h) w')
  obtain ⟨N, hN⟩ : ∃ N, D + C * K = N := ⟨_, rfl⟩
  rw [hN] at HT h4 hm
  clear h hw hX
  clear he
  go_enter Tryz.func15, Tryz.ntmps15
  go_wp2_with fail
  go_region_held3 (fun w' => (w'.cell? ⟨w.heap.size, 0, none⟩ = some (.int .i64 p) ∧ w'.cell? ⟨w.heap.size, 1, none⟩ = some (.int .i64 k) ∧ w'.cell? ⟨w.heap.size, 2, none⟩ = some (.int .i64 g) ∧ w'.cell? ⟨w.heap.size, 3, none⟩ = some (.int .i64 D) ∧ w'.cell? ⟨w.heap.size, 4, none⟩ = some (.int .i64 K) ∧ w'.cell? ⟨w.heap.size, 5, none⟩ = some (.int .i64 C)))
    (first
      | exact HX.out.drew.cells
      | exact HX2.out.cells
      | exact HX9.out.cells)
    (first
      | (go_at_call 41; refine (implStreamLen p k g D K C (stN D K C) rfl _).mono ?_; rintro e w2 ⟨rfl, hb⟩; have HX2 := hide (HX.out.drew.next hb); clear hb)
      | (go_at_call 33; refine (implListErr p k g D K C (stN D K C) hD hC A n c B (iv ws) _ (HI.out.below (HX2.out.2.mono hB)) (Nat.le_trans hB (Nat.le_of_lt HX2.out.lt)) (by omega)).mono ?_; rw [HE.out]; rintro e w9 ⟨rfl, hb⟩; have HX9 := hide (HX2.out.next hb); clear hb))
  clear c0 c1 c2 c3 c4 c5
  obtain ⟨c0, c1, c2, c3, c4, c5⟩ := HX9.out.cells
  go_wp2_with fail
  refine (implHasI p k g D K C (N : Int) (by omega) HT.out A' n' c' B z' _ (HJ.out.below (HX9.out.2.mono hB)) (Nat.le_trans hB (Nat.le_of_lt HX9.out.lt)) (by omega)).mono ?_
  rw [hm]
  rintro x w3 ⟨rfl, hb3⟩
  have HX3 := hide (HX9.out.next hb3)
  clear hb3 c0 c1 c2 c3 c4 c5
  obtain ⟨c0, c1, c2, c3, c4, c5⟩ := HX3.out.cells
  go_wp2_with fail
  refine (HDC.out _ (HI.out.below (HX3.out.2.mono hB)) (HJ.out.below (HX3.out.2.mono hB)) (Nat.le_trans hB (Nat.le_of_lt HX3.out.lt))).mono ?_
  rintro x w4 (⟨Y, hY, A1, m1, rfl, hm1, ho, hb⟩ | ⟨hno, _, _⟩)
  · obtain ⟨hq1, hq2⟩ := HUQ.out Y hY
    rw [hq1] at hm1 ho ⊢
    rw [hq2]
    have HX4 := hide (HX3.out.next hb)
    have HO := hide (ho.low (base' := w.heap.size) (Nat.le_of_lt HX3.out.lt))
    rw [← iv_len] at hm1 HO ⊢
    clear ho hb hq1 hq2 c0 c1 c2 c3 c4 c5
    go_wp2_with fail
    go_ret3
    exact ⟨A1, m1, rfl, hm1, HO.out, HX4.out.2⟩
  · exact absurd hno (ok_bad HXX.out)

set_option maxRecDepth 100000 in
set_option maxHeartbeats 4000000 in
theorem dsI_far {R : Fld} {γ : El R} {p k g : Int} {D K C : Nat} (h : LayIs R γ p k g D K C) (ws : List (El R)) (hw : ws.length = D + C * K) (z' : List Int) (hz : (iv ws).length ≤ 1048576) (hz' : z'.length ≤ 1048576) (he : lErr p k g D K C (stN D K C) (iv ws) = 0) (hm : idxB ((D + C * K : Nat) : Int) z' = true) (hX : SomeBad γ D C K z' ws) : E3 15 p k g D K C (iv ws) z' (NewIKI [] 0 7) := by
  intro A n c A' n' c' B w hI hJ hnc hnc' hB
  have HX := hide (YBox.start w p k g D K C)
  obtain ⟨c0, c1, c2, c3, c4, c5⟩ := HX.out.cells
  have hn : n ≤ 1048576 := by rw [← hI.len]; exact hz
  have hn' : n' ≤ 1048576 := by rw [← hJ.len]; exact hz'
  have HI := hide hI
  have HJ := hide hJ
  clear hI hJ
  have HXX := hide hX
  have HDC := hide (fun (w' : World) (hI' : Ints .i64 w' B A n (iv ws)) (hJ' : Ints .i64 w' B A' n' z') (hB' : B ≤ w'.heap.size) => implDecoded h ws hw z' (idxB_pw hm) A n c A' n' c' B w' hI' hJ' hB' (by omega))
  have h2 := h.c16; have h4 := h.tot; have h6 := h.d1500
  have HE := hide he
  have hD : -9223372036854775808 ≤ (D : Int) ∧ (D : Int) ≤ 9223372036854775807 := by omega
  have hC : -9223372036854775808 ≤ (C : Int) ∧ (C : Int) ≤ 9223372036854775807 := by omega
  have HT := hide (fun w' => implStreamLen p k g D K C ((D + C * K : Nat) : Int) (stN_is h) w')
  obtain ⟨N, hN⟩ : ∃ N, D + C * K = N := ⟨_, rfl⟩
  rw [hN] at HT h4 hm
  clear h hw hX
  clear he
  go_enter Tryz.func15, Tryz.ntmps15
  go_wp2_with fail
  go_region_held3 (fun w' => (w'.cell? ⟨w.heap.size, 0, none⟩ = some (.int .i64 p) ∧ w'.cell? ⟨w.heap.size, 1, none⟩ = some (.int .i64 k) ∧ w'.cell? ⟨w.heap.size, 2, none⟩ = some (.int .i64 g) ∧ w'.cell? ⟨w.heap.size, 3, none⟩ = some (.int .i64 D) ∧ w'.cell? ⟨w.heap.size, 4, none⟩ = some (.int .i64 K) ∧ w'.cell? ⟨w.heap.size, 5, none⟩ = some (.int .i64 C)))
    (first
      | exact HX.out.drew.cells
      | exact HX2.out.cells
      | exact HX9.out.cells)
    (first
      | (go_at_call 41; refine (implStreamLen p k g D K C (stN D K C) rfl _).mono ?_; rintro e w2 ⟨rfl, hb⟩; have HX2 := hide (HX.out.drew.next hb); clear hb)
      | (go_at_call 33; refine (implListErr p k g D K C (stN D K C) hD hC A n c B (iv ws) _ (HI.out.below (HX2.out.2.mono hB)) (Nat.le_trans hB (Nat.le_of_lt HX2.out.lt)) (by omega)).mono ?_; rw [HE.out]; rintro e w9 ⟨rfl, hb⟩; have HX9 := hide (HX2.out.next hb); clear hb))
  clear c0 c1 c2 c3 c4 c5
  obtain ⟨c0, c1, c2, c3, c4, c5⟩ := HX9.out.cells
  go_wp2_with fail
  refine (implHasI p k g D K C (N : Int) (by omega) HT.out A' n' c' B z' _ (HJ.out.below (HX9.out.2.mono hB)) (Nat.le_trans hB (Nat.le_of_lt HX9.out.lt)) (by omega)).mono ?_
  rw [hm]
  rintro x w3 ⟨rfl, hb3⟩
  have HX3 := hide (HX9.out.next hb3)
  clear hb3 c0 c1 c2 c3 c4 c5
  obtain ⟨c0, c1, c2, c3, c4, c5⟩ := HX3.out.cells
  go_wp2_with fail
  refine (HDC.out _ (HI.out.below (HX3.out.2.mono hB)) (HJ.out.below (HX3.out.2.mono hB)) (Nat.le_trans hB (Nat.le_of_lt HX3.out.lt))).mono ?_
  rintro x w4 (⟨Y, hY, _⟩ | ⟨_, rfl, hb⟩)
  · exact absurd HXX.out (ok_bad hY)
  · have HX4 := hide (HX3.out.next hb)
    clear hb c0 c1 c2 c3 c4 c5
    go_wp2_with fail
    go_ret3
    exact newIKI_nil HX4.out.2
end Go.Proofs.YtlphodhecaagbaaGreat
