/-
  The words of a stream, of whatever numbers: the program's split.
  Condition: the layout has one block at least, and its numbers are small.
-/
import Derived.Test.YtlphodhecaagbaaGreatLay5
import Derived.Test.YtlphodhecaagbaaGreatTail2
import Derived.Deep.Onto
namespace Go.Proofs.YtlphodhecaagbaaGreat
open Go Go.RowKit
set_option linter.unusedSimpArgs false
set_option linter.unusedVariables false
attribute [local go_sem] Oper.semAt_some

/-- The word of a block of a stream of numbers. -/
def wrdZ (D C K : Nat) (zs : List Int) (k : Nat) : List Int := (List.range (lsz D C k + K)).map fun e => zs.getD (sidx D C k e) 0
theorem wrdZ_len (D C K : Nat) (zs : List Int) (k : Nat) : (wrdZ D C K zs k).length = lsz D C k + K := by unfold wrdZ; rw [List.length_map, List.length_range]
/-- The numbers that have come to a block. -/
def accZ {N : Nat} (D C : Nat) (zs : List Int) (pre : List (Fin N)) (k : Nat) : List Int := (pre.filter fun x => decide ((pairOf D C x.val).1 = k)).map fun x => zs.getD x.val 0
theorem accZ_nil {N : Nat} (D C : Nat) (zs : List Int) (k : Nat) : accZ (N := N) D C zs [] k = [] := rfl
theorem accZ_yes {N D C : Nat} {zs : List Int} {pre : List (Fin N)} {x : Fin N} {k : Nat} (h : (pairOf D C x.val).1 = k) : accZ D C zs (pre ++ [x]) k = accZ D C zs pre k ++ [zs.getD x.val 0] := by
  unfold accZ; rw [List.filter_append, List.map_append]; simp [h]
theorem accZ_no {N D C : Nat} {zs : List Int} {pre : List (Fin N)} {x : Fin N} {k : Nat} (h : (pairOf D C x.val).1 ≠ k) : accZ D C zs (pre ++ [x]) k = accZ D C zs pre k := by
  unfold accZ; rw [List.filter_append, List.map_append]; simp [h]
theorem accZ_len {N D C : Nat} (zs : List Int) (pre : List (Fin N)) (k : Nat) : (accZ D C zs pre k).length ≤ pre.length := by
  unfold accZ; rw [List.length_map]; exact List.length_filter_le _ _
theorem blk_filter {D C k : Nat} (hC : 0 < C) (hk : k < C) : ∀ i, (List.range i).filter (fun j => decide ((pairOf D C j).1 = k)) = (List.range (ecnt D C k i)).map (sidx D C k)
  | 0 => rfl
  | i + 1 => by
    rw [List.range_succ, List.filter_append, blk_filter hC hk i]
    by_cases hb : (pairOf D C i).1 = k
    · have hp := sidx_pair (D := D) hC i
      rw [hb] at hp
      rw [ecnt_yes hb, List.range_succ, List.map_append, ecnt_at hC hb]
      simp [hb, hp]
    · rw [ecnt_no hb]; simp [hb]
theorem finRange_val (N : Nat) : (List.finRange N).map (fun x => x.val) = List.range N := by
  apply List.ext_getElem
  · simp
  · intro i h1 h2; simp
theorem accZ_all {D C K k : Nat} (hC : 0 < C) (hk : k < C) (zs : List Int) : accZ D C zs (List.finRange (D + C * K)) k = wrdZ D C K zs k := by
  have h1 : ((List.finRange (D + C * K)).filter fun x => decide ((pairOf D C x.val).1 = k)).map (fun x => x.val) = (List.range (lsz D C k + K)).map (sidx D C k) := by
    rw [← ecnt_all (D := D) (K := K) hk, ← blk_filter hC hk, ← finRange_val, List.filter_map]
    rfl
  unfold accZ wrdZ
  rw [show (fun x : Fin (D + C * K) => zs.getD x.val 0) = (fun j : Nat => zs.getD j 0) ∘ (fun x : Fin (D + C * K) => x.val) from rfl, ← List.map_map, h1, List.map_map]
  rfl

/-- A block of another type than a row's. -/
theorem type_ne {W : World} {b : Nat} {cs : Array Value} {t e : TypeId} {f : Nat × Nat} {base size n : Nat} {v : Value} {xs : List Value} (hb : W.heap[b]? = some (.cells cs t f)) (hte : t ≠ e) (ho : W.ownsRow base e size v n xs) : v.ownBlock ≠ some b := by
  rcases ho.2 with ⟨rfl, _⟩ | ⟨g, cap, cur, rfl, _, hgb, _⟩
  · simp [Value.ownBlock]
  · intro e'
    obtain rfl : g = b := by simpa [Value.ownBlock] using e'
    rw [hb] at hgb
    simp only [Option.some.injEq, Obj.cells.injEq] at hgb
    exact hte hgb.2.1
theorem grown_row {W W' : World} {b : Nat} {o : Obj} {row : Option Nat} (hg : W.grownBy W' row) (hb : W.heap[b]? = some o) (hne : row ≠ some b) : W'.heap[b]? = some o :=
  (hg.block b (Array.getElem?_eq_some_iff.1 hb).1 (Ne.symm hne)).trans hb

/-- append(v, y) as an operation, and where the new slice lies. -/
theorem wp_app1L {P : Program} (w : World) {o : Oper} {a : Act} {K : Act → World → Prop} {Q : Exit → Act → World → Prop} (s x : Operand) (t : TypeId)
    (ho : o.op = .call { callee := .builtin .append, args := #[s, x], argTypes := #[t, t] }) {e : TypeId} {k : IntKind} {bytes : Nat} (E : IsElem P t e k bytes)
    (base : Nat) (v : Value) (zs : List Int) (hs : a.eval s = v) (hown : Own w base e k v zs) (y : Int) (hx : a.eval x = .slice (some ⟨w.heap.size, 0, none⟩) 1 1)
    (hlen : (zs.length + 1) * 8 ≤ 140737488355328) (hbase : base ≤ w.heap.size)
    (h : ∀ b cap w', Own w' base e k (.slice (some ⟨b, 0, none⟩) (zs.length + 1) cap) (zs ++ [y]) → w.grownBy w' v.ownBlock → (v.ownBlock = some b ∨ b = w.heap.size + 1) → K (a.put o.dst (.slice (some ⟨b, 0, none⟩) (zs.length + 1) cap)) w') : o.wp P a (w.alloc (.cells #[.int k y] e)) K Q := by
  obtain ⟨i, hi, hz0, hz1, hz2⟩ := info_parts E.info
  have hby : (zs.length + 1) * bytes ≤ 140737488355328 := Nat.le_trans (Nat.mul_le_mul_left _ E.small) hlen
  refine wp_append_lies (w := w.alloc (.cells #[.int k y] e)) s x t ho base e i (.int k 0) 1 bytes E.under hi hz0 hz1 hz2 rfl (by decide) v zs.length (zs.map (Value.int k)) hs (hown.alloc _) ⟨w.heap.size, 0, none⟩ 1 1 [.int k y] hx rfl (fun j u hu => ?_) (ints_oneCell k [y]) (by decide) (by simp only [maxLen]; omega) hby (by rw [alloc_size]; omega) (w.heap.size + 1) (alloc_size _ _) fun b cap w' h2 h3 h4 _ => ?_
  · have hj : j = 0 := by
      have := (List.getElem?_eq_some_iff.1 hu).1
      simp at this; exact this
    subst hj
    simp only [List.getElem?_cons_zero, Option.some.injEq] at hu
    subst hu
    rw [addr_add, World.cell?_alloc_at _ _ _ _ rfl]; rfl
  · exact h b cap w' (Own.intro h2 (by simp) (by simp)) (grown_trans (World.grownBy_alloc w _ _) h3) h4

theorem cell_up {w : World} {a : Addr} {v : Value} (h : w.cell? a = some v) (o : Obj) : (w.alloc o).cell? a = some v := by
  rw [World.cell?_of_block (heap_alloc_old w o (World.block_lt_of_cell? w a h))]; exact h
theorem frozen_grown {W W' : World} {b : Nat} {row : Option Nat} (hg : W.grownBy W' row) (hb : b < W.heap.size) (hne : row ≠ some b) (j : Nat) : W'.frozen? ⟨b, j, none⟩ = W.frozen? ⟨b, j, none⟩ :=
  World.frozen?_of_block (hg.block b hb (Ne.symm hne))

theorem size_set (w : World) (a : Addr) (v : Value) : (w.setCell a v).heap.size = w.heap.size := by simp [World.setCell]

/-- What split holds while it goes through the order. -/
structure SpI (w : World) (gX : Nat) (p k g : Int) (D K C Bn n c : Nat) (A : Option Addr) (Z : Nat → List Int) (W : World) : Prop where
  strm : W.heap[w.heap.size + 1]? = some (.cells #[.slice A n c] 28 (0, 0))
  box : W.heap[gX]? = some (.cells #[.slice (some ⟨w.heap.size + 1 + 1, 0, none⟩) C C] 65 (0, 0))
  mat : ∃ vs, Mat W (w.heap.size + 1 + 1) (.slice (some ⟨w.heap.size + 1 + 1, 0, none⟩) C C) C vs Z
  lay : YRow W Bn p k g D K C
  bel : Below w.heap.size w W
theorem SpI.turn {w W W' : World} {p k g : Int} {gX D K C Bn n c B : Nat} {A : Option Addr} {Z : Nat → List Int} (h : SpI w gX p k g D K C Bn n c A Z W) (ht : Turn B W W') (hB : w.heap.size ≤ B) : SpI w gX p k g D K C Bn n c A Z W' :=
  ⟨ht.row h.strm, ht.row h.box, h.mat.imp fun vs hm => ht.mat hm, ht.row h.lay, ht.below h.bel (Nat.le_refl _) hB⟩
/-- A new slice of slices. -/
def NewSS (n : Nat) (Z : Nat → List Int) (w : World) (x : Ending) (w' : World) : Prop := ∃ v vs, x = .returned v ∧ Mat w' (w.heap.size + 1) v n vs Z ∧ Below w.heap.size w w'
theorem Mat.low {w : World} {base base' : Nat} {v : Value} {n : Nat} {vs : List Value} {Z : Nat → List Int} (h : Mat w base v n vs Z) (hb : base' ≤ base) : Mat w base' v n vs Z :=
  ⟨World.ownsRow.mono h.row hb, ⟨fun k u hu => World.ownsRow.mono (h.rows.own k u hu) hb, h.rows.dis⟩, h.out⟩
theorem mat_made (w : World) (base n : Nat) (h : w.ownsRow base 28 1 (.slice (some ⟨base, 0, none⟩) n n) n (madeCells (Value.cells (.slice none 0 0)) (n * 1)).toList) : Mat w base (.slice (some ⟨base, 0, none⟩) n n) n (List.replicate n (.slice none 0 0)) (fun _ => []) := by
  have hz : ∀ (k : Nat) (u : Value), (List.replicate n (Value.slice none 0 0))[k]? = some u → u = .slice none 0 0 := by
    intro k u hu
    rw [List.getElem?_replicate] at hu
    split at hu
    · injection hu with hu; exact hu.symm
    · cases hu
  refine ⟨?_, ⟨fun k u hu => ?_, fun j k u v hu hv _ => ?_⟩, fun k u hu => ?_⟩
  · rw [Nat.mul_one] at h
    have : (madeCells (Value.cells (.slice none 0 0)) n).toList = List.replicate n (Value.slice none 0 0) := toList_madeCells_one _ _
    rw [this] at h
    exact h
  · rw [hz k u hu]; exact World.ownsRow_nil _ _ _ _
  · rw [hz j u hu]; exact .inl rfl
  · rw [hz k u hu]; exact ⟨.inl rfl, .inr (by simp [Value.ownBlock])⟩

set_option maxRecDepth 100000 in
set_option maxHeartbeats 4000000 in
theorem implSplit {R : Fld} {γ : El R} {p k g : Int} {D K C : Nat} (h : LayIs R γ p k g D K C) (A : Option Addr) (n c B : Nat) (zs : List Int) (w : World) (hI : Ints .i64 w B A n zs) (hB : B ≤ w.heap.size) (hn : n = D + C * K) :
    Calls Tryz.prog 68 #[.agg #[.int .i64 p, .int .i64 k, .int .i64 g, .int .i64 D, .int .i64 K, .int .i64 C], .slice A n c] w (NewSS C (wrdZ D C K zs) w) := by
  have h1 := h.c1; have h2 := h.c16; have h3 := h.cd; have h4 := h.tot; have h5 := h.k1; have h6 := h.d1500
  have HI := hide hI
  have HN := hide hn
  clear h hI
  obtain ⟨w0, hw0⟩ : ∃ w0, w0 = (w.alloc (.cells #[.int .i64 p, .int .i64 k, .int .i64 g, .int .i64 D, .int .i64 K, .int .i64 C] 27)).alloc (.cells #[.slice A n c] 28) := ⟨_, rfl⟩
  have hs0 : w0.heap.size = w.heap.size + 1 + 1 := by rw [hw0, alloc_size, alloc_size]
  have r1 : w0.heap[w.heap.size]? = some (.cells #[.int .i64 p, .int .i64 k, .int .i64 g, .int .i64 D, .int .i64 K, .int .i64 C] 27 (0, 0)) := by rw [hw0]; exact row_old (heap_alloc_new w _) _
  have r2 : w0.heap[w.heap.size + 1]? = some (.cells #[.slice A n c] 28 (0, 0)) := by
    rw [hw0]; have h1 := heap_alloc_new (w.alloc (.cells #[.int .i64 p, .int .i64 k, .int .i64 g, .int .i64 D, .int .i64 K, .int .i64 C] 27)) (.cells #[.slice A n c] 28); rw [alloc_size] at h1; exact h1
  have rb : Below w.heap.size w w0 := by rw [hw0]; exact ((Below.refl _ _).alloc (Nat.le_refl _) _).alloc (by rw [alloc_size]; omega) _
  obtain ⟨ti, hi, hz0, hz1, hz2⟩ := info_parts elemSS
  obtain ⟨w1, hrun, ho, hg⟩ := run_make_full (P := Tryz.prog) w0 (w.heap.size + 1 + 1) 65 28 ti _ 1 Tryz.underlying65 hi hz0 hz1 .i64 .i64 C (by rw [hz2]; omega) (by simp only [maxLen]; omega) (by omega)
  rw [hs0] at hrun ho
  have hm := mat_made w1 (w.heap.size + 1 + 1) C ho
  have hb1 : Below w0.heap.size w0 w1 := (Below.refl w0.heap.size w0).grown hg (Nat.le_refl _) (by simp)
  have hs1 : w.heap.size + 1 + 1 < w1.heap.size := (World.ownsRow.lt hm.row _ rfl).2
  have HM := hide hm
  have hR1 : w1.heap[w.heap.size]? = _ := (hb1.block _ (by omega)).trans r1
  have hR2 : w1.heap[w.heap.size + 1]? = _ := (hb1.block _ (by omega)).trans r2
  have HR1 := hide hR1
  have HR2 := hide hR2
  have HB1 := hide (rb.trans (hb1.mono (by omega)))
  have HW := hide hw0
  rw [hw0] at hrun
  have hrun' := hrun
  clear ho hg hrun hw0 hi hz0 hz1 hz2 hm hb1 rb r1 r2 hR1 hR2 HW hn
  have hrun := hrun'
  clear hrun'
  obtain ⟨c0, c1, c2, c3, c4, c5⟩ := YRow.cells (W := w1.alloc (.cells #[.slice (some ⟨w.heap.size + 1 + 1, 0, none⟩) C C] 65)) (b := w.heap.size) (p := p) (k := k) (g := g) (D := D) (K := K) (C := C) (row_old HR1.out _)
  refine (callsIn_wide (n := 6)).1 ?_
  refine callsIn_of_wp_marks Tryz.func68 rfl trivial ?_ rfl
  simp only [Tryz.ntmps68, List.size_toArray, List.length_cons, List.length_nil, Nat.reduceAdd, Nat.reduceSub, Array.replicate_succ, Array.replicate_zero, List.push_toArray, List.append_toArray, List.nil_append, List.cons_append]
  gi_wp2_with fail
  refine ⟨trivial, (callsIn_wide.2 (implOrder p k g D K C (w1.alloc (.cells #[.slice (some ⟨w.heap.size + 1 + 1, 0, none⟩) C C] 65)))).mono ?_⟩
  rintro x w3 ⟨rfl, hw3⟩
  rw [alloc_size]
  have hs3 : w3.heap.size = w1.heap.size + 1 + 1 := by rw [hw3, alloc_size, alloc_size]
  have HSP := hide (show SpI w w1.heap.size p k g D K C (w1.heap.size + 1) n c A (accZ (N := D + C * K) D C zs []) w3 from by
    rw [hw3]
    refine ⟨row_old (row_old HR2.out _) _, row_old (heap_alloc_new w1 _) _, ⟨_, (HM.out.alloc _).alloc _⟩, ?_, (HB1.out.alloc (by omega) _).alloc (by rw [alloc_size]; omega) _⟩
    have h1 := heap_alloc_new (w1.alloc (.cells #[.slice (some ⟨w.heap.size + 1 + 1, 0, none⟩) C C] 65)) (.cells #[.int .i64 p, .int .i64 k, .int .i64 g, .int .i64 D, .int .i64 K, .int .i64 C] 27)
    rw [alloc_size] at h1
    exact h1)
  clear hw3 hrun c0 c1 c2 c3 c4 c5 HM HR1 HR2 HB1
  gi_wp2_with fail
  refine range_order h1 h2 h3 (by omega) h4 HSP.out.lay (by omega) rfl rfl
    (fun pre W => SpI w w1.heap.size p k g D K C (w1.heap.size + 1) n c A (accZ D C zs pre) W ∧ w3.heap.size ≤ W.heap.size)
    (fun _ _ _ => False) (fun s W h => h.2) (fun s W W' h ht => ⟨h.1.turn ht (by omega), Nat.le_trans h.2 ht.size⟩) (fun c s W W' h ht => h) ⟨HSP.out, Nat.le_refl _⟩
    (fun x Bx => { tmps := #[.agg #[.int .i64 p, .int .i64 k, .int .i64 g, .int .i64 D, .int .i64 K, .int .i64 C], .slice A n c, .pointer (some ⟨w.heap.size, 0, none⟩), .pointer (some ⟨w.heap.size + 1, 0, none⟩), .slice none 0 0, .pointer (some ⟨w1.heap.size, 0, none⟩), .int .i64 (x.val : Nat), .pointer (some ⟨Bx, 0, none⟩), .pointer (some ⟨w.heap.size, 5, none⟩), .int .i64 C, .slice (some ⟨w.heap.size + 1 + 1, 0, none⟩) C C, .agg #[.int .i64 p, .int .i64 k, .int .i64 g, .int .i64 D, .int .i64 K, .int .i64 C], .func (.func 92) #[] #[.pointer (some ⟨w1.heap.size + 1, 0, none⟩)], .int .i64 (x.val : Nat), .agg #[.int .i64 ((pairOf D C x.val).1 : Nat), .int .i64 ((pairOf D C x.val).2 : Nat)], undef, undef, undef, undef, undef, undef, undef, undef, undef, undef, undef, undef, undef, undef, undef, undef], defers := [] }) ?assign ?body ?done ?stop
  case assign =>
    intro l x W K' hK'
    gi_wp2_with fail
    exact hK'
  case body =>
    rintro l pre x W Bx hBx hE ⟨hsp, hsz⟩ hlen
    have HSW := hide hsp
    have HE := hide hE
    obtain ⟨d0, d1⟩ := hE.cells
    -- SPLIT BODY
    have hpk := pair_lt (D := D) h1 x.val
    obtain ⟨vs, hm⟩ := hsp.mat
    obtain ⟨Ar, mr, hvs, hrc, hro, hmr⟩ := hm.at_ hpk
    obtain ⟨px, hpx⟩ : ∃ q, (pairOf D C x.val).1 = q := ⟨_, rfl⟩
    obtain ⟨py, hpy⟩ : ∃ q, (pairOf D C x.val).2 = q := ⟨_, rfl⟩
    have HPX := hide hpx
    rw [hpx] at hpk d0 hvs hrc hro
    have hE' : ERow W Bx px py := by rw [← hpx, ← hpy]; exact hE
    obtain ⟨sb, so, z, hA, hsb, hz, hsc⟩ := ((HI.out.below (hsp.bel.mono hB))).at_ (j := x.val) (by rw [HN.out]; exact x.isLt)
    subst hA
    have hzd : zs.getD x.val 0 = z := by rw [List.getD_eq_getElem?_getD, hz]; rfl
    have hal : (accZ D C zs pre px).length ≤ 100000 := by have := accZ_len (D := D) (C := C) zs pre px; omega
    obtain ⟨zr, hzr⟩ : ∃ zr, accZ D C zs pre px = zr := ⟨_, rfl⟩
    rw [hzr] at hvs hrc hro hal
    have HZ := hide (show ∀ i, accZ D C zs (pre ++ [x]) i = if i = px then zr ++ [z] else accZ D C zs pre i from fun i => by
      by_cases hi : i = px
      · subst hi; rw [if_pos rfl, accZ_yes hpx, hzr, hzd]
      · rw [if_neg hi, accZ_no (by rw [hpx]; exact Ne.symm hi)])
    have n1 := type_ne hsp.box (by decide) hro
    have n2 := type_ne hE' (by decide) hro
    have n3 := type_ne hsp.strm (by decide) hro
    have n4 : (Value.slice Ar zr.length mr).ownBlock ≠ some (w.heap.size + 1 + 1) := by
      rcases (hm.out px _ hvs).1 with hh | hh
      · rw [hh]; simp
      · exact hh
    have n5 : (Value.slice Ar zr.length mr).ownBlock ≠ some sb := fun e => by have := (hro.lt e).1; omega
    have n6 := type_ne hsp.lay (by decide) hro
    obtain ⟨cb, _⟩ := one_cell hsp.box
    obtain ⟨cs, _⟩ := one_cell hsp.strm
    have HM := hide hm
    have HVS := hide hvs
    have HRO := hide hro
    have l1 : w1.heap.size < W.heap.size := (Array.getElem?_eq_some_iff.1 hsp.box).1
    have l2 : Bx < W.heap.size := hE'.lt
    have l3 : w.heap.size + 1 < W.heap.size := (Array.getElem?_eq_some_iff.1 hsp.strm).1
    have l4 : w.heap.size + 1 + 1 < W.heap.size := (World.ownsRow.lt hm.row _ rfl).2
    have l6 : w1.heap.size + 1 < W.heap.size := (Array.getElem?_eq_some_iff.1 hsp.lay).1
    have hsb' : sb < W.heap.size := by omega
    have HF := hide (World.ownsRow.frozenAt hm.row px)
    simp only [hpx, hpy]
    clear hzr hzd hz hpx hpy hm hsp hE hE' hvs hro d1
    gi_wp2_with fail
    refine round_begin (fun w' => w'.cell? ⟨w1.heap.size, 0, none⟩ = some (.slice (some ⟨w.heap.size + 1 + 1, 0, none⟩) C C) ∧ w'.cell? ⟨Bx, 0, none⟩ = some (.int .i64 px) ∧ w'.cell? ⟨w.heap.size + 1 + 1, px, none⟩ = some (.slice Ar zr.length mr) ∧ w'.cell? ⟨w.heap.size + 1, 0, none⟩ = some (.slice (some ⟨sb, so, none⟩) n c) ∧ w'.cell? ⟨sb, so + x.val, none⟩ = some (.int .i64 z)) 15 (by kernel_rfl) (by kernel_rfl) (by rintro ⟨_, _, hq⟩; exact hq) ⟨cb, d0, hrc, cs, hsc⟩ (fun hS' => ?_)
    clear cb d0 hrc cs hsc
    have hxn : x.val < n := by rw [HN.out]; exact x.isLt
    refine tail_take 0 rfl (by kernel_rfl) (by kernel_rfl) (by kernel_rfl) (by kernel_rfl) (fun _ _ _ h => h) (by rfl) (v := ?_) ?_ (by assumption) ?_
    rotate_left 1
    · intro w' hS'; obtain ⟨q0, q1, q2, q3, q4⟩ := hS'; go_simp; try with_reducible rfl
    try simp only [Act.put, List.setIfInBounds_toArray, List.set_cons_zero, List.set_cons_succ]
    refine tail_take 1 rfl (by kernel_rfl) (by kernel_rfl) (by kernel_rfl) (by kernel_rfl) (fun _ _ _ h => h) (by rfl) (v := ?_) ?_ (by assumption) ?_
    rotate_left 1
    · intro w' hS'; obtain ⟨q0, q1, q2, q3, q4⟩ := hS'; go_simp; try with_reducible rfl
    try simp only [Act.put, List.setIfInBounds_toArray, List.set_cons_zero, List.set_cons_succ]
    refine tail_take 2 rfl (by kernel_rfl) (by kernel_rfl) (by kernel_rfl) (by kernel_rfl) (fun _ _ _ h => h) (by rfl) (v := ?_) ?_ (by assumption) ?_
    rotate_left 1
    · intro w' hS'; obtain ⟨q0, q1, q2, q3, q4⟩ := hS'; go_simp; try with_reducible rfl
    try simp only [Act.put, List.setIfInBounds_toArray, List.set_cons_zero, List.set_cons_succ]
    refine tail_take 3 rfl (by kernel_rfl) (by kernel_rfl) (by kernel_rfl) (by kernel_rfl) (fun _ _ _ h => h) (by rfl) (v := ?_) ?_ (by assumption) ?_
    rotate_left 1
    · intro w' hS'; obtain ⟨q0, q1, q2, q3, q4⟩ := hS'; go_simp; try with_reducible rfl
    try simp only [Act.put, List.setIfInBounds_toArray, List.set_cons_zero, List.set_cons_succ]
    refine tail_take 4 rfl (by kernel_rfl) (by kernel_rfl) (by kernel_rfl) (by kernel_rfl) (fun _ _ _ h => h) (by rfl) (v := ?_) ?_ (by assumption) ?_
    rotate_left 1
    · intro w' hS'; obtain ⟨q0, q1, q2, q3, q4⟩ := hS'; go_simp; try with_reducible rfl
    try simp only [Act.put, List.setIfInBounds_toArray, List.set_cons_zero, List.set_cons_succ]
    refine tail_take 5 rfl (by kernel_rfl) (by kernel_rfl) (by kernel_rfl) (by kernel_rfl) (fun _ _ _ h => h) (by rfl) (v := ?_) ?_ (by assumption) ?_
    rotate_left 1
    · intro w' hS'; obtain ⟨q0, q1, q2, q3, q4⟩ := hS'; go_simp; try with_reducible rfl
    try simp only [Act.put, List.setIfInBounds_toArray, List.set_cons_zero, List.set_cons_succ]
    refine tail_take 6 rfl (by kernel_rfl) (by kernel_rfl) (by kernel_rfl) (by kernel_rfl) (fun _ _ _ h => h) (by rfl) (v := ?_) ?_ (by assumption) ?_
    rotate_left 1
    · intro w' hS'; obtain ⟨q0, q1, q2, q3, q4⟩ := hS'; go_simp; try with_reducible rfl
    try simp only [Act.put, List.setIfInBounds_toArray, List.set_cons_zero, List.set_cons_succ]
    refine tail_take 7 rfl (by kernel_rfl) (by kernel_rfl) (by kernel_rfl) (by kernel_rfl) (fun _ _ _ h => h) (by rfl) (v := ?_) ?_ (by assumption) ?_
    rotate_left 1
    · intro w' hS'; obtain ⟨q0, q1, q2, q3, q4⟩ := hS'; go_simp; try with_reducible rfl
    try simp only [Act.put, List.setIfInBounds_toArray, List.set_cons_zero, List.set_cons_succ]
    refine tail_take 8 rfl (by kernel_rfl) (by kernel_rfl) (by kernel_rfl) (by kernel_rfl) (fun _ _ _ h => h) (by rfl) (v := ?_) ?_ (by assumption) ?_
    rotate_left 1
    · intro w' hS'; obtain ⟨q0, q1, q2, q3, q4⟩ := hS'; go_simp; try with_reducible rfl
    try simp only [Act.put, List.setIfInBounds_toArray, List.set_cons_zero, List.set_cons_succ]
    refine tail_take 9 rfl (by kernel_rfl) (by kernel_rfl) (by kernel_rfl) (by kernel_rfl) (fun _ _ _ h => h) (by rfl) (v := ?_) ?_ (by assumption) ?_
    rotate_left 1
    · intro w' hS'; obtain ⟨q0, q1, q2, q3, q4⟩ := hS'; go_simp; try with_reducible rfl
    try simp only [Act.put, List.setIfInBounds_toArray, List.set_cons_zero, List.set_cons_succ]
    refine tail_take 10 rfl (by kernel_rfl) (by kernel_rfl) (by kernel_rfl) (by kernel_rfl) (fun _ _ _ h => h) (by rfl) (v := ?_) ?_ (by assumption) ?_
    rotate_left 1
    · intro w' hS'; obtain ⟨q0, q1, q2, q3, q4⟩ := hS'; go_simp; try with_reducible rfl
    try simp only [Act.put, List.setIfInBounds_toArray, List.set_cons_zero, List.set_cons_succ]
    refine tail_take 11 rfl (by kernel_rfl) (by kernel_rfl) (by kernel_rfl) (by kernel_rfl) (fun _ _ _ h => h) (by rfl) (v := ?_) ?_ (by assumption) ?_
    rotate_left 1
    · intro w' hS'; obtain ⟨q0, q1, q2, q3, q4⟩ := hS'; go_simp; try with_reducible rfl
    try simp only [Act.put, List.setIfInBounds_toArray, List.set_cons_zero, List.set_cons_succ]
    refine tail_call 12 rfl (by kernel_rfl) rfl (fun K hK => ?_)
    go_simp
    obtain ⟨q0, q1, q2, q3, q4⟩ := hS'
    refine hK.out _ _ (by (try dsimp only); exact ⟨cell_up q0 _, cell_up q1 _, cell_up q2 _, cell_up q3 _, cell_up q4 _⟩) (fun hS' => ?_)
    clear hK K
    try simp only [Act.put, List.setIfInBounds_toArray, List.set_cons_zero, List.set_cons_succ]
    refine tail_call 13 rfl (by kernel_rfl) rfl (fun K hK => ?_)
    refine wp_app1L W.drew _ _ _ rfl elem64 (w.heap.size + 1 + 1) (.slice Ar zr.length mr) zr rfl HRO.out z rfl (by omega) (Nat.le_of_lt l4) ?_
    intro b cap w4 ho4 hg4 hl4
    have HG4 := hide (show W.grownBy w4 (Value.slice Ar zr.length mr).ownBlock from ⟨hg4.os, hg4.tape, hg4.output, hg4.size, hg4.block⟩)
    have k0 := grown_cell HG4.out (p := ⟨w1.heap.size, 0, none⟩) l1 n1
    have k1 := grown_cell HG4.out (p := ⟨Bx, 0, none⟩) l2 n2
    have k2 := grown_cell HG4.out (p := ⟨w.heap.size + 1 + 1, px, none⟩) l4 n4
    have k3 := grown_cell HG4.out (p := ⟨w.heap.size + 1, 0, none⟩) l3 n3
    have k4 := grown_cell HG4.out (p := ⟨sb, so + x.val, none⟩) hsb' n5
    have HO4 := hide ho4
    have HL4 := hide hl4
    clear ho4 hg4 hl4
    refine hK.out _ _ ⟨k0.trans q0, k1.trans q1, k2.trans q2, k3.trans q3, k4.trans q4⟩ (fun hS' => ?_)
    clear hK K k0 k1 k2 k3 k4 q0 q1 q2 q3 q4
    try simp only [Act.put, List.setIfInBounds_toArray, List.set_cons_zero, List.set_cons_succ]
    refine tail_take 14 rfl (by kernel_rfl) (by kernel_rfl) (by kernel_rfl) (by kernel_rfl) (fun _ _ _ h => h) (by rfl) (v := ?_) ?_ (by assumption) ?_
    rotate_left 1
    · intro w' hS'; obtain ⟨q0, q1, q2, q3, q4⟩ := hS'; go_simp; try with_reducible rfl
    try simp only [Act.put, List.setIfInBounds_toArray, List.set_cons_zero, List.set_cons_succ]
    have hf4 := (frozen_grown HG4.out l4 n4 px).trans HF.out
    obtain ⟨q0, q1, q2, q3, q4⟩ := hS'
    refine tail_last 15 rfl (by kernel_rfl) (by kernel_rfl) rfl rfl (fun K hK => ?_)
    go_simp
    refine hK.out _ _ ?_
    clear hK K
    try simp only [Act.put, List.setIfInBounds_toArray, List.set_cons_zero, List.set_cons_succ]
    clear q0 q1 q2 q3 q4 hf4
    obtain ⟨hm5, hg5⟩ := HM.out.put HVS.out HG4.out HO4.out (by
      rcases HL4.out with hh | hh
      · exact .inr (.inl hh.symm)
      · exact .inr (.inr ⟨b, rfl, by rw [hh]; exact Nat.le_succ _⟩))
    have hsp := HSW.out
    have hb5 : Below w.heap.size w (w4.setCell ⟨w.heap.size + 1 + 1, px, none⟩ (.slice (some ⟨b, 0, none⟩) (zr.length + 1) cap)) := (hsp.bel.grown HG4.out hsp.bel.size (fun r e => by have := (HRO.out.lt e).1; omega)).setCell (by show w.heap.size ≤ w.heap.size + 1 + 1; omega) _
    refine And.intro ((keeps_owned HG4.out HRO.out).trans ((KeepsOthers.setCell _ _ _).from _)) (And.intro ?_ (And.intro (SpI.mk (row_set (grown_row HG4.out hsp.strm n3) (by omega)) (row_set (grown_row HG4.out hsp.box n1) (by omega)) ⟨_, hm5.congr fun i _ => HZ.out i⟩ (row_set (grown_row HG4.out hsp.lay n6) (by omega)) hb5) ?_))
    · show (w4.setCell ⟨w.heap.size + 1 + 1, px, none⟩ _).heap[w1.heap.size + 1]? = W.heap[w1.heap.size + 1]?
      rw [heap_setCell_other w4 ⟨w.heap.size + 1 + 1, px, none⟩ (w1.heap.size + 1) _ (by show w1.heap.size + 1 ≠ w.heap.size + 1 + 1; omega)]
      exact HG4.out.block _ l6 (Ne.symm n6)
    · have := HG4.out.size
      show _ ≤ (World.setCell _ _ _).heap.size
      rw [size_set]
      omega
  case done =>
    rintro Dd W hDd ⟨hsp, hsz⟩ hK
    have HSW := hide hsp
    obtain ⟨cx, _⟩ := one_cell hsp.box
    clear hsp
    gi_wp2_with fail
    refine ⟨by simp, .inl ⟨_, _, rfl, run_takeDeferred hK, ?_⟩⟩
    have ht : Turn w3.heap.size W _ := turn_put (.deferred none) hK rfl hDd
    have hsp2 := HSW.out.turn ht (by omega)
    obtain ⟨vs, hm⟩ := hsp2.mat
    refine ⟨_, results_tmp rfl _ _ _, _, vs, rfl, (hm.low (by omega)).congr fun i hi => (accZ_all h1 hi zs).symm, hsp2.bel⟩
  case stop =>
    rintro Dd c pre W hDd hpre h hK
    exact h.elim
end Go.Proofs.YtlphodhecaagbaaGreat
