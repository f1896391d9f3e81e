/-
  The stream of some data, as the program encodes it.
  Condition: the layout is valid.
-/
import Derived.Test.YtlphodhecaagbaaGreatLayL
import Derived.Test.YtlphodhecaagbaaGreatLay8
import Derived.Test.YtlphodhecaagbaaGreatCut
import Derived.Test.YtlphodhecaagbaaGreatLWord
import Derived.Test.YtlphodhecaagbaaGreatCode5
namespace Go.Proofs.YtlphodhecaagbaaGreat
open Go Go.RowKit
set_option linter.unusedSimpArgs false
set_option linter.unusedVariables false
attribute [local go_sem] Oper.semAt_some

/-- A stretch that is left at its end alone. -/
def OnlyN (Q : Exit → Act → World → Prop) : Exit → Act → World → Prop
  | .normal, a, w => Q .normal a w
  | _, _, _ => False
theorem region_only {P : Program} {n : Nat} {c : Code} {Q : Exit → Act → World → Prop} {a : Act} {w : World} (h : c.wp P (OnlyN Q) a w) : c.wpIn Fence.wide n P Q a w :=
  wpIn_wide.2 (wp_mono h fun e a w hq => by cases e <;> first | exact hq | exact hq.elim)

section
variable {R : Fld} {γ : El R} {p k g : Int} {D K C : Nat}
/-- The words laid so far. -/
def encT (γ : El R) (D C K : Nat) (ds : List (El R)) (b i : Nat) : List Int := if i < b then iv (encB γ D C K ds i) else []
theorem iv_drop (ps : List (El R)) (n : Nat) : (iv ps).drop n = iv (ps.drop n) := by simp [iv]
theorem offB_mono {D C : Nat} : ∀ {j k : Nat}, j ≤ k → offB D C j ≤ offB D C k := by
  intro j k h
  obtain ⟨d, rfl⟩ := Nat.exists_eq_add_of_le h
  clear h
  induction d with
  | zero => exact Nat.le_refl _
  | succ d ih => rw [← Nat.add_assoc, offB_succ]; omega

theorem row5w {w : World} {b : Nat} {x0 x1 x2 x3 x4 : Value} {t : TypeId} (h : w.heap[b]? = some (.cells #[x0, x1, x2, x3, x4] t (0, 0))) :
    w.cell? ⟨b, 0, none⟩ = some x0 ∧ w.cell? ⟨b, 1, none⟩ = some x1 ∧ w.cell? ⟨b, 2, none⟩ = some x2 ∧ w.cell? ⟨b, 3, none⟩ = some x3 ∧ w.cell? ⟨b, 4, none⟩ = some x4 ∧ True :=
  ⟨cell_of_row w b 0 _ _ _ h, cell_of_row w b 1 _ _ _ h, cell_of_row w b 2 _ _ _ h, cell_of_row w b 3 _ _ _ h, cell_of_row w b 4 _ _ _ h, trivial⟩
theorem cells5_up {w w' : World} {b : Nat} {p k g L K : Int} {t : TypeId} (h : w.heap[b]? = some (.cells #[.int .i64 p, .int .i64 k, .int .i64 g, .int .i64 L, .int .i64 K] t (0, 0))) (hb : Below w.heap.size w w') : Cells5 w' b p k g L K := by
  have h' := (hb.block _ (Array.getElem?_eq_some_iff.1 h).1).trans h
  obtain ⟨a0, a1, a2, a3, a4, _⟩ := row5w h'
  exact ⟨a0, a1, a2, a3, a4⟩
/-- The first loop: the words of the blocks. -/
def N1Rel (w : World) (p k g : Int) (D K C gW gX B : Nat) (γ : El R) (ds : List (El R)) (vc : Value) (d i : Value) (wr : World) : Prop :=
  ∃ (b : Nat) (A : Option Addr) (m c : Nat) (vs : List Value), b ≤ C ∧ i = .int .i64 b ∧ d = .slice A m c ∧ m = D - offB D C b ∧ m ≤ c ∧ Ints .i64 w B A m (iv (ds.drop (offB D C b))) ∧
    Mat wr (w.heap.size + 1) (.slice (some ⟨gW, 0, none⟩) C C) C vs (encT γ D C K ds b) ∧ wr.heap[gX]? = some (.cells #[.slice (some ⟨gW, 0, none⟩) C C] 65 (0, 0)) ∧
    (∃ bc, gX < bc ∧ OwnC wr bc vc C (codN p k g D K C)) ∧ YRow wr w.heap.size p k g D K C ∧ Below w.heap.size w wr
theorem OwnC.ne_mat {w : World} {bc base n m : Nat} {vc v : Value} {f : Nat → Int} {vs : List Value} {Z : Nat → List Int} (h : OwnC w bc vc n f) (hm : Mat w base v m vs Z) : vc.ownBlock = none ∨ (vc.ownBlock ≠ v.ownBlock ∧ ∀ (k : Nat) u, vs[k]? = some u → vc.ownBlock ≠ u.ownBlock) := by
  rcases h.2 with ⟨rfl, _⟩ | ⟨g, cap, cur, rfl, _, hgb, _⟩
  · exact .inl rfl
  · right
    refine ⟨fun e => ?_, fun k u hu e => ?_⟩
    · exact type_ne hgb (by decide) hm.row e.symm
    · exact type_ne hgb (by decide) (hm.rows.own k u hu) e.symm
/-- An element of the stream. -/
def strE (γ : El R) (D C K : Nat) (ds : List (El R)) (i : Nat) : El R := cf (encB γ D C K ds (pairOf D C i).1) (pairOf D C i).2
/-- The stream so far. -/
def strT {N : Nat} (γ : El R) (D C K : Nat) (ds : List (El R)) (pre : List (Fin N)) : List (El R) := tab (D + C * K) fun i => if i ∈ pre.map (fun x => x.val) then strE γ D C K ds i else 0
theorem strT_nil {N : Nat} (γ : El R) (D C K : Nat) (ds : List (El R)) : iv (strT (N := N) γ D C K ds []) = List.replicate (D + C * K) 0 := by
  rw [iv_zeros]; rfl
theorem strT_snoc {N : Nat} (γ : El R) (D C K : Nat) (ds : List (El R)) (pre : List (Fin N)) (x : Fin N) : (strT γ D C K ds pre).set x.val (strE γ D C K ds x.val) = strT γ D C K ds (pre ++ [x]) := by
  unfold strT
  rw [tab_set]
  refine tab_congr fun i _ => ?_
  by_cases h : i = x.val
  · subst h; simp
  · by_cases h2 : i ∈ pre.map (fun x => x.val)
    · simp only [h, if_false, h2, if_true]
      rw [if_pos (by rw [List.map_append]; exact List.mem_append_left _ h2)]
    · simp only [h, if_false, h2]
      rw [if_neg (by rw [List.map_append]; intro h3; rcases List.mem_append.1 h3 with h4 | h4; exact h2 h4; exact h (by simpa using h4))]
theorem strT_all (γ : El R) (D C K : Nat) (ds : List (El R)) : strT γ D C K ds (List.finRange (D + C * K)) = strL D C K (encB γ D C K ds) := by
  unfold strT strL
  exact tab_congr fun i hi => by rw [if_pos (by rw [finRange_val]; exact List.mem_range.2 hi)]; rfl
theorem strT_len {N : Nat} (γ : El R) (D C K : Nat) (ds : List (El R)) (pre : List (Fin N)) : (strT γ D C K ds pre).length = D + C * K := tab_len _ _
/-- What encoded holds while it goes through the order. -/
structure EnI (w : World) (gW gX gS gT Bn : Nat) (vs : List Value) (p k g : Int) (D K C : Nat) (γ : El R) (ds zs : List (El R)) (W : World) : Prop where
  box : W.heap[gX]? = some (.cells #[.slice (some ⟨gW, 0, none⟩) C C] 65 (0, 0))
  mat : Mat W (w.heap.size + 1) (.slice (some ⟨gW, 0, none⟩) C C) C vs (encT γ D C K ds C)
  sbox : W.heap[gT]? = some (.cells #[.slice (some ⟨gS, 0, none⟩) (D + C * K) (D + C * K)] 28 (0, 0))
  strm : Go.Proofs.YtlphodhecaagbaaGreat.Own W (w.heap.size + 1) 2 .i64 (.slice (some ⟨gS, 0, none⟩) (D + C * K) (D + C * K)) (iv zs)
  lay : YRow W Bn p k g D K C
  bel : Below w.heap.size w W
theorem EnI.turn {w W W' : World} {gW gX gS gT Bn B : Nat} {vs : List Value} {ds zs : List (El R)} (h : EnI w gW gX gS gT Bn vs p k g D K C γ ds zs W) (ht : Turn B W W') (hB : w.heap.size ≤ B) : EnI w gW gX gS gT Bn vs p k g D K C γ ds zs W' :=
  ⟨ht.row h.box, ht.mat h.mat, ht.row h.sbox, ht.own h.strm, ht.row h.lay, ht.below h.bel (Nat.le_refl _) hB⟩
-- ENCODED
set_option maxRecDepth 100000 in
set_option maxHeartbeats 4000000 in
theorem implEncodedS (h : LayIs R γ p k g D K C) (ds : List (El R)) (hd : ds.length = D) (A : Option Addr) (n c B : Nat) (w : World) (hI : Ints .i64 w B A n (iv ds)) (hB : B ≤ w.heap.size) (hnc : n ≤ c) :
    Calls Tryz.prog 34 #[.agg #[.int .i64 p, .int .i64 k, .int .i64 g, .int .i64 D, .int .i64 K, .int .i64 C], .slice A n c] w (NewE (strL D C K (encB γ D C K ds)) w) := by
  have h1 := h.c1; have h2 := h.c16; have h3 := h.cd; have h4 := h.tot; have h5 := h.k1; have h6 := h.d1500
  have hnD : n = D := by rw [← hd, ← iv_len]; exact hI.len.symm
  have HI := hide hI
  have HH := hide h
  have HD := hide hd
  have HND := hide hnD
  have HSN := hide (stN_is h)
  clear h hI hd hnD
  obtain ⟨w0, hw0⟩ : ∃ w0, w0 = w.alloc (.cells #[.int .i64 p, .int .i64 k, .int .i64 g, .int .i64 D, .int .i64 K, .int .i64 C] 27) := ⟨_, rfl⟩
  have hs0 : w0.heap.size = w.heap.size + 1 := by rw [hw0, alloc_size]
  have r1 : YRow w0 w.heap.size p k g D K C := by rw [hw0]; exact heap_alloc_new w _
  have rb : Below w.heap.size w w0 := by rw [hw0]; exact (Below.refl _ _).alloc (Nat.le_refl _) _
  obtain ⟨ti, hi, hz0, hz1, hz2⟩ := info_parts elemSS
  obtain ⟨w1, hrun, ho, hg⟩ := run_make_full (P := Tryz.prog) w0 (w.heap.size + 1) 65 28 ti _ 1 Tryz.underlying65 hi hz0 hz1 .i64 .i64 C (by rw [hz2]; omega) (by simp only [maxLen]; omega) (by omega)
  rw [hs0] at hrun ho
  have hm := mat_made w1 (w.heap.size + 1) C ho
  have hb1 : Below w0.heap.size w0 w1 := (Below.refl w0.heap.size w0).grown hg (Nat.le_refl _) (by simp)
  have hs1 : w.heap.size + 1 < w1.heap.size := (World.ownsRow.lt hm.row _ rfl).2
  have HM := hide hm
  have HR1 := hide (r1.next hb1)
  have HB1 := hide (rb.trans (hb1.mono (by omega)))
  rw [hw0] at hrun
  have hrun' := hrun
  clear ho hg hrun hw0 hi hz0 hz1 hz2 hm hb1 rb r1
  have hrun := hrun'
  clear hrun'
  obtain ⟨c0, c1, c2, c3, c4, c5⟩ := YRow.cells (W := w1.alloc (.cells #[.slice (some ⟨w.heap.size + 1, 0, none⟩) C C] 65)) (b := w.heap.size) (p := p) (k := k) (g := g) (D := D) (K := K) (C := C) (row_old HR1.out _)
  refine (callsIn_wide (n := 6)).1 ?_
  refine callsIn_of_wp_marks Tryz.func34 rfl trivial ?_ rfl
  simp only [Tryz.ntmps34, List.size_toArray, List.length_cons, List.length_nil, Nat.reduceAdd, Nat.reduceSub, Array.replicate_succ, Array.replicate_zero, List.push_toArray, List.append_toArray, List.nil_append, List.cons_append]
  gi_wp2_with fail
  refine ⟨trivial, (callsIn_wide.2 (implCodes HH.out (w1.alloc (.cells #[.slice (some ⟨w.heap.size + 1, 0, none⟩) C C] 65)))).mono ?_⟩
  rintro x w3 ⟨vc, rfl, hoc, hb3⟩
  rw [alloc_size] at hoc
  have HM3 := hide (((HM.out.alloc (.cells #[.slice (some ⟨w.heap.size + 1, 0, none⟩) C C] 65)).next hb3).congr (Y := encT γ D C K ds 0) fun i hi => by unfold encT; rw [if_neg (Nat.not_lt_zero i)])
  have HX3 := hide (show w3.heap[w1.heap.size]? = _ from (hb3.block _ (by rw [alloc_size]; omega)).trans (heap_alloc_new w1 (.cells #[.slice (some ⟨w.heap.size + 1, 0, none⟩) C C] 65)))
  have HR3 := hide (YRow.next (W' := w3) (row_old HR1.out (.cells #[.slice (some ⟨w.heap.size + 1, 0, none⟩) C C] 65) : YRow (w1.alloc (.cells #[.slice (some ⟨w.heap.size + 1, 0, none⟩) C C] 65)) w.heap.size p k g D K C) hb3)
  have HB3 := hide ((HB1.out.alloc (by omega) (.cells #[.slice (some ⟨w.heap.size + 1, 0, none⟩) C C] 65)).trans (hb3.mono (by rw [alloc_size]; omega)))
  have hb3s := hb3.size
  rw [alloc_size] at hb3s
  obtain ⟨gc, cc, rfl, hgc1, hgc2, hgc3⟩ := hoc.form h1
  have HOC := hide hoc
  clear hoc hb3 hrun c0 c1 c2 c3 c4 c5 HM HR1 HB1
  gi_wp2_with fail
  gi_loopw [1, 18] (fun d i wr => N1Rel w p k g D K C (w.heap.size + 1) w1.heap.size B γ ds (.slice (some ⟨gc, 0, none⟩) C cc) d i wr) (fun _ i _ => C - (intOf i).toNat)
  case atStart => exact ⟨0, A, n, c, _, Nat.zero_le _, rfl, rfl, by rw [offB_zero, HND.out]; rfl, hnc, by rw [offB_zero]; exact HI.out, HM3.out, HX3.out, ⟨_, by omega, HOC.out⟩, HR3.out, HB3.out⟩
  case round =>
    clear HM3 HX3 HOC HR3 HB3
    obtain ⟨b, Ad, md, cd, vs, hb, rfl, rfl, hmd, hmc, hid, hm, hx, ⟨bc, hbc, hoc⟩, hr, hbl⟩ := hrel
    have HID := hide hid
    have HM := hide hm
    have HX := hide hx
    have HOC := hide hoc
    have HR := hide hr
    have HBL := hide hbl
    have HMD := hide hmd
    clear hid hm hx hoc hr hbl hmd
    by_cases hlt : b < C
    · obtain ⟨f0, f1, f2, f3, f4⟩ := codN_at p k g D K C b
      have z0 := HOC.out.cell (i := b * 5) (by omega)
      have z1 := HOC.out.cell (i := b * 5 + 1) (by omega)
      have z2 := HOC.out.cell (i := b * 5 + 2) (by omega)
      have z3 := HOC.out.cell (i := b * 5 + 3) (by omega)
      have z4 := HOC.out.cell (i := b * 5 + 4) (by omega)
      rw [f0] at z0
      rw [f1] at z1
      rw [f2] at z2
      rw [f3] at z3
      rw [f4] at z4
      clear f0 f1 f2 f3 f4
      have hcode := HH.out.code b hlt
      have hoff := offB_succ D C b
      have hofl := offB_le (D := D) (k := b + 1) h1 hlt
      have hlen := encB_len (γ := γ) (K := K) hlt HD.out
      have hdl := dat_len (D := D) hlt HD.out
      have hcl := hcode.cl
      have hc255 := hcode.l255
      have HED := hide (show encB γ D C K ds b = encW γ K (datL D C ds b) from rfl)
      have HDA := hide (show datL D C ds b = (ds.drop (offB D C b)).take (lsz D C b) from rfl)
      have HSU := hide (show offB D C (b + 1) = offB D C b + lsz D C b from hoff)
      obtain ⟨s, hs⟩ : ∃ s, lsz D C b = s := ⟨_, rfl⟩
      rw [hs] at hlen hdl hcl hc255 HDA HSU hoff hcode z3
      have hs15 : s ≤ 1500 := by omega
      obtain ⟨L, hL⟩ : ∃ L, s + K = L := ⟨_, rfl⟩
      rw [hL] at hlen hcl hc255 z3 hcode
      have HCODE := hide hcode
      have HL := hide hL
      have HML := hide (fun w' => implMsgLen p k g L K hc255 hcl w')
      rw [show L - K = s by omega] at HML
      have hsm : s ≤ md := by rw [HMD.out]; omega
      have hcut1 := run_cut_h Ad md cd s (by omega)
      have hcut2 := run_cut_l Ad md cd s hsm
      have HC1 := hide hcut1
      have HC2 := hide hcut2
      clear hcut1 hcut2 hoff hofl hcode hs hL
      gi_wp2_with fail
      refine ⟨trivial, (callsIn_wide.2 (HML.out _)).mono ?_⟩
      rintro x w5 ⟨rfl, hb5⟩
      have hr5 : w5.heap[wr.heap.size]? = some (.cells #[.int .i64 p, .int .i64 k, .int .i64 g, .int .i64 L, .int .i64 K] 89 (0, 0)) := (hb5.block _ (by rw [alloc_size]; omega)).trans (heap_alloc_new wr (.cells #[.int .i64 p, .int .i64 k, .int .i64 g, .int .i64 L, .int .i64 K] 89))
      have hs5 : wr.heap.size < w5.heap.size := by have := hb5.size; rw [alloc_size] at this; omega
      have HBr5 := hide (show Below wr.heap.size wr w5 from ((Below.refl _ wr).alloc (Nat.le_refl _) (.cells #[.int .i64 p, .int .i64 k, .int .i64 g, .int .i64 L, .int .i64 K] 89)).trans (hb5.mono (by rw [alloc_size]; omega)))
      have HM5 := hide (HM.out.next HBr5.out)
      have HX5 := hide (show w5.heap[w1.heap.size]? = _ from (HBr5.out.block _ (Array.getElem?_eq_some_iff.1 HX.out).1).trans HX.out)
      have HOC5 := hide (HOC.out.next HBr5.out)
      have HR5 := hide (HR.out.next HBr5.out)
      have HBL5 := hide (HBL.out.trans (HBr5.out.mono HBL.out.size))
      have HCR5 := hide hr5
      obtain ⟨e0, e1, e2, e3, e4, _⟩ := row5w hr5
      obtain ⟨cx, _⟩ := one_cell HX5.out
      clear hb5 hr5 z0 z1 z2 z3 z4 HM HX HOC HR HBL HBr5
      have hcut1 := HC1.out
      have hcut2 := HC2.out
      gi_wp2_with fail
      refine region_only ?_
      refine tail_begin (fun w' => w'.cell? ⟨w1.heap.size, 0, none⟩ = some (.slice (some ⟨w.heap.size + 1, 0, none⟩) C C) ∧ Cells5 w' wr.heap.size p k g L K) 8 (by kernel_rfl) ⟨cx, e0, e1, e2, e3, e4⟩ (fun hS' => ?_)
      clear cx e0 e1 e2 e3 e4
      refine tail_take 0 rfl (by kernel_rfl) (by kernel_rfl) (by kernel_rfl) (by kernel_rfl) (fun _ _ _ h => h) (by rfl) (v := ?_) ?_ (by assumption) ?_
      rotate_left 1
      · intro w' hS'; obtain ⟨q0, e0, e1, e2, e3, e4⟩ := hS'; go_simp; try with_reducible rfl
      try simp only [Act.put, List.setIfInBounds_toArray, List.set_cons_zero, List.set_cons_succ]
      refine tail_take 1 rfl (by kernel_rfl) (by kernel_rfl) (by kernel_rfl) (by kernel_rfl) (fun _ _ _ h => h) (by rfl) (v := ?_) ?_ (by assumption) ?_
      rotate_left 1
      · intro w' hS'; obtain ⟨q0, e0, e1, e2, e3, e4⟩ := hS'; go_simp; try with_reducible rfl
      try simp only [Act.put, List.setIfInBounds_toArray, List.set_cons_zero, List.set_cons_succ]
      refine tail_take 2 rfl (by kernel_rfl) (by kernel_rfl) (by kernel_rfl) (by kernel_rfl) (fun _ _ _ h => h) (by rfl) (v := ?_) ?_ (by assumption) ?_
      rotate_left 1
      · intro w' hS'; obtain ⟨q0, e0, e1, e2, e3, e4⟩ := hS'; go_simp; try with_reducible rfl
      try simp only [Act.put, List.setIfInBounds_toArray, List.set_cons_zero, List.set_cons_succ]
      refine tail_take 3 rfl (by kernel_rfl) (by kernel_rfl) (by kernel_rfl) (by kernel_rfl) (fun _ _ _ h => h) (by rfl) (v := ?_) ?_ (by assumption) ?_
      rotate_left 1
      · intro w' hS'; obtain ⟨q0, e0, e1, e2, e3, e4⟩ := hS'; go_simp; try with_reducible rfl
      try simp only [Act.put, List.setIfInBounds_toArray, List.set_cons_zero, List.set_cons_succ]
      refine tail_take 4 rfl (by kernel_rfl) (by kernel_rfl) (by kernel_rfl) (by kernel_rfl) (fun _ _ _ h => h) (by rfl) (v := ?_) ?_ (by assumption) ?_
      rotate_left 1
      · intro w' hS'; obtain ⟨q0, e0, e1, e2, e3, e4⟩ := hS'; go_simp; try with_reducible rfl
      try simp only [Act.put, List.setIfInBounds_toArray, List.set_cons_zero, List.set_cons_succ]
      refine tail_take 5 rfl (by kernel_rfl) (by kernel_rfl) (by kernel_rfl) (by kernel_rfl) (fun _ _ _ h => h) (by rfl) (v := ?_) ?_ (by assumption) ?_
      rotate_left 1
      · intro w' hS'; obtain ⟨q0, e0, e1, e2, e3, e4⟩ := hS'; go_simp; try with_reducible rfl
      try simp only [Act.put, List.setIfInBounds_toArray, List.set_cons_zero, List.set_cons_succ]
      clear hcut1 hcut2
      refine tail_call 6 rfl (by kernel_rfl) rfl (fun K hK => ?_)
      go_simp
      go_at_call 64; refine (implEncoded HCODE.out (datL D C ds b) Ad s cd B w5.drew (by have := (HID.out.below (HBL5.out.mono hB)).headI hsm; rw [iv_take, ← HDA.out] at this; exact this) (by have := HBL5.out.size; show B ≤ w5.heap.size; omega) HL.out).mono ?_
      rw [← HED.out]
      rintro x w6 ⟨A6, c6, rfl, hc6, ho6, hb6⟩
      have HBr6 := hide (show Below w5.heap.size w5 w6 from ⟨hb6.os, hb6.tape, hb6.output, hb6.size, hb6.block⟩)
      have HO6 := hide ho6
      clear ho6 hb6
      refine hK.out _ _ (by (try dsimp only); exact ⟨(HBr6.out.cell (p := ⟨w1.heap.size, 0, none⟩) (Array.getElem?_eq_some_iff.1 HX5.out).1).trans (one_cell HX5.out).1, cells5_up HCR5.out HBr6.out⟩) (fun hS' => ?_)
      clear hK K
      try simp only [Act.put, List.setIfInBounds_toArray, List.set_cons_zero, List.set_cons_succ]
      have HM6 := hide (HM5.out.next HBr6.out)
      have HX6 := hide (show w6.heap[w1.heap.size]? = _ from (HBr6.out.block _ (Array.getElem?_eq_some_iff.1 HX5.out).1).trans HX5.out)
      have HOC6 := hide (HOC5.out.next HBr6.out)
      have HR6 := hide (HR5.out.next HBr6.out)
      have HBL6 := hide (HBL5.out.trans (HBr6.out.mono HBL5.out.size))
      obtain ⟨At, mt, hvt, hct, hot, hmt⟩ := HM5.out.at_ hlt
      have hf6 := HM6.out.frozen b
      obtain ⟨At', mt', hvt', hct', hot', hmt'⟩ := HM6.out.at_ hlt
      have hz0 : encT γ D C K ds b b = [] := by unfold encT; rw [if_neg (Nat.lt_irrefl b)]
      obtain ⟨hmp, hgp⟩ := HM5.out.put hvt (w' := w6) ⟨HBr6.out.os, HBr6.out.tape, HBr6.out.output, HBr6.out.size, fun i hi _ => HBr6.out.block i hi⟩ (World.ownsRow.mono HO6.out (by have := (World.ownsRow.lt HM5.out.row (w.heap.size + 1) rfl).2; show w.heap.size + 1 ≤ w5.heap.size; omega)) (by
        rcases hu : (Value.slice A6 (encB γ D C K ds b).length c6).ownBlock with _ | g'
        · exact .inl rfl
        · exact .inr (.inr ⟨g', rfl, (HO6.out.lt hu).1⟩))
      have HMP := hide (hmp.congr (Y := encT γ D C K ds (b + 1)) fun i hi => by
        unfold encT
        by_cases hib : i = b
        · subst hib; simp
        · by_cases hlb : i < b
          · simp [hib, hlb, show i < b + 1 by omega]
          · simp [hib, hlb, show ¬ i < b + 1 by omega])
      have HXP := hide (row_set (off := b) (v := .slice A6 (encB γ D C K ds b).length c6) HX6.out (show w1.heap.size ≠ w.heap.size + 1 by omega))
      have HRP := hide (show YRow (w6.setCell ⟨w.heap.size + 1, b, none⟩ (.slice A6 (encB γ D C K ds b).length c6)) w.heap.size p k g D K C from row_set HR6.out (by omega))
      have HBLP := hide (HBL6.out.setCell (p := ⟨w.heap.size + 1, b, none⟩) (Nat.le_succ _) (.slice A6 (encB γ D C K ds b).length c6))
      have HOCP := hide (show OwnC (w6.setCell ⟨w.heap.size + 1, b, none⟩ (.slice A6 (encB γ D C K ds b).length c6)) bc (.slice (some ⟨gc, 0, none⟩) C cc) C (codN p k g D K C) from HOC6.out.grown (set_grown w6 (w.heap.size + 1) b _) (by
        rcases HOC6.out.ne_mat HM6.out with hh | hh
        · exact .inl hh
        · exact .inr hh.1))
      clear hmp hgp hvt hct hot hmt hvt' hct' hot' hmt' hz0
      obtain ⟨eL, heL⟩ : ∃ eL, (encB γ D C K ds b).length = eL := ⟨_, rfl⟩
      rw [heL] at HMP HXP HRP HBLP HOCP
      rw [heL]
      clear heL hlen
      refine tail_take 7 rfl (by kernel_rfl) (by kernel_rfl) (by kernel_rfl) (by kernel_rfl) (fun _ _ _ h => h) (by rfl) (v := ?_) ?_ (by assumption) ?_
      rotate_left 1
      · intro w' hS'; obtain ⟨q0, e0, e1, e2, e3, e4⟩ := hS'; go_simp; try with_reducible rfl
      try simp only [Act.put, List.setIfInBounds_toArray, List.set_cons_zero, List.set_cons_succ]
      obtain ⟨q0, e0, e1, e2, e3, e4⟩ := hS'
      obtain ⟨At, mt, _, hct, _, _⟩ := HM6.out.at_ hlt
      refine tail_last 8 rfl (by kernel_rfl) (by kernel_rfl) rfl rfl (fun K hK => ?_)
      go_simp
      refine hK.out _ _ ?_
      clear hK K
      try simp only [Act.put, List.setIfInBounds_toArray, List.set_cons_zero, List.set_cons_succ]
      unfold OnlyN
      have hcut2 := HC2.out
      gi_wp2_with fail
      go_roundw
      case rel => exact ⟨b + 1, subA Ad cd s, md - s, cd - s, _, by omega, by go_num, rfl, by rw [HSU.out, HMD.out]; omega, by omega, (by have := HID.out.rest (s := s) hmc hsm; rw [iv_drop, List.drop_drop] at this; rw [HSU.out]; exact this), HMP.out, HXP.out, ⟨bc, hbc, HOCP.out⟩, HRP.out, HBLP.out⟩
      case measure => simp [intOf]; omega
    · obtain rfl : b = C := by omega
      obtain ⟨c0, c1, c2, c3, c4, c5⟩ := HR.out.cells
      have HST := hide (fun w' => implStreamLen p k g D K b _ HSN.out w')
      obtain ⟨N, hN⟩ : ∃ N, D + b * K = N := ⟨_, rfl⟩
      have HNN := hide hN
      rw [hN] at HST h4
      clear hN
      gi_wp2_with fail
      refine ⟨trivial, (callsIn_wide.2 (HST.out wr)).mono ?_⟩
      rintro x w2 ⟨rfl, hb2⟩
      have hHX := (Array.getElem?_eq_some_iff.1 HX.out).1
      have HM2 := hide (HM.out.next hb2)
      have HX2 := hide (show w2.heap[w1.heap.size]? = _ from (hb2.block _ hHX).trans HX.out)
      have HR2 := hide (HR.out.next hb2)
      have HBL2 := hide (HBL.out.trans (hb2.mono HBL.out.size))
      have hs2 := hb2.size
      clear hb2 HM HX HR HBL HOC c0 c1 c2 c3 c4 c5
      obtain ⟨tj, hi, hz0, hz1, hz2⟩ := info_parts elem64.info
      obtain ⟨w4, hrun, ho, hg⟩ := run_make_full (P := Tryz.prog) w2 w2.heap.size 28 2 tj _ 1 Tryz.underlying28 hi hz0 hz1 .i64 .i64 N (by rw [hz2]; omega) (by simp only [maxLen]; omega) (Nat.le_refl _)
      have hb4 : Below w2.heap.size w2 w4 := (Below.refl w2.heap.size w2).grown hg (Nat.le_refl _) (by simp)
      have HO4 := hide (made_own ho)
      have HM4 := hide (HM2.out.next hb4)
      have HX4 := hide (show w4.heap[w1.heap.size]? = _ from (hb4.block _ (Array.getElem?_eq_some_iff.1 HX2.out).1).trans HX2.out)
      have HR4 := hide (HR2.out.next hb4)
      have HBL4 := hide (HBL2.out.trans (hb4.mono HBL2.out.size))
      have hs4 : w2.heap.size < w4.heap.size := (World.ownsRow.lt ho w2.heap.size rfl).2
      have HNS := hide (show ∀ (i : Nat) (u : Value), vs[i]? = some u → u.ownBlock ≠ some w2.heap.size from fun i u hu e => by have := (HM2.out.rows.lt hu e).2; omega)
      have hgW2 : w.heap.size + 1 < w2.heap.size := (World.ownsRow.lt HM2.out.row (w.heap.size + 1) rfl).2
      have hgX2 : w1.heap.size < w2.heap.size := (Array.getElem?_eq_some_iff.1 HX2.out).1
      clear ho hg hi hz0 hz1 hz2 hb4
      have hR5 := row_old HR4.out (.cells #[.slice (some ⟨w2.heap.size, 0, none⟩) N N] 28)
      obtain ⟨c0, c1, c2, c3, c4, c5⟩ := YRow.cells (W := w4.alloc (.cells #[.slice (some ⟨w2.heap.size, 0, none⟩) N N] 28)) (b := w.heap.size) (p := p) (k := k) (g := g) (D := D) (K := K) (C := b) hR5
      clear hR5
      gi_wp2_with fail
      refine ⟨trivial, (callsIn_wide.2 (implOrder p k g D K b _)).mono ?_⟩
      rintro x w5 ⟨rfl, hw5⟩
      rw [alloc_size]
      have hs5 : w5.heap.size = w4.heap.size + 1 + 1 := by rw [hw5, alloc_size, alloc_size]
      have HEN := hide (show EnI w (w.heap.size + 1) w1.heap.size w2.heap.size w4.heap.size (w4.heap.size + 1) vs p k g D K b γ ds (strT (N := D + b * K) γ D b K ds []) w5 from by
        rw [hw5]
        refine ⟨row_old (row_old HX4.out _) _, (HM4.out.alloc _).alloc _, by rw [HNN.out]; exact row_old (heap_alloc_new w4 _) _, ?_, ?_, (HBL4.out.alloc (by have := HBL4.out.size; omega) _).alloc (by rw [alloc_size]; have := HBL4.out.size; omega) _⟩
        · rw [strT_nil, HNN.out]
          exact World.ownsRow.mono ((HO4.out.alloc _).alloc _) (by omega)
        · have h1 := heap_alloc_new (w4.alloc (.cells #[.slice (some ⟨w2.heap.size, 0, none⟩) N N] 28)) (.cells #[.int .i64 p, .int .i64 k, .int .i64 g, .int .i64 D, .int .i64 K, .int .i64 b] 27)
          rw [alloc_size] at h1
          exact h1)
      clear hw5 hrun c0 c1 c2 c3 c4 c5 HM2 HX2 HR2 HBL2 HO4 HM4 HX4 HR4 HBL4
      gi_wp2_with fail
      refine range_order h1 h2 h3 (by omega) (by rw [HNN.out]; exact h4) HEN.out.lay (by omega) rfl rfl
        (fun pre W => EnI w (w.heap.size + 1) w1.heap.size w2.heap.size w4.heap.size (w4.heap.size + 1) vs p k g D K b γ ds (strT γ D b K ds pre) W ∧ w5.heap.size ≤ W.heap.size)
        (fun _ _ _ => False) (fun s W h => h.2) (fun s W W' h ht => ⟨h.1.turn ht (by omega), Nat.le_trans h.2 ht.size⟩) (fun c s W W' h ht => h) ⟨HEN.out, Nat.le_refl _⟩
        (fun x Bx => { tmps := #[.agg #[.int .i64 p, .int .i64 k, .int .i64 g, .int .i64 D, .int .i64 K, .int .i64 b], .slice Ad md cd, .pointer (some ⟨w.heap.size, 0, none⟩), undef, .slice none 0 0, .pointer (some ⟨w1.heap.size, 0, none⟩), u6, u7, u8, .pointer (some ⟨w4.heap.size, 0, none⟩), .int .i64 (x.val : Nat), .pointer (some ⟨Bx, 0, none⟩), .pointer (some ⟨w.heap.size, 5, none⟩), .int .i64 b, .slice (some ⟨w.heap.size + 1, 0, none⟩) b b, .agg #[.int .i64 p, .int .i64 k, .int .i64 g, .int .i64 D, .int .i64 K, .int .i64 b], .slice (some ⟨gc, 0, none⟩) b cc, .int .i64 b, .int .i64 b, .bool false, u20, u21, u22, u23, u24, u25, u26, u27, u28, u29, u30, u31, u32, u33, u34, u35, u36, .agg #[.int .i64 p, .int .i64 k, .int .i64 g, .int .i64 D, .int .i64 K, .int .i64 b], .int .i64 N, .slice (some ⟨w2.heap.size, 0, none⟩) N N, .agg #[.int .i64 p, .int .i64 k, .int .i64 g, .int .i64 D, .int .i64 K, .int .i64 b], .func (.func 92) #[] #[.pointer (some ⟨w4.heap.size + 1, 0, none⟩)], .int .i64 (x.val : Nat), .agg #[.int .i64 ((pairOf D b x.val).1 : Nat), .int .i64 ((pairOf D b x.val).2 : Nat)], undef, undef, undef, undef, undef, undef, undef, undef, undef, undef, undef, undef, undef], defers := [] }) ?assign ?body ?done ?stop
      case assign =>
        intro l x W K' hK'
        gi_wp2_with fail
        exact hK'
      case body =>
        rintro l pre x W Bx hBx hE ⟨hsp, hsz⟩ hlen
        have HSW := hide hsp
        obtain ⟨d0, d1⟩ := hE.cells
        have hpk := pair_lt (D := D) h1 x.val
        have hpe := pair_elem (D := D) (K := K) h1 x.isLt
        obtain ⟨Ar, mr, hvs, hrc, hro, hmr⟩ := hsp.mat.at_ hpk
        obtain ⟨px, hpx⟩ : ∃ q, (pairOf D b x.val).1 = q := ⟨_, rfl⟩
        obtain ⟨py, hpy⟩ : ∃ q, (pairOf D b x.val).2 = q := ⟨_, rfl⟩
        have hSE : strE γ D b K ds x.val = cf (encB γ D b K ds px) py := by unfold strE; rw [hpx, hpy]
        rw [hpx] at hpk hpe d0 hvs hrc hro hmr
        rw [hpy] at hpe d1
        have hel := encB_len (γ := γ) (K := K) hpk HD.out
        have het : encT γ D b K ds b px = iv (encB γ D b K ds px) := by unfold encT; rw [if_pos hpk]
        rw [het, iv_len, hel] at hvs hrc hro hmr
        obtain ⟨lr, hlr⟩ : ∃ lr, lsz D b px + K = lr := ⟨_, rfl⟩
        rw [hlr] at hvs hrc hro hmr hpe hel
        obtain ⟨rb, cr, hAr, hrb1, hrb2, _⟩ := hro.some_ (by rw [iv_len, hel]; omega)
        rw [iv_len, hel] at hAr
        simp only [Value.slice.injEq] at hAr
        obtain ⟨rfl, hAl, rfl⟩ := hAr
        have hq := hro.cellAt (iv_at (ps := encB γ D b K ds px) (i := py) (by rw [hel]; exact hpe))
        rw [← hSE] at hq
        have HS2 := hide (strT_snoc γ D b K ds pre x)
        obtain ⟨z, hz⟩ : ∃ z, strE γ D b K ds x.val = z := ⟨_, rfl⟩
        rw [hz] at hq HS2
        have HPX := hide hpx
        obtain ⟨cb, _⟩ := one_cell hsp.box
        obtain ⟨cs, _⟩ := one_cell hsp.sbox
        rw [HNN.out] at cs
        have hfz := hsp.strm.frozenAt x.val
        have hxc := hsp.strm.cellAt (iv_at (ps := strT γ D b K ds pre) (i := x.val) (by rw [strT_len]; exact x.isLt))
        have l1 : w1.heap.size < W.heap.size := (Array.getElem?_eq_some_iff.1 hsp.box).1
        have l2 : w2.heap.size < W.heap.size := by omega
        have hxn : x.val < N := Nat.lt_of_lt_of_eq x.isLt HNN.out
        simp only [hpx, hpy]
        clear hpx hpy hz hsp hE hvs hro hel het hSE hlr
        gi_wp2_with fail
        refine round_begin (fun w' => w'.cell? ⟨w4.heap.size, 0, none⟩ = some (.slice (some ⟨w2.heap.size, 0, none⟩) N N) ∧ w'.cell? ⟨w1.heap.size, 0, none⟩ = some (.slice (some ⟨w.heap.size + 1, 0, none⟩) b b) ∧ w'.cell? ⟨Bx, 0, none⟩ = some (.int .i64 px) ∧ w'.cell? ⟨Bx, 1, none⟩ = some (.int .i64 py) ∧ w'.cell? ⟨w.heap.size + 1, px, none⟩ = some (.slice (some ⟨rb, 0, none⟩) lr mr) ∧ w'.cell? ⟨rb, py, none⟩ = some (.int .i64 z.val)) 12 (by kernel_rfl) (by kernel_rfl) (by rintro ⟨_, _, hq⟩; exact hq) ⟨cs, cb, d0, d1, hrc, hq⟩ (fun hS' => ?_)
        clear cb d0 d1 hrc cs hq
        refine tail_take 0 rfl (by kernel_rfl) (by kernel_rfl) (by kernel_rfl) (by kernel_rfl) (fun _ _ _ h => h) (by rfl) (v := ?_) ?_ (by assumption) ?_
        rotate_left 1
        · intro w' hS'; obtain ⟨q0, q1, q2, q3, q4, q5⟩ := hS'; go_simp; try with_reducible rfl
        try simp only [Act.put, List.setIfInBounds_toArray, List.set_cons_zero, List.set_cons_succ]
        refine tail_take 1 rfl (by kernel_rfl) (by kernel_rfl) (by kernel_rfl) (by kernel_rfl) (fun _ _ _ h => h) (by rfl) (v := ?_) ?_ (by assumption) ?_
        rotate_left 1
        · intro w' hS'; obtain ⟨q0, q1, q2, q3, q4, q5⟩ := hS'; go_simp; try with_reducible rfl
        try simp only [Act.put, List.setIfInBounds_toArray, List.set_cons_zero, List.set_cons_succ]
        refine tail_take 2 rfl (by kernel_rfl) (by kernel_rfl) (by kernel_rfl) (by kernel_rfl) (fun _ _ _ h => h) (by rfl) (v := ?_) ?_ (by assumption) ?_
        rotate_left 1
        · intro w' hS'; obtain ⟨q0, q1, q2, q3, q4, q5⟩ := hS'; go_simp; try with_reducible rfl
        try simp only [Act.put, List.setIfInBounds_toArray, List.set_cons_zero, List.set_cons_succ]
        refine tail_take 3 rfl (by kernel_rfl) (by kernel_rfl) (by kernel_rfl) (by kernel_rfl) (fun _ _ _ h => h) (by rfl) (v := ?_) ?_ (by assumption) ?_
        rotate_left 1
        · intro w' hS'; obtain ⟨q0, q1, q2, q3, q4, q5⟩ := hS'; go_simp; try with_reducible rfl
        try simp only [Act.put, List.setIfInBounds_toArray, List.set_cons_zero, List.set_cons_succ]
        refine tail_take 4 rfl (by kernel_rfl) (by kernel_rfl) (by kernel_rfl) (by kernel_rfl) (fun _ _ _ h => h) (by rfl) (v := ?_) ?_ (by assumption) ?_
        rotate_left 1
        · intro w' hS'; obtain ⟨q0, q1, q2, q3, q4, q5⟩ := hS'; go_simp; try with_reducible rfl
        try simp only [Act.put, List.setIfInBounds_toArray, List.set_cons_zero, List.set_cons_succ]
        refine tail_take 5 rfl (by kernel_rfl) (by kernel_rfl) (by kernel_rfl) (by kernel_rfl) (fun _ _ _ h => h) (by rfl) (v := ?_) ?_ (by assumption) ?_
        rotate_left 1
        · intro w' hS'; obtain ⟨q0, q1, q2, q3, q4, q5⟩ := hS'; go_simp; try with_reducible rfl
        try simp only [Act.put, List.setIfInBounds_toArray, List.set_cons_zero, List.set_cons_succ]
        refine tail_take 6 rfl (by kernel_rfl) (by kernel_rfl) (by kernel_rfl) (by kernel_rfl) (fun _ _ _ h => h) (by rfl) (v := ?_) ?_ (by assumption) ?_
        rotate_left 1
        · intro w' hS'; obtain ⟨q0, q1, q2, q3, q4, q5⟩ := hS'; go_simp; try with_reducible rfl
        try simp only [Act.put, List.setIfInBounds_toArray, List.set_cons_zero, List.set_cons_succ]
        refine tail_take 7 rfl (by kernel_rfl) (by kernel_rfl) (by kernel_rfl) (by kernel_rfl) (fun _ _ _ h => h) (by rfl) (v := ?_) ?_ (by assumption) ?_
        rotate_left 1
        · intro w' hS'; obtain ⟨q0, q1, q2, q3, q4, q5⟩ := hS'; go_simp; try with_reducible rfl
        try simp only [Act.put, List.setIfInBounds_toArray, List.set_cons_zero, List.set_cons_succ]
        refine tail_take 8 rfl (by kernel_rfl) (by kernel_rfl) (by kernel_rfl) (by kernel_rfl) (fun _ _ _ h => h) (by rfl) (v := ?_) ?_ (by assumption) ?_
        rotate_left 1
        · intro w' hS'; obtain ⟨q0, q1, q2, q3, q4, q5⟩ := hS'; go_simp; try with_reducible rfl
        try simp only [Act.put, List.setIfInBounds_toArray, List.set_cons_zero, List.set_cons_succ]
        refine tail_take 9 rfl (by kernel_rfl) (by kernel_rfl) (by kernel_rfl) (by kernel_rfl) (fun _ _ _ h => h) (by rfl) (v := ?_) ?_ (by assumption) ?_
        rotate_left 1
        · intro w' hS'; obtain ⟨q0, q1, q2, q3, q4, q5⟩ := hS'; go_simp; try with_reducible rfl
        try simp only [Act.put, List.setIfInBounds_toArray, List.set_cons_zero, List.set_cons_succ]
        refine tail_take 10 rfl (by kernel_rfl) (by kernel_rfl) (by kernel_rfl) (by kernel_rfl) (fun _ _ _ h => h) (by rfl) (v := ?_) ?_ (by assumption) ?_
        rotate_left 1
        · intro w' hS'; obtain ⟨q0, q1, q2, q3, q4, q5⟩ := hS'; go_simp; try with_reducible rfl
        try simp only [Act.put, List.setIfInBounds_toArray, List.set_cons_zero, List.set_cons_succ]
        refine tail_take 11 rfl (by kernel_rfl) (by kernel_rfl) (by kernel_rfl) (by kernel_rfl) (fun _ _ _ h => h) (by rfl) (v := ?_) ?_ (by assumption) ?_
        rotate_left 1
        · intro w' hS'; obtain ⟨q0, q1, q2, q3, q4, q5⟩ := hS'; go_simp; try with_reducible rfl
        try simp only [Act.put, List.setIfInBounds_toArray, List.set_cons_zero, List.set_cons_succ]
        obtain ⟨q0, q1, q2, q3, q4, q5⟩ := hS'
        refine tail_last 12 rfl (by kernel_rfl) (by kernel_rfl) rfl rfl (fun K hK => ?_)
        go_simp
        refine hK.out _ _ ?_
        clear hK K
        try simp only [Act.put, List.setIfInBounds_toArray, List.set_cons_zero, List.set_cons_succ]
        clear q0 q1 q2 q3 q4 q5
        have hsp := HSW.out
        have hst := (hsp.strm.stored x.val z.val).1
        rw [iv_set, HS2.out] at hst
        have hmt := hsp.mat.grown (set_grown W w2.heap.size x.val (.int .i64 z.val)) (.inr (by simp only [Value.ownBlock, Option.some.injEq, ne_eq]; omega)) (fun i u hu => .inr (HNS.out i u hu))
        have hEN : EnI w (w.heap.size + 1) w1.heap.size w2.heap.size w4.heap.size (w4.heap.size + 1) vs p k g D K b γ ds (strT γ D b K ds (pre ++ [x])) (W.setCell ⟨w2.heap.size, x.val, none⟩ (.int .i64 z.val)) :=
          EnI.mk (row_set hsp.box (by omega)) hmt (row_set hsp.sbox (by omega)) hst (row_set hsp.lay (by omega)) (hsp.bel.setCell (p := ⟨w2.heap.size, x.val, none⟩) (by show w.heap.size ≤ w2.heap.size; omega) _)
        have hgg := set_grown W w2.heap.size x.val (.int .i64 z.val)
        refine And.intro (keeps_owned (v := .slice (some ⟨w2.heap.size, 0, none⟩) (D + b * K) (D + b * K)) ⟨hgg.os, hgg.tape, hgg.output, hgg.size, hgg.block⟩ hsp.strm) (And.intro ?_ (And.intro ⟨hEN.box, hEN.mat.drew, hEN.sbox, hEN.strm.drew, hEN.lay, hEN.bel.os, hEN.bel.tape, hEN.bel.output, hEN.bel.size, hEN.bel.block⟩ ?_))
        · exact heap_setCell_other W ⟨w2.heap.size, x.val, none⟩ (w4.heap.size + 1) _ (by show w4.heap.size + 1 ≠ w2.heap.size; omega)
        · show _ ≤ (World.setCell _ _ _).heap.size
          rw [size_set]; exact hsz
      case done =>
        rintro Dd W hDd ⟨hsp, hsz⟩ hK
        have HSW := hide hsp
        obtain ⟨cx, _⟩ := one_cell hsp.sbox
        rw [HNN.out] at cx
        clear hsp
        gi_wp2_with fail
        refine ⟨by simp, .inl ⟨_, _, rfl, run_takeDeferred hK, ?_⟩⟩
        have ht : Turn w5.heap.size W _ := turn_put (.deferred none) hK rfl hDd
        have hsp2 := HSW.out.turn ht (by omega)
        have hst := hsp2.strm
        rw [strT_all, HNN.out] at hst
        exact ⟨_, results_tmp rfl _ _ _, newE_of hst hsp2.bel (by omega)⟩
      case stop =>
        rintro Dd c pre W hDd hpre h hK
        exact h.elim
end
end Go.Proofs.YtlphodhecaagbaaGreat
