/-
  The damage of the blocks of a stream; the program's staysWithin.
  StreamDamage: the model's and the program's answer.
  Condition: as each statement says.
-/
import Derived.Test.YtlphodhecaagbaaGreatLayH
import Derived.Test.YtlphodhecaagbaaGreatJU
import Derived.Test.YtlphodhecaagbaaGreatLayL
namespace Go.Proofs.YtlphodhecaagbaaGreat
open Go Go.RowKit
set_option linter.unusedSimpArgs false
set_option linter.unusedVariables false
attribute [local go_sem] Oper.semAt_some

/-- What an index counts. -/
def wtI (ds es : List Int) (j : Nat) : Nat := if (j : Int) ∈ es then 1 else if (j : Int) ∈ ds then 2 else 0
theorem wtI_le (ds es : List Int) (j : Nat) : wtI ds es j ≤ 2 := by unfold wtI; split; omega; split <;> omega
/-- What the indices of a list count for a block. -/
def dsum (D C : Nat) (ds es : List Int) (l : List Nat) (k : Nat) : Nat := ((l.filter fun j => decide ((pairOf D C j).1 = k)).map (wtI ds es)).sum
theorem dsum_yes {D C : Nat} {ds es : List Int} {l : List Nat} {j k : Nat} (h : (pairOf D C j).1 = k) : dsum D C ds es (l ++ [j]) k = dsum D C ds es l k + wtI ds es j := by
  unfold dsum; rw [List.filter_append, List.map_append, List.sum_append]; simp [h]
theorem dsum_no {D C : Nat} {ds es : List Int} {l : List Nat} {j k : Nat} (h : (pairOf D C j).1 ≠ k) : dsum D C ds es (l ++ [j]) k = dsum D C ds es l k := by
  unfold dsum; rw [List.filter_append, List.map_append, List.sum_append]; simp [h]
theorem dsum_le (D C : Nat) (ds es : List Int) (l : List Nat) (k : Nat) : dsum D C ds es l k ≤ 2 * l.length := by
  have : ∀ m : List Nat, (m.map (wtI ds es)).sum ≤ 2 * m.length := by
    intro m
    induction m with
    | nil => exact Nat.le_refl _
    | cons a m ih => rw [List.map_cons, List.sum_cons, List.length_cons]; have := wtI_le ds es a; omega
  unfold dsum
  have h1 := this (l.filter fun j => decide ((pairOf D C j).1 = k))
  have h2 := List.length_filter_le (fun j => decide ((pairOf D C j).1 = k)) l
  omega
theorem dsum_far {D C : Nat} (hC : 0 < C) {ds es : List Int} {l : List Nat} {k : Nat} (h : C ≤ k) : dsum D C ds es l k = 0 := by
  have h1 : (l.filter fun j => decide ((pairOf D C j).1 = k)) = [] := List.filter_eq_nil_iff.2 fun a _ => by
    have := pair_lt (D := D) hC a
    simp; omega
  unfold dsum; rw [h1]; rfl
/-- The damage of the blocks. -/
def dmgZ (n D C : Nat) (ds es : List Int) (l : List Nat) : List Int := (List.range n).map fun k => (dsum D C ds es l k : Int)
theorem dmgZ_len (n D C : Nat) (ds es : List Int) (l : List Nat) : (dmgZ n D C ds es l).length = n := by unfold dmgZ; rw [List.length_map, List.length_range]
theorem dmgZ_at {n D C : Nat} {ds es : List Int} {l : List Nat} {k : Nat} (hk : k < n) : (dmgZ n D C ds es l)[k]? = some (dsum D C ds es l k : Int) := by unfold dmgZ; rw [List.getElem?_map, List.getElem?_range hk]; rfl
theorem dmgZ_nil (n D C : Nat) (ds es : List Int) : dmgZ n D C ds es [] = List.replicate n 0 := by
  apply List.ext_getElem?
  intro j
  by_cases hj : j < n
  · rw [dmgZ_at hj, List.getElem?_replicate, if_pos hj]; rfl
  · rw [List.getElem?_eq_none (by rw [dmgZ_len]; omega), List.getElem?_eq_none (by simp; omega)]
theorem dmgZ_put {n D C : Nat} {ds es : List Int} {l : List Nat} {j x v : Nat} (hx : (pairOf D C j).1 = x) (hxn : x < n) (hv : dsum D C ds es l x + wtI ds es j = v) : (dmgZ n D C ds es l).set x (v : Int) = dmgZ n D C ds es (l ++ [j]) := by
  apply List.ext_getElem?
  intro i
  by_cases hi : i < n
  · by_cases hix : i = x
    · subst hix
      rw [List.getElem?_set_self (by rw [dmgZ_len]; exact hi), dmgZ_at hi, dsum_yes hx, hv]
    · rw [List.getElem?_set_ne (Ne.symm hix), dmgZ_at hi, dmgZ_at hi, dsum_no (by rw [hx]; exact Ne.symm hix)]
  · rw [List.getElem?_eq_none (by rw [List.length_set, dmgZ_len]; omega), List.getElem?_eq_none (by rw [dmgZ_len]; omega)]
theorem dmgZ_keep {n D C : Nat} {ds es : List Int} {l : List Nat} {j : Nat} (h : wtI ds es j = 0) : dmgZ n D C ds es (l ++ [j]) = dmgZ n D C ds es l := by
  apply List.ext_getElem?
  intro i
  by_cases hi : i < n
  · rw [dmgZ_at hi, dmgZ_at hi]
    by_cases hx : (pairOf D C j).1 = i
    · rw [dsum_yes hx, h]; rfl
    · rw [dsum_no hx]
  · rw [List.getElem?_eq_none (by rw [dmgZ_len]; omega), List.getElem?_eq_none (by rw [dmgZ_len]; omega)]

theorem own_lit16 (w : World) (t : TypeId) (base : Nat) (hb : base ≤ w.heap.size) : Own (w.alloc (.cells #[.int .i64 0, .int .i64 0, .int .i64 0, .int .i64 0, .int .i64 0, .int .i64 0, .int .i64 0, .int .i64 0, .int .i64 0, .int .i64 0, .int .i64 0, .int .i64 0, .int .i64 0, .int .i64 0, .int .i64 0, .int .i64 0] t)) base t .i64 (.slice (some ⟨w.heap.size, 0, none⟩) 16 16) (List.replicate 16 0) :=
  World.ownsRow_lit (base := base) (size := 1) w #[.int .i64 0, .int .i64 0, .int .i64 0, .int .i64 0, .int .i64 0, .int .i64 0, .int .i64 0, .int .i64 0, .int .i64 0, .int .i64 0, .int .i64 0, .int .i64 0, .int .i64 0, .int .i64 0, .int .i64 0, .int .i64 0] 16 hb (by decide) rfl
/-- What staysWithin holds while it goes through the order. -/
structure StI (w : World) (A A' : Option Addr) (n c n' c' : Nat) (p k g D K C : Int) (Bn : Nat) (zs : List Int) (W : World) : Prop where
  dbox : W.heap[w.heap.size + 1]? = some (.cells #[.slice A n c] 28 (0, 0))
  ebox : W.heap[w.heap.size + 1 + 1]? = some (.cells #[.slice A' n' c'] 28 (0, 0))
  arr : Own W (w.heap.size + 1 + 1 + 1) 109 .i64 (.slice (some ⟨w.heap.size + 1 + 1 + 1, 0, none⟩) 16 16) zs
  lay0 : W.heap[w.heap.size]? = some (.cells #[.int .i64 p, .int .i64 k, .int .i64 g, .int .i64 D, .int .i64 K, .int .i64 C] 27 (0, 0))
  lay : W.heap[Bn]? = some (.cells #[.int .i64 p, .int .i64 k, .int .i64 g, .int .i64 D, .int .i64 K, .int .i64 C] 27 (0, 0))
  bel : Below w.heap.size w W
theorem StI.turn {w W W' : World} {A A' : Option Addr} {n c n' c' Bn B : Nat} {p k g D K C : Int} {zs : List Int} (h : StI w A A' n c n' c' p k g D K C Bn zs W) (ht : Turn B W W') (hB : w.heap.size ≤ B) : StI w A A' n c n' c' p k g D K C Bn zs W' :=
  ⟨ht.row h.dbox, ht.row h.ebox, ht.own h.arr, ht.row h.lay0, ht.row h.lay, ht.below h.bel (Nat.le_refl _) hB⟩
theorem StI.put {w W : World} {A A' : Option Addr} {n c n' c' Bn j : Nat} {p k g D K C x : Int} {zs zs' : List Int} (h : StI w A A' n c n' c' p k g D K C Bn zs W) (hz : zs.set j x = zs') (hB : Bn ≠ w.heap.size + 1 + 1 + 1) : StI w A A' n c n' c' p k g D K C Bn zs' (W.setCell ⟨w.heap.size + 1 + 1 + 1, j, none⟩ (.int .i64 x)) := by
  have hs := (h.arr.stored j x).1
  rw [hz] at hs
  exact ⟨row_set h.dbox (by omega), row_set h.ebox (by omega), hs, row_set h.lay0 (by omega), row_set h.lay hB, h.bel.setCell (p := ⟨w.heap.size + 1 + 1 + 1, j, none⟩) (by show w.heap.size ≤ w.heap.size + 1 + 1 + 1; omega) _⟩

set_option maxRecDepth 100000 in
set_option maxHeartbeats 4000000 in
theorem implStays {R : Fld} {γ : El R} {p k g : Int} {D K C : Nat} (h : LayIs R γ p k g D K C) (A A' : Option Addr) (n c n' c' B : Nat) (ds es : List Int) (w : World) (hI : Ints .i64 w B A n ds) (hJ : Ints .i64 w B A' n' es) (hB : B ≤ w.heap.size) (hn : n ≤ 1099511627776) (hn' : n' ≤ 1099511627776)
    (hds : ds.Pairwise (· < ·)) (hes : es.Pairwise (· < ·)) :
    Calls Tryz.prog 46 #[.agg #[.int .i64 p, .int .i64 k, .int .i64 g, .int .i64 D, .int .i64 K, .int .i64 C], .slice A n c, .slice A' n' c'] w (Gives (.bool (decide (∀ k, k < C → dsum D C ds es (List.range (D + C * K)) k ≤ K))) w) := by
  have h1 := h.c1; have h2 := h.c16; have h3 := h.cd; have h4 := h.tot; have h5 := h.k1; have h6 := h.d1500
  have HI := hide hI
  have HJ := hide hJ
  clear h hI hJ
  have HX := hide (YBox.start w p k g D K C)
  obtain ⟨c0, c1, c2, c3, c4, c5⟩ := ((HX.out.alloc (.cells #[.slice A n c] 28)).alloc (.cells #[.slice A' n' c'] 28)).cells
  refine (callsIn_wide (n := 6)).1 ?_
  refine callsIn_of_wp_marks Tryz.func46 rfl trivial ?_ rfl
  simp only [Tryz.ntmps46, List.size_toArray, List.length_cons, List.length_nil, Nat.reduceAdd, Nat.reduceSub, Array.replicate_succ, Array.replicate_zero, List.push_toArray, List.append_toArray, List.nil_append, List.cons_append]
  gi_wp2_with fail
  obtain ⟨w4, hw4⟩ : ∃ w4, w4 = (((w.alloc (.cells #[.int .i64 p, .int .i64 k, .int .i64 g, .int .i64 D, .int .i64 K, .int .i64 C] 27)).alloc (.cells #[.slice A n c] 28)).alloc (.cells #[.slice A' n' c'] 28)).alloc (.cells #[.int .i64 0, .int .i64 0, .int .i64 0, .int .i64 0, .int .i64 0, .int .i64 0, .int .i64 0, .int .i64 0, .int .i64 0, .int .i64 0, .int .i64 0, .int .i64 0, .int .i64 0, .int .i64 0, .int .i64 0, .int .i64 0] 109) := ⟨_, rfl⟩
  have hs4 : w4.heap.size = w.heap.size + 1 + 1 + 1 + 1 := by rw [hw4]; simp only [alloc_size]
  rw [← hw4]
  have HS4 := hide (show StI w A A' n c n' c' p k g D K C (w.heap.size + 1 + 1 + 1 + 1) (dmgZ 16 D C ds es (([] : List (Fin (D + C * K))).map (fun x : Fin (D + C * K) => x.val))) (w4.alloc (.cells #[.int .i64 p, .int .i64 k, .int .i64 g, .int .i64 D, .int .i64 K, .int .i64 C] 27)) by
    have q0 := heap_alloc_new w (.cells #[.int .i64 p, .int .i64 k, .int .i64 g, .int .i64 D, .int .i64 K, .int .i64 C] 27)
    have q1 := heap_alloc_new (w.alloc (.cells #[.int .i64 p, .int .i64 k, .int .i64 g, .int .i64 D, .int .i64 K, .int .i64 C] 27)) (.cells #[.slice A n c] 28)
    have q2 := heap_alloc_new ((w.alloc (.cells #[.int .i64 p, .int .i64 k, .int .i64 g, .int .i64 D, .int .i64 K, .int .i64 C] 27)).alloc (.cells #[.slice A n c] 28)) (.cells #[.slice A' n' c'] 28)
    have q3 := own_lit16 (((w.alloc (.cells #[.int .i64 p, .int .i64 k, .int .i64 g, .int .i64 D, .int .i64 K, .int .i64 C] 27)).alloc (.cells #[.slice A n c] 28)).alloc (.cells #[.slice A' n' c'] 28)) 109 (w.heap.size + 1 + 1 + 1) (by simp only [alloc_size]; omega)
    simp only [alloc_size] at q1 q2 q3
    have r0 : w4.heap[w.heap.size]? = some (.cells #[.int .i64 p, .int .i64 k, .int .i64 g, .int .i64 D, .int .i64 K, .int .i64 C] 27 (0, 0)) := by rw [hw4]; exact row_old (row_old (row_old q0 _) _) _
    have r1 : w4.heap[w.heap.size + 1]? = some (.cells #[.slice A n c] 28 (0, 0)) := by rw [hw4]; exact row_old (row_old q1 _) _
    have r2 : w4.heap[w.heap.size + 1 + 1]? = some (.cells #[.slice A' n' c'] 28 (0, 0)) := by rw [hw4]; exact row_old q2 _
    rw [List.map_nil, dmgZ_nil]
    refine ⟨row_old r1 _, row_old r2 _, Own.alloc (by rw [hw4]; exact q3) _, row_old r0 _, (by have := heap_alloc_new w4 (.cells #[.int .i64 p, .int .i64 k, .int .i64 g, .int .i64 D, .int .i64 K, .int .i64 C] 27); rw [hs4] at this; exact this), ?_⟩
    have hb4 : Below w.heap.size w w4 := by
      rw [hw4]
      exact (((Below.refl w.heap.size w).alloc (Nat.le_refl _) _).alloc (by simp only [alloc_size]; omega) _).alloc (by simp only [alloc_size]; omega) _ |>.alloc (by simp only [alloc_size]; omega) _
    exact hb4.alloc (by omega) _)
  refine ⟨trivial, (callsIn_wide.2 (implOrder p k g D K C w4)).mono ?_⟩
  rintro x w5 ⟨rfl, hw5⟩
  rw [← hw5] at HS4
  have hs5 : w5.heap.size = w4.heap.size + 1 := by rw [hw5, alloc_size]
  clear hw4 hw5 c0 c1 c2 c3 c4 c5
  gi_wp2_with fail
  refine range_order h1 h2 h3 (by omega) h4 HS4.out.lay (by omega) rfl rfl
    (fun pre W => StI w A A' n c n' c' p k g D K C (w.heap.size + 1 + 1 + 1 + 1) (dmgZ 16 D C ds es (pre.map (fun x : Fin (D + C * K) => x.val))) W ∧ w5.heap.size ≤ W.heap.size)
    (fun _ _ _ => False) (fun s W h => h.2) (fun s W W' h ht => ⟨h.1.turn ht (by omega), Nat.le_trans h.2 ht.size⟩) (fun c s W W' h ht => h) ⟨HS4.out, Nat.le_refl _⟩
    (fun x Bx => { tmps := #[.agg #[.int .i64 p, .int .i64 k, .int .i64 g, .int .i64 D, .int .i64 K, .int .i64 C], .slice A n c, .slice A' n' c', .pointer (some ⟨w.heap.size, 0, none⟩), .pointer (some ⟨w.heap.size + 1, 0, none⟩), .pointer (some ⟨w.heap.size + 1 + 1, 0, none⟩), .bool false, .pointer (some ⟨w.heap.size + 1 + 1 + 1, 0, none⟩), .int .i64 (x.val : Nat), .pointer (some ⟨Bx, 0, none⟩), .agg #[.int .i64 p, .int .i64 k, .int .i64 g, .int .i64 D, .int .i64 K, .int .i64 C], .func (.func 92) #[] #[.pointer (some ⟨w.heap.size + 1 + 1 + 1 + 1, 0, none⟩)], .int .i64 (x.val : Nat), .agg #[.int .i64 ((pairOf D C x.val).1 : Nat), .int .i64 ((pairOf D C x.val).2 : Nat)], undef, undef, undef, undef, undef, undef, undef, undef, undef, undef, undef, undef, undef, undef, undef, undef, undef, undef, undef, undef, undef, undef, undef, undef, undef], defers := [] }) ?assign ?body ?done ?stop
  case assign =>
    intro l x W K' hK'
    gi_wp2_with fail
    exact hK'
  case body =>
    rintro l pre x W Bx hBx hE ⟨hsp, hsz⟩ hlen
    have HSW := hide hsp
    obtain ⟨d0, d1⟩ := hE.cells
    have hpk := pair_lt (D := D) h1 x.val
    obtain ⟨px, hpx⟩ : ∃ q, (pairOf D C x.val).1 = q := ⟨_, rfl⟩
    obtain ⟨py, hpy⟩ : ∃ q, (pairOf D C x.val).2 = q := ⟨_, rfl⟩
    rw [hpx] at hpk d0
    have hp16 : px < 16 := by omega
    have HPX := hide hpx
    have hmap : (pre ++ [x]).map (fun x : Fin (D + C * K) => x.val) = pre.map (fun x : Fin (D + C * K) => x.val) ++ [x.val] := by rw [List.map_append]; rfl
    have hdl := dsum_le D C ds es (pre.map (fun x : Fin (D + C * K) => x.val)) px
    rw [List.length_map] at hdl
    have hcx := hsp.arr.cellAt (dmgZ_at (D := D) (C := C) (ds := ds) (es := es) (l := pre.map (fun x : Fin (D + C * K) => x.val)) hp16)
    have hfx := hsp.arr.frozenAt px
    obtain ⟨eb, _⟩ := one_cell hsp.ebox
    obtain ⟨db, _⟩ := one_cell hsp.dbox
    have HIW := hide (HI.out.below (hsp.bel.mono hB))
    have HJW := hide (HJ.out.below (hsp.bel.mono hB))
    obtain ⟨e, he⟩ : ∃ e, dsum D C ds es (pre.map (fun x : Fin (D + C * K) => x.val)) px = e := ⟨_, rfl⟩
    have HEE := hide he
    rw [he] at hcx hdl
    have HMAP := hide hmap
    simp only [hpx, hpy]
    clear hpx hpy hsp hE he hmap
    rcases hm1 : decide (((x.val : Nat) : Int) ∈ es) with _ | _
    · rcases hm2 : decide (((x.val : Nat) : Int) ∈ ds) with _ | _
      · have HW := hide (show wtI ds es x.val = 0 by unfold wtI; rw [if_neg (of_decide_eq_false hm1), if_neg (of_decide_eq_false hm2)])
        gi_wp2_with fail
        refine ⟨trivial, (CallsIn.inRound l (callsIn_wide.2 (implAmong A' n' c' B es x.val W HJW.out hn' hes))).mono ?_⟩
        rw [hm1]
        rintro e' w6 ⟨rfl, rfl⟩
        gi_wp2_with fail
        refine ⟨trivial, (CallsIn.inRound l (callsIn_wide.2 (implAmong A n c B ds x.val W HIW.out hn hds))).mono ?_⟩
        rw [hm2]
        rintro e' w6 ⟨rfl, rfl⟩
        gi_wp2_with fail
        exact ⟨KeepsFrom.refl _ _, rfl, by rw [HMAP.out, dmgZ_keep HW.out]; exact HSW.out, hsz⟩
      · have HW := hide (show wtI ds es x.val = 2 by unfold wtI; rw [if_neg (of_decide_eq_false hm1), if_pos (of_decide_eq_true hm2)])
        have hw1 : IntKind.i64.wrap ((e : Int) + 2) = (e : Int) + 2 := IntWalk.i64_in _ ⟨by omega, by omega⟩
        gi_wp2_with fail
        refine ⟨trivial, (CallsIn.inRound l (callsIn_wide.2 (implAmong A' n' c' B es x.val W HJW.out hn' hes))).mono ?_⟩
        rw [hm1]
        rintro e' w6 ⟨rfl, rfl⟩
        gi_wp2_with fail
        refine ⟨trivial, (CallsIn.inRound l (callsIn_wide.2 (implAmong A n c B ds x.val W HIW.out hn hds))).mono ?_⟩
        rw [hm2]
        rintro e' w6 ⟨rfl, rfl⟩
        gi_wp2_with fail
        have hput := HSW.out.put (j := px) (x := (e : Int) + 2) (zs' := dmgZ 16 D C ds es ((pre ++ [x]).map (fun x : Fin (D + C * K) => x.val))) (by rw [HMAP.out]; exact dmgZ_put (v := e + 2) HPX.out hp16 (by rw [HEE.out, HW.out])) (by omega)
        refine ⟨(KeepsOthers.setCell _ _ _).from _, ?_, hput, ?_⟩
        · exact heap_setCell_other W ⟨w.heap.size + 1 + 1 + 1, px, none⟩ (w.heap.size + 1 + 1 + 1 + 1) _ (by show w.heap.size + 1 + 1 + 1 + 1 ≠ w.heap.size + 1 + 1 + 1; omega)
        · show _ ≤ (World.setCell _ _ _).heap.size
          rw [size_set]; exact hsz
    · have HW := hide (show wtI ds es x.val = 1 by unfold wtI; rw [if_pos (of_decide_eq_true hm1)])
      have hw1 : IntKind.i64.wrap ((e : Int) + 1) = (e : Int) + 1 := IntWalk.i64_in _ ⟨by omega, by omega⟩
      gi_wp2_with fail
      refine ⟨trivial, (CallsIn.inRound l (callsIn_wide.2 (implAmong A' n' c' B es x.val W HJW.out hn' hes))).mono ?_⟩
      rw [hm1]
      rintro e' w6 ⟨rfl, rfl⟩
      gi_wp2_with fail
      have hput := HSW.out.put (j := px) (x := (e : Int) + 1) (zs' := dmgZ 16 D C ds es ((pre ++ [x]).map (fun x : Fin (D + C * K) => x.val))) (by rw [HMAP.out]; exact dmgZ_put (v := e + 1) HPX.out hp16 (by rw [HEE.out, HW.out])) (by omega)
      refine ⟨(KeepsOthers.setCell _ _ _).from _, ?_, hput, ?_⟩
      · exact heap_setCell_other W ⟨w.heap.size + 1 + 1 + 1, px, none⟩ (w.heap.size + 1 + 1 + 1 + 1) _ (by show w.heap.size + 1 + 1 + 1 + 1 ≠ w.heap.size + 1 + 1 + 1; omega)
      · show _ ≤ (World.setCell _ _ _).heap.size
        rw [size_set]; exact hsz
  case done =>
    rintro Dd W hDd ⟨hsp, hsz⟩ hK
    have HSW := hide hsp
    obtain ⟨c0, c1, c2, c3, c4, c5⟩ := (show YRow W w.heap.size p k g D K C from hsp.lay0).cells
    clear hsp
    have HIN := hide (show Ints .i64 W W.heap.size (some ⟨w.heap.size + 1 + 1 + 1, 0, none⟩) 16 (dmgZ 16 D C ds es (List.range (D + C * K))) by
      have h0 := Own.ints HSW.out.arr
      rw [finRange_val, dmgZ_len] at h0
      exact h0)
    gi_wp2_with fail
    refine region_only ?_
    refine tail_begin (fun w' => Cells6 w' w.heap.size p k g D K C) 6 (by kernel_rfl) ⟨c0, c1, c2, c3, c4, c5⟩ (fun hS' => ?_)
    clear c0 c1 c2 c3 c4 c5
    refine tail_take2 0 rfl (by kernel_rfl) (by kernel_rfl) (by kernel_rfl) (by decide) (fun _ _ _ h => h) (by rfl) (v := ?_) ?_ (by assumption) ?_
    rotate_left 1
    · intro w' hS'; obtain ⟨c0, c1, c2, c3, c4, c5⟩ := hS'; go_simp; try with_reducible rfl
    try simp only [Act.put, List.setIfInBounds_toArray, List.set_cons_zero, List.set_cons_succ]
    refine tail_take2 2 rfl (by kernel_rfl) (by kernel_rfl) (by kernel_rfl) (by decide) (fun _ _ _ h => h) (by rfl) (v := ?_) ?_ (by assumption) ?_
    rotate_left 1
    · intro w' hS'; obtain ⟨c0, c1, c2, c3, c4, c5⟩ := hS'; go_simp; try with_reducible rfl
    try simp only [Act.put, List.setIfInBounds_toArray, List.set_cons_zero, List.set_cons_succ]
    refine tail_take2 3 rfl (by kernel_rfl) (by kernel_rfl) (by kernel_rfl) (by decide) (fun _ _ _ h => h) (by rfl) (v := ?_) ?_ (by assumption) ?_
    rotate_left 1
    · intro w' hS'; obtain ⟨c0, c1, c2, c3, c4, c5⟩ := hS'; go_simp; try with_reducible rfl
    try simp only [Act.put, List.setIfInBounds_toArray, List.set_cons_zero, List.set_cons_succ]
    refine tail_call 1 rfl (by kernel_rfl) rfl (fun K hK => ?_)
    go_simp
    go_at_call 75; refine (implMax (some ⟨w.heap.size + 1 + 1 + 1, 0, none⟩) 16 16 _ _ _ HIN.out.drew (by omega) (by omega)).mono ?_; rintro e w6 ⟨⟨x, rfl, hxa, hxe⟩, rfl⟩
    refine hK.out _ _ (by (try dsimp only); exact hS') (fun hS' => ?_)
    clear hK K
    try simp only [Act.put, List.setIfInBounds_toArray, List.set_cons_zero, List.set_cons_succ]
    have HF := hide (show decide (x ≤ (K : Int)) = decide (∀ k, k < C → dsum D C ds es (List.range (D + C * K)) k ≤ K) from decide_eq_decide.2 ⟨fun hx k hk => by
        have := hxa k _ (dmgZ_at (by omega)); omega, fun hall => by
        obtain ⟨t, ht⟩ := hxe
        have ht16 := (List.getElem?_eq_some_iff.1 ht).1
        rw [dmgZ_len] at ht16
        rw [dmgZ_at ht16] at ht
        injection ht with ht
        rcases Nat.lt_or_ge t C with hh | hh
        · have := hall t hh; omega
        · rw [dsum_far h1 hh] at ht; omega⟩)
    clear hxa hxe
    refine tail_take2 4 rfl (by kernel_rfl) (by kernel_rfl) (by kernel_rfl) (by decide) (fun _ _ _ h => h) (by rfl) (v := ?_) ?_ (by assumption) ?_
    rotate_left 1
    · intro w' hS'; obtain ⟨c0, c1, c2, c3, c4, c5⟩ := hS'; go_simp; try with_reducible rfl
    try simp only [Act.put, List.setIfInBounds_toArray, List.set_cons_zero, List.set_cons_succ]
    refine tail_take2 5 rfl (by kernel_rfl) (by kernel_rfl) (by kernel_rfl) (by decide) (fun _ _ _ h => h) (by rfl) (v := ?_) ?_ (by assumption) ?_
    rotate_left 1
    · intro w' hS'; obtain ⟨c0, c1, c2, c3, c4, c5⟩ := hS'; go_simp; try with_reducible rfl
    try simp only [Act.put, List.setIfInBounds_toArray, List.set_cons_zero, List.set_cons_succ]
    refine tail_end (by kernel_rfl) ?_
    unfold OnlyN
    gi_wp2_with fail
    refine ⟨by simp, .inl ⟨_, _, rfl, run_takeDeferred (w := W.drew) hK, ?_⟩⟩
    have ht : Turn w5.heap.size W _ := turn_put (.deferred none) hK rfl hDd
    have hsp2 := HSW.out.turn ht (by omega)
    refine ⟨_, results_tmp rfl _ _ _, ?_, hsp2.bel.os, hsp2.bel.tape, hsp2.bel.output, hsp2.bel.size, hsp2.bel.block⟩
    exact ret_bool HF.out.symm
  case stop =>
    rintro Dd c pre W hDd hpre h hK
    exact h.elim
end Go.Proofs.YtlphodhecaagbaaGreat

namespace Go.Proofs.YtlphodhecaagbaaGreat
open Go.RowKit
set_option linter.unusedSimpArgs false
set_option linter.unusedVariables false

/-- A function of a layout and two lists: its contract. -/
def E2 (f : Nat) (p k g D K C : Int) (z z' : List Int) (Post : World → Ending → World → Prop) : Prop :=
  ∀ (A : Option Addr) (n c : Nat) (A' : Option Addr) (n' c' B : Nat) (w : World), Ints .i64 w B A n z → Ints .i64 w B A' n' z' → B ≤ w.heap.size → Calls Tryz.prog f #[.agg #[.int .i64 p, .int .i64 k, .int .i64 g, .int .i64 D, .int .i64 K, .int .i64 C], .slice A n c, .slice A' n' c'] w (Post w)
def GivesBI (b : Bool) (cd : Int) (w : World) (x : Ending) (w' : World) : Prop := x = .returned (.tuple #[.bool b, .int .i64 cd]) ∧ Below w.heap.size w w'
theorem idx_pw {l : Nat} {zs : List Int} (h : idxB l zs = true) : zs.Pairwise (· < ·) := by
  obtain ⟨J, rfl, hJ, _⟩ := idx_open h
  unfold nv
  exact List.pairwise_map.2 (hJ.imp fun h => by omega)

set_option maxRecDepth 100000 in
set_option maxHeartbeats 4000000 in
theorem sdS_bad (p k g D K C : Int) (z z' : List Int) (hz : z.length ≤ 1048576) (hz' : z'.length ≤ 1048576) (h : layB p k g D K C = false) : E2 19 p k g D K C z z' (GivesBI false 1) := by
  intro A n c A' n' c' B w hI hJ hB
  have HX := hide (YBox.start w p k g D K C)
  obtain ⟨c0, c1, c2, c3, c4, c5⟩ := HX.out.cells
  have hn : n ≤ 1048576 := by rw [← hI.len]; exact hz
  have hn' : n' ≤ 1048576 := by rw [← hJ.len]; exact hz'
  have HI := hide hI
  have HJ := hide hJ
  clear hI hJ
  have HV := hide (fun w' => specIsLayout p k g D K C w')
  rw [h] at HV
  go_enter Tryz.func19, Tryz.ntmps19
  go_wp2_with fail
  refine (HV.out _).mono ?_
  rintro x w1 ⟨rfl, hb1⟩
  have HX1 := hide (HX.out.next hb1)
  clear hb1 c0 c1 c2 c3 c4 c5
  obtain ⟨c0, c1, c2, c3, c4, c5⟩ := HX1.out.cells
  go_wp2_with fail
  go_ret2
  exact ⟨rfl, HX1.out.2⟩

set_option maxRecDepth 100000 in
set_option maxHeartbeats 4000000 in
theorem sdI_bad (p k g D K C : Int) (hD : -9223372036854775808 ≤ D ∧ D ≤ 9223372036854775807) (hC : -9223372036854775808 ≤ C ∧ C ≤ 9223372036854775807) (z z' : List Int) (hz : z.length ≤ 1048576) (hz' : z'.length ≤ 1048576) (h : layB p k g D K C = false) : E2 18 p k g D K C z z' (GivesBI false 1) := by
  intro A n c A' n' c' B w hI hJ hB
  have HX := hide (YBox.start w p k g D K C)
  obtain ⟨c0, c1, c2, c3, c4, c5⟩ := HX.out.cells
  have hn : n ≤ 1048576 := by rw [← hI.len]; exact hz
  have hn' : n' ≤ 1048576 := by rw [← hJ.len]; exact hz'
  have HI := hide hI
  have HJ := hide hJ
  clear hI hJ
  have HV := hide (fun w' => implLayValid p k g D K C w' hC hD)
  rw [h] at HV
  go_enter Tryz.func18, Tryz.ntmps18
  go_wp2_with fail
  refine (HV.out _).mono ?_
  rintro x w1 ⟨rfl, hb1⟩
  have HX1 := hide (HX.out.next hb1)
  clear hb1 c0 c1 c2 c3 c4 c5
  obtain ⟨c0, c1, c2, c3, c4, c5⟩ := HX1.out.cells
  go_wp2_with fail
  go_ret2
  exact ⟨rfl, HX1.out.2⟩

set_option maxRecDepth 100000 in
set_option maxHeartbeats 4000000 in
theorem sdS_no1 {R : Fld} {γ : El R} {p k g : Int} {D K C : Nat} (h : LayIs R γ p k g D K C) (z z' : List Int) (hz : z.length ≤ 1048576) (hz' : z'.length ≤ 1048576) (hm : idxB ((D + C * K : Nat) : Int) z = false) : E2 19 p k g D K C z z' (GivesBI false 5) := by
  intro A n c A' n' c' B w hI hJ hB
  have HX := hide (YBox.start w p k g D K C)
  obtain ⟨c0, c1, c2, c3, c4, c5⟩ := HX.out.cells
  have hn : n ≤ 1048576 := by rw [← hI.len]; exact hz
  have hn' : n' ≤ 1048576 := by rw [← hJ.len]; exact hz'
  have HI := hide hI
  have HJ := hide hJ
  clear hI hJ
  have h4 := h.tot
  have HV := hide (fun w' => specIsLayout p k g D K C w')
  rw [layB_is h] at HV
  have HT := hide (fun w' => specTotal p k g D K C ((D + C * K : Nat) : Int) (stN_is h) w')
  obtain ⟨N, hN⟩ : ∃ N, D + C * K = N := ⟨_, rfl⟩
  rw [hN] at HT h4 hm
  go_enter Tryz.func19, Tryz.ntmps19
  go_wp2_with fail
  refine (HV.out _).mono ?_
  rintro x w1 ⟨rfl, hb1⟩
  have HX1 := hide (HX.out.next hb1)
  clear hb1 c0 c1 c2 c3 c4 c5
  obtain ⟨c0, c1, c2, c3, c4, c5⟩ := HX1.out.cells
  go_wp2_with fail
  refine (HT.out _).mono ?_
  rintro x w2 ⟨rfl, hb2⟩
  have HX2 := hide (HX1.out.next hb2)
  clear hb2 c0 c1 c2 c3 c4 c5
  obtain ⟨c0, c1, c2, c3, c4, c5⟩ := HX2.out.cells
  go_wp2_with fail
  refine (specMarks (N : Int) (by omega) (by omega) A n c B z _ (HI.out.below (HX2.out.2.mono hB)) (Nat.le_trans hB (Nat.le_of_lt HX2.out.lt)) (by omega)).mono ?_
  rw [hm]
  rintro x w3 ⟨rfl, hb3⟩
  have HX3 := hide (HX2.out.next hb3)
  clear hb3 c0 c1 c2 c3 c4 c5
  obtain ⟨c0, c1, c2, c3, c4, c5⟩ := HX3.out.cells
  go_wp2_with fail
  go_ret2
  exact ⟨rfl, HX3.out.2⟩

set_option maxRecDepth 100000 in
set_option maxHeartbeats 4000000 in
theorem sdI_no1 {R : Fld} {γ : El R} {p k g : Int} {D K C : Nat} (h : LayIs R γ p k g D K C) (z z' : List Int) (hz : z.length ≤ 1048576) (hz' : z'.length ≤ 1048576) (hm : idxB ((D + C * K : Nat) : Int) z = false) : E2 18 p k g D K C z z' (GivesBI false 5) := by
  intro A n c A' n' c' B w hI hJ hB
  have HX := hide (YBox.start w p k g D K C)
  obtain ⟨c0, c1, c2, c3, c4, c5⟩ := HX.out.cells
  have hn : n ≤ 1048576 := by rw [← hI.len]; exact hz
  have hn' : n' ≤ 1048576 := by rw [← hJ.len]; exact hz'
  have HI := hide hI
  have HJ := hide hJ
  clear hI hJ
  have h2 := h.c16; have h4 := h.tot; have h6 := h.d1500
  have HV := hide (fun w' => implLayValid p k g D K C w' (by omega) (by omega))
  rw [layB_is h] at HV
  have HT := hide (fun w' => implStreamLen p k g D K C ((D + C * K : Nat) : Int) (stN_is h) w')
  obtain ⟨N, hN⟩ : ∃ N, D + C * K = N := ⟨_, rfl⟩
  rw [hN] at HT h4 hm
  go_enter Tryz.func18, Tryz.ntmps18
  go_wp2_with fail
  refine (HV.out _).mono ?_
  rintro x w1 ⟨rfl, hb1⟩
  have HX1 := hide (HX.out.next hb1)
  clear hb1 c0 c1 c2 c3 c4 c5
  obtain ⟨c0, c1, c2, c3, c4, c5⟩ := HX1.out.cells
  go_wp2_with fail
  refine (implHasI p k g D K C (N : Int) (by omega) HT.out A n c B z _ (HI.out.below (HX1.out.2.mono hB)) (Nat.le_trans hB (Nat.le_of_lt HX1.out.lt)) (by omega)).mono ?_
  rw [hm]
  rintro x w3 ⟨rfl, hb3⟩
  have HX3 := hide (HX1.out.next hb3)
  clear hb3 c0 c1 c2 c3 c4 c5
  obtain ⟨c0, c1, c2, c3, c4, c5⟩ := HX3.out.cells
  go_wp2_with fail
  go_ret2
  exact ⟨rfl, HX3.out.2⟩

set_option maxRecDepth 100000 in
set_option maxHeartbeats 4000000 in
theorem sdS_no2 {R : Fld} {γ : El R} {p k g : Int} {D K C : Nat} (h : LayIs R γ p k g D K C) (z z' : List Int) (hz : z.length ≤ 1048576) (hz' : z'.length ≤ 1048576) (hm : idxB ((D + C * K : Nat) : Int) z = true) (hm' : idxB ((D + C * K : Nat) : Int) z' = false) : E2 19 p k g D K C z z' (GivesBI false 5) := by
  intro A n c A' n' c' B w hI hJ hB
  have HX := hide (YBox.start w p k g D K C)
  obtain ⟨c0, c1, c2, c3, c4, c5⟩ := HX.out.cells
  have hn : n ≤ 1048576 := by rw [← hI.len]; exact hz
  have hn' : n' ≤ 1048576 := by rw [← hJ.len]; exact hz'
  have HI := hide hI
  have HJ := hide hJ
  clear hI hJ
  have h4 := h.tot
  have HV := hide (fun w' => specIsLayout p k g D K C w')
  rw [layB_is h] at HV
  have HT := hide (fun w' => specTotal p k g D K C ((D + C * K : Nat) : Int) (stN_is h) w')
  obtain ⟨N, hN⟩ : ∃ N, D + C * K = N := ⟨_, rfl⟩
  rw [hN] at HT h4 hm hm'
  go_enter Tryz.func19, Tryz.ntmps19
  go_wp2_with fail
  refine (HV.out _).mono ?_
  rintro x w1 ⟨rfl, hb1⟩
  have HX1 := hide (HX.out.next hb1)
  clear hb1 c0 c1 c2 c3 c4 c5
  obtain ⟨c0, c1, c2, c3, c4, c5⟩ := HX1.out.cells
  go_wp2_with fail
  refine (HT.out _).mono ?_
  rintro x w2 ⟨rfl, hb2⟩
  have HX2 := hide (HX1.out.next hb2)
  clear hb2 c0 c1 c2 c3 c4 c5
  obtain ⟨c0, c1, c2, c3, c4, c5⟩ := HX2.out.cells
  go_wp2_with fail
  refine (specMarks (N : Int) (by omega) (by omega) A n c B z _ (HI.out.below (HX2.out.2.mono hB)) (Nat.le_trans hB (Nat.le_of_lt HX2.out.lt)) (by omega)).mono ?_
  rw [hm]
  rintro x w3 ⟨rfl, hb3⟩
  have HX3 := hide (HX2.out.next hb3)
  clear hb3 c0 c1 c2 c3 c4 c5
  obtain ⟨c0, c1, c2, c3, c4, c5⟩ := HX3.out.cells
  go_wp2_with fail
  refine (HT.out _).mono ?_
  rintro x w4 ⟨rfl, hb4⟩
  have HX4 := hide (HX3.out.next hb4)
  clear hb4 c0 c1 c2 c3 c4 c5
  obtain ⟨c0, c1, c2, c3, c4, c5⟩ := HX4.out.cells
  go_wp2_with fail
  refine (specMarks (N : Int) (by omega) (by omega) A' n' c' B z' _ (HJ.out.below (HX4.out.2.mono hB)) (Nat.le_trans hB (Nat.le_of_lt HX4.out.lt)) (by omega)).mono ?_
  rw [hm']
  rintro x w5 ⟨rfl, hb5⟩
  have HX5 := hide (HX4.out.next hb5)
  clear hb5 c0 c1 c2 c3 c4 c5
  obtain ⟨c0, c1, c2, c3, c4, c5⟩ := HX5.out.cells
  go_wp2_with fail
  go_ret2
  exact ⟨rfl, HX5.out.2⟩

set_option maxRecDepth 100000 in
set_option maxHeartbeats 4000000 in
theorem sdI_no2 {R : Fld} {γ : El R} {p k g : Int} {D K C : Nat} (h : LayIs R γ p k g D K C) (z z' : List Int) (hz : z.length ≤ 1048576) (hz' : z'.length ≤ 1048576) (hm : idxB ((D + C * K : Nat) : Int) z = true) (hm' : idxB ((D + C * K : Nat) : Int) z' = false) : E2 18 p k g D K C z z' (GivesBI false 5) := by
  intro A n c A' n' c' B w hI hJ hB
  have HX := hide (YBox.start w p k g D K C)
  obtain ⟨c0, c1, c2, c3, c4, c5⟩ := HX.out.cells
  have hn : n ≤ 1048576 := by rw [← hI.len]; exact hz
  have hn' : n' ≤ 1048576 := by rw [← hJ.len]; exact hz'
  have HI := hide hI
  have HJ := hide hJ
  clear hI hJ
  have h2 := h.c16; have h4 := h.tot; have h6 := h.d1500
  have HV := hide (fun w' => implLayValid p k g D K C w' (by omega) (by omega))
  rw [layB_is h] at HV
  have HT := hide (fun w' => implStreamLen p k g D K C ((D + C * K : Nat) : Int) (stN_is h) w')
  obtain ⟨N, hN⟩ : ∃ N, D + C * K = N := ⟨_, rfl⟩
  rw [hN] at HT h4 hm hm'
  go_enter Tryz.func18, Tryz.ntmps18
  go_wp2_with fail
  refine (HV.out _).mono ?_
  rintro x w1 ⟨rfl, hb1⟩
  have HX1 := hide (HX.out.next hb1)
  clear hb1 c0 c1 c2 c3 c4 c5
  obtain ⟨c0, c1, c2, c3, c4, c5⟩ := HX1.out.cells
  go_wp2_with fail
  refine (implHasI p k g D K C (N : Int) (by omega) HT.out A n c B z _ (HI.out.below (HX1.out.2.mono hB)) (Nat.le_trans hB (Nat.le_of_lt HX1.out.lt)) (by omega)).mono ?_
  rw [hm]
  rintro x w3 ⟨rfl, hb3⟩
  have HX3 := hide (HX1.out.next hb3)
  clear hb3 c0 c1 c2 c3 c4 c5
  obtain ⟨c0, c1, c2, c3, c4, c5⟩ := HX3.out.cells
  go_wp2_with fail
  refine (implHasI p k g D K C (N : Int) (by omega) HT.out A' n' c' B z' _ (HJ.out.below (HX3.out.2.mono hB)) (Nat.le_trans hB (Nat.le_of_lt HX3.out.lt)) (by omega)).mono ?_
  rw [hm']
  rintro x w5 ⟨rfl, hb5⟩
  have HX5 := hide (HX3.out.next hb5)
  clear hb5 c0 c1 c2 c3 c4 c5
  obtain ⟨c0, c1, c2, c3, c4, c5⟩ := HX5.out.cells
  go_wp2_with fail
  go_ret2
  exact ⟨rfl, HX5.out.2⟩

set_option maxRecDepth 100000 in
set_option maxHeartbeats 4000000 in
theorem sdI_val {R : Fld} {γ : El R} {p k g : Int} {D K C : Nat} (h : LayIs R γ p k g D K C) (z z' : List Int) (hz : z.length ≤ 1048576) (hz' : z'.length ≤ 1048576) (hm : idxB ((D + C * K : Nat) : Int) z = true) (hm' : idxB ((D + C * K : Nat) : Int) z' = true) : E2 18 p k g D K C z z' (GivesBI (decide (∀ k, k < C → dsum D C z z' (List.range (D + C * K)) k ≤ K)) 0) := by
  intro A n c A' n' c' B w hI hJ hB
  have HX := hide (YBox.start w p k g D K C)
  obtain ⟨c0, c1, c2, c3, c4, c5⟩ := HX.out.cells
  have hn : n ≤ 1048576 := by rw [← hI.len]; exact hz
  have hn' : n' ≤ 1048576 := by rw [← hJ.len]; exact hz'
  have HI := hide hI
  have HJ := hide hJ
  clear hI hJ
  have HSW := hide (fun (w' : World) (hI' : Ints .i64 w' B A n z) (hJ' : Ints .i64 w' B A' n' z') (hB' : B ≤ w'.heap.size) => implStays h A A' n c n' c' B z z' w' hI' hJ' hB' (by omega) (by omega) (idx_pw hm) (idx_pw hm'))
  obtain ⟨bb, hbb⟩ : ∃ bb, decide (∀ k, k < C → dsum D C z z' (List.range (D + C * K)) k ≤ K) = bb := ⟨_, rfl⟩
  rw [hbb] at HSW ⊢
  clear hbb
  have h2 := h.c16; have h4 := h.tot; have h6 := h.d1500
  have HV := hide (fun w' => implLayValid p k g D K C w' (by omega) (by omega))
  rw [layB_is h] at HV
  have HT := hide (fun w' => implStreamLen p k g D K C ((D + C * K : Nat) : Int) (stN_is h) w')
  obtain ⟨N, hN⟩ : ∃ N, D + C * K = N := ⟨_, rfl⟩
  rw [hN] at HT h4 hm hm'
  go_enter Tryz.func18, Tryz.ntmps18
  go_wp2_with fail
  refine (HV.out _).mono ?_
  rintro x w1 ⟨rfl, hb1⟩
  have HX1 := hide (HX.out.next hb1)
  clear hb1 c0 c1 c2 c3 c4 c5
  obtain ⟨c0, c1, c2, c3, c4, c5⟩ := HX1.out.cells
  go_wp2_with fail
  refine (implHasI p k g D K C (N : Int) (by omega) HT.out A n c B z _ (HI.out.below (HX1.out.2.mono hB)) (Nat.le_trans hB (Nat.le_of_lt HX1.out.lt)) (by omega)).mono ?_
  rw [hm]
  rintro x w3 ⟨rfl, hb3⟩
  have HX3 := hide (HX1.out.next hb3)
  clear hb3 c0 c1 c2 c3 c4 c5
  obtain ⟨c0, c1, c2, c3, c4, c5⟩ := HX3.out.cells
  go_wp2_with fail
  refine (implHasI p k g D K C (N : Int) (by omega) HT.out A' n' c' B z' _ (HJ.out.below (HX3.out.2.mono hB)) (Nat.le_trans hB (Nat.le_of_lt HX3.out.lt)) (by omega)).mono ?_
  rw [hm']
  rintro x w5 ⟨rfl, hb5⟩
  have HX5 := hide (HX3.out.next hb5)
  clear hb5 c0 c1 c2 c3 c4 c5
  obtain ⟨c0, c1, c2, c3, c4, c5⟩ := HX5.out.cells
  go_wp2_with fail
  refine (HSW.out _ (HI.out.below (HX5.out.2.mono hB)) (HJ.out.below (HX5.out.2.mono hB)) (Nat.le_trans hB (Nat.le_of_lt HX5.out.lt))).mono ?_
  rintro x w6 ⟨rfl, hb6⟩
  have HX6 := hide (HX5.out.next hb6)
  clear hb6 c0 c1 c2 c3 c4 c5
  obtain ⟨c0, c1, c2, c3, c4, c5⟩ := HX6.out.cells
  go_wp2_with fail
  go_ret2
  exact ⟨rfl, HX6.out.2⟩

def D1Rel (D C N : Nat) (ds es : List Int) (w2 : World) (i : Value) (wr : World) : Prop :=
  ∃ j : Nat, j ≤ N ∧ i = .int .i64 j ∧ Own wr w2.heap.size 2 .i64 (.slice (some ⟨w2.heap.size, 0, none⟩) C C) (dmgZ C D C ds es (List.range j)) ∧ Below w2.heap.size w2 wr
def D2Rel (D C K N : Nat) (ds es : List Int) (w2 : World) (i : Value) (wr : World) : Prop :=
  ∃ j : Nat, j ≤ C ∧ i = .int .i64 j ∧ Own wr w2.heap.size 2 .i64 (.slice (some ⟨w2.heap.size, 0, none⟩) C C) (dmgZ C D C ds es (List.range N)) ∧ Hid (∀ k, k < j → dsum D C ds es (List.range N) k ≤ K) ∧ Below w2.heap.size w2 wr

set_option maxRecDepth 100000 in
set_option maxHeartbeats 4000000 in
theorem sdS_val {R : Fld} {γ : El R} {p k g : Int} {D K C : Nat} (h : LayIs R γ p k g D K C) (z z' : List Int) (hz : z.length ≤ 1048576) (hz' : z'.length ≤ 1048576) (hm : idxB ((D + C * K : Nat) : Int) z = true) (hm' : idxB ((D + C * K : Nat) : Int) z' = true) : E2 19 p k g D K C z z' (GivesBI (decide (∀ k, k < C → dsum D C z z' (List.range (D + C * K)) k ≤ K)) 0) := by
  intro A n c A' n' c' B w hI hJ hB
  have HX := hide (YBox.start w p k g D K C)
  obtain ⟨c0, c1, c2, c3, c4, c5⟩ := HX.out.cells
  have hn : n ≤ 1048576 := by rw [← hI.len]; exact hz
  have hn' : n' ≤ 1048576 := by rw [← hJ.len]; exact hz'
  have HI := hide hI
  have HJ := hide hJ
  clear hI hJ
  have h1 := h.c1; have h2 := h.c16; have h3 := h.cd; have h5 := h.k1; have h6 := h.d1500
  have h4 := h.tot
  have HV := hide (fun w' => specIsLayout p k g D K C w')
  rw [layB_is h] at HV
  have HT := hide (fun w' => specTotal p k g D K C ((D + C * K : Nat) : Int) (stN_is h) w')
  obtain ⟨N, hN⟩ : ∃ N, D + C * K = N := ⟨_, rfl⟩
  rw [hN] at HT h4 hm hm'
  have HOR := hide (fun w' => specOrder p k g D K C h1 h2 h3 (by omega) (by omega) w')
  rw [hN] at HOR ⊢
  have HNN := hide hN
  clear hN h
  go_enter Tryz.func19, Tryz.ntmps19
  go_wp2_with fail
  refine (HV.out _).mono ?_
  rintro x w1 ⟨rfl, hb1⟩
  have HX1 := hide (HX.out.next hb1)
  clear hb1 c0 c1 c2 c3 c4 c5
  obtain ⟨c0, c1, c2, c3, c4, c5⟩ := HX1.out.cells
  go_wp2_with fail
  refine (HT.out _).mono ?_
  rintro x w2 ⟨rfl, hb2⟩
  have HX2 := hide (HX1.out.next hb2)
  clear hb2 c0 c1 c2 c3 c4 c5
  obtain ⟨c0, c1, c2, c3, c4, c5⟩ := HX2.out.cells
  go_wp2_with fail
  refine (specMarks (N : Int) (by omega) (by omega) A n c B z _ (HI.out.below (HX2.out.2.mono hB)) (Nat.le_trans hB (Nat.le_of_lt HX2.out.lt)) (by omega)).mono ?_
  rw [hm]
  rintro x w3 ⟨rfl, hb3⟩
  have HX3 := hide (HX2.out.next hb3)
  clear hb3 c0 c1 c2 c3 c4 c5
  obtain ⟨c0, c1, c2, c3, c4, c5⟩ := HX3.out.cells
  go_wp2_with fail
  refine (HT.out _).mono ?_
  rintro x w4 ⟨rfl, hb4⟩
  have HX4 := hide (HX3.out.next hb4)
  clear hb4 c0 c1 c2 c3 c4 c5
  obtain ⟨c0, c1, c2, c3, c4, c5⟩ := HX4.out.cells
  go_wp2_with fail
  refine (specMarks (N : Int) (by omega) (by omega) A' n' c' B z' _ (HJ.out.below (HX4.out.2.mono hB)) (Nat.le_trans hB (Nat.le_of_lt HX4.out.lt)) (by omega)).mono ?_
  rw [hm']
  rintro x w5 ⟨rfl, hb5⟩
  have HX5 := hide (HX4.out.next hb5)
  clear hb5 c0 c1 c2 c3 c4 c5
  obtain ⟨c0, c1, c2, c3, c4, c5⟩ := HX5.out.cells
  go_wp2_with fail
  refine (HOR.out _).mono ?_
  rintro e w6 ⟨vo, os, rfl, hmo, hb6⟩
  have HX6 := hide (HX5.out.next hb6)
  have HMO := hide hmo
  have hN0 : 0 < N := by have := HNN.out; omega
  obtain ⟨go, co, rfl, hgo1, hgo2, hgo3⟩ := HMO.out.form hN0
  clear hmo hb6 c0 c1 c2 c3 c4 c5 HX HX1 HX2 HX3 HX4 HX5 HV HT HOR
  obtain ⟨c0, c1, c2, c3, c4, c5⟩ := HX6.out.cells
  obtain ⟨ti, hi, hz0, hz1, hz2⟩ := info_parts elem64.info
  obtain ⟨w7, hrun, ho, hg⟩ := run_make_full (P := Tryz.prog) w6 w6.heap.size 28 2 ti _ 1 Tryz.underlying28 hi hz0 hz1 .i64 .i64 C (by rw [hz2]; omega) (by simp only [maxLen]; omega) (Nat.le_refl _)
  have hb7 : Below w6.heap.size w6 w7 := (Below.refl w6.heap.size w6).grown hg (Nat.le_refl _) (by simp)
  have HO7 := hide (made_own ho)
  rw [← dmgZ_nil C D C z z'] at HO7
  have HB7 := hide hb7
  clear ho hg hi hz0 hz1 hz2 hb7
  go_wp2_with fail
  have hwB : w.heap.size < w6.heap.size := HX6.out.lt
  clear hrun c0 c1 c2 c3 c4 c5
  go_loopw [10] (fun i wr => D1Rel D C N z z' w6 i wr) (fun i _ => N - (intOf i).toNat)
  case atStart => exact ⟨0, Nat.zero_le _, rfl, HO7.out, HB7.out⟩
  case round =>
    clear HO7 HB7
    obtain ⟨j, hj, rfl, ho, hbl⟩ := hrel
    have HO := hide ho
    have HBL := hide hbl
    clear ho hbl
    have HXr := hide (HX6.out.next HBL.out)
    by_cases hlt : j < N
    · have hjN : j < D + C * K := by rw [HNN.out]; exact hlt
      have hpk := pair_lt (D := D) h1 j
      obtain ⟨Ao, mo, hos, hoc, hoo, hom⟩ := (HMO.out.below HBL.out (Nat.le_refl _)).at_ hlt
      obtain ⟨ro, mo', hA, hro1, hro2, _⟩ := hoo.some_ (show 0 < 2 by decide)
      simp only [Value.slice.injEq] at hA
      obtain ⟨rfl, _, rfl⟩ := hA
      have hmo2 : 2 ≤ mo := hom
      have d0 : wr.cell? ⟨go, j, none⟩ = some (.slice (some ⟨ro, 0, none⟩) 2 mo) := hoc
      have d1 : wr.cell? ⟨ro, 0, none⟩ = some (.int .i64 ((pairOf D C j).1 : Nat)) := hoo.cellAt (j := 0) rfl
      obtain ⟨px, hpx⟩ : ∃ q, (pairOf D C j).1 = q := ⟨_, rfl⟩
      rw [hpx] at hpk d1
      have HPX := hide hpx
      have hdl := dsum_le D C z z' (List.range j) px
      rw [List.length_range] at hdl
      have hcx := HO.out.cellAt (dmgZ_at (n := C) (D := D) (C := C) (ds := z) (es := z') (l := List.range j) hpk)
      have hfx := HO.out.frozenAt px
      obtain ⟨e, he⟩ : ∃ e, dsum D C z z' (List.range j) px = e := ⟨_, rfl⟩
      have HEE := hide he
      rw [he] at hcx hdl
      have HRS := hide (show List.range (j + 1) = List.range j ++ [j] from List.range_succ)
      have HIW := hide (HI.out.below (HXr.out.2.mono hB))
      have HJW := hide (HJ.out.below (HXr.out.2.mono hB))
      clear hpx hos hoc hoo he
      rcases hm1 : decide ((j : Int) ∈ z') with _ | _
      · rcases hm2 : decide ((j : Int) ∈ z) with _ | _
        · have HW := hide (show wtI z z' j = 0 by unfold wtI; rw [if_neg (of_decide_eq_false hm1), if_neg (of_decide_eq_false hm2)])
          go_wp2_with fail
          refine (specHas A' n' c' B z' j _ HJW.out (by omega)).mono ?_
          rw [hm1]
          rintro e' w8 ⟨rfl, rfl⟩
          go_wp2_with fail
          refine (specHas A n c B z j _ HIW.out (by omega)).mono ?_
          rw [hm2]
          rintro e' w8 ⟨rfl, rfl⟩
          go_wp2_with fail
          go_roundw
          case rel => exact ⟨j + 1, by omega, by go_num, by rw [HRS.out, dmgZ_keep HW.out]; exact HO.out, HBL.out⟩
          case measure => simp [intOf]; omega
        · have HW := hide (show wtI z z' j = 2 by unfold wtI; rw [if_neg (of_decide_eq_false hm1), if_pos (of_decide_eq_true hm2)])
          have hw1 : IntKind.i64.wrap ((e : Int) + 2) = (e : Int) + 2 := IntWalk.i64_in _ ⟨by omega, by omega⟩
          obtain ⟨hm5, hg5⟩ := HO.out.stored px ((e : Int) + 2)
          rw [show ((e : Int) + 2) = ((e + 2 : Nat) : Int) by omega, dmgZ_put (v := e + 2) HPX.out hpk (by rw [HEE.out, HW.out]), ← HRS.out] at hm5
          rw [show ((e + 2 : Nat) : Int) = (e : Int) + 2 by omega] at hm5
          have HO5 := hide hm5
          have HB5 := hide (HBL.out.grown hg5 HBL.out.size (fun r e => by injection e with e; omega))
          clear hm5 hg5
          go_wp2_with fail
          refine (specHas A' n' c' B z' j _ HJW.out (by omega)).mono ?_
          rw [hm1]
          rintro e' w8 ⟨rfl, rfl⟩
          go_wp2_with fail
          refine (specHas A n c B z j _ HIW.out (by omega)).mono ?_
          rw [hm2]
          rintro e' w8 ⟨rfl, rfl⟩
          go_wp2_with fail
          refine tail_begin (fun w' => w'.cell? ⟨go, j, none⟩ = some (.slice (some ⟨ro, 0, none⟩) 2 mo) ∧ w'.cell? ⟨ro, 0, none⟩ = some (.int .i64 (px : Nat)) ∧ w'.cell? ⟨w6.heap.size, px, none⟩ = some (.int .i64 (e : Int))) 18 (by kernel_rfl) ⟨d0, d1, hcx⟩ (fun hS' => ?_)
          refine tail_take 0 rfl (by kernel_rfl) (by kernel_rfl) (by kernel_rfl) (by kernel_rfl) (fun _ _ _ h => h) (by rfl) (v := ?_) ?_ (by assumption) ?_
          rotate_left 1
          · intro w' hS'; obtain ⟨q0, q1, q2⟩ := hS'; go_simp; try with_reducible rfl
          try simp only [Act.put, List.setIfInBounds_toArray, List.set_cons_zero, List.set_cons_succ]
          refine tail_take 1 rfl (by kernel_rfl) (by kernel_rfl) (by kernel_rfl) (by kernel_rfl) (fun _ _ _ h => h) (by rfl) (v := ?_) ?_ (by assumption) ?_
          rotate_left 1
          · intro w' hS'; obtain ⟨q0, q1, q2⟩ := hS'; go_simp; try with_reducible rfl
          try simp only [Act.put, List.setIfInBounds_toArray, List.set_cons_zero, List.set_cons_succ]
          refine tail_take 2 rfl (by kernel_rfl) (by kernel_rfl) (by kernel_rfl) (by kernel_rfl) (fun _ _ _ h => h) (by rfl) (v := ?_) ?_ (by assumption) ?_
          rotate_left 1
          · intro w' hS'; obtain ⟨q0, q1, q2⟩ := hS'; go_simp; try with_reducible rfl
          try simp only [Act.put, List.setIfInBounds_toArray, List.set_cons_zero, List.set_cons_succ]
          refine tail_take 3 rfl (by kernel_rfl) (by kernel_rfl) (by kernel_rfl) (by kernel_rfl) (fun _ _ _ h => h) (by rfl) (v := ?_) ?_ (by assumption) ?_
          rotate_left 1
          · intro w' hS'; obtain ⟨q0, q1, q2⟩ := hS'; go_simp; try with_reducible rfl
          try simp only [Act.put, List.setIfInBounds_toArray, List.set_cons_zero, List.set_cons_succ]
          refine tail_take 4 rfl (by kernel_rfl) (by kernel_rfl) (by kernel_rfl) (by kernel_rfl) (fun _ _ _ h => h) (by rfl) (v := ?_) ?_ (by assumption) ?_
          rotate_left 1
          · intro w' hS'; obtain ⟨q0, q1, q2⟩ := hS'; go_simp; try with_reducible rfl
          try simp only [Act.put, List.setIfInBounds_toArray, List.set_cons_zero, List.set_cons_succ]
          refine tail_take 5 rfl (by kernel_rfl) (by kernel_rfl) (by kernel_rfl) (by kernel_rfl) (fun _ _ _ h => h) (by rfl) (v := ?_) ?_ (by assumption) ?_
          rotate_left 1
          · intro w' hS'; obtain ⟨q0, q1, q2⟩ := hS'; go_simp; try with_reducible rfl
          try simp only [Act.put, List.setIfInBounds_toArray, List.set_cons_zero, List.set_cons_succ]
          refine tail_take 6 rfl (by kernel_rfl) (by kernel_rfl) (by kernel_rfl) (by kernel_rfl) (fun _ _ _ h => h) (by rfl) (v := ?_) ?_ (by assumption) ?_
          rotate_left 1
          · intro w' hS'; obtain ⟨q0, q1, q2⟩ := hS'; go_simp; try with_reducible rfl
          try simp only [Act.put, List.setIfInBounds_toArray, List.set_cons_zero, List.set_cons_succ]
          refine tail_take 7 rfl (by kernel_rfl) (by kernel_rfl) (by kernel_rfl) (by kernel_rfl) (fun _ _ _ h => h) (by rfl) (v := ?_) ?_ (by assumption) ?_
          rotate_left 1
          · intro w' hS'; obtain ⟨q0, q1, q2⟩ := hS'; go_simp; try with_reducible rfl
          try simp only [Act.put, List.setIfInBounds_toArray, List.set_cons_zero, List.set_cons_succ]
          refine tail_take 8 rfl (by kernel_rfl) (by kernel_rfl) (by kernel_rfl) (by kernel_rfl) (fun _ _ _ h => h) (by rfl) (v := ?_) ?_ (by assumption) ?_
          rotate_left 1
          · intro w' hS'; obtain ⟨q0, q1, q2⟩ := hS'; go_simp; try with_reducible rfl
          try simp only [Act.put, List.setIfInBounds_toArray, List.set_cons_zero, List.set_cons_succ]
          refine tail_take 9 rfl (by kernel_rfl) (by kernel_rfl) (by kernel_rfl) (by kernel_rfl) (fun _ _ _ h => h) (by rfl) (v := ?_) ?_ (by assumption) ?_
          rotate_left 1
          · intro w' hS'; obtain ⟨q0, q1, q2⟩ := hS'; go_simp; try with_reducible rfl
          try simp only [Act.put, List.setIfInBounds_toArray, List.set_cons_zero, List.set_cons_succ]
          refine tail_take 10 rfl (by kernel_rfl) (by kernel_rfl) (by kernel_rfl) (by kernel_rfl) (fun _ _ _ h => h) (by rfl) (v := ?_) ?_ (by assumption) ?_
          rotate_left 1
          · intro w' hS'; obtain ⟨q0, q1, q2⟩ := hS'; go_simp; try with_reducible rfl
          try simp only [Act.put, List.setIfInBounds_toArray, List.set_cons_zero, List.set_cons_succ]
          refine tail_take 11 rfl (by kernel_rfl) (by kernel_rfl) (by kernel_rfl) (by kernel_rfl) (fun _ _ _ h => h) (by rfl) (v := ?_) ?_ (by assumption) ?_
          rotate_left 1
          · intro w' hS'; obtain ⟨q0, q1, q2⟩ := hS'; go_simp; try with_reducible rfl
          try simp only [Act.put, List.setIfInBounds_toArray, List.set_cons_zero, List.set_cons_succ]
          refine tail_take 12 rfl (by kernel_rfl) (by kernel_rfl) (by kernel_rfl) (by kernel_rfl) (fun _ _ _ h => h) (by rfl) (v := ?_) ?_ (by assumption) ?_
          rotate_left 1
          · intro w' hS'; obtain ⟨q0, q1, q2⟩ := hS'; go_simp; try with_reducible rfl
          try simp only [Act.put, List.setIfInBounds_toArray, List.set_cons_zero, List.set_cons_succ]
          refine tail_take 13 rfl (by kernel_rfl) (by kernel_rfl) (by kernel_rfl) (by kernel_rfl) (fun _ _ _ h => h) (by rfl) (v := ?_) ?_ (by assumption) ?_
          rotate_left 1
          · intro w' hS'; obtain ⟨q0, q1, q2⟩ := hS'; go_simp; try with_reducible rfl
          try simp only [Act.put, List.setIfInBounds_toArray, List.set_cons_zero, List.set_cons_succ]
          refine tail_take 14 rfl (by kernel_rfl) (by kernel_rfl) (by kernel_rfl) (by kernel_rfl) (fun _ _ _ h => h) (by rfl) (v := ?_) ?_ (by assumption) ?_
          rotate_left 1
          · intro w' hS'; obtain ⟨q0, q1, q2⟩ := hS'; go_simp; try with_reducible rfl
          try simp only [Act.put, List.setIfInBounds_toArray, List.set_cons_zero, List.set_cons_succ]
          refine tail_take 15 rfl (by kernel_rfl) (by kernel_rfl) (by kernel_rfl) (by kernel_rfl) (fun _ _ _ h => h) (by rfl) (v := ?_) ?_ (by assumption) ?_
          rotate_left 1
          · intro w' hS'; obtain ⟨q0, q1, q2⟩ := hS'; go_simp; try with_reducible rfl
          try simp only [Act.put, List.setIfInBounds_toArray, List.set_cons_zero, List.set_cons_succ]
          refine tail_take 16 rfl (by kernel_rfl) (by kernel_rfl) (by kernel_rfl) (by kernel_rfl) (fun _ _ _ h => h) (by rfl) (v := ?_) ?_ (by assumption) ?_
          rotate_left 1
          · intro w' hS'; obtain ⟨q0, q1, q2⟩ := hS'; go_simp; try with_reducible rfl
          try simp only [Act.put, List.setIfInBounds_toArray, List.set_cons_zero, List.set_cons_succ]
          refine tail_take 17 rfl (by kernel_rfl) (by kernel_rfl) (by kernel_rfl) (by kernel_rfl) (fun _ _ _ h => h) (by rfl) (v := ?_) ?_ (by assumption) ?_
          rotate_left 1
          · intro w' hS'; obtain ⟨q0, q1, q2⟩ := hS'; go_simp; try with_reducible rfl
          try simp only [Act.put, List.setIfInBounds_toArray, List.set_cons_zero, List.set_cons_succ]
          obtain ⟨q0, q1, q2⟩ := hS'
          refine tail_last 18 rfl (by kernel_rfl) (by kernel_rfl) rfl rfl (fun K hK => ?_)
          go_simp
          refine hK.out _ _ ?_
          clear hK K
          try simp only [Act.put, List.setIfInBounds_toArray, List.set_cons_zero, List.set_cons_succ]
          go_wp2_with fail
          go_roundw
          case rel => exact ⟨j + 1, by omega, by go_num, HO5.out.drew, HB5.out.os, HB5.out.tape, HB5.out.output, HB5.out.size, HB5.out.block⟩
          case measure => simp [intOf]; omega
      · have HW := hide (show wtI z z' j = 1 by unfold wtI; rw [if_pos (of_decide_eq_true hm1)])
        have hw1 : IntKind.i64.wrap ((e : Int) + 1) = (e : Int) + 1 := IntWalk.i64_in _ ⟨by omega, by omega⟩
        obtain ⟨hm5, hg5⟩ := HO.out.stored px ((e : Int) + 1)
        rw [show ((e : Int) + 1) = ((e + 1 : Nat) : Int) by omega, dmgZ_put (v := e + 1) HPX.out hpk (by rw [HEE.out, HW.out]), ← HRS.out] at hm5
        rw [show ((e + 1 : Nat) : Int) = (e : Int) + 1 by omega] at hm5
        have HO5 := hide hm5
        have HB5 := hide (HBL.out.grown hg5 HBL.out.size (fun r e => by injection e with e; omega))
        clear hm5 hg5
        go_wp2_with fail
        refine (specHas A' n' c' B z' j _ HJW.out (by omega)).mono ?_
        rw [hm1]
        rintro e' w8 ⟨rfl, rfl⟩
        go_wp2_with fail
        go_roundw
        case rel => exact ⟨j + 1, by omega, by go_num, HO5.out, HB5.out⟩
        case measure => simp [intOf]; omega
    · obtain rfl : j = N := by omega
      go_wp2_with fail
      go_loopw [11] (fun i wr => D2Rel D C K j z z' w6 i wr) (fun i _ => C - (intOf i).toNat)
      case atStart => exact ⟨0, Nat.zero_le _, rfl, HO.out, (fun k hk => absurd hk (Nat.not_lt_zero k)), HBL.out⟩
      case round =>
        clear HO HBL HXr
        obtain ⟨b, hb, rfl, ho, HALL, hbl⟩ := hrel
        have HO := hide ho
        have HBL := hide hbl
        clear ho hbl
        have HXr := hide (HX6.out.next HBL.out)
        obtain ⟨c0, c1, c2, c3, c4, c5⟩ := HXr.out.cells
        by_cases hlt : b < C
        · have hcx := HO.out.cellAt (dmgZ_at (n := C) (D := D) (C := C) (ds := z) (es := z') (l := List.range j) hlt)
          obtain ⟨e, he⟩ : ∃ e, dsum D C z z' (List.range j) b = e := ⟨_, rfl⟩
          have HEE := hide he
          rw [he] at hcx
          clear he
          by_cases heK : K < e
          · have hz1 : ((K : Int) < (e : Int)) := by omega
            have HF := hide (show decide (∀ k, k < C → dsum D C z z' (List.range j) k ≤ K) = false from decide_eq_false fun hall => by
              have := hall b hlt; rw [HEE.out] at this; omega)
            go_wp2_with fail
            go_quiet (fail)
            go_wp2_with fail
            go_ret2
            exact ⟨by rw [HF.out]; rfl, below_drewN HXr.out.2 _⟩
          · have hz1 : ¬ ((K : Int) < (e : Int)) := by omega
            go_wp2_with fail
            go_quiet (fail)
            go_wp2_with fail
            go_roundw
            case rel => exact ⟨b + 1, by omega, by go_num, HO.out.drewN _, (fun k hk => by
              rcases Nat.lt_or_ge k b with hh | hh
              · exact HALL.out k hh
              · obtain rfl : k = b := by omega
                rw [HEE.out]; omega), below_drewN HBL.out _⟩
            case measure => simp [intOf]; omega
        · obtain rfl : b = C := by omega
          have HF := hide (show decide (∀ k, k < b → dsum D b z z' (List.range j) k ≤ K) = true from decide_eq_true HALL.out)
          go_wp2_with fail
          go_ret2
          exact ⟨by rw [HF.out]; rfl, HXr.out.2⟩

theorem sd_both (p k g D K C : Int) (z z' : List Int) (hz : z.length ≤ 1048576) (hz' : z'.length ≤ 1048576) (hD : -9223372036854775808 ≤ D ∧ D ≤ 9223372036854775807) (hC : -9223372036854775808 ≤ C ∧ C ≤ 9223372036854775807) :
    ∃ (cd : Int) (b : Bool), E2 19 p k g D K C z z' (GivesBI b cd) ∧ E2 18 p k g D K C z z' (GivesBI b cd) := by
  rcases h : layB p k g D K C with _ | _
  · exact ⟨1, false, sdS_bad p k g D K C z z' hz hz' h, sdI_bad p k g D K C hD hC z z' hz hz' h⟩
  · obtain ⟨R, γ, d, c, m, rfl, rfl, rfl, hI⟩ := layB_open h
    rcases hm : idxB ((d + m * c : Nat) : Int) z with _ | _
    · exact ⟨5, false, sdS_no1 hI z z' hz hz' hm, sdI_no1 hI z z' hz hz' hm⟩
    · rcases hm' : idxB ((d + m * c : Nat) : Int) z' with _ | _
      · exact ⟨5, false, sdS_no2 hI z z' hz hz' hm hm', sdI_no2 hI z z' hz hz' hm hm'⟩
      · exact ⟨0, _, sdS_val hI z z' hz hz' hm hm', sdI_val hI z z' hz hz' hm hm'⟩
end Go.Proofs.YtlphodhecaagbaaGreat
