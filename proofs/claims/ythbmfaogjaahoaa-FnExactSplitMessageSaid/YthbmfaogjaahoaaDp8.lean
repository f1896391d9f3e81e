/-
  The program's table of best cells, filled from the back.
  Condition: as each statement says.
-/
import Derived.Test.YthbmfaogjaahoaaDp7
namespace Go.Proofs.Ythbmfaogjaahoaa
open Go Go.RowKit
set_option linter.unusedSimpArgs false
set_option linter.unusedVariables false

theorem apartQ {w : World} {b N base n : Nat} {t : Nat → Cel} {v : Value} {f : Nat → Value} (h : RowQ w b 148 N t) (h' : OwnQ w base v n f) : v.ownBlock = none ∨ v.ownBlock ≠ some b := by
  obtain ⟨cs, hb, _⟩ := h
  rcases h'.2 with ⟨rfl, _⟩ | ⟨g, cap, cur, rfl, _, hg, _⟩
  · exact .inl rfl
  · refine .inr fun e => ?_
    simp only [Value.ownBlock, Option.some.injEq] at e
    subst e; rw [hb] at hg; cases hg
theorem apartI {w : World} {b N base : Nat} {t : Nat → Cel} {v : Value} {zs : List Int} (h : RowQ w b 148 N t) (h' : Go.Proofs.Ythbmfaogjaahoaa.Own w base 2 .i64 v zs) : v.ownBlock = none ∨ v.ownBlock ≠ some b := by
  obtain ⟨cs, hb, _⟩ := h
  rcases h'.2 with ⟨rfl, _⟩ | ⟨g, cap, cur, rfl, _, hg, _⟩
  · exact .inl rfl
  · refine .inr fun e => ?_
    simp only [Value.ownBlock, Option.some.injEq] at e
    subst e; rw [hb] at hg; cases hg
theorem OwnQ.low {w : World} {base base' n : Nat} {v : Value} {f : Nat → Value} (h : OwnQ w base v n f) (hb : base' ≤ base) : OwnQ w base' v n f := by
  refine ⟨h.1, ?_⟩
  rcases h.2 with h0 | ⟨g, cap, cur, h1, h2, h3⟩
  · exact .inl h0
  · exact .inr ⟨g, cap, cur, h1, Nat.le_trans hb h2, h3⟩
/-- What lies beside the table: the reaches and their lengths, and the result. -/
structure Beside (w : World) (b nl : Nat) (gs : Nat → Nat) (v : Value) (Z : Array Value) (sz : Nat → Nat) (t : Nat → Cel) (wr : World) : Prop where
  row : RowQ wr b 148 401 t
  own : OwnQ wr w.heap.size v 4 (rcv gs nl sz)
  len : ∀ j, j < 4 → Go.Proofs.Ythbmfaogjaahoaa.Own wr w.heap.size 2 .i64 (.slice (some ⟨gs j, 0, none⟩) nl nl) (lenL (j + 1) nl)
  res : wr.heap[w.heap.size]? = some (.cells Z 148 (0, 0))
  bel : Below w.heap.size w wr
theorem Beside.next {w wr wx : World} {b nl : Nat} {gs : Nat → Nat} {v : Value} {Z : Array Value} {sz : Nat → Nat} {t : Nat → Cel} (h : Beside w b nl gs v Z sz t wr) (hb : Below wr.heap.size wr wx) : Beside w b nl gs v Z sz t wx :=
  ⟨h.row.next hb, h.own.next hb, fun j hj => (h.len j hj).below hb (Nat.le_refl _), heap_next h.res hb, h.bel.trans (hb.mono h.bel.size)⟩
/-- The table has changed. -/
theorem Beside.tab {w wr wx : World} {b nl : Nat} {gs : Nat → Nat} {v : Value} {Z : Array Value} {sz : Nat → Nat} {t t' : Nat → Cel} (h : Beside w b nl gs v Z sz t wr) (hr : RowQ wx b 148 401 t') (hg : wr.grownBy wx (some b)) (hb : w.heap.size < b) : Beside w b nl gs v Z sz t' wx :=
  ⟨hr, h.own.grown hg (apartQ h.row h.own), fun j hj => (h.len j hj).grown hg (apartI h.row (h.len j hj)), by rw [hg.block _ (Array.getElem?_eq_some_iff.1 h.res).1 (by simp; omega)]; exact h.res, h.bel.grown hg h.bel.size (fun g e => by cases e; omega)⟩
/-- A size has changed. -/
theorem Beside.size {w wr : World} {b nl gv c : Nat} {gs : Nat → Nat} {Z : Array Value} {sz : Nat → Nat} {t : Nat → Cel} (h : Beside w b nl gs (.slice (some ⟨gv, 0, none⟩) 4 c) Z sz t wr) (q x : Nat) : Beside w b nl gs (.slice (some ⟨gv, 0, none⟩) 4 c) Z (fun j => if j = q then x else sz j) t (wr.setCell ⟨gv, q * 4 + 3, none⟩ (.int .i64 (x : Nat))) := by
  obtain ⟨p1, p2⟩ := h.own.put (q * 4 + 3) (.int .i64 (x : Nat))
  rw [rcv_sz] at p1
  have hgw : w.heap.size ≤ gv := (World.ownsRow.lt h.own gv rfl).1
  have hres : w.heap.size ≠ gv := by
    rintro e
    rcases h.own.2 with ⟨h0, _⟩ | ⟨g, cap, cur, h1, _, hg, _⟩
    · cases h0
    · simp only [Value.slice.injEq, Option.some.injEq, Addr.mk.injEq] at h1
      have := h.res
      rw [e, h1.1.1, hg] at this; cases this
  refine ⟨h.row.grown p2 ?_, p1, fun j hj => (h.len j hj).grown p2 (h.own.apart (h.len j hj)).2, ?_, h.bel.grown p2 h.bel.size (fun g e => by cases e; exact hgw)⟩
  · have := apartQ h.row h.own
    simpa [Value.ownBlock] using this
  · rw [p2.block _ (Array.getElem?_eq_some_iff.1 h.res).1 (by simp; exact hres)]; exact h.res

theorem rcv_congr {gs : Nat → Nat} {nl i : Nat} {sz sz' : Nat → Nat} (h : sz' (i / 4) = sz (i / 4)) : rcv gs nl sz' i = rcv gs nl sz i := by unfold rcv; rw [h]
theorem stb_rch {bs : List Int} {p : Nat} {y m : Int} (h : bs[p]? = some y) : stb m y (rch m (bs.drop (p + 1))) = rch m (bs.drop p) := by
  obtain ⟨hi, hx⟩ := List.getElem?_eq_some_iff.1 h
  rw [List.drop_eq_getElem_cons hi, hx, rch_cons]; rfl

def TcPost (n : Nat) (bs : List Int) (w : World) (e : Ending) (w' : World) : Prop := ∃ cs, e = .returned (.agg cs) ∧ TabQ cs 401 (tabN bs n) ∧ Below w.heap.size w w'
def Ch1 (w : World) (n nl : Nat) (bs : List Int) (gs : Nat → Nat) (v : Value) (Z : Array Value) (i : Value) (wr : World) : Prop :=
  ∃ (x : Int) (q : Nat), i = .int .i64 x ∧ x = (q : Int) - 1 ∧ q ≤ n ∧ Beside w (w.heap.size + 1) nl gs v Z (fun j => rch ((j + 1 : Nat) : Int) (bs.drop q)) (tabN bs (n - q)) wr
def Ch2 (w : World) (nl p : Nat) (bs : List Int) (gs : Nat → Nat) (v : Value) (Z : Array Value) (t : Nat → Cel) (i : Value) (wr : World) : Prop :=
  ∃ q : Nat, q ≤ 4 ∧ i = .int .i64 q ∧ Beside w (w.heap.size + 1) nl gs v Z (fun j => if j < q then rch ((j + 1 : Nat) : Int) (bs.drop p) else rch ((j + 1 : Nat) : Int) (bs.drop (p + 1))) (upd t p (fmd t bs p q)) wr

set_option maxRecDepth 100000 in
set_option maxHeartbeats 8000000 in
theorem implChoices (s : ByteArray) (hs : s.size ≤ 400) (w : World) :
    Calls Try.prog 108 #[.string s] w (TcPost s.size (bytesI s) w) := by
  obtain ⟨Z, hZ, hz⟩ := zero_table
  have HZ := hide hZ
  have HT0 := hide (show (fun _ => zc) = tabN (bytesI s) (s.size - s.size) by rw [Nat.sub_self]; funext i; rfl)
  obtain ⟨w0, hw0⟩ : ∃ w0, (w.alloc (.cells Z 148)).alloc (.cells Z 148) = w0 := ⟨_, rfl⟩
  have HRow := hide (show RowQ w0 (w.heap.size + 1) 148 401 (fun _ => zc) by
    have h := RowQ.new (w.alloc (.cells Z 148)) 148 hZ
    rw [alloc_size] at h; rw [← hw0]; exact h)
  have HRes := hide (show w0.heap[w.heap.size]? = some (.cells Z 148 (0, 0)) by rw [← hw0]; exact row_keep4 (heap_alloc_new w _) _)
  have HB0 := hide (show Below w.heap.size w w0 by rw [← hw0]; exact ((Below.refl _ _).alloc (Nat.le_refl _) _).alloc (by rw [alloc_size]; omega) _)
  have HSZ0 := hide (show w0.heap.size = w.heap.size + 2 by rw [← hw0, alloc_size, alloc_size])
  clear hZ
  have HBS := hide (fun (L nl : Nat) (h : (L = 255 ∧ 255 < s.size) ∨ (L = s.size ∧ s.size ≤ 255)) (hn : L + 1 = nl) => show L ≤ 255 ∧ (∀ R, R ≤ 255 → R ≤ s.size → R < nl) from ⟨by omega, fun R h1 h2 => by omega⟩)
  go_enter Try.func108, Try.ntmps108
  go_wp2_with fail
  case' inl =>
    obtain ⟨L, hL, hLe⟩ : ∃ L : Nat, ((L = 255 ∧ 255 < s.size) ∨ (L = s.size ∧ s.size ≤ 255)) ∧ (255 : Int) = (L : Int) := ⟨255, .inl ⟨rfl, by omega⟩, rfl⟩
    rw [hLe]
  case' inr =>
    obtain ⟨L, hL, hLe⟩ : ∃ L : Nat, ((L = 255 ∧ 255 < s.size) ∨ (L = s.size ∧ s.size ≤ 255)) ∧ (s.size : Int) = (L : Int) := ⟨s.size, .inr ⟨rfl, by omega⟩, rfl⟩
    rw [hLe]
  all_goals
    obtain ⟨nl, hnl⟩ : ∃ nl, L + 1 = nl := ⟨_, rfl⟩
    obtain ⟨hL255, hLR⟩ := HBS.out L nl hL hnl
    have HRE := hide (implReaches L nl hL255 hnl w0)
    have HLR := hide hLR
    clear HBS hLR hL255 hnl hL hLe
    refine HRE.out.mono ?_
    rintro e w1 ⟨v, gs, rfl, hov, hol, hb1⟩
    have HBe := hide (show Beside w (w.heap.size + 1) nl gs v Z (fun j => rch ((j + 1 : Nat) : Int) ((bytesI s).drop s.size)) (tabN (bytesI s) (s.size - s.size)) w1 from
      ⟨by rw [← HT0.out]; exact HRow.out.next hb1, by
        rw [show (fun j : Nat => rch ((j + 1 : Nat) : Int) ((bytesI s).drop s.size)) = fun _ => 0 from by funext j; rw [List.drop_of_length_le (by rw [bytesI_len]; omega)]; rfl]
        exact hov.low (by rw [HSZ0.out]; omega), fun j hj => (hol j hj).low (by rw [HSZ0.out]; omega), heap_next HRes.out hb1, HB0.out.trans (hb1.mono HB0.out.size)⟩)
    clear hov hol hb1 HRE HRow HRes HB0 HSZ0 HT0
    go_wp2_with fail
    go_loopw [5] (fun i wr => Ch1 w s.size nl (bytesI s) gs v Z i wr) (fun i _ => (intOf i + 1).toNat)
    case atStart => exact ⟨_, s.size, rfl, rfl, Nat.le_refl _, HBe.out⟩
    case round =>
      clear HBe
      obtain ⟨x1, q1, rfl, hx1, hq1, hbe⟩ := hrel
      have HBe := hide hbe
      clear hbe
      by_cases hq : q1 = 0
      · have hx0 : x1 < 0 := by omega
        have HB5 := hide (show Beside w (w.heap.size + 1) nl gs v Z (fun j => rch ((j + 1 : Nat) : Int) ((bytesI s).drop q1)) (tabN (bytesI s) s.size) wr by
          have h := HBe.out
          rw [show s.size - q1 = s.size by omega] at h; exact h)
        obtain ⟨cs, hcs, htab⟩ := HB5.out.row
        have HCS := hide hcs
        have HTAB := hide htab
        have HS := hide (show (Try.prog.info? 148).map (·.size) = some cs.size by rw [htab.1]; exact size_table)
        have HZS := hide (show Z.size = cs.size by rw [htab.1, HZ.out.1])
        clear hcs htab HBe hx1 hq hz
        go_wp2_with (first
          | (with_reducible refine wpList_load_row rfl 148 (.tmp 3) rfl (w.heap.size + 1) rfl 148 cs (0, 0) _ HCS.out Try.underlying148 rfl HS.out ?_)
          | (with_reducible refine wpList_store_row rfl 148 (.tmp 2) (.tmp 37) rfl w.heap.size cs rfl rfl 148 Z HB5.out.res HS.out HZS.out HTAB.out.one ?_))
        have HR := hide (setRow_heap wr w.heap.size Z cs 148 _ HB5.out.res)
        refine bodyPost_ret (v := .agg cs) (results_cell_row Try.results108 _ _ w.heap.size 148 cs _ _ rfl HR.out Try.underlying148 rfl HS.out) rfl ⟨cs, rfl, HTAB.out, ?_⟩
        have hbe := HB5.out.bel
        exact ⟨hbe.os, hbe.tape, hbe.output, by simp; exact hbe.size, fun i hi => (setRow_other wr w.heap.size i cs (by omega)).trans (hbe.block i hi)⟩
      · obtain ⟨p, hp⟩ : ∃ p, q1 = p + 1 := ⟨q1 - 1, by omega⟩
        obtain rfl : x1 = (p : Int) := by omega
        have hps : p < s.size := by omega
        obtain ⟨t, ht⟩ : ∃ t, tabN (bytesI s) (s.size - q1) = t := ⟨_, rfl⟩
        have hlen : (bytesI s).length = s.size := bytesI_len s
        have HOK := hide (show ∀ j, Ok s.size j (t j) from fun j => by have h := ok_tab (bytesI s) (s.size - q1) j; rw [hlen, ht] at h; exact h)
        have HZp := hide (show t p = zc by rw [← ht]; exact tabN_zero (.inl (by rw [hlen]; omega)))
        have HSTEP := hide (show upd t p (fmd t (bytesI s) p 4) = tabN (bytesI s) (s.size - p) by
          have h := tabN_step (bs := bytesI s) (j := s.size - q1) (i := p) (by rw [hlen]; omega)
          rw [ht] at h
          rw [show s.size - p = s.size - q1 + 1 by omega]; exact h)
        have HFO := hide (show ∀ q, q ≤ 4 → Ok s.size p (fmd t (bytesI s) p q) from fun q hq' => by have h := ok_fmd (bs := bytesI s) (i := p) (t := t) (by rw [hlen]; exact HOK.out) (by rw [hlen]; omega) q hq'; rw [hlen] at h; exact h)
        have HRL := hide (show ∀ m, rch m ((bytesI s).drop p) ≤ s.size - p ∧ rch m ((bytesI s).drop p) ≤ 255 from fun m => by have h := rch_le m ((bytesI s).drop p); rw [List.length_drop, hlen] at h; exact h)
        rw [ht] at HBe
        obtain ⟨y, hy, hy2, hy0, hy1⟩ := byteAt s hps
        have HY := hide hy2
        have HBe2 := hide (show Beside w (w.heap.size + 1) nl gs v Z (fun j => if j < 0 then rch ((j + 1 : Nat) : Int) ((bytesI s).drop p) else rch ((j + 1 : Nat) : Int) ((bytesI s).drop (p + 1))) (upd t p (fmd t (bytesI s) p 0)) wr by
          rw [show fmd t (bytesI s) p 0 = t p by rw [HZp.out]; rfl, upd_self]
          have h := HBe.out
          rw [hp] at h; exact h)
        obtain ⟨gv, cv, cur, hvv, _, _, _⟩ := HBe.out.own.form (by omega)
        subst hvv
        clear hp hx1 hq ht hq1 HBe hlen hy2
        go_wp2_with fail
        obtain ⟨wo, rfl⟩ : ∃ wo : World, wo = wr := ⟨_, rfl⟩
        go_loopw [20] (fun i wr => Ch2 w nl p (bytesI s) gs (.slice (some ⟨gv, 0, none⟩) 4 cv) Z t i wr) (fun i _ => 4 - (intOf i).toNat)
        case atStart => exact ⟨0, by omega, rfl, HBe2.out⟩
        case round =>
          clear HBe2
          obtain ⟨q, hq4, rfl, hbe⟩ := hrel
          have HBe := hide hbe
          clear hbe
          by_cases hlt : q < 4
          · obtain ⟨mq, hmq⟩ : ∃ mq, q + 1 = mq := ⟨_, rfl⟩
            obtain ⟨h0, h1, h2, h3⟩ := rcv_at gs nl (fun j => if j < q then rch ((j + 1 : Nat) : Int) ((bytesI s).drop p) else rch ((j + 1 : Nat) : Int) ((bytesI s).drop (p + 1))) q
            rw [if_neg (by omega)] at h3
            rw [hmq] at h0 h1 h3
            have C1 := HBe.out.own.cell (i := q * 4 + 1) (by omega)
            have C3 := HBe.out.own.cell (i := q * 4 + 3) (by omega)
            rw [h1] at C1
            rw [h3] at C3
            have hr255 := (rch_le (mq : Int) ((bytesI s).drop (p + 1))).2
            have HST := hide (implStep (mq : Int) ⟨by omega, by omega⟩ gv (q * 4) _ y wr.drew hy0 hy1 hr255 (World.ownsRow.lt HBe.out.own gv rfl).2 C1 C3 (HBe.out.own.frozen (q * 4 + 3)))
            rw [stb_rch HY.out] at HST
            have HMQ := hide hmq
            clear h0 h1 h2 h3 C1 C3 hr255 hmq
            go_wp2_with fail
            refine tail_begin (fun w' => True) 7 (by kernel_rfl) trivial (fun hS' => ?_)
            refine tail_take2 0 rfl (by kernel_rfl) (by kernel_rfl) (by kernel_rfl) (by decide) (fun _ _ _ h => h) (by rfl) (v := ?_) ?_ (by assumption) ?_
            rotate_left 1
            · intro w' hS'; skip; go_simp; try with_reducible rfl
            try simp only [Act.put, List.setIfInBounds_toArray, List.set_cons_zero, List.set_cons_succ]
            refine tail_take2 1 rfl (by kernel_rfl) (by kernel_rfl) (by kernel_rfl) (by decide) (fun _ _ _ h => h) (by rfl) (v := ?_) ?_ (by assumption) ?_
            rotate_left 1
            · intro w' hS'; skip; go_simp; try with_reducible rfl
            try simp only [Act.put, List.setIfInBounds_toArray, List.set_cons_zero, List.set_cons_succ]
            refine tail_take2 2 rfl (by kernel_rfl) (by kernel_rfl) (by kernel_rfl) (by decide) (fun _ _ _ h => h) (by rfl) (v := ?_) ?_ (by assumption) ?_
            rotate_left 1
            · intro w' hS'; skip; go_simp; try with_reducible rfl
            try simp only [Act.put, List.setIfInBounds_toArray, List.set_cons_zero, List.set_cons_succ]
            refine tail_take2 3 rfl (by kernel_rfl) (by kernel_rfl) (by kernel_rfl) (by decide) (fun _ _ _ h => h) (by rfl) (v := ?_) ?_ (by assumption) ?_
            rotate_left 1
            · intro w' hS'; skip; go_simp; try with_reducible rfl
            try simp only [Act.put, List.setIfInBounds_toArray, List.set_cons_zero, List.set_cons_succ]
            refine tail_take2 4 rfl (by kernel_rfl) (by kernel_rfl) (by kernel_rfl) (by decide) (fun _ _ _ h => h) (by rfl) (v := ?_) ?_ (by assumption) ?_
            rotate_left 1
            · intro w' hS'; skip; go_simp; try with_reducible rfl
            try simp only [Act.put, List.setIfInBounds_toArray, List.set_cons_zero, List.set_cons_succ]
            refine tail_take2 5 rfl (by kernel_rfl) (by kernel_rfl) (by kernel_rfl) (by decide) (fun _ _ _ h => h) (by rfl) (v := ?_) ?_ (by assumption) ?_
            rotate_left 1
            · intro w' hS'; skip; go_simp; try with_reducible rfl
            try simp only [Act.put, List.setIfInBounds_toArray, List.set_cons_zero, List.set_cons_succ]
            refine tail_call 6 rfl (by kernel_rfl) rfl (fun K' hK => ?_)
            go_simp
            go_at_call 120
            refine HST.out.mono ?_
            rintro e w2 ⟨rfl, w1', hb1', hw2⟩
            have HB2 := hide (show Beside w (w.heap.size + 1) nl gs (.slice (some ⟨gv, 0, none⟩) 4 cv) Z (fun j => if j < q + 1 then rch ((j + 1 : Nat) : Int) ((bytesI s).drop p) else rch ((j + 1 : Nat) : Int) ((bytesI s).drop (p + 1))) (upd t p (fmd t (bytesI s) p q)) w2 by
              have h := (HBe.out.next ((Below.refl wr.heap.size wr).drew.trans hb1')).size q (rch (mq : Int) ((bytesI s).drop p))
              rw [← hw2] at h
              rw [show (fun j => if j < q + 1 then rch ((j + 1 : Nat) : Int) ((bytesI s).drop p) else rch ((j + 1 : Nat) : Int) ((bytesI s).drop (p + 1))) = (fun j => if j = q then rch (mq : Int) ((bytesI s).drop p) else if j < q then rch ((j + 1 : Nat) : Int) ((bytesI s).drop p) else rch ((j + 1 : Nat) : Int) ((bytesI s).drop (p + 1))) from by
                funext j
                by_cases e : j = q
                · subst e; rw [if_pos (by omega), if_pos rfl, HMQ.out]
                · rw [if_neg e]
                  by_cases e2 : j < q
                  · rw [if_pos (by omega), if_pos e2]
                  · rw [if_neg (by omega), if_neg e2]]
              exact h)
            clear hw2 hb1' HBe HST
            refine hK.out _ _ trivial (fun hS' => ?_)
            clear hK K' hS'
            try simp only [Act.put, List.setIfInBounds_toArray, List.set_cons_zero, List.set_cons_succ]
            refine tail_end (by kernel_rfl) ?_
            obtain ⟨sz2, hsz2⟩ : ∃ sz2, (fun j => if j < q + 1 then rch ((j + 1 : Nat) : Int) ((bytesI s).drop p) else rch ((j + 1 : Nat) : Int) ((bytesI s).drop (p + 1))) = sz2 := ⟨_, rfl⟩
            have hsq : sz2 q = rch (mq : Int) ((bytesI s).drop p) := by rw [← hsz2, ← HMQ.out]; show (if q < q + 1 then _ else _) = _; rw [if_pos (by omega)]
            have HSZ2 := hide hsz2
            rw [hsz2] at HB2
            obtain ⟨h0, h1, h2, h3⟩ := rcv_at gs nl sz2 q
            rw [hsq] at h3
            rw [HMQ.out] at h0 h1
            clear hsz2 hsq
            have C0 := HB2.out.own.cell (i := q * 4) (by omega)
            have C1 := HB2.out.own.cell (i := q * 4 + 1) (by omega)
            have C2 := HB2.out.own.cell (i := q * 4 + 2) (by omega)
            have C3 := HB2.out.own.cell (i := q * 4 + 3) (by omega)
            rw [h0] at C0
            rw [h1] at C1
            rw [h2] at C2
            rw [h3] at C3
            obtain ⟨Mv, hMv⟩ : ∃ Mv, MV (mq : Int) = Mv := ⟨_, rfl⟩
            obtain ⟨R, hR⟩ : ∃ R, rch (mq : Int) ((bytesI s).drop p) = R := ⟨_, rfl⟩
            rw [hMv] at C1
            rw [hR] at C3
            have hRR := HRL.out (mq : Int)
            rw [hR] at hRR
            have HFM := hide (show fmd t (bytesI s) p (q + 1) = fsiz t mq p R (fmd t (bytesI s) p q) by rw [fmd, ← hR, HMQ.out])
            have HFOq := hide (HFO.out q (by omega))
            have HLq := hide (HB2.out.len q hlt)
            rw [HMQ.out] at HLq
            have hgb : gs q ≠ w.heap.size + 1 := by
              rcases apartI HB2.out.row HLq.out with h | h
              · cases h
              · simpa [Value.ownBlock] using h
            have hRnl := HLR.out R (by omega) (by omega)
            have hmq4 : mq ≤ 4 := by have := HMQ.out; omega
            have HIM := hide (implImprove (w.heap.size + 1) p mq R s.size (gs q) nl nl Mv t (fmd t (bytesI s) p q) w2 HB2.out.row (HLq.out.lt (g := gs q) rfl).2 hgb (fun k hk => HLq.out.cellAt (lenL_at hk)) hRnl hRR.2 hs (by omega) (by omega) HOK.out HFOq.out)
            clear h0 h1 h2 h3 hMv hR hRR HFOq HLq hgb hRnl
            go_wp2_with fail
            refine HIM.out.mono ?_
            rintro e w4 ⟨rfl, hr4, hg4⟩
            have HB4 := hide (HB2.out.tab (t' := upd t p (fmd t (bytesI s) p (q + 1))) (by rw [HFM.out]; exact hr4) hg4 (by omega))
            clear hr4 hg4 C0 C1 C2 C3 HIM HB2
            go_wp2_with fail
            go_roundw
            case rel => exact ⟨q + 1, by omega, by go_num, by have h := HB4.out; rw [← HSZ2.out] at h; exact h⟩
            case measure => simp [intOf]; omega
          · have HB5 := hide (show Beside w (w.heap.size + 1) nl gs (.slice (some ⟨gv, 0, none⟩) 4 cv) Z (fun j => rch ((j + 1 : Nat) : Int) ((bytesI s).drop p)) (tabN (bytesI s) (s.size - p)) wr by
              have hq5 : q = 4 := by omega
              have h := HBe.out
              rw [hq5, HSTEP.out] at h
              refine ⟨h.row, h.own.congr (fun i hi => ?_), h.len, h.res, h.bel⟩
              exact rcv_congr (show rch ((i / 4 + 1 : Nat) : Int) ((bytesI s).drop p) = if i / 4 < 4 then rch ((i / 4 + 1 : Nat) : Int) ((bytesI s).drop p) else rch ((i / 4 + 1 : Nat) : Int) ((bytesI s).drop (p + 1)) by rw [if_pos (by omega)]))
            clear HBe
            go_wp2_with fail
            go_roundw
            case rel => exact ⟨_, p, rfl, rfl, by omega, HB5.out⟩
            case measure => simp [intOf]
end Go.Proofs.Ythbmfaogjaahoaa
