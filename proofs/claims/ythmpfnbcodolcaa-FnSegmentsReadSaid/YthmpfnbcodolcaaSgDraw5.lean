/-
  The model's draw of a list and an index where a segment may stand: anything may come, within bounds.
  Condition: the code has at most 4096 bytes.
-/
import Derived.Test.YthmpfnbcodolcaaSgDraw3
import Derived.Test.YthmpfnbcodolcaaSgA
import Derived.Test.YthmpfnbcodolcaaIsBits
import Derived.Test.YthmpfnbcodolcaaRd4
namespace Go.Proofs.Ythmpfnbcodolcaa
open Go Go.RowKit
set_option linter.unusedSimpArgs false
set_option linter.unusedVariables false

def DrawnLA (w : World) (x : Ending) (w' : World) : Prop :=
  ∃ (zs : List Int) (A : Option Addr) (n c : Nat) (a : Int), x = .returned (.tuple #[.slice A n c, .int .i64 a]) ∧ n ≤ 40000 ∧ n ≤ c ∧ c ≤ 9223372036854775807 ∧ -1 ≤ a ∧ a ≤ 40001 ∧ Ints .i64 w' w'.heap.size A n zs ∧ Below w.heap.size w w'
theorem own_top {w : World} {base : Nat} {e : TypeId} {A : Option Addr} {n c : Nat} {zs : List Int} (h : Own w base e .i64 (.slice A n c) zs) : c ≤ 9223372036854775807 := by
  rcases h.2 with ⟨hv, h0⟩ | ⟨g, cap, cur, hv, hb, hg, hnc, hm, hs, ht⟩
  · simp only [Value.slice.injEq] at hv; omega
  · simp only [Value.slice.injEq] at hv
    unfold maxLen at hm
    obtain ⟨_, _, rfl⟩ := hv
    omega
/-- A source, and a list of the draw's own. -/
structure Dl (w : World) (A : Option Addr) (n c : Nat) (code : List Int) (W : World) (v : Value) (zs : List Int) : Prop where
  dn : Dn w A n c code W
  own : Own W (w.heap.size + 1) 2 .i64 v zs
section
variable {w W W' : World} {A : Option Addr} {n c : Nat} {code : List Int} {v : Value} {zs : List Int}
theorem Dn.lt (h : Dn w A n c code W) : w.heap.size < W.heap.size := h.1.lt
theorem Dl.next (h : Dl w A n c code W v zs) (hs : Src W' w.heap.size w.heap.size A n c code) (hg : W.grownBy W' (some w.heap.size)) : Dl w A n c code W' v zs :=
  ⟨⟨hs, dn_below h.dn hg⟩, h.own.grown hg (by
    rcases hv : v.ownBlock with _ | r
    · exact .inl rfl
    · exact .inr (fun e => by have := (h.own.lt hv).1; injection e; omega))⟩
theorem Dl.below (h : Dl w A n c code W v zs) (hb : Below W.heap.size W W') : Dl w A n c code W' v zs :=
  ⟨⟨h.dn.1.below hb h.dn.lt, h.dn.2.trans (hb.mono h.dn.2.size)⟩, h.own.below hb (Nat.le_refl _)⟩
theorem Dl.fin {x : Int} {A1 : Option Addr} {n1 c1 : Nat} (h : Dl w A n c code W (.slice A1 n1 c1) zs) (hz : zs.length = n1) (hl : n1 ≤ 40000) (hx0 : -1 ≤ x) (hx1 : x ≤ 40001) : DrawnLA w (.returned (.tuple #[.slice A1 n1 c1, .int .i64 x])) W := by
  obtain ⟨A2, c2, h2, hc⟩ := h.own.form
  simp only [Value.slice.injEq] at h2
  obtain ⟨rfl, h3, rfl⟩ := h2
  exact ⟨zs, A1, n1, c1, x, rfl, hl, by omega, own_top h.own, hx0, hx1, h.own.ints' hz, h.dn.2⟩
theorem Dl.put {g n1 c1 : Nat} (h : Dl w A n c code W (.slice (some ⟨g, 0, none⟩) n1 c1) zs) (j : Nat) (x : Int) : Dl w A n c code (W.setCell ⟨g, j, none⟩ (.int .i64 x)) (.slice (some ⟨g, 0, none⟩) n1 c1) (zs.set j x) := by
  obtain ⟨h1, h2⟩ := h.own.stored j x
  have hg : w.heap.size + 1 ≤ g := (h.own.lt rfl).1
  exact ⟨⟨h.dn.1.still h2 (fun r hr => by cases hr; omega), h.dn.2.grown h2 h.dn.2.size (fun r hr => by cases hr; omega)⟩, h1⟩
theorem Dl.cut {g n1 c1 : Nat} (h : Dl w A n c code W (.slice (some ⟨g, 0, none⟩) n1 c1) zs) (hz : zs.length = n1) (hl : n1 ≤ 40000) {q : Nat} (hq : q ≤ n1) {x : Int} (hx0 : -1 ≤ x) (hx1 : x ≤ 40001) : DrawnLA w (.returned (.tuple #[.slice (some ⟨g, 0, none⟩) q c1, .int .i64 x])) W := by
  obtain ⟨A2, c2, h2, hc⟩ := h.own.form
  simp only [Value.slice.injEq] at h2
  obtain ⟨_, _, rfl⟩ := h2
  refine ⟨zs.take q, _, q, c1, x, rfl, by omega, by omega, own_top h.own, hx0, hx1, ?_, h.dn.2⟩
  have hI := h.own.ints' hz
  refine ⟨by rw [List.length_take]; omega, fun hp => ?_⟩
  obtain ⟨b', off', e, hb, hcl⟩ := hI.2 (by omega)
  exact ⟨b', off', e, hb, fun i y hy => hcl i y (by rw [List.getElem?_take] at hy; split at hy; exact hy; cases hy)⟩
end
theorem three_cells' {W : World} {b : Nat} {y z : Int} (h : W.heap[b]? = some (.cells #[.int .i64 (-1), .int .i64 y, .int .i64 z] 2 (0, 0))) (q : Nat) (hq : q < 3) : ∃ v : Int, W.cell? ⟨b, q, none⟩ = some (.int .i64 v) ∧ (v = -1 ∨ v = y ∨ v = z) := by
  rcases (show q = 0 ∨ q = 1 ∨ q = 2 by omega) with rfl | rfl | rfl
  · exact ⟨-1, cell_of_row W b 0 _ _ _ h, .inl rfl⟩
  · exact ⟨y, cell_of_row W b 1 _ _ _ h, .inr (.inl rfl)⟩
  · exact ⟨z, cell_of_row W b 2 _ _ _ h, .inr (.inr rfl)⟩

set_option maxRecDepth 100000 in
set_option maxHeartbeats 4000000 in
theorem drawReadSeg (A : Option Addr) (n c : Nat) (code : List Int) (w : World) (hI : Ints .u8 w w.heap.size A n code) (hn : n ≤ 4096) (hby : ∀ b ∈ code, 0 ≤ b ∧ b ≤ 255) :
    Calls Try.prog 21 #[.slice A n c] w (DrawnLA w) := by
  have HI := hide hI
  have HBY := hide hby
  clear hI hby
  go_enter Try.func21, Try.ntmps21
  go_wp2_with fail
  refine (from_any A n c code w HI.out hn HBY.out).mono ?_
  rintro e w1 ⟨rfl, hs1, hb1⟩
  have HD1 := hide (show Dn w A n c code w1 from ⟨hs1, hb1⟩)
  have hlt1 := HD1.out.lt
  clear hs1 hb1
  go_wp2_with fail
  refine (drawBits _ _ A n c code 9 w1 HD1.out.1 (by omega) (by omega)).mono ?_
  rintro e w2 ⟨zs, v, rfl, hz, _, ho2, hs2, hg2⟩
  obtain ⟨A2, c2, rfl, hc2⟩ := ho2.form
  have HL2 := hide (show Dl w A n c code w2 _ zs from ⟨⟨hs2, dn_below HD1.out hg2⟩, ho2.low (by omega)⟩)
  obtain ⟨zn, hzn⟩ : ∃ zn, zs.length = zn := ⟨_, rfl⟩
  have HZN := hide hzn
  rw [hzn] at HL2 hz hc2 ⊢
  clear ho2 hs2 hg2 HD1 hzn
  go_wp2_with fail
  refine (drawSeg _ _ A n c code w2 HL2.out.dn.1).mono ?_
  rintro e w3 ⟨m, s, rfl, hm0, hm1, hs, hs3, hg3⟩
  have HL3 := hide (HL2.out.next hs3 hg3)
  have HX3 := hide (SBox.start w3 26 m s)
  have HL4 := hide (HL3.out.below HX3.out.2)
  obtain ⟨k0, k1⟩ := HX3.out.cells
  clear hs3 hg3 HL2
  have HIB := hide (specIsBits A2 zn c2 _ zs _ (HL4.out.own.ints' HZN.out) (by omega))
  have HIS := hide (fun w => specIsSeg m s (by omega) w)
  have HWR := hide (fun hv h8 w hI => specWrite A2 zn c2 w.heap.size zs m s w hI (Nat.le_refl _) h8 hv)
  obtain ⟨ib, hib⟩ : ∃ ib, isBits zs = ib := ⟨_, rfl⟩
  obtain ⟨sv, hsv⟩ : ∃ sv, segB m (bytesI s) = sv := ⟨_, rfl⟩
  have HBB := hide hib
  have HSV := hide hsv
  rw [hib] at HIB
  rw [hsv] at HIS
  clear hib hsv
  obtain ⟨w4, hw4⟩ : ∃ w4, w3.alloc (.cells #[.int .i64 m, .string s] 26) = w4 := ⟨_, rfl⟩
  rw [hw4] at HL4 HX3 HIB k0 k1
  go_wp2_with fail
  clear hw4
  refine (HIB.out).mono ?_
  rintro e _ ⟨rfl, rfl⟩
  rcases ib with _ | _
  · go_wp2_with fail
    refine (next_any _ _ A n c code 4 _ HL4.out.dn.1 (by omega)).mono ?_
    rintro e wq ⟨y, rfl, hy0, hy1, hsq, hgq⟩
    have HLq := hide (HL4.out.next hsq hgq)
    clear hsq hgq
    go_wp2_with fail
    go_ret2
    exact HLq.out.fin HZN.out (by omega) (by omega) (by omega)
  · go_wp2_with fail
    refine (HIS.out _).mono ?_
    rintro e w5 ⟨rfl, hb5⟩
    have HL5 := hide (HL4.out.below hb5)
    have HX5 := hide (HX3.out.next hb5)
    clear hb5 k0 k1
    obtain ⟨k0, k1⟩ := HX5.out.cells
    rcases sv with _ | _
    · go_wp2_with fail
      refine (next_any _ _ A n c code 4 _ HL5.out.dn.1 (by omega)).mono ?_
      rintro e wq ⟨y, rfl, hy0, hy1, hsq, hgq⟩
      have HLq := hide (HL5.out.next hsq hgq)
      clear hsq hgq
      go_wp2_with fail
      go_ret2
      exact HLq.out.fin HZN.out (by omega) (by omega) (by omega)
    · by_cases hl : 100 < zn
      · have hli : (100 : Int) < (zn : Int) := by omega
        go_wp2_with fail
        refine (next_any _ _ A n c code 4 _ HL5.out.dn.1 (by omega)).mono ?_
        rintro e wq ⟨y, rfl, hy0, hy1, hsq, hgq⟩
        have HLq := hide (HL5.out.next hsq hgq)
        clear hsq hgq
        go_wp2_with fail
        go_ret2
        exact HLq.out.fin HZN.out (by omega) (by omega) (by omega)
      · have hli : ¬ (100 : Int) < (zn : Int) := by omega
        go_wp2_with fail
        refine (HWR.out HSV.out (by omega) w5 (HL5.out.own.ints' HZN.out)).mono ?_
        rintro e w6 ⟨v6, rfl, ho6, hb6⟩
        have HL6 := hide (HL5.out.below hb6)
        have HO6 := hide (ho6.low (base' := w.heap.size + 1) (by have := HL5.out.dn.lt; omega))
        obtain ⟨xs, hxs⟩ : ∃ xs, zs ++ segBits m (bytesI s) = xs := ⟨_, rfl⟩
        have HXL := hide (show 11 ≤ xs.length ∧ xs.length ≤ 3000 by
          rw [← hxs, List.length_append, sgb_len, HZN.out]
          obtain ⟨_, h2, _⟩ := seg_ok HSV.out
          have h4 := wid_le m (gsz m)
          have h5 := wid_le m ((bytesI s).length % gsz m)
          have h6 : (bytesI s).length / gsz m ≤ (bytesI s).length := Nat.div_le_self _ _
          have h7 : (bytesI s).length / gsz m * wid m (gsz m) ≤ 255 * 11 := Nat.mul_le_mul (by omega) h4
          unfold slen twid; omega)
        have HXB := hide (show ∀ x ∈ xs, x = 0 ∨ x = 1 from fun x hx => by
          rw [← hxs] at hx
          rcases List.mem_append.1 hx with h | h
          · obtain ⟨j, hj⟩ := List.getElem?_of_mem h
            exact isBits_bit HBB.out hj
          · exact sgb_bit _ _ x h)
        rw [hxs] at HO6
        clear ho6 hb6 hxs k0 k1 HX5 HX3
        go_wp2_with fail
        refine (drawBits _ _ A n c code 5 w6 HL6.out.dn.1 (by omega) (by omega)).mono ?_
        rintro e w7 ⟨ys, v7, rfl, hy, hyb, ho7, hs7, hg7⟩
        have HD7 := hide (show Dl w A n c code w7 v6 xs from (Dl.next ⟨HL6.out.dn, HO6.out⟩ hs7 hg7))
        obtain ⟨A7, c7, rfl, hc7⟩ := ho7.form
        have HI7 := hide (ho7.ints)
        have HXL7 := HXL
        have hbz7 : w.heap.size + 1 ≤ w7.heap.size := by have := HD7.out.dn.lt; omega
        have hxl : xs.length + ys.length ≤ 1099511627776 := by have := HXL.out; omega
        obtain ⟨yn, hyn⟩ : ∃ yn, ys.length = yn := ⟨_, rfl⟩
        rw [hyn] at HI7 hc7 hxl hy ⊢
        have HYN := hide hyn
        clear ho7 hs7 hg7 HL6 HO6 hyn
        go_wp2_with (at_builtin; refine wpList_appL _ rfl _ _ _ rfl elem64 (w.heap.size + 1) v6 xs rfl HD7.out.own _ _ yn c7 ys rfl HI7.out (by omega) hbz7 ?_; intro v8 w8 hown8 hgr8; have HD8 := hide (show Dl w A n c code w8 v8 (xs ++ ys) from ⟨⟨HD7.out.dn.1.still hgr8 (fun r hr => by have := (HD7.out.own.lt hr).1; omega), HD7.out.dn.2.grown hgr8 HD7.out.dn.2.size (fun r hr => by have := (HD7.out.own.lt hr).1; omega)⟩, hown8⟩); clear hown8 hgr8)
        refine (next_any _ _ A n c code 10 _ HD8.out.dn.1 (by omega)).mono ?_
        rintro e w9 ⟨k, rfl, hk0, hk1, hs9, hg9⟩
        have HD9 := hide (HD8.out.next hs9 hg9)
        have HOB := hide (show ∀ x ∈ xs ++ ys, -1 ≤ x ∧ x ≤ 2 from fun x hx => by
          rcases List.mem_append.1 hx with h | h
          · have := HXB.out x h; omega
          · exact hyb x h)
        have HOL := hide (show (xs ++ ys).length = xs.length + yn by rw [List.length_append, HYN.out])
        obtain ⟨os, hos⟩ : ∃ os, xs ++ ys = os := ⟨_, rfl⟩
        rw [hos] at HD9 HOB HOL
        obtain ⟨g8, c8, rfl, hg80, hg81, hc8⟩ := HD9.out.own.some_ (by have := HXL.out; rw [HOL.out]; omega)
        obtain ⟨on, hon⟩ : ∃ on, os.length = on := ⟨_, rfl⟩
        have HON := hide hon
        rw [hon] at HOL HD9 hc8
        have hob : 11 ≤ on ∧ on ≤ 20000 := by have := HXL.out; have := HOL.out; omega
        clear hs9 hg9 hyb HD7 HD8 HI7 hbz7 hxl hos hon
        by_cases e0 : k = 0
        · subst e0
          try rw [HON.out]
          go_wp2_with fail
          refine (next_any _ _ A n c code _ _ HD9.out.dn.1 (by omega)).mono ?_
          rintro e wa ⟨q, rfl, hq0, hq1, hsa, hga⟩
          obtain ⟨q, rfl⟩ : ∃ q' : Nat, q = q' := ⟨q.toNat, by omega⟩
          have HDa := hide (HD9.out.next hsa hga)
          have hqn : q < on := by omega
          obtain ⟨x, hx⟩ : ∃ x, os[q]? = some x := ⟨_, List.getElem?_eq_getElem (by rw [HON.out]; exact hqn)⟩
          have hxb := HOB.out x (List.mem_of_getElem? hx)
          have cq := HDa.out.own.cellAt hx
          have fq := HDa.out.own.frozenAt q
          have hqI : (q : Int) < (on : Int) := by omega
          clear hsa hga HD9 hx hq0 hq1
          rcases (show x = -1 ∨ x = 0 ∨ x = 1 ∨ x = 2 by omega) with rfl | rfl | rfl | rfl
          all_goals
            go_wp2_with fail
            go_ret2
            exact (HDa.out.put q _).fin (by rw [List.length_set]; exact HON.out) (by omega) (by omega) (by omega)
        have k0 : (k == 0) = false := by simpa using e0
        by_cases e1 : k = 1
        · subst e1
          clear k0 e0
          try rw [HON.out]
          go_wp2_with fail
          refine (next_any _ _ A n c code _ _ HD9.out.dn.1 (by omega)).mono ?_
          rintro e wa ⟨q, rfl, hq0, hq1, hsa, hga⟩
          obtain ⟨q, rfl⟩ : ∃ q' : Nat, q = q' := ⟨q.toNat, by omega⟩
          have HDa := hide (HD9.out.next hsa hga)
          have hqn : q ≤ on := by omega
          have hqc : (q : Int) ≤ (c8 : Int) := by omega
          clear hsa hga HD9 hq0 hq1
          go_wp2_with fail
          go_ret2
          exact HDa.out.cut HON.out (by omega) hqn (by omega) (by omega)
        have k1 : (k == 1) = false := by simpa using e1
        by_cases e2 : k = 2
        · subst e2
          clear k0 k1 e0 e1
          try rw [HON.out]
          have hwo : IntKind.i64.wrap ((on : Int) + 1) = ((on + 1 : Nat) : Int) := by rw [IntWalk.i64_in _ ⟨by omega, by omega⟩]; omega
          obtain ⟨o1, ho1⟩ : ∃ o1, on + 1 = o1 := ⟨_, rfl⟩
          rw [ho1] at hwo
          have HO1 := hide ho1
          clear ho1
          go_wp2_with fail
          have HL := hide (heap_alloc_new w9 (.cells #[.int .i64 (-1), .int .i64 (on : Nat), .int .i64 (o1 : Nat)] 2))
          obtain ⟨wl, hwl⟩ : ∃ wl, w9.alloc (.cells #[.int .i64 (-1), .int .i64 (on : Nat), .int .i64 (o1 : Nat)] 2) = wl := ⟨_, rfl⟩
          have HDl := hide (show Dl w A n c code wl _ os by rw [← hwl]; exact HD9.out.below ((Below.refl _ _).alloc (Nat.le_refl _) _))
          rw [hwl] at HL ⊢
          have hbl := HD9.out.dn.lt
          obtain ⟨bl, hbl2⟩ : ∃ bl, w9.heap.size = bl := ⟨_, rfl⟩
          rw [hbl2] at HL hbl ⊢
          clear hwl HD9
          refine (next_any _ _ A n c code _ _ HDl.out.dn.1 (by omega)).mono ?_
          rintro e wa ⟨q, rfl, hq0, hq1, hsa, hga⟩
          obtain ⟨q, rfl⟩ : ∃ q' : Nat, q = q' := ⟨q.toNat, by omega⟩
          have HDa := hide (HDl.out.next hsa hga)
          have HLa := hide ((hga.block bl (Array.getElem?_eq_some_iff.1 HL.out).1 (by simp; omega)).trans HL.out)
          have hq3 : q < 3 := by omega
          obtain ⟨v, hv, hvv⟩ := three_cells' HLa.out q hq3
          have hvb : -1 ≤ v ∧ v ≤ 40001 := by have := HO1.out; omega
          clear hsa hga HL HDl hq0 hq1 hbl2 hvv
          go_wp2_with fail
          go_ret2
          exact HDa.out.fin HON.out (by omega) hvb.1 hvb.2
        have k2 : (k == 2) = false := by simpa using e2
        try rw [HON.out]
        go_wp2_with fail
        go_ret2
        exact HD9.out.fin HON.out (by omega) (by omega) (by omega)
end Go.Proofs.Ythmpfnbcodolcaa
