/-
  The draw and the walk of the law FnPolyFit: it returns true, and nothing that was there before is changed.
  Condition: none.
-/
import Derived.Test.YthafkohopkgckaaPDraw2
import Derived.Deep.AppendLies
import Derived.Test.YthafkohopkgckaaPBoth1
import Derived.Test.YthafkohopkgckaaPolyMath3
import Derived.Test.YthafkohopkgckaaLike
import Derived.Test.YthafkohopkgckaaPVal1
import Derived.Test.YthafkohopkgckaaPFitB
namespace Go.Proofs.Ythafkohopkgckaa
open Go.RowKit
set_option linter.unusedSimpArgs false
set_option linter.unusedVariables false

/-- append(out, y), and where the new slice lies. -/
theorem wpList_app1L {P : Program} (w : World) {ops : Array Oper} {rest : List Oper} {o : Oper} {a : Act} {Q : Exit → Act → World → Prop} (hgd : o.guard = none) (s x : Operand) (t : TypeId)
    (ho : o.op = .call { callee := .builtin .append, args := #[s, x], argTypes := #[t, t] }) {e : TypeId} {k : IntKind} {bytes : Nat} (E : IsElem P t e k bytes)
    (base : Nat) (v : Value) (zs : List Int) (hs : a.eval s = v) (hown : Own w base e k v zs) (y : Int) (hx : a.eval x = .slice (some ⟨w.heap.size, 0, none⟩) 1 1)
    (hlen : (zs.length + 1) * 8 ≤ 140737488355328) (hbase : base ≤ w.heap.size)
    (h : ∀ b cap w', Own w' base e k (.slice (some ⟨b, 0, none⟩) (zs.length + 1) cap) (zs ++ [y]) → w.grownBy w' v.ownBlock → (v.ownBlock = some b ∨ b = w.heap.size + 1) → wpList P ops Q rest (a.put o.dst (.slice (some ⟨b, 0, none⟩) (zs.length + 1) cap)) w') : wpList P ops Q (o :: rest) a (w.alloc (.cells #[.int k y] e)) := by
  obtain ⟨i, hi, hz0, hz1, hz2⟩ := info_parts E.info
  have hby : (zs.length + 1) * bytes ≤ 140737488355328 := Nat.le_trans (Nat.mul_le_mul_left _ E.small) hlen
  refine wpList_append_lies (w := w.alloc (.cells #[.int k y] e)) hgd s x t ho base e i (.int k 0) 1 bytes E.under hi hz0 hz1 hz2 rfl (by decide) v zs.length (zs.map (Value.int k)) hs (hown.alloc _) ⟨w.heap.size, 0, none⟩ 1 1 [.int k y] hx rfl (fun j u hu => ?_) (ints_oneCell k [y]) (by decide) (by simp only [maxLen]; omega) hby (by rw [alloc_size]; omega) (w.heap.size + 1) (alloc_size _ _) fun b cap w' h2 h3 h4 _ => ?_
  · have hj : j = 0 := by
      have := (List.getElem?_eq_some_iff.1 hu).1
      simp at this; exact this
    subst hj
    simp only [List.getElem?_cons_zero, Option.some.injEq] at hu
    subst hu
    rw [addr_add, World.cell?_alloc_at _ _ _ _ rfl]; rfl
  · exact h b cap w' (Own.intro h2 (by simp) (by simp)) (grown_trans (World.grownBy_alloc w _ _) h3) h4
theorem ne_lies {w : World} {N b : Nat} {v v' : Value} {zs : List Int} (hy : Own w N 2 .i64 v' zs) (hne : v.ownBlock = none ∨ v.ownBlock ≠ v'.ownBlock) (hg : v.ownBlock = some b ∨ b = w.heap.size + 1) : v'.ownBlock ≠ some b := by
  intro e
  have h1 := (hy.lt e).2
  rcases hg with hg | hg
  · rcases hne with h2 | h2
    · rw [h2] at hg; cases hg
    · exact h2 (by rw [hg, e])
  · omega

theorem dst_own {w wr wr' : World} {g Bc n c N : Nat} {A : Option Addr} {code : List Int} {p k γ : Int} {v : Value} {zs : List Int} (h : Dst w g Bc A n c code N p k γ wr) (ho : Own wr (N + 1) 2 .i64 v zs) (hg : wr.grownBy wr' v.ownBlock) : Dst w g Bc A n c code N p k γ wr' :=
  h.own hg (fun b hb => (ho.lt hb).1)
def FdRel (w : World) (g Bc : Nat) (A : Option Addr) (n c : Nat) (code : List Int) (N : Nat) (p k γ : Int) (u v m i : Value) (wr : World) : Prop :=
  ∃ (j : Nat) (zx zy : List Int) (e : Int), zx.length + j ≤ 6 ∧ zy.length + j ≤ 6 ∧ i = .int .i64 j ∧ m = .int .i64 e ∧ Own wr (N + 1) 2 .i64 u zx ∧ Own wr (N + 1) 2 .i64 v zy ∧ (u.ownBlock = none ∨ u.ownBlock ≠ v.ownBlock) ∧ (v.ownBlock = none ∨ v.ownBlock ≠ u.ownBlock) ∧ Dst w g Bc A n c code N p k γ wr
/-- The same as DrawnFLL, and both slices lie within their capacity. -/
def DrawnFLc (w : World) (x : Ending) (w' : World) : Prop :=
  ∃ (p k γ : Int) (zs : List Int) (A1 : Option Addr) (c1 : Nat) (zs' : List Int) (A2 : Option Addr) (c2 : Nat), x = .returned (.tuple #[.agg #[.int .i64 p, .int .i64 k, .int .i64 γ], .slice A1 zs.length c1, .slice A2 zs'.length c2]) ∧ zs.length ≤ 1048576 ∧ zs'.length ≤ 1048576 ∧ zs.length ≤ c1 ∧ zs'.length ≤ c2 ∧
    Ints .i64 w' w'.heap.size A1 zs.length zs ∧ Ints .i64 w' w'.heap.size A2 zs'.length zs' ∧ Below w.heap.size w w'

theorem flc_mk {w wr : World} {g Bc n c N : Nat} {A : Option Addr} {code : List Int} {p k γ : Int} {zs zs' : List Int} {A1 A2 : Option Addr} {c1 c2 b1 b2 : Nat} (h : Dst w g Bc A n c code N p k γ wr) (h1 : Own wr b1 2 .i64 (.slice A1 zs.length c1) zs) (h2 : Own wr b2 2 .i64 (.slice A2 zs'.length c2) zs') (hb1 : N ≤ b1) (hb2 : N ≤ b2) (hl1 : zs.length ≤ 1048576) (hl2 : zs'.length ≤ 1048576) (hc1 : zs.length ≤ c1) (hc2 : zs'.length ≤ c2) (x y z : Value) :
    DrawnFLc w (.returned (.tuple #[.agg #[.int .i64 p, .int .i64 k, .int .i64 γ], .slice A1 zs.length c1, .slice A2 zs'.length c2])) (((wr.setCell ⟨w.heap.size, 0, none⟩ x).setCell ⟨w.heap.size, 1, none⟩ y).setCell ⟨w.heap.size, 2, none⟩ z) := by
  have hN := h.2.2.2.2
  exact ⟨p, k, γ, zs, A1, c1, zs', A2, c2, rfl, hl1, hl2, hc1, hc2, (h1.set3 (by omega) x y z).ints, (h2.set3 (by omega) x y z).ints, ((h.2.2.2.1.setCell (Nat.le_refl _) _).setCell (Nat.le_refl _) _).setCell (Nat.le_refl _) _⟩

set_option maxRecDepth 100000 in
set_option maxHeartbeats 4000000 in
theorem drawFit (A : Option Addr) (n c : Nat) (code : List Int) (w : World) (hI : Ints .u8 w w.heap.size A n code) (hn : n ≤ 4096) (hby : ∀ b ∈ code, 0 ≤ b ∧ b ≤ 255) :
    Calls Try.prog 39 #[.slice A n c] w (DrawnFLc w) := by
  have HI := hide ((hI.below ((Below.refl _ _).alloc (Nat.le_refl _) (.cells #[.int .i64 0, .int .i64 0, .int .i64 0] 25))).more (B' := (w.alloc (.cells #[.int .i64 0, .int .i64 0, .int .i64 0] 25)).heap.size) (by rw [alloc_size]; omega))
  have HBY := hide hby
  have HZ := hide (Zero3.start w)
  clear hI hby
  go_enter Try.func39, Try.ntmps39
  go_wp2_with fail
  refine (from_any A n c code _ HI.out hn HBY.out).mono ?_
  rintro e w1 ⟨rfl, hs, hb⟩
  have HZ1 := hide (HZ.out.below hb)
  have HB1 := hide (((Below.refl w.heap.size w).alloc (Nat.le_refl _) _).trans (hb.mono (by rw [alloc_size]; omega)))
  have hg1 : (w.alloc (.cells #[.int .i64 0, .int .i64 0, .int .i64 0] 25)).heap.size = w.heap.size + 1 := alloc_size _ _
  generalize (w.alloc (.cells #[.int .i64 0, .int .i64 0, .int .i64 0] 25)).heap.size = g at hs hg1 ⊢
  have hgN : w.heap.size < g := by omega
  have HS1 := hide hs
  clear hs hb hg1
  go_wp2_with fail
  refine (drawAny g _ A n c code _ HS1.out).mono ?_
  rintro e w2 ⟨p, k, γ, rfl, hs, hg⟩
  have HD2 := hide (show Dst w g _ A n c code w2.heap.size p k γ (w2.alloc (.cells #[.int .i64 p, .int .i64 k, .int .i64 γ] 25)) from
    ⟨hs.still (World.grownBy_alloc w2 _ none) (by simp), (HZ1.out.grown hg (by omega)).alloc _, heap_alloc_new w2 _, (below_grown HB1.out hg (by omega)).alloc (Nat.le_of_lt (HZ1.out.grown hg (by omega)).lt) _, hgN, hs.lt⟩)
  have hg2 : g < w2.heap.size := hs.lt
  clear hs hg HZ1 HB1 HS1 HZ HI
  go_wp2_with fail
  have hws : (w2.alloc (.cells #[.int .i64 p, .int .i64 k, .int .i64 γ] 25)).heap.size = w2.heap.size + 1 := alloc_size _ _
  generalize w2.alloc (.cells #[.int .i64 p, .int .i64 k, .int .i64 γ] 25) = ws at HD2 hws ⊢
  generalize w2.heap.size = N at hg2 HD2 hws ⊢
  obtain ⟨d0, d1, d2⟩ := cells3 HD2.out.2.2.1
  have h1 := Own.lit0 ws 2 .i64
  have h2 := Own.lit0 (ws.alloc (.cells #[] 2)) 2 .i64
  have HN1 := hide (h1.ne h2 (Nat.le_refl _))
  have HN2 := hide (h1.ne' h2 (Nat.le_refl _))
  rw [alloc_size] at h2
  rw [hws] at h1 h2
  have HX0 := hide ((h1.alloc (.cells #[] 2)).low (base' := N + 1) (by omega))
  have HY0 := hide (h2.low (base' := N + 1) (by omega))
  rw [alloc_size, hws] at HN1 HN2
  have HD0 := hide ((HD2.out.next ((Below.refl _ _).alloc (Nat.le_refl _) (.cells #[] 2))).next ((Below.refl _ _).alloc (Nat.le_refl _) (.cells #[] 2)))
  clear h1 h2 HD2 d0 d1 d2 hws
  refine (drawElem p k γ g _ A n c code _ HD0.out.1).mono ?_
  rintro e w3 ⟨z0, rfl, hs, hg⟩
  have HD3 := hide (HD0.out.src hs hg)
  have HX3 := hide (HX0.out.src hg (by omega))
  have HY3 := hide (HY0.out.src hg (by omega))
  clear hs hg HD0 HX0 HY0
  go_wp2_with fail
  refine (next_any g _ A n c code 6 _ HD3.out.1 (by omega)).mono ?_
  rintro e w4 ⟨y, rfl, hy0, hy1, hs, hg⟩
  obtain ⟨y, rfl⟩ : ∃ m : Nat, y = m := ⟨y.toNat, by omega⟩
  have HD4 := hide (HD3.out.src hs hg)
  have HX4 := hide (HX3.out.src hg (by omega))
  have HY4 := hide (HY3.out.src hg (by omega))
  clear hs hg HD3 HX3 HY3
  go_wp2_with fail
  go_loopw [7, 8, 9, 10] (fun u v m i wr => FdRel w g g A n c code N p k γ u v m i wr) (fun _ _ _ i _ => (intOf i).toNat)
  case atStart => exact ⟨y, [], [], z0, by simp; omega, by simp; omega, rfl, rfl, HX4.out, HY4.out, HN1.out, HN2.out, HD4.out⟩
  case round =>
    clear HD4 HX4 HY4 HN1 HN2 hy0 hy1
    obtain ⟨v, rfl⟩ : ∃ v : Value, v = u7 := ⟨_, rfl⟩
    obtain ⟨v', rfl⟩ : ∃ v' : Value, v' = u8 := ⟨_, rfl⟩
    obtain ⟨j, zx, zy, z, hjx, hjy, rfl, rfl, HX, HY, hn1, hn2, HD⟩ := hrel
    have HX := hide HX
    have HY := hide HY
    have HD := hide HD
    have HN1 := hide hn1
    have HN2 := hide hn2
    clear hn1 hn2
    by_cases hlt : 0 < j
    · obtain ⟨i, hi⟩ : ∃ i, j = i + 1 := ⟨j - 1, by omega⟩
      have hw1 : (j : Int) - 1 = (i : Int) := by omega
      have HII := hide hi
      have hNw : N + 1 ≤ wr.heap.size := HD.out.lt
      clear hi
      go_wp2_with (at_builtin; refine wpList_app1L wr rfl _ _ _ rfl elem64 (N + 1) v zx rfl HX.out z rfl (by omega) hNw ?_; intro b5 c5 w5 hown hgrow hlies; have HNy := hide (ne_lies HY.out HN1.out hlies); have HX5 := hide hown; have HY5 := hide (HY.out.grown hgrow HN2.out); have HD5 := hide (dst_own HD.out HX.out hgrow); obtain ⟨d0, d1, d2⟩ := cells3 HD5.out.2.2.1; clear hown hgrow hlies)
      refine (drawElem p k γ g _ A n c code _ HD5.out.1).mono ?_
      rintro e w6 ⟨z6, rfl, hs, hg⟩
      have HD6 := hide (HD5.out.src hs hg)
      have HX6 := hide (HX5.out.src hg (by omega))
      have HY6 := hide (HY5.out.src hg (by omega))
      have hNw6 : N + 1 ≤ w6.heap.size := HD6.out.lt
      clear hs hg d0 d1 d2 HX HY HD HN1 HN2 HX5 HY5 HD5
      go_wp2_with (at_builtin; refine wpList_app1L w6 rfl _ _ _ rfl elem64 (N + 1) v' zy rfl HY6.out z6 rfl (by omega) hNw6 ?_; intro b7 c7 w7 hown hgrow hlies; have HNx := hide (ne_lies HX6.out (.inr (show v'.ownBlock ≠ some b5 from HNy.out)) hlies); have HX7 := hide (HX6.out.grown hgrow (.inr (show some b5 ≠ v'.ownBlock from fun e => HNy.out e.symm))); have HY7 := hide hown; have HD7 := hide (dst_own HD6.out HY6.out hgrow); clear hown hgrow hlies)
      clear HX6 HY6 HD6 HNy
      have hmx : ¬ max 3 (fsize p k γ) = 0 := by omega
      go_region_held3 (fun w' => w'.cell? ⟨N, 0, none⟩ = some (.int .i64 p) ∧ w'.cell? ⟨N, 1, none⟩ = some (.int .i64 k) ∧ w'.cell? ⟨N, 2, none⟩ = some (.int .i64 γ))
        (first
          | exact ⟨(cells3 HD7.out.drew.2.2.1).1, (cells3 HD7.out.drew.2.2.1).2.1, (cells3 HD7.out.drew.2.2.1).2.2⟩
          | exact ⟨(cells3 HD8.out.2.2.1).1, (cells3 HD8.out.2.2.1).2.1, (cells3 HD8.out.2.2.1).2.2⟩
          | exact ⟨(cells3 HD9.out.2.2.1).1, (cells3 HD9.out.2.2.1).2.1, (cells3 HD9.out.2.2.1).2.2⟩)
        (first
          | (go_at_call 66; refine (next_any g _ A n c code 3 _ HD7.out.drew.1 (by omega)).mono ?_; rintro e w8 ⟨y8, rfl, hy8, hy8b, hs, hg⟩; have HD8 := hide (HD7.out.drew.src hs hg); have HX8 := hide (HX7.out.drew.src hg (by omega)); have HY8 := hide (HY7.out.drew.src hg (by omega)); clear hs hg)
          | (go_at_call 24; refine (specFieldSize p k γ _).mono ?_; rintro e w9 ⟨rfl, hb⟩; have HD9 := hide (HD8.out.next hb); have HX9 := hide (HX8.out.below hb (Nat.le_refl _)); have HY9 := hide (HY8.out.below hb (Nat.le_refl _)); clear hb))
      go_wp2_with fail
      go_roundw
      case rel => exact ⟨i, _, _, _, by have := HII.out; rw [List.length_append]; simp; omega, by have := HII.out; rw [List.length_append]; simp; omega, rfl, rfl, HX9.out, HY9.out, .inr (show some b5 ≠ some b7 from HNx.out), .inr (show some b7 ≠ some b5 from fun e => HNx.out e.symm), HD9.out⟩
      case measure => have := HII.out; simp [intOf]; omega
    · have hz : decide (0 < j) = false := by simpa using hlt
      have HLX := hide (show zx.length ≤ 6 by omega)
      have HLY := hide (show zy.length ≤ 6 by omega)
      clear hlt hjx hjy
      go_wp2_with fail
      refine (next_any g _ A n c code 20 _ HD.out.1 (by omega)).mono ?_
      rintro e w5 ⟨y, rfl, hy0, hy1, hs, hg⟩
      have HD5 := hide (HD.out.src hs hg)
      have HX5 := hide (HX.out.src hg (by omega))
      have HY5 := hide (HY.out.src hg (by omega))
      clear hs hg hy1 HX HY HD
      by_cases hyz : y = 0
      · subst hyz
        clear hy0
        obtain ⟨Ax, cx, rfl, hcx⟩ := HX5.out.form
        have HCX := hide hcx
        have hNw5 : N + 1 ≤ w5.heap.size := HD5.out.lt
        clear hcx
        go_wp2_with (at_builtin; refine wpList_app1L w5 rfl _ _ _ rfl elem64 (N + 1) v' zy rfl HY5.out 1 rfl (by have := HLY.out; omega) hNw5 ?_; intro b6 c6 w6 hown hgrow hlies; have HX6 := hide (HX5.out.grown hgrow HN1.out); have HY6 := hide hown; have HD6 := hide (dst_own HD5.out HY5.out hgrow); clear hown hgrow hlies; obtain ⟨d0, d1, d2⟩ := cells3 HD6.out.2.2.1; obtain ⟨c0', c1', c2'⟩ := HD6.out.2.1.cells; obtain ⟨f0', f1', f2'⟩ := HD6.out.2.1.frozen)
        have hl6 : (zy ++ [1]).length = zy.length + 1 := by simp
        have hY := HY6.out
        rw [← hl6] at hY
        obtain ⟨Ay, cy, hv, hcy⟩ := hY.form
        simp only [Value.slice.injEq] at hv
        refine bodyPost_ret (v := .tuple #[.agg #[.int .i64 p, .int .i64 k, .int .i64 γ], .slice Ax zx.length cx, .slice (some ⟨b6, 0, none⟩) (zy.length + 1) c6]) (by simp [results, Try.results39, go_sem, c0', c1', c2']) rfl ?_
        rw [← hl6]
        exact flc_mk HD6.out HX6.out hY (Nat.le_succ _) (Nat.le_succ _) (by have := HLX.out; omega) (by have := HLY.out; omega) HCX.out (by rw [hv.2.2]; exact hcy) _ _ _
      · by_cases hyo : y = 1
        · subst hyo
          clear hy0
          go_wp2_with fail
          refine (next_any g _ A n c code 2 _ HD5.out.1 (by omega)).mono ?_
          rintro e w6 ⟨y2, rfl, hy0, hy1, hs, hg⟩
          have HD6 := hide (HD5.out.src hs hg)
          have HY6 := hide (HY5.out.src hg (by omega))
          clear hs hg HX5 HY5 HD5 HN1 HN2 hyz
          obtain ⟨Ay, cy, rfl, hcy⟩ := HY6.out.form
          have HCY := hide hcy
          clear hcy
          obtain ⟨m, hm⟩ : ∃ m : Nat, (64 : Int) + y2 = (m : Int) := ⟨(64 + y2).toNat, by omega⟩
          have hm2 : m ≤ 66 := by omega
          go_wp2_with (refine wpList_mkN _ rfl (.tmp 56) (.tmp 56) 35 rfl elem64 .i64 .i64 _ _ m rfl rfl (by omega) (by omega) (by omega) fun w7 h1 h2 => ?_; have HD7 := hide (HD6.out.next h2); have HY7 := hide (HY6.out.below h2 (Nat.le_refl _)); have HX7 := hide h1; obtain ⟨d0, d1, d2⟩ := cells3 HD7.out.2.2.1; obtain ⟨c0', c1', c2'⟩ := HD7.out.2.1.cells; obtain ⟨f0', f1', f2'⟩ := HD7.out.2.1.frozen; clear h1 h2)
          have hl6 : (List.replicate m (0 : Int)).length = m := by simp
          have hX := HX7.out
          rw [show Value.slice (some ⟨w6.heap.size, 0, none⟩) m m = Value.slice (some ⟨w6.heap.size, 0, none⟩) (List.replicate m (0 : Int)).length m by rw [hl6]] at hX
          have hlt6 := HD6.out.lt
          refine bodyPost_ret (v := .tuple #[.agg #[.int .i64 p, .int .i64 k, .int .i64 γ], .slice (some ⟨w6.heap.size, 0, none⟩) (List.replicate m (0 : Int)).length m, .slice Ay zy.length cy]) (by rw [hl6]; simp [results, Try.results39, go_sem, c0', c1', c2']) rfl ?_
          exact flc_mk HD7.out hX HY7.out (by omega) (Nat.le_succ _) (by rw [hl6]; omega) (by have := HLY.out; omega) (by rw [hl6]; exact Nat.le_refl _) HCY.out _ _ _
        · have e0 : (y == 0) = false := by simpa using hyz
          have e1 : (y == 1) = false := by simpa using hyo
          clear hyz hyo
          obtain ⟨Ax, cx, rfl, hcx⟩ := HX5.out.form
          obtain ⟨Ay, cy, rfl, hcy⟩ := HY5.out.form
          obtain ⟨d0, d1, d2⟩ := cells3 HD5.out.2.2.1
          obtain ⟨c0', c1', c2'⟩ := HD5.out.2.1.cells
          obtain ⟨f0', f1', f2'⟩ := HD5.out.2.1.frozen
          have HCX := hide hcx
          have HCY := hide hcy
          clear hcx hcy
          go_wp2_with fail
          refine bodyPost_ret (v := .tuple #[.agg #[.int .i64 p, .int .i64 k, .int .i64 γ], .slice Ax zx.length cx, .slice Ay zy.length cy]) (by simp [results, Try.results39, go_sem, c0', c1', c2']) rfl ?_
          exact flc_mk HD5.out HX5.out HY5.out (Nat.le_succ _) (Nat.le_succ _) (by have := HLX.out; omega) (by have := HLY.out; omega) HCX.out HCY.out _ _ _
end Go.Proofs.Ythafkohopkgckaa

namespace Go.Proofs.Ythafkohopkgckaa
open Go.RowKit
set_option linter.unusedVariables false
set_option linter.unusedSimpArgs false

def FlwRel {R : Fld} (w1 : World) (p k γ : Int) (A1 A2 Ag : Option Addr) (n m : Nat) (xs ys fit : List (El R)) (i : Value) (wr : World) : Prop :=
  ∃ j : Nat, j ≤ m ∧ i = .int .i64 j ∧ Ints .i64 wr wr.heap.size A1 m (iv xs) ∧ Ints .i64 wr wr.heap.size A2 m (iv ys) ∧ Ints .i64 wr wr.heap.size Ag n (iv fit) ∧ Box w1 wr 25 p k γ

set_option maxRecDepth 100000 in
set_option maxHeartbeats 8000000 in
theorem fnPolyFitWalk (a0 : Option Addr) (n0 c0 : Nat) (z0 : List Int) (w : World) (h0 : Came .u8 w a0 n0 c0 z0) :
    Calls Try.prog 7 #[.slice a0 n0 c0] w fun e w' => e = .returned (.bool true) ∧ Below w.heap.size w w' := by
  obtain ⟨hI, hnc, hcm, hwf⟩ := h0
  have HI := hide hI
  have HBY := hide (show ∀ b ∈ z0, 0 ≤ b ∧ b ≤ 255 from fun b hb => bd_u8 (hwf b hb))
  clear hI hwf
  unfold maxLen at hcm
  by_cases hbig : 4096 < n0
  · go_enter Try.func7, Try.ntmps7
    go_wp2_with fail
    refine (big_yes a0 n0 c0 w hbig (by omega)).mono ?_
    rintro e w ⟨rfl, rfl⟩
    go_wp2_with fail
    go_ret
    exact ⟨rfl, Below.refl _ _⟩
  have hn0 : n0 ≤ 4096 := by omega
  go_enter Try.func7, Try.ntmps7
  go_wp2_with fail
  refine (big_no a0 n0 c0 w hn0).mono ?_
  rintro e w ⟨rfl, rfl⟩
  go_wp2_with fail
  refine (drawFit a0 n0 c0 z0 w HI hn0 HBY).mono ?_
  rintro e w1 ⟨p, k, γ, z1, A1, c1, z2, A2, c2, rfl, hz1, hz2, hp1, hp2, hI1, hI2, hb⟩
  have HB1 := hide hb
  have HP1 := hide hp1
  have HP2 := hide hp2
  have HX1 := hide (Box.start w1 25 p k γ)
  have I1_1 := hide ((hI1.below HX1.out.2).more HX1.out.2.size)
  have I2_1 := hide ((hI2.below HX1.out.2).more HX1.out.2.size)
  clear hI1 hI2 hb HI hp1 hp2
  obtain ⟨b0, b1, b2⟩ := HX1.out.cells
  obtain ⟨r, cd, hr, hS, hM, hC⟩ := fit_both p k γ z1 z2 hz1 hz2
  have HS := hide hS
  have HM := hide hM
  have HC := hide hC
  clear hS hM hC
  have hcc : (cd != cd) = false := by simp
  go_wp2_with fail
  refine (HM.out A1 _ c1 A2 _ c2 _ _ I1_1.out I2_1.out HP1.out HP2.out (Nat.le_refl _)).mono ?_
  rintro e w2 ⟨Ag, cg, rfl, hcg, hog, hb⟩
  have HX2 := hide (HX1.out.next hb)
  have I1_2 := hide ((I1_1.out.below hb).more hb.size)
  have I2_2 := hide ((I2_1.out.below hb).more hb.size)
  clear I1_1
  clear I2_1
  have Ig_2 := hide (hog.ints)
  clear hog
  clear hb b0 b1 b2
  obtain ⟨b0, b1, b2⟩ := HX2.out.cells
  clear hcg
  go_wp2_with fail
  refine (HS.out A1 _ c1 A2 _ c2 _ _ I1_2.out I2_2.out HP1.out HP2.out (Nat.le_refl _)).mono ?_
  rintro e w3 ⟨Av, cv, rfl, hcv, hov, hb⟩
  have HX3 := hide (HX2.out.next hb)
  have I1_3 := hide ((I1_2.out.below hb).more hb.size)
  have I2_3 := hide ((I2_2.out.below hb).more hb.size)
  have Ig_3 := hide ((Ig_2.out.below hb).more hb.size)
  clear I1_2
  clear I2_2
  clear Ig_2
  have Iv_3 := hide (hov.ints)
  clear hov
  clear hb b0 b1 b2
  obtain ⟨b0, b1, b2⟩ := HX3.out.cells
  clear hcv
  go_wp2_with fail
  refine (likeSame Ag _ cg _ Av _ cv _ r _ Ig_3.out Iv_3.out (by omega)).mono ?_
  rintro e w4 ⟨rfl, hb⟩
  have HX4 := hide (HX3.out.next hb)
  have I1_4 := hide ((I1_3.out.below hb).more hb.size)
  have I2_4 := hide ((I2_3.out.below hb).more hb.size)
  have Ig_4 := hide ((Ig_3.out.below hb).more hb.size)
  have Iv_4 := hide ((Iv_3.out.below hb).more hb.size)
  clear I1_3
  clear I2_3
  clear Ig_3
  clear Iv_3
  clear hb b0 b1 b2
  obtain ⟨b0, b1, b2⟩ := HX4.out.cells
  rcases HC.out with hcd | ⟨hcd, hf, R, xs, ys, fit, rooted, hR, hz1e, hz2e, hxy, hxl, hre, hF⟩
  · have e1 : (cd != 0) = true := by simpa using hcd
    clear hcd
    go_wp2_with fail
    go_ret
    exact ⟨rfl, HB1.out.trans (HX4.out.2.mono HB1.out.size)⟩
  · subst hcd hz1e hz2e hre
    obtain ⟨n, hn⟩ : ∃ n, (iv fit).length = n := ⟨_, rfl⟩
    obtain ⟨m, hm⟩ : ∃ m, (iv xs).length = m := ⟨_, rfl⟩
    have hm' : (iv ys).length = m := by rw [iv_len, ← hxy, ← iv_len]; exact hm
    rw [hn] at Ig_4 ⊢
    rw [hm] at I1_4 ⊢
    rw [hm'] at I2_4 ⊢
    have hlf := hF.lenF
    have hnm : n ≤ m := by rw [← hn, ← hm, iv_len, iv_len]; exact hlf
    have hmb : m ≤ 64 := by rw [← hm, iv_len]; exact hxl
    have HNX := hide (show xs.length = m by rw [← hm, iv_len])
    have HNY := hide (show ys.length = m by rw [← hm', iv_len])
    have HVF := hide (show ∀ j, j < m → ev (cf xs j) fit = cf ys j from fun j hj => hF.valF j (by rw [HNX.out]; exact hj))
    have HEV := hide (fun X : El R => eval_val hR fit (iv_small (by omega)) hF.trF (by omega) (pErr_ok1 hf hR hF.trF (by omega)) X)
    have e7 : decide ((n : Int) ≤ (m : Int)) = true := by rw [decide_eq_true_iff]; omega
    have HNM := hide hnm
    clear hcc HS HM HC hF hn hm hm' hxy hxl hlf hnm
    go_wp2_with fail
    go_loopw [10, 11, 12] (fun i _ _ wr => FlwRel w1 p k γ A1 A2 Ag n m xs ys fit i wr) (fun i _ _ _ => m - (intOf i).toNat)
    case atStart => exact ⟨0, by omega, rfl, I1_4.out, I2_4.out, Ig_4.out, HX4.out⟩
    case round =>
      clear b0 b1 b2 I1_4 I2_4 Ig_4 HX1 HX2 HX3 HX4
      obtain ⟨j, hj, rfl, hI1, hI2, hIg, HX⟩ := hrel
      have HX := hide HX
      have HI1 := hide hI1
      have HI2 := hide hI2
      have HIg := hide hIg
      clear hI1 hI2 hIg
      by_cases hlt : j < m
      · obtain ⟨b, off, x, rfl, hb, hx, hc⟩ := HI1.out.at_ hlt
        obtain ⟨b', off', x', rfl, hb', hx', hc'⟩ := HI2.out.at_ hlt
        rw [iv_at (by rw [HNX.out]; omega)] at hx
        rw [iv_at (by rw [HNY.out]; omega)] at hx'
        simp only [Option.some.injEq] at hx hx'
        subst hx hx'
        have HEX := hide (HEV.out (cf xs j))
        rw [HVF.out j hlt] at HEX
        obtain ⟨X, hX⟩ : ∃ X, X = cf xs j := ⟨_, rfl⟩
        obtain ⟨Y, hY⟩ : ∃ Y, Y = cf ys j := ⟨_, rfl⟩
        rw [← hX] at hc HEX
        rw [← hY] at hc' HEX
        have hyy : (((Y.val : Nat) : Int) != ((Y.val : Nat) : Int)) = false := by simp
        have HCL := hide hc
        have HBL := hide hb
        have HCY := hide hc'
        have HBY' := hide hb'
        clear hX hY hc hb hc' hb'
        go_wp2_with fail
        go_region_held3 (fun w' => w'.cell? ⟨w1.heap.size, 0, none⟩ = some (.int .i64 p) ∧ w'.cell? ⟨w1.heap.size, 1, none⟩ = some (.int .i64 k) ∧ w'.cell? ⟨w1.heap.size, 2, none⟩ = some (.int .i64 γ) ∧ w'.cell? ⟨b, off + j, none⟩ = some (.int .i64 (X.val : Int)))
          (first
            | exact ⟨HX.out.drew.cells.1, HX.out.drew.cells.2.1, HX.out.drew.cells.2.2, HCL.out⟩
            | exact ⟨HX9.out.cells.1, HX9.out.cells.2.1, HX9.out.cells.2.2, HCL9.out⟩)
          ((go_at_call 30; refine (HEX.out Ag n cg wr.heap.size wr.drew HIg.out.drew (Nat.le_refl _)).mono ?_; rintro e w9 ⟨rfl, hb9⟩; have HX9 := hide (HX.out.drew.next hb9); have I19 := hide ((HI1.out.drew.below hb9).more hb9.size); have I29 := hide ((HI2.out.drew.below hb9).more hb9.size); have Ig9 := hide ((HIg.out.drew.below hb9).more hb9.size); have HCL9 := hide ((hb9.cell (p := ⟨b, off + j, none⟩) HBL.out).trans HCL.out); have hcy9 := (hb9.cell (p := ⟨b', off' + j, none⟩) HBY'.out).trans HCY.out; clear hb9))
        go_wp2_with fail
        go_roundw
        case rel => exact ⟨j + 1, by omega, by go_num, I19.out, I29.out, Ig9.out, HX9.out⟩
        case measure => simp [intOf]; omega
      · have hd : decide (j < m) = false := by simpa using hlt
        clear hlt
        have hnm := HNM.out
        go_wp2_with fail
        go_ret
        exact ⟨rfl, HB1.out.trans (HX.out.2.mono HB1.out.size)⟩
end Go.Proofs.Ythafkohopkgckaa
