/-
  The contract of the draw of ErrorValues: some code, syndromes and indices, no old memory changed.
  Condition: the code has at most 4096 bytes.
-/
import Derived.Test.YtpheembgjdgniaaDDraw3
import Derived.Test.YtpheembgjdgniaaDSpec2
import Derived.Test.YtpheembgjdgniaaCode7
import Derived.Test.YtpheembgjdgniaaJO
namespace Go.Proofs.Ytpheembgjdgniaa
open Go.RowKit
set_option linter.unusedSimpArgs false
set_option linter.unusedVariables false

section
variable {w wr wr' : World} {g Bc n c N : Nat} {A : Option Addr} {code : List Int} {p k γ L C : Int}
theorem Cst.next (h : Cst w g Bc A n c code N p k γ L C wr) (hb : Below wr.heap.size wr wr') : Cst w g Bc A n c code N p k γ L C wr' :=
  ⟨h.1.below hb h.1.lt, h.2.1.below hb, h.2.2.1.below hb, h.2.2.2.1.trans (hb.mono h.2.2.2.1.size), h.2.2.2.2⟩
theorem Cst.alloc (h : Cst w g Bc A n c code N p k γ L C wr) (o : Obj) : Cst w g Bc A n c code N p k γ L C (wr.alloc o) := h.next ((Below.refl _ _).alloc (Nat.le_refl _) o)
theorem Cst.own {row : Option Nat} (h : Cst w g Bc A n c code N p k γ L C wr) (hg : wr.grownBy wr' row) (hr : ∀ b, row = some b → N < b) : Cst w g Bc A n c code N p k γ L C wr' :=
  have hN := h.2.2.2.2
  ⟨h.1.still hg (fun r hr' => by have := hr r hr'; omega), h.2.1.own hg (fun b hb => by have := hr b hb; omega), h.2.2.1.own hg hr, h.2.2.2.1.grown hg h.2.2.2.1.size (fun b hb => by have := hr b hb; omega), hN⟩
theorem Cst.cells (h : Cst w g Bc A n c code N p k γ L C wr) : wr.cell? ⟨N, 0, none⟩ = some (.int .i64 p) ∧ wr.cell? ⟨N, 1, none⟩ = some (.int .i64 k) ∧ wr.cell? ⟨N, 2, none⟩ = some (.int .i64 γ) ∧ wr.cell? ⟨N, 3, none⟩ = some (.int .i64 L) ∧ wr.cell? ⟨N, 4, none⟩ = some (.int .i64 C) :=
  ⟨(row5 h.2.2.1).1, (row5 h.2.2.1).2.1, (row5 h.2.2.1).2.2.1, (row5 h.2.2.1).2.2.2.1, (row5 h.2.2.1).2.2.2.2.1⟩
end
theorem cll_mk' {w wr : World} {g Bc n c N : Nat} {A : Option Addr} {code : List Int} {p k γ L C : Int} {zs zs' : List Int} {n1 n2 : Nat} {A1 A2 : Option Addr} {c1 c2 b1 b2 : Nat} (e1 : zs.length = n1) (e2 : zs'.length = n2) (h : Cst w g Bc A n c code N p k γ L C wr) (hB : InB L C) (h1 : Own wr b1 2 .i64 (.slice A1 n1 c1) zs) (h2 : Own wr b2 2 .i64 (.slice A2 n2 c2) zs') (hb1 : N ≤ b1) (hb2 : N ≤ b2) (hl1 : zs.length ≤ 400) (hl2 : zs'.length ≤ 400) (x0 x1 x2 x3 x4 : Value) :
    DrawnCLL w (.returned (.tuple #[.agg #[.int .i64 p, .int .i64 k, .int .i64 γ, .int .i64 L, .int .i64 C], .slice A1 n1 c1, .slice A2 n2 c2])) (((((wr.setCell ⟨w.heap.size, 0, none⟩ x0).setCell ⟨w.heap.size, 1, none⟩ x1).setCell ⟨w.heap.size, 2, none⟩ x2).setCell ⟨w.heap.size, 3, none⟩ x3).setCell ⟨w.heap.size, 4, none⟩ x4) := by
  subst e1; subst e2; exact cll_mk h hB h1 h2 hb1 hb2 hl1 hl2 x0 x1 x2 x3 x4
theorem mk_run (w : World) (n : Nat) (hn : n ≤ 1000) : ∃ w', (Instr.makeSlice 28 (.int .i64 (n : Int)) (.int .i64 (n : Int))).run Try.prog w = .ok (.slice (some ⟨w.heap.size, 0, none⟩) n n) w' ∧ Own w' w.heap.size 2 .i64 (.slice (some ⟨w.heap.size, 0, none⟩) n n) (List.replicate n 0) ∧ Below w.heap.size w w' := by
  have E := elem64
  obtain ⟨i, hi, hz0, hz1, hz2⟩ := info_parts E.info
  obtain ⟨w', h0, h1, h2⟩ := run_make_full (P := Try.prog) w w.heap.size 28 2 i (.int .i64 0) 1 E.under hi hz0 hz1 .i64 .i64 n (Nat.le_trans (Nat.mul_le_mul_right _ (by rw [hz2]; exact E.small)) (show 8 * n ≤ 281474976710656 by omega)) (by simp only [maxLen]; omega) (Nat.le_refl _)
  refine ⟨w', h0, Own.intro h1 (by simp) ?_, (Below.refl w.heap.size w).grown h2 (Nat.le_refl _) (by simp)⟩
  rw [Nat.mul_one]
  show (madeCells #[Value.int .i64 0] n).toList = _
  rw [toList_madeCells_one, List.map_replicate]
theorem map_ex {α : Type} (d : α) : ∀ (J : List Nat) (vs : List α), J.Nodup → vs.length = J.length → ∃ f : Nat → α, J.map f = vs
  | [], [], _, _ => ⟨fun _ => d, rfl⟩
  | i :: J, v :: vs, h, hl => by
    obtain ⟨f, hf⟩ := map_ex d J vs (List.nodup_cons.1 h).2 (by simpa using hl)
    refine ⟨fun k => if k = i then v else f k, ?_⟩
    have hi := (List.nodup_cons.1 h).1
    rw [List.map_cons, if_pos rfl, ← hf]
    refine congrArg (v :: ·) (List.map_congr_left fun k hk => ?_)
    exact if_neg (fun e => hi (by rw [← e]; exact hk))
theorem quo5 {x : Int} (h0 : 0 ≤ x) (h1 : x < 6) : ∃ y : Int, 0 ≤ y ∧ y ≤ 1 ∧ IntKind.i64.wrap (x.tdiv 5) = y :=
  ⟨x / 5, by omega, by omega, by rw [Int.tdiv_eq_ediv_of_nonneg h0, IntWalk.i64_in _ ⟨by omega, by omega⟩]⟩

def DevRel {R : Fld} (w : World) (g Bc : Nat) (A : Option Addr) (n c : Nat) (code : List Int) (N B3 : Nat) (p k γ : Int) (l c' : Nat) (A2 : Option Addr) (c2 : Nat) (es : List Int) (v i : Value) (wr : World) : Prop :=
  ∃ (j : Nat) (vs : List (El R)), j ≤ es.length ∧ i = .int .i64 j ∧ Hid (vs.length = j) ∧ Own wr B3 2 .i64 v (iv vs) ∧ Own wr N 2 .i64 (.slice A2 es.length c2) es ∧ Cst w g Bc A n c code N p k γ l c' wr ∧ B3 ≤ wr.heap.size

set_option maxRecDepth 100000 in
set_option maxHeartbeats 8000000 in
theorem drawEv (A : Option Addr) (n c : Nat) (code : List Int) (w : World) (hI : Ints .u8 w w.heap.size A n code) (hn : n ≤ 4096) (hby : ∀ b ∈ code, 0 ≤ b ∧ b ≤ 255) :
    Calls Try.prog 21 #[.slice A n c] w (DrawnCLL w) := by
  have HI := hide ((hI.below ((Below.refl _ _).alloc (Nat.le_refl _) (.cells #[.int .i64 0, .int .i64 0, .int .i64 0, .int .i64 0, .int .i64 0] 27))).more (B' := (w.alloc (.cells #[.int .i64 0, .int .i64 0, .int .i64 0, .int .i64 0, .int .i64 0] 27)).heap.size) (by rw [alloc_size]; omega))
  have HBY := hide hby
  have HZ := hide (Row5.start w 0 0 0 0 0)
  clear hI hby
  go_enter Try.func21, Try.ntmps21
  go_wp2_with fail
  refine (from_any A n c code _ HI.out hn HBY.out).mono ?_
  rintro e w1 ⟨rfl, hs, hb⟩
  have HZ1 := hide (HZ.out.below hb)
  have HB1 := hide (((Below.refl w.heap.size w).alloc (Nat.le_refl _) _).trans (hb.mono (by rw [alloc_size]; omega)))
  have hg1 : (w.alloc (.cells #[.int .i64 0, .int .i64 0, .int .i64 0, .int .i64 0, .int .i64 0] 27)).heap.size = w.heap.size + 1 := alloc_size _ _
  generalize (w.alloc (.cells #[.int .i64 0, .int .i64 0, .int .i64 0, .int .i64 0, .int .i64 0] 27)).heap.size = g at hs hg1 ⊢
  have hgN : w.heap.size < g := by omega
  have HS1 := hide hs
  clear hs hb hg1
  go_wp2_with fail
  refine (drawCodeAny g _ A n c code _ HS1.out).mono ?_
  rintro e w2 ⟨p, k, γ, L, C, rfl, _, hL0, hL1, hC0, hC1, hs, hg⟩
  have HD2 := hide (show Cst w g _ A n c code w2.heap.size p k γ L C (w2.alloc (.cells #[.int .i64 p, .int .i64 k, .int .i64 γ, .int .i64 L, .int .i64 C] 27)) from
    ⟨hs.still (World.grownBy_alloc w2 _ none) (by simp), (HZ1.out.src hg (by omega)).alloc _, Row5.start w2 p k γ L C, (below_grown HB1.out hg (by omega)).alloc (Nat.le_of_lt (HZ1.out.src hg (by omega)).lt) _, hgN, hs.lt⟩)
  have HIB := hide (show InB L C from ⟨hL0, hL1, hC0, hC1⟩)
  have hg2 : g < w2.heap.size := hs.lt
  have hCb : -9223372036854775808 ≤ C ∧ C ≤ 9223372036854775807 := by omega
  clear hs hg HZ1 HB1 HS1 HZ HI
  go_wp2_with fail
  generalize w2.alloc (.cells #[.int .i64 p, .int .i64 k, .int .i64 γ, .int .i64 L, .int .i64 C] 27) = ws at HD2 ⊢
  generalize w2.heap.size = N at hg2 HD2 ⊢
  rcases hcb : codeB p k γ L C with _ | _
  · have HB := hide hcb
    clear hcb
    obtain ⟨d0, d1, d2, d3, d4⟩ := HD2.out.cells
    go_wp2_with fail
    refine (specIsCode p k γ L C _ hCb).mono ?_
    rw [HB.out]
    rintro e w3 ⟨rfl, hb⟩
    have HD3 := hide (HD2.out.next hb)
    have HD4 := hide (HD3.out.alloc (.cells #[.int .i64 1] 2))
    have HO4 := hide (Own.lit1 w3 2 .i64 1)
    have hN3 : N < w3.heap.size := HD3.out.lt
    clear hb d0 d1 d2 d3 d4 HD2
    obtain ⟨d0, d1, d2, d3, d4⟩ := HD3.out.cells
    obtain ⟨z0, z1, z2, z3, z4, f0, f1, f2, f3, f4⟩ := row5 HD4.out.2.1
    go_wp2_with fail
    refine bodyPost_ret (v := .tuple #[.agg #[.int .i64 p, .int .i64 k, .int .i64 γ, .int .i64 L, .int .i64 C], .slice (some ⟨w3.heap.size, 0, none⟩) 1 1, .slice none 0 0]) (by simp [results, Try.results21, go_sem, z0, z1, z2, z3, z4]) rfl ?_
    exact cll_mk (zs := [1]) (zs' := []) HD4.out HIB.out HO4.out (nilOwn (w3.alloc (.cells #[.int .i64 1] 2)) N 2 .i64) (Nat.le_of_lt hN3) (Nat.le_refl _) (by simp) (by simp) _ _ _ _ _
  · have HB := hide hcb
    obtain ⟨R, γ', l, c', rfl, rfl, hc⟩ := codeB_open hcb
    clear hcb
    have hK := hc.fld.kind
    have hqb := hK.big
    have hl255 := hc.l255
    have hc64 := hc.c64
    have hc1' := hc.c1
    obtain ⟨d0, d1, d2, d3, d4⟩ := HD2.out.cells
    go_wp2_with fail
    refine (specIsCode p k γ l c' _ hCb).mono ?_
    rw [HB.out]
    rintro e w3 ⟨rfl, hb⟩
    have HD3 := hide (HD2.out.next hb)
    clear hb d0 d1 d2 d3 d4 HD2
    obtain ⟨d0, d1, d2, d3, d4⟩ := HD3.out.cells
    go_wp2_with fail
    go_region_held3 (fun w' => w'.cell? ⟨N, 0, none⟩ = some (.int .i64 p) ∧ w'.cell? ⟨N, 1, none⟩ = some (.int .i64 k) ∧ w'.cell? ⟨N, 2, none⟩ = some (.int .i64 γ) ∧ w'.cell? ⟨N, 3, none⟩ = some (.int .i64 l) ∧ w'.cell? ⟨N, 4, none⟩ = some (.int .i64 c'))
      (first
        | exact HD3.out.drew.cells
        | exact HDa.out.cells
        | exact HDb.out.cells
        | go_keep)
      (first
        | (go_at_call 54; have hm1 := HMa; refine (drawIndices p k γ l c' ((c' : Int) + y5) g _ A n c code _ HDa.out.1 hL0 hL1 hC0 hC1 (by omega) (by omega)).mono ?_; rintro e wb ⟨es, A2, c2, rfl, hel, ho, hs, hg⟩; have HDb := hide (HDa.out.src hs hg); have HEb := hide (ho.low (base' := N) (Nat.le_of_lt HDa.out.lt)); have HXb := hide (show ∀ b, (Value.slice A2 es.length c2).ownBlock = some b → b < wb.heap.size from fun b hb => (ho.lt hb).2); clear ho hs hg)
        | (go_at_call 55; refine (next_any g _ A n c code 6 _ HD3.out.drew.1 (by omega)).mono ?_; rintro e wa ⟨r, rfl, hr0, hr1, hs, hg⟩; obtain ⟨y5, hy50, hy51, hyw⟩ := quo5 hr0 (by omega); have hw5 : IntKind.i64.wrap ((c' : Int) + y5) = (c' : Int) + y5 := IntWalk.i64_in _ ⟨by omega, by omega⟩; have HDa := hide (HD3.out.drew.src hs hg); have HMa : True := trivial; clear hs hg))
    all_goals
      have HEG := hide (own_gap HEb.out hg2)
      have HOb := hide (Own.lit0 wb 2 .i64)
      have HDc := hide (HDb.out.alloc (.cells #[] 2))
      have HEc := hide (HEb.out.alloc (.cells #[] 2))
      have hN3 : N < wb.heap.size := HDb.out.lt
      clear d0 d1 d2 d3 d4 HDa HD3 HMa hm1 HDb HEb hy50 hy51 hyw hw5 hr0 hr1
      go_wp2_with fail
      go_loopw [8, 9] (fun v i wr => DevRel (R := R) w g _ A n c code N wb.heap.size p k γ l c' A2 c2 es v i wr) (fun _ i _ => es.length - (intOf i).toNat)
      case atStart => exact ⟨0, [], Nat.zero_le _, rfl, rfl, HOb.out, HEc.out, HDc.out, by rw [alloc_size]; omega⟩
      case round =>
        clear HOb HEc HDc
        obtain ⟨v, rfl⟩ : ∃ v : Value, v = u8 := ⟨_, rfl⟩
        obtain ⟨j, vs, hj, rfl, hL, hO, hE, hD, hB3⟩ := hrel
        have HVL := hide hL.out
        have HO := hide hO
        have HE := hide hE
        have HD := hide hD
        have HB3 := hide hB3
        clear hL hO hE hD hB3
        have HVG := hide (own_gap HO.out (B := g) (by omega))
        have HVB := hide (show ∀ b, v.ownBlock = some b → N < b from fun b hb => Nat.lt_of_lt_of_le hN3 (HO.out.lt hb).1)
        have HVE := hide (show (Value.slice A2 es.length c2).ownBlock = none ∨ (Value.slice A2 es.length c2).ownBlock ≠ v.ownBlock by
          rcases hv : (Value.slice A2 es.length c2).ownBlock with _ | b'
          · exact .inl rfl
          · refine .inr fun e => ?_
            have h1 := HXb.out b' hv
            have h2 := (HO.out.lt e.symm).1
            omega)
        obtain ⟨d0, d1, d2, d3, d4⟩ := HD.out.cells
        by_cases hlt : j < es.length
        · go_wp2_with fail
          refine (specSize hK _).mono ?_
          rintro e w5 ⟨rfl, hb⟩
          have HD5 := hide (HD.out.next hb)
          have HO5 := hide (HO.out.below hb (Nat.le_refl _))
          have HE5 := hide (HE.out.below hb (Nat.le_refl _))
          have HB5 := hide (Nat.le_trans HB3.out hb.size)
          clear hb d0 d1 d2 d3 d4
          go_wp2_with fail
          refine (next_any g _ A n c code (R.q : Int) _ HD5.out.1 (by omega)).mono ?_
          rintro e w6 ⟨y, rfl, hy0, hy1, hs, hg⟩
          obtain ⟨Y, rfl⟩ : ∃ Y : El R, y = (Y.val : Int) := ⟨⟨y.toNat, by omega⟩, by show y = ((y.toNat : Nat) : Int); omega⟩
          have HD6 := hide (HD5.out.src hs hg)
          have HO6 := hide (HO5.out.grown hg HVG.out)
          have HE6 := hide (HE5.out.grown hg HEG.out)
          have HB6 := hide (Nat.le_trans HB5.out hg.size)
          have hlen : (iv vs).length + 1 ≤ 1000 := by rw [iv_len, HVL.out]; omega
          clear hs hg hy0 hy1
          go_wp2_with (at_builtin; refine wpList_app1 w6 rfl _ _ _ rfl elem64 wb.heap.size v _ rfl HO6.out (Y.val : Int) rfl (by omega) HB6.out ?_; intro v4 w7 hown hgrow)
          have HO7 := hide (show Own w7 wb.heap.size 2 .i64 v4 (iv (vs ++ [Y])) by rw [iv_app, iv_one]; exact hown)
          have HD7 := hide (HD6.out.own hgrow HVB.out)
          have HE7 := hide (HE6.out.grown hgrow HVE.out)
          have HB7 := hide (Nat.le_trans HB6.out hgrow.size)
          clear hown hgrow
          go_wp2_with fail
          go_roundw
          case rel => exact ⟨j + 1, vs ++ [Y], hlt, by go_num, by show (vs ++ [Y]).length = j + 1; rw [List.length_append, HVL.out]; rfl, HO7.out, HE7.out, HD7.out, HB7.out⟩
          case measure => simp [intOf]; omega
        · have hd : decide (j < es.length) = false := by simpa using hlt
          have hje : j = es.length := by omega
          subst hje
          obtain ⟨Av, cv, rfl, hcv⟩ := HO.out.form
          rw [iv_len, HVL.out] at HO HVG HVB HVE hcv ⊢
          clear hlt
          go_wp2_with fail
          refine (specIndices p k γ l c' (by omega) (by omega) A2 es.length c2 _ es _ HE.out.ints (Nat.le_refl _) (by omega)).mono ?_
          rcases hib : idxB l es with _ | _
          · rintro e w5 ⟨rfl, hb⟩
            have HD5 := hide (HD.out.next hb)
            have HE5 := hide (HE.out.below hb (Nat.le_refl _))
            clear hb d0 d1 d2 d3 d4
            obtain ⟨d0, d1, d2, d3, d4⟩ := HD5.out.cells
            obtain ⟨z0, z1, z2, z3, z4, f0, f1, f2, f3, f4⟩ := row5 HD5.out.2.1
            obtain ⟨w6, hrun, ho6, hb6⟩ := mk_run w5.drew c' (by omega)
            have HD6 := hide (HD5.out.drew.next hb6)
            have HE6 := hide (HE5.out.drew.below hb6 (Nat.le_refl _))
            have HO6 := hide ho6
            have hN5 : N ≤ w5.heap.size := Nat.le_of_lt HD5.out.lt
            have HN5 := hide hN5
            clear ho6 hb6 hN5 d0 d1 d2 d3 d4 z0 z1 z2 z3 z4 f0 f1 f2 f3 f4
            obtain ⟨d0, d1, d2, d3, d4⟩ := HD5.out.drew.cells
            obtain ⟨z0, z1, z2, z3, z4, f0, f1, f2, f3, f4⟩ := row5 HD6.out.2.1
            obtain ⟨k0, k1, k2, k3, k4⟩ := HD6.out.cells
            obtain ⟨y0, y1, y2, y3, y4, e0, e1, e2, e3, e4⟩ := row5 HD5.out.drew.2.1
            obtain ⟨v0, v1, v2, v3, v4, x0, x1, x2, x3, x4⟩ := row5 HD5.out.2.1
            obtain ⟨n0, n1, n2, n3, n4⟩ := HD5.out.cells
            obtain ⟨W, hW⟩ : ∃ W, W = (((((w5.setCell ⟨w.heap.size, 0, none⟩ (.int .i64 p)).setCell ⟨w.heap.size, 1, none⟩ (.int .i64 k)).setCell ⟨w.heap.size, 2, none⟩ (.int .i64 γ)).setCell ⟨w.heap.size, 3, none⟩ (.int .i64 (l : Int))).setCell ⟨w.heap.size, 4, none⟩ (.int .i64 (c' : Int))).drew := ⟨_, rfl⟩
            have HRW := hide (show Row5 W w.heap.size p k γ l c' by rw [hW]; exact heap_setCell_same _ _ 4 _ _ _ (heap_setCell_same _ _ 3 _ _ _ (heap_setCell_same _ _ 2 _ _ _ (heap_setCell_same _ _ 1 _ _ _ (heap_setCell_same _ _ 0 _ _ _ HD5.out.2.1)))))
            have HBW := hide (show Below w.heap.size w W by rw [hW]; exact (below_sets HD5.out.2.2.2.1 _ _ _ _ _).drew)
            have hwN : w.heap.size < N := by have := HD5.out.2.2.2.2; omega
            have HEW := hide (show Own W N 2 .i64 (.slice A2 es.length c2) es by rw [hW]; exact (HE5.out.set5 hwN _ _ _ _ _).drew)
            have hsW : W.heap.size = w5.heap.size := by rw [hW]; simp [World.drew]
            obtain ⟨w7, hrun7, ho7, hb7⟩ := mk_run W c' (by omega)
            have HR7 := hide (HRW.out.below hb7)
            have HB7 := hide (HBW.out.trans (hb7.mono HBW.out.size))
            have HE7 := hide (HEW.out.below hb7 (Nat.le_refl _))
            have HO7 := hide ho7
            have hcE : es.length ≤ c2 := own_cap HE5.out
            obtain ⟨q0, q1, q2, q3, q4, -, -, -, -, -⟩ := row5 HR7.out
            rw [hsW] at hrun7 HO7
            rw [hW] at hrun7
            clear ho7 hb7
            go_wp2_with fail
            go_region
            · go_wp2_with fail
              refine bodyPost_ret (v := .tuple #[.agg #[.int .i64 p, .int .i64 k, .int .i64 γ, .int .i64 l, .int .i64 c'], .slice (some ⟨w5.heap.size, 0, none⟩) c' c', .slice A2 es.length c2]) (by simp [results, Try.results21, go_sem, q0, q1, q2, q3, q4]) rfl ?_
              have h7 := HO7.out.ints
              rw [List.length_replicate] at h7
              exact ⟨p, k, γ, l, c', List.replicate c' 0, some ⟨w5.heap.size, 0, none⟩, c', es, A2, c2, by rw [List.length_replicate], HIB.out.1, HIB.out.2.1, HIB.out.2.2.1, HIB.out.2.2.2, by simp; omega, by omega, by simp, hcE, by rw [List.length_replicate]; exact h7, HE7.out.ints, HB7.out⟩
            · go_wp2_with fail
              refine bodyPost_ret (v := .tuple #[.agg #[.int .i64 p, .int .i64 k, .int .i64 γ, .int .i64 l, .int .i64 c'], .slice (some ⟨w5.heap.size, 0, none⟩) c' c', .slice A2 es.length c2]) (by simp [results, Try.results21, go_sem, z0, z1, z2, z3, z4]) rfl ?_
              exact cll_mk' (by simp) rfl HD6.out HIB.out HO6.out HE6.out HN5.out (Nat.le_refl _) (by simp; omega) (by omega) _ _ _ _ _
          · obtain ⟨J, rfl, hJ⟩ := idx_open hib
            rintro e w5 ⟨rfl, hb⟩
            have HD5 := hide (HD.out.next hb)
            have HE5 := hide (HE.out.below hb (Nat.le_refl _))
            have HO5 := hide (HO.out.below hb (Nat.le_refl _))
            have HB5 := hide (Nat.le_trans HB3.out hb.size)
            have hJn : (nv J).length = J.length := nv_len J
            obtain ⟨f, hf⟩ := map_ex (0 : El R) J vs hJ.nodup (by rw [HVL.out]; exact hJn)
            have HIJ := hide hJ
            obtain ⟨X, hX⟩ : ∃ X, X = spread l J f := ⟨_, rfl⟩
            have HXX := hide hX.symm
            have HXL := hide (show X.length = l by rw [hX]; exact spread_len _ _ _)
            obtain ⟨ss, hss⟩ : ∃ ss, ss = synW γ' c' X := ⟨_, rfl⟩
            have HSS := hide hss.symm
            have HSL := hide (show ss.length = c' by rw [hss]; exact syn_len _ _ _)
            clear hX hss
            have HEI := hide (show Ints .i64 w5 w5.heap.size A2 (nv J).length (nv J) from HE5.out.ints)
            have HIV := hide (show Ints .i64 w5 w5.heap.size Av (nv J).length (iv (J.map f)) by rw [hf]; have h := HO5.out.ints; rwa [iv_len, HVL.out] at h)
            have hjl : (nv J).length ≤ 400 := by omega
            clear hb d0 d1 d2 d3 d4 hib hJ hf hJn HO HD HB3 HVE HVB HVG HVL
            obtain ⟨jl, hjj⟩ : ∃ jl, jl = (nv J).length := ⟨_, rfl⟩
            have HJL := hide hjj.symm
            rw [← hjj] at hjl HEI HIV HE5 HO5 HXb HEG ⊢
            clear hjj
            obtain ⟨d0, d1, d2, d3, d4⟩ := HD5.out.cells
            go_wp2_with fail
            go_region_held3 (fun w' => w'.cell? ⟨N, 0, none⟩ = some (.int .i64 p) ∧ w'.cell? ⟨N, 1, none⟩ = some (.int .i64 k) ∧ w'.cell? ⟨N, 2, none⟩ = some (.int .i64 γ) ∧ w'.cell? ⟨N, 3, none⟩ = some (.int .i64 l) ∧ w'.cell? ⟨N, 4, none⟩ = some (.int .i64 c'))
              (first
                | exact HD5.out.drew.cells
                | exact HDp.out.cells
                | exact HDq.out.cells
                | go_keep)
              (first
                | (go_at_call 49; have hm1 := HMp; refine (specSyndromes hc X Ap l cp _ _ HIp.out (Nat.le_refl _) (by omega)).mono ?_; rw [HSS.out]; rintro e w7 ⟨As, cs, rfl, hcs, ho, hb⟩; rw [HSL.out] at hcs ho ⊢; have HDq := hide (HDp.out.next hb); have HEq := hide (HEp.out.below hb (Nat.le_refl _)); have HOq := hide (ho.low (base' := w5.heap.size) HBp.out); have HBq := hide (Nat.le_trans HBp.out hb.size); clear ho hb)
                | (go_at_call 57; refine (specSpread hl255 J HIJ.out.2 f A2 Av jl c2 cv w5.heap.size _ HEI.out.drew HIV.out.drew (Nat.le_refl _) (by omega)).mono ?_; rw [HXX.out]; rintro e w6 ⟨Ap, cp, rfl, hcp, ho, hb⟩; rw [HXL.out] at hcp ho ⊢; have HDp := hide (HD5.out.drew.next hb); have HEp := hide (HE5.out.drew.below hb (Nat.le_refl _)); have HIp := hide (show Ints .i64 w6 w6.heap.size Ap l (iv X) by have h := ho.ints; rwa [iv_len, HXL.out] at h); have HBp := hide hb.size; have HMp : True := trivial; clear ho hb))
            all_goals
              have hN5 : N < w5.heap.size := HD5.out.lt
              have HSQ := hide HOq.out
              have HEX := hide (show ∀ b, (Value.slice As c' cs).ownBlock = some b → N < b from fun b hb => Nat.lt_of_lt_of_le hN5 (HSQ.out.lt hb).1)
              have HES := hide (show (Value.slice A2 jl c2).ownBlock = none ∨ (Value.slice A2 jl c2).ownBlock ≠ (Value.slice As c' cs).ownBlock by
                rcases hv : (Value.slice A2 jl c2).ownBlock with _ | b'
                · exact .inl rfl
                · refine .inr fun e => ?_
                  have h1 := HXb.out b' hv
                  have h2 := (HSQ.out.lt e.symm).1
                  have h3 := HB5.out
                  omega)
              have HSG := hide (own_gap HSQ.out (B := g) (Nat.lt_trans hg2 hN5))
              clear HOq HDp HEp HIp HBp HMp hm1 d0 d1 d2 d3 d4
              obtain ⟨d0, d1, d2, d3, d4⟩ := HDq.out.cells
              clear HIV HEI HO5 HE5 HD5
              go_wp2_with fail
              refine (next_any g _ A n c code 12 _ HDq.out.1 (by omega)).mono ?_
              rintro e w8 ⟨y, rfl, hy0, hy1, hs, hg⟩
              have HD8 := hide (HDq.out.src hs hg)
              have HE8 := hide (HEq.out.grown hg HEG.out)
              have HS8 := hide (HSQ.out.grown hg HSG.out)
              have HN5 := hide (show N ≤ w5.heap.size from Nat.le_of_lt hN5)
              have HB8 := hide (show w5.heap.size ≤ w8.heap.size from Nat.le_trans HBq.out hg.size)
              clear hs hg hy1 HDq HEq HSQ d0 d1 d2 d3 d4 hN5
              by_cases hy : y = 0
              · subst hy
                obtain ⟨gS, cS, he, hg1, hg3, hcS⟩ := HS8.out.some_ (by rw [iv_len, HSL.out]; omega)
                simp only [Value.slice.injEq] at he
                obtain ⟨rfl, -, rfl⟩ := he
                obtain ⟨a, ha⟩ : ∃ a, a = cf ss 0 := ⟨_, rfl⟩
                have HCX8 := hide (HS8.out.cellAt (j := 0) (x := (a.val : Int)) (by rw [ha]; exact iv_at (by rw [HSL.out]; omega)))
                have HAX := hide (show (iv ss)[0]? = some (a.val : Int) by rw [ha]; exact iv_at (by rw [HSL.out]; omega))
                have h0c : (0 : Int) < (c' : Int) := by omega
                have h0n : 0 < c' := by omega
                clear ha hg1 hg3 hcS
                go_wp2_with fail
                refine tail_begin (fun w' => w'.cell? ⟨N, 0, none⟩ = some (.int .i64 p) ∧ w'.cell? ⟨N, 1, none⟩ = some (.int .i64 k) ∧ w'.cell? ⟨N, 2, none⟩ = some (.int .i64 γ) ∧ w'.cell? ⟨gS, 0, none⟩ = some (.int .i64 (a.val : Int))) 8 (by kernel_rfl) ⟨HD8.out.drew.cells.1, HD8.out.drew.cells.2.1, HD8.out.drew.cells.2.2.1, HCX8.out⟩ (fun hS' => ?_)
                refine tail_take 0 rfl (by kernel_rfl) (by kernel_rfl) (by kernel_rfl) (by kernel_rfl) (fun _ _ _ h => h) (by rfl) (v := ?_) ?_ (by assumption) ?_
                rotate_left 1
                · intro w' hS'; (try dsimp only at hS'); go_simp; try with_reducible rfl
                try simp only [Act.put, List.setIfInBounds_toArray, List.set_cons_zero, List.set_cons_succ]
                refine tail_take 1 rfl (by kernel_rfl) (by kernel_rfl) (by kernel_rfl) (by kernel_rfl) (fun _ _ _ h => h) (by rfl) (v := ?_) ?_ (by assumption) ?_
                rotate_left 1
                · intro w' hS'; (try dsimp only at hS'); go_simp; try with_reducible rfl
                try simp only [Act.put, List.setIfInBounds_toArray, List.set_cons_zero, List.set_cons_succ]
                refine tail_take 2 rfl (by kernel_rfl) (by kernel_rfl) (by kernel_rfl) (by kernel_rfl) (fun _ _ _ h => h) (by rfl) (v := ?_) ?_ (by assumption) ?_
                rotate_left 1
                · intro w' hS'; (try dsimp only at hS'); go_simp; try with_reducible rfl
                try simp only [Act.put, List.setIfInBounds_toArray, List.set_cons_zero, List.set_cons_succ]
                refine tail_take 3 rfl (by kernel_rfl) (by kernel_rfl) (by kernel_rfl) (by kernel_rfl) (fun _ _ _ h => h) (by rfl) (v := ?_) ?_ (by assumption) ?_
                rotate_left 1
                · intro w' hS'; (try dsimp only at hS'); go_simp; try with_reducible rfl
                try simp only [Act.put, List.setIfInBounds_toArray, List.set_cons_zero, List.set_cons_succ]
                refine tail_take 4 rfl (by kernel_rfl) (by kernel_rfl) (by kernel_rfl) (by kernel_rfl) (fun _ _ _ h => h) (by rfl) (v := ?_) ?_ (by assumption) ?_
                rotate_left 1
                · intro w' hS'; (try dsimp only at hS'); go_simp; try with_reducible rfl
                try simp only [Act.put, List.setIfInBounds_toArray, List.set_cons_zero, List.set_cons_succ]
                refine tail_take 5 rfl (by kernel_rfl) (by kernel_rfl) (by kernel_rfl) (by kernel_rfl) (fun _ _ _ h => h) (by rfl) (v := ?_) ?_ (by assumption) ?_
                rotate_left 1
                · intro w' hS'; (try dsimp only at hS'); go_simp; try with_reducible rfl
                try simp only [Act.put, List.setIfInBounds_toArray, List.set_cons_zero, List.set_cons_succ]
                refine tail_call 6 rfl (by kernel_rfl) rfl (fun K hK => ?_)
                go_simp
                go_at_call 58; refine (specAddE hc.fld a 1 _).mono ?_; rintro e w9 ⟨rfl, hb⟩; have HD9 := hide (HD8.out.drew.next hb); have HE9 := hide (HE8.out.drew.below hb (Nat.le_refl _)); have HS9 := hide (HS8.out.drew.below hb (Nat.le_refl _)); have HCX9 := hide (HS9.out.cellAt HAX.out); clear hb
                refine hK.out _ _ (by (try dsimp only); exact ⟨HD9.out.cells.1, HD9.out.cells.2.1, HD9.out.cells.2.2.1, HCX9.out⟩) (fun hS' => ?_)
                clear hK K
                try simp only [Act.put, List.setIfInBounds_toArray, List.set_cons_zero, List.set_cons_succ]
                refine tail_take 7 rfl (by kernel_rfl) (by kernel_rfl) (by kernel_rfl) (by kernel_rfl) (fun _ _ _ h => h) (by rfl) (v := ?_) ?_ (by assumption) ?_
                rotate_left 1
                · intro w' hS'; (try dsimp only at hS'); go_simp; try with_reducible rfl
                try simp only [Act.put, List.setIfInBounds_toArray, List.set_cons_zero, List.set_cons_succ]
                have hcx9 := HCX9.out
                have hfx9 := HS9.out.frozenAt 0
                refine tail_last 8 rfl (by kernel_rfl) (by kernel_rfl) rfl rfl (fun K hK => ?_)
                go_simp
                refine hK.out _ _ ?_
                clear hK K
                try simp only [Act.put, List.setIfInBounds_toArray, List.set_cons_zero, List.set_cons_succ]
                have HS10 := hide (HS9.out.stored 0 (((a + 1).val : Nat) : Int)).1
                have HG10 := hide (HS9.out.stored 0 (((a + 1).val : Nat) : Int)).2
                have HD10 := hide (HD9.out.own HG10.out (fun b hb => HEX.out b (by injection hb with hb; rw [← hb]; rfl)))
                have HE10 := hide (HE9.out.grown HG10.out HES.out)
                have HZL := hide (show ((iv ss).set 0 (((a + 1).val : Nat) : Int)).length = c' by rw [List.length_set, iv_len]; exact HSL.out)
                clear hcx9 hfx9 HCX9 HS9 HD9 HE9 HG10
                generalize w9.setCell ⟨gS, 0, none⟩ (.int .i64 (((a + 1).val : Nat) : Int)) = w10 at HS10 HD10 HE10 ⊢
                generalize (iv ss).set 0 (((a + 1).val : Nat) : Int) = qs at HS10 HZL
                obtain ⟨z0, z1, z2, z3, z4, f0, f1, f2, f3, f4⟩ := row5 HD10.out.2.1
                obtain ⟨d0, d1, d2, d3, d4⟩ := HD10.out.cells
                go_wp2_with fail
                refine bodyPost_ret (v := .tuple #[.agg #[.int .i64 p, .int .i64 k, .int .i64 γ, .int .i64 l, .int .i64 c'], .slice (some ⟨gS, 0, none⟩) c' cs, .slice A2 jl c2]) (by simp [results, Try.results21, go_sem, z0, z1, z2, z3, z4]) rfl ?_
                exact cll_mk' HZL.out HJL.out HD10.out HIB.out HS10.out HE10.out HN5.out (Nat.le_refl _) (by rw [HZL.out]; omega) (by rw [HJL.out]; omega) _ _ _ _ _
              · have e0 : (y == 0) = false := by simpa using hy
                by_cases hy' : y = 1
                · subst hy'
                  have hlen : (iv ss).length + 1 ≤ 1000 := by rw [iv_len, HSL.out]; omega
                  go_wp2_with (at_builtin; refine wpList_app1 w8 rfl _ _ _ rfl elem64 w5.heap.size (.slice As c' cs) _ rfl HS8.out 0 rfl (by omega) HB8.out ?_; intro v4 w10 hown hgrow; obtain ⟨A4, c4, rfl, hc4⟩ := hown.form; have HS10 := hide hown; have HD10 := hide (HD8.out.own hgrow HEX.out); have HE10 := hide (HE8.out.grown hgrow HES.out); clear hown hgrow hc4; obtain ⟨d0, d1, d2, d3, d4⟩ := HD10.out.cells; obtain ⟨z0, z1, z2, z3, z4, f0, f1, f2, f3, f4⟩ := row5 HD10.out.2.1)
                  have HZL := hide (show (iv ss ++ [(0 : Int)]).length ≤ 400 by simp [iv_len, HSL.out]; omega)
                  refine bodyPost_ret (v := .tuple #[.agg #[.int .i64 p, .int .i64 k, .int .i64 γ, .int .i64 l, .int .i64 c'], .slice A4 (iv ss ++ [(0 : Int)]).length c4, .slice A2 jl c2]) (by simp [results, Try.results21, go_sem, z0, z1, z2, z3, z4]) rfl ?_
                  exact cll_mk' rfl HJL.out HD10.out HIB.out HS10.out HE10.out HN5.out (Nat.le_refl _) HZL.out (by rw [HJL.out]; omega) _ _ _ _ _
                · have e1 : (y == 1) = false := by simpa using hy'
                  clear hy hy'
                  have HZL := hide (show (iv ss).length = c' by rw [iv_len]; exact HSL.out)
                  have HD10 := HD8
                  have HE10 := HE8
                  have HS10 := HS8
                  obtain ⟨z0, z1, z2, z3, z4, f0, f1, f2, f3, f4⟩ := row5 HD10.out.2.1
                  obtain ⟨d0, d1, d2, d3, d4⟩ := HD10.out.cells
                  go_wp2_with fail
                  refine bodyPost_ret (v := .tuple #[.agg #[.int .i64 p, .int .i64 k, .int .i64 γ, .int .i64 l, .int .i64 c'], .slice As c' cs, .slice A2 jl c2]) (by simp [results, Try.results21, go_sem, z0, z1, z2, z3, z4]) rfl ?_
                  exact cll_mk' HZL.out HJL.out HD10.out HIB.out HS10.out HE10.out HN5.out (Nat.le_refl _) (by rw [HZL.out]; omega) (by rw [HJL.out]; omega) _ _ _ _ _
end Go.Proofs.Ytpheembgjdgniaa
