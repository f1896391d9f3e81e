/-
  The contracts of the roots of a code, its generator polynomial and the polynomials of words, of the program.
  Condition: the code is valid.
-/
import Derived.Test.YtlphodhecaagbaaGreatCode3
namespace Go.Proofs.YtlphodhecaagbaaGreat
open Go.RowKit
set_option linter.unusedSimpArgs false
set_option linter.unusedVariables false

/-- A part of the table of powers. -/
theorem run_slice_tab (b c : Nat) (hc : c ≤ 1000) (w : World) :
    (Instr.sliceAt 152 (.pointer (some ⟨b, 0, none⟩)) (some (.int .i64 1)) (some (.int .i64 ((c : Int) + 1))) none).run Tryz.prog w = .ok (.slice (some ⟨b, 1, none⟩) c 1020) w := by
  have ht : Tryz.prog.underlying 152 = some (.array (Tryz.prog.arrayLen 152) (Tryz.prog.elem 152)) := by kernel_rfl
  have hl : Tryz.prog.arrayLen 152 = 1021 := by kernel_rfl
  have hs : (sizeOf (Tryz.prog.elem 152)).run Tryz.prog w = .ok 1 w := by kernel_rfl
  rw [run_sliceAt_array_lh w _ ⟨b, 0, none⟩ ht .i64 .i64 1 ((c : Int) + 1) (by omega) (by omega) (by rw [hl]; omega), hs, hl]
  simp only [Result.andThen_ok, slicedAt]
  rw [show ((c : Int) + 1).toNat = c + 1 by omega, show (1 : Int).toNat = 1 from rfl, if_neg (by omega)]
  rfl

section
variable {R : Fld} {γ : El R} {p k g : Int} {l c : Nat}
/-- The powers of an element, the first first. -/
def pws (γ : El R) (c : Nat) : List (El R) := tab c fun j => epw γ (j + 1)
theorem pws_len (γ : El R) (c : Nat) : (pws γ c).length = c := tab_len _ _
theorem pws_at {γ : El R} {c j : Nat} (h : j < c) : cf (pws γ c) j = epw γ (j + 1) := by rw [pws, cf_tab, if_pos h]

theorem tab_ints {ws : World} {N : Nat} {cs : Array Value} {t : TypeId} (hR : ws.heap[N]? = some (.cells cs t (0, 0))) (hT : Tab cs (tbl R.q R.mul γ.val)) (hc : c + 1 < R.q) (hq : R.q ≤ 1021) :
    Ints .i64 ws ws.heap.size (some ⟨N, 1, none⟩) c (iv (pws γ c)) := by
  refine ⟨by rw [iv_len, pws_len], fun _ => ⟨N, 1, rfl, (Array.getElem?_eq_some_iff.1 hR).1, fun j x hx => ?_⟩⟩
  have hj : j < c := by
    have := (List.getElem?_eq_some_iff.1 hx).1
    rwa [iv_len, pws_len] at this
  rw [iv_at (by rw [pws_len]; exact hj), pws_at hj] at hx
  injection hx with hx
  rw [cell_of_row ws N (1 + j) _ _ _ hR, hT.2 (1 + j) (by omega), tbl, if_pos (by omega), ← hx, epw_val, Nat.add_comm]

set_option maxRecDepth 100000 in
set_option maxHeartbeats 2000000 in
theorem implRootsOf (h : CodeIs R γ p k g l c) (w : World) :
    Calls Tryz.prog 123 #[.agg #[.int .i64 p, .int .i64 k, .int .i64 g, .int .i64 l, .int .i64 c]] w (NewInts 2 .i64 (iv (pws γ c)) w) := by
  have HX := hide (CBox.start w p k g l c)
  have hc64 := h.c64
  have HQ := hide (show c + 1 < R.q by have := h.cl; have := h.lq; omega)
  have HLE := hide h.fld.le
  obtain ⟨Z, hZ, hz⟩ := zero_tab
  have HZ := hide hZ
  have hw1 : IntKind.i64.wrap ((c : Int) + 1) = ((c + 1 : Nat) : Int) := by rw [IntWalk.i64_in _ ⟨by omega, by omega⟩]; omega
  clear hZ
  obtain ⟨c0, c1, c2, c3, c4⟩ := HX.out.cells
  go_enter Tryz.func123, Tryz.ntmps123
  go_wp2_with fail
  refine (implPowers h.fld.kind γ.lt h.gval _).mono ?_
  rintro e w1 ⟨cs, rfl, hT, hb⟩
  have HT := hide hT
  have HX1 := hide (HX.out.next hb)
  have HS := hide (show (Tryz.prog.info? 152).map (·.size) = some cs.size by rw [hT.1]; exact size_tab)
  have HZS := hide (show Z.size = cs.size by rw [hT.1, HZ.out.1])
  have HH := hide (heap_alloc_new w1 (.cells Z 152 (0, 0)))
  clear hT hb c0 c1 c2 c3 c4
  have HXA := hide (HX1.out.alloc (.cells Z 152 (0, 0)))
  have HXB := hide (HXA.out.setRow (b := w1.heap.size) (HX1.out.lt) cs)
  have HR := hide (setRow_heap (w1.alloc (.cells Z 152)) w1.heap.size Z cs 152 _ HH.out)
  have hbl : w1.heap.size < ((w1.alloc (.cells Z 152)).setRow w1.heap.size cs).heap.size := (Array.getElem?_eq_some_iff.1 HR.out).1
  obtain ⟨ws, hws⟩ : ∃ ws, (w1.alloc (.cells Z 152)).setRow w1.heap.size cs = ws := ⟨_, rfl⟩
  have HWS := hide hws
  rw [hws] at HXB HR hbl
  clear hws HX HXA
  go_wp2_with (with_reducible refine wpList_store_row rfl 152 (.tmp 3) (.tmp 6) rfl w1.heap.size cs rfl rfl 152 Z HH.out HS.out HZS.out HT.out.one ?_; rw [HWS.out]; clear HWS HX1 HH HZS hz HZ; obtain ⟨c0, c1, c2, c3, c4⟩ := HXB.out.cells; have hsl := run_slice_tab w1.heap.size c (by omega))
  have HI := hide (tab_ints HR.out HT.out HQ.out HLE.out)
  refine (implClone (some ⟨w1.heap.size, 1, none⟩) c 1020 ws.heap.size (iv (pws γ c)) ws HI.out (Nat.le_refl _) (by omega)).mono ?_
  rintro e w2 ⟨A2, m2, rfl, hm2, ho, hb⟩
  have HX2 := hide (HXB.out.next hb)
  have HO := hide (ho.low (base' := w.heap.size) (Nat.le_of_lt HXB.out.lt))
  clear ho hb c0 c1 c2 c3 c4 hsl
  go_wp2_with fail
  go_ret
  exact ⟨A2, m2, rfl, hm2, HO.out, HX2.out.2⟩

theorem Ints.past {k : IntKind} {w w' : World} {n : Nat} {A : Option Addr} {zs : List Int} {o : Obj} (h : Ints k w w.heap.size A n zs) (hb : Below (w.alloc o).heap.size (w.alloc o) w') : Ints k w' w'.heap.size A n zs :=
  ((h.below ((Below.refl w.heap.size w).alloc (Nat.le_refl _) o)).below (hb.mono (by rw [alloc_size]; exact Nat.le_succ _))).more (by have := hb.size; rw [alloc_size] at this; omega)
theorem own_lit1 (w : World) (e : TypeId) (k : IntKind) (y : Int) : Own (w.alloc (.cells #[.int k y] e)) w.heap.size e k (.slice (some ⟨w.heap.size, 0, none⟩) 1 1) [y] :=
  Own.intro (World.ownsRow_lit w #[.int k y] 1 (by simp) (by simp [maxLen]) (by simp)) rfl rfl

def GpRel (w : World) (p k g : Int) (l c : Nat) (γ : El R) (A1 : Option Addr) (v i : Value) (wr : World) : Prop :=
  ∃ (j : Nat) (Ap : Option Addr) (cp : Nat), j ≤ c ∧ i = .int .i64 j ∧ v = .slice Ap (j + 1) cp ∧ Own wr (w.heap.size + 1) 2 .i64 (.slice Ap (j + 1) cp) (iv (genP γ j)) ∧ Ints .i64 wr wr.heap.size A1 c (iv (pws γ c)) ∧ CBox w wr p k g l c

set_option maxRecDepth 100000 in
set_option maxHeartbeats 2000000 in
theorem implGenPoly (h : CodeIs R γ p k g l c) (w : World) :
    Calls Tryz.prog 90 #[.agg #[.int .i64 p, .int .i64 k, .int .i64 g, .int .i64 l, .int .i64 c]] w (NewE (genP γ c) w) := by
  have HX := hide (CBox.start w p k g l c)
  have hc64 := h.c64
  have HXa := hide (HX.out.alloc (.cells #[.int .i64 1] 2))
  have HOa := hide (own_lit1 (w.alloc (.cells #[.int .i64 p, .int .i64 k, .int .i64 g, .int .i64 l, .int .i64 c] 89)) 2 .i64 1)
  rw [alloc_size] at HOa
  obtain ⟨c0, c1, c2, c3, c4⟩ := HXa.out.cells
  go_enter Tryz.func90, Tryz.ntmps90
  go_wp2_with fail
  refine (implRootsOf h _).mono ?_
  rintro e w1 ⟨A1, m1, rfl, hm1, ho, hb⟩
  have HX1 := hide (HXa.out.next hb)
  have HO1 := hide (HOa.out.below hb (Nat.le_refl _))
  have HI1 := hide (show Ints .i64 w1 w1.heap.size A1 c (iv (pws γ c)) by have := ho.intsE; rw [iv_len, pws_len] at this; exact this)
  have HL1 := hide (show (iv (pws γ c)).length = c by rw [iv_len, pws_len])
  rw [HL1.out]
  clear ho hb hm1 c0 c1 c2 c3 c4 HL1
  go_wp2_with fail
  go_loopw [3, 10] (fun v i wr => GpRel w p k g l c γ A1 v i wr) (fun _ i _ => c - (intOf i).toNat)
  case atStart => exact ⟨0, _, 1, by omega, rfl, rfl, HO1.out, HI1.out, HX1.out⟩
  case round =>
    clear HX HXa HOa HX1 HO1 HI1
    obtain ⟨j, Ap, cp, hj, rfl, rfl, HO, HI, HX⟩ := hrel
    have HX := hide HX
    have HO := hide HO
    have HI := hide HI
    by_cases hlt : j < c
    · obtain ⟨b, off, x, rfl, hb, hx, hc⟩ := HI.out.at_ hlt
      rw [iv_at (by rw [pws_len]; exact hlt), pws_at hlt] at hx
      simp only [Option.some.injEq] at hx
      subst hx
      obtain ⟨x, hx⟩ : ∃ x, x = epw γ (j + 1) := ⟨_, rfl⟩
      rw [← hx] at hc
      have HN := hide (show mulP (genP γ j) (lin x) = genP γ (j + 1) by rw [hx]; rfl)
      have HGL := hide (gen_len γ (j + 1))
      have hwl : w.heap.size + 1 ≤ wr.heap.size := HX.out.lt
      clear hx
      go_wp2_with fail
      go_region_held3 (fun w' => w'.cell? ⟨w.heap.size, 0, none⟩ = some (.int .i64 p) ∧ w'.cell? ⟨w.heap.size, 1, none⟩ = some (.int .i64 k) ∧ w'.cell? ⟨w.heap.size, 2, none⟩ = some (.int .i64 g))
        (first
          | exact ⟨HX.out.drew.cells.1, HX.out.drew.cells.2.1, HX.out.drew.cells.2.2.1⟩
          | exact ⟨HX2.out.cells.1, HX2.out.cells.2.1, HX2.out.cells.2.2.1⟩
          | exact ⟨(HX2.out.alloc _).cells.1, (HX2.out.alloc _).cells.2.1, (HX2.out.alloc _).cells.2.2.1⟩
          | exact ⟨HX3.out.cells.1, HX3.out.cells.2.1, HX3.out.cells.2.2.1⟩)
        (first
          | (go_at_call 91; refine (implNegE h.fld x _).mono ?_; rintro e w2 ⟨rfl, hb2⟩; have HX2 := hide (HX.out.drew.next hb2); have HO2 := hide (HO.out.drew.below hb2 (Nat.le_refl _)); have HI2 := hide ((HI.out.drew.below hb2).more hb2.size); clear hb2)
          | (go_at_call 102; refine (implTimes h.fld (genP γ j) (lin x) Ap (some ⟨w2.heap.size, 0, none⟩) (j + 1) cp 2 2 (w2.heap.size + 1) _ (by have := (HO2.out.alloc (.cells #[.int .i64 ((-x).val : Int), .int .i64 1] 2)).intsE; rw [alloc_size] at this; exact this) (ints_two w2 2 .i64 ((-x).val : Int) 1) (by rw [alloc_size]; exact Nat.le_refl _) (by omega) (by omega)).mono ?_; rw [HN.out]; rintro e w3 ⟨g3, c3, rfl, ho3, hg3, hb3⟩; rw [HGL.out] at ho3 ⊢; have HX3 := hide ((HX2.out.alloc _).next hb3); have HO3 := hide (ho3.low (base' := w.heap.size + 1) (by have := HX2.out.lt; rw [alloc_size]; omega)); have HI3 := hide (HI2.out.past hb3); clear ho3 hg3 hb3))
      go_wp2_with fail
      go_roundw
      case rel => exact ⟨j + 1, _, c3, by omega, by go_num, rfl, HO3.out, HI3.out, HX3.out⟩
      case measure => simp [intOf]; omega
    · obtain rfl : j = c := by omega
      have HGL := hide (gen_len γ j)
      have HF := hide (newE_of (w := w) HO.out HX.out.2 (Nat.le_succ _))
      go_wp2_with fail
      go_ret
      exact HF.out

set_option maxRecDepth 100000 in
set_option maxHeartbeats 2000000 in
theorem implPolyOf (L C : Int) (ws : List (El R)) (A : Option Addr) (n cw B : Nat) (w : World) (hI : Ints .i64 w B A n (iv ws)) (hB : B ≤ w.heap.size) (h0 : 0 < n) (hn : n ≤ 1099511627776) :
    Calls Tryz.prog 88 #[.agg #[.int .i64 p, .int .i64 k, .int .i64 g, .int .i64 L, .int .i64 C], .slice A n cw] w (NewP (wpoly ws) w) := by
  have HX := hide (CBox.start w p k g L C)
  have hl : ws.length = n := by rw [← iv_len]; exact hI.len
  have HI := hide hI
  have HL := hide hl
  clear hI hl
  go_enter Tryz.func88, Tryz.ntmps88
  go_wp2_with fail
  refine (implClone A n cw B (iv ws) _ (HI.out.below (HX.out.2.mono hB)) (Nat.le_trans hB (Nat.le_of_lt HX.out.lt)) hn).mono ?_
  rintro e w1 ⟨A1, m1, rfl, hm1, ho, hb⟩
  rw [iv_len, HL.out] at ho ⊢
  have HX1 := hide (HX.out.next hb)
  obtain ⟨g1, c1, he, hg1, _, _⟩ := ho.some_ (by rw [iv_len, HL.out]; exact h0)
  simp only [Value.slice.injEq] at he
  obtain ⟨rfl, hx1, hx2⟩ := he
  have HO1 := hide (show Own w1 (w.heap.size + 1) 2 .i64 (.slice (some ⟨g1, 0, none⟩) n m1) (iv (tab n (cf ws))) by
    have h1 := ho.low (base' := w.heap.size + 1) (by rw [alloc_size]; exact Nat.le_refl _)
    rw [show tab n (cf ws) = ws by rw [← HL.out]; exact tab_cf ws]
    exact h1)
  have hgw : w.heap.size < g1 := by rw [alloc_size] at hg1; omega
  clear ho hb hm1 hx1 hx2 hg1
  go_wp2_with fail
  refine (implReverse n m1 g1 (w.heap.size + 1) (cf ws) w1 HO1.out hn).mono ?_
  rintro e w2 ⟨rfl, ho, hg⟩
  have HX2 := hide (HX1.out.grow hg (fun b hb => by injection hb with hb; omega))
  have HO2 := hide (show Own w2 (w.heap.size + 1) 2 .i64 (.slice (some ⟨g1, 0, none⟩) n m1) (iv ws.reverse) by
    rw [show tab n (cf ws) = ws by rw [← HL.out]; exact tab_cf ws] at ho
    exact ho)
  clear ho hg
  go_wp2_with fail
  refine (implTrimmed ws.reverse g1 n m1 _ w2 HO2.out hn).mono ?_
  rintro e w3 ⟨rfl, ho, rfl⟩
  have HO3 := hide (ho.low (base' := w.heap.size) (Nat.le_succ _))
  clear ho
  go_wp2_with fail
  go_ret
  exact ⟨g1, m1, rfl, HO3.out, hgw, HX2.out.2⟩
end
end Go.Proofs.YtlphodhecaagbaaGreat
