/-
  The contracts of the roots of a code, its generator polynomial and the polynomials of words, of the program.
  Condition: the code is valid.
-/
import Derived.Test.YtdniocdmncldjaaGreatCode3
namespace Go.Proofs.YtdniocdmncldjaaGreat
open Go.RowKit
set_option linter.unusedSimpArgs false
set_option linter.unusedVariables false

/-- A part of the table of powers. -/
theorem run_slice_tab (b c : Nat) (hc : c ≤ 1000) (w : World) :
    (Instr.sliceAt 98 (.pointer (some ⟨b, 0, none⟩)) (some (.int .i64 1)) (some (.int .i64 ((c : Int) + 1))) none).run Tryz.prog w = .ok (.slice (some ⟨b, 1, none⟩) c 1020) w := by
  have ht : Tryz.prog.underlying 98 = some (.array (Tryz.prog.arrayLen 98) (Tryz.prog.elem 98)) := by kernel_rfl
  have hl : Tryz.prog.arrayLen 98 = 1021 := by kernel_rfl
  have hs : (sizeOf (Tryz.prog.elem 98)).run Tryz.prog w = .ok 1 w := by kernel_rfl
  rw [run_sliceAt_array_lh w _ ⟨b, 0, none⟩ ht .i64 .i64 1 ((c : Int) + 1) (by omega) (by omega) (by rw [hl]; omega), hs, hl]
  simp only [Result.andThen_ok, slicedAt]
  rw [show ((c : Int) + 1).toNat = c + 1 by omega, show (1 : Int).toNat = 1 from rfl, if_neg (by omega)]
  rfl

section
variable {R : Fld} {γ : El R} {p k g : Int} {l c : Nat}
/-- The powers of an element, the first first. -/
def pws (γ : El R) (c : Nat) : List (El R) := tab c fun j => epw γ (j + 1)
theorem pws_len (γ : El R) (c : Nat) : (pws γ c).length = c := tab_len _ _
theorem pws_at {γ : El R} {c j : Nat} (h : j < c) : cf (pws γ c) j = epw γ (j + 1) := by rw [pws, cf_tab, if_pos h]

theorem tab_ints {ws : World} {N : Nat} {cs : Array Value} {t : TypeId} (hR : ws.heap[N]? = some (.cells cs t (0, 0))) (hT : Tab cs (tbl R.q R.mul γ.val)) (hc : c + 1 < R.q) (hq : R.q ≤ 1021) :
    Ints .i64 ws ws.heap.size (some ⟨N, 1, none⟩) c (iv (pws γ c)) := by
  refine ⟨by rw [iv_len, pws_len], fun _ => ⟨N, 1, rfl, (Array.getElem?_eq_some_iff.1 hR).1, fun j x hx => ?_⟩⟩
  have hj : j < c := by
    have := (List.getElem?_eq_some_iff.1 hx).1
    rwa [iv_len, pws_len] at this
  rw [iv_at (by rw [pws_len]; exact hj), pws_at hj] at hx
  injection hx with hx
  rw [cell_of_row ws N (1 + j) _ _ _ hR, hT.2 (1 + j) (by omega), tbl, if_pos (by omega), ← hx, epw_val, Nat.add_comm]

set_option maxRecDepth 100000 in
set_option maxHeartbeats 2000000 in
theorem implRootsOf (h : CodeIs R γ p k g l c) (w : World) :
    Calls Tryz.prog 47 #[.agg #[.int .i64 p, .int .i64 k, .int .i64 g, .int .i64 l, .int .i64 c]] w (NewInts 2 .i64 (iv (pws γ c)) w) := by
  have HX := hide (CBox.start w p k g l c)
  have hc64 := h.c64
  have HQ := hide (show c + 1 < R.q by have := h.cl; have := h.lq; omega)
  have HLE := hide h.fld.le
  obtain ⟨Z, hZ, hz⟩ := zero_tab
  have HZ := hide hZ
  have hw1 : IntKind.i64.wrap ((c : Int) + 1) = ((c + 1 : Nat) : Int) := by rw [IntWalk.i64_in _ ⟨by omega, by omega⟩]; omega
  clear hZ
  obtain ⟨c0, c1, c2, c3, c4⟩ := HX.out.cells
  go_enter Tryz.func47, Tryz.ntmps47
  go_wp2_with fail
  refine (implPowers h.fld.kind γ.lt h.gval _).mono ?_
  rintro e w1 ⟨cs, rfl, hT, hb⟩
  have HT := hide hT
  have HX1 := hide (HX.out.next hb)
  have HS := hide (show (Tryz.prog.info? 98).map (·.size) = some cs.size by rw [hT.1]; exact size_tab)
  have HZS := hide (show Z.size = cs.size by rw [hT.1, HZ.out.1])
  have HH := hide (heap_alloc_new w1 (.cells Z 98 (0, 0)))
  clear hT hb c0 c1 c2 c3 c4
  have HXA := hide (HX1.out.alloc (.cells Z 98 (0, 0)))
  have HXB := hide (HXA.out.setRow (b := w1.heap.size) (HX1.out.lt) cs)
  have HR := hide (setRow_heap (w1.alloc (.cells Z 98)) w1.heap.size Z cs 98 _ HH.out)
  have hbl : w1.heap.size < ((w1.alloc (.cells Z 98)).setRow w1.heap.size cs).heap.size := (Array.getElem?_eq_some_iff.1 HR.out).1
  obtain ⟨ws, hws⟩ : ∃ ws, (w1.alloc (.cells Z 98)).setRow w1.heap.size cs = ws := ⟨_, rfl⟩
  have HWS := hide hws
  rw [hws] at HXB HR hbl
  clear hws HX HXA
  go_wp2_with (with_reducible refine wpList_store_row rfl 98 (.tmp 3) (.tmp 6) rfl w1.heap.size cs rfl rfl 98 Z HH.out HS.out HZS.out HT.out.one ?_; rw [HWS.out]; clear HWS HX1 HH HZS hz HZ; obtain ⟨c0, c1, c2, c3, c4⟩ := HXB.out.cells; have hsl := run_slice_tab w1.heap.size c (by omega))
  have HI := hide (tab_ints HR.out HT.out HQ.out HLE.out)
  refine (implClone (some ⟨w1.heap.size, 1, none⟩) c 1020 ws.heap.size (iv (pws γ c)) ws HI.out (Nat.le_refl _) (by omega)).mono ?_
  rintro e w2 ⟨A2, m2, rfl, hm2, ho, hb⟩
  have HX2 := hide (HXB.out.next hb)
  have HO := hide (ho.low (base' := w.heap.size) (Nat.le_of_lt HXB.out.lt))
  clear ho hb c0 c1 c2 c3 c4 hsl
  go_wp2_with fail
  go_ret
  exact ⟨A2, m2, rfl, hm2, HO.out, HX2.out.2⟩

theorem Ints.past {k : IntKind} {w w' : World} {n : Nat} {A : Option Addr} {zs : List Int} {o : Obj} (h : Ints k w w.heap.size A n zs) (hb : Below (w.alloc o).heap.size (w.alloc o) w') : Ints k w' w'.heap.size A n zs :=
  ((h.below ((Below.refl w.heap.size w).alloc (Nat.le_refl _) o)).below (hb.mono (by rw [alloc_size]; exact Nat.le_succ _))).more (by have := hb.size; rw [alloc_size] at this; omega)
theorem own_lit1 (w : World) (e : TypeId) (k : IntKind) (y : Int) : Own (w.alloc (.cells #[.int k y] e)) w.heap.size e k (.slice (some ⟨w.heap.size, 0, none⟩) 1 1) [y] :=
  Own.intro (World.ownsRow_lit w #[.int k y] 1 (by simp) (by simp [maxLen]) (by simp)) rfl rfl

def GpRel (w : World) (p k g : Int) (l c : Nat) (γ : El R) (A1 : Option Addr) (v i : Value) (wr : World) : Prop :=
  ∃ (j : Nat) (Ap : Option Addr) (cp : Nat), j ≤ c ∧ i = .int .i64 j ∧ v = .slice Ap (j + 1) cp ∧ Own wr (w.heap.size + 1) 2 .i64 (.slice Ap (j + 1) cp) (iv (genP γ j)) ∧ Ints .i64 wr wr.heap.size A1 c (iv (pws γ c)) ∧ CBox w wr p k g l c

set_option maxRecDepth 100000 in
set_option maxHeartbeats 2000000 in
theorem implPolyOf (L C : Int) (ws : List (El R)) (A : Option Addr) (n cw B : Nat) (w : World) (hI : Ints .i64 w B A n (iv ws)) (hB : B ≤ w.heap.size) (h0 : 0 < n) (hn : n ≤ 1099511627776) :
    Calls Tryz.prog 46 #[.agg #[.int .i64 p, .int .i64 k, .int .i64 g, .int .i64 L, .int .i64 C], .slice A n cw] w (NewP (wpoly ws) w) := by
  have HX := hide (CBox.start w p k g L C)
  have hl : ws.length = n := by rw [← iv_len]; exact hI.len
  have HI := hide hI
  have HL := hide hl
  clear hI hl
  go_enter Tryz.func46, Tryz.ntmps46
  go_wp2_with fail
  refine (implClone A n cw B (iv ws) _ (HI.out.below (HX.out.2.mono hB)) (Nat.le_trans hB (Nat.le_of_lt HX.out.lt)) hn).mono ?_
  rintro e w1 ⟨A1, m1, rfl, hm1, ho, hb⟩
  rw [iv_len, HL.out] at ho ⊢
  have HX1 := hide (HX.out.next hb)
  obtain ⟨g1, c1, he, hg1, _, _⟩ := ho.some_ (by rw [iv_len, HL.out]; exact h0)
  simp only [Value.slice.injEq] at he
  obtain ⟨rfl, hx1, hx2⟩ := he
  have HO1 := hide (show Own w1 (w.heap.size + 1) 2 .i64 (.slice (some ⟨g1, 0, none⟩) n m1) (iv (tab n (cf ws))) by
    have h1 := ho.low (base' := w.heap.size + 1) (by rw [alloc_size]; exact Nat.le_refl _)
    rw [show tab n (cf ws) = ws by rw [← HL.out]; exact tab_cf ws]
    exact h1)
  have hgw : w.heap.size < g1 := by rw [alloc_size] at hg1; omega
  clear ho hb hm1 hx1 hx2 hg1
  go_wp2_with fail
  refine (implReverse n m1 g1 (w.heap.size + 1) (cf ws) w1 HO1.out hn).mono ?_
  rintro e w2 ⟨rfl, ho, hg⟩
  have HX2 := hide (HX1.out.grow hg (fun b hb => by injection hb with hb; omega))
  have HO2 := hide (show Own w2 (w.heap.size + 1) 2 .i64 (.slice (some ⟨g1, 0, none⟩) n m1) (iv ws.reverse) by
    rw [show tab n (cf ws) = ws by rw [← HL.out]; exact tab_cf ws] at ho
    exact ho)
  clear ho hg
  go_wp2_with fail
  refine (implTrimmed ws.reverse g1 n m1 _ w2 HO2.out hn).mono ?_
  rintro e w3 ⟨rfl, ho, rfl⟩
  have HO3 := hide (ho.low (base' := w.heap.size) (Nat.le_succ _))
  clear ho
  go_wp2_with fail
  go_ret
  exact ⟨g1, m1, rfl, HO3.out, hgw, HX2.out.2⟩
end
end Go.Proofs.YtdniocdmncldjaaGreat
