/-
  Lists of indices; the contracts of valid indices, of locators and of locator polynomials, of the program.
  The contracts of the locators of a code, their inverses, locator polynomials and the indices that one locates, of the program.
  The contracts of the indices that a polynomial locates, of evaluators and of the values of errors, of the program.
  Condition: as each statement says.
-/
import Derived.Test.YtlphodhecaagbaaGreatCode5
import Derived.Test.YtlphodhecaagbaaGreatJP
import Derived.Test.YtlphodhecaagbaaGreatJK
namespace Go.Proofs.YtlphodhecaagbaaGreat
open Go.RowKit
set_option linter.unusedSimpArgs false
set_option linter.unusedVariables false

/-- Natural numbers as the numbers of a list. -/
def nv (J : List Nat) : List Int := J.map fun (i : Nat) => (i : Int)
theorem nv_len (J : List Nat) : (nv J).length = J.length := List.length_map ..
theorem nv_at {J : List Nat} {j z : Nat} (h : J[j]? = some z) : (nv J)[j]? = some (z : Int) := by rw [nv, List.getElem?_map, h]; rfl
theorem nv_get {J : List Nat} {j : Nat} {x : Int} (h : (nv J)[j]? = some x) : ∃ z : Nat, J[j]? = some z ∧ x = z := by
  rw [nv, List.getElem?_map] at h
  obtain ⟨z, hz, rfl⟩ := Option.map_eq_some_iff.1 h
  exact ⟨z, hz, rfl⟩
theorem nv_app (J K : List Nat) : nv (J ++ K) = nv J ++ nv K := List.map_append
/-- Strictly increasing from a number on, below L. -/
def idxF (L : Int) : Int → List Int → Bool
  | _, [] => true
  | lo, z :: zs => decide (lo ≤ z ∧ z < L) && idxF L (z + 1) zs
/-- A valid list of indices, by its numbers. -/
def idxB (L : Int) (zs : List Int) : Bool := idxF L 0 zs
theorem idxF_yes {L lo z : Int} {zs : List Int} (h1 : lo ≤ z) (h2 : z < L) : idxF L lo (z :: zs) = idxF L (z + 1) zs := by
  rw [idxF, decide_eq_true ⟨h1, h2⟩]; rfl
theorem idxF_no {L lo z : Int} {zs : List Int} (h : z < lo ∨ L ≤ z) : idxF L lo (z :: zs) = false := by
  rw [idxF, decide_eq_false (by omega)]; rfl
theorem idxF_open {L : Int} : ∀ {zs : List Int} {lo : Int}, 0 ≤ lo → idxF L lo zs = true → ∃ J : List Nat, zs = nv J ∧ J.Pairwise (· < ·) ∧ ∀ i ∈ J, lo ≤ i ∧ (i : Int) < L
  | [], lo, _, _ => ⟨[], rfl, List.Pairwise.nil, fun i h => absurd h List.not_mem_nil⟩
  | z :: zs, lo, h0, h => by
    rw [idxF, Bool.and_eq_true, decide_eq_true_eq] at h
    obtain ⟨J, rfl, h2, h3⟩ := idxF_open (lo := z + 1) (by omega) h.2
    refine ⟨z.toNat :: J, ?_, List.pairwise_cons.2 ⟨fun i hi => ?_, h2⟩, fun i hi => ?_⟩
    · show z :: nv J = (z.toNat : Int) :: nv J
      congr 1; omega
    · have := (h3 i hi).1; omega
    · rcases List.mem_cons.1 hi with rfl | hi
      · omega
      · have := h3 i hi; omega
theorem idx_open {l : Nat} {zs : List Int} (h : idxB l zs = true) : ∃ J : List Nat, zs = nv J ∧ Idx l J := by
  obtain ⟨J, h1, h2, h3⟩ := idxF_open (Int.le_refl 0) h
  exact ⟨J, h1, h2, fun i hi => by have := (h3 i hi).2; omega⟩
theorem idxF_shut {l : Nat} : ∀ {J : List Nat} {lo : Int}, J.Pairwise (· < ·) → (∀ i ∈ J, lo ≤ i ∧ i < l) → idxF l lo (nv J) = true
  | [], _, _, _ => rfl
  | z :: J, lo, h, h' => by
    obtain ⟨h1, h2⟩ := List.pairwise_cons.1 h
    have hz := h' z (List.mem_cons_self ..)
    show idxF l lo ((z : Int) :: nv J) = true
    rw [idxF_yes hz.1 (by omega)]
    exact idxF_shut h2 fun i hi => by have := h1 i hi; have := h' i (List.mem_cons_of_mem _ hi); omega
theorem idx_shut {l : Nat} {J : List Nat} (h : Idx l J) : idxB l (nv J) = true := idxF_shut h.1 fun i hi => by have := h.2 i hi; omega
theorem drop_at {zs : List Int} {j : Nat} {x : Int} (h : zs[j]? = some x) : zs.drop j = x :: zs.drop (j + 1) := by
  obtain ⟨hj, e⟩ := List.getElem?_eq_some_iff.1 h
  rw [List.drop_eq_getElem_cons hj, e]

def HiRel (w : World) (p k g : Int) (L C : Int) (n : Nat) (zs : List Int) (v i : Value) (wr : World) : Prop :=
  ∃ (j : Nat) (lo : Int), j ≤ n ∧ 0 ≤ lo ∧ lo ≤ 1000000 ∧ i = .int .i64 j ∧ v = .int .i64 lo ∧ Hid (idxF L lo (zs.drop j) = idxB L zs) ∧ CBox w wr p k g L C

section
variable {R : Fld}
set_option maxHeartbeats 2000000 in
theorem implReverse2 (n c gB base : Nat) (f : Nat → El R) (w : World) (hO : Own w base 2 .i64 (.slice (some ⟨gB, 0, none⟩) n c) (iv (tab n f))) (hn : n ≤ 1099511627776) :
    Calls Tryz.prog 148 #[.slice (some ⟨gB, 0, none⟩) n c] w (Turned base n c gB (tab n f).reverse w) := by
  have HO := hide hO
  clear hO
  go_enter Tryz.func148, Tryz.ntmps148
  go_wp2_with fail
  go_loopw [2, 3] (fun u v wr => RvRel w base n c gB f u v wr) (fun u v _ => (intOf v - intOf u + 1).toNat)
  case atStart => exact ⟨0, (n : Int) - 1, rfl, rfl, by omega, by omega, by rw [rev1_zero]; exact HO.out, World.grownBy.refl _ _⟩
  case round =>
    clear HO
    obtain ⟨i, jj, rfl, rfl, hjj, hi, HO, HG⟩ := hrel
    have HO := hide HO
    have HG := hide HG
    by_cases hlt : (i : Int) < jj
    · obtain ⟨j, rfl⟩ : ∃ j : Nat, jj = j := ⟨jj.toNat, by omega⟩
      have hj : j = n - 1 - i := by omega
      have hij : i < j := by omega
      have hjn : j < n := by omega
      have hin : i < n := by omega
      obtain ⟨x, hx⟩ : ∃ x, x = f i := ⟨_, rfl⟩
      obtain ⟨y, hy⟩ : ∃ y, y = f j := ⟨_, rfl⟩
      have hcx := HO.out.cellAt (j := i) (x := (x.val : Int)) (by rw [iv, List.getElem?_map, rev1_at f (Nat.le_refl _) (by omega), hx]; rfl)
      have hcy := HO.out.cellAt (j := j) (x := (y.val : Int)) (by rw [iv, List.getElem?_map, rev1_at f (by omega) (by omega), hy]; rfl)
      have hfx := HO.out.frozenAt i
      have hfy := HO.out.frozenAt j
      have HS := hide (show ((tab n (rev1 n i f)).set i y).set j x = tab n (rev1 n (i + 1) f) by rw [hx, hy]; exact rev1_step f hj hij)
      have HJ := hide hj
      have hne : i ≠ j := by omega
      clear hx hy hj hjj
      go_wp2_with fail
      go_region
      all_goals
        have HO2 := hide (HO.out.drew.stored i (y.val : Int)).1
        have HO3 := hide (HO2.out.stored j (x.val : Int)).1
        rw [iv_set, iv_set, HS.out] at HO3
        go_wp2_with fail
        go_roundw
        case rel => exact ⟨i + 1, (j : Int) - 1, by go_num, rfl, by have := HJ.out; omega, by omega, HO3.out, grown_set' (grown_set' (grown_drewN HG.out 1) i _) j _⟩
        case measure => simp [intOf]; omega
    · have hd : decide ((i : Int) < jj) = false := by simpa using hlt
      have HF := hide (rev1_end (n := n) (k := i) f (by omega))
      clear hlt hjj
      go_wp2_with fail
      go_end0
      exact ⟨rfl, by rw [← HF.out]; exact HO.out, HG.out⟩

/-- The locators, and their inverses. -/
def locT (γ : El R) (l : Nat) : List (El R) := tab l (lcE γ l)
def invT (γ : El R) (l : Nat) : List (El R) := tab l fun i => (lcE γ l i).inv
theorem locT_len (γ : El R) (l : Nat) : (locT γ l).length = l := tab_len _ _
theorem invT_len (γ : El R) (l : Nat) : (invT γ l).length = l := tab_len _ _
theorem locT_at {γ : El R} {l i : Nat} (h : i < l) : cf (locT γ l) i = lcE γ l i := by rw [locT, cf_tab, if_pos h]
theorem invT_at {γ : El R} {l i : Nat} (h : i < l) : cf (invT γ l) i = (lcE γ l i).inv := by rw [invT, cf_tab, if_pos h]
theorem locT_rev (γ : El R) (l : Nat) : (tab l fun j => epw γ j).reverse = locT γ l := by rw [tab_rev]; rfl

theorem run_slice_tab0 (b c : Nat) (hc : c ≤ 1000) (w : World) :
    (Instr.sliceAt 152 (.pointer (some ⟨b, 0, none⟩)) none (some (.int .i64 (c : Int))) none).run Tryz.prog w = .ok (.slice (some ⟨b, 0, none⟩) c 1021) w := by
  have ht : Tryz.prog.underlying 152 = some (.array (Tryz.prog.arrayLen 152) (Tryz.prog.elem 152)) := by kernel_rfl
  have hl : Tryz.prog.arrayLen 152 = 1021 := by kernel_rfl
  have hs : (sizeOf (Tryz.prog.elem 152)).run Tryz.prog w = .ok 1 w := by kernel_rfl
  rw [run_sliceAt_array_h w _ ⟨b, 0, none⟩ ht .i64 (c : Int) (by omega) (by rw [hl]; omega), hs, hl]
  simp only [Result.andThen_ok, slicedAt]
  rw [Int.toNat_natCast, if_neg (by omega)]
  rfl
end
end Go.Proofs.YtlphodhecaagbaaGreat

namespace Go.Proofs.YtlphodhecaagbaaGreat
open Go.RowKit
set_option linter.unusedSimpArgs false
set_option linter.unusedVariables false

section
variable {R : Fld} {γ : El R} {p k g : Int} {l c : Nat}
/-- The powers of an element from the power 0 on. -/
def pw0 (γ : El R) (n : Nat) : List (El R) := tab n fun j => epw γ j
theorem pw0_len (γ : El R) (n : Nat) : (pw0 γ n).length = n := tab_len _ _
theorem pw0_at {γ : El R} {n j : Nat} (h : j < n) : cf (pw0 γ n) j = epw γ j := by rw [pw0, cf_tab, if_pos h]
theorem tab_ints0 {ws : World} {N n B : Nat} {cs : Array Value} {t : TypeId} (hR : ws.heap[N]? = some (.cells cs t (0, 0))) (hT : Tab cs (tbl R.q R.mul γ.val)) (hc : n + 1 ≤ R.q) (hq : R.q ≤ 1021) (hB : N < B) :
    Ints .i64 ws B (some ⟨N, 0, none⟩) n (iv (pw0 γ n)) := by
  refine ⟨by rw [iv_len, pw0_len], fun _ => ⟨N, 0, rfl, hB, fun j x hx => ?_⟩⟩
  have hj : j < n := by
    have := (List.getElem?_eq_some_iff.1 hx).1
    rwa [iv_len, pw0_len] at this
  rw [iv_at (by rw [pw0_len]; exact hj), pw0_at hj] at hx
  injection hx with hx
  rw [cell_of_row ws N (0 + j) _ _ _ hR, hT.2 (0 + j) (by omega), tbl, if_pos (by omega), ← hx, epw_val, Nat.zero_add]

set_option maxRecDepth 100000 in
set_option maxHeartbeats 2000000 in
theorem implLocators (h : CodeIs R γ p k g l c) (w : World) :
    Calls Tryz.prog 129 #[.agg #[.int .i64 p, .int .i64 k, .int .i64 g, .int .i64 l, .int .i64 c]] w (NewE (locT γ l) w) := by
  have HX := hide (CBox.start w p k g l c)
  have hl255 := h.l255
  have hl0 : 0 < l := by have := h.cl; omega
  have HQ := hide (show l + 1 ≤ R.q by have := h.lq; omega)
  have HLE := hide h.fld.le
  obtain ⟨Z, hZ, hz⟩ := zero_tab
  have HZ := hide hZ
  clear hZ
  obtain ⟨c0, c1, c2, c3, c4⟩ := HX.out.cells
  go_enter Tryz.func129, Tryz.ntmps129
  go_wp2_with fail
  refine (implPowers h.fld.kind γ.lt h.gval _).mono ?_
  rintro e w1 ⟨cs, rfl, hT, hb⟩
  have HT := hide hT
  have HX1 := hide (HX.out.next hb)
  have HS := hide (show (Tryz.prog.info? 152).map (·.size) = some cs.size by rw [hT.1]; exact size_tab)
  have HZS := hide (show Z.size = cs.size by rw [hT.1, HZ.out.1])
  have HH := hide (heap_alloc_new w1 (.cells Z 152 (0, 0)))
  clear hT hb c0 c1 c2 c3 c4
  have HXA := hide (HX1.out.alloc (.cells Z 152 (0, 0)))
  have HXB := hide (HXA.out.setRow (b := w1.heap.size) (HX1.out.lt) cs)
  have HR := hide (setRow_heap (w1.alloc (.cells Z 152)) w1.heap.size Z cs 152 _ HH.out)
  have hbl : w1.heap.size < ((w1.alloc (.cells Z 152)).setRow w1.heap.size cs).heap.size := (Array.getElem?_eq_some_iff.1 HR.out).1
  obtain ⟨ws, hws⟩ : ∃ ws, (w1.alloc (.cells Z 152)).setRow w1.heap.size cs = ws := ⟨_, rfl⟩
  have HWS := hide hws
  rw [hws] at HXB HR hbl
  clear hws HX HXA
  go_wp2_with (with_reducible refine wpList_store_row rfl 152 (.tmp 3) (.tmp 7) rfl w1.heap.size cs rfl rfl 152 Z HH.out HS.out HZS.out HT.out.one ?_; rw [HWS.out]; clear HWS HX1 HH HZS hz HZ; obtain ⟨c0, c1, c2, c3, c4⟩ := HXB.out.cells; have hsl := run_slice_tab0 w1.heap.size l (by omega))
  have HI := hide (tab_ints0 (n := l) HR.out HT.out HQ.out HLE.out hbl)
  refine (implClone (some ⟨w1.heap.size, 0, none⟩) l 1021 ws.heap.size (iv (pw0 γ l)) ws HI.out (Nat.le_refl _) (by omega)).mono ?_
  rintro e w2 ⟨A2, m2, rfl, hm2, ho, hb⟩
  have HX2 := hide (HXB.out.next hb)
  have HO := hide (ho.low (base' := w.heap.size + 1) HXB.out.lt)
  rw [iv_len, pw0_len] at HO hm2 ⊢
  obtain ⟨g2, c2', he, hg2, _, _⟩ := HO.out.some_ (by rw [iv_len, pw0_len]; exact hl0)
  simp only [Value.slice.injEq] at he
  obtain ⟨rfl, hx1, hx2⟩ := he
  clear ho hb c0 c1 c2 c3 c4 hsl hm2 hx1 hx2
  go_wp2_with fail
  refine (implReverse2 l m2 g2 (w.heap.size + 1) (fun j => epw γ j) w2 HO.out (by omega)).mono ?_
  rintro e w3 ⟨rfl, ho, hg⟩
  have HX3 := hide (HX2.out.grow hg (fun b hb => by injection hb with hb; omega))
  rw [locT_rev] at ho
  have HE := hide (newE_of (w := w) ho HX3.out.2 (Nat.le_succ _))
  clear ho hg
  go_wp2_with fail
  go_ret
  exact HE.out

/-- The power of the generator that the program takes for the inverse of a locator. -/
theorem inv_pow (h : CodeIs R γ p k g l c) {i : Nat} (hi : i < l) : epw γ ((R.q - 1 - (l - 1 - i)) % (R.q - 1)) = (lcE γ l i).inv ∧ (R.q - 1 - (l - 1 - i)) % (R.q - 1) < R.q - 1 := by
  have hq3 := R.three
  have hlq := h.lq
  have M := h.fld.mon
  have h1 : epw γ (R.q - 1) = 1 := El.eq (by rw [epw_val]; exact (gen_parts M h.ggen).1)
  refine ⟨?_, Nat.mod_lt _ (by omega)⟩
  have e1 : epw γ ((R.q - 1 - (l - 1 - i)) % (R.q - 1)) = epw γ (R.q - 1 - (l - 1 - i)) := by
    rcases Nat.eq_zero_or_pos (l - 1 - i) with h0 | h0
    · rw [h0, Nat.sub_zero, Nat.mod_self, h1]; rfl
    · rw [Nat.mod_eq_of_lt (by omega)]
  rw [e1]
  refine inv_only (r := lcE γ l i) ?_ ?_
  · rw [lcE, ← epw_add, show R.q - 1 - (l - 1 - i) + (l - 1 - i) = R.q - 1 by omega, h1]
  · rw [emc]; exact lc_inv h.far i

def IlRel (w : World) (p k g : Int) (l c : Nat) (N gS o : Nat) (γ : El R) (i : Value) (wr : World) : Prop :=
  ∃ j : Nat, j ≤ l ∧ i = .int .i64 j ∧ Own wr gS 2 .i64 (.slice (some ⟨gS, 0, none⟩) l l) (iv (tab l fun i => if i < j then (lcE γ l i).inv else 0)) ∧ Ints .i64 wr gS (some ⟨N, 0, none⟩) o (iv (pw0 γ o)) ∧ CBox w wr p k g l c
theorem fillT_step {l j : Nat} {f : Nat → El R} {y : El R} (hy : y = f j) : (tab l fun i => if i < j then f i else 0).set j y = tab l fun i => if i < j + 1 then f i else 0 := by
  rw [tab_set]
  refine tab_congr fun i hi => ?_
  by_cases h : i = j
  · rw [if_pos h, if_pos (by omega), hy, h]
  · rw [if_neg h]
    by_cases h2 : i < j
    · rw [if_pos h2, if_pos (by omega)]
    · rw [if_neg h2, if_neg (by omega)]

set_option maxRecDepth 100000 in
set_option maxHeartbeats 4000000 in
theorem implInvLocators (h : CodeIs R γ p k g l c) (w : World) :
    Calls Tryz.prog 132 #[.agg #[.int .i64 p, .int .i64 k, .int .i64 g, .int .i64 l, .int .i64 c]] w (NewE (invT γ l) w) := by
  have HX := hide (CBox.start w p k g l c)
  have hl255 := h.l255
  have hl0 : 0 < l := by have := h.cl; omega
  have hq3 := R.three
  have hlq := h.lq
  have hle := h.fld.le
  have HQ := hide (show R.q - 1 + 1 ≤ R.q by omega)
  have HLE := hide h.fld.le
  obtain ⟨Z, hZ, hz⟩ := zero_tab
  have HZ := hide hZ
  clear hZ
  obtain ⟨c0, c1, c2, c3, c4⟩ := HX.out.cells
  obtain ⟨o, ho1⟩ : ∃ o, o = R.q - 1 := ⟨_, rfl⟩
  have HOQ := hide ho1
  have hqo : IntKind.i64.wrap ((R.q : Int) - 1) = (o : Int) := by rw [IntWalk.i64_in _ ⟨by omega, by omega⟩]; omega
  have ho3 : 2 ≤ o ∧ o ≤ 1020 ∧ l ≤ o := by omega
  clear ho1
  go_enter Tryz.func132, Tryz.ntmps132
  go_wp2_with fail
  refine (implPowers h.fld.kind γ.lt h.gval _).mono ?_
  rintro e w1 ⟨cs, rfl, hT, hb⟩
  have HT := hide hT
  have HX1 := hide (HX.out.next hb)
  have HS := hide (show (Tryz.prog.info? 152).map (·.size) = some cs.size by rw [hT.1]; exact size_tab)
  have HZS := hide (show Z.size = cs.size by rw [hT.1, HZ.out.1])
  have HH := hide (heap_alloc_new w1 (.cells Z 152 (0, 0)))
  clear hT hb c0 c1 c2 c3 c4
  have HXA := hide (HX1.out.alloc (.cells Z 152 (0, 0)))
  have HXB := hide (HXA.out.setRow (b := w1.heap.size) (HX1.out.lt) cs)
  have HR := hide (setRow_heap (w1.alloc (.cells Z 152)) w1.heap.size Z cs 152 _ HH.out)
  have hbl : w1.heap.size < ((w1.alloc (.cells Z 152)).setRow w1.heap.size cs).heap.size := (Array.getElem?_eq_some_iff.1 HR.out).1
  obtain ⟨ws, hws⟩ : ∃ ws, (w1.alloc (.cells Z 152)).setRow w1.heap.size cs = ws := ⟨_, rfl⟩
  have HWS := hide hws
  rw [hws] at HXB HR hbl
  obtain ⟨N, hN⟩ : ∃ N, N = w1.heap.size := ⟨_, rfl⟩
  have HNW := hide (show w.heap.size < N by rw [hN]; exact HX1.out.lt)
  clear hws HX HXA
  go_wp2_with (with_reducible refine wpList_store_row rfl 152 (.tmp 3) (.tmp 9) rfl w1.heap.size cs rfl rfl 152 Z HH.out HS.out HZS.out HT.out.one ?_; rw [HWS.out]; clear HWS HX1 HH HZS hz HZ; obtain ⟨c0, c1, c2, c3, c4⟩ := HXB.out.cells)
  rw [← hN] at HR hbl ⊢
  clear hN
  refine (implSize h.fld.kind ws).mono ?_
  rintro e w2 ⟨rfl, hb2⟩
  have HX2 := hide (HXB.out.next hb2)
  have HI2 := hide (((tab_ints0 (n := R.q - 1) HR.out HT.out HQ.out HLE.out hbl).below hb2).more hb2.size)
  rw [← HOQ.out] at HI2
  have HWS2 := hide (show w.heap.size < w2.heap.size from Nat.lt_of_lt_of_le HNW.out (Nat.le_trans (Nat.le_of_lt hbl) hb2.size))
  clear hb2 c0 c1 c2 c3 c4 hbl HR HT HS
  obtain ⟨c0, c1, c2, c3, c4⟩ := HX2.out.cells
  have hu := Tryz.underlying152
  have z1 : (0 : Int) ≤ (l : Int) := by omega
  go_wp2_with (refine wpList_mkN _ rfl (.tmp 15) (.tmp 15) 28 rfl elem64 .i64 .i64 _ _ l rfl rfl rfl rfl (by omega) fun w3 h1 h2 => ?_; have HX3 := hide (HX2.out.next h2); rw [iv_zeros (R := R)] at h1; have HO3 := hide h1; have HI3 := hide (HI2.out.below h2); obtain ⟨d0, d1, d2, d3, d4⟩ := HX3.out.cells; clear h1 h2)
  go_loopw [19] (fun i wr => IlRel w p k g l c N w2.heap.size o γ i wr) (fun i _ => l - (intOf i).toNat)
  case atStart => exact ⟨0, by omega, rfl, HO3.out, HI3.out, HX3.out⟩
  case round =>
    clear HX2 HX3 HO3 HI2 HI3 HXB c0 c1 c2 c3 c4 d0 d1 d2 d3 d4
    obtain ⟨j, hj, rfl, HO, HI, HX⟩ := hrel
    have HX := hide HX
    have HO := hide HO
    have HI := hide HI
    obtain ⟨c0, c1, c2, c3, c4⟩ := HX.out.cells
    by_cases hlt : j < l
    · obtain ⟨m, hm⟩ : ∃ m, m = l - 1 - j := ⟨_, rfl⟩
      obtain ⟨s, hs⟩ : ∃ s, s = o - m := ⟨_, rfl⟩
      obtain ⟨r, hr⟩ : ∃ r, r = s % o := ⟨_, rfl⟩
      have hip := inv_pow h hlt
      rw [← HOQ.out, ← hm, ← hs, ← hr] at hip
      have hrl := hip.2
      obtain ⟨b, off, x, he, hb, hx, hc⟩ := HI.out.at_ hrl
      simp only [Option.some.injEq, Addr.mk.injEq, and_true] at he
      obtain ⟨rfl, rfl⟩ := he
      rw [iv_at (by rw [pw0_len]; exact hrl), pw0_at hrl] at hx
      simp only [Option.some.injEq] at hx
      subst hx
      obtain ⟨x, hx⟩ : ∃ x, x = epw γ r := ⟨_, rfl⟩
      rw [← hx, Nat.zero_add] at hc
      have HT := hide (fillT_step (l := l) (f := fun i => (lcE γ l i).inv) (j := j) (y := x) (by rw [hx]; exact hip.1))
      have hw1 : (l : Int) - 1 - (j : Int) = (m : Int) := by omega
      have hw2 : (o : Int) - (m : Int) = (s : Int) := by omega
      have hrm : (s : Int).tmod (o : Int) = (r : Int) := by rw [Int.tmod_eq_emod_of_nonneg (by omega), hr]; rfl
      have hfx := HO.out.frozenAt j
      obtain ⟨u, hcx⟩ : ∃ u : Int, wr.cell? ⟨w2.heap.size, j, none⟩ = some (.int .i64 u) := ⟨_, HO.out.cellAt (j := j) (iv_at (by rw [tab_len]; exact hlt))⟩
      have HO7 := hide (HO.out.stored j (x.val : Nat)).1
      have HG7 := hide (HO.out.stored j (x.val : Nat)).2
      rw [iv_set, HT.out] at HO7
      have HI7 := hide (HI.out.grown HG7.out (Nat.le_of_lt (HO.out.lt (g := w2.heap.size) rfl).2) (fun r hr => by injection hr with hr; omega))
      have HX7 := hide (HX.out.set (b := w2.heap.size) HWS2.out j (.int .i64 (x.val : Nat)))
      obtain ⟨Q, hQ⟩ : ∃ Q : Int, Q = (o : Int) := ⟨_, rfl⟩
      have hQ0 : Q ≠ 0 := by omega
      rw [← hQ] at hrm hw2 ⊢
      obtain ⟨S, hS⟩ : ∃ S : Int, S = (s : Int) := ⟨_, rfl⟩
      rw [← hS] at hrm hw2
      have hrb : r < 1021 := by omega
      have hS0 : 0 ≤ S ∧ S ≤ 2000 := by omega
      have hQb : 0 ≤ Q ∧ Q ≤ 2000 := by omega
      clear hip hr hs hx hQ hS hm
      have hz1 : (0 : Int) ≤ (r : Int) ∧ (r : Int) < 1021 := by omega
      go_wp2_with fail
      go_roundw
      case rel => exact ⟨j + 1, by omega, by go_num, HO7.out, HI7.out, HX7.out⟩
      case measure => simp [intOf]; omega
    · obtain rfl : j = l := by omega
      have HF := hide (show (tab j fun i => if i < j then (lcE γ j i).inv else 0) = invT γ j from tab_congr fun i hi => if_pos hi)
      have HO8 := hide HO.out
      rw [HF.out] at HO8
      have HE := hide (newE_of (w := w) HO8.out HX.out.2 (Nat.le_of_lt HWS2.out))
      go_wp2_with fail
      go_ret
      exact HE.out

def LpRel (w : World) (p k g : Int) (l c : Nat) (γ : El R) (A1 : Option Addr) (J : List Nat) (v i : Value) (wr : World) : Prop :=
  ∃ (j : Nat) (Ap : Option Addr) (cp : Nat), j ≤ J.length ∧ i = .int .i64 j ∧ v = .slice Ap (j + 1) cp ∧ Own wr (w.heap.size + 1) 2 .i64 (.slice Ap (j + 1) cp) (iv (locP (locs γ l (J.take j)))) ∧ Ints .i64 wr wr.heap.size A1 l (iv (locT γ l)) ∧ CBox w wr p k g l c
theorem locs_take {γ : El R} {l : Nat} {J : List Nat} {j z : Nat} (h : J[j]? = some z) : locP (locs γ l (J.take (j + 1))) = mulP (locP (locs γ l (J.take j))) (lf (lcE γ l z)) := by
  rw [List.take_add_one, h, Option.toList_some, locs_app]
  exact locP_snoc _ _
theorem locJ_len {N : Nat} (hF : Far γ N) (l : Nat) (J : List Nat) : (locP (locs γ l J)).length = J.length + 1 := by
  rw [loc_len (fun x hx => by obtain ⟨i, _, rfl⟩ := List.mem_map.1 hx; exact epw_ne hF.1 _), locs_len]

set_option maxRecDepth 100000 in
set_option maxHeartbeats 4000000 in
theorem implLocPoly (h : CodeIs R γ p k g l c) (J : List Nat) (hJ : ∀ i ∈ J, i < l) (A : Option Addr) (n cc B : Nat) (w : World) (hI : Ints .i64 w B A n (nv J)) (hB : B ≤ w.heap.size) (hn : n ≤ 1000) :
    Calls Tryz.prog 98 #[.agg #[.int .i64 p, .int .i64 k, .int .i64 g, .int .i64 l, .int .i64 c], .slice A n cc] w (NewE (locP (locs γ l J)) w) := by
  have HX := hide (CBox.start w p k g l c)
  have hl255 := h.l255
  have hJn : J.length = n := by rw [← nv_len]; exact hI.len
  have HJN := hide hJn
  have HI := hide hI
  have hF := h.far
  have HF := hide hF
  clear hI hF hJn
  obtain ⟨c0, c1, c2, c3, c4⟩ := HX.out.cells
  go_enter Tryz.func98, Tryz.ntmps98
  go_wp2_with fail
  refine (implLocators h _).mono ?_
  rintro e w1 ⟨A1, m1, rfl, hm1, ho, hb⟩
  rw [locT_len] at ho hm1 ⊢
  have HX1 := hide (HX.out.next hb)
  have HT1 := hide ho.intsE
  have HX2 := hide (HX1.out.alloc (.cells #[.int .i64 1] 2))
  have HO2 := hide ((own_lit1 w1 2 .i64 1).low (base' := w.heap.size + 1) HX1.out.lt)
  have HT2 := hide ((HT1.out.below ((Below.refl w1.heap.size w1).alloc (Nat.le_refl _) (.cells #[.int .i64 1] 2))).more (B' := (w1.alloc (.cells #[.int .i64 1] 2)).heap.size) (by rw [alloc_size]; exact Nat.le_succ _))
  clear ho hb hm1 c0 c1 c2 c3 c4
  go_wp2_with fail
  go_loopw [6, 14] (fun v i wr => LpRel w p k g l c γ A1 J v i wr) (fun _ i _ => n - (intOf i).toNat)
  case atStart => exact ⟨0, _, 1, by omega, rfl, rfl, HO2.out, HT2.out, HX2.out⟩
  case round =>
    clear HX HX1 HX2 HO2 HT1 HT2
    obtain ⟨j, Ap, cp, hj, rfl, rfl, HO, HT, HX⟩ := hrel
    rw [HJN.out] at hj
    have HX := hide HX
    have HO := hide HO
    have HT := hide HT
    by_cases hlt : j < n
    · obtain ⟨b, off, z', rfl, hb, hz, hc⟩ := (HI.out.below (HX.out.2.mono hB)).at_ hlt
      obtain ⟨z, hzJ, rfl⟩ := nv_get hz
      have hzl : z < l := hJ z (List.mem_of_getElem? hzJ)
      obtain ⟨b5, o5, x, rfl, hb5, hx, hc5⟩ := HT.out.at_ hzl
      rw [iv_at (by rw [locT_len]; exact hzl), locT_at hzl] at hx
      simp only [Option.some.injEq] at hx
      subst hx
      obtain ⟨x, hx⟩ : ∃ x, x = lcE γ l z := ⟨_, rfl⟩
      rw [← hx] at hc5
      have HN := hide (show mulP (locP (locs γ l (J.take j))) (lf x) = locP (locs γ l (J.take (j + 1))) by rw [hx]; exact (locs_take hzJ).symm)
      have HGL := hide (show (locP (locs γ l (J.take (j + 1)))).length = j + 1 + 1 by rw [locJ_len HF.out, List.length_take, HJN.out, Nat.min_eq_left hlt])
      have hwl : w.heap.size + 1 ≤ wr.heap.size := HX.out.lt
      have HC5 := hide hc5
      clear hx hz hzJ hc5
      go_wp2_with fail
      go_region_held3 (fun w' => w'.cell? ⟨w.heap.size, 0, none⟩ = some (.int .i64 p) ∧ w'.cell? ⟨w.heap.size, 1, none⟩ = some (.int .i64 k) ∧ w'.cell? ⟨w.heap.size, 2, none⟩ = some (.int .i64 g) ∧ w'.cell? ⟨b5, o5 + z, none⟩ = some (.int .i64 (x.val : Int)))
        (first
          | exact ⟨HX.out.drew.cells.1, HX.out.drew.cells.2.1, HX.out.drew.cells.2.2.1, HC5.out⟩
          | exact ⟨HX2.out.cells.1, HX2.out.cells.2.1, HX2.out.cells.2.2.1, HD5.out⟩
          | exact ⟨(HX2.out.alloc _).cells.1, (HX2.out.alloc _).cells.2.1, (HX2.out.alloc _).cells.2.2.1, HE5.out⟩
          | exact ⟨HX3.out.cells.1, HX3.out.cells.2.1, HX3.out.cells.2.2.1, HF5.out⟩)
        (first
          | (go_at_call 91; refine (implNegE h.fld x _).mono ?_; rintro e w2 ⟨rfl, hb2⟩; have HX2 := hide (HX.out.drew.next hb2); have HO2 := hide (HO.out.drew.below hb2 (Nat.le_refl _)); have HT2 := hide ((HT.out.drew.below hb2).more hb2.size); have HD5 := hide ((hb2.cell (p := ⟨b5, o5 + z, none⟩) hb5).trans HC5.out); have hb52 : b5 < w2.heap.size := Nat.lt_of_lt_of_le hb5 hb2.size; have HE5 := hide ((((Below.refl w2.heap.size w2).alloc (Nat.le_refl _) (.cells #[.int .i64 1, .int .i64 ((-x).val : Int)] 2)).cell (p := ⟨b5, o5 + z, none⟩) hb52).trans HD5.out); clear hb2)
          | (go_at_call 102; refine (implTimes h.fld (locP (locs γ l (J.take j))) (lf x) Ap (some ⟨w2.heap.size, 0, none⟩) (j + 1) cp 2 2 (w2.heap.size + 1) _ (by have := (HO2.out.alloc (.cells #[.int .i64 1, .int .i64 ((-x).val : Int)] 2)).intsE; rw [alloc_size] at this; exact this) (ints_two w2 2 .i64 1 ((-x).val : Int)) (by rw [alloc_size]; exact Nat.le_refl _) (by omega) (by omega)).mono ?_; rw [HN.out]; rintro e w3 ⟨g3, c3, rfl, ho3, hg3, hb3⟩; rw [HGL.out] at ho3 ⊢; have HX3 := hide ((HX2.out.alloc _).next hb3); have HO3 := hide (ho3.low (base' := w.heap.size + 1) (by have := HX2.out.lt; rw [alloc_size]; omega)); have HT3 := hide (HT2.out.past hb3); have HF5 := hide ((hb3.cell (p := ⟨b5, o5 + z, none⟩) (by rw [alloc_size]; exact Nat.lt_succ_of_lt hb52)).trans HE5.out); clear ho3 hg3 hb3))
      go_wp2_with fail
      go_roundw
      case rel => exact ⟨j + 1, _, c3, by rw [HJN.out]; omega, by go_num, rfl, HO3.out, HT3.out, HX3.out⟩
      case measure => simp [intOf]; omega
    · obtain rfl : j = n := by omega
      have HE := hide (show locP (locs γ l (J.take j)) = locP (locs γ l J) by rw [List.take_of_length_le (by rw [HJN.out]; exact Nat.le_refl _)])
      rw [HE.out] at HO
      have HG := hide (newE_of (w := w) HO.out HX.out.2 (Nat.le_succ _))
      go_wp2_with fail
      go_ret
      exact HG.out
end
end Go.Proofs.YtlphodhecaagbaaGreat

namespace Go.Proofs.YtlphodhecaagbaaGreat
open Go.RowKit
set_option linter.unusedSimpArgs false
set_option linter.unusedVariables false

section
variable {R : Fld} {γ : El R} {p k g : Int} {l c : Nat}
theorem num_zero (h : FldIs R p k g) : numE h 0 = 0 := El.eq (by rw [num_val, Nat.zero_mod]; rfl)
theorem num_succ (h : FldIs R p k g) (j : Nat) : numE h (j + 1) = numE h j + 1 := by
  refine El.eq ?_
  rw [val_add, num_val, num_val, h.add, val_one]
  have hk := h.kind
  generalize R.q = q at hk ⊢
  generalize R.mul = mul at hk
  cases hk with
  | one _ _ h3 h =>
    rw [addF_1 h3, Int.toNat_natCast, Nat.mod_add_mod]
  | two K G h3 h8 hG hG2 =>
    rw [addF, if_pos rfl]
    show (j + 1) % 2 = j % 2 ^^^ 1
    rcases (show j % 2 = 0 ∨ j % 2 = 1 by omega) with h | h
    · rw [h, show (j + 1) % 2 = 1 by omega]; rfl
    · rw [h, show (j + 1) % 2 = 0 by omega]; rfl
theorem derP_is (h : FldIs R p k g) (ps : List (El R)) : derP h ps = derG (numE h) ps := rfl

/-- What a function leaves that returns a new list and a bool. -/
def NewIB (r : List Int) (b : Bool) (w : World) (x : Ending) (w' : World) : Prop :=
  ∃ A m, x = .returned (.tuple #[.slice A r.length m, .bool b]) ∧ r.length ≤ m ∧ Own w' w.heap.size 2 .i64 (.slice A r.length m) r ∧ Below w.heap.size w w'
theorem newIB_of {r : List Int} {c : Bool} {w w' : World} {v : Value} {base : Nat} (h : Own w' base 2 .i64 v r) (hb : Below w.heap.size w w') (hB : w.heap.size ≤ base) : NewIB r c w (.returned (.tuple #[v, .bool c])) w' := by
  obtain ⟨A, m, rfl, hc⟩ := h.form
  exact ⟨A, m, rfl, hc, h.low hB, hb⟩
theorem newIB_nil {c : Bool} {w w' : World} (hb : Below w.heap.size w w') : NewIB [] c w (.returned (.tuple #[.slice none 0 0, .bool c])) w' :=
  newIB_of (base := w.heap.size) (World.ownsRow_nil _ _ _ _) hb (Nat.le_refl _)

/-- The indices below n that a polynomial locates. -/
def hitN (γ : El R) (l n : Nat) (p : List (El R)) : List Nat := (List.range n).filter fun i => decide (ev (lcE γ l i).inv p = 0)
theorem hitN_succ (γ : El R) (l n : Nat) (p : List (El R)) : hitN γ l (n + 1) p = hitN γ l n p ++ (if ev (lcE γ l n).inv p = 0 then [n] else []) := by
  unfold hitN
  rw [List.range_succ, List.filter_append]
  congr 1
  by_cases h : ev (lcE γ l n).inv p = 0
  · rw [if_pos h]; simp [h]
  · rw [if_neg h]; simp [h]
theorem hitN_len (γ : El R) (l n : Nat) (p : List (El R)) : (hitN γ l n p).length ≤ n := by
  have := List.length_filter_le (fun i => decide (ev (lcE γ l i).inv p = 0)) (List.range n)
  rw [List.length_range] at this; exact this

def LbRel (w : World) (p k g : Int) (l c : Nat) (γ : El R) (N : Nat) (A1 : Option Addr) (ps : List (El R)) (v i : Value) (wr : World) : Prop :=
  ∃ j : Nat, j ≤ l ∧ i = .int .i64 j ∧ Own wr N 2 .i64 v (nv (hitN γ l j ps)) ∧ Ints .i64 wr N A1 l (iv (invT γ l)) ∧ N ≤ wr.heap.size ∧ CBox w wr p k g l c

theorem locB_none {ps : List (El R)} (h : ps.length = 0) : locB γ l ps = false := by
  simp only [locB, decide_eq_false_iff_not]; omega
theorem locB_first {ps : List (El R)} (h : cf ps 0 ≠ 1) : locB γ l ps = false := by
  simp only [locB, decide_eq_false_iff_not]; exact fun h' => h h'.2.1
theorem one_val {x : El R} : ((x.val : Int) != 1) = !decide (x = 1) := by
  by_cases h : x = 1
  · subst h; rfl
  · have : x.val ≠ 1 := fun e => h (El.eq e)
    simp [h]; omega

/-- The indices that are returned for a polynomial. -/
def locJ (γ : El R) (l : Nat) (ps : List (El R)) : List Nat := if locB γ l ps = true then hits γ l ps else []

set_option maxRecDepth 100000 in
set_option maxHeartbeats 4000000 in
theorem implLocatedBy (h : CodeIs R γ p k g l c) (ps : List (El R)) (A : Option Addr) (n cc B : Nat) (w : World) (hI : Ints .i64 w B A n (iv ps)) (hB : B ≤ w.heap.size) (hn : n ≤ 549755813888) :
    Calls Tryz.prog 101 #[.agg #[.int .i64 p, .int .i64 k, .int .i64 g, .int .i64 l, .int .i64 c], .slice A n cc] w (NewIB (nv (locJ γ l ps)) (locB γ l ps) w) := by
  have HX := hide (CBox.start w p k g l c)
  have hl255 := h.l255
  have hpn : ps.length = n := by rw [← iv_len]; exact hI.len
  have HPN := hide hpn
  have HI := hide hI
  clear hI hpn
  obtain ⟨c0, c1, c2, c3, c4⟩ := HX.out.cells
  rcases Nat.eq_zero_or_pos n with h0 | h0
  · subst h0
    have HB := hide (locB_none (γ := γ) (l := l) HPN.out)
    have HJ := hide (show locJ γ l ps = [] by rw [locJ, HB.out]; rfl)
    rw [HB.out, HJ.out]
    go_enter Tryz.func101, Tryz.ntmps101
    go_wp2_with fail
    go_ret2
    exact newIB_nil HX.out.2
  · obtain ⟨b0, o0, x0, rfl, hb0, hx0, hc0⟩ := (HI.out.below (HX.out.2.mono hB)).at_ h0
    rw [iv_at (by rw [HPN.out]; exact h0)] at hx0
    simp only [Option.some.injEq] at hx0
    subst hx0
    obtain ⟨x, hx⟩ : ∃ x, x = cf ps 0 := ⟨_, rfl⟩
    rw [← hx, Nat.add_zero] at hc0
    have e0 : ((n : Int) == 0) = false := by simp; omega
    have hx1 := one_val (x := x)
    by_cases h1 : x = 1
    · have HC1 := hide (show cf ps 0 = 1 by rw [← hx]; exact h1)
      rw [h1] at hx1 hc0
      have hx1' : (((1 : El R).val : Int) != 1) = false := rfl
      clear hx hx1 h1
      go_enter Tryz.func101, Tryz.ntmps101
      go_wp2_with fail
      refine (implInvLocators h _).mono ?_
      rintro e w1 ⟨A1, m1, rfl, hm1, ho, hb⟩
      rw [invT_len] at ho hm1 ⊢
      have HX1 := hide (HX.out.next hb)
      have HT1 := hide ho.intsE
      clear ho hb hm1 c0 c1 c2 c3 c4 hc0
      go_wp2_with fail
      go_loopw [6, 21] (fun v i wr => LbRel w p k g l c γ w1.heap.size A1 ps v i wr) (fun _ i _ => l - (intOf i).toNat)
      case atStart => exact ⟨0, by omega, rfl, World.ownsRow_nil _ _ _ _, HT1.out, Nat.le_refl _, HX1.out⟩
      case round =>
        have HNW := hide HX1.out.lt
        clear HX HX1 HT1
        obtain ⟨v, rfl⟩ : ∃ v : Value, v = u6 := ⟨_, rfl⟩
        obtain ⟨j, hj, rfl, HO, HT, HS, HX⟩ := hrel
        have HX := hide HX
        have HO := hide HO
        have HT := hide HT
        have HS := hide HS
        by_cases hlt : j < l
        · obtain ⟨b5, o5, x, rfl, hb5, hx, hc5⟩ := HT.out.at_ hlt
          rw [iv_at (by rw [invT_len]; exact hlt), invT_at hlt] at hx
          simp only [Option.some.injEq] at hx
          subst hx
          obtain ⟨x, hx⟩ : ∃ x, x = (lcE γ l j).inv := ⟨_, rfl⟩
          rw [← hx] at hc5
          have HSU := hide (hitN_succ γ l j ps)
          rw [← hx] at HSU
          have HI1 := hide (HI.out.below (HX.out.2.mono hB))
          obtain ⟨c0, c1, c2, c3, c4⟩ := HX.out.cells
          clear hx
          go_wp2_with fail
          refine (implValueAt h.fld x ps (some ⟨b0, o0, none⟩) n cc B _ HI1.out (Nat.le_trans hB (Nat.le_of_lt HX.out.lt)) (by omega)).mono ?_
          rintro e w2 ⟨rfl, hb2⟩
          have HX2 := hide (HX.out.next hb2)
          have HO2 := hide (HO.out.below hb2 (Nat.le_refl _))
          have HT2 := hide (HT.out.below (hb2.mono HS.out))
          have HS2 := hide (Nat.le_trans HS.out hb2.size)
          have hwl : w1.heap.size ≤ w2.heap.size := HS2.out
          have HVB := hide (show ∀ b, v.ownBlock = some b → w.heap.size < b from fun b hb => Nat.lt_of_lt_of_le HNW.out (HO2.out.lt hb).1)
          have HVN := hide (show ∀ b, v.ownBlock = some b → w1.heap.size ≤ b from fun b hb => (HO2.out.lt hb).1)
          have hlen : (nv (hitN γ l j ps)).length + 1 ≤ 100000 := by rw [nv_len]; have := hitN_len γ l j ps; omega
          clear hb2 c0 c1 c2 c3 c4 hc5
          by_cases hz : ev x ps = 0
          · have HZ := hide (show hitN γ l (j + 1) ps = hitN γ l j ps ++ [j] by rw [HSU.out, if_pos hz])
            rw [hz]
            clear hz HSU
            go_wp2_with (at_builtin; refine wpList_app1 w2 rfl _ _ _ rfl elem64 w1.heap.size v _ rfl HO2.out (j : Int) rfl (by omega) hwl ?_; intro v3 w3 hown hgrow)
            have HO3 := hide (show Own w3 w1.heap.size 2 .i64 v3 (nv (hitN γ l (j + 1) ps)) by rw [HZ.out, nv_app]; exact hown)
            have HX3 := hide (HX2.out.grow hgrow HVB.out)
            have HT3 := hide (HT2.out.grown hgrow HS2.out HVN.out)
            have HS3 := hide (Nat.le_trans HS2.out hgrow.size)
            clear hown hgrow
            go_wp2_with fail
            go_roundw
            case rel => exact ⟨j + 1, by omega, by go_num, HO3.out, HT3.out, HS3.out, HX3.out⟩
            case measure => simp [intOf]; omega
          · have HZ := hide (show hitN γ l (j + 1) ps = hitN γ l j ps by rw [HSU.out, if_neg hz, List.append_nil])
            have hv : ((((ev x ps).val : Nat) : Int) == 0) = false := by have := val_ne hz; simp; omega
            have HO3 := hide (show Own w2 w1.heap.size 2 .i64 v (nv (hitN γ l (j + 1) ps)) by rw [HZ.out]; exact HO2.out)
            clear hz HSU
            go_wp2_with fail
            go_roundw
            case rel => exact ⟨j + 1, by omega, by go_num, HO3.out, HT2.out, HS2.out, HX2.out⟩
            case measure => simp [intOf]; omega
        · obtain rfl : j = l := by omega
          obtain ⟨m, hm⟩ : ∃ m, m = (hits γ j ps).length := ⟨_, rfl⟩
          have HF := hide HO.out.form
          obtain ⟨Av, cv, rfl, hcv⟩ := HF.out
          have hml : (nv (hitN γ j j ps)).length = m := by rw [nv_len, hm]; rfl
          rw [hml] at HO hcv ⊢
          have hmj : m ≤ j := by rw [hm]; exact hitN_len γ j j ps
          by_cases hq : m + 1 = n
          · have HB := hide (show locB γ j ps = true by
              simp only [locB, decide_eq_true_eq]; rw [HPN.out, ← hm]; exact ⟨h0, HC1.out, hq⟩)
            have HJ := hide (show locJ γ j ps = hits γ j ps by rw [locJ, HB.out]; rfl)
            have HE := hide (show NewIB (nv (locJ γ j ps)) (locB γ j ps) w (.returned (.tuple #[.slice Av m cv, .bool true])) wr by rw [HB.out, HJ.out]; exact newIB_of (w := w) (c := true) HO.out HX.out.2 (Nat.le_of_lt HNW.out))
            have z1 : ((m : Int) != (n : Int) - 1) = false := by simp; omega
            clear hm hml hq
            go_wp2_with fail
            go_ret2
            exact HE.out
          · have HB := hide (show locB γ j ps = false by
              simp only [locB, decide_eq_false_iff_not]; rw [HPN.out, ← hm]; exact fun h' => hq h'.2.2)
            have HJ := hide (show locJ γ j ps = [] by rw [locJ, HB.out]; rfl)
            have z1 : ((m : Int) != (n : Int) - 1) = true := by simp; omega
            have HE := hide (show NewIB (nv (locJ γ j ps)) (locB γ j ps) w (.returned (.tuple #[.slice none 0 0, .bool false])) wr by rw [HB.out, HJ.out]; exact newIB_nil HX.out.2)
            clear hm hml hq
            go_wp2_with fail
            go_ret2
            exact HE.out
    · have HB := hide (locB_first (γ := γ) (l := l) (ps := ps) (by rw [← hx]; exact h1))
      have HJ := hide (show locJ γ l ps = [] by rw [locJ, HB.out]; rfl)
      rw [decide_eq_false h1] at hx1
      simp only [Bool.not_false] at hx1
      rw [HB.out, HJ.out]
      clear hx h1
      go_enter Tryz.func101, Tryz.ntmps101
      go_wp2_with fail
      go_ret2
      exact newIB_nil HX.out.2
end
end Go.Proofs.YtlphodhecaagbaaGreat
