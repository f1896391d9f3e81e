/-
  The contracts of the locators of a code, their inverses, locator polynomials and the indices that one locates, of the program.
  Condition: the code is valid.
-/
import Derived.Test.YtpheembgjdgniaaDImpl1
namespace Go.Proofs.Ytpheembgjdgniaa
open Go.RowKit
set_option linter.unusedSimpArgs false
set_option linter.unusedVariables false

section
variable {R : Fld} {γ : El R} {p k g : Int} {l c : Nat}
/-- The powers of an element from the power 0 on. -/
def pw0 (γ : El R) (n : Nat) : List (El R) := tab n fun j => epw γ j
theorem pw0_len (γ : El R) (n : Nat) : (pw0 γ n).length = n := tab_len _ _
theorem pw0_at {γ : El R} {n j : Nat} (h : j < n) : cf (pw0 γ n) j = epw γ j := by rw [pw0, cf_tab, if_pos h]
theorem tab_ints0 {ws : World} {N n B : Nat} {cs : Array Value} {t : TypeId} (hR : ws.heap[N]? = some (.cells cs t (0, 0))) (hT : Tab cs (tbl R.q R.mul γ.val)) (hc : n + 1 ≤ R.q) (hq : R.q ≤ 1021) (hB : N < B) :
    Ints .i64 ws B (some ⟨N, 0, none⟩) n (iv (pw0 γ n)) := by
  refine ⟨by rw [iv_len, pw0_len], fun _ => ⟨N, 0, rfl, hB, fun j x hx => ?_⟩⟩
  have hj : j < n := by
    have := (List.getElem?_eq_some_iff.1 hx).1
    rwa [iv_len, pw0_len] at this
  rw [iv_at (by rw [pw0_len]; exact hj), pw0_at hj] at hx
  injection hx with hx
  rw [cell_of_row ws N (0 + j) _ _ _ hR, hT.2 (0 + j) (by omega), tbl, if_pos (by omega), ← hx, epw_val, Nat.zero_add]

set_option maxRecDepth 100000 in
set_option maxHeartbeats 2000000 in
theorem implLocators (h : CodeIs R γ p k g l c) (w : World) :
    Calls Try.prog 112 #[.agg #[.int .i64 p, .int .i64 k, .int .i64 g, .int .i64 l, .int .i64 c]] w (NewE (locT γ l) w) := by
  have HX := hide (CBox.start w p k g l c)
  have hl255 := h.l255
  have hl0 : 0 < l := by have := h.cl; omega
  have HQ := hide (show l + 1 ≤ R.q by have := h.lq; omega)
  have HLE := hide h.fld.le
  obtain ⟨Z, hZ, hz⟩ := zero_tab
  have HZ := hide hZ
  clear hZ
  obtain ⟨c0, c1, c2, c3, c4⟩ := HX.out.cells
  go_enter Try.func112, Try.ntmps112
  go_wp2_with fail
  refine (implPowers h.fld.kind γ.lt h.gval _).mono ?_
  rintro e w1 ⟨cs, rfl, hT, hb⟩
  have HT := hide hT
  have HX1 := hide (HX.out.next hb)
  have HS := hide (show (Try.prog.info? 122).map (·.size) = some cs.size by rw [hT.1]; exact size_tab)
  have HZS := hide (show Z.size = cs.size by rw [hT.1, HZ.out.1])
  have HH := hide (heap_alloc_new w1 (.cells Z 122 (0, 0)))
  clear hT hb c0 c1 c2 c3 c4
  have HXA := hide (HX1.out.alloc (.cells Z 122 (0, 0)))
  have HXB := hide (HXA.out.setRow (b := w1.heap.size) (HX1.out.lt) cs)
  have HR := hide (setRow_heap (w1.alloc (.cells Z 122)) w1.heap.size Z cs 122 _ HH.out)
  have hbl : w1.heap.size < ((w1.alloc (.cells Z 122)).setRow w1.heap.size cs).heap.size := (Array.getElem?_eq_some_iff.1 HR.out).1
  obtain ⟨ws, hws⟩ : ∃ ws, (w1.alloc (.cells Z 122)).setRow w1.heap.size cs = ws := ⟨_, rfl⟩
  have HWS := hide hws
  rw [hws] at HXB HR hbl
  clear hws HX HXA
  go_wp2_with (with_reducible refine wpList_store_row rfl 122 (.tmp 3) (.tmp 7) rfl w1.heap.size cs rfl rfl 122 Z HH.out HS.out HZS.out HT.out.one ?_; rw [HWS.out]; clear HWS HX1 HH HZS hz HZ; obtain ⟨c0, c1, c2, c3, c4⟩ := HXB.out.cells; have hsl := run_slice_tab0 w1.heap.size l (by omega))
  have HI := hide (tab_ints0 (n := l) HR.out HT.out HQ.out HLE.out hbl)
  refine (implClone (some ⟨w1.heap.size, 0, none⟩) l 1021 ws.heap.size (iv (pw0 γ l)) ws HI.out (Nat.le_refl _) (by omega)).mono ?_
  rintro e w2 ⟨A2, m2, rfl, hm2, ho, hb⟩
  have HX2 := hide (HXB.out.next hb)
  have HO := hide (ho.low (base' := w.heap.size + 1) HXB.out.lt)
  rw [iv_len, pw0_len] at HO hm2 ⊢
  obtain ⟨g2, c2', he, hg2, _, _⟩ := HO.out.some_ (by rw [iv_len, pw0_len]; exact hl0)
  simp only [Value.slice.injEq] at he
  obtain ⟨rfl, hx1, hx2⟩ := he
  clear ho hb c0 c1 c2 c3 c4 hsl hm2 hx1 hx2
  go_wp2_with fail
  refine (implReverse2 l m2 g2 (w.heap.size + 1) (fun j => epw γ j) w2 HO.out (by omega)).mono ?_
  rintro e w3 ⟨rfl, ho, hg⟩
  have HX3 := hide (HX2.out.grow hg (fun b hb => by injection hb with hb; omega))
  rw [locT_rev] at ho
  have HE := hide (newE_of (w := w) ho HX3.out.2 (Nat.le_succ _))
  clear ho hg
  go_wp2_with fail
  go_ret
  exact HE.out

/-- The power of the generator that the program takes for the inverse of a locator. -/
theorem inv_pow (h : CodeIs R γ p k g l c) {i : Nat} (hi : i < l) : epw γ ((R.q - 1 - (l - 1 - i)) % (R.q - 1)) = (lcE γ l i).inv ∧ (R.q - 1 - (l - 1 - i)) % (R.q - 1) < R.q - 1 := by
  have hq3 := R.three
  have hlq := h.lq
  have M := h.fld.mon
  have h1 : epw γ (R.q - 1) = 1 := El.eq (by rw [epw_val]; exact (gen_parts M h.ggen).1)
  refine ⟨?_, Nat.mod_lt _ (by omega)⟩
  have e1 : epw γ ((R.q - 1 - (l - 1 - i)) % (R.q - 1)) = epw γ (R.q - 1 - (l - 1 - i)) := by
    rcases Nat.eq_zero_or_pos (l - 1 - i) with h0 | h0
    · rw [h0, Nat.sub_zero, Nat.mod_self, h1]; rfl
    · rw [Nat.mod_eq_of_lt (by omega)]
  rw [e1]
  refine inv_only (r := lcE γ l i) ?_ ?_
  · rw [lcE, ← epw_add, show R.q - 1 - (l - 1 - i) + (l - 1 - i) = R.q - 1 by omega, h1]
  · rw [emc]; exact lc_inv h.far i

def IlRel (w : World) (p k g : Int) (l c : Nat) (N gS o : Nat) (γ : El R) (i : Value) (wr : World) : Prop :=
  ∃ j : Nat, j ≤ l ∧ i = .int .i64 j ∧ Own wr gS 2 .i64 (.slice (some ⟨gS, 0, none⟩) l l) (iv (tab l fun i => if i < j then (lcE γ l i).inv else 0)) ∧ Ints .i64 wr gS (some ⟨N, 0, none⟩) o (iv (pw0 γ o)) ∧ CBox w wr p k g l c
theorem fillT_step {l j : Nat} {f : Nat → El R} {y : El R} (hy : y = f j) : (tab l fun i => if i < j then f i else 0).set j y = tab l fun i => if i < j + 1 then f i else 0 := by
  rw [tab_set]
  refine tab_congr fun i hi => ?_
  by_cases h : i = j
  · rw [if_pos h, if_pos (by omega), hy, h]
  · rw [if_neg h]
    by_cases h2 : i < j
    · rw [if_pos h2, if_pos (by omega)]
    · rw [if_neg h2, if_neg (by omega)]

set_option maxRecDepth 100000 in
set_option maxHeartbeats 4000000 in
theorem implInvLocators (h : CodeIs R γ p k g l c) (w : World) :
    Calls Try.prog 98 #[.agg #[.int .i64 p, .int .i64 k, .int .i64 g, .int .i64 l, .int .i64 c]] w (NewE (invT γ l) w) := by
  have HX := hide (CBox.start w p k g l c)
  have hl255 := h.l255
  have hl0 : 0 < l := by have := h.cl; omega
  have hq3 := R.three
  have hlq := h.lq
  have hle := h.fld.le
  have HQ := hide (show R.q - 1 + 1 ≤ R.q by omega)
  have HLE := hide h.fld.le
  obtain ⟨Z, hZ, hz⟩ := zero_tab
  have HZ := hide hZ
  clear hZ
  obtain ⟨c0, c1, c2, c3, c4⟩ := HX.out.cells
  obtain ⟨o, ho1⟩ : ∃ o, o = R.q - 1 := ⟨_, rfl⟩
  have HOQ := hide ho1
  have hqo : IntKind.i64.wrap ((R.q : Int) - 1) = (o : Int) := by rw [IntWalk.i64_in _ ⟨by omega, by omega⟩]; omega
  have ho3 : 2 ≤ o ∧ o ≤ 1020 ∧ l ≤ o := by omega
  clear ho1
  go_enter Try.func98, Try.ntmps98
  go_wp2_with fail
  refine (implPowers h.fld.kind γ.lt h.gval _).mono ?_
  rintro e w1 ⟨cs, rfl, hT, hb⟩
  have HT := hide hT
  have HX1 := hide (HX.out.next hb)
  have HS := hide (show (Try.prog.info? 122).map (·.size) = some cs.size by rw [hT.1]; exact size_tab)
  have HZS := hide (show Z.size = cs.size by rw [hT.1, HZ.out.1])
  have HH := hide (heap_alloc_new w1 (.cells Z 122 (0, 0)))
  clear hT hb c0 c1 c2 c3 c4
  have HXA := hide (HX1.out.alloc (.cells Z 122 (0, 0)))
  have HXB := hide (HXA.out.setRow (b := w1.heap.size) (HX1.out.lt) cs)
  have HR := hide (setRow_heap (w1.alloc (.cells Z 122)) w1.heap.size Z cs 122 _ HH.out)
  have hbl : w1.heap.size < ((w1.alloc (.cells Z 122)).setRow w1.heap.size cs).heap.size := (Array.getElem?_eq_some_iff.1 HR.out).1
  obtain ⟨ws, hws⟩ : ∃ ws, (w1.alloc (.cells Z 122)).setRow w1.heap.size cs = ws := ⟨_, rfl⟩
  have HWS := hide hws
  rw [hws] at HXB HR hbl
  obtain ⟨N, hN⟩ : ∃ N, N = w1.heap.size := ⟨_, rfl⟩
  have HNW := hide (show w.heap.size < N by rw [hN]; exact HX1.out.lt)
  clear hws HX HXA
  go_wp2_with (with_reducible refine wpList_store_row rfl 122 (.tmp 3) (.tmp 9) rfl w1.heap.size cs rfl rfl 122 Z HH.out HS.out HZS.out HT.out.one ?_; rw [HWS.out]; clear HWS HX1 HH HZS hz HZ; obtain ⟨c0, c1, c2, c3, c4⟩ := HXB.out.cells)
  rw [← hN] at HR hbl ⊢
  clear hN
  refine (implSize h.fld.kind ws).mono ?_
  rintro e w2 ⟨rfl, hb2⟩
  have HX2 := hide (HXB.out.next hb2)
  have HI2 := hide (((tab_ints0 (n := R.q - 1) HR.out HT.out HQ.out HLE.out hbl).below hb2).more hb2.size)
  rw [← HOQ.out] at HI2
  have HWS2 := hide (show w.heap.size < w2.heap.size from Nat.lt_of_lt_of_le HNW.out (Nat.le_trans (Nat.le_of_lt hbl) hb2.size))
  clear hb2 c0 c1 c2 c3 c4 hbl HR HT HS
  obtain ⟨c0, c1, c2, c3, c4⟩ := HX2.out.cells
  have hu := Try.underlying122
  have z1 : (0 : Int) ≤ (l : Int) := by omega
  go_wp2_with (refine wpList_mkN _ rfl (.tmp 15) (.tmp 15) 28 rfl elem64 .i64 .i64 _ _ l rfl rfl rfl rfl (by omega) fun w3 h1 h2 => ?_; have HX3 := hide (HX2.out.next h2); rw [iv_zeros (R := R)] at h1; have HO3 := hide h1; have HI3 := hide (HI2.out.below h2); obtain ⟨d0, d1, d2, d3, d4⟩ := HX3.out.cells; clear h1 h2)
  go_loopw [19] (fun i wr => IlRel w p k g l c N w2.heap.size o γ i wr) (fun i _ => l - (intOf i).toNat)
  case atStart => exact ⟨0, by omega, rfl, HO3.out, HI3.out, HX3.out⟩
  case round =>
    clear HX2 HX3 HO3 HI2 HI3 HXB c0 c1 c2 c3 c4 d0 d1 d2 d3 d4
    obtain ⟨j, hj, rfl, HO, HI, HX⟩ := hrel
    have HX := hide HX
    have HO := hide HO
    have HI := hide HI
    obtain ⟨c0, c1, c2, c3, c4⟩ := HX.out.cells
    by_cases hlt : j < l
    · obtain ⟨m, hm⟩ : ∃ m, m = l - 1 - j := ⟨_, rfl⟩
      obtain ⟨s, hs⟩ : ∃ s, s = o - m := ⟨_, rfl⟩
      obtain ⟨r, hr⟩ : ∃ r, r = s % o := ⟨_, rfl⟩
      have hip := inv_pow h hlt
      rw [← HOQ.out, ← hm, ← hs, ← hr] at hip
      have hrl := hip.2
      obtain ⟨b, off, x, he, hb, hx, hc⟩ := HI.out.at_ hrl
      simp only [Option.some.injEq, Addr.mk.injEq, and_true] at he
      obtain ⟨rfl, rfl⟩ := he
      rw [iv_at (by rw [pw0_len]; exact hrl), pw0_at hrl] at hx
      simp only [Option.some.injEq] at hx
      subst hx
      obtain ⟨x, hx⟩ : ∃ x, x = epw γ r := ⟨_, rfl⟩
      rw [← hx, Nat.zero_add] at hc
      have HT := hide (fillT_step (l := l) (f := fun i => (lcE γ l i).inv) (j := j) (y := x) (by rw [hx]; exact hip.1))
      have hw1 : (l : Int) - 1 - (j : Int) = (m : Int) := by omega
      have hw2 : (o : Int) - (m : Int) = (s : Int) := by omega
      have hrm : (s : Int).tmod (o : Int) = (r : Int) := by rw [Int.tmod_eq_emod_of_nonneg (by omega), hr]; rfl
      have hfx := HO.out.frozenAt j
      obtain ⟨u, hcx⟩ : ∃ u : Int, wr.cell? ⟨w2.heap.size, j, none⟩ = some (.int .i64 u) := ⟨_, HO.out.cellAt (j := j) (iv_at (by rw [tab_len]; exact hlt))⟩
      have HO7 := hide (HO.out.stored j (x.val : Nat)).1
      have HG7 := hide (HO.out.stored j (x.val : Nat)).2
      rw [iv_set, HT.out] at HO7
      have HI7 := hide (HI.out.grown HG7.out (Nat.le_of_lt (HO.out.lt (g := w2.heap.size) rfl).2) (fun r hr => by injection hr with hr; omega))
      have HX7 := hide (HX.out.set (b := w2.heap.size) HWS2.out j (.int .i64 (x.val : Nat)))
      obtain ⟨Q, hQ⟩ : ∃ Q : Int, Q = (o : Int) := ⟨_, rfl⟩
      have hQ0 : Q ≠ 0 := by omega
      rw [← hQ] at hrm hw2 ⊢
      obtain ⟨S, hS⟩ : ∃ S : Int, S = (s : Int) := ⟨_, rfl⟩
      rw [← hS] at hrm hw2
      have hrb : r < 1021 := by omega
      have hS0 : 0 ≤ S ∧ S ≤ 2000 := by omega
      have hQb : 0 ≤ Q ∧ Q ≤ 2000 := by omega
      clear hip hr hs hx hQ hS hm
      have hz1 : (0 : Int) ≤ (r : Int) ∧ (r : Int) < 1021 := by omega
      go_wp2_with fail
      go_roundw
      case rel => exact ⟨j + 1, by omega, by go_num, HO7.out, HI7.out, HX7.out⟩
      case measure => simp [intOf]; omega
    · obtain rfl : j = l := by omega
      have HF := hide (show (tab j fun i => if i < j then (lcE γ j i).inv else 0) = invT γ j from tab_congr fun i hi => if_pos hi)
      have HO8 := hide HO.out
      rw [HF.out] at HO8
      have HE := hide (newE_of (w := w) HO8.out HX.out.2 (Nat.le_of_lt HWS2.out))
      go_wp2_with fail
      go_ret
      exact HE.out

def LpRel (w : World) (p k g : Int) (l c : Nat) (γ : El R) (A1 : Option Addr) (J : List Nat) (v i : Value) (wr : World) : Prop :=
  ∃ (j : Nat) (Ap : Option Addr) (cp : Nat), j ≤ J.length ∧ i = .int .i64 j ∧ v = .slice Ap (j + 1) cp ∧ Own wr (w.heap.size + 1) 2 .i64 (.slice Ap (j + 1) cp) (iv (locP (locs γ l (J.take j)))) ∧ Ints .i64 wr wr.heap.size A1 l (iv (locT γ l)) ∧ CBox w wr p k g l c
theorem locs_take {γ : El R} {l : Nat} {J : List Nat} {j z : Nat} (h : J[j]? = some z) : locP (locs γ l (J.take (j + 1))) = mulP (locP (locs γ l (J.take j))) (lf (lcE γ l z)) := by
  rw [List.take_add_one, h, Option.toList_some, locs_app]
  exact locP_snoc _ _
theorem locJ_len {N : Nat} (hF : Far γ N) (l : Nat) (J : List Nat) : (locP (locs γ l J)).length = J.length + 1 := by
  rw [loc_len (fun x hx => by obtain ⟨i, _, rfl⟩ := List.mem_map.1 hx; exact epw_ne hF.1 _), locs_len]

set_option maxRecDepth 100000 in
set_option maxHeartbeats 4000000 in
theorem implLocPoly (h : CodeIs R γ p k g l c) (J : List Nat) (hJ : ∀ i ∈ J, i < l) (A : Option Addr) (n cc B : Nat) (w : World) (hI : Ints .i64 w B A n (nv J)) (hB : B ≤ w.heap.size) (hn : n ≤ 1000) :
    Calls Try.prog 68 #[.agg #[.int .i64 p, .int .i64 k, .int .i64 g, .int .i64 l, .int .i64 c], .slice A n cc] w (NewE (locP (locs γ l J)) w) := by
  have HX := hide (CBox.start w p k g l c)
  have hl255 := h.l255
  have hJn : J.length = n := by rw [← nv_len]; exact hI.len
  have HJN := hide hJn
  have HI := hide hI
  have hF := h.far
  have HF := hide hF
  clear hI hF hJn
  obtain ⟨c0, c1, c2, c3, c4⟩ := HX.out.cells
  go_enter Try.func68, Try.ntmps68
  go_wp2_with fail
  refine (implLocators h _).mono ?_
  rintro e w1 ⟨A1, m1, rfl, hm1, ho, hb⟩
  rw [locT_len] at ho hm1 ⊢
  have HX1 := hide (HX.out.next hb)
  have HT1 := hide ho.intsE
  have HX2 := hide (HX1.out.alloc (.cells #[.int .i64 1] 2))
  have HO2 := hide ((own_lit1 w1 2 .i64 1).low (base' := w.heap.size + 1) HX1.out.lt)
  have HT2 := hide ((HT1.out.below ((Below.refl w1.heap.size w1).alloc (Nat.le_refl _) (.cells #[.int .i64 1] 2))).more (B' := (w1.alloc (.cells #[.int .i64 1] 2)).heap.size) (by rw [alloc_size]; exact Nat.le_succ _))
  clear ho hb hm1 c0 c1 c2 c3 c4
  go_wp2_with fail
  go_loopw [6, 14] (fun v i wr => LpRel w p k g l c γ A1 J v i wr) (fun _ i _ => n - (intOf i).toNat)
  case atStart => exact ⟨0, _, 1, by omega, rfl, rfl, HO2.out, HT2.out, HX2.out⟩
  case round =>
    clear HX HX1 HX2 HO2 HT1 HT2
    obtain ⟨j, Ap, cp, hj, rfl, rfl, HO, HT, HX⟩ := hrel
    rw [HJN.out] at hj
    have HX := hide HX
    have HO := hide HO
    have HT := hide HT
    by_cases hlt : j < n
    · obtain ⟨b, off, z', rfl, hb, hz, hc⟩ := (HI.out.below (HX.out.2.mono hB)).at_ hlt
      obtain ⟨z, hzJ, rfl⟩ := nv_get hz
      have hzl : z < l := hJ z (List.mem_of_getElem? hzJ)
      obtain ⟨b5, o5, x, rfl, hb5, hx, hc5⟩ := HT.out.at_ hzl
      rw [iv_at (by rw [locT_len]; exact hzl), locT_at hzl] at hx
      simp only [Option.some.injEq] at hx
      subst hx
      obtain ⟨x, hx⟩ : ∃ x, x = lcE γ l z := ⟨_, rfl⟩
      rw [← hx] at hc5
      have HN := hide (show mulP (locP (locs γ l (J.take j))) (lf x) = locP (locs γ l (J.take (j + 1))) by rw [hx]; exact (locs_take hzJ).symm)
      have HGL := hide (show (locP (locs γ l (J.take (j + 1)))).length = j + 1 + 1 by rw [locJ_len HF.out, List.length_take, HJN.out, Nat.min_eq_left hlt])
      have hwl : w.heap.size + 1 ≤ wr.heap.size := HX.out.lt
      have HC5 := hide hc5
      clear hx hz hzJ hc5
      go_wp2_with fail
      go_region_held3 (fun w' => w'.cell? ⟨w.heap.size, 0, none⟩ = some (.int .i64 p) ∧ w'.cell? ⟨w.heap.size, 1, none⟩ = some (.int .i64 k) ∧ w'.cell? ⟨w.heap.size, 2, none⟩ = some (.int .i64 g) ∧ w'.cell? ⟨b5, o5 + z, none⟩ = some (.int .i64 (x.val : Int)))
        (first
          | exact ⟨HX.out.drew.cells.1, HX.out.drew.cells.2.1, HX.out.drew.cells.2.2.1, HC5.out⟩
          | exact ⟨HX2.out.cells.1, HX2.out.cells.2.1, HX2.out.cells.2.2.1, HD5.out⟩
          | exact ⟨(HX2.out.alloc _).cells.1, (HX2.out.alloc _).cells.2.1, (HX2.out.alloc _).cells.2.2.1, HE5.out⟩
          | exact ⟨HX3.out.cells.1, HX3.out.cells.2.1, HX3.out.cells.2.2.1, HF5.out⟩)
        (first
          | (go_at_call 91; refine (implNegE h.fld x _).mono ?_; rintro e w2 ⟨rfl, hb2⟩; have HX2 := hide (HX.out.drew.next hb2); have HO2 := hide (HO.out.drew.below hb2 (Nat.le_refl _)); have HT2 := hide ((HT.out.drew.below hb2).more hb2.size); have HD5 := hide ((hb2.cell (p := ⟨b5, o5 + z, none⟩) hb5).trans HC5.out); have hb52 : b5 < w2.heap.size := Nat.lt_of_lt_of_le hb5 hb2.size; have HE5 := hide ((((Below.refl w2.heap.size w2).alloc (Nat.le_refl _) (.cells #[.int .i64 1, .int .i64 ((-x).val : Int)] 2)).cell (p := ⟨b5, o5 + z, none⟩) hb52).trans HD5.out); clear hb2)
          | (go_at_call 88; refine (implTimes h.fld (locP (locs γ l (J.take j))) (lf x) Ap (some ⟨w2.heap.size, 0, none⟩) (j + 1) cp 2 2 (w2.heap.size + 1) _ (by have := (HO2.out.alloc (.cells #[.int .i64 1, .int .i64 ((-x).val : Int)] 2)).intsE; rw [alloc_size] at this; exact this) (ints_two w2 2 .i64 1 ((-x).val : Int)) (by rw [alloc_size]; exact Nat.le_refl _) (by omega) (by omega)).mono ?_; rw [HN.out]; rintro e w3 ⟨g3, c3, rfl, ho3, hg3, hb3⟩; rw [HGL.out] at ho3 ⊢; have HX3 := hide ((HX2.out.alloc _).next hb3); have HO3 := hide (ho3.low (base' := w.heap.size + 1) (by have := HX2.out.lt; rw [alloc_size]; omega)); have HT3 := hide (HT2.out.past hb3); have HF5 := hide ((hb3.cell (p := ⟨b5, o5 + z, none⟩) (by rw [alloc_size]; exact Nat.lt_succ_of_lt hb52)).trans HE5.out); clear ho3 hg3 hb3))
      go_wp2_with fail
      go_roundw
      case rel => exact ⟨j + 1, _, c3, by rw [HJN.out]; omega, by go_num, rfl, HO3.out, HT3.out, HX3.out⟩
      case measure => simp [intOf]; omega
    · obtain rfl : j = n := by omega
      have HE := hide (show locP (locs γ l (J.take j)) = locP (locs γ l J) by rw [List.take_of_length_le (by rw [HJN.out]; exact Nat.le_refl _)])
      rw [HE.out] at HO
      have HG := hide (newE_of (w := w) HO.out HX.out.2 (Nat.le_succ _))
      go_wp2_with fail
      go_ret
      exact HG.out
end
end Go.Proofs.Ytpheembgjdgniaa
