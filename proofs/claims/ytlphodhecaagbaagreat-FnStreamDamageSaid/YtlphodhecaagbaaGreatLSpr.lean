/-
  The erasures of the blocks of a stream: the model's l07Spread and l07Indices.
  Condition: the erasures are valid indices.
-/
import Derived.Test.YtlphodhecaagbaaGreatLayH
import Derived.Test.YtlphodhecaagbaaGreatLayA
namespace Go.Proofs.YtlphodhecaagbaaGreat
open Go.RowKit
set_option linter.unusedSimpArgs false
set_option linter.unusedVariables false

/-- The erasures of a block. -/
def era (D C K : Nat) (es : List Int) (k : Nat) : List Nat := (List.range (lsz D C k + K)).filter fun e => decide ((sidx D C k e : Int) ∈ es)
/-- Ones at some of the first indices. -/
def sprT (N : Nat) (es : List Int) : List Int := (List.range N).map fun (i : Nat) => if (i : Int) ∈ es then 1 else 0
theorem sprT_len (N : Nat) (es : List Int) : (sprT N es).length = N := by unfold sprT; rw [List.length_map, List.length_range]
theorem sprT_at {N i : Nat} {es : List Int} (hi : i < N) : (sprT N es)[i]? = some (if (i : Int) ∈ es then 1 else 0) := by unfold sprT; rw [List.getElem?_map, List.getElem?_range hi]; rfl
theorem sprT_nil (N : Nat) : sprT N [] = List.replicate N 0 := by
  apply List.ext_getElem?
  intro j
  by_cases hj : j < N
  · rw [sprT_at hj, List.getElem?_replicate, if_pos hj]; simp
  · rw [List.getElem?_eq_none (by rw [sprT_len]; omega), List.getElem?_eq_none (by simp; omega)]
theorem sprT_put {N z : Nat} {es : List Int} (hz : z < N) : (sprT N es).set z 1 = sprT N (es ++ [(z : Int)]) := by
  apply List.ext_getElem?
  intro i
  by_cases hi : i < N
  · by_cases hiz : i = z
    · subst hiz
      rw [List.getElem?_set_self (by rw [sprT_len]; exact hi), sprT_at hi, if_pos (by simp)]
    · rw [List.getElem?_set_ne (Ne.symm hiz), sprT_at hi, sprT_at hi]
      have : ((i : Int) ∈ es ++ [(z : Int)]) = ((i : Int) ∈ es) := by
        apply propext
        rw [List.mem_append, List.mem_singleton]
        exact ⟨fun h => by rcases h with h | h; exact h; omega, .inl⟩
      simp only [this]
  · rw [List.getElem?_eq_none (by rw [List.length_set, sprT_len]; omega), List.getElem?_eq_none (by rw [sprT_len]; omega)]
/-- The indices at which a list is not 0. -/
def nzI (zs : List Int) : List Nat := (List.range zs.length).filter fun i => zs.getD i 0 != 0
def nzT (zs : List Int) (j : Nat) : List Nat := (List.range j).filter fun i => zs.getD i 0 != 0
theorem nzT_yes {zs : List Int} {j : Nat} {x : Int} (h : zs[j]? = some x) (hx : (x != 0) = true) : nzT zs (j + 1) = nzT zs j ++ [j] := by
  unfold nzT; rw [List.range_succ, List.filter_append]
  have : zs.getD j 0 = x := by rw [List.getD_eq_getElem?_getD, h]; rfl
  simp only [List.filter_cons, List.filter_nil, this, hx, if_true]
theorem nzT_no {zs : List Int} {j : Nat} {x : Int} (h : zs[j]? = some x) (hx : (x != 0) = false) : nzT zs (j + 1) = nzT zs j := by
  unfold nzT; rw [List.range_succ, List.filter_append]
  have : zs.getD j 0 = x := by rw [List.getD_eq_getElem?_getD, h]; rfl
  simp only [List.filter_cons, List.filter_nil, this, hx]
  simp
theorem nzT_len (zs : List Int) (j : Nat) : (nzT zs j).length ≤ j := by
  have := List.length_filter_le (fun i => zs.getD i 0 != 0) (List.range j)
  rw [List.length_range] at this; exact this
/-- What the model takes for the erasures of a block. -/
theorem nz_word {D C K k : Nat} (hk : k < C) (es : List Int) : nzI (wrdZ D C K (sprT (D + C * K) es) k) = era D C K es k := by
  unfold nzI era
  rw [wrdZ_len]
  refine List.filter_congr fun e he => ?_
  have he' := List.mem_range.1 he
  have hs := (sidx_lt (D := D) (K := K) hk).2 he'
  have h1 : (wrdZ D C K (sprT (D + C * K) es) k)[e]? = some (if (sidx D C k e : Int) ∈ es then 1 else 0) := by
    unfold wrdZ
    rw [List.getElem?_map, List.getElem?_range he', Option.map_some, List.getD_eq_getElem?_getD, sprT_at hs]; rfl
  rw [List.getD_eq_getElem?_getD, h1]
  by_cases h : (sidx D C k e : Int) ∈ es <;> simp [h]

def SpRel7 (w : World) (n N gS : Nat) (es : List Int) (i : Value) (wr : World) : Prop :=
  ∃ j : Nat, j ≤ n ∧ i = .int .i64 j ∧ Own wr w.heap.size 2 .i64 (.slice (some ⟨gS, 0, none⟩) N N) (sprT N (es.take j)) ∧ Below w.heap.size w wr
set_option maxRecDepth 100000 in
set_option maxHeartbeats 4000000 in
theorem specSpread7 (A : Option Addr) (n c B N : Nat) (es : List Int) (w : World) (hI : Ints .i64 w B A n es) (hB : B ≤ w.heap.size) (hn : n ≤ 1099511627776) (hN : N ≤ 100000) (he : idxB (N : Int) es = true) :
    Calls Tryz.prog 77 #[.slice A n c, .int .i64 N] w (NewInts 2 .i64 (sprT N es) w) := by
  obtain ⟨J, rfl, hJ⟩ := idx_open he
  have HJ := hide hJ.2
  have HZ := hide hI.len
  have HI := hide hI
  obtain ⟨ti, hi, hz0, hz1, hz2⟩ := info_parts elem64.info
  obtain ⟨w1, hrun, ho, hg⟩ := run_make_full (P := Tryz.prog) w w.heap.size 28 2 ti _ 1 Tryz.underlying28 hi hz0 hz1 .i64 .i64 N (by rw [hz2]; omega) (by simp only [maxLen]; omega) (Nat.le_refl _)
  have hb1 : Below w.heap.size w w1 := (Below.refl w.heap.size w).grown hg (Nat.le_refl _) (by simp)
  have HO1 := hide (made_own ho)
  rw [← sprT_nil] at HO1
  have HB1 := hide hb1
  clear ho hg hi hz0 hz1 hz2 hb1 hI he hJ
  go_enter Tryz.func77, Tryz.ntmps77
  go_wp2_with fail
  clear hrun
  go_loopw [6] (fun i wr => SpRel7 w n N w.heap.size (nv J) i wr) (fun i _ => n - (intOf i).toNat)
  case atStart => exact ⟨0, Nat.zero_le _, rfl, by rw [List.take_zero]; exact HO1.out, HB1.out⟩
  case round =>
    clear HO1 HB1
    obtain ⟨j, hj, rfl, ho, hbl⟩ := hrel
    have HO := hide ho
    have HBL := hide hbl
    clear ho hbl
    by_cases hlt : j < n
    · obtain ⟨b, off, x, rfl, hb, hx, hc⟩ := (HI.out.below (HBL.out.mono hB)).at_ hlt
      obtain ⟨z, hz, rfl⟩ := nv_get hx
      have hzN : z < N := HJ.out z (List.mem_of_getElem? hz)
      have hcx := HO.out.cellAt (sprT_at (es := (nv J).take j) hzN)
      have hfx := HO.out.frozenAt z
      obtain ⟨hm5, hg5⟩ := HO.out.stored z 1
      have htk : (nv J).take (j + 1) = (nv J).take j ++ [(z : Int)] := by rw [List.take_add_one, hx]; rfl
      rw [sprT_put hzN, ← htk] at hm5
      have HO5 := hide hm5
      have HB5 := hide (HBL.out.grown hg5 HBL.out.size (fun r e => by injection e with e; omega))
      clear hm5 hg5 htk hx hz
      go_wp2_with fail
      go_roundw
      case rel => exact ⟨j + 1, by omega, by go_num, HO5.out, HB5.out⟩
      case measure => simp [intOf]; omega
    · obtain rfl : j = n := by omega
      have hall : (nv J).take j = nv J := List.take_of_length_le (by rw [HZ.out]; exact Nat.le_refl _)
      have ho := HO.out
      rw [hall] at ho
      obtain ⟨A1, c1, he1, hc1⟩ := ho.form
      have HE := hide (show NewInts 2 .i64 (sprT N (nv J)) w (.returned (.slice (some ⟨w.heap.size, 0, none⟩) N N)) wr from by
        have hl := sprT_len N (nv J)
        refine ⟨some ⟨w.heap.size, 0, none⟩, N, by rw [hl], by rw [hl]; exact Nat.le_refl _, by rw [hl]; exact ho, HBL.out⟩)
      clear ho he1
      go_wp2_with fail
      go_ret
      exact HE.out
def NzRel (w : World) (n : Nat) (zs : List Int) (v i : Value) (wr : World) : Prop :=
  ∃ j : Nat, j ≤ n ∧ i = .int .i64 j ∧ Own wr w.heap.size 2 .i64 v (nv (nzT zs j)) ∧ Below w.heap.size w wr
set_option maxRecDepth 100000 in
set_option maxHeartbeats 4000000 in
theorem specNz (A : Option Addr) (n c B : Nat) (zs : List Int) (w : World) (hI : Ints .i64 w B A n zs) (hB : B ≤ w.heap.size) (hn : n ≤ 100000) :
    Calls Tryz.prog 79 #[.slice A n c] w (NewInts 2 .i64 (nv (nzI zs)) w) := by
  have HZ := hide hI.len
  have HI := hide hI
  clear hI
  have HO1 := hide (Own.lit0 w 2 .i64)
  have HB1 := hide ((Below.refl w.heap.size w).alloc (Nat.le_refl _) (.cells #[] 2))
  go_enter Tryz.func79, Tryz.ntmps79
  go_wp2_with fail
  go_loopw [3, 4] (fun v i wr => NzRel w n zs v i wr) (fun _ i _ => n - (intOf i).toNat)
  case atStart => exact ⟨0, Nat.zero_le _, rfl, HO1.out, HB1.out⟩
  case round =>
    clear HO1 HB1
    obtain ⟨v, rfl⟩ : ∃ v : Value, v = u3 := ⟨_, rfl⟩
    obtain ⟨j, hj, rfl, ho, hbl⟩ := hrel
    have HO := hide ho
    have HBL := hide hbl
    have hlen := nzT_len zs j
    clear ho hbl
    by_cases hlt : j < n
    · obtain ⟨b, off, x, rfl, hb, hx, hc⟩ := (HI.out.below (HBL.out.mono hB)).at_ hlt
      rcases hx0 : (x != 0) with _ | _
      · have HN := hide (nzT_no hx hx0)
        clear hx
        go_wp2_with fail
        go_roundw
        case rel => exact ⟨j + 1, by omega, by go_num, by rw [HN.out]; exact HO.out, HBL.out⟩
        case measure => simp [intOf]; omega
      · have HN := hide (nzT_yes hx hx0)
        have hlen2 : (nv (nzT zs j)).length + 1 ≤ 200000 := by rw [nv_len]; omega
        clear hx
        go_wp2_with (at_builtin; refine wpList_app1 wr rfl _ _ _ rfl elem64 w.heap.size v _ rfl HO.out (j : Int) rfl (by omega) HBL.out.size ?_; intro v5 w5 hown hgrow)
        have HO5 := hide (show Own w5 w.heap.size 2 .i64 v5 (nv (nzT zs (j + 1))) by rw [HN.out, nv_app]; exact hown)
        have HB5 := hide (HBL.out.grown hgrow HBL.out.size (fun r e => (HO.out.lt e).1))
        clear hown hgrow
        go_wp2_with fail
        go_roundw
        case rel => exact ⟨j + 1, by omega, by go_num, HO5.out, HB5.out⟩
        case measure => simp [intOf]; omega
    · obtain rfl : j = n := by omega
      have ho := HO.out
      rw [show nzT zs j = nzI zs from by unfold nzT nzI; rw [HZ.out]] at ho
      obtain ⟨A1, c1, rfl, hc1⟩ := ho.form
      have HE := hide (show NewInts 2 .i64 (nv (nzI zs)) w (.returned (.slice A1 (nv (nzI zs)).length c1)) wr from ⟨A1, c1, rfl, hc1, ho, HBL.out⟩)
      clear ho
      go_wp2_with fail
      go_ret
      exact HE.out
end Go.Proofs.YtlphodhecaagbaaGreat
