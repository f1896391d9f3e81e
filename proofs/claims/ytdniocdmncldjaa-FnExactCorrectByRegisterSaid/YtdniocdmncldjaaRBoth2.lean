/-
  What CorrectByRegister of the program returns, case by case.
  Condition: lists shorter than 2^20; the number of check elements is an int64.
-/
import Derived.Test.YtdniocdmncldjaaRCor
import Derived.Test.YtdniocdmncldjaaDHalf2
namespace Go.Proofs.Ytdniocdmncldjaa
open Go.RowKit
set_option linter.unusedSimpArgs false
set_option linter.unusedVariables false

section
variable {R : Fld} {γ : El R} {l c : Nat} {E : List Nat} {ws cw : List (El R)} {w w' : World} {x : Ending} {num : Nat → El R}
theorem chPost_no (ho : ∀ cw, ¬ Okw γ l c E ws cw) (h : ChPost num γ l c E ws w x w') : ∃ v1 v2, x = .returned (.tuple #[v1, v2, .bool false]) ∧ Below w.heap.size w w' := by
  rcases h with ⟨J, _, _, _, _, _, _, _, _, _, _, h1, _⟩ | ⟨v1, v2, h1, h2, _⟩
  · exact absurd h1 (ho _)
  · exact ⟨v1, v2, h1, h2⟩
theorem chPost_yes (ho : Okw γ l c E ws cw) (hwl : ws.length = l) (h : ChPost num γ l c E ws w x w') : ∃ (J : List Nat) (A1 A2 : Option Addr) (m1 m2 : Nat), x = .returned (.tuple #[.slice A1 J.length m1, .slice A2 J.length m2, .bool true]) ∧ Ints .i64 w' w'.heap.size A1 J.length (nv J) ∧ Ints .i64 w' w'.heap.size A2 J.length (iv (J.map (fvI num γ l c (synW γ c ws) J))) ∧ Below w.heap.size w w' ∧
    Idx l J ∧ J.length ≤ c ∧ tab l (coF ws (fvI num γ l c (synW γ c ws) J) J) = cw := by
  rcases h with ⟨J, A1, A2, m1, m2, h1, h2, h3, h4, h5, h6, h7, h8⟩ | ⟨_, _, _, _, h1⟩
  · exact ⟨J, A1, A2, m1, m2, h1, h2, h3, h4, h5, h6, by rw [coF_end num ws J hwl]; exact h8 cw ho⟩
  · exact absurd ho (h1 cw)
end
set_option maxRecDepth 100000 in
set_option maxHeartbeats 4000000 in
theorem cbr_badI (p k g L C : Int) (z z' : List Int) (cd : Int) (hz : z.length ≤ 1048576) (hz' : z'.length ≤ 1048576) (hC : -9223372036854775808 ≤ C ∧ C ≤ 9223372036854775807) (h : xErr p k g L C z' [z] = cd) (hne : (cd != 0) = true) :
    D2 28 p k g L C z z' (NewIIK [] [] cd) := by
  have HE := hide h
  have HC := hide hC
  clear h hC
  intro A n cw A' n' cw' B w hI hJ hcap hcap' hB
  have HX0 := hide (CBox.start w p k g L C)
  have hn : n ≤ 1048576 := by rw [← hI.len]; exact hz
  have hn' : n' ≤ 1048576 := by rw [← hJ.len]; exact hz'
  have HR := hide (rws1b (c := cw) (.cells #[.int .i64 p, .int .i64 k, .int .i64 g, .int .i64 L, .int .i64 C] 48) 26 hI hB (by omega))
  have HXr := hide (HX0.out.alloc (.cells #[.slice A n cw] 26))
  have HI := hide hI
  have HJ := hide hJ
  clear hI hJ
  obtain ⟨c0, c1, c2, c3, c4⟩ := HXr.out.cells
  go_enter Try.func28, Try.ntmps28
  go_wp2_with fail
  refine (implIdxErr p k g L C A' n' cw' z' (some ⟨w.heap.size + 1, 0, none⟩) 1 1 B [z] _ (HJ.out.below (HXr.out.2.mono hB)) (Nat.le_trans hB (Nat.le_of_lt HXr.out.lt)) (by omega) (implWErr p k g L C _ 1 1 _ _ _ (HR.out.below ((Below.refl _ _).alloc (by rw [alloc_size, alloc_size]; exact Nat.le_refl _) _)) rfl (by rw [alloc_size, alloc_size, alloc_size]; omega) (by omega))).mono ?_
  rw [HE.out]
  rintro e w1 ⟨rfl, hb⟩
  have HX1 := hide (HXr.out.next hb)
  clear hb c0 c1 c2 c3 c4
  obtain ⟨c0, c1, c2, c3, c4⟩ := HX1.out.cells
  go_wp2_with fail
  go_ret3
  exact newIIK_nil HX1.out.2

set_option maxRecDepth 100000 in
set_option maxHeartbeats 16000000 in
theorem cbr_yesI {R : Fld} {γ : El R} {p k g : Int} {l c : Nat} (h : CodeIs R γ p k g l c) (ws : List (El R)) (hw : ws.length = l) (E : List Nat) (hE : Idx l E) (hz : (iv ws).length ≤ 1048576) (hz' : (nv E).length ≤ 1048576) (cz : List (El R)) (ho : Okw γ l c E ws cz) :
    D2 28 p k g l c (iv ws) (nv E) (NewIIK (iv cz) (nv (difs ws cz)) 0) := by
  have hl255 := h.l255
  have HC := hide (c_bd h)
  have HE := hide (show xErr p k g l c (nv E) [iv ws] = 0 by rw [xErr, wErr_is h (fun z hz => by rw [List.mem_singleton] at hz; exact ⟨ws, hz, hw⟩), if_pos rfl, idx_shut hE]; rfl)
  intro A n cw A' n' cw' B w hI hJ hcap hcap' hB
  have HX0 := hide (CBox.start w p k g l c)
  have hn : n ≤ 1048576 := by rw [← hI.len]; exact hz
  have hn' : n' ≤ 1048576 := by rw [← hJ.len]; exact hz'
  have HR := hide (rws1b (c := cw) (.cells #[.int .i64 p, .int .i64 k, .int .i64 g, .int .i64 l, .int .i64 c] 48) 26 hI hB (by omega))
  have HXr := hide (HX0.out.alloc (.cells #[.slice A n cw] 26))
  have HI := hide hI
  have HJ := hide hJ
  clear hI hJ
  obtain ⟨c0, c1, c2, c3, c4⟩ := HXr.out.cells
  have hwn : ws.length = n := by rw [← iv_len]; exact HI.out.len
  obtain rfl : n = l := by omega
  have HWN := hide hwn
  clear hwn hw
  go_enter Try.func28, Try.ntmps28
  go_wp2_with fail
  refine (implIdxErr p k g n c A' n' cw' (nv E) (some ⟨w.heap.size + 1, 0, none⟩) 1 1 B [(iv ws)] _ (HJ.out.below (HXr.out.2.mono hB)) (Nat.le_trans hB (Nat.le_of_lt HXr.out.lt)) (by omega) (implWErr p k g n c _ 1 1 _ _ _ (HR.out.below ((Below.refl _ _).alloc (by rw [alloc_size, alloc_size]; exact Nat.le_refl _) _)) rfl (by rw [alloc_size, alloc_size, alloc_size]; omega) (by omega))).mono ?_
  rw [HE.out]
  rintro e w1 ⟨rfl, hb⟩
  have HX1 := hide (HXr.out.next hb)
  clear hb c0 c1 c2 c3 c4
  obtain ⟨c0, c1, c2, c3, c4⟩ := HX1.out.cells
  go_wp2_with fail
  have hc64 := h.c64
  have hwl0 : ws.length = n := by have := HI.out.len; rwa [iv_len] at this
  have HSY := hide (syn_len γ c ws)
  go_region_held3 (fun w' => w'.cell? ⟨w.heap.size, 0, none⟩ = some (.int .i64 p) ∧ w'.cell? ⟨w.heap.size, 1, none⟩ = some (.int .i64 k) ∧ w'.cell? ⟨w.heap.size, 2, none⟩ = some (.int .i64 g) ∧ w'.cell? ⟨w.heap.size, 3, none⟩ = some (.int .i64 n) ∧ w'.cell? ⟨w.heap.size, 4, none⟩ = some (.int .i64 c))
    (first
      | exact HX1.out.drew.cells
      | exact HX2.out.cells
      | exact HX3.out.cells)
    (first
      | (go_at_call 50; refine (implSyndromes h ws A cw B _ (HI.out.below (HX1.out.drew.2.mono hB)) (Nat.le_trans hB (Nat.le_of_lt HX1.out.lt))).mono ?_; rintro e w2 ⟨A2, m2, rfl, hm2, ho2, hb2⟩; rw [HSY.out] at ho2 hm2 ⊢; have HX2 := hide (HX1.out.drew.next hb2); have HS2 := hide ho2.intsE; clear ho2 hb2)
      | (go_at_call 49; refine (implChanges h E hE ws hwl0 A2 A' m2 n' cw' w2.heap.size _ HS2.out hm2 ((HJ.out.below (HX2.out.2.mono hB)).more (Nat.le_trans hB (Nat.le_of_lt HX2.out.lt))) (Nat.le_refl _)).mono ?_; intro e w3 hp; obtain ⟨J, A6, A7, m6, m7, rfl, hj3, hv3, hb3, hJI, hJc, hcz⟩ := chPost_yes ho hwl0 hp; have HX3 := hide (HX2.out.next hb3); clear hp hb3; have HJ3 := hide hj3; have HV3 := hide hv3; have HJI := hide hJI; have HCZ := hide hcz; obtain ⟨nV, hnV⟩ : ∃ nV, J.length = nV := ⟨_, rfl⟩; have HJL := hide hnV; obtain ⟨f, hf⟩ : ∃ f, fvI (numE h.fld) γ n c (synW γ c ws) J = f := ⟨_, rfl⟩; rw [hnV] at HJ3 HV3 hJc ⊢; rw [hf] at HV3 HCZ; clear hj3 hv3 hcz hJI hnV hf))
  go_wp2_with fail
  refine (implClone A n cw B (iv ws) _ (HI.out.below (HX3.out.2.mono hB)) (Nat.le_trans hB (Nat.le_of_lt HX3.out.lt)) (by omega)).mono ?_
  rintro e w8 ⟨A8, m8, rfl, hm8, ho8, hb8⟩
  rw [iv_len, hwl0] at ho8 ⊢
  have HX8 := hide (HX3.out.next hb8)
  obtain ⟨gW, c8, he, hg8, hg8', _⟩ := ho8.some_ (by rw [iv_len, hwl0]; have := h.cl; omega)
  simp only [Value.slice.injEq] at he
  obtain ⟨rfl, hx1, hx2⟩ := he
  have HO8 := hide (show Own w8 (w.heap.size + 1) 2 .i64 (.slice (some ⟨gW, 0, none⟩) n m8) (iv (tab n (coF ws f (J.take 0)))) by
    rw [List.take_zero, coF_nil ws f hwl0]
    exact ho8.low HX3.out.lt)
  have HJ8 := hide (((HJ3.out.below hb8).more (B' := gW) hg8))
  have HV8 := hide (((HV3.out.below hb8).more (B' := gW) hg8))
  have hgw : w.heap.size < gW := Nat.lt_of_lt_of_le HX3.out.lt hg8
  have HWL := hide hwl0
  clear ho8 hb8 hm8 hx1 hx2 hg8 hwl0
  go_wp2_with fail
  go_loopw [40] (fun i wr => CoRel w p k g n c nV gW A6 A7 J ws (J.map f) f m8 i wr) (fun i _ => nV - (intOf i).toNat)
  case atStart => exact ⟨0, by omega, rfl, HO8.out, HJ8.out, HV8.out, hg8', HX8.out⟩
  case round =>
    clear HX2 HX3 HX8 HS2 HJ3 HV3 HO8 HJ8 HV8 hg8'
    obtain ⟨j, hj, rfl, HO, HJr, HVr, HS1, HX⟩ := hrel
    have HX := hide HX
    have HO := hide HO
    have HJr := hide HJr
    have HVr := hide HVr
    have HS := hide HS1
    by_cases hlt : j < nV
    · obtain ⟨b1, o1, z', rfl, hb1, hz, hc1⟩ := HJr.out.at_ hlt
      obtain ⟨z, hzJ, rfl⟩ := nv_get hz
      have hzl : z < n := HJI.out.2 z (List.mem_of_getElem? hzJ)
      obtain ⟨b3, o3, y', rfl, hb3, hy, hc3⟩ := HVr.out.at_ hlt
      obtain ⟨y, hyf⟩ : ∃ y, y = f z := ⟨_, rfl⟩
      have hyy : y' = (y.val : Int) := by
        rw [iv, List.getElem?_map, List.getElem?_map, hzJ] at hy
        simp only [Option.map_some, Option.some.injEq] at hy
        rw [← hy, hyf]
      subst hyy
      obtain ⟨x, hx⟩ : ∃ x, x = cf ws z := ⟨_, rfl⟩
      have hcx := HO.out.cellAt (j := z) (x := (x.val : Int)) (by rw [iv, List.getElem?_map, coF_at HJI.out.nodup hzJ hzl, hx]; rfl)
      have HCX := hide hcx
      have HCY := hide hc3
      have HTT := hide (show (tab n (coF ws f (J.take j))).set z (x + -y) = tab n (coF ws f (J.take (j + 1))) by rw [hx, hyf]; exact coF_step hzJ)
      have hb3l : b3 < gW := hb3
      have hb3r : b3 < wr.heap.size := Nat.lt_trans hb3 HS.out
      clear hx hyf hy hz hzJ hcx hc3 hb3
      go_wp2_with fail
      refine tail_begin (fun w' => w'.cell? ⟨w.heap.size, 0, none⟩ = some (.int .i64 p) ∧ w'.cell? ⟨w.heap.size, 1, none⟩ = some (.int .i64 k) ∧ w'.cell? ⟨w.heap.size, 2, none⟩ = some (.int .i64 g) ∧ w'.cell? ⟨gW, z, none⟩ = some (.int .i64 (x.val : Int)) ∧ w'.cell? ⟨b3, o3 + j, none⟩ = some (.int .i64 (y.val : Int))) 17 (by kernel_rfl) ⟨HX.out.drew.cells.1, HX.out.drew.cells.2.1, HX.out.drew.cells.2.2.1, HCX.out, HCY.out⟩ (fun hS' => ?_)
      refine tail_take 0 rfl (by kernel_rfl) (by kernel_rfl) (by kernel_rfl) (by kernel_rfl) (fun _ _ _ h => h) (by rfl) (v := ?_) ?_ (by assumption) ?_
      rotate_left 1
      · intro w' hS'; (try dsimp only at hS'); go_simp; try with_reducible rfl
      try simp only [Act.put, List.setIfInBounds_toArray, List.set_cons_zero, List.set_cons_succ]
      refine tail_take 1 rfl (by kernel_rfl) (by kernel_rfl) (by kernel_rfl) (by kernel_rfl) (fun _ _ _ h => h) (by rfl) (v := ?_) ?_ (by assumption) ?_
      rotate_left 1
      · intro w' hS'; (try dsimp only at hS'); go_simp; try with_reducible rfl
      try simp only [Act.put, List.setIfInBounds_toArray, List.set_cons_zero, List.set_cons_succ]
      refine tail_take 2 rfl (by kernel_rfl) (by kernel_rfl) (by kernel_rfl) (by kernel_rfl) (fun _ _ _ h => h) (by rfl) (v := ?_) ?_ (by assumption) ?_
      rotate_left 1
      · intro w' hS'; (try dsimp only at hS'); go_simp; try with_reducible rfl
      try simp only [Act.put, List.setIfInBounds_toArray, List.set_cons_zero, List.set_cons_succ]
      refine tail_take 3 rfl (by kernel_rfl) (by kernel_rfl) (by kernel_rfl) (by kernel_rfl) (fun _ _ _ h => h) (by rfl) (v := ?_) ?_ (by assumption) ?_
      rotate_left 1
      · intro w' hS'; (try dsimp only at hS'); go_simp; try with_reducible rfl
      try simp only [Act.put, List.setIfInBounds_toArray, List.set_cons_zero, List.set_cons_succ]
      refine tail_take 4 rfl (by kernel_rfl) (by kernel_rfl) (by kernel_rfl) (by kernel_rfl) (fun _ _ _ h => h) (by rfl) (v := ?_) ?_ (by assumption) ?_
      rotate_left 1
      · intro w' hS'; (try dsimp only at hS'); go_simp; try with_reducible rfl
      try simp only [Act.put, List.setIfInBounds_toArray, List.set_cons_zero, List.set_cons_succ]
      refine tail_take 5 rfl (by kernel_rfl) (by kernel_rfl) (by kernel_rfl) (by kernel_rfl) (fun _ _ _ h => h) (by rfl) (v := ?_) ?_ (by assumption) ?_
      rotate_left 1
      · intro w' hS'; (try dsimp only at hS'); go_simp; try with_reducible rfl
      try simp only [Act.put, List.setIfInBounds_toArray, List.set_cons_zero, List.set_cons_succ]
      refine tail_take 6 rfl (by kernel_rfl) (by kernel_rfl) (by kernel_rfl) (by kernel_rfl) (fun _ _ _ h => h) (by rfl) (v := ?_) ?_ (by assumption) ?_
      rotate_left 1
      · intro w' hS'; (try dsimp only at hS'); go_simp; try with_reducible rfl
      try simp only [Act.put, List.setIfInBounds_toArray, List.set_cons_zero, List.set_cons_succ]
      refine tail_take 7 rfl (by kernel_rfl) (by kernel_rfl) (by kernel_rfl) (by kernel_rfl) (fun _ _ _ h => h) (by rfl) (v := ?_) ?_ (by assumption) ?_
      rotate_left 1
      · intro w' hS'; (try dsimp only at hS'); go_simp; try with_reducible rfl
      try simp only [Act.put, List.setIfInBounds_toArray, List.set_cons_zero, List.set_cons_succ]
      refine tail_take 8 rfl (by kernel_rfl) (by kernel_rfl) (by kernel_rfl) (by kernel_rfl) (fun _ _ _ h => h) (by rfl) (v := ?_) ?_ (by assumption) ?_
      rotate_left 1
      · intro w' hS'; (try dsimp only at hS'); go_simp; try with_reducible rfl
      try simp only [Act.put, List.setIfInBounds_toArray, List.set_cons_zero, List.set_cons_succ]
      refine tail_take 9 rfl (by kernel_rfl) (by kernel_rfl) (by kernel_rfl) (by kernel_rfl) (fun _ _ _ h => h) (by rfl) (v := ?_) ?_ (by assumption) ?_
      rotate_left 1
      · intro w' hS'; (try dsimp only at hS'); go_simp; try with_reducible rfl
      try simp only [Act.put, List.setIfInBounds_toArray, List.set_cons_zero, List.set_cons_succ]
      refine tail_take 10 rfl (by kernel_rfl) (by kernel_rfl) (by kernel_rfl) (by kernel_rfl) (fun _ _ _ h => h) (by rfl) (v := ?_) ?_ (by assumption) ?_
      rotate_left 1
      · intro w' hS'; (try dsimp only at hS'); go_simp; try with_reducible rfl
      try simp only [Act.put, List.setIfInBounds_toArray, List.set_cons_zero, List.set_cons_succ]
      refine tail_take 11 rfl (by kernel_rfl) (by kernel_rfl) (by kernel_rfl) (by kernel_rfl) (fun _ _ _ h => h) (by rfl) (v := ?_) ?_ (by assumption) ?_
      rotate_left 1
      · intro w' hS'; (try dsimp only at hS'); go_simp; try with_reducible rfl
      try simp only [Act.put, List.setIfInBounds_toArray, List.set_cons_zero, List.set_cons_succ]
      refine tail_take 12 rfl (by kernel_rfl) (by kernel_rfl) (by kernel_rfl) (by kernel_rfl) (fun _ _ _ h => h) (by rfl) (v := ?_) ?_ (by assumption) ?_
      rotate_left 1
      · intro w' hS'; (try dsimp only at hS'); go_simp; try with_reducible rfl
      try simp only [Act.put, List.setIfInBounds_toArray, List.set_cons_zero, List.set_cons_succ]
      refine tail_take 13 rfl (by kernel_rfl) (by kernel_rfl) (by kernel_rfl) (by kernel_rfl) (fun _ _ _ h => h) (by rfl) (v := ?_) ?_ (by assumption) ?_
      rotate_left 1
      · intro w' hS'; (try dsimp only at hS'); go_simp; try with_reducible rfl
      try simp only [Act.put, List.setIfInBounds_toArray, List.set_cons_zero, List.set_cons_succ]
      refine tail_call 14 rfl (by kernel_rfl) rfl (fun K hK => ?_)
      go_simp
      go_at_call 53; refine (implNegE h.fld y _).mono ?_; rintro e' w2 ⟨rfl, hb2⟩; have HX2 := hide (HX.out.drew.next hb2); have HO2 := hide (HO.out.drew.below hb2 (Nat.le_refl _)); have HCX2 := hide ((hb2.cell (p := ⟨gW, z, none⟩) HS.out).trans HCX.out); have HCY2 := hide ((hb2.cell (p := ⟨b3, o3 + j, none⟩) hb3r).trans HCY.out); have HS2 := hide (Nat.lt_of_lt_of_le HS.out hb2.size); have HBA := hide hb2; clear hb2
      refine hK.out _ _ (by (try dsimp only); exact ⟨HX2.out.cells.1, HX2.out.cells.2.1, HX2.out.cells.2.2.1, HCX2.out, HCY2.out⟩) (fun hS' => ?_)
      clear hK K
      try simp only [Act.put, List.setIfInBounds_toArray, List.set_cons_zero, List.set_cons_succ]
      refine tail_call 15 rfl (by kernel_rfl) rfl (fun K hK => ?_)
      go_simp
      go_at_call 52; refine (implSumE h.fld x (-y) _).mono ?_; rintro e' w3 ⟨rfl, hb3'⟩; have HX3 := hide (HX2.out.next hb3'); have HO3 := hide (HO2.out.below hb3' (Nat.le_refl _)); have HCX3 := hide ((hb3'.cell (p := ⟨gW, z, none⟩) HS2.out).trans HCX2.out); have HCY3 := hide ((hb3'.cell (p := ⟨b3, o3 + j, none⟩) (Nat.lt_trans hb3l HS2.out)).trans HCY2.out); have HS3 := hide (Nat.lt_of_lt_of_le HS2.out hb3'.size); have HBB := hide (HBA.out.trans (hb3'.mono HBA.out.size)); clear hb3'
      refine hK.out _ _ (by (try dsimp only); exact ⟨HX3.out.cells.1, HX3.out.cells.2.1, HX3.out.cells.2.2.1, HCX3.out, HCY3.out⟩) (fun hS' => ?_)
      clear hK K
      try simp only [Act.put, List.setIfInBounds_toArray, List.set_cons_zero, List.set_cons_succ]
      refine tail_take 16 rfl (by kernel_rfl) (by kernel_rfl) (by kernel_rfl) (by kernel_rfl) (fun _ _ _ h => h) (by rfl) (v := ?_) ?_ (by assumption) ?_
      rotate_left 1
      · intro w' hS'; (try dsimp only at hS'); go_simp; try with_reducible rfl
      try simp only [Act.put, List.setIfInBounds_toArray, List.set_cons_zero, List.set_cons_succ]
      have fx := HO3.out.frozenAt z
      have cx := HCX3.out
      refine tail_last 17 rfl (by kernel_rfl) (by kernel_rfl) rfl rfl (fun K hK => ?_)
      go_simp
      refine hK.out _ _ ?_
      clear hK K
      try simp only [Act.put, List.setIfInBounds_toArray, List.set_cons_zero, List.set_cons_succ]
      have HO9 := hide (HO3.out.stored z ((x + -y).val : Nat)).1
      have HG9 := hide (HO3.out.stored z ((x + -y).val : Nat)).2
      rw [iv_set, HTT.out] at HO9
      have HX9 := hide (HX3.out.grow HG9.out (fun r hr => by injection hr with hr; omega))
      have HB9 := hide (show Below gW wr.drew (w3.setCell ⟨gW, z, none⟩ (.int .i64 ((x + -y).val : Nat))) from (HBB.out.mono (Nat.le_of_lt HS.out)).grown HG9.out (Nat.le_trans (Nat.le_of_lt HS.out) HBB.out.size) (fun r hr => by injection hr with hr; omega))
      have HJ9 := hide (HJr.out.drew.below HB9.out)
      have HV9 := hide (HVr.out.drew.below HB9.out)
      have HS9 := hide (Nat.lt_of_lt_of_le HS3.out HG9.out.size)
      clear HX HO HJr HVr HCX HCY HX2 HO2 HCX2 HCY2 HBA HX3 HO3 HCX3 HCY3 HBB HB9 HG9 fx cx
      go_wp2_with fail
      go_roundw
      case rel => exact ⟨j + 1, by omega, by go_num, HO9.out, HJ9.out, HV9.out, HS9.out, HX9.out⟩
      case measure => simp [intOf]; omega
    · obtain rfl : j = nV := by omega
      have HE := hide (show tab n (coF ws f (J.take j)) = cz by rw [List.take_of_length_le (by rw [HJL.out]; exact Nat.le_refl _)]; exact HCZ.out)
      have HO2 := hide HO.out
      rw [HE.out] at HO2
      clear hlt
      go_wp2_with fail
      refine (implDifferences ws cz A (some ⟨gW, 0, none⟩) n cw m8 wr.heap.size wr ((HI.out.below (HX.out.2.mono hB)).more (Nat.le_trans hB (Nat.le_of_lt HX.out.lt))) HO2.out.intsE (Nat.le_refl _) (by omega)).mono ?_
      rintro e w3' ⟨A3, m3, rfl, hm3, ho3, hb3'⟩
      have HXF := hide (HX.out.next hb3')
      have HNE := hide (HO2.out.ne ho3 (Nat.le_refl _))
      have HO2b := hide (HO2.out.below hb3' (Nat.le_refl _))
      have HF := hide (newIIK_of (w := w) (cd := 0) (HO2b.out.low (Nat.le_succ _)) (ho3.low (Nat.le_of_lt HX.out.lt)) HNE.out HXF.out.2 (Nat.le_refl _))
      clear ho3 hb3' hm3
      go_wp2_with fail
      go_ret3
      exact HF.out

set_option maxRecDepth 100000 in
set_option maxHeartbeats 4000000 in
theorem cbr_noI {R : Fld} {γ : El R} {p k g : Int} {l c : Nat} (h : CodeIs R γ p k g l c) (ws : List (El R)) (hw : ws.length = l) (E : List Nat) (hE : Idx l E) (hz : (iv ws).length ≤ 1048576) (hz' : (nv E).length ≤ 1048576) (ho : ∀ cz, ¬ Okw γ l c E ws cz) :
    D2 28 p k g l c (iv ws) (nv E) (NewIIK [] [] 7) := by
  have hl255 := h.l255
  have HC := hide (c_bd h)
  have HE := hide (show xErr p k g l c (nv E) [iv ws] = 0 by rw [xErr, wErr_is h (fun z hz => by rw [List.mem_singleton] at hz; exact ⟨ws, hz, hw⟩), if_pos rfl, idx_shut hE]; rfl)
  intro A n cw A' n' cw' B w hI hJ hcap hcap' hB
  have HX0 := hide (CBox.start w p k g l c)
  have hn : n ≤ 1048576 := by rw [← hI.len]; exact hz
  have hn' : n' ≤ 1048576 := by rw [← hJ.len]; exact hz'
  have HR := hide (rws1b (c := cw) (.cells #[.int .i64 p, .int .i64 k, .int .i64 g, .int .i64 l, .int .i64 c] 48) 26 hI hB (by omega))
  have HXr := hide (HX0.out.alloc (.cells #[.slice A n cw] 26))
  have HI := hide hI
  have HJ := hide hJ
  clear hI hJ
  obtain ⟨c0, c1, c2, c3, c4⟩ := HXr.out.cells
  have hwn : ws.length = n := by rw [← iv_len]; exact HI.out.len
  obtain rfl : n = l := by omega
  have HWN := hide hwn
  clear hwn hw
  go_enter Try.func28, Try.ntmps28
  go_wp2_with fail
  refine (implIdxErr p k g n c A' n' cw' (nv E) (some ⟨w.heap.size + 1, 0, none⟩) 1 1 B [(iv ws)] _ (HJ.out.below (HXr.out.2.mono hB)) (Nat.le_trans hB (Nat.le_of_lt HXr.out.lt)) (by omega) (implWErr p k g n c _ 1 1 _ _ _ (HR.out.below ((Below.refl _ _).alloc (by rw [alloc_size, alloc_size]; exact Nat.le_refl _) _)) rfl (by rw [alloc_size, alloc_size, alloc_size]; omega) (by omega))).mono ?_
  rw [HE.out]
  rintro e w1 ⟨rfl, hb⟩
  have HX1 := hide (HXr.out.next hb)
  clear hb c0 c1 c2 c3 c4
  obtain ⟨c0, c1, c2, c3, c4⟩ := HX1.out.cells
  go_wp2_with fail
  have hc64 := h.c64
  have hwl0 : ws.length = n := by have := HI.out.len; rwa [iv_len] at this
  have HSY := hide (syn_len γ c ws)
  go_region_held3 (fun w' => w'.cell? ⟨w.heap.size, 0, none⟩ = some (.int .i64 p) ∧ w'.cell? ⟨w.heap.size, 1, none⟩ = some (.int .i64 k) ∧ w'.cell? ⟨w.heap.size, 2, none⟩ = some (.int .i64 g) ∧ w'.cell? ⟨w.heap.size, 3, none⟩ = some (.int .i64 n) ∧ w'.cell? ⟨w.heap.size, 4, none⟩ = some (.int .i64 c))
    (first
      | exact HX1.out.drew.cells
      | exact HX2.out.cells
      | exact HX3.out.cells)
    (first
      | (go_at_call 50; refine (implSyndromes h ws A cw B _ (HI.out.below (HX1.out.drew.2.mono hB)) (Nat.le_trans hB (Nat.le_of_lt HX1.out.lt))).mono ?_; rintro e w2 ⟨A2, m2, rfl, hm2, ho2, hb2⟩; rw [HSY.out] at ho2 hm2 ⊢; have HX2 := hide (HX1.out.drew.next hb2); have HS2 := hide ho2.intsE; clear ho2 hb2)
      | (go_at_call 49; refine (implChanges h E hE ws hwl0 A2 A' m2 n' cw' w2.heap.size _ HS2.out hm2 ((HJ.out.below (HX2.out.2.mono hB)).more (Nat.le_trans hB (Nat.le_of_lt HX2.out.lt))) (Nat.le_refl _)).mono ?_; intro e w3 hp; obtain ⟨v1, v2, rfl, hb3⟩ := chPost_no ho hp; have HX3 := hide (HX2.out.next hb3); clear hp hb3))
  go_wp2_with fail
  go_ret3
  exact newIIK_nil HX3.out.2
end Go.Proofs.Ytdniocdmncldjaa
