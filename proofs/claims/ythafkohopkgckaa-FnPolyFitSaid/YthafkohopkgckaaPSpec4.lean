/-
  The contract of the model's products of polynomials.
  Condition: the field is valid, and lists are shorter than 2^39.
-/
import Derived.Test.YthafkohopkgckaaPSpec2
import Derived.Test.YthafkohopkgckaaTail
namespace Go.Proofs.Ythafkohopkgckaa
open Go.RowKit
set_option linter.unusedSimpArgs false
set_option linter.unusedVariables false

section
variable {R : Fld} {p k g : Int}
/-- The sum of the multiples of q by the coefficients of p that have been taken. -/
def MuRel (w : World) (p k g : Int) (N n : Nat) (ps qs : List (El R)) (i : Value) (wr : World) : Prop :=
  ∃ j : Nat, j ≤ n ∧ i = .int .i64 j ∧ Own wr (w.heap.size + 1) 2 .i64 (.slice (some ⟨w.heap.size + 1, 0, none⟩) N N) (iv (tab N (mulN (cf ps) (cf qs) j))) ∧ Box w wr 25 p k g
def MiRel (w : World) (p k g : Int) (N m s : Nat) (a : El R) (f : Nat → El R) (qs : List (El R)) (i : Value) (wr : World) : Prop :=
  ∃ j : Nat, j ≤ m ∧ i = .int .i64 j ∧ Own wr (w.heap.size + 1) 2 .i64 (.slice (some ⟨w.heap.size + 1, 0, none⟩) N N) (iv (tab N fun i => f i + up s a (cf (qs.take j)) i)) ∧ Box w wr 25 p k g
theorem Box.set' {w wr : World} {t : TypeId} {b : Nat} (h : Box w wr t p k g) (hb : w.heap.size < b) (j : Nat) (u : Value) : Box w (wr.setCell ⟨b, j, none⟩ u) t p k g :=
  h.grow' (set_grown wr b j u) (fun r hr => by simp only [Option.some.injEq] at hr; omega)

set_option maxRecDepth 100000 in
set_option maxHeartbeats 8000000 in
theorem specMulE' (h : FldIs R p k g) (ps qs : List (El R)) (A A' : Option Addr) (n c m c' B : Nat) (w : World) (hI : Ints .i64 w B A n (iv ps)) (hJ : Ints .i64 w B A' m (iv qs)) (hB : B ≤ w.heap.size) (hn : n ≤ 549755813888) (hm : m ≤ 549755813888) :
    Calls Try.prog 71 #[.agg #[.int .i64 p, .int .i64 k, .int .i64 g], .slice A n c, .slice A' m c'] w (NewE (trim (mulP ps qs)) w) := by
  have HX := hide (Box.start w 25 p k g)
  have hpn : ps.length = n := by rw [← iv_len]; exact hI.len
  have hqm : qs.length = m := by rw [← iv_len]; exact hJ.len
  have HI := hide hI
  have HJ := hide hJ
  clear hI hJ
  by_cases h0 : n = 0 ∨ m = 0
  · have HE := hide (show trim (mulP ps qs) = [] by
      rw [show mulP ps qs = [] from List.eq_nil_of_length_eq_zero (by rw [mulP, tab_len, plen_0 (by omega)])]; rfl)
    have hOs := Own.lit0 (w.alloc (.cells #[.int .i64 p, .int .i64 k, .int .i64 g] 25)) 2 .i64
    rw [alloc_size] at hOs
    have HOs := hide hOs
    clear hOs
    have HXs := hide (HX.out.alloc (.cells #[] 2))
    rw [HE.out]
    rcases Nat.eq_zero_or_pos n with e0 | e0
    · subst e0
      go_enter Try.func71, Try.ntmps71
      go_wp2_with fail
      go_ret
      exact ⟨_, _, rfl, Nat.le_refl _, HOs.out.low (Nat.le_succ _), HXs.out.2⟩
    · obtain rfl : m = 0 := by omega
      have e1 : ((n : Int) == 0) = false := by simp; omega
      go_enter Try.func71, Try.ntmps71
      go_wp2_with fail
      go_ret
      exact ⟨_, _, rfl, Nat.le_refl _, HOs.out.low (Nat.le_succ _), HXs.out.2⟩
  have hn0 : 0 < n := by omega
  have hm0 : 0 < m := by omega
  have e1 : ((n : Int) == 0) = false := by simp; omega
  have e2 : ((m : Int) == 0) = false := by simp; omega
  obtain ⟨N, hN⟩ : ∃ N, N = n + m - 1 := ⟨_, rfl⟩
  have hNn : n ≤ N := by omega
  have hNm : m ≤ N := by omega
  have hNb : N ≤ 1099511627776 := by omega
  have hNx : N + 1 = n + m := by omega
  have HN := hide (show plen ps qs = N by rw [plen_1 (by omega) (by omega), hpn, hqm, hN])
  have hNw : IntKind.i64.wrap (IntKind.i64.wrap ((n : Int) + (m : Int)) - 1) = (N : Int) := by
    rw [IntWalk.i64_in ((n : Int) + (m : Int)) ⟨by omega, by omega⟩, IntWalk.i64_in _ ⟨by omega, by omega⟩]; omega
  have hNw2 : (n : Int) + (m : Int) - 1 = (N : Int) := by omega
  clear hN h0
  go_enter Try.func71, Try.ntmps71
  go_wp2_with (refine wpList_mkN _ rfl (.tmp 24) (.tmp 24) 35 rfl elem64 .i64 .i64 _ _ N rfl rfl (by omega) (by omega) (by omega) fun w1 h1 h2 => ?_; have HX1 := hide (HX.out.next h2); rw [alloc_size, iv_zeros (R := R)] at h1; have HO1 := hide h1; clear h1 h2)
  go_loopw [8] (fun i wr => MuRel w p k g N n ps qs i wr) (fun i _ => n - (intOf i).toNat)
  case atStart => exact ⟨0, by omega, rfl, HO1.out, HX1.out⟩
  case round =>
    clear HX1 HO1
    obtain ⟨wo, rfl⟩ : ∃ wo : World, wo = wr := ⟨_, rfl⟩
    obtain ⟨s, hs, rfl, HO, HX⟩ := hrel
    have HX := hide HX
    have HO := hide HO
    by_cases hlt : s < n
    · obtain ⟨a, ha⟩ : ∃ a, a = cf ps s := ⟨_, rfl⟩
      obtain ⟨f, hf⟩ : ∃ f, f = mulN (cf ps) (cf qs) s := ⟨_, rfl⟩
      have HA := hide ha
      have HFF := hide hf
      rw [← hf] at HO
      clear ha hf
      go_wp2_with fail
      go_loopw [9] (fun i wr => MiRel w p k g N m s a f qs i wr) (fun i _ => m - (intOf i).toNat)
      case atStart => exact ⟨0, by omega, rfl, by rw [← add_none]; exact HO.out, HX.out⟩
      case round =>
        clear HX HO
        obtain ⟨j, hj, rfl, HO, HX⟩ := hrel
        have HX := hide HX
        have HO := hide HO
        by_cases hlj : j < m
        · obtain ⟨b, off, x, rfl, hb, hx, hc⟩ := (HI.out.below (HX.out.2.mono hB)).at_ hlt
          obtain ⟨b', off', x', rfl, hb', hx', hc'⟩ := (HJ.out.below (HX.out.2.mono hB)).at_ hlj
          rw [iv_at (by omega)] at hx hx'
          simp only [Option.some.injEq] at hx hx'
          subst hx
          subst hx'
          obtain ⟨y, hy⟩ : ∃ y, y = cf qs j := ⟨_, rfl⟩
          rw [← hy] at hc'
          rw [← HA.out] at hc
          have HY := hide hy
          obtain ⟨c0, c1, c2⟩ := HX.out.cells
          have hcx := HO.out.cellAt (j := s + j) (x := ((f (s + j)).val : Int)) (by rw [iv, List.getElem?_map, add_at (by omega)]; rfl)
          have hfx := HO.out.frozenAt (s + j)
          obtain ⟨t, ht⟩ : ∃ t, t = s + j := ⟨_, rfl⟩
          obtain ⟨u, hu⟩ : ∃ u, u = f (s + j) := ⟨_, rfl⟩
          rw [← hu, ← ht] at hcx
          rw [← ht] at hfx
          have htn : t < N := by omega
          have HT := hide ht
          have HU := hide hu
          have hbl : b < wr.heap.size := Nat.lt_of_lt_of_le hb (Nat.le_trans hB (Nat.le_of_lt HX.out.lt))
          have hbl' : b' < wr.heap.size := Nat.lt_of_lt_of_le hb' (Nat.le_trans hB (Nat.le_of_lt HX.out.lt))
          have hgl : w.heap.size + 1 < wr.heap.size := (HO.out.lt (g := w.heap.size + 1) rfl).2
          have hw1 : IntKind.i64.wrap ((s : Int) + (j : Int)) = (t : Int) := by rw [IntWalk.i64_in _ ⟨by omega, by omega⟩]; omega
          have HCP := hide hc
          have HCQ := hide hc'
          have HFZ := hide hfx
          have HCX := hide hcx
          clear hu ht hy c0 c1 c2 hfx hcx hc hc'
          go_wp2_with fail
          refine tail_begin (fun w' => w'.cell? ⟨w.heap.size, 0, none⟩ = some (.int .i64 p) ∧ w'.cell? ⟨w.heap.size, 1, none⟩ = some (.int .i64 k) ∧ w'.cell? ⟨w.heap.size, 2, none⟩ = some (.int .i64 g) ∧ w'.cell? ⟨b, off + s, none⟩ = some (.int .i64 (a.val : Int)) ∧ w'.cell? ⟨b', off' + j, none⟩ = some (.int .i64 (y.val : Int)) ∧ w'.cell? ⟨w.heap.size + 1, t, none⟩ = some (.int .i64 (u.val : Int))) 23 (by kernel_rfl) ⟨HX.out.drew.cells.1, HX.out.drew.cells.2.1, HX.out.drew.cells.2.2, HCP.out, HCQ.out, HCX.out⟩ (fun hS' => ?_)
          refine tail_take 0 rfl (by kernel_rfl) (by kernel_rfl) (by kernel_rfl) (by kernel_rfl) (fun _ _ _ h => h) (by rfl) (v := ?_) ?_ (by assumption) ?_
          rotate_left 1
          · intro w' hS'; (try dsimp only at hS'); go_simp; try with_reducible rfl
          try simp only [Act.put, List.setIfInBounds_toArray, List.set_cons_zero, List.set_cons_succ]
          refine tail_take 1 rfl (by kernel_rfl) (by kernel_rfl) (by kernel_rfl) (by kernel_rfl) (fun _ _ _ h => h) (by rfl) (v := ?_) ?_ (by assumption) ?_
          rotate_left 1
          · intro w' hS'; (try dsimp only at hS'); go_simp; try with_reducible rfl
          try simp only [Act.put, List.setIfInBounds_toArray, List.set_cons_zero, List.set_cons_succ]
          refine tail_take 2 rfl (by kernel_rfl) (by kernel_rfl) (by kernel_rfl) (by kernel_rfl) (fun _ _ _ h => h) (by rfl) (v := ?_) ?_ (by assumption) ?_
          rotate_left 1
          · intro w' hS'; (try dsimp only at hS'); go_simp; try with_reducible rfl
          try simp only [Act.put, List.setIfInBounds_toArray, List.set_cons_zero, List.set_cons_succ]
          refine tail_take 3 rfl (by kernel_rfl) (by kernel_rfl) (by kernel_rfl) (by kernel_rfl) (fun _ _ _ h => h) (by rfl) (v := ?_) ?_ (by assumption) ?_
          rotate_left 1
          · intro w' hS'; (try dsimp only at hS'); go_simp; try with_reducible rfl
          try simp only [Act.put, List.setIfInBounds_toArray, List.set_cons_zero, List.set_cons_succ]
          refine tail_take 4 rfl (by kernel_rfl) (by kernel_rfl) (by kernel_rfl) (by kernel_rfl) (fun _ _ _ h => h) (by rfl) (v := ?_) ?_ (by assumption) ?_
          rotate_left 1
          · intro w' hS'; (try dsimp only at hS'); go_simp; try with_reducible rfl
          try simp only [Act.put, List.setIfInBounds_toArray, List.set_cons_zero, List.set_cons_succ]
          refine tail_take 5 rfl (by kernel_rfl) (by kernel_rfl) (by kernel_rfl) (by kernel_rfl) (fun _ _ _ h => h) (by rfl) (v := ?_) ?_ (by assumption) ?_
          rotate_left 1
          · intro w' hS'; (try dsimp only at hS'); go_simp; try with_reducible rfl
          try simp only [Act.put, List.setIfInBounds_toArray, List.set_cons_zero, List.set_cons_succ]
          refine tail_take 6 rfl (by kernel_rfl) (by kernel_rfl) (by kernel_rfl) (by kernel_rfl) (fun _ _ _ h => h) (by rfl) (v := ?_) ?_ (by assumption) ?_
          rotate_left 1
          · intro w' hS'; (try dsimp only at hS'); go_simp; try with_reducible rfl
          try simp only [Act.put, List.setIfInBounds_toArray, List.set_cons_zero, List.set_cons_succ]
          refine tail_take 7 rfl (by kernel_rfl) (by kernel_rfl) (by kernel_rfl) (by kernel_rfl) (fun _ _ _ h => h) (by rfl) (v := ?_) ?_ (by assumption) ?_
          rotate_left 1
          · intro w' hS'; (try dsimp only at hS'); go_simp; try with_reducible rfl
          try simp only [Act.put, List.setIfInBounds_toArray, List.set_cons_zero, List.set_cons_succ]
          refine tail_take 8 rfl (by kernel_rfl) (by kernel_rfl) (by kernel_rfl) (by kernel_rfl) (fun _ _ _ h => h) (by rfl) (v := ?_) ?_ (by assumption) ?_
          rotate_left 1
          · intro w' hS'; (try dsimp only at hS'); go_simp; try with_reducible rfl
          try simp only [Act.put, List.setIfInBounds_toArray, List.set_cons_zero, List.set_cons_succ]
          refine tail_take 9 rfl (by kernel_rfl) (by kernel_rfl) (by kernel_rfl) (by kernel_rfl) (fun _ _ _ h => h) (by rfl) (v := ?_) ?_ (by assumption) ?_
          rotate_left 1
          · intro w' hS'; (try dsimp only at hS'); go_simp; try with_reducible rfl
          try simp only [Act.put, List.setIfInBounds_toArray, List.set_cons_zero, List.set_cons_succ]
          refine tail_take 10 rfl (by kernel_rfl) (by kernel_rfl) (by kernel_rfl) (by kernel_rfl) (fun _ _ _ h => h) (by rfl) (v := ?_) ?_ (by assumption) ?_
          rotate_left 1
          · intro w' hS'; (try dsimp only at hS'); go_simp; try with_reducible rfl
          try simp only [Act.put, List.setIfInBounds_toArray, List.set_cons_zero, List.set_cons_succ]
          refine tail_take 11 rfl (by kernel_rfl) (by kernel_rfl) (by kernel_rfl) (by kernel_rfl) (fun _ _ _ h => h) (by rfl) (v := ?_) ?_ (by assumption) ?_
          rotate_left 1
          · intro w' hS'; (try dsimp only at hS'); go_simp; try with_reducible rfl
          try simp only [Act.put, List.setIfInBounds_toArray, List.set_cons_zero, List.set_cons_succ]
          refine tail_take 12 rfl (by kernel_rfl) (by kernel_rfl) (by kernel_rfl) (by kernel_rfl) (fun _ _ _ h => h) (by rfl) (v := ?_) ?_ (by assumption) ?_
          rotate_left 1
          · intro w' hS'; (try dsimp only at hS'); go_simp; try with_reducible rfl
          try simp only [Act.put, List.setIfInBounds_toArray, List.set_cons_zero, List.set_cons_succ]
          refine tail_take 13 rfl (by kernel_rfl) (by kernel_rfl) (by kernel_rfl) (by kernel_rfl) (fun _ _ _ h => h) (by rfl) (v := ?_) ?_ (by assumption) ?_
          rotate_left 1
          · intro w' hS'; (try dsimp only at hS'); go_simp; try with_reducible rfl
          try simp only [Act.put, List.setIfInBounds_toArray, List.set_cons_zero, List.set_cons_succ]
          refine tail_take 14 rfl (by kernel_rfl) (by kernel_rfl) (by kernel_rfl) (by kernel_rfl) (fun _ _ _ h => h) (by rfl) (v := ?_) ?_ (by assumption) ?_
          rotate_left 1
          · intro w' hS'; (try dsimp only at hS'); go_simp; try with_reducible rfl
          try simp only [Act.put, List.setIfInBounds_toArray, List.set_cons_zero, List.set_cons_succ]
          refine tail_take 15 rfl (by kernel_rfl) (by kernel_rfl) (by kernel_rfl) (by kernel_rfl) (fun _ _ _ h => h) (by rfl) (v := ?_) ?_ (by assumption) ?_
          rotate_left 1
          · intro w' hS'; (try dsimp only at hS'); go_simp; try with_reducible rfl
          try simp only [Act.put, List.setIfInBounds_toArray, List.set_cons_zero, List.set_cons_succ]
          refine tail_take 16 rfl (by kernel_rfl) (by kernel_rfl) (by kernel_rfl) (by kernel_rfl) (fun _ _ _ h => h) (by rfl) (v := ?_) ?_ (by assumption) ?_
          rotate_left 1
          · intro w' hS'; (try dsimp only at hS'); go_simp; try with_reducible rfl
          try simp only [Act.put, List.setIfInBounds_toArray, List.set_cons_zero, List.set_cons_succ]
          refine tail_take 17 rfl (by kernel_rfl) (by kernel_rfl) (by kernel_rfl) (by kernel_rfl) (fun _ _ _ h => h) (by rfl) (v := ?_) ?_ (by assumption) ?_
          rotate_left 1
          · intro w' hS'; (try dsimp only at hS'); go_simp; try with_reducible rfl
          try simp only [Act.put, List.setIfInBounds_toArray, List.set_cons_zero, List.set_cons_succ]
          refine tail_take 18 rfl (by kernel_rfl) (by kernel_rfl) (by kernel_rfl) (by kernel_rfl) (fun _ _ _ h => h) (by rfl) (v := ?_) ?_ (by assumption) ?_
          rotate_left 1
          · intro w' hS'; (try dsimp only at hS'); go_simp; try with_reducible rfl
          try simp only [Act.put, List.setIfInBounds_toArray, List.set_cons_zero, List.set_cons_succ]
          refine tail_take 19 rfl (by kernel_rfl) (by kernel_rfl) (by kernel_rfl) (by kernel_rfl) (fun _ _ _ h => h) (by rfl) (v := ?_) ?_ (by assumption) ?_
          rotate_left 1
          · intro w' hS'; (try dsimp only at hS'); go_simp; try with_reducible rfl
          try simp only [Act.put, List.setIfInBounds_toArray, List.set_cons_zero, List.set_cons_succ]
          refine tail_call 20 rfl (by kernel_rfl) rfl (fun K hK => ?_)
          go_simp
          go_at_call 85; refine (specMulE h a y _).mono ?_; rintro e w2 ⟨rfl, hb2⟩; have HX2 := hide (HX.out.drew.next hb2); have HO2 := hide (HO.out.drew.below hb2 (Nat.le_refl _)); have HCP2 := hide ((hb2.cell (p := ⟨b, off + s, none⟩) hbl).trans HCP.out); have HCQ2 := hide ((hb2.cell (p := ⟨b', off' + j, none⟩) hbl').trans HCQ.out); have HCX2 := hide ((hb2.cell (p := ⟨w.heap.size + 1, t, none⟩) hgl).trans HCX.out); have hgl2 := Nat.lt_of_lt_of_le hgl hb2.size; have hbl2 := Nat.lt_of_lt_of_le hbl hb2.size; have hbl2' := Nat.lt_of_lt_of_le hbl' hb2.size; clear hb2
          refine hK.out _ _ (by (try dsimp only); exact ⟨HX2.out.cells.1, HX2.out.cells.2.1, HX2.out.cells.2.2, HCP2.out, HCQ2.out, HCX2.out⟩) (fun hS' => ?_)
          clear hK K
          try simp only [Act.put, List.setIfInBounds_toArray, List.set_cons_zero, List.set_cons_succ]
          refine tail_call 21 rfl (by kernel_rfl) rfl (fun K hK => ?_)
          go_simp
          go_at_call 61; refine (specAddE h u (a * y) _).mono ?_; rintro e w3 ⟨rfl, hb3⟩; have HX3 := hide (HX2.out.next hb3); have HO3 := hide (HO2.out.below hb3 (Nat.le_refl _)); have HCP3 := hide ((hb3.cell (p := ⟨b, off + s, none⟩) hbl2).trans HCP2.out); have HCQ3 := hide ((hb3.cell (p := ⟨b', off' + j, none⟩) hbl2').trans HCQ2.out); have HCX3 := hide ((hb3.cell (p := ⟨w.heap.size + 1, t, none⟩) hgl2).trans HCX2.out); clear hb3
          refine hK.out _ _ (by (try dsimp only); exact ⟨HX3.out.cells.1, HX3.out.cells.2.1, HX3.out.cells.2.2, HCP3.out, HCQ3.out, HCX3.out⟩) (fun hS' => ?_)
          clear hK K
          try simp only [Act.put, List.setIfInBounds_toArray, List.set_cons_zero, List.set_cons_succ]
          refine tail_take 22 rfl (by kernel_rfl) (by kernel_rfl) (by kernel_rfl) (by kernel_rfl) (fun _ _ _ h => h) (by rfl) (v := ?_) ?_ (by assumption) ?_
          rotate_left 1
          · intro w' hS'; (try dsimp only at hS'); go_simp; try with_reducible rfl
          try simp only [Act.put, List.setIfInBounds_toArray, List.set_cons_zero, List.set_cons_succ]
          have hcx3 := HCX3.out
          have hfx3 := HO3.out.frozenAt t
          refine tail_last 23 rfl (by kernel_rfl) (by kernel_rfl) rfl rfl (fun K hK => ?_)
          go_simp
          refine hK.out _ _ ?_
          clear hK K
          try simp only [Act.put, List.setIfInBounds_toArray, List.set_cons_zero, List.set_cons_succ]
          have HOn := hide (am_next HT.out HU.out HY.out HO3.out)
          have HX4 := hide (HX3.out.set' (b := w.heap.size + 1) (by omega) t (.int .i64 ((u + a * y).val : Nat)))
          clear HCP HCQ HFZ HCX HCP2 HCQ2 HCX2 HCP3 HCQ3 HCX3 HO2 HO3 HX2 HX3 hcx3 hfx3
          go_wp2_with fail
          go_roundw
          case rel => exact ⟨j + 1, by omega, by go_num, HOn.out, HX4.out⟩
          case measure => simp [intOf]; omega
        · obtain rfl : j = m := by omega
          have HOn := hide (show Own wr (w.heap.size + 1) 2 .i64 (.slice (some ⟨w.heap.size + 1, 0, none⟩) N N) (iv (tab N (mulN (cf ps) (cf qs) (s + 1)))) by
            have := HO.out
            rw [List.take_of_length_le (by omega), HFF.out, HA.out] at this
            exact this)
          clear HO
          go_wp2_with fail
          go_roundw
          case rel => exact ⟨s + 1, by omega, by go_num, HOn.out, HX.out⟩
          case measure => simp [intOf]; omega
    · obtain rfl : s = n := by omega
      have HP := hide (show tab N (mulN (cf ps) (cf qs) s) = mulP ps qs by rw [mulP, HN.out, hpn])
      rw [HP.out] at HO
      go_wp2_with fail
      refine (specTrimE _ N N wo.heap.size (mulP ps qs) wo HO.out.intsE (Nat.le_refl _) (by omega) (Nat.le_refl _)).mono ?_
      rintro e w1 ⟨A1, c1, rfl, hc1, ho1, hb1⟩
      have HX1 := hide (HX.out.next hb1)
      have HO1 := hide (ho1.low (Nat.le_of_lt HX.out.lt))
      clear ho1 hb1
      go_wp2_with fail
      go_ret
      exact ⟨A1, c1, rfl, hc1, HO1, HX1.out.2⟩
end
end Go.Proofs.Ythafkohopkgckaa
