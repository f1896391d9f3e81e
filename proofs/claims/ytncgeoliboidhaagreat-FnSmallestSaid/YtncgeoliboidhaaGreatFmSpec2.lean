/-
  The model's grid of fixed cells, and how many data cells it counts.
  Condition: the size is one of the seven.
-/
import Derived.Test.YtncgeoliboidhaaGreatFmSpec1
import Derived.Test.YtncgeoliboidhaaGreatAppend
namespace Go.Proofs.YtncgeoliboidhaaGreat
open Go.RowKit
set_option linter.unusedSimpArgs false
set_option linter.unusedVariables false

theorem Own.set1 {w : World} {base : Nat} {e : TypeId} {k : IntKind} {v : Value} {zs : List Int} (h : Own w base e k v zs) {b : Nat} (hb : b < base) (j : Nat) (u : Value) : Own (w.setCell ⟨b, j, none⟩ u) base e k v zs :=
  h.grown (row := some b) ⟨rfl, rfl, rfl, by simp [World.setCell], fun i _ hne => Below.heap_setCell w ⟨b, j, none⟩ u i (fun e => hne (by simp [e]))⟩ (by
    rcases hv : v.ownBlock with _ | g
    · exact .inl rfl
    · have := (h.lt hv).1
      exact .inr (by simp; omega))
theorem own_base {w : World} {base base' : Nat} {e : TypeId} {k : IntKind} {v : Value} {zs : List Int} (h : Own w base e k v zs) (hb : base' ≤ base) : Own w base' e k v zs := by
  refine ⟨h.1, ?_⟩
  rcases h.2 with h | ⟨g, cap, cur, hv, hg, r⟩
  · exact .inl h
  · exact .inr ⟨g, cap, cur, hv, Nat.le_trans hb hg, r⟩
def GrO (w1 : World) (n : Nat) (v i : Value) (wr : World) : Prop :=
  ∃ r : Nat, r ≤ n ∧ i = .int .i64 r ∧ Own wr w1.heap.size 2 .i64 v (gridZ n (r * n)) ∧ Below w1.heap.size w1 wr
def GrI (w1 : World) (n r : Nat) (v i : Value) (wr : World) : Prop :=
  ∃ c : Nat, c ≤ n ∧ i = .int .i64 c ∧ Own wr w1.heap.size 2 .i64 v (gridZ n (r * n + c)) ∧ Below w1.heap.size w1 wr
/-- A grid of so many cells, in new memory. -/
def NewGr (n : Nat) (zs : List Int) (w : World) (x : Ending) (w' : World) : Prop :=
  ∃ A c, x = .returned (.agg #[.int .i64 n, .int .i64 n, .slice A zs.length c]) ∧ zs.length ≤ c ∧ Own w' w.heap.size 2 .i64 (.slice A zs.length c) zs ∧ Below w.heap.size w w'
set_option maxRecDepth 100000 in
set_option maxHeartbeats 8000000 in
theorem specGrid (n : Nat) (hn1 : 17 ≤ n) (hn : n ≤ 41) (w : World) :
    Calls Tryz.prog 149 #[.int .i64 n] w (NewGr n (gridZ n (n * n)) w) := by
  obtain ⟨w1, hw1⟩ : ∃ w1, w.alloc (.cells #[.int .i64 0, .int .i64 0, .slice none 0 0] 182) = w1 := ⟨_, rfl⟩
  have hs1 : w1.heap.size = w.heap.size + 1 := by rw [← hw1, alloc_size]
  have HR1 := hide (show w1.heap[w.heap.size]? = some (.cells #[.int .i64 0, .int .i64 0, .slice none 0 0] 182 (0, 0)) by rw [← hw1]; exact heap_alloc_new _ _)
  have HB1 := hide (show Below w.heap.size w w1 by rw [← hw1]; exact (Below.refl _ _).alloc (Nat.le_refl _) _)
  have HO0 := hide (Own.lit0 w1 2 .i64)
  have HB0 := hide ((Below.refl w1.heap.size w1).alloc (Nat.le_refl _) (.cells #[] 2))
  have HS1 := hide hs1
  clear hs1
  go_enter Tryz.func149, Tryz.ntmps149
  go_wp2_with fail
  clear hw1
  go_loopw [3, 4] (fun v i wr => GrO w1 n v i wr) (fun _ i _ => n - (intOf i).toNat)
  case atStart => exact ⟨0, by omega, rfl, by rw [Nat.zero_mul]; exact HO0.out, HB0.out⟩
  case round =>
    clear HO0 HB0
    obtain ⟨r, hr, rfl, ho, hb⟩ := hrel
    have HO := hide ho
    have HB := hide hb
    clear ho hb
    obtain ⟨wo, rfl⟩ : ∃ wo : World, wo = wr := ⟨_, rfl⟩
    by_cases hlt : r < n
    · go_wp2_with fail
      go_loopw [3, 5] (fun v i wr => GrI w1 n r v i wr) (fun _ i _ => n - (intOf i).toNat)
      case atStart => exact ⟨0, by omega, rfl, HO.out, HB.out⟩
      case round =>
        clear HO HB
        obtain ⟨c, hc, rfl, ho, hb⟩ := hrel
        have HO := hide ho
        have HB := hide hb
        clear ho hb
        obtain ⟨v, rfl⟩ : ∃ v : Value, v = u3 := ⟨_, rfl⟩
        by_cases hlt2 : c < n
        · have HF := hide (fun w' => specFix n r c hn1 hn hlt hlt2 w')
          have hrc : r * n + c < n * n := by
            have h1 : (r + 1) * n ≤ n * n := Nat.mul_le_mul_right n hlt
            rw [Nat.add_mul] at h1
            omega
          have hnn : n * n ≤ 41 * 41 := Nat.mul_le_mul hn hn
          have HL := hide (show ((gridZ n (r * n + c)).length + 1) * 8 ≤ 140737488355328 by rw [grid_len]; omega)
          have HST := hide (grid_step (n := n) (r := r) hlt2)
          obtain ⟨z, hz⟩ : ∃ z, fixZ n r c = z := ⟨_, rfl⟩
          rw [hz] at HF HST
          clear hz hrc hnn
          obtain ⟨l, hl⟩ : ∃ l, gridZ n (r * n + c) = l := ⟨_, rfl⟩
          rw [hl] at HO HL HST
          clear hl
          obtain ⟨A5, c5, hv, hc5⟩ := HO.out.form
          subst hv
          generalize hln : l.length = ln at *
          clear hc5
          go_wp2_with fail
          refine (HF.out _).mono ?_
          rintro e w2 ⟨rfl, hb2⟩
          have HO2 := hide (HO.out.below hb2 (Nat.le_refl _))
          have HB2 := hide (HB.out.trans (hb2.mono HB.out.size))
          clear hb2
          have hbz : w1.heap.size ≤ w2.heap.size := HB2.out.size
          go_wp2_with (at_builtin; refine wpList_app1 w2 rfl _ _ _ rfl elem64 w1.heap.size (.slice A5 ln c5) _ rfl HO2.out z rfl (by rw [hln]; exact HL.out) hbz ?_; intro v' w' hown hgrow; have HO3 := hide hown; have HB3 := hide (HB2.out.grown hgrow hbz (fun g hg => (HO2.out.lt hg).1)); clear hown hgrow)
          go_roundw
          case rel => exact ⟨c + 1, by omega, by go_num, by rw [HST.out]; exact HO3.out, HB3.out⟩
          case measure => simp [intOf]; omega
        · have HN := hide (show r * n + c = (r + 1) * n by rw [Nat.add_mul]; omega)
          go_wp2_with fail
          go_roundw
          case rel => exact ⟨r + 1, by omega, by go_num, by rw [← HN.out]; exact HO.out, HB.out⟩
          case measure => simp [intOf]; omega
    · obtain rfl : r = n := by omega
      have HR2 := hide (show wo.heap[w.heap.size]? = some (.cells #[.int .i64 0, .int .i64 0, .slice none 0 0] 182 (0, 0)) by rw [HB.out.block _ (by rw [HS1.out]; omega)]; exact HR1.out)
      obtain ⟨A5, c5, hv, hc5⟩ := HO.out.form
      have HLN := hide (grid_len r (r * r))
      obtain ⟨l, hl⟩ : ∃ l, gridZ r (r * r) = l := ⟨_, rfl⟩
      have HLL := hide hl
      rw [hl] at HO HLN hv hc5
      subst hv
      have HC5 := hide hc5
      generalize hln : l.length = ln at *
      have b0 := cell_of_row wo w.heap.size 0 _ _ _ HR2.out
      have b1 := cell_of_row wo w.heap.size 1 _ _ _ HR2.out
      have b2 := cell_of_row wo w.heap.size 2 _ _ _ HR2.out
      have f0 := frozen_of_row wo w.heap.size 0 _ _ HR2.out
      have f1 := frozen_of_row wo w.heap.size 1 _ _ HR2.out
      have f2 := frozen_of_row wo w.heap.size 2 _ _ HR2.out
      have HBB := hide (HB1.out.trans (HB.out.mono (by rw [HS1.out]; omega)))
      have HOO := hide (show ∀ x0 x1 x2, Own (((wo.setCell ⟨w.heap.size, 0, none⟩ x0).setCell ⟨w.heap.size, 1, none⟩ x1).setCell ⟨w.heap.size, 2, none⟩ x2) w.heap.size 2 .i64 (.slice A5 ln c5) l from fun x0 x1 x2 => by
        have h := ((HO.out.set1 (b := w.heap.size) (by rw [HS1.out]; omega) 0 x0).set1 (b := w.heap.size) (by rw [HS1.out]; omega) 1 x1).set1 (b := w.heap.size) (by rw [HS1.out]; omega) 2 x2
        exact own_base h (by rw [HS1.out]; omega))
      clear hl hc5 HR2 HB HO
      go_wp2_with fail
      refine bodyPost_ret (v := .agg #[.int .i64 r, .int .i64 r, .slice A5 ln c5]) (by simp [results, Tryz.results149, go_sem, b0, b1, b2]) rfl ⟨A5, c5, by rw [HLL.out, hln], by rw [HLL.out, hln]; exact HC5.out, by rw [HLL.out, hln]; exact HOO.out _ _ _, ?_⟩
      exact ((HBB.out.setCell (Nat.le_refl _) _).setCell (Nat.le_refl _) _).setCell (Nat.le_refl _) _
end Go.Proofs.YtncgeoliboidhaaGreat
