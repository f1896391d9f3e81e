/-
  The contract of the draw of ContinueSequence: some field, a list and a number, no old memory changed.
  Condition: the code has at most 4096 bytes.
-/
import Derived.Test.YtdniocdmncldjaaRDraw
namespace Go.Proofs.Ytdniocdmncldjaa
open Go.RowKit
set_option linter.unusedSimpArgs false
set_option linter.unusedVariables false

/-- What a draw of a field, a list and a number leaves. -/
def DrawnSx (w : World) (x : Ending) (w' : World) : Prop :=
  ∃ (p k γ y : Int) (zs : List Int) (A1 : Option Addr) (c1 : Nat), x = .returned (.tuple #[.agg #[.int .i64 p, .int .i64 k, .int .i64 γ], .slice A1 zs.length c1, .int .i64 y]) ∧ zs.length ≤ 100 ∧ -10 ≤ y ∧ y ≤ 100 ∧ Ints .i64 w' w'.heap.size A1 zs.length zs ∧ Below w.heap.size w w'
theorem quo29 {x : Int} (h0 : 0 ≤ x) (h1 : x < 30) : ∃ y : Int, 0 ≤ y ∧ y ≤ 1 ∧ IntKind.i64.wrap (x.tdiv 29) = y :=
  ⟨x / 29, by omega, by omega, by rw [Int.tdiv_eq_ediv_of_nonneg h0, IntWalk.i64_in _ ⟨by omega, by omega⟩]⟩
theorem sx_mk {w wr : World} {g Bc n c N : Nat} {A : Option Addr} {code : List Int} {p k γ y : Int} {zs : List Int} {A1 : Option Addr} {c1 b1 : Nat} (h : Dst w g Bc A n c code N p k γ wr) (h1 : Own wr b1 2 .i64 (.slice A1 zs.length c1) zs) (hb1 : w.heap.size < b1) (hl1 : zs.length ≤ 100) (hy0 : -10 ≤ y) (hy1 : y ≤ 100) (a b d : Value) :
    DrawnSx w (.returned (.tuple #[.agg #[.int .i64 p, .int .i64 k, .int .i64 γ], .slice A1 zs.length c1, .int .i64 y])) (((wr.setCell ⟨w.heap.size, 0, none⟩ a).setCell ⟨w.heap.size, 1, none⟩ b).setCell ⟨w.heap.size, 2, none⟩ d) := by
  have hN := h.2.2.2.2
  exact ⟨p, k, γ, y, zs, A1, c1, rfl, hl1, hy0, hy1, (h1.set3 (by omega) a b d).ints, ((h.2.2.2.1.setCell (Nat.le_refl _) _).setCell (Nat.le_refl _) _).setCell (Nat.le_refl _) _⟩

set_option maxRecDepth 100000 in
set_option maxHeartbeats 8000000 in
theorem drawCont (A : Option Addr) (n c : Nat) (code : List Int) (w : World) (hI : Ints .u8 w w.heap.size A n code) (hn : n ≤ 4096) (hby : ∀ b ∈ code, 0 ≤ b ∧ b ≤ 255) :
    Calls Try.prog 11 #[.slice A n c] w (DrawnSx w) := by
  have HI := hide ((hI.below ((Below.refl _ _).alloc (Nat.le_refl _) (.cells #[.int .i64 0, .int .i64 0, .int .i64 0] 25))).more (B' := (w.alloc (.cells #[.int .i64 0, .int .i64 0, .int .i64 0] 25)).heap.size) (by rw [alloc_size]; omega))
  have HBY := hide hby
  have HZ := hide (Zero3.start w)
  clear hI hby
  go_enter Try.func11, Try.ntmps11
  go_wp2_with fail
  refine (from_any A n c code _ HI.out hn HBY.out).mono ?_
  rintro e w1 ⟨rfl, hs, hb⟩
  have HZ1 := hide (HZ.out.below hb)
  have HB1 := hide (((Below.refl w.heap.size w).alloc (Nat.le_refl _) _).trans (hb.mono (by rw [alloc_size]; omega)))
  have hg1 : (w.alloc (.cells #[.int .i64 0, .int .i64 0, .int .i64 0] 25)).heap.size = w.heap.size + 1 := alloc_size _ _
  generalize (w.alloc (.cells #[.int .i64 0, .int .i64 0, .int .i64 0] 25)).heap.size = g at hs hg1 ⊢
  have hgN : w.heap.size < g := by omega
  have HS1 := hide hs
  clear hs hb hg1
  go_wp2_with fail
  refine (drawSeq g _ A n c code _ HS1.out).mono ?_
  rintro e w2 ⟨p, k, γ, zs, A1, c1, rfl, hl, ho, hs, hg⟩
  have HD2 := hide (show Dst w g _ A n c code w2.heap.size p k γ (w2.alloc (.cells #[.int .i64 p, .int .i64 k, .int .i64 γ] 25)) from
    ⟨hs.still (World.grownBy_alloc w2 _ none) (by simp), (HZ1.out.grown hg (by omega)).alloc _, heap_alloc_new w2 _, (below_grown HB1.out hg (by omega)).alloc (Nat.le_of_lt (HZ1.out.grown hg (by omega)).lt) _, hgN, hs.lt⟩)
  have hg2 : g < w2.heap.size := hs.lt
  have HO2 := hide ((ho.low (base' := g + 1) HS1.out.lt).alloc (.cells #[.int .i64 p, .int .i64 k, .int .i64 γ] 25))
  have hzl : zs.length ≤ 100 := hl
  clear hs hg ho hl HZ1 HB1 HS1 HZ HI
  obtain ⟨d0, d1, d2⟩ := cells3 HD2.out.2.2.1
  go_wp2_with fail
  generalize w2.alloc (.cells #[.int .i64 p, .int .i64 k, .int .i64 γ] 25) = ws at HD2 HO2 d0 d1 d2 ⊢
  generalize w2.heap.size = N at hg2 HD2 d0 d1 d2 ⊢
  clear d0 d1 d2
  refine tail_begin (fun w' => w'.cell? ⟨N, 0, none⟩ = some (.int .i64 p) ∧ w'.cell? ⟨N, 1, none⟩ = some (.int .i64 k) ∧ w'.cell? ⟨N, 2, none⟩ = some (.int .i64 γ)) 16 (by kernel_rfl) (by exact cells3 HD2.out.drew.2.2.1) (fun hS' => ?_)
  refine tail_take2 0 rfl (by kernel_rfl) (by kernel_rfl) (by kernel_rfl) (by decide) (fun _ _ _ h => h) (by rfl) (v := ?_) ?_ (by assumption) ?_
  rotate_left 1
  · intro w' hS'; (try dsimp only at hS'); go_simp; try with_reducible rfl
  try simp only [Act.put, List.setIfInBounds_toArray, List.set_cons_zero, List.set_cons_succ]
  refine tail_take2 1 rfl (by kernel_rfl) (by kernel_rfl) (by kernel_rfl) (by decide) (fun _ _ _ h => h) (by rfl) (v := ?_) ?_ (by assumption) ?_
  rotate_left 1
  · intro w' hS'; (try dsimp only at hS'); go_simp; try with_reducible rfl
  try simp only [Act.put, List.setIfInBounds_toArray, List.set_cons_zero, List.set_cons_succ]
  refine tail_take2 2 rfl (by kernel_rfl) (by kernel_rfl) (by kernel_rfl) (by decide) (fun _ _ _ h => h) (by rfl) (v := ?_) ?_ (by assumption) ?_
  rotate_left 1
  · intro w' hS'; (try dsimp only at hS'); go_simp; try with_reducible rfl
  try simp only [Act.put, List.setIfInBounds_toArray, List.set_cons_zero, List.set_cons_succ]
  refine tail_take2 4 rfl (by kernel_rfl) (by kernel_rfl) (by kernel_rfl) (by decide) (fun _ _ _ h => h) (by rfl) (v := ?_) ?_ (by assumption) ?_
  rotate_left 1
  · intro w' hS'; (try dsimp only at hS'); go_simp; try with_reducible rfl
  try simp only [Act.put, List.setIfInBounds_toArray, List.set_cons_zero, List.set_cons_succ]
  refine tail_take2 8 rfl (by kernel_rfl) (by kernel_rfl) (by kernel_rfl) (by decide) (fun _ _ _ h => h) (by rfl) (v := ?_) ?_ (by assumption) ?_
  rotate_left 1
  · intro w' hS'; (try dsimp only at hS'); go_simp; try with_reducible rfl
  try simp only [Act.put, List.setIfInBounds_toArray, List.set_cons_zero, List.set_cons_succ]
  refine tail_call 3 rfl (by kernel_rfl) rfl (fun K hK => ?_)
  go_simp
  go_at_call 33; refine (next_any g _ A n c code 6 _ HD2.out.drew.1 (by omega)).mono ?_; rintro e' w3 ⟨y3, rfl, h03, h13, hs, hg⟩; have HD3 := hide (HD2.out.drew.src hs hg); have HO3 := hide (HO2.out.drew.src hg (Nat.lt_succ_self _)); clear hs hg
  refine hK.out _ _ (by (try dsimp only); exact cells3 HD3.out.2.2.1) (fun hS' => ?_)
  clear hK K
  try simp only [Act.put, List.setIfInBounds_toArray, List.set_cons_zero, List.set_cons_succ]
  refine tail_call 5 rfl (by kernel_rfl) rfl (fun K hK => ?_)
  go_simp
  go_at_call 33; refine (next_any g _ A n c code 30 _ HD3.out.1 (by omega)).mono ?_; rintro e' w4 ⟨y4, rfl, h04, h14, hs, hg⟩; have HD4 := hide (HD3.out.src hs hg); have HO4 := hide (HO3.out.src hg (Nat.lt_succ_self _)); clear hs hg
  refine hK.out _ _ (by (try dsimp only); exact cells3 HD4.out.2.2.1) (fun hS' => ?_)
  clear hK K
  try simp only [Act.put, List.setIfInBounds_toArray, List.set_cons_zero, List.set_cons_succ]
  obtain ⟨q4, q40, q41, q4w⟩ := quo29 (x := y4) h04 (by omega)
  have hw1 : IntKind.i64.wrap (y3 - q4) = y3 - q4 := IntWalk.i64_in _ ⟨by omega, by omega⟩
  refine tail_take2 6 rfl (by kernel_rfl) (by kernel_rfl) (by kernel_rfl) (by decide) (fun _ _ _ h => h) (by rfl) (v := ?_) ?_ (by assumption) ?_
  rotate_left 1
  · intro w' hS'; (try dsimp only at hS'); go_simp; try with_reducible rfl
  try simp only [Act.put, List.setIfInBounds_toArray, List.set_cons_zero, List.set_cons_succ]
  refine tail_take2 7 rfl (by kernel_rfl) (by kernel_rfl) (by kernel_rfl) (by decide) (fun _ _ _ h => h) (by rfl) (v := ?_) ?_ (by assumption) ?_
  rotate_left 1
  · intro w' hS'; (try dsimp only at hS'); go_simp; try with_reducible rfl
  try simp only [Act.put, List.setIfInBounds_toArray, List.set_cons_zero, List.set_cons_succ]
  refine tail_call 9 rfl (by kernel_rfl) rfl (fun K hK => ?_)
  go_simp
  go_at_call 33; refine (next_any g _ A n c code 30 _ HD4.out.1 (by omega)).mono ?_; rintro e' w5 ⟨y5, rfl, h05, h15, hs, hg⟩; have HD5 := hide (HD4.out.src hs hg); have HO5 := hide (HO4.out.src hg (Nat.lt_succ_self _)); clear hs hg
  refine hK.out _ _ (by (try dsimp only); exact cells3 HD5.out.2.2.1) (fun hS' => ?_)
  clear hK K
  try simp only [Act.put, List.setIfInBounds_toArray, List.set_cons_zero, List.set_cons_succ]
  obtain ⟨q5, q50, q51, q5w⟩ := quo29 (x := y5) h05 (by omega)
  have hw2 : IntKind.i64.wrap (q5 * 64) = q5 * 64 := IntWalk.i64_in _ ⟨by omega, by omega⟩
  obtain ⟨x, hx⟩ : ∃ x, y3 - q4 + q5 * 64 = x := ⟨_, rfl⟩
  have hxb : -10 ≤ x ∧ x ≤ 100 := by omega
  have hw3 : IntKind.i64.wrap (y3 - q4 + q5 * 64) = x := by rw [hx]; exact IntWalk.i64_in _ ⟨by omega, by omega⟩
  clear hx
  refine tail_take2 10 rfl (by kernel_rfl) (by kernel_rfl) (by kernel_rfl) (by decide) (fun _ _ _ h => h) (by rfl) (v := ?_) ?_ (by assumption) ?_
  rotate_left 1
  · intro w' hS'; (try dsimp only at hS'); go_simp; try with_reducible rfl
  try simp only [Act.put, List.setIfInBounds_toArray, List.set_cons_zero, List.set_cons_succ]
  refine tail_take2 11 rfl (by kernel_rfl) (by kernel_rfl) (by kernel_rfl) (by decide) (fun _ _ _ h => h) (by rfl) (v := ?_) ?_ (by assumption) ?_
  rotate_left 1
  · intro w' hS'; (try dsimp only at hS'); go_simp; try with_reducible rfl
  try simp only [Act.put, List.setIfInBounds_toArray, List.set_cons_zero, List.set_cons_succ]
  refine tail_take2 12 rfl (by kernel_rfl) (by kernel_rfl) (by kernel_rfl) (by decide) (fun _ _ _ h => h) (by rfl) (v := ?_) ?_ (by assumption) ?_
  rotate_left 1
  · intro w' hS'; (try dsimp only at hS'); go_simp; try with_reducible rfl
  try simp only [Act.put, List.setIfInBounds_toArray, List.set_cons_zero, List.set_cons_succ]
  obtain ⟨c0', c1', c2'⟩ := HD5.out.2.1.cells
  obtain ⟨f0', f1', f2'⟩ := HD5.out.2.1.frozen
  refine tail_call 13 rfl (by kernel_rfl) rfl (fun K hK => ?_)
  go_simp
  have hne : N ≠ w.heap.size := by omega
  have HNX := hide (show (((w5.setCell ⟨w.heap.size, 0, none⟩ (.int .i64 p)).setCell ⟨w.heap.size, 1, none⟩ (.int .i64 k)).setCell ⟨w.heap.size, 2, none⟩ (.int .i64 γ)).heap[N]? = some (.cells #[.int .i64 p, .int .i64 k, .int .i64 γ] 25 (0, 0)) by
    rw [heap_setCell_other _ ⟨w.heap.size, 2, none⟩ N _ hne, heap_setCell_other _ ⟨w.heap.size, 1, none⟩ N _ hne, heap_setCell_other _ ⟨w.heap.size, 0, none⟩ N _ hne]; exact HD5.out.2.2.1)
  refine hK.out _ _ (by (try dsimp only); exact cells3 HNX.out) (fun hS' => ?_)
  clear hK K
  try simp only [Act.put, List.setIfInBounds_toArray, List.set_cons_zero, List.set_cons_succ]
  refine tail_take2 14 rfl (by kernel_rfl) (by kernel_rfl) (by kernel_rfl) (by decide) (fun _ _ _ h => h) (by rfl) (v := ?_) ?_ (by assumption) ?_
  rotate_left 1
  · intro w' hS'; (try dsimp only at hS'); go_simp; try with_reducible rfl
  try simp only [Act.put, List.setIfInBounds_toArray, List.set_cons_zero, List.set_cons_succ]
  refine tail_take2 15 rfl (by kernel_rfl) (by kernel_rfl) (by kernel_rfl) (by decide) (fun _ _ _ h => h) (by rfl) (v := ?_) ?_ (by assumption) ?_
  rotate_left 1
  · intro w' hS'; (try dsimp only at hS'); go_simp; try with_reducible rfl
  try simp only [Act.put, List.setIfInBounds_toArray, List.set_cons_zero, List.set_cons_succ]
  refine tail_end (by kernel_rfl) ?_
  go_wp2_with fail
  refine bodyPost_ret (v := .tuple #[.agg #[.int .i64 p, .int .i64 k, .int .i64 γ], .slice A1 zs.length c1, .int .i64 x]) (by simp [results, Try.results11, go_sem, c0', c1', c2']) rfl ?_
  exact sx_mk HD5.out HO5.out (Nat.lt_succ_of_lt hgN) hzl hxb.1 hxb.2 _ _ _
end Go.Proofs.Ytdniocdmncldjaa
