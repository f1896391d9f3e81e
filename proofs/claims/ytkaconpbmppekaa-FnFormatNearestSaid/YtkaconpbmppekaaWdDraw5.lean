/-
  The draw of a format code and a list.
  Condition: the code has at most 4096 bytes.
-/
import Derived.Test.YtkaconpbmppekaaWdDraw4
namespace Go.Proofs.Ytkaconpbmppekaa
open Go.RowKit
set_option linter.unusedSimpArgs false
set_option linter.unusedVariables false

/-- What a draw of a format code and a list leaves. -/
def DrawnFL (w : World) (x : Ending) (w' : World) : Prop :=
  ∃ (d l p : Int) (za : List Int) (A1 : Option Addr) (c1 : Nat), x = .returned (.tuple #[.agg #[.int .i64 d, .int .i64 l, .int .i64 p], .slice A1 za.length c1]) ∧ (0 ≤ l ∧ l ≤ 1000) ∧
    za.length ≤ 100 ∧ za.length ≤ c1 ∧ Ints .i64 w' w'.heap.size A1 za.length za ∧ Below w.heap.size w w'
set_option maxRecDepth 100000 in
set_option maxHeartbeats 4000000 in
theorem drawNearestFormat (A : Option Addr) (n c : Nat) (code : List Int) (w : World) (hI : Ints .u8 w w.heap.size A n code) (hn : n ≤ 4096) (hby : ∀ b ∈ code, 0 ≤ b ∧ b ≤ 255) :
    Calls Try.prog 26 #[.slice A n c] w (DrawnFL w) := by
  have hws : (w.alloc (.cells #[.int .i64 0, .int .i64 0, .int .i64 0] 25)).heap.size = w.heap.size + 1 := alloc_size _ _
  have HI := hide ((hI.below ((Below.refl _ _).alloc (Nat.le_refl _) (.cells #[.int .i64 0, .int .i64 0, .int .i64 0] 25))).more (show w.heap.size ≤ (w.alloc (.cells #[.int .i64 0, .int .i64 0, .int .i64 0] 25)).heap.size by rw [hws]; omega))
  have HBY := hide hby
  have HZ := hide (Row3.start w 0 0 0)
  have HB0 := hide ((Below.refl w.heap.size w).alloc (Nat.le_refl _) (.cells #[.int .i64 0, .int .i64 0, .int .i64 0] 25))
  clear hI hby
  go_enter Try.func26, Try.ntmps26
  go_wp2_with fail
  refine (from_any A n c code _ HI.out hn HBY).mono ?_
  rintro e w1 ⟨rfl, hs, hb⟩
  rw [hws] at hs hb ⊢
  have HB1 := hide (HB0.out.trans (hb.mono (by omega)))
  have HZ1 := hide (HZ.out.below (hb.mono (by rw [hws]; exact Nat.le_refl _)))
  have hgN : w.heap.size < w.heap.size + 1 := by omega
  generalize w.heap.size + 1 = g at hs hgN ⊢
  have HS1 := hide hs
  clear hs hb
  go_wp2_with fail
  refine (drawFc _ _ A n c code _ HS1.out).mono ?_
  rintro e w2 ⟨d, l, p, rfl, hd, hl, hp, hs, hg⟩
  have hz2 := HZ1.out.grown hg (by omega)
  have HD2 := hide (show Fst w g _ A n c code w2.heap.size d l p (w2.alloc (.cells #[.int .i64 d, .int .i64 l, .int .i64 p] 25)) from
    ⟨hs.still (World.grownBy_alloc w2 _ none) (by simp), hz2.below ((Below.refl _ _).alloc (Nat.le_refl _) _), Row3.start w2 d l p, (wsrc_below HB1.out hg (by omega)).alloc (Nat.le_of_lt hz2.lt) _, hgN, hs.lt⟩)
  clear hs hg HZ1 HB1 HS1 HZ HI hz2
  go_wp2_with fail
  generalize w2.alloc (.cells #[.int .i64 d, .int .i64 l, .int .i64 p] 25) = ws at HD2 ⊢
  generalize w2.heap.size = N at HD2 ⊢
  have hlb : -9223372036854775808 ≤ l := by omega
  have hgw := HD2.out.gN
  obtain ⟨c0, c1, c2⟩ := HD2.out.row.cells
  go_wp2_with fail
  refine tail_begin (fun w' => w'.cell? ⟨N, 0, none⟩ = some (.int .i64 d) ∧ w'.cell? ⟨N, 1, none⟩ = some (.int .i64 l) ∧ w'.cell? ⟨N, 2, none⟩ = some (.int .i64 p)) 8 (by kernel_rfl) HD2.out.row.cells (fun hS' => ?_)
  clear c0 c1 c2
  refine tail_take2 0 rfl (by kernel_rfl) (by kernel_rfl) (by kernel_rfl) (by decide) (fun _ _ _ h => h) (by rfl) (v := ?_) ?_ (by assumption) ?_
  rotate_left 1
  · intro w' hS'; obtain ⟨c0, c1, c2⟩ := hS'; go_simp; try with_reducible rfl
  try simp only [Act.put, List.setIfInBounds_toArray, List.set_cons_zero, List.set_cons_succ]
  refine tail_take2 1 rfl (by kernel_rfl) (by kernel_rfl) (by kernel_rfl) (by decide) (fun _ _ _ h => h) (by rfl) (v := ?_) ?_ (by assumption) ?_
  rotate_left 1
  · intro w' hS'; obtain ⟨c0, c1, c2⟩ := hS'; go_simp; try with_reducible rfl
  try simp only [Act.put, List.setIfInBounds_toArray, List.set_cons_zero, List.set_cons_succ]
  refine tail_take2 2 rfl (by kernel_rfl) (by kernel_rfl) (by kernel_rfl) (by decide) (fun _ _ _ h => h) (by rfl) (v := ?_) ?_ (by assumption) ?_
  rotate_left 1
  · intro w' hS'; obtain ⟨c0, c1, c2⟩ := hS'; go_simp; try with_reducible rfl
  try simp only [Act.put, List.setIfInBounds_toArray, List.set_cons_zero, List.set_cons_succ]
  refine tail_take2 3 rfl (by kernel_rfl) (by kernel_rfl) (by kernel_rfl) (by decide) (fun _ _ _ h => h) (by rfl) (v := ?_) ?_ (by assumption) ?_
  rotate_left 1
  · intro w' hS'; obtain ⟨c0, c1, c2⟩ := hS'; go_simp; try with_reducible rfl
  try simp only [Act.put, List.setIfInBounds_toArray, List.set_cons_zero, List.set_cons_succ]
  refine tail_call 4 rfl (by kernel_rfl) rfl (fun K' hK => ?_)
  go_simp
  go_at_call 43; refine (next_any g _ A n c code 256 _ HD2.out.drew.src (by omega)).mono ?_; rintro e w3 ⟨q, rfl, hq0, hq1, hs, hg⟩; have HD3 := hide (HD2.out.drew.next hs hg); clear hs hg
  refine hK.out _ _ (by (try dsimp only); exact HD3.out.row.cells) (fun hS' => ?_)
  clear hK K'
  try simp only [Act.put, List.setIfInBounds_toArray, List.set_cons_zero, List.set_cons_succ]
  refine tail_call 5 rfl (by kernel_rfl) rfl (fun K' hK => ?_)
  go_simp
  go_at_call 54; refine (drawList g _ A n c code _ HD3.out.src d l p q hlb ⟨by omega, by omega⟩).mono ?_; rintro e w6 ⟨zb, A2, m2, rfl, hlb', ho, hs, hg⟩; have HD6 := hide (HD3.out.next hs hg); have HP6 := hide (ho.low (base' := N + 1) HD3.out.row.lt); clear ho hs hg
  refine hK.out _ _ (by (try dsimp only); exact HD6.out.row.cells) (fun hS' => ?_)
  clear hK K'
  try simp only [Act.put, List.setIfInBounds_toArray, List.set_cons_zero, List.set_cons_succ]
  obtain ⟨z0, z1, z2⟩ := HD6.out.res.cells
  obtain ⟨f0, f1, f2⟩ := HD6.out.res.froz
  have hNw : w.heap.size ≠ N := by have := HD6.out.gN; omega
  have hMN : w.heap.size < N + 1 := by have := HD6.out.gN; omega
  have HZ9 := hide (show Row3 (set3w w6 w.heap.size d l p) w.heap.size d l p from ((HD6.out.res.set0 d).set1 l).set2 p)
  have HL9 := hide (show Row3 (set3w w6 w.heap.size d l p) N d l p from ((HD6.out.row.other hNw 0 _).other hNw 1 _).other hNw 2 _)
  have HB9 := hide (below_set3 HD6.out.bel d l p)
  have HP9 := hide (own_set3 HP6.out hMN d l p)
  have hfold : ((w6.setCell ⟨w.heap.size, 0, none⟩ (.int .i64 d)).setCell ⟨w.heap.size, 1, none⟩ (.int .i64 l)).setCell ⟨w.heap.size, 2, none⟩ (.int .i64 p) = set3w w6 w.heap.size d l p := rfl
  refine tail_call 6 rfl (by kernel_rfl) rfl (fun K' hK => ?_)
  go_simp
  generalize set3w w6 w.heap.size d l p = w9 at HZ9 HL9 HB9 HP9 ⊢
  clear hfold z0 z1 z2 f0 f1 f2
  refine hK.out _ _ (by (try dsimp only); exact HL9.out.cells) (fun hS' => ?_)
  clear hK K'
  try simp only [Act.put, List.setIfInBounds_toArray, List.set_cons_zero, List.set_cons_succ]
  refine tail_take2 7 rfl (by kernel_rfl) (by kernel_rfl) (by kernel_rfl) (by decide) (fun _ _ _ h => h) (by rfl) (v := ?_) ?_ (by assumption) ?_
  rotate_left 1
  · intro w' hS'; obtain ⟨c0, c1, c2⟩ := hS'; go_simp; try with_reducible rfl
  try simp only [Act.put, List.setIfInBounds_toArray, List.set_cons_zero, List.set_cons_succ]
  refine tail_end (by kernel_rfl) ?_
  obtain ⟨y0, y1, y2⟩ := HZ9.out.cells
  go_wp2_with fail
  refine bodyPost_ret (v := .tuple #[.agg #[.int .i64 d, .int .i64 l, .int .i64 p], .slice A2 zb.length m2]) (by simp [results, Try.results26, go_sem, y0, y1, y2]) rfl ?_
  exact ⟨d, l, p, zb, A2, m2, rfl, hl, hlb', cap_le HP9.out, Own.ints HP9.out, HB9.out⟩
end Go.Proofs.Ytkaconpbmppekaa
