/-
  The draw of a format code and two lists.
  Condition: the code has at most 4096 bytes.
-/
import Derived.Test.YtkaconpbmppekaaWdDraw3
namespace Go.Proofs.Ytkaconpbmppekaa
open Go.RowKit
set_option linter.unusedSimpArgs false
set_option linter.unusedVariables false

/-- What a draw of a format code and two lists leaves. -/
def DrawnFLL (w : World) (x : Ending) (w' : World) : Prop :=
  ∃ (d l p : Int) (za zb : List Int) (A1 A2 : Option Addr) (c1 c2 : Nat), x = .returned (.tuple #[.agg #[.int .i64 d, .int .i64 l, .int .i64 p], .slice A1 za.length c1, .slice A2 zb.length c2]) ∧ (0 ≤ l ∧ l ≤ 1000) ∧
    za.length ≤ 100 ∧ zb.length ≤ 100 ∧ za.length ≤ c1 ∧ zb.length ≤ c2 ∧ Ints .i64 w' w'.heap.size A1 za.length za ∧ Ints .i64 w' w'.heap.size A2 zb.length zb ∧ Below w.heap.size w w'
/-- In such a draw. -/
structure Fst (w : World) (g Bc : Nat) (A : Option Addr) (n c : Nat) (code : List Int) (N : Nat) (d l p : Int) (W : World) : Prop where
  src : Src W g Bc A n c code
  res : Row3 W w.heap.size 0 0 0
  row : Row3 W N d l p
  bel : Below w.heap.size w W
  gN : w.heap.size < g ∧ g < N
theorem Fst.next {w W W' : World} {g Bc N n c : Nat} {A : Option Addr} {code : List Int} {d l p : Int} (h : Fst w g Bc A n c code N d l p W) (hs : Src W' g Bc A n c code) (hg : W.grownBy W' (some g)) : Fst w g Bc A n c code N d l p W' := by
  have := h.gN
  exact ⟨hs, h.res.grown hg (by omega), h.row.grown hg (by omega), wsrc_below h.bel hg (by omega), h.gN⟩
theorem Fst.drew {w W : World} {g Bc N n c : Nat} {A : Option Addr} {code : List Int} {d l p : Int} (h : Fst w g Bc A n c code N d l p W) : Fst w g Bc A n c code N d l p W.drew :=
  ⟨h.src, h.res, h.row, ⟨h.bel.os, h.bel.tape, h.bel.output, h.bel.size, h.bel.block⟩, h.gN⟩
theorem own_gap8 {wr : World} {base B : Nat} {v : Value} {zs : List Int} (h : Own wr base 2 .i64 v zs) (hB : B < base) : v.ownBlock = none ∨ v.ownBlock ≠ some B := by
  rcases hv : v.ownBlock with _ | b
  · exact .inl rfl
  · refine .inr fun e => ?_
    injection e with e
    have := (h.lt hv).1
    omega
def set3w (w : World) (M : Nat) (x0 x1 x2 : Int) : World := ((w.setCell ⟨M, 0, none⟩ (.int .i64 x0)).setCell ⟨M, 1, none⟩ (.int .i64 x1)).setCell ⟨M, 2, none⟩ (.int .i64 x2)
theorem own_set3 {wr : World} {base M : Nat} {v : Value} {zs : List Int} (h : Own wr base 2 .i64 v zs) (hM : M < base) (x0 x1 x2 : Int) : Own (set3w wr M x0 x1 x2) base 2 .i64 v zs := by
  have hg : ∀ (w' : World) (j : Nat) (u : Value), Own w' base 2 .i64 v zs → Own (w'.setCell ⟨M, j, none⟩ u) base 2 .i64 v zs := fun w' j u ho => ho.grown (grown_set (World.grownBy.refl w' (some M)) j u) (own_gap8 ho hM)
  unfold set3w
  exact hg _ _ _ (hg _ _ _ (hg _ _ _ h))
theorem below_set3 {w wr : World} (h : Below w.heap.size w wr) (x0 x1 x2 : Int) : Below w.heap.size w (set3w wr w.heap.size x0 x1 x2) := by
  unfold set3w
  exact ((h.setCell (Nat.le_refl _) _).setCell (Nat.le_refl _) _).setCell (Nat.le_refl _) _

theorem cap_le {w : World} {b k m : Nat} {A : Option Addr} {zs : List Int} (h : Own w b 2 .i64 (.slice A k m) zs) : k ≤ m := by
  obtain ⟨A1, c1, he, hc⟩ := h.form
  simp only [Value.slice.injEq] at he
  omega
set_option maxRecDepth 100000 in
set_option maxHeartbeats 4000000 in
theorem drawFormatShare (A : Option Addr) (n c : Nat) (code : List Int) (w : World) (hI : Ints .u8 w w.heap.size A n code) (hn : n ≤ 4096) (hby : ∀ b ∈ code, 0 ≤ b ∧ b ≤ 255) :
    Calls Try.prog 31 #[.slice A n c] w (DrawnFLL w) := by
  have hws : (w.alloc (.cells #[.int .i64 0, .int .i64 0, .int .i64 0] 25)).heap.size = w.heap.size + 1 := alloc_size _ _
  have HI := hide ((hI.below ((Below.refl _ _).alloc (Nat.le_refl _) (.cells #[.int .i64 0, .int .i64 0, .int .i64 0] 25))).more (show w.heap.size ≤ (w.alloc (.cells #[.int .i64 0, .int .i64 0, .int .i64 0] 25)).heap.size by rw [hws]; omega))
  have HBY := hide hby
  have HZ := hide (Row3.start w 0 0 0)
  have HB0 := hide ((Below.refl w.heap.size w).alloc (Nat.le_refl _) (.cells #[.int .i64 0, .int .i64 0, .int .i64 0] 25))
  clear hI hby
  go_enter Try.func31, Try.ntmps31
  go_wp2_with fail
  refine (from_any A n c code _ HI.out hn HBY).mono ?_
  rintro e w1 ⟨rfl, hs, hb⟩
  rw [hws] at hs hb ⊢
  have HB1 := hide (HB0.out.trans (hb.mono (by omega)))
  have HZ1 := hide (HZ.out.below (hb.mono (by rw [hws]; exact Nat.le_refl _)))
  have hgN : w.heap.size < w.heap.size + 1 := by omega
  generalize w.heap.size + 1 = g at hs hgN ⊢
  have HS1 := hide hs
  clear hs hb
  go_wp2_with fail
  refine (drawFc _ _ A n c code _ HS1.out).mono ?_
  rintro e w2 ⟨d, l, p, rfl, hd, hl, hp, hs, hg⟩
  have hz2 := HZ1.out.grown hg (by omega)
  have HD2 := hide (show Fst w g _ A n c code w2.heap.size d l p (w2.alloc (.cells #[.int .i64 d, .int .i64 l, .int .i64 p] 25)) from
    ⟨hs.still (World.grownBy_alloc w2 _ none) (by simp), hz2.below ((Below.refl _ _).alloc (Nat.le_refl _) _), Row3.start w2 d l p, (wsrc_below HB1.out hg (by omega)).alloc (Nat.le_of_lt hz2.lt) _, hgN, hs.lt⟩)
  clear hs hg HZ1 HB1 HS1 HZ HI hz2
  go_wp2_with fail
  generalize w2.alloc (.cells #[.int .i64 d, .int .i64 l, .int .i64 p] 25) = ws at HD2 ⊢
  generalize w2.heap.size = N at HD2 ⊢
  go_wp2_with fail
  refine (next_any g _ A n c code 256 _ HD2.out.src (by omega)).mono ?_
  rintro e w3 ⟨q, rfl, hq0, hq1, hs, hg⟩
  have HD3 := hide (HD2.out.next hs hg)
  clear hs hg
  obtain ⟨c0, c1, c2⟩ := HD3.out.row.cells
  go_wp2_with fail
  refine (drawList g _ A n c code _ HD3.out.src d l p q (by omega) ⟨by omega, by omega⟩).mono ?_
  rintro e w4 ⟨za, A1, m1, rfl, hla, ho, hs, hg⟩
  have HD4 := hide (HD3.out.next hs hg)
  have HO4 := hide (ho.low (base' := N + 1) HD3.out.row.lt)
  clear hs hg ho c0 c1 c2
  go_wp2_with fail
  refine (next_any g _ A n c code 4 _ HD4.out.src (by omega)).mono ?_
  rintro e w5 ⟨r, rfl, hr0, hr1, hs, hg⟩
  have HD5 := hide (HD4.out.next hs hg)
  have HO5 := hide (HO4.out.grown hg (own_gap8 HO4.out (by have := HD4.out.gN; omega)))
  clear hs hg
  have hqb : 0 ≤ q ∧ q ≤ 256 := ⟨hq0, by omega⟩
  have hlb : -9223372036854775808 ≤ l := by omega
  rcases (show r = 0 ∨ r ≠ 0 by omega) with rfl | hr
  · go_wp2_with fail
    refine tail_begin (fun w' => w'.cell? ⟨N, 0, none⟩ = some (.int .i64 d) ∧ w'.cell? ⟨N, 1, none⟩ = some (.int .i64 l) ∧ w'.cell? ⟨N, 2, none⟩ = some (.int .i64 p)) 9 (by kernel_rfl) HD5.out.row.cells (fun hS' => ?_)
    refine tail_take2 0 rfl (by kernel_rfl) (by kernel_rfl) (by kernel_rfl) (by decide) (fun _ _ _ h => h) (by rfl) (v := ?_) ?_ (by assumption) ?_
    rotate_left 1
    · intro w' hS'; obtain ⟨c0, c1, c2⟩ := hS'; go_simp; try with_reducible rfl
    try simp only [Act.put, List.setIfInBounds_toArray, List.set_cons_zero, List.set_cons_succ]
    refine tail_take2 1 rfl (by kernel_rfl) (by kernel_rfl) (by kernel_rfl) (by decide) (fun _ _ _ h => h) (by rfl) (v := ?_) ?_ (by assumption) ?_
    rotate_left 1
    · intro w' hS'; obtain ⟨c0, c1, c2⟩ := hS'; go_simp; try with_reducible rfl
    try simp only [Act.put, List.setIfInBounds_toArray, List.set_cons_zero, List.set_cons_succ]
    refine tail_take2 2 rfl (by kernel_rfl) (by kernel_rfl) (by kernel_rfl) (by decide) (fun _ _ _ h => h) (by rfl) (v := ?_) ?_ (by assumption) ?_
    rotate_left 1
    · intro w' hS'; obtain ⟨c0, c1, c2⟩ := hS'; go_simp; try with_reducible rfl
    try simp only [Act.put, List.setIfInBounds_toArray, List.set_cons_zero, List.set_cons_succ]
    refine tail_take2 3 rfl (by kernel_rfl) (by kernel_rfl) (by kernel_rfl) (by decide) (fun _ _ _ h => h) (by rfl) (v := ?_) ?_ (by assumption) ?_
    rotate_left 1
    · intro w' hS'; obtain ⟨c0, c1, c2⟩ := hS'; go_simp; try with_reducible rfl
    try simp only [Act.put, List.setIfInBounds_toArray, List.set_cons_zero, List.set_cons_succ]
    refine tail_take2 4 rfl (by kernel_rfl) (by kernel_rfl) (by kernel_rfl) (by decide) (fun _ _ _ h => h) (by rfl) (v := ?_) ?_ (by assumption) ?_
    rotate_left 1
    · intro w' hS'; obtain ⟨c0, c1, c2⟩ := hS'; go_simp; try with_reducible rfl
    try simp only [Act.put, List.setIfInBounds_toArray, List.set_cons_zero, List.set_cons_succ]
    refine tail_call 5 rfl (by kernel_rfl) rfl (fun K' hK => ?_)
    go_simp
    go_at_call 54; refine (drawList g _ A n c code _ HD5.out.drew.src d l p (q + 1) hlb ⟨by omega, by omega⟩).mono ?_; rintro e w6 ⟨zb, A2, m2, rfl, hlb', ho, hs, hg⟩; have HD6 := hide (HD5.out.drew.next hs hg); have HP6 := hide (ho.low (base' := N + 1) HD5.out.drew.row.lt); have HO6 := hide (HO5.out.drew.grown hg (own_gap8 HO5.out.drew (by have := HD5.out.gN; omega))); clear ho hs hg
    refine hK.out _ _ (by (try dsimp only); exact HD6.out.row.cells) (fun hS' => ?_)
    clear hK K'
    try simp only [Act.put, List.setIfInBounds_toArray, List.set_cons_zero, List.set_cons_succ]
    obtain ⟨z0, z1, z2⟩ := HD6.out.res.cells
    obtain ⟨f0, f1, f2⟩ := HD6.out.res.froz
    have hNw : w.heap.size ≠ N := by have := HD6.out.gN; omega
    have hMN : w.heap.size < N + 1 := by have := HD6.out.gN; omega
    have HZ9 := hide (show Row3 (set3w w6 w.heap.size d l p) w.heap.size d l p from ((HD6.out.res.set0 d).set1 l).set2 p)
    have HL9 := hide (show Row3 (set3w w6 w.heap.size d l p) N d l p from ((HD6.out.row.other hNw 0 _).other hNw 1 _).other hNw 2 _)
    have HB9 := hide (below_set3 HD6.out.bel d l p)
    have HO9 := hide (own_set3 HO6.out hMN d l p)
    have HP9 := hide (own_set3 HP6.out hMN d l p)
    have hfold : ((w6.setCell ⟨w.heap.size, 0, none⟩ (.int .i64 d)).setCell ⟨w.heap.size, 1, none⟩ (.int .i64 l)).setCell ⟨w.heap.size, 2, none⟩ (.int .i64 p) = set3w w6 w.heap.size d l p := rfl
    refine tail_call 6 rfl (by kernel_rfl) rfl (fun K' hK => ?_)
    go_simp
    generalize set3w w6 w.heap.size d l p = w9 at HZ9 HL9 HB9 HO9 HP9 ⊢
    clear hfold z0 z1 z2 f0 f1 f2
    refine hK.out _ _ (by (try dsimp only); exact HL9.out.cells) (fun hS' => ?_)
    clear hK K'
    try simp only [Act.put, List.setIfInBounds_toArray, List.set_cons_zero, List.set_cons_succ]
    refine tail_take2 7 rfl (by kernel_rfl) (by kernel_rfl) (by kernel_rfl) (by decide) (fun _ _ _ h => h) (by rfl) (v := ?_) ?_ (by assumption) ?_
    rotate_left 1
    · intro w' hS'; obtain ⟨c0, c1, c2⟩ := hS'; go_simp; try with_reducible rfl
    try simp only [Act.put, List.setIfInBounds_toArray, List.set_cons_zero, List.set_cons_succ]
    refine tail_take2 8 rfl (by kernel_rfl) (by kernel_rfl) (by kernel_rfl) (by decide) (fun _ _ _ h => h) (by rfl) (v := ?_) ?_ (by assumption) ?_
    rotate_left 1
    · intro w' hS'; obtain ⟨c0, c1, c2⟩ := hS'; go_simp; try with_reducible rfl
    try simp only [Act.put, List.setIfInBounds_toArray, List.set_cons_zero, List.set_cons_succ]
    refine tail_end (by kernel_rfl) ?_
    obtain ⟨y0, y1, y2⟩ := HZ9.out.cells
    go_wp2_with fail
    refine bodyPost_ret (v := .tuple #[.agg #[.int .i64 d, .int .i64 l, .int .i64 p], .slice A1 za.length m1, .slice A2 zb.length m2]) (by simp [results, Try.results31, go_sem, y0, y1, y2]) rfl ?_
    exact ⟨d, l, p, za, zb, A1, A2, m1, m2, rfl, hl, hla, hlb', cap_le HO9.out, cap_le HP9.out, Own.ints HO9.out, Own.ints HP9.out, HB9.out⟩
  · have e1 : (r == 0) = false := by simpa using hr
    clear hr
    go_wp2_with fail
    refine tail_begin (fun w' => w'.cell? ⟨N, 0, none⟩ = some (.int .i64 d) ∧ w'.cell? ⟨N, 1, none⟩ = some (.int .i64 l) ∧ w'.cell? ⟨N, 2, none⟩ = some (.int .i64 p)) 9 (by kernel_rfl) HD5.out.row.cells (fun hS' => ?_)
    refine tail_take2 0 rfl (by kernel_rfl) (by kernel_rfl) (by kernel_rfl) (by decide) (fun _ _ _ h => h) (by rfl) (v := ?_) ?_ (by assumption) ?_
    rotate_left 1
    · intro w' hS'; obtain ⟨c0, c1, c2⟩ := hS'; go_simp; try with_reducible rfl
    try simp only [Act.put, List.setIfInBounds_toArray, List.set_cons_zero, List.set_cons_succ]
    refine tail_take2 1 rfl (by kernel_rfl) (by kernel_rfl) (by kernel_rfl) (by decide) (fun _ _ _ h => h) (by rfl) (v := ?_) ?_ (by assumption) ?_
    rotate_left 1
    · intro w' hS'; obtain ⟨c0, c1, c2⟩ := hS'; go_simp; try with_reducible rfl
    try simp only [Act.put, List.setIfInBounds_toArray, List.set_cons_zero, List.set_cons_succ]
    refine tail_take2 2 rfl (by kernel_rfl) (by kernel_rfl) (by kernel_rfl) (by decide) (fun _ _ _ h => h) (by rfl) (v := ?_) ?_ (by assumption) ?_
    rotate_left 1
    · intro w' hS'; obtain ⟨c0, c1, c2⟩ := hS'; go_simp; try with_reducible rfl
    try simp only [Act.put, List.setIfInBounds_toArray, List.set_cons_zero, List.set_cons_succ]
    refine tail_take2 3 rfl (by kernel_rfl) (by kernel_rfl) (by kernel_rfl) (by decide) (fun _ _ _ h => h) (by rfl) (v := ?_) ?_ (by assumption) ?_
    rotate_left 1
    · intro w' hS'; obtain ⟨c0, c1, c2⟩ := hS'; go_simp; try with_reducible rfl
    try simp only [Act.put, List.setIfInBounds_toArray, List.set_cons_zero, List.set_cons_succ]
    refine tail_take2 4 rfl (by kernel_rfl) (by kernel_rfl) (by kernel_rfl) (by decide) (fun _ _ _ h => h) (by rfl) (v := ?_) ?_ (by assumption) ?_
    rotate_left 1
    · intro w' hS'; obtain ⟨c0, c1, c2⟩ := hS'; go_simp; try with_reducible rfl
    try simp only [Act.put, List.setIfInBounds_toArray, List.set_cons_zero, List.set_cons_succ]
    refine tail_call 5 rfl (by kernel_rfl) rfl (fun K' hK => ?_)
    go_simp
    go_at_call 54; refine (drawList g _ A n c code _ HD5.out.drew.src d l p q hlb ⟨by omega, by omega⟩).mono ?_; rintro e w6 ⟨zb, A2, m2, rfl, hlb', ho, hs, hg⟩; have HD6 := hide (HD5.out.drew.next hs hg); have HP6 := hide (ho.low (base' := N + 1) HD5.out.drew.row.lt); have HO6 := hide (HO5.out.drew.grown hg (own_gap8 HO5.out.drew (by have := HD5.out.gN; omega))); clear ho hs hg
    refine hK.out _ _ (by (try dsimp only); exact HD6.out.row.cells) (fun hS' => ?_)
    clear hK K'
    try simp only [Act.put, List.setIfInBounds_toArray, List.set_cons_zero, List.set_cons_succ]
    obtain ⟨z0, z1, z2⟩ := HD6.out.res.cells
    obtain ⟨f0, f1, f2⟩ := HD6.out.res.froz
    have hNw : w.heap.size ≠ N := by have := HD6.out.gN; omega
    have hMN : w.heap.size < N + 1 := by have := HD6.out.gN; omega
    have HZ9 := hide (show Row3 (set3w w6 w.heap.size d l p) w.heap.size d l p from ((HD6.out.res.set0 d).set1 l).set2 p)
    have HL9 := hide (show Row3 (set3w w6 w.heap.size d l p) N d l p from ((HD6.out.row.other hNw 0 _).other hNw 1 _).other hNw 2 _)
    have HB9 := hide (below_set3 HD6.out.bel d l p)
    have HO9 := hide (own_set3 HO6.out hMN d l p)
    have HP9 := hide (own_set3 HP6.out hMN d l p)
    have hfold : ((w6.setCell ⟨w.heap.size, 0, none⟩ (.int .i64 d)).setCell ⟨w.heap.size, 1, none⟩ (.int .i64 l)).setCell ⟨w.heap.size, 2, none⟩ (.int .i64 p) = set3w w6 w.heap.size d l p := rfl
    refine tail_call 6 rfl (by kernel_rfl) rfl (fun K' hK => ?_)
    go_simp
    generalize set3w w6 w.heap.size d l p = w9 at HZ9 HL9 HB9 HO9 HP9 ⊢
    clear hfold z0 z1 z2 f0 f1 f2
    refine hK.out _ _ (by (try dsimp only); exact HL9.out.cells) (fun hS' => ?_)
    clear hK K'
    try simp only [Act.put, List.setIfInBounds_toArray, List.set_cons_zero, List.set_cons_succ]
    refine tail_take2 7 rfl (by kernel_rfl) (by kernel_rfl) (by kernel_rfl) (by decide) (fun _ _ _ h => h) (by rfl) (v := ?_) ?_ (by assumption) ?_
    rotate_left 1
    · intro w' hS'; obtain ⟨c0, c1, c2⟩ := hS'; go_simp; try with_reducible rfl
    try simp only [Act.put, List.setIfInBounds_toArray, List.set_cons_zero, List.set_cons_succ]
    refine tail_take2 8 rfl (by kernel_rfl) (by kernel_rfl) (by kernel_rfl) (by decide) (fun _ _ _ h => h) (by rfl) (v := ?_) ?_ (by assumption) ?_
    rotate_left 1
    · intro w' hS'; obtain ⟨c0, c1, c2⟩ := hS'; go_simp; try with_reducible rfl
    try simp only [Act.put, List.setIfInBounds_toArray, List.set_cons_zero, List.set_cons_succ]
    refine tail_end (by kernel_rfl) ?_
    obtain ⟨y0, y1, y2⟩ := HZ9.out.cells
    go_wp2_with fail
    refine bodyPost_ret (v := .tuple #[.agg #[.int .i64 d, .int .i64 l, .int .i64 p], .slice A1 za.length m1, .slice A2 zb.length m2]) (by simp [results, Try.results31, go_sem, y0, y1, y2]) rfl ?_
    exact ⟨d, l, p, za, zb, A1, A2, m1, m2, rfl, hl, hla, hlb', cap_le HO9.out, cap_le HP9.out, Own.ints HO9.out, Own.ints HP9.out, HB9.out⟩
end Go.Proofs.Ytkaconpbmppekaa
