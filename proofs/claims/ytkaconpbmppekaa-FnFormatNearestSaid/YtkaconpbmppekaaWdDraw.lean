/-
  The draws of a format code and a number: what is drawn lies in its bounds, and only the source's own block changes.
  Condition: the code has at most 4096 bytes.
-/
import Derived.Test.YtkaconpbmppekaaFnExactStandardFormatWalk
import Derived.Test.YtkaconpbmppekaaDraw
import Derived.Test.YtkaconpbmppekaaTail2
namespace Go.Proofs.Ytkaconpbmppekaa
open Go.RowKit
set_option linter.unusedSimpArgs false
set_option linter.unusedVariables false

theorem wset_src {w : World} {g Bc N : Nat} {A : Option Addr} {n c : Nat} {code : List Int} (h : Src w g Bc A n c code) (hN : g < N) (i : Nat) (a : Value) : Src (w.setCell ⟨N, i, none⟩ a) g Bc A n c code :=
  h.still (row := some N) (grown_set (World.grownBy.refl _ _) i _) (fun r hr => by injection hr; omega)
theorem wset_grown {a w : World} {row : Option Nat} (h : a.grownBy w row) (b o : Nat) (v : Value) (hb : a.heap.size ≤ b) : a.grownBy (w.setCell ⟨b, o, none⟩ v) row :=
  ⟨h.os, h.tape, h.output, by have := h.size; simp [World.setCell]; exact this, fun i hi hne => (Below.heap_setCell w ⟨b, o, none⟩ v i (by simp; omega)).trans (h.block i hi hne)⟩
theorem walloc_grown {a w : World} {row : Option Nat} (h : a.grownBy w row) (o : Obj) : a.grownBy (w.alloc o) row := grown_trans h (World.grownBy_alloc w o row)
theorem wbelow_grown {a w w' : World} {row : Option Nat} (h : a.grownBy w row) (hb : Below w.heap.size w w') : a.grownBy w' row :=
  ⟨hb.os.trans h.os, hb.tape.trans h.tape, hb.output.trans h.output, Nat.le_trans h.size hb.size, fun i hi hne => (hb.block i (Nat.lt_of_lt_of_le hi h.size)).trans (h.block i hi hne)⟩
/-- Three numbers in a block. -/
def Row3 (W : World) (N : Nat) (d l p : Int) : Prop := W.heap[N]? = some (.cells #[.int .i64 d, .int .i64 l, .int .i64 p] 25 (0, 0))
theorem Row3.cells {W : World} {N : Nat} {d l p : Int} (h : Row3 W N d l p) : W.cell? ⟨N, 0, none⟩ = some (.int .i64 d) ∧ W.cell? ⟨N, 1, none⟩ = some (.int .i64 l) ∧ W.cell? ⟨N, 2, none⟩ = some (.int .i64 p) := cells3 h
theorem Row3.froz {W : World} {N : Nat} {d l p : Int} (h : Row3 W N d l p) : W.frozen? ⟨N, 0, none⟩ = false ∧ W.frozen? ⟨N, 1, none⟩ = false ∧ W.frozen? ⟨N, 2, none⟩ = false := ⟨frozen_of_row W N 0 _ _ h, frozen_of_row W N 1 _ _ h, frozen_of_row W N 2 _ _ h⟩
theorem Row3.lt {W : World} {N : Nat} {d l p : Int} (h : Row3 W N d l p) : N < W.heap.size := (Array.getElem?_eq_some_iff.1 h).1
theorem Row3.grown {W W' : World} {N g : Nat} {d l p : Int} (h : Row3 W N d l p) (hg : W.grownBy W' (some g)) (hne : g ≠ N) : Row3 W' N d l p := by
  unfold Row3; rw [hg.block N h.lt (fun e => hne (by injection e with e; exact e.symm))]; exact h
theorem Row3.below {W W' : World} {N : Nat} {d l p : Int} (h : Row3 W N d l p) (hb : Below W.heap.size W W') : Row3 W' N d l p := by
  unfold Row3; rw [hb.block N h.lt]; exact h
theorem Row3.start (w : World) (d l p : Int) : Row3 (w.alloc (.cells #[.int .i64 d, .int .i64 l, .int .i64 p] 25)) w.heap.size d l p := heap_alloc_new w _
theorem Row3.set0 {W : World} {N : Nat} {d l p : Int} (h : Row3 W N d l p) (x : Int) : Row3 (W.setCell ⟨N, 0, none⟩ (.int .i64 x)) N x l p := heap_setCell_same _ N 0 _ _ _ h
theorem Row3.set1 {W : World} {N : Nat} {d l p : Int} (h : Row3 W N d l p) (x : Int) : Row3 (W.setCell ⟨N, 1, none⟩ (.int .i64 x)) N d x p := heap_setCell_same _ N 1 _ _ _ h
theorem Row3.set2 {W : World} {N : Nat} {d l p : Int} (h : Row3 W N d l p) (x : Int) : Row3 (W.setCell ⟨N, 2, none⟩ (.int .i64 x)) N d l x := heap_setCell_same _ N 2 _ _ _ h
theorem Row3.other {W : World} {N M : Nat} {d l p : Int} (h : Row3 W N d l p) (hne : M ≠ N) (i : Nat) (v : Value) : Row3 (W.setCell ⟨M, i, none⟩ v) N d l p := by
  unfold Row3; rw [Below.heap_setCell W ⟨M, i, none⟩ v N (fun e => hne (Eq.symm (show N = M by simpa using e)))]; exact h

/-- In a draw of a format code: the source, the result that is still zero, the code in the block M. -/
structure Fds (g Bc : Nat) (A : Option Addr) (n c : Nat) (code : List Int) (w W : World) (M : Nat) (d l p : Int) : Prop where
  src : Src W g Bc A n c code
  res : Row3 W w.heap.size 0 0 0
  gro : w.grownBy W (some g)
  row : Row3 W M d l p
  hM : w.heap.size < M
section
variable {g Bc : Nat} {A : Option Addr} {n c : Nat} {code : List Int} {w W W' : World} {M : Nat} {d l p : Int}
theorem Fds.next (h : Fds g Bc A n c code w W M d l p) (hgw : g < w.heap.size) (hs : Src W' g Bc A n c code) (hg : W.grownBy W' (some g)) : Fds g Bc A n c code w W' M d l p :=
  ⟨hs, h.res.grown hg (by omega), grown_trans h.gro hg, h.row.grown hg (by have := h.hM; omega), h.hM⟩
theorem Fds.below (h : Fds g Bc A n c code w W M d l p) (hb : Below W.heap.size W W') : Fds g Bc A n c code w W' M d l p :=
  ⟨h.src.below hb h.src.lt, h.res.below hb, wbelow_grown h.gro hb, h.row.below hb, h.hM⟩
theorem Fds.alloc (h : Fds g Bc A n c code w W M d l p) (o : Obj) : Fds g Bc A n c code w (W.alloc o) M d l p := h.below ((Below.refl _ _).alloc (Nat.le_refl _) o)
theorem Fds.drew (h : Fds g Bc A n c code w W M d l p) : Fds g Bc A n c code w W.drew M d l p := ⟨h.src, h.res, grown_drewN h.gro 1, h.row, h.hM⟩
theorem Fds.set0 (h : Fds g Bc A n c code w W M d l p) (hgw : g < w.heap.size) (x : Int) : Fds g Bc A n c code w (W.setCell ⟨M, 0, none⟩ (.int .i64 x)) M x l p :=
  ⟨wset_src h.src (by have := h.hM; omega) _ _, h.res.other (by have := h.hM; omega) _ _, wset_grown h.gro _ _ _ (by have := h.hM; omega), h.row.set0 x, h.hM⟩
theorem Fds.set1 (h : Fds g Bc A n c code w W M d l p) (hgw : g < w.heap.size) (x : Int) : Fds g Bc A n c code w (W.setCell ⟨M, 1, none⟩ (.int .i64 x)) M d x p :=
  ⟨wset_src h.src (by have := h.hM; omega) _ _, h.res.other (by have := h.hM; omega) _ _, wset_grown h.gro _ _ _ (by have := h.hM; omega), h.row.set1 x, h.hM⟩
theorem Fds.set2 (h : Fds g Bc A n c code w W M d l p) (hgw : g < w.heap.size) (x : Int) : Fds g Bc A n c code w (W.setCell ⟨M, 2, none⟩ (.int .i64 x)) M d l x :=
  ⟨wset_src h.src (by have := h.hM; omega) _ _, h.res.other (by have := h.hM; omega) _ _, wset_grown h.gro _ _ _ (by have := h.hM; omega), h.row.set2 x, h.hM⟩
end
/-- What a draw of a format code leaves. -/
def DrawnW3 (g Bc : Nat) (A : Option Addr) (n c : Nat) (code : List Int) (w : World) (x : Ending) (w' : World) : Prop :=
  ∃ d l p : Int, x = .returned (.agg #[.int .i64 d, .int .i64 l, .int .i64 p]) ∧ (0 ≤ d ∧ d ≤ 1000) ∧ (0 ≤ l ∧ l ≤ 1000) ∧ (0 ≤ p ∧ p ≤ 1099511627776) ∧ Src w' g Bc A n c code ∧ w.grownBy w' (some g)
theorem drawnW3_mk {g Bc : Nat} {A : Option Addr} {n c : Nat} {code : List Int} {w W : World} {d l p : Int} (hs : Src W g Bc A n c code) (hg : w.grownBy W (some g)) (hgw : g < w.heap.size) (hd : 0 ≤ d ∧ d ≤ 1000) (hl : 0 ≤ l ∧ l ≤ 1000) (hp : 0 ≤ p ∧ p ≤ 1099511627776) :
    DrawnW3 g Bc A n c code w (.returned (.agg #[.int .i64 d, .int .i64 l, .int .i64 p])) (((W.setCell ⟨w.heap.size, 0, none⟩ (.int .i64 d)).setCell ⟨w.heap.size, 1, none⟩ (.int .i64 l)).setCell ⟨w.heap.size, 2, none⟩ (.int .i64 p)) :=
  ⟨d, l, p, rfl, hd, hl, hp, wset_src (wset_src (wset_src hs hgw _ _) hgw _ _) hgw _ _, wset_grown (wset_grown (wset_grown hg _ _ _ (Nat.le_refl _)) _ _ _ (Nat.le_refl _)) _ _ _ (Nat.le_refl _)⟩

set_option maxRecDepth 100000 in
set_option maxHeartbeats 16000000 in
theorem drawFc (g Bc : Nat) (A : Option Addr) (n c : Nat) (code : List Int) (w : World) (hS : Src w g Bc A n c code) :
    Calls Try.prog 42 #[.pointer (some ⟨g, 0, none⟩)] w (DrawnW3 g Bc A n c code w) := by
  have hgw := hS.lt
  have HS := hide (hS.still (World.grownBy_alloc w (.cells #[.int .i64 0, .int .i64 0, .int .i64 0] 25) none) (by simp))
  have HZ := hide (Row3.start w 0 0 0)
  have HG := hide (World.grownBy_alloc w (.cells #[.int .i64 0, .int .i64 0, .int .i64 0] 25) (some g))
  have hws : (w.alloc (.cells #[.int .i64 0, .int .i64 0, .int .i64 0] 25)).heap.size = w.heap.size + 1 := alloc_size _ _
  clear hS
  go_enter Try.func42, Try.ntmps42
  go_wp2_with fail
  refine (next_any g Bc A n c code 2 _ HS.out (by omega)).mono ?_
  rintro e w1 ⟨y, rfl, hy0, hy1, hs, hg⟩
  have HS1 := hide hs
  have HZ1 := hide (HZ.out.grown hg (by omega))
  have HG1 := hide (grown_trans HG.out hg)
  have hs1 : w.heap.size + 1 ≤ w1.heap.size := by have := hg.size; omega
  clear hs hg
  by_cases h0 : y = 0
  · subst h0
    go_wp2_with fail
    refine (specStandard _).mono ?_
    rintro e w2 ⟨rfl, hb⟩
    have HS2 := hide (HS1.out.below hb HS1.out.lt)
    have HZ2 := hide (HZ1.out.below hb)
    have HG2 := hide (wbelow_grown HG1.out hb)
    clear hb
    have hzl := HZ2.out.lt
    obtain ⟨z0, z1, z2⟩ := HZ2.out.cells
    obtain ⟨f0, f1, f2⟩ := HZ2.out.froz
    go_wp2_with fail
    refine bodyPost_ret (v := .agg #[.int .i64 5, .int .i64 15, .int .i64 1335]) (by simp [results, Try.results42, go_sem, z0, z1, z2, hzl]) rfl (drawnW3_mk HS2.out HG2.out hgw (by omega) (by omega) (by omega))
  · have e0 : (y == 0) = false := by simpa using h0
    clear h0
    go_wp2_with fail
    refine (next_any g Bc A n c code 5 _ HS1.out (by omega)).mono ?_
    rintro e w2 ⟨r, rfl, hr0, hr1, hs, hg⟩
    obtain ⟨d, hd⟩ : ∃ d : Nat, (d : Int) = 1 + r := ⟨(1 + r).toNat, by omega⟩
    have hd5 : d ≤ 5 := by omega
    have hd1 : 1 ≤ d := by omega
    have hd2 : 1 + r = (d : Int) := hd.symm
    have HF2 := hide (show Fds g Bc A n c code w (w2.alloc (.cells #[.int .i64 d, .int .i64 0, .int .i64 0] 25)) w2.heap.size d 0 0 from
      ⟨hs.still (World.grownBy_alloc _ _ none) (by simp), (HZ1.out.grown hg (by omega)).below ((Below.refl _ _).alloc (Nat.le_refl _) _), walloc_grown (grown_trans HG1.out hg) _, Row3.start w2 d 0 0, by have := hg.size; omega⟩)
    clear hs hg hd
    obtain ⟨M, hM⟩ : ∃ M, w2.heap.size = M := ⟨_, rfl⟩
    have HMM := hide hM
    rw [hM] at HF2
    go_wp2_with fail
    obtain ⟨W2, hW2⟩ : ∃ W2, w2.alloc (.cells #[.int .i64 d, .int .i64 0, .int .i64 0] 25) = W2 := ⟨_, rfl⟩
    rw [hW2] at HF2 ⊢
    clear hM hW2 hr0 hr1 hd2
    obtain ⟨c0, c1, c2⟩ := HF2.out.row.cells
    obtain ⟨f0, f1, f2⟩ := HF2.out.row.froz
    obtain ⟨d', hd'⟩ : ∃ d' : Nat, (d : Int) + 1 = (d' : Int) := ⟨d + 1, by omega⟩
    have hdd6 : d' ≤ 6 := by omega
    have hwd : IntKind.i64.wrap (d' : Int) = (d' : Int) := IntWalk.i64_in _ ⟨by omega, by omega⟩
    refine tail_begin (fun w' => Row3 w' M d 0 0) 7 (by kernel_rfl) HF2.out.row (fun hS' => ?_)
    clear c0 c1 c2 f0 f1 f2
    refine tail_take 0 rfl (by kernel_rfl) (by kernel_rfl) (by kernel_rfl) (by kernel_rfl) (fun _ _ _ h => h) (by rfl) (v := ?_) ?_ (by assumption) ?_
    rotate_left 1
    · intro w' hS'; obtain ⟨c0, c1, c2⟩ := Row3.cells hS'; obtain ⟨f0, f1, f2⟩ := Row3.froz hS'; go_simp; try with_reducible rfl
    try simp only [Act.put, List.setIfInBounds_toArray, List.set_cons_zero, List.set_cons_succ]
    refine tail_take 1 rfl (by kernel_rfl) (by kernel_rfl) (by kernel_rfl) (by kernel_rfl) (fun _ _ _ h => h) (by rfl) (v := ?_) ?_ (by assumption) ?_
    rotate_left 1
    · intro w' hS'; obtain ⟨c0, c1, c2⟩ := Row3.cells hS'; obtain ⟨f0, f1, f2⟩ := Row3.froz hS'; go_simp; try with_reducible rfl
    try simp only [Act.put, List.setIfInBounds_toArray, List.set_cons_zero, List.set_cons_succ]
    refine tail_take 2 rfl (by kernel_rfl) (by kernel_rfl) (by kernel_rfl) (by kernel_rfl) (fun _ _ _ h => h) (by rfl) (v := ?_) ?_ (by assumption) ?_
    rotate_left 1
    · intro w' hS'; obtain ⟨c0, c1, c2⟩ := Row3.cells hS'; obtain ⟨f0, f1, f2⟩ := Row3.froz hS'; go_simp; try with_reducible rfl
    try simp only [Act.put, List.setIfInBounds_toArray, List.set_cons_zero, List.set_cons_succ]
    refine tail_take 3 rfl (by kernel_rfl) (by kernel_rfl) (by kernel_rfl) (by kernel_rfl) (fun _ _ _ h => h) (by rfl) (v := ?_) ?_ (by assumption) ?_
    rotate_left 1
    · intro w' hS'; obtain ⟨c0, c1, c2⟩ := Row3.cells hS'; obtain ⟨f0, f1, f2⟩ := Row3.froz hS'; go_simp; try with_reducible rfl
    try simp only [Act.put, List.setIfInBounds_toArray, List.set_cons_zero, List.set_cons_succ]
    refine tail_call 4 rfl (by kernel_rfl) rfl (fun K hK => ?_)
    go_simp
    go_at_call 43; refine (next_any g Bc A n c code 10 _ HF2.out.drew.src (by omega)).mono ?_; rintro e w3 ⟨q, rfl, hq0, hq1, hs, hg⟩; have HF3 := hide (HF2.out.drew.next hgw hs hg); clear hs hg
    refine hK.out _ _ (by (try dsimp only); exact HF3.out.row) (fun hS' => ?_)
    clear hK K
    try simp only [Act.put, List.setIfInBounds_toArray, List.set_cons_zero, List.set_cons_succ]
    obtain ⟨l, hl⟩ : ∃ l : Nat, (d' : Int) + q = (l : Int) := ⟨((d' : Int) + q).toNat, by omega⟩
    have hl1 : d + 1 ≤ l := by omega
    have hl2 : l ≤ d + 10 := by omega
    have hwl : IntKind.i64.wrap ((d' : Int) + q) = (l : Int) := by rw [IntWalk.i64_in _ ⟨by omega, by omega⟩]; omega
    refine tail_take 5 rfl (by kernel_rfl) (by kernel_rfl) (by kernel_rfl) (by kernel_rfl) (fun _ _ _ h => h) (by rfl) (v := ?_) ?_ (by assumption) ?_
    rotate_left 1
    · intro w' hS'; obtain ⟨c0, c1, c2⟩ := Row3.cells hS'; obtain ⟨f0, f1, f2⟩ := Row3.froz hS'; go_simp; try with_reducible rfl
    try simp only [Act.put, List.setIfInBounds_toArray, List.set_cons_zero, List.set_cons_succ]
    refine tail_take 6 rfl (by kernel_rfl) (by kernel_rfl) (by kernel_rfl) (by kernel_rfl) (fun _ _ _ h => h) (by rfl) (v := ?_) ?_ (by assumption) ?_
    rotate_left 1
    · intro w' hS'; obtain ⟨c0, c1, c2⟩ := Row3.cells hS'; obtain ⟨f0, f1, f2⟩ := Row3.froz hS'; go_simp; try with_reducible rfl
    try simp only [Act.put, List.setIfInBounds_toArray, List.set_cons_zero, List.set_cons_succ]
    obtain ⟨c0, c1, c2⟩ := HF3.out.row.cells
    obtain ⟨f0, f1, f2⟩ := HF3.out.row.froz
    refine tail_last 7 rfl (by kernel_rfl) (by kernel_rfl) rfl rfl (fun K hK => ?_)
    go_simp
    refine hK.out _ _ ?_
    clear hK K
    try simp only [Act.put, List.setIfInBounds_toArray, List.set_cons_zero, List.set_cons_succ]
    have HF4 := hide (HF3.out.set1 hgw (l : Int))
    clear c0 c1 c2 f0 f1 f2 hS'
    obtain ⟨c0, c1, c2⟩ := HF4.out.row.cells
    obtain ⟨f0, f1, f2⟩ := HF4.out.row.froz
    obtain ⟨K, hK⟩ : ∃ K : Nat, (l : Int) - (d : Int) = (K : Int) := ⟨l - d, by omega⟩
    have hK10 : K ≤ 10 := by omega
    have hcv : IntKind.u64.wrap (K : Int) = (K : Int) := by rw [IntKind.wrap_u64]; omega
    obtain ⟨pw, hpw, he, hp1, hp2⟩ := pow_fits K (by omega)
    have hp3 : pw ≤ 1024 := by
      rw [he]
      exact (by exact_mod_cast (Nat.pow_le_pow_right (n := 2) (by decide) hK10 : 2 ^ K ≤ 2 ^ 10))
    clear he hwl hwd hd' hl
    go_wp2_with fail
    refine (next_any g Bc A n c code pw _ HF4.out.src (by omega)).mono ?_
    rintro e w4 ⟨q2, rfl, hq20, hq21, hs, hg⟩
    have HF5 := hide (HF4.out.next hgw hs hg)
    clear hs hg c0 c1 c2 f0 f1 f2
    obtain ⟨c0, c1, c2⟩ := HF5.out.row.cells
    obtain ⟨f0, f1, f2⟩ := HF5.out.row.froz
    obtain ⟨p, hp⟩ : ∃ p : Nat, pw + q2 = (p : Int) := ⟨(pw + q2).toNat, by omega⟩
    have hp4 : p ≤ 4000 := by omega
    have hwp : IntKind.i64.wrap (p : Int) = (p : Int) := IntWalk.i64_in _ ⟨by omega, by omega⟩
    have HF6 := hide (HF5.out.set2 hgw (p : Int))
    have hdl9 : d ≤ 9 := by omega
    have hl15 : l ≤ 15 := by omega
    go_wp2_with fail
    refine (next_any g Bc A n c code 4 _ HF6.out.src (by omega)).mono ?_
    rintro e w5 ⟨q3, rfl, hq30, hq31, hs, hg⟩
    have HF7 := hide (HF6.out.next hgw hs hg)
    clear hs hg c0 c1 c2 f0 f1 f2
    obtain ⟨c0, c1, c2⟩ := HF7.out.row.cells
    obtain ⟨f0, f1, f2⟩ := HF7.out.row.froz
    clear HF2 HF3 HF4 HF5 HF6 hpw hp hwp hcv hK
    have hMne : M ≠ w.heap.size := by have := HF7.out.hM; omega
    have hMne' : w.heap.size ≠ M := fun e => hMne e.symm
    rcases (show 0 < q3 ∨ ¬ 0 < q3 by omega) with h4 | h4
    case' inl =>
      have hor : bits .or .i64 (p : Int) 1 = ((p ||| 1 : Nat) : Int) := orI p 1 (by omega) (by omega)
      obtain ⟨p', hp'⟩ : ∃ p', p ||| 1 = p' := ⟨_, rfl⟩
      have hp8 : p' ≤ 5000 := by
        have := Nat.or_lt_two_pow (show p < 2 ^ 12 by omega) (show 1 < 2 ^ 12 by omega)
        rw [hp'] at this; omega
      rw [hp'] at hor
      have HF8 := hide (HF7.out.set2 hgw (p' : Int))
      clear hp'
    case' inr =>
      have hgt : decide ((0 : Int) < q3) = false := by simpa using h4
      obtain ⟨p', hp'⟩ : ∃ p' : Nat, p = p' := ⟨_, rfl⟩
      have hp8 : p' ≤ 5000 := by omega
      rw [hp'] at c2
      have HF8 := hide HF7.out
      rw [hp'] at HF8
      clear hp'
    all_goals
      go_wp2_with fail
      refine (next_any g Bc A n c code 24 _ HF8.out.src (by omega)).mono ?_
      rintro e w6 ⟨sw, rfl, hsw0, hsw1, hs, hg⟩
      have HF9 := hide (HF8.out.next hgw hs hg)
      clear hs hg c0 c1 c2 f0 f1 f2 HF7 HF8
      obtain ⟨c0, c1, c2⟩ := HF9.out.row.cells
      obtain ⟨f0, f1, f2⟩ := HF9.out.row.froz
      obtain ⟨z0, z1, z2⟩ := HF9.out.res.cells
      obtain ⟨g0, g1, g2⟩ := HF9.out.res.froz
      have hzl := HF9.out.res.lt
      rcases (show sw = 0 ∨ sw = 1 ∨ sw = 2 ∨ (sw ≠ 0 ∧ sw ≠ 1 ∧ sw ≠ 2) by omega) with rfl | rfl | rfl | ⟨n0, n1, n2⟩
      · clear c0 c1 c2 f0 f1 f2 z0 z1 z2 g0 g1 g2 hzl
        go_wp2_with fail
        refine (next_any g Bc A n c code 3 _ (HF9.out.alloc (.cells #[.int .i64 0, .int .i64 8, .int .i64 9] 2)).src (by omega)).mono ?_
        rintro e w7 ⟨r7, rfl, h70, h71, hs, hg⟩
        obtain ⟨r7, rfl⟩ : ∃ m : Nat, r7 = m := ⟨r7.toNat, by omega⟩
        have hr3 : (r7 : Int) < 3 := by omega
        obtain ⟨x, hx, hxb⟩ : ∃ x, w7.cell? ⟨w6.heap.size, r7, none⟩ = some (.int .i64 x) ∧ 0 ≤ x ∧ x ≤ 9 := by
          rw [grown_cell hg (by simp) (fun h => by simp at h; have := HF9.out.src.lt; omega), World.cell?_alloc_at _ _ _ _ rfl]
          rcases (show r7 = 0 ∨ r7 = 1 ∨ r7 = 2 by omega) with rfl | rfl | rfl <;> exact ⟨_, rfl, by omega⟩
        have HFA := hide ((HF9.out.alloc (.cells #[.int .i64 0, .int .i64 8, .int .i64 9] 2)).next hgw hs hg)
        clear hs hg
        obtain ⟨c0, c1, c2⟩ := HFA.out.row.cells
        obtain ⟨f0, f1, f2⟩ := HFA.out.row.froz
        obtain ⟨z0, z1, z2⟩ := HFA.out.res.cells
        obtain ⟨g0, g1, g2⟩ := HFA.out.res.froz
        have hzl := HFA.out.res.lt
        have HFB := hide (HFA.out.set0 hgw x)
        go_wp2_with fail
        refine bodyPost_ret (v := .agg #[.int .i64 x, .int .i64 l, .int .i64 p']) (by simp [results, Try.results42, go_sem, z0, z1, z2, hzl, hMne, hMne']) rfl (drawnW3_mk HFB.out.src HFB.out.gro hgw (by omega) (by omega) (by omega))
      · clear c0 c1 c2 f0 f1 f2 z0 z1 z2 g0 g1 g2 hzl
        go_wp2_with fail
        refine tail_begin (fun w' => Row3 w' M d l p') 8 (by kernel_rfl) HF9.out.row (fun hS' => ?_)
        refine tail_take 0 rfl (by kernel_rfl) (by kernel_rfl) (by kernel_rfl) (by kernel_rfl) (fun _ _ _ h => h) (by rfl) (v := ?_) ?_ (by assumption) ?_
        rotate_left 1
        · intro w' hS'; obtain ⟨c0, c1, c2⟩ := Row3.cells hS'; obtain ⟨f0, f1, f2⟩ := Row3.froz hS'; go_simp; try with_reducible rfl
        try simp only [Act.put, List.setIfInBounds_toArray, List.set_cons_zero, List.set_cons_succ]
        refine tail_take 1 rfl (by kernel_rfl) (by kernel_rfl) (by kernel_rfl) (by kernel_rfl) (fun _ _ _ h => h) (by rfl) (v := ?_) ?_ (by assumption) ?_
        rotate_left 1
        · intro w' hS'; obtain ⟨c0, c1, c2⟩ := Row3.cells hS'; obtain ⟨f0, f1, f2⟩ := Row3.froz hS'; go_simp; try with_reducible rfl
        try simp only [Act.put, List.setIfInBounds_toArray, List.set_cons_zero, List.set_cons_succ]
        refine tail_take 3 rfl (by kernel_rfl) (by kernel_rfl) (by kernel_rfl) (by kernel_rfl) (fun _ _ _ h => h) (by rfl) (v := ?_) ?_ (by assumption) ?_
        rotate_left 1
        · intro w' hS'; obtain ⟨c0, c1, c2⟩ := Row3.cells hS'; obtain ⟨f0, f1, f2⟩ := Row3.froz hS'; go_simp; try with_reducible rfl
        try simp only [Act.put, List.setIfInBounds_toArray, List.set_cons_zero, List.set_cons_succ]
        refine tail_two 2 4 rfl rfl (by kernel_rfl) rfl rfl (fun K' hK => ?_) (fun K' hK => ?_)
        · go_simp
          refine hK.out _ _ (by (try dsimp only); exact (HF9.out.drew.alloc (.cells #[.int .i64 d, .int .i64 24, .int .i64 25] 2)).row) (fun hS' => ?_)
          clear hK K'
          try simp only [Act.put, List.setIfInBounds_toArray, List.set_cons_zero, List.set_cons_succ]
          refine tail_call 4 rfl (by kernel_rfl) rfl (fun K' hK => ?_)
          go_simp
          go_at_call 43; refine (next_any g Bc A n c code 3 _ (HF9.out.drew.alloc (.cells #[.int .i64 d, .int .i64 24, .int .i64 25] 2)).src (by omega)).mono ?_; rintro e w7 ⟨r7, rfl, h70, h71, hs, hg⟩; obtain ⟨r7, rfl⟩ : ∃ m : Nat, r7 = m := ⟨r7.toNat, by omega⟩; have hr3 : (r7 : Int) < 3 := (by omega); have HFA := hide ((HF9.out.drew.alloc (.cells #[.int .i64 d, .int .i64 24, .int .i64 25] 2)).next hgw hs hg)
          refine hK.out _ _ (by (try dsimp only); exact HFA.out.row) (fun hS' => ?_)
          clear hK K'
          try simp only [Act.put, List.setIfInBounds_toArray, List.set_cons_zero, List.set_cons_succ]
          obtain ⟨x, hx, hxb⟩ : ∃ x, w7.cell? ⟨w6.heap.size, r7, none⟩ = some (.int .i64 x) ∧ 0 ≤ x ∧ x ≤ 100 := by
            rw [grown_cell hg (by simp) (fun h => by simp at h; have := HF9.out.src.lt; omega)]
            show ∃ x : Int, (w6.drew.alloc (.cells #[.int .i64 d, .int .i64 24, .int .i64 25] 2)).cell? ⟨w6.drew.heap.size, r7, none⟩ = some (.int .i64 x) ∧ 0 ≤ x ∧ x ≤ 100
            rw [World.cell?_alloc_at _ _ _ _ rfl]
            rcases (show r7 = 0 ∨ r7 = 1 ∨ r7 = 2 by omega) with rfl | rfl | rfl <;> exact ⟨_, rfl, by omega⟩
          clear hs hg
          refine tail_take 5 rfl (by kernel_rfl) (by kernel_rfl) (by kernel_rfl) (by kernel_rfl) (fun _ _ _ h => h) (by rfl) (v := ?_) ?_ (by assumption) ?_
          rotate_left 1
          · intro w' hS'; obtain ⟨c0, c1, c2⟩ := Row3.cells hS'; obtain ⟨f0, f1, f2⟩ := Row3.froz hS'; go_simp; try with_reducible rfl
          try simp only [Act.put, List.setIfInBounds_toArray, List.set_cons_zero, List.set_cons_succ]
          refine tail_call 6 rfl (by kernel_rfl) rfl (fun K' hK => ?_)
          go_simp
          refine hK.out _ _ (by (try dsimp only); exact HFA.out.row) (fun hS' => ?_)
          clear hK K'
          try simp only [Act.put, List.setIfInBounds_toArray, List.set_cons_zero, List.set_cons_succ]
          obtain ⟨c0, c1, c2⟩ := HFA.out.row.cells
          obtain ⟨f0, f1, f2⟩ := HFA.out.row.froz
          refine tail_take 7 rfl (by kernel_rfl) (by kernel_rfl) (by kernel_rfl) (by kernel_rfl) (fun _ _ _ h => h) (by rfl) (v := ?_) ?_ (by assumption) ?_
          rotate_left 1
          · intro w' hS'; obtain ⟨c0, c1, c2⟩ := Row3.cells hS'; obtain ⟨f0, f1, f2⟩ := Row3.froz hS'; go_simp; try with_reducible rfl
          try simp only [Act.put, List.setIfInBounds_toArray, List.set_cons_zero, List.set_cons_succ]
          refine tail_last 8 rfl (by kernel_rfl) (by kernel_rfl) rfl rfl (fun K' hK => ?_)
          go_simp
          refine hK.out _ _ ?_
          clear hK K'
          try simp only [Act.put, List.setIfInBounds_toArray, List.set_cons_zero, List.set_cons_succ]
          obtain ⟨z0, z1, z2⟩ := HFA.out.res.cells
          obtain ⟨g0, g1, g2⟩ := HFA.out.res.froz
          have hzl := HFA.out.res.lt
          have HFB := hide (HFA.out.set1 hgw x)
          go_wp2_with fail
          refine bodyPost_ret (v := .agg #[.int .i64 d, .int .i64 x, .int .i64 p']) (by simp [results, Try.results42, go_sem, z0, z1, z2, hzl, hMne, hMne']) rfl (drawnW3_mk HFB.out.src HFB.out.gro hgw (by omega) (by omega) (by omega))
        · go_simp
          go_at_call 43; refine (next_any g Bc A n c code 3 _ HF9.out.drew.src (by omega)).mono ?_; rintro e w7 ⟨r7, rfl, h70, h71, hs, hg⟩; obtain ⟨r7, rfl⟩ : ∃ m : Nat, r7 = m := ⟨r7.toNat, by omega⟩; have hr3 : (r7 : Int) < 3 := (by omega); have HF0 := hide (HF9.out.drew.next hgw hs hg); clear hs hg
          refine hK.out _ _ (by (try dsimp only); exact HF0.out.row) (fun hS' => ?_)
          clear hK K'
          try simp only [Act.put, List.setIfInBounds_toArray, List.set_cons_zero, List.set_cons_succ]
          refine tail_call 2 rfl (by kernel_rfl) rfl (fun K' hK => ?_)
          go_simp
          refine hK.out _ _ (by (try dsimp only); exact (HF0.out.alloc (.cells #[.int .i64 d, .int .i64 24, .int .i64 25] 2)).row) (fun hS' => ?_)
          clear hK K'
          try simp only [Act.put, List.setIfInBounds_toArray, List.set_cons_zero, List.set_cons_succ]
          obtain ⟨x, hx, hxb⟩ : ∃ x, (w7.alloc (.cells #[.int .i64 d, .int .i64 24, .int .i64 25] 2)).cell? ⟨w7.heap.size, r7, none⟩ = some (.int .i64 x) ∧ 0 ≤ x ∧ x ≤ 100 := by
            rw [World.cell?_alloc_at _ _ _ _ rfl]
            rcases (show r7 = 0 ∨ r7 = 1 ∨ r7 = 2 by omega) with rfl | rfl | rfl <;> exact ⟨_, rfl, by omega⟩
          have HFA := hide (HF0.out.alloc (.cells #[.int .i64 d, .int .i64 24, .int .i64 25] 2))
          refine tail_take 5 rfl (by kernel_rfl) (by kernel_rfl) (by kernel_rfl) (by kernel_rfl) (fun _ _ _ h => h) (by rfl) (v := ?_) ?_ (by assumption) ?_
          rotate_left 1
          · intro w' hS'; obtain ⟨c0, c1, c2⟩ := Row3.cells hS'; obtain ⟨f0, f1, f2⟩ := Row3.froz hS'; go_simp; try with_reducible rfl
          try simp only [Act.put, List.setIfInBounds_toArray, List.set_cons_zero, List.set_cons_succ]
          refine tail_call 6 rfl (by kernel_rfl) rfl (fun K' hK => ?_)
          go_simp
          refine hK.out _ _ (by (try dsimp only); exact HFA.out.row) (fun hS' => ?_)
          clear hK K'
          try simp only [Act.put, List.setIfInBounds_toArray, List.set_cons_zero, List.set_cons_succ]
          obtain ⟨c0, c1, c2⟩ := HFA.out.row.cells
          obtain ⟨f0, f1, f2⟩ := HFA.out.row.froz
          refine tail_take 7 rfl (by kernel_rfl) (by kernel_rfl) (by kernel_rfl) (by kernel_rfl) (fun _ _ _ h => h) (by rfl) (v := ?_) ?_ (by assumption) ?_
          rotate_left 1
          · intro w' hS'; obtain ⟨c0, c1, c2⟩ := Row3.cells hS'; obtain ⟨f0, f1, f2⟩ := Row3.froz hS'; go_simp; try with_reducible rfl
          try simp only [Act.put, List.setIfInBounds_toArray, List.set_cons_zero, List.set_cons_succ]
          refine tail_last 8 rfl (by kernel_rfl) (by kernel_rfl) rfl rfl (fun K' hK => ?_)
          go_simp
          refine hK.out _ _ ?_
          clear hK K'
          try simp only [Act.put, List.setIfInBounds_toArray, List.set_cons_zero, List.set_cons_succ]
          obtain ⟨z0, z1, z2⟩ := HFA.out.res.cells
          obtain ⟨g0, g1, g2⟩ := HFA.out.res.froz
          have hzl := HFA.out.res.lt
          have HFB := hide (HFA.out.set1 hgw x)
          go_wp2_with fail
          refine bodyPost_ret (v := .agg #[.int .i64 d, .int .i64 x, .int .i64 p']) (by simp [results, Try.results42, go_sem, z0, z1, z2, hzl, hMne, hMne']) rfl (drawnW3_mk HFB.out.src HFB.out.gro hgw (by omega) (by omega) (by omega))
      · have hq : (p' : Int).tdiv 2 = ((p' / 2 : Nat) : Int) := by rw [Int.tdiv_eq_ediv_of_nonneg (by omega)]; simp
        obtain ⟨ph, hph⟩ : ∃ ph, p' / 2 = ph := ⟨_, rfl⟩
        have hpb : ph ≤ 5000 := by omega
        rw [hph] at hq
        have hwq : IntKind.i64.wrap (ph : Int) = (ph : Int) := IntWalk.i64_in _ ⟨by omega, by omega⟩
        have HFB := hide (HF9.out.set2 hgw (ph : Int))
        clear hph
        go_wp2_with fail
        refine bodyPost_ret (v := .agg #[.int .i64 d, .int .i64 l, .int .i64 ph]) (by simp [results, Try.results42, go_sem, z0, z1, z2, hzl, hMne, hMne']) rfl (drawnW3_mk HFB.out.src HFB.out.gro hgw (by omega) (by omega) (by omega))
      · have e1 : (sw == 0) = false := by simpa using n0
        have e2 : (sw == 1) = false := by simpa using n1
        have e3 : (sw == 2) = false := by simpa using n2
        clear n0 n1 n2
        go_wp2_with fail
        refine bodyPost_ret (v := .agg #[.int .i64 d, .int .i64 l, .int .i64 p']) (by simp [results, Try.results42, go_sem, z0, z1, z2, hzl]) rfl (drawnW3_mk HF9.out.src HF9.out.gro hgw (by omega) (by omega) (by omega))

end Go.Proofs.Ytkaconpbmppekaa
