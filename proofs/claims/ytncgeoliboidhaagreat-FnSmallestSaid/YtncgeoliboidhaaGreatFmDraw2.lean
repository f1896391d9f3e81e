/-
  The model's draws of families: one of the library, and one that need not be valid.
  Condition: the code has at most 4096 bytes.
-/
import Derived.Test.YtncgeoliboidhaaGreatFmDraw1
import Derived.Test.YtncgeoliboidhaaGreatTail2
namespace Go.Proofs.YtncgeoliboidhaaGreat
open Go.RowKit
set_option linter.unusedSimpArgs false
set_option linter.unusedVariables false

def set8F (w : World) (N : Nat) (x0 x1 x2 x3 x4 x5 x6 x7 : Value) : World := (((((((w.setCell ⟨N, 0, none⟩ x0).setCell ⟨N, 1, none⟩ x1).setCell ⟨N, 2, none⟩ x2).setCell ⟨N, 3, none⟩ x3).setCell ⟨N, 4, none⟩ x4).setCell ⟨N, 5, none⟩ x5).setCell ⟨N, 6, none⟩ x6).setCell ⟨N, 7, none⟩ x7
theorem FixI.set {w : World} {lo b : Nat} {A : Option Addr} {n : Nat} {zs : List Int} (h : FixI w lo A n zs) (hb : b < lo) (j : Nat) (u : Value) : FixI (w.setCell ⟨b, j, none⟩ u) lo A n zs := by
  refine ⟨h.1, h.2.1, fun hn => ?_⟩
  obtain ⟨b', off, rfl, h1, h2, hc⟩ := h.2.2 hn
  refine ⟨b', off, rfl, h1, by simpa [World.setCell] using h2, fun i x hx => ?_⟩
  rw [World.cell?_of_block (w := w) (Below.heap_setCell w ⟨b, j, none⟩ u b' (by simp only []; omega))]
  exact hc i x hx
theorem FixI.set8 {w : World} {lo b : Nat} {A : Option Addr} {n : Nat} {zs : List Int} (h : FixI w lo A n zs) (hb : b < lo) (x0 x1 x2 x3 x4 x5 x6 x7 : Value) : FixI (set8F w b x0 x1 x2 x3 x4 x5 x6 x7) lo A n zs :=
  (((((((h.set hb _ _).set hb _ _).set hb _ _).set hb _ _).set hb _ _).set hb _ _).set hb _ _).set hb _ _
theorem row_other1 {w : World} {b i : Nat} {o : Obj} (h : w.heap[i]? = some o) (hi : i ≠ b) (j : Nat) (u : Value) : (w.setCell ⟨b, j, none⟩ u).heap[i]? = some o := by
  rw [Below.heap_setCell _ _ _ _ (by simpa using hi)]; exact h
theorem set_grownF (w : World) (g j : Nat) (u : Value) : w.grownBy (w.setCell ⟨g, j, none⟩ u) (some g) :=
  ⟨rfl, rfl, rfl, by simp [World.setCell], fun i _ hne => Below.heap_setCell w ⟨g, j, none⟩ u i (fun e => hne (by simp [e]))⟩
theorem Src.set {w : World} {g Bc b : Nat} {A : Option Addr} {n c : Nat} {code : List Int} (h : Src w g Bc A n c code) (hb : g < b) (j : Nat) (u : Value) : Src (w.setCell ⟨b, j, none⟩ u) g Bc A n c code :=
  h.still (set_grownF w b j u) (fun r hr => by injection hr with hr; omega)
theorem Src.set8 {w : World} {g Bc b : Nat} {A : Option Addr} {n c : Nat} {code : List Int} (h : Src w g Bc A n c code) (hb : g < b) (x0 x1 x2 x3 x4 x5 x6 x7 : Value) : Src (set8F w b x0 x1 x2 x3 x4 x5 x6 x7) g Bc A n c code :=
  (((((((h.set hb _ _).set hb _ _).set hb _ _).set hb _ _).set hb _ _).set hb _ _).set hb _ _).set hb _ _
theorem row8_set {w : World} {b : Nat} {y0 y1 y2 y3 y4 y5 y6 y7 : Value} {t : TypeId} (h : w.heap[b]? = some (.cells #[y0, y1, y2, y3, y4, y5, y6, y7] t (0, 0))) (x0 x1 x2 x3 x4 x5 x6 x7 : Value) : (set8F w b x0 x1 x2 x3 x4 x5 x6 x7).heap[b]? = some (.cells #[x0, x1, x2, x3, x4, x5, x6, x7] t (0, 0)) := by
  have h0 : (w.setCell ⟨b, 0, none⟩ x0).heap[b]? = some (.cells #[x0, y1, y2, y3, y4, y5, y6, y7] t (0, 0)) := heap_setCell_same _ b 0 _ _ x0 h
  have h1 : ((w.setCell ⟨b, 0, none⟩ x0).setCell ⟨b, 1, none⟩ x1).heap[b]? = some (.cells #[x0, x1, y2, y3, y4, y5, y6, y7] t (0, 0)) := heap_setCell_same _ b 1 _ _ x1 h0
  have h2 : (((w.setCell ⟨b, 0, none⟩ x0).setCell ⟨b, 1, none⟩ x1).setCell ⟨b, 2, none⟩ x2).heap[b]? = some (.cells #[x0, x1, x2, y3, y4, y5, y6, y7] t (0, 0)) := heap_setCell_same _ b 2 _ _ x2 h1
  have h3 : ((((w.setCell ⟨b, 0, none⟩ x0).setCell ⟨b, 1, none⟩ x1).setCell ⟨b, 2, none⟩ x2).setCell ⟨b, 3, none⟩ x3).heap[b]? = some (.cells #[x0, x1, x2, x3, y4, y5, y6, y7] t (0, 0)) := heap_setCell_same _ b 3 _ _ x3 h2
  have h4 : (((((w.setCell ⟨b, 0, none⟩ x0).setCell ⟨b, 1, none⟩ x1).setCell ⟨b, 2, none⟩ x2).setCell ⟨b, 3, none⟩ x3).setCell ⟨b, 4, none⟩ x4).heap[b]? = some (.cells #[x0, x1, x2, x3, x4, y5, y6, y7] t (0, 0)) := heap_setCell_same _ b 4 _ _ x4 h3
  have h5 : ((((((w.setCell ⟨b, 0, none⟩ x0).setCell ⟨b, 1, none⟩ x1).setCell ⟨b, 2, none⟩ x2).setCell ⟨b, 3, none⟩ x3).setCell ⟨b, 4, none⟩ x4).setCell ⟨b, 5, none⟩ x5).heap[b]? = some (.cells #[x0, x1, x2, x3, x4, x5, y6, y7] t (0, 0)) := heap_setCell_same _ b 5 _ _ x5 h4
  have h6 : (((((((w.setCell ⟨b, 0, none⟩ x0).setCell ⟨b, 1, none⟩ x1).setCell ⟨b, 2, none⟩ x2).setCell ⟨b, 3, none⟩ x3).setCell ⟨b, 4, none⟩ x4).setCell ⟨b, 5, none⟩ x5).setCell ⟨b, 6, none⟩ x6).heap[b]? = some (.cells #[x0, x1, x2, x3, x4, x5, x6, y7] t (0, 0)) := heap_setCell_same _ b 6 _ _ x6 h5
  have h7 : ((((((((w.setCell ⟨b, 0, none⟩ x0).setCell ⟨b, 1, none⟩ x1).setCell ⟨b, 2, none⟩ x2).setCell ⟨b, 3, none⟩ x3).setCell ⟨b, 4, none⟩ x4).setCell ⟨b, 5, none⟩ x5).setCell ⟨b, 6, none⟩ x6).setCell ⟨b, 7, none⟩ x7).heap[b]? = some (.cells #[x0, x1, x2, x3, x4, x5, x6, x7] t (0, 0)) := heap_setCell_same _ b 7 _ _ x7 h6
  exact h7
theorem row8_other {w : World} {b i : Nat} {o : Obj} (h : w.heap[i]? = some o) (hi : i ≠ b) (x0 x1 x2 x3 x4 x5 x6 x7 : Value) : (set8F w b x0 x1 x2 x3 x4 x5 x6 x7).heap[i]? = some o :=
  row_other1 (row_other1 (row_other1 (row_other1 (row_other1 (row_other1 (row_other1 (row_other1 h hi 0 x0) hi 1 x1) hi 2 x2) hi 3 x3) hi 4 x4) hi 5 x5) hi 6 x6) hi 7 x7
theorem grown_set8 {a w : World} {row : Option Nat} (h : a.grownBy w row) {N : Nat} (hN : a.heap.size ≤ N) (x0 x1 x2 x3 x4 x5 x6 x7 : Value) : a.grownBy (set8F w N x0 x1 x2 x3 x4 x5 x6 x7) row :=
  grown_set2 (grown_set2 (grown_set2 (grown_set2 (grown_set2 (grown_set2 (grown_set2 (grown_set2 h N 0 _ hN) N 1 _ hN) N 2 _ hN) N 3 _ hN) N 4 _ hN) N 5 _ hN) N 6 _ hN) N 7 _ hN
theorem grown_of {a w : World} {row : Option Nat} {B : Nat} (h : Below B a w) (hB : a.heap.size ≤ B) : a.grownBy w row := ⟨h.os, h.tape, h.output, h.size, fun i hi _ => h.block i (by omega)⟩
theorem grown_blw {a b w : World} {row : Option Nat} {B : Nat} (h : a.grownBy b row) (hb : Below B b w) (hB : a.heap.size ≤ B) : a.grownBy w row :=
  ⟨hb.os.trans h.os, hb.tape.trans h.tape, hb.output.trans h.output, Nat.le_trans h.size hb.size, fun i hi hne => (hb.block i (by omega)).trans (h.block i hi hne)⟩
theorem grown_one {a b w : World} {g : Nat} (h : a.grownBy b (some g)) (hb : b.grownBy w (some g)) : a.grownBy w (some g) :=
  ⟨hb.os.trans h.os, hb.tape.trans h.tape, hb.output.trans h.output, Nat.le_trans h.size hb.size, fun i hi hne => (hb.block i (Nat.lt_of_lt_of_le hi h.size) hne).trans (h.block i hi hne)⟩
theorem row_grownF {w w' : World} {g i : Nat} {o : Obj} (h : w.heap[i]? = some o) (hg : w.grownBy w' (some g)) (hi : i ≠ g) : w'.heap[i]? = some o := by
  rw [hg.block i (Array.getElem?_eq_some_iff.1 h).1 (by intro e; injection e with e; exact hi e)]; exact h
/-- The end of a draw: the family is stored as the result. -/
theorem drawn_fin {g Bc : Nat} {Ac : Option Addr} {nc cc : Nat} {code : List Int} {w W : World} {lo R : Nat} {s : ByteArray} {κ p k γ : Int} {A : Option Addr} {n c : Nat} {C : Int} {A' : Option Addr} {n' c' : Nat} {zs ls : List Int}
    (hs : s.size ≤ 9) (h1 : FixI W lo A n zs) (h2 : FixI W lo A' n' ls) (hS : Src W g Bc Ac nc cc code) (hg : w.grownBy W (some g)) (hR : w.heap.size ≤ R) (hRl : R < lo) (hgw : g < w.heap.size) :
    DrawnFm g Bc Ac nc cc code w (.returned (.agg #[.string s, .int .i64 κ, .int .i64 p, .int .i64 k, .int .i64 γ, .slice A n c, .int .i64 C, .slice A' n' c'])) (set8F W R (.string s) (.int .i64 κ) (.int .i64 p) (.int .i64 k) (.int .i64 γ) (.slice A n c) (.int .i64 C) (.slice A' n' c')) :=
  ⟨s, κ, p, k, γ, A, n, c, C, A', n', c', zs, ls, rfl, hs, (h1.set8 hRl _ _ _ _ _ _ _ _).low (by omega), (h2.set8 hRl _ _ _ _ _ _ _ _).low (by omega), hS.set8 (by omega) _ _ _ _ _ _ _ _, grown_set8 hg hR _ _ _ _ _ _ _ _⟩
/-- What a draw out of the library leaves. -/
def DrawnL (g Bc : Nat) (Ac : Option Addr) (nc cc : Nat) (code : List Int) (w : World) (x : Ending) (w' : World) : Prop :=
  ∃ (s : ByteArray) (κ p k γ : Int) (A : Option Addr) (n c : Nat) (C : Int) (A' : Option Addr) (n' c' : Nat) (zs ls : List Int), x = .returned (.agg #[.string s, .int .i64 κ, .int .i64 p, .int .i64 k, .int .i64 γ, .slice A n c, .int .i64 C, .slice A' n' c']) ∧ (κ = 1 ∨ κ = 2) ∧ s.size ≤ 9 ∧ FixI w' w.heap.size A n zs ∧ FixI w' w.heap.size A' n' ls ∧ Src w' g Bc Ac nc cc code ∧ w.grownBy w' (some g)
theorem drawnL_fin {g Bc : Nat} {Ac : Option Addr} {nc cc : Nat} {code : List Int} {w W : World} {lo R : Nat} {s : ByteArray} {κ p k γ : Int} {A : Option Addr} {n c : Nat} {C : Int} {A' : Option Addr} {n' c' : Nat} {zs ls : List Int}
    (hk : κ = 1 ∨ κ = 2) (hs : s.size ≤ 9) (h1 : FixI W lo A n zs) (h2 : FixI W lo A' n' ls) (hS : Src W g Bc Ac nc cc code) (hg : w.grownBy W (some g)) (hR : w.heap.size ≤ R) (hRl : R < lo) (hgw : g < w.heap.size) :
    DrawnL g Bc Ac nc cc code w (.returned (.agg #[.string s, .int .i64 κ, .int .i64 p, .int .i64 k, .int .i64 γ, .slice A n c, .int .i64 C, .slice A' n' c'])) (set8F W R (.string s) (.int .i64 κ) (.int .i64 p) (.int .i64 k) (.int .i64 γ) (.slice A n c) (.int .i64 C) (.slice A' n' c')) :=
  ⟨s, κ, p, k, γ, A, n, c, C, A', n', c', zs, ls, rfl, hk, hs, (h1.set8 hRl _ _ _ _ _ _ _ _).low (by omega), (h2.set8 hRl _ _ _ _ _ _ _ _).low (by omega), hS.set8 (by omega) _ _ _ _ _ _ _ _, grown_set8 hg hR _ _ _ _ _ _ _ _⟩

set_option maxRecDepth 100000 in
set_option maxHeartbeats 8000000 in
theorem drawLib (g Bc : Nat) (Ac : Option Addr) (nc cc : Nat) (code : List Int) (w : World) (hS : Src w g Bc Ac nc cc code) :
    Calls Tryz.prog 53 #[.pointer (some ⟨g, 0, none⟩)] w (DrawnL g Bc Ac nc cc code w) := by
  have hgl := hS.lt
  have HGL := hide hgl
  obtain ⟨w1, hw1⟩ : ∃ w1, w.alloc (.cells #[.string ⟨#[]⟩, .int .i64 0, .int .i64 0, .int .i64 0, .int .i64 0, .slice none 0 0, .int .i64 0, .slice none 0 0] 28) = w1 := ⟨_, rfl⟩
  have hs1 : w1.heap.size = w.heap.size + 1 := by rw [← hw1, alloc_size]
  have HR1 := hide (show w1.heap[w.heap.size]? = some (.cells #[.string ⟨#[]⟩, .int .i64 0, .int .i64 0, .int .i64 0, .int .i64 0, .slice none 0 0, .int .i64 0, .slice none 0 0] 28 (0, 0)) by rw [← hw1]; exact heap_alloc_new _ _)
  have hb1 : Below w.heap.size w w1 := by rw [← hw1]; exact (Below.refl _ _).alloc (Nat.le_refl _) _
  have HS1 := hide (hS.below hb1 hgl)
  have HG1 := hide (show w.grownBy w1 (some g) from grown_of hb1 (Nat.le_refl _))
  have HSZ := hide hs1
  clear hS hb1 hs1 hgl
  go_enter Tryz.func53, Tryz.ntmps53
  go_wp2_with fail
  refine (specLib w1).mono ?_
  rintro e w2 ⟨b, rfl, hL, hbl, hbb, hb⟩
  have HR2 := hide (heap_nextG HR1.out hb)
  have HS2 := hide (HS1.out.below hb (by rw [HSZ.out]; have := HGL.out; omega))
  have HG2 := hide (grown_blw HG1.out hb (by rw [HSZ.out]; omega))
  have HL2 := hide hL
  have HBL := hide hbl
  have HBB := hide hbb
  clear hL hbl hbb hb hw1
  go_wp2_with fail
  refine (next_any g Bc Ac nc cc code 5 _ HS2.out (by decide)).mono ?_
  rintro e w3 ⟨y, rfl, hy0, hy5, hS3, hg3⟩
  have HR3 := hide (row_grownF HR2.out hg3 (by have := HGL.out; omega))
  have HS3 := hide hS3
  have HG3 := hide (grown_one HG2.out hg3)
  have HL3 := hide (HL2.out.grown hg3 (by rw [HSZ.out]; have := HGL.out; omega) HBL.out HBB.out)
  clear hS3 hg3 HL2 HS2 HR2 HG2 HS1 HR1 HG1
  obtain ⟨i, hi, rfl⟩ : ∃ i : Nat, i < 5 ∧ y = i := ⟨y.toNat, by omega, by omega⟩
  obtain ⟨s, κ, p, k, γ, A, n, C, A', n', zs, ls, hk, hs, h1, h2, c0, c1, c2, c3, c4, c5, c6, c7⟩ := HL3.out i hi
  obtain ⟨⟨r0, r1, r2, r3, r4, r5, r6, r7⟩, f0, f1, f2, f3, f4, f5, f6, f7⟩ := row8 HR3.out
  have HF := hide (drawnL_fin (w := w) (R := w.heap.size) (p := p) (k := k) (γ := γ) (c := n) (C := C) (c' := n') hk hs h1 h2 HS3.out HG3.out (Nat.le_refl _) (by rw [HSZ.out]; omega) HGL.out)
  clear hk hs h1 h2 hy0 hy5
  have HI := hide hi
  obtain rfl | rfl | rfl | rfl | rfl : i = 0 ∨ i = 1 ∨ i = 2 ∨ i = 3 ∨ i = 4 := by omega
  all_goals (
    clear hi HI
    simp only [Nat.zero_mul, Nat.one_mul, Nat.reduceMul, Nat.reduceAdd, Nat.zero_add] at c0 c1 c2 c3 c4 c5 c6 c7
    go_wp2_with fail
    refine bodyPost_ret (v := .agg #[.string s, .int .i64 κ, .int .i64 p, .int .i64 k, .int .i64 γ, .slice A n n, .int .i64 C, .slice A' n' n']) (by simp [results, Tryz.results53, go_sem, r0, r1, r2, r3, r4, r5, r6, r7]) rfl ?_
    exact HF.out)

set_option maxRecDepth 100000 in
set_option maxHeartbeats 32000000 in
theorem drawFmAny (g Bc : Nat) (Ac : Option Addr) (nc cc : Nat) (code : List Int) (w : World) (hS : Src w g Bc Ac nc cc code) :
    Calls Tryz.prog 18 #[.pointer (some ⟨g, 0, none⟩)] w (DrawnFm g Bc Ac nc cc code w) := by
  have hgl := hS.lt
  have HGL := hide hgl
  obtain ⟨w1, hw1⟩ : ∃ w1, w.alloc (.cells #[.string ⟨#[]⟩, .int .i64 0, .int .i64 0, .int .i64 0, .int .i64 0, .slice none 0 0, .int .i64 0, .slice none 0 0] 28) = w1 := ⟨_, rfl⟩
  have hs1 : w1.heap.size = w.heap.size + 1 := by rw [← hw1, alloc_size]
  have HR1 := hide (show w1.heap[w.heap.size]? = some (.cells #[.string ⟨#[]⟩, .int .i64 0, .int .i64 0, .int .i64 0, .int .i64 0, .slice none 0 0, .int .i64 0, .slice none 0 0] 28 (0, 0)) by rw [← hw1]; exact heap_alloc_new _ _)
  have hb1 : Below w.heap.size w w1 := by rw [← hw1]; exact (Below.refl _ _).alloc (Nat.le_refl _) _
  have HS1 := hide (hS.below hb1 hgl)
  have HG1 := hide (show w.grownBy w1 (some g) from grown_of hb1 (Nat.le_refl _))
  have HSZ := hide hs1
  clear hS hb1 hs1 hgl
  have HNX := hide (fun m w' (hS : Src w' g Bc Ac nc cc code) (hm : m ≤ 4611686018427387904) => next_any g Bc Ac nc cc code m w' hS hm)
  have HFO := hide (fun w' => specFieldOf 8 w')
  go_enter Tryz.func18, Tryz.ntmps18
  go_wp2_with fail
  refine (drawLib g Bc Ac nc cc code w1 HS1.out).mono ?_
  rintro e w2 ⟨s, κ, p, k, γ, A, n, c, C, A', n', c', zs, ls, rfl, hk, hs, h1, h2, hS2, hg2⟩
  have HR2 := hide (row_grownF HR1.out hg2 (by have := HGL.out; omega))
  have HG2 := hide (grown_one HG1.out hg2)
  have HZ2 := hide h1
  have HL2 := hide h2
  have HSS := hide hs
  have HKK := hide hk
  have HW12 := hide (show w.heap.size + 1 ≤ w2.heap.size by rw [← HSZ.out]; exact hg2.size)
  obtain ⟨w3, hw3⟩ : ∃ w3, w2.alloc (.cells #[.string s, .int .i64 κ, .int .i64 p, .int .i64 k, .int .i64 γ, .slice A n c, .int .i64 C, .slice A' n' c'] 28) = w3 := ⟨_, rfl⟩
  have hb3 : Below w2.heap.size w2 w3 := by rw [← hw3]; exact (Below.refl _ _).alloc (Nat.le_refl _) _
  have HF3 := hide (show w3.heap[w2.heap.size]? = some (.cells #[.string s, .int .i64 κ, .int .i64 p, .int .i64 k, .int .i64 γ, .slice A n c, .int .i64 C, .slice A' n' c'] 28 (0, 0)) by rw [← hw3]; exact heap_alloc_new _ _)
  have HR3 := hide (heap_nextG HR2.out hb3)
  have HS3 := hide (hS2.below hb3 (by have := HGL.out; have := HW12.out; omega))
  have HG3 := hide (grown_blw HG2.out hb3 (by have := HW12.out; omega))
  have HV3 := hide (show w2.grownBy w3 (some g) from grown_of hb3 (Nat.le_refl _))
  clear hk hs h1 h2 hS2 hg2 hb3 hw1
  go_wp2_with fail
  clear hw3
  refine (HNX.out 24 _ HS3.out (by decide)).mono ?_
  rintro e w4 ⟨y, rfl, hy0, hy24, hS4, hg4⟩
  have HF4 := hide (row_grownF HF3.out hg4 (by have := HGL.out; have := HW12.out; omega))
  have HR4 := hide (row_grownF HR3.out hg4 (by have := HGL.out; omega))
  have HS4 := hide hS4
  have HG4 := hide (grown_one HG3.out hg4)
  have HV4 := hide (grown_one HV3.out hg4)
  have HFL := hide (show w2.heap.size < w4.heap.size from (Array.getElem?_eq_some_iff.1 HF4.out).1)
  clear hS4 hg4 HF3 HR3 HS3 HG3 HV3 HR2 HG2 HS1 HR1 HG1
  by_cases y0 : y = 0
  · subst y0
    obtain ⟨w5, hw5⟩ : ∃ w5, (w4.alloc (.cells #[.string ⟨#[]⟩, .string ⟨#[110,105,110,101]⟩, .string ⟨#[110,105,110,101,99,104,97,114,115]⟩, .string ⟨#[84,105,108,101]⟩] 9)) = w5 := ⟨_, rfl⟩
    have hb5 : Below w4.heap.size w4 w5 := by rw [← hw5]; exact chain_below [.cells #[.string ⟨#[]⟩, .string ⟨#[110,105,110,101]⟩, .string ⟨#[110,105,110,101,99,104,97,114,115]⟩, .string ⟨#[84,105,108,101]⟩] 9] w4
    have HO0 := hide (show w5.heap[w4.heap.size + 0]? = some (.cells #[.string ⟨#[]⟩, .string ⟨#[110,105,110,101]⟩, .string ⟨#[110,105,110,101,99,104,97,114,115]⟩, .string ⟨#[84,105,108,101]⟩] 9) by rw [← hw5]; exact chain_get [.cells #[.string ⟨#[]⟩, .string ⟨#[110,105,110,101]⟩, .string ⟨#[110,105,110,101,99,104,97,114,115]⟩, .string ⟨#[84,105,108,101]⟩] 9] w4 0 _ rfl)
    have HF5 := hide (heap_nextG HF4.out hb5)
    have HR5 := hide (heap_nextG HR4.out hb5)
    have HS5 := hide (HS4.out.below hb5 (by have := HS4.out.lt; omega))
    have HG5 := hide (grown_blw HG4.out hb5 HG4.out.size)
    have HV5 := hide (grown_blw HV4.out hb5 HV4.out.size)
    clear hb5 hy0 hy24
    go_wp2_with fail
    (try rw [hw5])
    clear hw5
    refine (HNX.out 4 _ HS5.out (by decide)).mono ?_
    rintro e w6 ⟨z, rfl, hz0, hz1, hS6, hg6⟩
    have hg4l := HS4.out.lt
    have HF6 := hide (row_grownF HF5.out hg6 (by have := HGL.out; have := HW12.out; omega))
    have HR6 := hide (row_grownF HR5.out hg6 (by have := HGL.out; omega))
    have HS6 := hide hS6
    have HG6 := hide (grown_one HG5.out hg6)
    have HV6 := hide (grown_one HV5.out hg6)
    have hKr := row_grownF HO0.out hg6 (by omega)
    have HKC := hide (fun j => cell_of_row w6 w4.heap.size j _ _ _ hKr)
    clear hKr hS6 hg6 hg4l
    obtain ⟨i, hi, rfl⟩ : ∃ i : Nat, i < 4 ∧ z = i := ⟨z.toNat, by omega, by omega⟩
    clear hz0 hz1
    obtain ⟨⟨t0, t1, t2, t3, t4, t5, t6, t7⟩, u0, u1, u2, u3, u4, u5, u6, u7⟩ := row8 HF6.out
    obtain rfl | rfl | rfl | rfl : i = 0 ∨ i = 1 ∨ i = 2 ∨ i = 3 := by omega
    · have hkc := HKC.out 0
      have HFn := hide (heap_setCell_same w6 w2.heap.size 0 _ _ (.string ⟨#[]⟩) HF6.out)
      have HRn := hide (row_other1 HR6.out (show w.heap.size ≠ w2.heap.size by have := HW12.out; omega) 0 (.string ⟨#[]⟩))
      have HSn := hide (HS6.out.set (b := w2.heap.size) (by have := HGL.out; have := HW12.out; omega) 0 (.string ⟨#[]⟩))
      have HGn := hide (grown_set2 HG6.out w2.heap.size 0 (.string ⟨#[]⟩) (by have := HW12.out; omega))
      have HVn := hide (grown_set2 HV6.out w2.heap.size 0 (.string ⟨#[]⟩) (Nat.le_refl _))
      obtain ⟨⟨a0, a1, a2, a3, a4, a5, a6, a7⟩, _, _, _, _, _, _, _, _⟩ := row8 HFn.out
      obtain ⟨⟨r0, r1, r2, r3, r4, r5, r6, r7⟩, f0, f1, f2, f3, f4, f5, f6, f7⟩ := row8 HRn.out
      have HF := hide (drawn_fin (w := w) (R := w.heap.size) (p := p) (k := k) (γ := γ) (κ := κ) (s := ⟨#[]⟩) (A := A) (A' := A') (c := c) (C := C) (c' := c') (by decide) ((HZ2.out.grown HVn.out (by rw [HSZ.out]; have := HGL.out; omega)).low (by rw [HSZ.out]; exact Nat.le_refl _)) ((HL2.out.grown HVn.out (by rw [HSZ.out]; have := HGL.out; omega)).low (by rw [HSZ.out]; exact Nat.le_refl _)) HSn.out HGn.out (Nat.le_refl _) (Nat.lt_succ_self _) HGL.out)
      go_wp2_with fail
      refine bodyPost_ret (v := .agg #[.string ⟨#[]⟩, .int .i64 κ, .int .i64 p, .int .i64 k, .int .i64 γ, .slice A n c, .int .i64 C, .slice A' n' c']) (by simp [results, Tryz.results18, go_sem, r0, r1, r2, r3, r4, r5, r6, r7]) rfl ?_
      exact HF.out
    · have hkc := HKC.out 1
      have HFn := hide (heap_setCell_same w6 w2.heap.size 0 _ _ (.string ⟨#[110,105,110,101]⟩) HF6.out)
      have HRn := hide (row_other1 HR6.out (show w.heap.size ≠ w2.heap.size by have := HW12.out; omega) 0 (.string ⟨#[110,105,110,101]⟩))
      have HSn := hide (HS6.out.set (b := w2.heap.size) (by have := HGL.out; have := HW12.out; omega) 0 (.string ⟨#[110,105,110,101]⟩))
      have HGn := hide (grown_set2 HG6.out w2.heap.size 0 (.string ⟨#[110,105,110,101]⟩) (by have := HW12.out; omega))
      have HVn := hide (grown_set2 HV6.out w2.heap.size 0 (.string ⟨#[110,105,110,101]⟩) (Nat.le_refl _))
      obtain ⟨⟨a0, a1, a2, a3, a4, a5, a6, a7⟩, _, _, _, _, _, _, _, _⟩ := row8 HFn.out
      obtain ⟨⟨r0, r1, r2, r3, r4, r5, r6, r7⟩, f0, f1, f2, f3, f4, f5, f6, f7⟩ := row8 HRn.out
      have HF := hide (drawn_fin (w := w) (R := w.heap.size) (p := p) (k := k) (γ := γ) (κ := κ) (s := ⟨#[110,105,110,101]⟩) (A := A) (A' := A') (c := c) (C := C) (c' := c') (by decide) ((HZ2.out.grown HVn.out (by rw [HSZ.out]; have := HGL.out; omega)).low (by rw [HSZ.out]; exact Nat.le_refl _)) ((HL2.out.grown HVn.out (by rw [HSZ.out]; have := HGL.out; omega)).low (by rw [HSZ.out]; exact Nat.le_refl _)) HSn.out HGn.out (Nat.le_refl _) (Nat.lt_succ_self _) HGL.out)
      go_wp2_with fail
      refine bodyPost_ret (v := .agg #[.string ⟨#[110,105,110,101]⟩, .int .i64 κ, .int .i64 p, .int .i64 k, .int .i64 γ, .slice A n c, .int .i64 C, .slice A' n' c']) (by simp [results, Tryz.results18, go_sem, r0, r1, r2, r3, r4, r5, r6, r7]) rfl ?_
      exact HF.out
    · have hkc := HKC.out 2
      have HFn := hide (heap_setCell_same w6 w2.heap.size 0 _ _ (.string ⟨#[110,105,110,101,99,104,97,114,115]⟩) HF6.out)
      have HRn := hide (row_other1 HR6.out (show w.heap.size ≠ w2.heap.size by have := HW12.out; omega) 0 (.string ⟨#[110,105,110,101,99,104,97,114,115]⟩))
      have HSn := hide (HS6.out.set (b := w2.heap.size) (by have := HGL.out; have := HW12.out; omega) 0 (.string ⟨#[110,105,110,101,99,104,97,114,115]⟩))
      have HGn := hide (grown_set2 HG6.out w2.heap.size 0 (.string ⟨#[110,105,110,101,99,104,97,114,115]⟩) (by have := HW12.out; omega))
      have HVn := hide (grown_set2 HV6.out w2.heap.size 0 (.string ⟨#[110,105,110,101,99,104,97,114,115]⟩) (Nat.le_refl _))
      obtain ⟨⟨a0, a1, a2, a3, a4, a5, a6, a7⟩, _, _, _, _, _, _, _, _⟩ := row8 HFn.out
      obtain ⟨⟨r0, r1, r2, r3, r4, r5, r6, r7⟩, f0, f1, f2, f3, f4, f5, f6, f7⟩ := row8 HRn.out
      have HF := hide (drawn_fin (w := w) (R := w.heap.size) (p := p) (k := k) (γ := γ) (κ := κ) (s := ⟨#[110,105,110,101,99,104,97,114,115]⟩) (A := A) (A' := A') (c := c) (C := C) (c' := c') (by decide) ((HZ2.out.grown HVn.out (by rw [HSZ.out]; have := HGL.out; omega)).low (by rw [HSZ.out]; exact Nat.le_refl _)) ((HL2.out.grown HVn.out (by rw [HSZ.out]; have := HGL.out; omega)).low (by rw [HSZ.out]; exact Nat.le_refl _)) HSn.out HGn.out (Nat.le_refl _) (Nat.lt_succ_self _) HGL.out)
      go_wp2_with fail
      refine bodyPost_ret (v := .agg #[.string ⟨#[110,105,110,101,99,104,97,114,115]⟩, .int .i64 κ, .int .i64 p, .int .i64 k, .int .i64 γ, .slice A n c, .int .i64 C, .slice A' n' c']) (by simp [results, Tryz.results18, go_sem, r0, r1, r2, r3, r4, r5, r6, r7]) rfl ?_
      exact HF.out
    · have hkc := HKC.out 3
      have HFn := hide (heap_setCell_same w6 w2.heap.size 0 _ _ (.string ⟨#[84,105,108,101]⟩) HF6.out)
      have HRn := hide (row_other1 HR6.out (show w.heap.size ≠ w2.heap.size by have := HW12.out; omega) 0 (.string ⟨#[84,105,108,101]⟩))
      have HSn := hide (HS6.out.set (b := w2.heap.size) (by have := HGL.out; have := HW12.out; omega) 0 (.string ⟨#[84,105,108,101]⟩))
      have HGn := hide (grown_set2 HG6.out w2.heap.size 0 (.string ⟨#[84,105,108,101]⟩) (by have := HW12.out; omega))
      have HVn := hide (grown_set2 HV6.out w2.heap.size 0 (.string ⟨#[84,105,108,101]⟩) (Nat.le_refl _))
      obtain ⟨⟨a0, a1, a2, a3, a4, a5, a6, a7⟩, _, _, _, _, _, _, _, _⟩ := row8 HFn.out
      obtain ⟨⟨r0, r1, r2, r3, r4, r5, r6, r7⟩, f0, f1, f2, f3, f4, f5, f6, f7⟩ := row8 HRn.out
      have HF := hide (drawn_fin (w := w) (R := w.heap.size) (p := p) (k := k) (γ := γ) (κ := κ) (s := ⟨#[84,105,108,101]⟩) (A := A) (A' := A') (c := c) (C := C) (c' := c') (by decide) ((HZ2.out.grown HVn.out (by rw [HSZ.out]; have := HGL.out; omega)).low (by rw [HSZ.out]; exact Nat.le_refl _)) ((HL2.out.grown HVn.out (by rw [HSZ.out]; have := HGL.out; omega)).low (by rw [HSZ.out]; exact Nat.le_refl _)) HSn.out HGn.out (Nat.le_refl _) (Nat.lt_succ_self _) HGL.out)
      go_wp2_with fail
      refine bodyPost_ret (v := .agg #[.string ⟨#[84,105,108,101]⟩, .int .i64 κ, .int .i64 p, .int .i64 k, .int .i64 γ, .slice A n c, .int .i64 C, .slice A' n' c']) (by simp [results, Tryz.results18, go_sem, r0, r1, r2, r3, r4, r5, r6, r7]) rfl ?_
      exact HF.out
  by_cases y1 : y = 1
  · subst y1
    have n0 : ((1 : Int) == 0) = false := by decide
    obtain ⟨D, h3⟩ : ∃ D, IntKind.i64.wrap (3 - κ) = D := ⟨_, rfl⟩
    have hbd := (Below.refl w4.heap.size w4).drew
    have HFd := hide (heap_nextG HF4.out hbd)
    have HRd := hide (heap_nextG HR4.out hbd)
    have HSd := hide (HS4.out.below hbd HS4.out.lt)
    have HGd := hide (grown_blw HG4.out hbd HG4.out.size)
    have HVd := hide (grown_blw HV4.out hbd HV4.out.size)
    have HFLd := hide (show w2.heap.size < w4.drew.heap.size from HFL.out)
    clear hbd hy0 hy24
    obtain ⟨⟨t0, t1, t2, t3, t4, t5, t6, t7⟩, u0, u1, u2, u3, u4, u5, u6, u7⟩ := row8 HF4.out
    go_wp2_with fail
    clear t0 t1 t2 t3 t4 t5 t6 t7 u0 u1 u2 u3 u4 u5 u6 u7
    refine tail_begin (fun w' => w'.cell? ⟨w2.heap.size, 1, none⟩ = some (.int .i64 κ)) 9 (by kernel_rfl) (row8 HFd.out).1.2.1 (fun hS' => ?_)
    obtain ⟨wd, hwd⟩ : ∃ q, w4.drew = q := ⟨_, rfl⟩
    rw [hwd] at hS' HFd HRd HSd HGd HVd HFLd ⊢
    clear hwd
    refine tail_take 0 rfl (by kernel_rfl) (by kernel_rfl) (by kernel_rfl) (by kernel_rfl) (fun _ _ _ h => h) (by rfl) (v := ?_) ?_ (by assumption) ?_
    rotate_left 1
    · intro w' hS'; (try dsimp only at hS'); go_simp; try with_reducible rfl
    try simp only [Act.put, List.setIfInBounds_toArray, List.set_cons_zero, List.set_cons_succ]
    refine tail_take 1 rfl (by kernel_rfl) (by kernel_rfl) (by kernel_rfl) (by kernel_rfl) (fun _ _ _ h => h) (by rfl) (v := ?_) ?_ (by assumption) ?_
    rotate_left 1
    · intro w' hS'; (try dsimp only at hS'); go_simp; try with_reducible rfl
    try simp only [Act.put, List.setIfInBounds_toArray, List.set_cons_zero, List.set_cons_succ]
    refine tail_take 2 rfl (by kernel_rfl) (by kernel_rfl) (by kernel_rfl) (by kernel_rfl) (fun _ _ _ h => h) (by rfl) (v := ?_) ?_ (by assumption) ?_
    rotate_left 1
    · intro w' hS'; (try dsimp only at hS'); go_simp; try with_reducible rfl
    try simp only [Act.put, List.setIfInBounds_toArray, List.set_cons_zero, List.set_cons_succ]
    refine tail_take 4 rfl (by kernel_rfl) (by kernel_rfl) (by kernel_rfl) (by kernel_rfl) (fun _ _ _ h => h) (by rfl) (v := ?_) ?_ (by assumption) ?_
    rotate_left 1
    · intro w' hS'; (try dsimp only at hS'); go_simp; try with_reducible rfl
    try simp only [Act.put, List.setIfInBounds_toArray, List.set_cons_zero, List.set_cons_succ]
    refine tail_two 3 5 rfl rfl (by kernel_rfl) rfl rfl (fun K' hK => ?_) (fun K' hK => ?_)
    · go_simp
      have hbz : Below wd.heap.size wd (wd.alloc (.cells #[.int .i64 0, .int .i64 3, .int .i64 D] 2)) := (Below.refl _ _).alloc (Nat.le_refl _) _
      have HFa := hide (heap_nextG HFd.out hbz)
      have HRa := hide (heap_nextG HRd.out hbz)
      have HSa := hide (HSd.out.below hbz HSd.out.lt)
      have HGa := hide (grown_blw HGd.out hbz HGd.out.size)
      have HVa := hide (grown_blw HVd.out hbz HVd.out.size)
      have HO := hide (heap_alloc_new wd (.cells #[.int .i64 0, .int .i64 3, .int .i64 D] 2))
      obtain ⟨bO, hbO⟩ : ∃ b, wd.heap.size = b := ⟨_, rfl⟩
      have HBO := hide (show g < bO by rw [← hbO]; exact HSd.out.lt)
      refine hK.out _ _ (by (try dsimp only); exact (row8 HFa.out).1.2.1) (fun hS' => ?_)
      clear hK K'
      try simp only [Act.put, List.setIfInBounds_toArray, List.set_cons_zero, List.set_cons_succ]
      obtain ⟨wa, hwz⟩ : ∃ wz, wd.alloc (.cells #[.int .i64 0, .int .i64 3, .int .i64 D] 2) = wz := ⟨_, rfl⟩
      rw [hwz] at hS' HFa HRa HSa HGa HVa HO ⊢
      rw [hbO] at HO ⊢
      clear hwz hbz hbO
      refine tail_call 5 rfl (by kernel_rfl) rfl (fun K' hK => ?_)
      go_simp
      go_at_call 34; refine (HNX.out 3 _ HSa.out (by decide)).mono ?_; rintro e wb ⟨z, rfl, hz0, hz1, hSb, hgb⟩
      have HFb := hide (row_grownF HFa.out hgb (by have := HGL.out; have := HW12.out; omega))
      have HRb := hide (row_grownF HRa.out hgb (by have := HGL.out; have := HW12.out; omega))
      have HGb := hide (grown_one HGa.out hgb)
      have HVb := hide (grown_one HVa.out hgb)
      have HSb := hide hSb
      have HO' := hide (row_grownF HO.out hgb (by have := HBO.out; omega))
      clear HO
      have HO := HO'
      clear HO'
      clear hgb hSb
      refine hK.out _ _ (by (try dsimp only); exact (row8 HFb.out).1.2.1) (fun hS' => ?_)
      clear hK K'
      try simp only [Act.put, List.setIfInBounds_toArray, List.set_cons_zero, List.set_cons_succ]
      obtain ⟨i, hi, rfl⟩ : ∃ i : Nat, i < 3 ∧ z = i := ⟨z.toNat, by omega, by omega⟩
      clear hz0 hz1
      obtain rfl | rfl | rfl : i = 0 ∨ i = 1 ∨ i = 2 := by omega
      · have hkc := cell_of_row wb bO 0 _ _ _ HO.out
        refine tail_call 6 rfl (by kernel_rfl) rfl (fun K' hK => ?_)
        go_simp
        refine hK.out _ _ (by (try dsimp only); exact (row8 HFb.out).1.2.1) (fun hS' => ?_)
        clear hK K'
        try simp only [Act.put, List.setIfInBounds_toArray, List.set_cons_zero, List.set_cons_succ]
        refine tail_call 7 rfl (by kernel_rfl) rfl (fun K' hK => ?_)
        go_simp
        refine hK.out _ _ (by (try dsimp only); exact (row8 HFb.out).1.2.1) (fun hS' => ?_)
        clear hK K'
        try simp only [Act.put, List.setIfInBounds_toArray, List.set_cons_zero, List.set_cons_succ]
        refine tail_call 8 rfl (by kernel_rfl) rfl (fun K' hK => ?_)
        go_simp
        refine hK.out _ _ (by (try dsimp only); exact (row8 HFb.out).1.2.1) (fun hS' => ?_)
        clear hK K'
        try simp only [Act.put, List.setIfInBounds_toArray, List.set_cons_zero, List.set_cons_succ]
        obtain ⟨_, _, u1, _, _, _, _, _, _⟩ := row8 HFb.out
        refine tail_last 9 rfl (by kernel_rfl) (by kernel_rfl) rfl rfl (fun K' hK => ?_)
        go_simp
        refine hK.out _ _ ?_
        clear hK K' hS' u1
        try simp only [Act.put, List.setIfInBounds_toArray, List.set_cons_zero, List.set_cons_succ]
        have HFn := hide (heap_setCell_same wb w2.heap.size 1 _ _ (.int .i64 0) HFb.out)
        have HRn := hide (row_other1 HRb.out (show w.heap.size ≠ w2.heap.size by have := HW12.out; omega) 1 (.int .i64 0))
        have HSn := hide (HSb.out.set (b := w2.heap.size) (by have := HGL.out; have := HW12.out; omega) 1 (.int .i64 0))
        have HGn := hide (grown_set2 HGb.out w2.heap.size 1 (.int .i64 0) (by have := HW12.out; omega))
        have HVn := hide (grown_set2 HVb.out w2.heap.size 1 (.int .i64 0) (Nat.le_refl _))
        obtain ⟨⟨a0, a1, a2, a3, a4, a5, a6, a7⟩, _, _, _, _, _, _, _, _⟩ := row8 HFn.out
        obtain ⟨⟨r0, r1, r2, r3, r4, r5, r6, r7⟩, f0, f1, f2, f3, f4, f5, f6, f7⟩ := row8 HRn.out
        have HF := hide (drawn_fin (w := w) (R := w.heap.size) (p := p) (k := k) (γ := γ) (κ := 0) (s := s) (A := A) (A' := A') (c := c) (C := C) (c' := c') HSS.out ((HZ2.out.grown HVn.out (by rw [HSZ.out]; have := HGL.out; omega)).low (by rw [HSZ.out]; exact Nat.le_refl _)) ((HL2.out.grown HVn.out (by rw [HSZ.out]; have := HGL.out; omega)).low (by rw [HSZ.out]; exact Nat.le_refl _)) HSn.out HGn.out (Nat.le_refl _) (Nat.lt_succ_self _) HGL.out)
        go_wp2_with fail
        refine bodyPost_ret (v := .agg #[.string s, .int .i64 0, .int .i64 p, .int .i64 k, .int .i64 γ, .slice A n c, .int .i64 C, .slice A' n' c']) (by simp [results, Tryz.results18, go_sem, r0, r1, r2, r3, r4, r5, r6, r7]) rfl ?_
        exact HF.out
      · have hkc := cell_of_row wb bO 1 _ _ _ HO.out
        refine tail_call 6 rfl (by kernel_rfl) rfl (fun K' hK => ?_)
        go_simp
        refine hK.out _ _ (by (try dsimp only); exact (row8 HFb.out).1.2.1) (fun hS' => ?_)
        clear hK K'
        try simp only [Act.put, List.setIfInBounds_toArray, List.set_cons_zero, List.set_cons_succ]
        refine tail_call 7 rfl (by kernel_rfl) rfl (fun K' hK => ?_)
        go_simp
        refine hK.out _ _ (by (try dsimp only); exact (row8 HFb.out).1.2.1) (fun hS' => ?_)
        clear hK K'
        try simp only [Act.put, List.setIfInBounds_toArray, List.set_cons_zero, List.set_cons_succ]
        refine tail_call 8 rfl (by kernel_rfl) rfl (fun K' hK => ?_)
        go_simp
        refine hK.out _ _ (by (try dsimp only); exact (row8 HFb.out).1.2.1) (fun hS' => ?_)
        clear hK K'
        try simp only [Act.put, List.setIfInBounds_toArray, List.set_cons_zero, List.set_cons_succ]
        obtain ⟨_, _, u1, _, _, _, _, _, _⟩ := row8 HFb.out
        refine tail_last 9 rfl (by kernel_rfl) (by kernel_rfl) rfl rfl (fun K' hK => ?_)
        go_simp
        refine hK.out _ _ ?_
        clear hK K' hS' u1
        try simp only [Act.put, List.setIfInBounds_toArray, List.set_cons_zero, List.set_cons_succ]
        have HFn := hide (heap_setCell_same wb w2.heap.size 1 _ _ (.int .i64 3) HFb.out)
        have HRn := hide (row_other1 HRb.out (show w.heap.size ≠ w2.heap.size by have := HW12.out; omega) 1 (.int .i64 3))
        have HSn := hide (HSb.out.set (b := w2.heap.size) (by have := HGL.out; have := HW12.out; omega) 1 (.int .i64 3))
        have HGn := hide (grown_set2 HGb.out w2.heap.size 1 (.int .i64 3) (by have := HW12.out; omega))
        have HVn := hide (grown_set2 HVb.out w2.heap.size 1 (.int .i64 3) (Nat.le_refl _))
        obtain ⟨⟨a0, a1, a2, a3, a4, a5, a6, a7⟩, _, _, _, _, _, _, _, _⟩ := row8 HFn.out
        obtain ⟨⟨r0, r1, r2, r3, r4, r5, r6, r7⟩, f0, f1, f2, f3, f4, f5, f6, f7⟩ := row8 HRn.out
        have HF := hide (drawn_fin (w := w) (R := w.heap.size) (p := p) (k := k) (γ := γ) (κ := 3) (s := s) (A := A) (A' := A') (c := c) (C := C) (c' := c') HSS.out ((HZ2.out.grown HVn.out (by rw [HSZ.out]; have := HGL.out; omega)).low (by rw [HSZ.out]; exact Nat.le_refl _)) ((HL2.out.grown HVn.out (by rw [HSZ.out]; have := HGL.out; omega)).low (by rw [HSZ.out]; exact Nat.le_refl _)) HSn.out HGn.out (Nat.le_refl _) (Nat.lt_succ_self _) HGL.out)
        go_wp2_with fail
        refine bodyPost_ret (v := .agg #[.string s, .int .i64 3, .int .i64 p, .int .i64 k, .int .i64 γ, .slice A n c, .int .i64 C, .slice A' n' c']) (by simp [results, Tryz.results18, go_sem, r0, r1, r2, r3, r4, r5, r6, r7]) rfl ?_
        exact HF.out
      · have hkc := cell_of_row wb bO 2 _ _ _ HO.out
        refine tail_call 6 rfl (by kernel_rfl) rfl (fun K' hK => ?_)
        go_simp
        refine hK.out _ _ (by (try dsimp only); exact (row8 HFb.out).1.2.1) (fun hS' => ?_)
        clear hK K'
        try simp only [Act.put, List.setIfInBounds_toArray, List.set_cons_zero, List.set_cons_succ]
        refine tail_call 7 rfl (by kernel_rfl) rfl (fun K' hK => ?_)
        go_simp
        refine hK.out _ _ (by (try dsimp only); exact (row8 HFb.out).1.2.1) (fun hS' => ?_)
        clear hK K'
        try simp only [Act.put, List.setIfInBounds_toArray, List.set_cons_zero, List.set_cons_succ]
        refine tail_call 8 rfl (by kernel_rfl) rfl (fun K' hK => ?_)
        go_simp
        refine hK.out _ _ (by (try dsimp only); exact (row8 HFb.out).1.2.1) (fun hS' => ?_)
        clear hK K'
        try simp only [Act.put, List.setIfInBounds_toArray, List.set_cons_zero, List.set_cons_succ]
        obtain ⟨_, _, u1, _, _, _, _, _, _⟩ := row8 HFb.out
        refine tail_last 9 rfl (by kernel_rfl) (by kernel_rfl) rfl rfl (fun K' hK => ?_)
        go_simp
        refine hK.out _ _ ?_
        clear hK K' hS' u1
        try simp only [Act.put, List.setIfInBounds_toArray, List.set_cons_zero, List.set_cons_succ]
        have HFn := hide (heap_setCell_same wb w2.heap.size 1 _ _ (.int .i64 D) HFb.out)
        have HRn := hide (row_other1 HRb.out (show w.heap.size ≠ w2.heap.size by have := HW12.out; omega) 1 (.int .i64 D))
        have HSn := hide (HSb.out.set (b := w2.heap.size) (by have := HGL.out; have := HW12.out; omega) 1 (.int .i64 D))
        have HGn := hide (grown_set2 HGb.out w2.heap.size 1 (.int .i64 D) (by have := HW12.out; omega))
        have HVn := hide (grown_set2 HVb.out w2.heap.size 1 (.int .i64 D) (Nat.le_refl _))
        obtain ⟨⟨a0, a1, a2, a3, a4, a5, a6, a7⟩, _, _, _, _, _, _, _, _⟩ := row8 HFn.out
        obtain ⟨⟨r0, r1, r2, r3, r4, r5, r6, r7⟩, f0, f1, f2, f3, f4, f5, f6, f7⟩ := row8 HRn.out
        have HF := hide (drawn_fin (w := w) (R := w.heap.size) (p := p) (k := k) (γ := γ) (κ := D) (s := s) (A := A) (A' := A') (c := c) (C := C) (c' := c') HSS.out ((HZ2.out.grown HVn.out (by rw [HSZ.out]; have := HGL.out; omega)).low (by rw [HSZ.out]; exact Nat.le_refl _)) ((HL2.out.grown HVn.out (by rw [HSZ.out]; have := HGL.out; omega)).low (by rw [HSZ.out]; exact Nat.le_refl _)) HSn.out HGn.out (Nat.le_refl _) (Nat.lt_succ_self _) HGL.out)
        go_wp2_with fail
        refine bodyPost_ret (v := .agg #[.string s, .int .i64 D, .int .i64 p, .int .i64 k, .int .i64 γ, .slice A n c, .int .i64 C, .slice A' n' c']) (by simp [results, Tryz.results18, go_sem, r0, r1, r2, r3, r4, r5, r6, r7]) rfl ?_
        exact HF.out
    · go_simp
      go_at_call 34; refine (HNX.out 3 _ HSd.out (by decide)).mono ?_; rintro e wa ⟨z, rfl, hz0, hz1, hSb, hgb⟩
      have HFa := hide (row_grownF HFd.out hgb (by have := HGL.out; have := HW12.out; omega))
      have HRa := hide (row_grownF HRd.out hgb (by have := HGL.out; have := HW12.out; omega))
      have HGa := hide (grown_one HGd.out hgb)
      have HVa := hide (grown_one HVd.out hgb)
      have HSa := hide hSb
      clear hgb hSb
      refine hK.out _ _ (by (try dsimp only); exact (row8 HFa.out).1.2.1) (fun hS' => ?_)
      clear hK K'
      try simp only [Act.put, List.setIfInBounds_toArray, List.set_cons_zero, List.set_cons_succ]
      refine tail_call 3 rfl (by kernel_rfl) rfl (fun K' hK => ?_)
      go_simp
      have hbz : Below wa.heap.size wa (wa.alloc (.cells #[.int .i64 0, .int .i64 3, .int .i64 D] 2)) := (Below.refl _ _).alloc (Nat.le_refl _) _
      have HFb := hide (heap_nextG HFa.out hbz)
      have HRb := hide (heap_nextG HRa.out hbz)
      have HSb := hide (HSa.out.below hbz HSa.out.lt)
      have HGb := hide (grown_blw HGa.out hbz HGa.out.size)
      have HVb := hide (grown_blw HVa.out hbz HVa.out.size)
      have HO := hide (heap_alloc_new wa (.cells #[.int .i64 0, .int .i64 3, .int .i64 D] 2))
      obtain ⟨bO, hbO⟩ : ∃ b, wa.heap.size = b := ⟨_, rfl⟩
      have HBO := hide (show g < bO by rw [← hbO]; exact HSa.out.lt)
      refine hK.out _ _ (by (try dsimp only); exact (row8 HFb.out).1.2.1) (fun hS' => ?_)
      clear hK K'
      try simp only [Act.put, List.setIfInBounds_toArray, List.set_cons_zero, List.set_cons_succ]
      obtain ⟨wb, hwz⟩ : ∃ wz, wa.alloc (.cells #[.int .i64 0, .int .i64 3, .int .i64 D] 2) = wz := ⟨_, rfl⟩
      rw [hwz] at hS' HFb HRb HSb HGb HVb HO ⊢
      rw [hbO] at HO ⊢
      clear hwz hbz hbO
      obtain ⟨i, hi, rfl⟩ : ∃ i : Nat, i < 3 ∧ z = i := ⟨z.toNat, by omega, by omega⟩
      clear hz0 hz1
      obtain rfl | rfl | rfl : i = 0 ∨ i = 1 ∨ i = 2 := by omega
      · have hkc := cell_of_row wb bO 0 _ _ _ HO.out
        refine tail_call 6 rfl (by kernel_rfl) rfl (fun K' hK => ?_)
        go_simp
        refine hK.out _ _ (by (try dsimp only); exact (row8 HFb.out).1.2.1) (fun hS' => ?_)
        clear hK K'
        try simp only [Act.put, List.setIfInBounds_toArray, List.set_cons_zero, List.set_cons_succ]
        refine tail_call 7 rfl (by kernel_rfl) rfl (fun K' hK => ?_)
        go_simp
        refine hK.out _ _ (by (try dsimp only); exact (row8 HFb.out).1.2.1) (fun hS' => ?_)
        clear hK K'
        try simp only [Act.put, List.setIfInBounds_toArray, List.set_cons_zero, List.set_cons_succ]
        refine tail_call 8 rfl (by kernel_rfl) rfl (fun K' hK => ?_)
        go_simp
        refine hK.out _ _ (by (try dsimp only); exact (row8 HFb.out).1.2.1) (fun hS' => ?_)
        clear hK K'
        try simp only [Act.put, List.setIfInBounds_toArray, List.set_cons_zero, List.set_cons_succ]
        obtain ⟨_, _, u1, _, _, _, _, _, _⟩ := row8 HFb.out
        refine tail_last 9 rfl (by kernel_rfl) (by kernel_rfl) rfl rfl (fun K' hK => ?_)
        go_simp
        refine hK.out _ _ ?_
        clear hK K' hS' u1
        try simp only [Act.put, List.setIfInBounds_toArray, List.set_cons_zero, List.set_cons_succ]
        have HFn := hide (heap_setCell_same wb w2.heap.size 1 _ _ (.int .i64 0) HFb.out)
        have HRn := hide (row_other1 HRb.out (show w.heap.size ≠ w2.heap.size by have := HW12.out; omega) 1 (.int .i64 0))
        have HSn := hide (HSb.out.set (b := w2.heap.size) (by have := HGL.out; have := HW12.out; omega) 1 (.int .i64 0))
        have HGn := hide (grown_set2 HGb.out w2.heap.size 1 (.int .i64 0) (by have := HW12.out; omega))
        have HVn := hide (grown_set2 HVb.out w2.heap.size 1 (.int .i64 0) (Nat.le_refl _))
        obtain ⟨⟨a0, a1, a2, a3, a4, a5, a6, a7⟩, _, _, _, _, _, _, _, _⟩ := row8 HFn.out
        obtain ⟨⟨r0, r1, r2, r3, r4, r5, r6, r7⟩, f0, f1, f2, f3, f4, f5, f6, f7⟩ := row8 HRn.out
        have HF := hide (drawn_fin (w := w) (R := w.heap.size) (p := p) (k := k) (γ := γ) (κ := 0) (s := s) (A := A) (A' := A') (c := c) (C := C) (c' := c') HSS.out ((HZ2.out.grown HVn.out (by rw [HSZ.out]; have := HGL.out; omega)).low (by rw [HSZ.out]; exact Nat.le_refl _)) ((HL2.out.grown HVn.out (by rw [HSZ.out]; have := HGL.out; omega)).low (by rw [HSZ.out]; exact Nat.le_refl _)) HSn.out HGn.out (Nat.le_refl _) (Nat.lt_succ_self _) HGL.out)
        go_wp2_with fail
        refine bodyPost_ret (v := .agg #[.string s, .int .i64 0, .int .i64 p, .int .i64 k, .int .i64 γ, .slice A n c, .int .i64 C, .slice A' n' c']) (by simp [results, Tryz.results18, go_sem, r0, r1, r2, r3, r4, r5, r6, r7]) rfl ?_
        exact HF.out
      · have hkc := cell_of_row wb bO 1 _ _ _ HO.out
        refine tail_call 6 rfl (by kernel_rfl) rfl (fun K' hK => ?_)
        go_simp
        refine hK.out _ _ (by (try dsimp only); exact (row8 HFb.out).1.2.1) (fun hS' => ?_)
        clear hK K'
        try simp only [Act.put, List.setIfInBounds_toArray, List.set_cons_zero, List.set_cons_succ]
        refine tail_call 7 rfl (by kernel_rfl) rfl (fun K' hK => ?_)
        go_simp
        refine hK.out _ _ (by (try dsimp only); exact (row8 HFb.out).1.2.1) (fun hS' => ?_)
        clear hK K'
        try simp only [Act.put, List.setIfInBounds_toArray, List.set_cons_zero, List.set_cons_succ]
        refine tail_call 8 rfl (by kernel_rfl) rfl (fun K' hK => ?_)
        go_simp
        refine hK.out _ _ (by (try dsimp only); exact (row8 HFb.out).1.2.1) (fun hS' => ?_)
        clear hK K'
        try simp only [Act.put, List.setIfInBounds_toArray, List.set_cons_zero, List.set_cons_succ]
        obtain ⟨_, _, u1, _, _, _, _, _, _⟩ := row8 HFb.out
        refine tail_last 9 rfl (by kernel_rfl) (by kernel_rfl) rfl rfl (fun K' hK => ?_)
        go_simp
        refine hK.out _ _ ?_
        clear hK K' hS' u1
        try simp only [Act.put, List.setIfInBounds_toArray, List.set_cons_zero, List.set_cons_succ]
        have HFn := hide (heap_setCell_same wb w2.heap.size 1 _ _ (.int .i64 3) HFb.out)
        have HRn := hide (row_other1 HRb.out (show w.heap.size ≠ w2.heap.size by have := HW12.out; omega) 1 (.int .i64 3))
        have HSn := hide (HSb.out.set (b := w2.heap.size) (by have := HGL.out; have := HW12.out; omega) 1 (.int .i64 3))
        have HGn := hide (grown_set2 HGb.out w2.heap.size 1 (.int .i64 3) (by have := HW12.out; omega))
        have HVn := hide (grown_set2 HVb.out w2.heap.size 1 (.int .i64 3) (Nat.le_refl _))
        obtain ⟨⟨a0, a1, a2, a3, a4, a5, a6, a7⟩, _, _, _, _, _, _, _, _⟩ := row8 HFn.out
        obtain ⟨⟨r0, r1, r2, r3, r4, r5, r6, r7⟩, f0, f1, f2, f3, f4, f5, f6, f7⟩ := row8 HRn.out
        have HF := hide (drawn_fin (w := w) (R := w.heap.size) (p := p) (k := k) (γ := γ) (κ := 3) (s := s) (A := A) (A' := A') (c := c) (C := C) (c' := c') HSS.out ((HZ2.out.grown HVn.out (by rw [HSZ.out]; have := HGL.out; omega)).low (by rw [HSZ.out]; exact Nat.le_refl _)) ((HL2.out.grown HVn.out (by rw [HSZ.out]; have := HGL.out; omega)).low (by rw [HSZ.out]; exact Nat.le_refl _)) HSn.out HGn.out (Nat.le_refl _) (Nat.lt_succ_self _) HGL.out)
        go_wp2_with fail
        refine bodyPost_ret (v := .agg #[.string s, .int .i64 3, .int .i64 p, .int .i64 k, .int .i64 γ, .slice A n c, .int .i64 C, .slice A' n' c']) (by simp [results, Tryz.results18, go_sem, r0, r1, r2, r3, r4, r5, r6, r7]) rfl ?_
        exact HF.out
      · have hkc := cell_of_row wb bO 2 _ _ _ HO.out
        refine tail_call 6 rfl (by kernel_rfl) rfl (fun K' hK => ?_)
        go_simp
        refine hK.out _ _ (by (try dsimp only); exact (row8 HFb.out).1.2.1) (fun hS' => ?_)
        clear hK K'
        try simp only [Act.put, List.setIfInBounds_toArray, List.set_cons_zero, List.set_cons_succ]
        refine tail_call 7 rfl (by kernel_rfl) rfl (fun K' hK => ?_)
        go_simp
        refine hK.out _ _ (by (try dsimp only); exact (row8 HFb.out).1.2.1) (fun hS' => ?_)
        clear hK K'
        try simp only [Act.put, List.setIfInBounds_toArray, List.set_cons_zero, List.set_cons_succ]
        refine tail_call 8 rfl (by kernel_rfl) rfl (fun K' hK => ?_)
        go_simp
        refine hK.out _ _ (by (try dsimp only); exact (row8 HFb.out).1.2.1) (fun hS' => ?_)
        clear hK K'
        try simp only [Act.put, List.setIfInBounds_toArray, List.set_cons_zero, List.set_cons_succ]
        obtain ⟨_, _, u1, _, _, _, _, _, _⟩ := row8 HFb.out
        refine tail_last 9 rfl (by kernel_rfl) (by kernel_rfl) rfl rfl (fun K' hK => ?_)
        go_simp
        refine hK.out _ _ ?_
        clear hK K' hS' u1
        try simp only [Act.put, List.setIfInBounds_toArray, List.set_cons_zero, List.set_cons_succ]
        have HFn := hide (heap_setCell_same wb w2.heap.size 1 _ _ (.int .i64 D) HFb.out)
        have HRn := hide (row_other1 HRb.out (show w.heap.size ≠ w2.heap.size by have := HW12.out; omega) 1 (.int .i64 D))
        have HSn := hide (HSb.out.set (b := w2.heap.size) (by have := HGL.out; have := HW12.out; omega) 1 (.int .i64 D))
        have HGn := hide (grown_set2 HGb.out w2.heap.size 1 (.int .i64 D) (by have := HW12.out; omega))
        have HVn := hide (grown_set2 HVb.out w2.heap.size 1 (.int .i64 D) (Nat.le_refl _))
        obtain ⟨⟨a0, a1, a2, a3, a4, a5, a6, a7⟩, _, _, _, _, _, _, _, _⟩ := row8 HFn.out
        obtain ⟨⟨r0, r1, r2, r3, r4, r5, r6, r7⟩, f0, f1, f2, f3, f4, f5, f6, f7⟩ := row8 HRn.out
        have HF := hide (drawn_fin (w := w) (R := w.heap.size) (p := p) (k := k) (γ := γ) (κ := D) (s := s) (A := A) (A' := A') (c := c) (C := C) (c' := c') HSS.out ((HZ2.out.grown HVn.out (by rw [HSZ.out]; have := HGL.out; omega)).low (by rw [HSZ.out]; exact Nat.le_refl _)) ((HL2.out.grown HVn.out (by rw [HSZ.out]; have := HGL.out; omega)).low (by rw [HSZ.out]; exact Nat.le_refl _)) HSn.out HGn.out (Nat.le_refl _) (Nat.lt_succ_self _) HGL.out)
        go_wp2_with fail
        refine bodyPost_ret (v := .agg #[.string s, .int .i64 D, .int .i64 p, .int .i64 k, .int .i64 γ, .slice A n c, .int .i64 C, .slice A' n' c']) (by simp [results, Tryz.results18, go_sem, r0, r1, r2, r3, r4, r5, r6, r7]) rfl ?_
        exact HF.out
  by_cases y2 : y = 2
  · subst y2
    have n0 : ((2 : Int) == 0) = false := by decide
    have n1 : ((2 : Int) == 1) = false := by decide
    obtain ⟨w5, hw5⟩ : ∃ w5, (((((((w4.alloc (.cells #[.int .i64 17, .int .i64 17] 2)).alloc (.cells #[.int .i64 13, .int .i64 17] 2)).alloc (.cells #[.int .i64 41, .int .i64 45] 2)).alloc (.cells #[.int .i64 18] 2)).alloc (.cells #[.int .i64 3] 2)).alloc (.cells #[.int .i64 25] 2)).alloc (.cells #[.slice none 0 0, .slice (some ⟨w4.heap.size, 0, none⟩) 2 2, .slice (some ⟨w4.heap.size + 1, 0, none⟩) 2 2, .slice (some ⟨w4.heap.size + 1 + 1, 0, none⟩) 2 2, .slice (some ⟨w4.heap.size + 1 + 1 + 1, 0, none⟩) 1 1, .slice (some ⟨w4.heap.size + 1 + 1 + 1 + 1, 0, none⟩) 1 1, .slice (some ⟨w4.heap.size + 1 + 1 + 1 + 1 + 1, 0, none⟩) 1 1] 26)) = w5 := ⟨_, rfl⟩
    have hb5 : Below w4.heap.size w4 w5 := by rw [← hw5]; exact chain_below [.cells #[.int .i64 17, .int .i64 17] 2, .cells #[.int .i64 13, .int .i64 17] 2, .cells #[.int .i64 41, .int .i64 45] 2, .cells #[.int .i64 18] 2, .cells #[.int .i64 3] 2, .cells #[.int .i64 25] 2, .cells #[.slice none 0 0, .slice (some ⟨w4.heap.size, 0, none⟩) 2 2, .slice (some ⟨w4.heap.size + 1, 0, none⟩) 2 2, .slice (some ⟨w4.heap.size + 1 + 1, 0, none⟩) 2 2, .slice (some ⟨w4.heap.size + 1 + 1 + 1, 0, none⟩) 1 1, .slice (some ⟨w4.heap.size + 1 + 1 + 1 + 1, 0, none⟩) 1 1, .slice (some ⟨w4.heap.size + 1 + 1 + 1 + 1 + 1, 0, none⟩) 1 1] 26] w4
    have HO0 := hide (show w5.heap[w4.heap.size + 0]? = some (.cells #[.int .i64 17, .int .i64 17] 2) by rw [← hw5]; exact chain_get [.cells #[.int .i64 17, .int .i64 17] 2, .cells #[.int .i64 13, .int .i64 17] 2, .cells #[.int .i64 41, .int .i64 45] 2, .cells #[.int .i64 18] 2, .cells #[.int .i64 3] 2, .cells #[.int .i64 25] 2, .cells #[.slice none 0 0, .slice (some ⟨w4.heap.size, 0, none⟩) 2 2, .slice (some ⟨w4.heap.size + 1, 0, none⟩) 2 2, .slice (some ⟨w4.heap.size + 1 + 1, 0, none⟩) 2 2, .slice (some ⟨w4.heap.size + 1 + 1 + 1, 0, none⟩) 1 1, .slice (some ⟨w4.heap.size + 1 + 1 + 1 + 1, 0, none⟩) 1 1, .slice (some ⟨w4.heap.size + 1 + 1 + 1 + 1 + 1, 0, none⟩) 1 1] 26] w4 0 _ rfl)
    have HO1 := hide (show w5.heap[w4.heap.size + 1]? = some (.cells #[.int .i64 13, .int .i64 17] 2) by rw [← hw5]; exact chain_get [.cells #[.int .i64 17, .int .i64 17] 2, .cells #[.int .i64 13, .int .i64 17] 2, .cells #[.int .i64 41, .int .i64 45] 2, .cells #[.int .i64 18] 2, .cells #[.int .i64 3] 2, .cells #[.int .i64 25] 2, .cells #[.slice none 0 0, .slice (some ⟨w4.heap.size, 0, none⟩) 2 2, .slice (some ⟨w4.heap.size + 1, 0, none⟩) 2 2, .slice (some ⟨w4.heap.size + 1 + 1, 0, none⟩) 2 2, .slice (some ⟨w4.heap.size + 1 + 1 + 1, 0, none⟩) 1 1, .slice (some ⟨w4.heap.size + 1 + 1 + 1 + 1, 0, none⟩) 1 1, .slice (some ⟨w4.heap.size + 1 + 1 + 1 + 1 + 1, 0, none⟩) 1 1] 26] w4 1 _ rfl)
    have HO2 := hide (show w5.heap[w4.heap.size + 2]? = some (.cells #[.int .i64 41, .int .i64 45] 2) by rw [← hw5]; exact chain_get [.cells #[.int .i64 17, .int .i64 17] 2, .cells #[.int .i64 13, .int .i64 17] 2, .cells #[.int .i64 41, .int .i64 45] 2, .cells #[.int .i64 18] 2, .cells #[.int .i64 3] 2, .cells #[.int .i64 25] 2, .cells #[.slice none 0 0, .slice (some ⟨w4.heap.size, 0, none⟩) 2 2, .slice (some ⟨w4.heap.size + 1, 0, none⟩) 2 2, .slice (some ⟨w4.heap.size + 1 + 1, 0, none⟩) 2 2, .slice (some ⟨w4.heap.size + 1 + 1 + 1, 0, none⟩) 1 1, .slice (some ⟨w4.heap.size + 1 + 1 + 1 + 1, 0, none⟩) 1 1, .slice (some ⟨w4.heap.size + 1 + 1 + 1 + 1 + 1, 0, none⟩) 1 1] 26] w4 2 _ rfl)
    have HO3 := hide (show w5.heap[w4.heap.size + 3]? = some (.cells #[.int .i64 18] 2) by rw [← hw5]; exact chain_get [.cells #[.int .i64 17, .int .i64 17] 2, .cells #[.int .i64 13, .int .i64 17] 2, .cells #[.int .i64 41, .int .i64 45] 2, .cells #[.int .i64 18] 2, .cells #[.int .i64 3] 2, .cells #[.int .i64 25] 2, .cells #[.slice none 0 0, .slice (some ⟨w4.heap.size, 0, none⟩) 2 2, .slice (some ⟨w4.heap.size + 1, 0, none⟩) 2 2, .slice (some ⟨w4.heap.size + 1 + 1, 0, none⟩) 2 2, .slice (some ⟨w4.heap.size + 1 + 1 + 1, 0, none⟩) 1 1, .slice (some ⟨w4.heap.size + 1 + 1 + 1 + 1, 0, none⟩) 1 1, .slice (some ⟨w4.heap.size + 1 + 1 + 1 + 1 + 1, 0, none⟩) 1 1] 26] w4 3 _ rfl)
    have HO4 := hide (show w5.heap[w4.heap.size + 4]? = some (.cells #[.int .i64 3] 2) by rw [← hw5]; exact chain_get [.cells #[.int .i64 17, .int .i64 17] 2, .cells #[.int .i64 13, .int .i64 17] 2, .cells #[.int .i64 41, .int .i64 45] 2, .cells #[.int .i64 18] 2, .cells #[.int .i64 3] 2, .cells #[.int .i64 25] 2, .cells #[.slice none 0 0, .slice (some ⟨w4.heap.size, 0, none⟩) 2 2, .slice (some ⟨w4.heap.size + 1, 0, none⟩) 2 2, .slice (some ⟨w4.heap.size + 1 + 1, 0, none⟩) 2 2, .slice (some ⟨w4.heap.size + 1 + 1 + 1, 0, none⟩) 1 1, .slice (some ⟨w4.heap.size + 1 + 1 + 1 + 1, 0, none⟩) 1 1, .slice (some ⟨w4.heap.size + 1 + 1 + 1 + 1 + 1, 0, none⟩) 1 1] 26] w4 4 _ rfl)
    have HO5 := hide (show w5.heap[w4.heap.size + 5]? = some (.cells #[.int .i64 25] 2) by rw [← hw5]; exact chain_get [.cells #[.int .i64 17, .int .i64 17] 2, .cells #[.int .i64 13, .int .i64 17] 2, .cells #[.int .i64 41, .int .i64 45] 2, .cells #[.int .i64 18] 2, .cells #[.int .i64 3] 2, .cells #[.int .i64 25] 2, .cells #[.slice none 0 0, .slice (some ⟨w4.heap.size, 0, none⟩) 2 2, .slice (some ⟨w4.heap.size + 1, 0, none⟩) 2 2, .slice (some ⟨w4.heap.size + 1 + 1, 0, none⟩) 2 2, .slice (some ⟨w4.heap.size + 1 + 1 + 1, 0, none⟩) 1 1, .slice (some ⟨w4.heap.size + 1 + 1 + 1 + 1, 0, none⟩) 1 1, .slice (some ⟨w4.heap.size + 1 + 1 + 1 + 1 + 1, 0, none⟩) 1 1] 26] w4 5 _ rfl)
    have HO6 := hide (show w5.heap[w4.heap.size + 6]? = some (.cells #[.slice none 0 0, .slice (some ⟨w4.heap.size, 0, none⟩) 2 2, .slice (some ⟨w4.heap.size + 1, 0, none⟩) 2 2, .slice (some ⟨w4.heap.size + 1 + 1, 0, none⟩) 2 2, .slice (some ⟨w4.heap.size + 1 + 1 + 1, 0, none⟩) 1 1, .slice (some ⟨w4.heap.size + 1 + 1 + 1 + 1, 0, none⟩) 1 1, .slice (some ⟨w4.heap.size + 1 + 1 + 1 + 1 + 1, 0, none⟩) 1 1] 26) by rw [← hw5]; exact chain_get [.cells #[.int .i64 17, .int .i64 17] 2, .cells #[.int .i64 13, .int .i64 17] 2, .cells #[.int .i64 41, .int .i64 45] 2, .cells #[.int .i64 18] 2, .cells #[.int .i64 3] 2, .cells #[.int .i64 25] 2, .cells #[.slice none 0 0, .slice (some ⟨w4.heap.size, 0, none⟩) 2 2, .slice (some ⟨w4.heap.size + 1, 0, none⟩) 2 2, .slice (some ⟨w4.heap.size + 1 + 1, 0, none⟩) 2 2, .slice (some ⟨w4.heap.size + 1 + 1 + 1, 0, none⟩) 1 1, .slice (some ⟨w4.heap.size + 1 + 1 + 1 + 1, 0, none⟩) 1 1, .slice (some ⟨w4.heap.size + 1 + 1 + 1 + 1 + 1, 0, none⟩) 1 1] 26] w4 6 _ rfl)
    have HF5 := hide (heap_nextG HF4.out hb5)
    have HR5 := hide (heap_nextG HR4.out hb5)
    have HS5 := hide (HS4.out.below hb5 (by have := HS4.out.lt; omega))
    have HG5 := hide (grown_blw HG4.out hb5 HG4.out.size)
    have HV5 := hide (grown_blw HV4.out hb5 HV4.out.size)
    clear hb5 hy0 hy24
    go_wp2_with fail
    (try rw [hw5])
    clear hw5
    refine (HNX.out 7 _ HS5.out (by decide)).mono ?_
    rintro e w6 ⟨z, rfl, hz0, hz1, hS6, hg6⟩
    have hg4l := HS4.out.lt
    have HF6 := hide (row_grownF HF5.out hg6 (by have := HGL.out; have := HW12.out; omega))
    have HR6 := hide (row_grownF HR5.out hg6 (by have := HGL.out; omega))
    have HS6 := hide hS6
    have HG6 := hide (grown_one HG5.out hg6)
    have HV6 := hide (grown_one HV5.out hg6)
    have hKr := row_grownF HO6.out hg6 (by omega)
    have HKC := hide (fun j => cell_of_row w6 (w4.heap.size + 6) j _ _ _ hKr)
    have HQ0 := hide (row_grownF HO0.out hg6 (by omega))
    have HQ1 := hide (row_grownF HO1.out hg6 (by omega))
    have HQ2 := hide (row_grownF HO2.out hg6 (by omega))
    have HQ3 := hide (row_grownF HO3.out hg6 (by omega))
    have HQ4 := hide (row_grownF HO4.out hg6 (by omega))
    have HQ5 := hide (row_grownF HO5.out hg6 (by omega))
    clear hKr hS6 hg6 hg4l
    obtain ⟨i, hi, rfl⟩ : ∃ i : Nat, i < 7 ∧ z = i := ⟨z.toNat, by omega, by omega⟩
    clear hz0 hz1
    obtain ⟨⟨t0, t1, t2, t3, t4, t5, t6, t7⟩, u0, u1, u2, u3, u4, u5, u6, u7⟩ := row8 HF6.out
    obtain rfl | rfl | rfl | rfl | rfl | rfl | rfl : i = 0 ∨ i = 1 ∨ i = 2 ∨ i = 3 ∨ i = 4 ∨ i = 5 ∨ i = 6 := by omega
    · have hkc := HKC.out 0
      have HFn := hide (heap_setCell_same w6 w2.heap.size 5 _ _ (.slice none 0 0) HF6.out)
      have HRn := hide (row_other1 HR6.out (show w.heap.size ≠ w2.heap.size by have := HW12.out; omega) 5 (.slice none 0 0))
      have HSn := hide (HS6.out.set (b := w2.heap.size) (by have := HGL.out; have := HW12.out; omega) 5 (.slice none 0 0))
      have HGn := hide (grown_set2 HG6.out w2.heap.size 5 (.slice none 0 0) (by have := HW12.out; omega))
      have HVn := hide (grown_set2 HV6.out w2.heap.size 5 (.slice none 0 0) (Nat.le_refl _))
      obtain ⟨⟨a0, a1, a2, a3, a4, a5, a6, a7⟩, _, _, _, _, _, _, _, _⟩ := row8 HFn.out
      obtain ⟨⟨r0, r1, r2, r3, r4, r5, r6, r7⟩, f0, f1, f2, f3, f4, f5, f6, f7⟩ := row8 HRn.out
      have HF := hide (drawn_fin (w := w) (R := w.heap.size) (p := p) (k := k) (γ := γ) (κ := κ) (s := s) (A := none) (A' := A') (c := 0) (C := C) (c' := c') HSS.out (FixI.nil _ _ _) ((HL2.out.grown HVn.out (by rw [HSZ.out]; have := HGL.out; omega)).low (by rw [HSZ.out]; exact Nat.le_refl _)) HSn.out HGn.out (Nat.le_refl _) (Nat.lt_succ_self _) HGL.out)
      go_wp2_with fail
      refine bodyPost_ret (v := .agg #[.string s, .int .i64 κ, .int .i64 p, .int .i64 k, .int .i64 γ, .slice none 0 0, .int .i64 C, .slice A' n' c']) (by simp [results, Tryz.results18, go_sem, r0, r1, r2, r3, r4, r5, r6, r7]) rfl ?_
      exact HF.out
    · have hkc := HKC.out 1
      have HFn := hide (heap_setCell_same w6 w2.heap.size 5 _ _ (.slice (some ⟨w4.heap.size, 0, none⟩) 2 2) HF6.out)
      have HRn := hide (row_other1 HR6.out (show w.heap.size ≠ w2.heap.size by have := HW12.out; omega) 5 (.slice (some ⟨w4.heap.size, 0, none⟩) 2 2))
      have HSn := hide (HS6.out.set (b := w2.heap.size) (by have := HGL.out; have := HW12.out; omega) 5 (.slice (some ⟨w4.heap.size, 0, none⟩) 2 2))
      have HGn := hide (grown_set2 HG6.out w2.heap.size 5 (.slice (some ⟨w4.heap.size, 0, none⟩) 2 2) (by have := HW12.out; omega))
      have HVn := hide (grown_set2 HV6.out w2.heap.size 5 (.slice (some ⟨w4.heap.size, 0, none⟩) 2 2) (Nat.le_refl _))
      have HNW := hide (((FixI.row (zs := [17, 17]) (lo := w4.heap.size) HQ0.out (by omega) (by decide)).set (b := w2.heap.size) HFL.out 5 (.slice (some ⟨w4.heap.size, 0, none⟩) 2 2)).low (by have := HG4.out.size; have := HW12.out; have := HFL.out; omega : w.heap.size + 1 ≤ w4.heap.size))
      obtain ⟨⟨a0, a1, a2, a3, a4, a5, a6, a7⟩, _, _, _, _, _, _, _, _⟩ := row8 HFn.out
      obtain ⟨⟨r0, r1, r2, r3, r4, r5, r6, r7⟩, f0, f1, f2, f3, f4, f5, f6, f7⟩ := row8 HRn.out
      have HF := hide (drawn_fin (w := w) (R := w.heap.size) (p := p) (k := k) (γ := γ) (κ := κ) (s := s) (A := (some ⟨w4.heap.size, 0, none⟩)) (A' := A') (c := 2) (C := C) (c' := c') HSS.out HNW.out ((HL2.out.grown HVn.out (by rw [HSZ.out]; have := HGL.out; omega)).low (by rw [HSZ.out]; exact Nat.le_refl _)) HSn.out HGn.out (Nat.le_refl _) (Nat.lt_succ_self _) HGL.out)
      go_wp2_with fail
      refine bodyPost_ret (v := .agg #[.string s, .int .i64 κ, .int .i64 p, .int .i64 k, .int .i64 γ, .slice (some ⟨w4.heap.size, 0, none⟩) 2 2, .int .i64 C, .slice A' n' c']) (by simp [results, Tryz.results18, go_sem, r0, r1, r2, r3, r4, r5, r6, r7]) rfl ?_
      exact HF.out
    · have hkc := HKC.out 2
      have HFn := hide (heap_setCell_same w6 w2.heap.size 5 _ _ (.slice (some ⟨w4.heap.size + 1, 0, none⟩) 2 2) HF6.out)
      have HRn := hide (row_other1 HR6.out (show w.heap.size ≠ w2.heap.size by have := HW12.out; omega) 5 (.slice (some ⟨w4.heap.size + 1, 0, none⟩) 2 2))
      have HSn := hide (HS6.out.set (b := w2.heap.size) (by have := HGL.out; have := HW12.out; omega) 5 (.slice (some ⟨w4.heap.size + 1, 0, none⟩) 2 2))
      have HGn := hide (grown_set2 HG6.out w2.heap.size 5 (.slice (some ⟨w4.heap.size + 1, 0, none⟩) 2 2) (by have := HW12.out; omega))
      have HVn := hide (grown_set2 HV6.out w2.heap.size 5 (.slice (some ⟨w4.heap.size + 1, 0, none⟩) 2 2) (Nat.le_refl _))
      have HNW := hide (((FixI.row (zs := [13, 17]) (lo := w4.heap.size) HQ1.out (by omega) (by decide)).set (b := w2.heap.size) HFL.out 5 (.slice (some ⟨w4.heap.size + 1, 0, none⟩) 2 2)).low (by have := HG4.out.size; have := HW12.out; have := HFL.out; omega : w.heap.size + 1 ≤ w4.heap.size))
      obtain ⟨⟨a0, a1, a2, a3, a4, a5, a6, a7⟩, _, _, _, _, _, _, _, _⟩ := row8 HFn.out
      obtain ⟨⟨r0, r1, r2, r3, r4, r5, r6, r7⟩, f0, f1, f2, f3, f4, f5, f6, f7⟩ := row8 HRn.out
      have HF := hide (drawn_fin (w := w) (R := w.heap.size) (p := p) (k := k) (γ := γ) (κ := κ) (s := s) (A := (some ⟨w4.heap.size + 1, 0, none⟩)) (A' := A') (c := 2) (C := C) (c' := c') HSS.out HNW.out ((HL2.out.grown HVn.out (by rw [HSZ.out]; have := HGL.out; omega)).low (by rw [HSZ.out]; exact Nat.le_refl _)) HSn.out HGn.out (Nat.le_refl _) (Nat.lt_succ_self _) HGL.out)
      go_wp2_with fail
      refine bodyPost_ret (v := .agg #[.string s, .int .i64 κ, .int .i64 p, .int .i64 k, .int .i64 γ, .slice (some ⟨w4.heap.size + 1, 0, none⟩) 2 2, .int .i64 C, .slice A' n' c']) (by simp [results, Tryz.results18, go_sem, r0, r1, r2, r3, r4, r5, r6, r7]) rfl ?_
      exact HF.out
    · have hkc := HKC.out 3
      have HFn := hide (heap_setCell_same w6 w2.heap.size 5 _ _ (.slice (some ⟨w4.heap.size + 1 + 1, 0, none⟩) 2 2) HF6.out)
      have HRn := hide (row_other1 HR6.out (show w.heap.size ≠ w2.heap.size by have := HW12.out; omega) 5 (.slice (some ⟨w4.heap.size + 1 + 1, 0, none⟩) 2 2))
      have HSn := hide (HS6.out.set (b := w2.heap.size) (by have := HGL.out; have := HW12.out; omega) 5 (.slice (some ⟨w4.heap.size + 1 + 1, 0, none⟩) 2 2))
      have HGn := hide (grown_set2 HG6.out w2.heap.size 5 (.slice (some ⟨w4.heap.size + 1 + 1, 0, none⟩) 2 2) (by have := HW12.out; omega))
      have HVn := hide (grown_set2 HV6.out w2.heap.size 5 (.slice (some ⟨w4.heap.size + 1 + 1, 0, none⟩) 2 2) (Nat.le_refl _))
      have HNW := hide (((FixI.row (zs := [41, 45]) (lo := w4.heap.size) HQ2.out (by omega) (by decide)).set (b := w2.heap.size) HFL.out 5 (.slice (some ⟨w4.heap.size + 1 + 1, 0, none⟩) 2 2)).low (by have := HG4.out.size; have := HW12.out; have := HFL.out; omega : w.heap.size + 1 ≤ w4.heap.size))
      obtain ⟨⟨a0, a1, a2, a3, a4, a5, a6, a7⟩, _, _, _, _, _, _, _, _⟩ := row8 HFn.out
      obtain ⟨⟨r0, r1, r2, r3, r4, r5, r6, r7⟩, f0, f1, f2, f3, f4, f5, f6, f7⟩ := row8 HRn.out
      have HF := hide (drawn_fin (w := w) (R := w.heap.size) (p := p) (k := k) (γ := γ) (κ := κ) (s := s) (A := (some ⟨w4.heap.size + 1 + 1, 0, none⟩)) (A' := A') (c := 2) (C := C) (c' := c') HSS.out HNW.out ((HL2.out.grown HVn.out (by rw [HSZ.out]; have := HGL.out; omega)).low (by rw [HSZ.out]; exact Nat.le_refl _)) HSn.out HGn.out (Nat.le_refl _) (Nat.lt_succ_self _) HGL.out)
      go_wp2_with fail
      refine bodyPost_ret (v := .agg #[.string s, .int .i64 κ, .int .i64 p, .int .i64 k, .int .i64 γ, .slice (some ⟨w4.heap.size + 1 + 1, 0, none⟩) 2 2, .int .i64 C, .slice A' n' c']) (by simp [results, Tryz.results18, go_sem, r0, r1, r2, r3, r4, r5, r6, r7]) rfl ?_
      exact HF.out
    · have hkc := HKC.out 4
      have HFn := hide (heap_setCell_same w6 w2.heap.size 5 _ _ (.slice (some ⟨w4.heap.size + 1 + 1 + 1, 0, none⟩) 1 1) HF6.out)
      have HRn := hide (row_other1 HR6.out (show w.heap.size ≠ w2.heap.size by have := HW12.out; omega) 5 (.slice (some ⟨w4.heap.size + 1 + 1 + 1, 0, none⟩) 1 1))
      have HSn := hide (HS6.out.set (b := w2.heap.size) (by have := HGL.out; have := HW12.out; omega) 5 (.slice (some ⟨w4.heap.size + 1 + 1 + 1, 0, none⟩) 1 1))
      have HGn := hide (grown_set2 HG6.out w2.heap.size 5 (.slice (some ⟨w4.heap.size + 1 + 1 + 1, 0, none⟩) 1 1) (by have := HW12.out; omega))
      have HVn := hide (grown_set2 HV6.out w2.heap.size 5 (.slice (some ⟨w4.heap.size + 1 + 1 + 1, 0, none⟩) 1 1) (Nat.le_refl _))
      have HNW := hide (((FixI.row (zs := [18]) (lo := w4.heap.size) HQ3.out (by omega) (by decide)).set (b := w2.heap.size) HFL.out 5 (.slice (some ⟨w4.heap.size + 1 + 1 + 1, 0, none⟩) 1 1)).low (by have := HG4.out.size; have := HW12.out; have := HFL.out; omega : w.heap.size + 1 ≤ w4.heap.size))
      obtain ⟨⟨a0, a1, a2, a3, a4, a5, a6, a7⟩, _, _, _, _, _, _, _, _⟩ := row8 HFn.out
      obtain ⟨⟨r0, r1, r2, r3, r4, r5, r6, r7⟩, f0, f1, f2, f3, f4, f5, f6, f7⟩ := row8 HRn.out
      have HF := hide (drawn_fin (w := w) (R := w.heap.size) (p := p) (k := k) (γ := γ) (κ := κ) (s := s) (A := (some ⟨w4.heap.size + 1 + 1 + 1, 0, none⟩)) (A' := A') (c := 1) (C := C) (c' := c') HSS.out HNW.out ((HL2.out.grown HVn.out (by rw [HSZ.out]; have := HGL.out; omega)).low (by rw [HSZ.out]; exact Nat.le_refl _)) HSn.out HGn.out (Nat.le_refl _) (Nat.lt_succ_self _) HGL.out)
      go_wp2_with fail
      refine bodyPost_ret (v := .agg #[.string s, .int .i64 κ, .int .i64 p, .int .i64 k, .int .i64 γ, .slice (some ⟨w4.heap.size + 1 + 1 + 1, 0, none⟩) 1 1, .int .i64 C, .slice A' n' c']) (by simp [results, Tryz.results18, go_sem, r0, r1, r2, r3, r4, r5, r6, r7]) rfl ?_
      exact HF.out
    · have hkc := HKC.out 5
      have HFn := hide (heap_setCell_same w6 w2.heap.size 5 _ _ (.slice (some ⟨w4.heap.size + 1 + 1 + 1 + 1, 0, none⟩) 1 1) HF6.out)
      have HRn := hide (row_other1 HR6.out (show w.heap.size ≠ w2.heap.size by have := HW12.out; omega) 5 (.slice (some ⟨w4.heap.size + 1 + 1 + 1 + 1, 0, none⟩) 1 1))
      have HSn := hide (HS6.out.set (b := w2.heap.size) (by have := HGL.out; have := HW12.out; omega) 5 (.slice (some ⟨w4.heap.size + 1 + 1 + 1 + 1, 0, none⟩) 1 1))
      have HGn := hide (grown_set2 HG6.out w2.heap.size 5 (.slice (some ⟨w4.heap.size + 1 + 1 + 1 + 1, 0, none⟩) 1 1) (by have := HW12.out; omega))
      have HVn := hide (grown_set2 HV6.out w2.heap.size 5 (.slice (some ⟨w4.heap.size + 1 + 1 + 1 + 1, 0, none⟩) 1 1) (Nat.le_refl _))
      have HNW := hide (((FixI.row (zs := [3]) (lo := w4.heap.size) HQ4.out (by omega) (by decide)).set (b := w2.heap.size) HFL.out 5 (.slice (some ⟨w4.heap.size + 1 + 1 + 1 + 1, 0, none⟩) 1 1)).low (by have := HG4.out.size; have := HW12.out; have := HFL.out; omega : w.heap.size + 1 ≤ w4.heap.size))
      obtain ⟨⟨a0, a1, a2, a3, a4, a5, a6, a7⟩, _, _, _, _, _, _, _, _⟩ := row8 HFn.out
      obtain ⟨⟨r0, r1, r2, r3, r4, r5, r6, r7⟩, f0, f1, f2, f3, f4, f5, f6, f7⟩ := row8 HRn.out
      have HF := hide (drawn_fin (w := w) (R := w.heap.size) (p := p) (k := k) (γ := γ) (κ := κ) (s := s) (A := (some ⟨w4.heap.size + 1 + 1 + 1 + 1, 0, none⟩)) (A' := A') (c := 1) (C := C) (c' := c') HSS.out HNW.out ((HL2.out.grown HVn.out (by rw [HSZ.out]; have := HGL.out; omega)).low (by rw [HSZ.out]; exact Nat.le_refl _)) HSn.out HGn.out (Nat.le_refl _) (Nat.lt_succ_self _) HGL.out)
      go_wp2_with fail
      refine bodyPost_ret (v := .agg #[.string s, .int .i64 κ, .int .i64 p, .int .i64 k, .int .i64 γ, .slice (some ⟨w4.heap.size + 1 + 1 + 1 + 1, 0, none⟩) 1 1, .int .i64 C, .slice A' n' c']) (by simp [results, Tryz.results18, go_sem, r0, r1, r2, r3, r4, r5, r6, r7]) rfl ?_
      exact HF.out
    · have hkc := HKC.out 6
      have HFn := hide (heap_setCell_same w6 w2.heap.size 5 _ _ (.slice (some ⟨w4.heap.size + 1 + 1 + 1 + 1 + 1, 0, none⟩) 1 1) HF6.out)
      have HRn := hide (row_other1 HR6.out (show w.heap.size ≠ w2.heap.size by have := HW12.out; omega) 5 (.slice (some ⟨w4.heap.size + 1 + 1 + 1 + 1 + 1, 0, none⟩) 1 1))
      have HSn := hide (HS6.out.set (b := w2.heap.size) (by have := HGL.out; have := HW12.out; omega) 5 (.slice (some ⟨w4.heap.size + 1 + 1 + 1 + 1 + 1, 0, none⟩) 1 1))
      have HGn := hide (grown_set2 HG6.out w2.heap.size 5 (.slice (some ⟨w4.heap.size + 1 + 1 + 1 + 1 + 1, 0, none⟩) 1 1) (by have := HW12.out; omega))
      have HVn := hide (grown_set2 HV6.out w2.heap.size 5 (.slice (some ⟨w4.heap.size + 1 + 1 + 1 + 1 + 1, 0, none⟩) 1 1) (Nat.le_refl _))
      have HNW := hide (((FixI.row (zs := [25]) (lo := w4.heap.size) HQ5.out (by omega) (by decide)).set (b := w2.heap.size) HFL.out 5 (.slice (some ⟨w4.heap.size + 1 + 1 + 1 + 1 + 1, 0, none⟩) 1 1)).low (by have := HG4.out.size; have := HW12.out; have := HFL.out; omega : w.heap.size + 1 ≤ w4.heap.size))
      obtain ⟨⟨a0, a1, a2, a3, a4, a5, a6, a7⟩, _, _, _, _, _, _, _, _⟩ := row8 HFn.out
      obtain ⟨⟨r0, r1, r2, r3, r4, r5, r6, r7⟩, f0, f1, f2, f3, f4, f5, f6, f7⟩ := row8 HRn.out
      have HF := hide (drawn_fin (w := w) (R := w.heap.size) (p := p) (k := k) (γ := γ) (κ := κ) (s := s) (A := (some ⟨w4.heap.size + 1 + 1 + 1 + 1 + 1, 0, none⟩)) (A' := A') (c := 1) (C := C) (c' := c') HSS.out HNW.out ((HL2.out.grown HVn.out (by rw [HSZ.out]; have := HGL.out; omega)).low (by rw [HSZ.out]; exact Nat.le_refl _)) HSn.out HGn.out (Nat.le_refl _) (Nat.lt_succ_self _) HGL.out)
      go_wp2_with fail
      refine bodyPost_ret (v := .agg #[.string s, .int .i64 κ, .int .i64 p, .int .i64 k, .int .i64 γ, .slice (some ⟨w4.heap.size + 1 + 1 + 1 + 1 + 1, 0, none⟩) 1 1, .int .i64 C, .slice A' n' c']) (by simp [results, Tryz.results18, go_sem, r0, r1, r2, r3, r4, r5, r6, r7]) rfl ?_
      exact HF.out
  by_cases y3 : y = 3
  · subst y3
    have n0 : ((3 : Int) == 0) = false := by decide
    have n1 : ((3 : Int) == 1) = false := by decide
    have n2 : ((3 : Int) == 2) = false := by decide
    obtain ⟨w5, hw5⟩ : ∃ w5, (((((((w4.alloc (.cells #[.int .i64 0] 2)).alloc (.cells #[.int .i64 80] 2)).alloc (.cells #[.int .i64 81] 2)).alloc (.cells #[.int .i64 10, .int .i64 10] 2)).alloc (.cells #[.int .i64 1, .int .i64 2, .int .i64 3, .int .i64 4] 2)).alloc (.cells #[.int .i64 1, .int .i64 2, .int .i64 3, .int .i64 4, .int .i64 5] 2)).alloc (.cells #[.slice none 0 0, .slice (some ⟨w4.heap.size, 0, none⟩) 1 1, .slice (some ⟨w4.heap.size + 1, 0, none⟩) 1 1, .slice (some ⟨w4.heap.size + 1 + 1, 0, none⟩) 1 1, .slice (some ⟨w4.heap.size + 1 + 1 + 1, 0, none⟩) 2 2, .slice (some ⟨w4.heap.size + 1 + 1 + 1 + 1, 0, none⟩) 4 4, .slice (some ⟨w4.heap.size + 1 + 1 + 1 + 1 + 1, 0, none⟩) 5 5] 26)) = w5 := ⟨_, rfl⟩
    have hb5 : Below w4.heap.size w4 w5 := by rw [← hw5]; exact chain_below [.cells #[.int .i64 0] 2, .cells #[.int .i64 80] 2, .cells #[.int .i64 81] 2, .cells #[.int .i64 10, .int .i64 10] 2, .cells #[.int .i64 1, .int .i64 2, .int .i64 3, .int .i64 4] 2, .cells #[.int .i64 1, .int .i64 2, .int .i64 3, .int .i64 4, .int .i64 5] 2, .cells #[.slice none 0 0, .slice (some ⟨w4.heap.size, 0, none⟩) 1 1, .slice (some ⟨w4.heap.size + 1, 0, none⟩) 1 1, .slice (some ⟨w4.heap.size + 1 + 1, 0, none⟩) 1 1, .slice (some ⟨w4.heap.size + 1 + 1 + 1, 0, none⟩) 2 2, .slice (some ⟨w4.heap.size + 1 + 1 + 1 + 1, 0, none⟩) 4 4, .slice (some ⟨w4.heap.size + 1 + 1 + 1 + 1 + 1, 0, none⟩) 5 5] 26] w4
    have HO0 := hide (show w5.heap[w4.heap.size + 0]? = some (.cells #[.int .i64 0] 2) by rw [← hw5]; exact chain_get [.cells #[.int .i64 0] 2, .cells #[.int .i64 80] 2, .cells #[.int .i64 81] 2, .cells #[.int .i64 10, .int .i64 10] 2, .cells #[.int .i64 1, .int .i64 2, .int .i64 3, .int .i64 4] 2, .cells #[.int .i64 1, .int .i64 2, .int .i64 3, .int .i64 4, .int .i64 5] 2, .cells #[.slice none 0 0, .slice (some ⟨w4.heap.size, 0, none⟩) 1 1, .slice (some ⟨w4.heap.size + 1, 0, none⟩) 1 1, .slice (some ⟨w4.heap.size + 1 + 1, 0, none⟩) 1 1, .slice (some ⟨w4.heap.size + 1 + 1 + 1, 0, none⟩) 2 2, .slice (some ⟨w4.heap.size + 1 + 1 + 1 + 1, 0, none⟩) 4 4, .slice (some ⟨w4.heap.size + 1 + 1 + 1 + 1 + 1, 0, none⟩) 5 5] 26] w4 0 _ rfl)
    have HO1 := hide (show w5.heap[w4.heap.size + 1]? = some (.cells #[.int .i64 80] 2) by rw [← hw5]; exact chain_get [.cells #[.int .i64 0] 2, .cells #[.int .i64 80] 2, .cells #[.int .i64 81] 2, .cells #[.int .i64 10, .int .i64 10] 2, .cells #[.int .i64 1, .int .i64 2, .int .i64 3, .int .i64 4] 2, .cells #[.int .i64 1, .int .i64 2, .int .i64 3, .int .i64 4, .int .i64 5] 2, .cells #[.slice none 0 0, .slice (some ⟨w4.heap.size, 0, none⟩) 1 1, .slice (some ⟨w4.heap.size + 1, 0, none⟩) 1 1, .slice (some ⟨w4.heap.size + 1 + 1, 0, none⟩) 1 1, .slice (some ⟨w4.heap.size + 1 + 1 + 1, 0, none⟩) 2 2, .slice (some ⟨w4.heap.size + 1 + 1 + 1 + 1, 0, none⟩) 4 4, .slice (some ⟨w4.heap.size + 1 + 1 + 1 + 1 + 1, 0, none⟩) 5 5] 26] w4 1 _ rfl)
    have HO2 := hide (show w5.heap[w4.heap.size + 2]? = some (.cells #[.int .i64 81] 2) by rw [← hw5]; exact chain_get [.cells #[.int .i64 0] 2, .cells #[.int .i64 80] 2, .cells #[.int .i64 81] 2, .cells #[.int .i64 10, .int .i64 10] 2, .cells #[.int .i64 1, .int .i64 2, .int .i64 3, .int .i64 4] 2, .cells #[.int .i64 1, .int .i64 2, .int .i64 3, .int .i64 4, .int .i64 5] 2, .cells #[.slice none 0 0, .slice (some ⟨w4.heap.size, 0, none⟩) 1 1, .slice (some ⟨w4.heap.size + 1, 0, none⟩) 1 1, .slice (some ⟨w4.heap.size + 1 + 1, 0, none⟩) 1 1, .slice (some ⟨w4.heap.size + 1 + 1 + 1, 0, none⟩) 2 2, .slice (some ⟨w4.heap.size + 1 + 1 + 1 + 1, 0, none⟩) 4 4, .slice (some ⟨w4.heap.size + 1 + 1 + 1 + 1 + 1, 0, none⟩) 5 5] 26] w4 2 _ rfl)
    have HO3 := hide (show w5.heap[w4.heap.size + 3]? = some (.cells #[.int .i64 10, .int .i64 10] 2) by rw [← hw5]; exact chain_get [.cells #[.int .i64 0] 2, .cells #[.int .i64 80] 2, .cells #[.int .i64 81] 2, .cells #[.int .i64 10, .int .i64 10] 2, .cells #[.int .i64 1, .int .i64 2, .int .i64 3, .int .i64 4] 2, .cells #[.int .i64 1, .int .i64 2, .int .i64 3, .int .i64 4, .int .i64 5] 2, .cells #[.slice none 0 0, .slice (some ⟨w4.heap.size, 0, none⟩) 1 1, .slice (some ⟨w4.heap.size + 1, 0, none⟩) 1 1, .slice (some ⟨w4.heap.size + 1 + 1, 0, none⟩) 1 1, .slice (some ⟨w4.heap.size + 1 + 1 + 1, 0, none⟩) 2 2, .slice (some ⟨w4.heap.size + 1 + 1 + 1 + 1, 0, none⟩) 4 4, .slice (some ⟨w4.heap.size + 1 + 1 + 1 + 1 + 1, 0, none⟩) 5 5] 26] w4 3 _ rfl)
    have HO4 := hide (show w5.heap[w4.heap.size + 4]? = some (.cells #[.int .i64 1, .int .i64 2, .int .i64 3, .int .i64 4] 2) by rw [← hw5]; exact chain_get [.cells #[.int .i64 0] 2, .cells #[.int .i64 80] 2, .cells #[.int .i64 81] 2, .cells #[.int .i64 10, .int .i64 10] 2, .cells #[.int .i64 1, .int .i64 2, .int .i64 3, .int .i64 4] 2, .cells #[.int .i64 1, .int .i64 2, .int .i64 3, .int .i64 4, .int .i64 5] 2, .cells #[.slice none 0 0, .slice (some ⟨w4.heap.size, 0, none⟩) 1 1, .slice (some ⟨w4.heap.size + 1, 0, none⟩) 1 1, .slice (some ⟨w4.heap.size + 1 + 1, 0, none⟩) 1 1, .slice (some ⟨w4.heap.size + 1 + 1 + 1, 0, none⟩) 2 2, .slice (some ⟨w4.heap.size + 1 + 1 + 1 + 1, 0, none⟩) 4 4, .slice (some ⟨w4.heap.size + 1 + 1 + 1 + 1 + 1, 0, none⟩) 5 5] 26] w4 4 _ rfl)
    have HO5 := hide (show w5.heap[w4.heap.size + 5]? = some (.cells #[.int .i64 1, .int .i64 2, .int .i64 3, .int .i64 4, .int .i64 5] 2) by rw [← hw5]; exact chain_get [.cells #[.int .i64 0] 2, .cells #[.int .i64 80] 2, .cells #[.int .i64 81] 2, .cells #[.int .i64 10, .int .i64 10] 2, .cells #[.int .i64 1, .int .i64 2, .int .i64 3, .int .i64 4] 2, .cells #[.int .i64 1, .int .i64 2, .int .i64 3, .int .i64 4, .int .i64 5] 2, .cells #[.slice none 0 0, .slice (some ⟨w4.heap.size, 0, none⟩) 1 1, .slice (some ⟨w4.heap.size + 1, 0, none⟩) 1 1, .slice (some ⟨w4.heap.size + 1 + 1, 0, none⟩) 1 1, .slice (some ⟨w4.heap.size + 1 + 1 + 1, 0, none⟩) 2 2, .slice (some ⟨w4.heap.size + 1 + 1 + 1 + 1, 0, none⟩) 4 4, .slice (some ⟨w4.heap.size + 1 + 1 + 1 + 1 + 1, 0, none⟩) 5 5] 26] w4 5 _ rfl)
    have HO6 := hide (show w5.heap[w4.heap.size + 6]? = some (.cells #[.slice none 0 0, .slice (some ⟨w4.heap.size, 0, none⟩) 1 1, .slice (some ⟨w4.heap.size + 1, 0, none⟩) 1 1, .slice (some ⟨w4.heap.size + 1 + 1, 0, none⟩) 1 1, .slice (some ⟨w4.heap.size + 1 + 1 + 1, 0, none⟩) 2 2, .slice (some ⟨w4.heap.size + 1 + 1 + 1 + 1, 0, none⟩) 4 4, .slice (some ⟨w4.heap.size + 1 + 1 + 1 + 1 + 1, 0, none⟩) 5 5] 26) by rw [← hw5]; exact chain_get [.cells #[.int .i64 0] 2, .cells #[.int .i64 80] 2, .cells #[.int .i64 81] 2, .cells #[.int .i64 10, .int .i64 10] 2, .cells #[.int .i64 1, .int .i64 2, .int .i64 3, .int .i64 4] 2, .cells #[.int .i64 1, .int .i64 2, .int .i64 3, .int .i64 4, .int .i64 5] 2, .cells #[.slice none 0 0, .slice (some ⟨w4.heap.size, 0, none⟩) 1 1, .slice (some ⟨w4.heap.size + 1, 0, none⟩) 1 1, .slice (some ⟨w4.heap.size + 1 + 1, 0, none⟩) 1 1, .slice (some ⟨w4.heap.size + 1 + 1 + 1, 0, none⟩) 2 2, .slice (some ⟨w4.heap.size + 1 + 1 + 1 + 1, 0, none⟩) 4 4, .slice (some ⟨w4.heap.size + 1 + 1 + 1 + 1 + 1, 0, none⟩) 5 5] 26] w4 6 _ rfl)
    have HF5 := hide (heap_nextG HF4.out hb5)
    have HR5 := hide (heap_nextG HR4.out hb5)
    have HS5 := hide (HS4.out.below hb5 (by have := HS4.out.lt; omega))
    have HG5 := hide (grown_blw HG4.out hb5 HG4.out.size)
    have HV5 := hide (grown_blw HV4.out hb5 HV4.out.size)
    clear hb5 hy0 hy24
    go_wp2_with fail
    (try rw [hw5])
    clear hw5
    refine (HNX.out 7 _ HS5.out (by decide)).mono ?_
    rintro e w6 ⟨z, rfl, hz0, hz1, hS6, hg6⟩
    have hg4l := HS4.out.lt
    have HF6 := hide (row_grownF HF5.out hg6 (by have := HGL.out; have := HW12.out; omega))
    have HR6 := hide (row_grownF HR5.out hg6 (by have := HGL.out; omega))
    have HS6 := hide hS6
    have HG6 := hide (grown_one HG5.out hg6)
    have HV6 := hide (grown_one HV5.out hg6)
    have hKr := row_grownF HO6.out hg6 (by omega)
    have HKC := hide (fun j => cell_of_row w6 (w4.heap.size + 6) j _ _ _ hKr)
    have HQ0 := hide (row_grownF HO0.out hg6 (by omega))
    have HQ1 := hide (row_grownF HO1.out hg6 (by omega))
    have HQ2 := hide (row_grownF HO2.out hg6 (by omega))
    have HQ3 := hide (row_grownF HO3.out hg6 (by omega))
    have HQ4 := hide (row_grownF HO4.out hg6 (by omega))
    have HQ5 := hide (row_grownF HO5.out hg6 (by omega))
    clear hKr hS6 hg6 hg4l
    obtain ⟨i, hi, rfl⟩ : ∃ i : Nat, i < 7 ∧ z = i := ⟨z.toNat, by omega, by omega⟩
    clear hz0 hz1
    obtain ⟨⟨t0, t1, t2, t3, t4, t5, t6, t7⟩, u0, u1, u2, u3, u4, u5, u6, u7⟩ := row8 HF6.out
    obtain rfl | rfl | rfl | rfl | rfl | rfl | rfl : i = 0 ∨ i = 1 ∨ i = 2 ∨ i = 3 ∨ i = 4 ∨ i = 5 ∨ i = 6 := by omega
    · have hkc := HKC.out 0
      have HFn := hide (heap_setCell_same w6 w2.heap.size 7 _ _ (.slice none 0 0) HF6.out)
      have HRn := hide (row_other1 HR6.out (show w.heap.size ≠ w2.heap.size by have := HW12.out; omega) 7 (.slice none 0 0))
      have HSn := hide (HS6.out.set (b := w2.heap.size) (by have := HGL.out; have := HW12.out; omega) 7 (.slice none 0 0))
      have HGn := hide (grown_set2 HG6.out w2.heap.size 7 (.slice none 0 0) (by have := HW12.out; omega))
      have HVn := hide (grown_set2 HV6.out w2.heap.size 7 (.slice none 0 0) (Nat.le_refl _))
      obtain ⟨⟨a0, a1, a2, a3, a4, a5, a6, a7⟩, _, _, _, _, _, _, _, _⟩ := row8 HFn.out
      obtain ⟨⟨r0, r1, r2, r3, r4, r5, r6, r7⟩, f0, f1, f2, f3, f4, f5, f6, f7⟩ := row8 HRn.out
      have HF := hide (drawn_fin (w := w) (R := w.heap.size) (p := p) (k := k) (γ := γ) (κ := κ) (s := s) (A := A) (A' := none) (c := c) (C := C) (c' := 0) HSS.out ((HZ2.out.grown HVn.out (by rw [HSZ.out]; have := HGL.out; omega)).low (by rw [HSZ.out]; exact Nat.le_refl _)) (FixI.nil _ _ _) HSn.out HGn.out (Nat.le_refl _) (Nat.lt_succ_self _) HGL.out)
      go_wp2_with fail
      refine bodyPost_ret (v := .agg #[.string s, .int .i64 κ, .int .i64 p, .int .i64 k, .int .i64 γ, .slice A n c, .int .i64 C, .slice none 0 0]) (by simp [results, Tryz.results18, go_sem, r0, r1, r2, r3, r4, r5, r6, r7]) rfl ?_
      exact HF.out
    · have hkc := HKC.out 1
      have HFn := hide (heap_setCell_same w6 w2.heap.size 7 _ _ (.slice (some ⟨w4.heap.size, 0, none⟩) 1 1) HF6.out)
      have HRn := hide (row_other1 HR6.out (show w.heap.size ≠ w2.heap.size by have := HW12.out; omega) 7 (.slice (some ⟨w4.heap.size, 0, none⟩) 1 1))
      have HSn := hide (HS6.out.set (b := w2.heap.size) (by have := HGL.out; have := HW12.out; omega) 7 (.slice (some ⟨w4.heap.size, 0, none⟩) 1 1))
      have HGn := hide (grown_set2 HG6.out w2.heap.size 7 (.slice (some ⟨w4.heap.size, 0, none⟩) 1 1) (by have := HW12.out; omega))
      have HVn := hide (grown_set2 HV6.out w2.heap.size 7 (.slice (some ⟨w4.heap.size, 0, none⟩) 1 1) (Nat.le_refl _))
      have HNW := hide (((FixI.row (zs := [0]) (lo := w4.heap.size) HQ0.out (by omega) (by decide)).set (b := w2.heap.size) HFL.out 7 (.slice (some ⟨w4.heap.size, 0, none⟩) 1 1)).low (by have := HG4.out.size; have := HW12.out; have := HFL.out; omega : w.heap.size + 1 ≤ w4.heap.size))
      obtain ⟨⟨a0, a1, a2, a3, a4, a5, a6, a7⟩, _, _, _, _, _, _, _, _⟩ := row8 HFn.out
      obtain ⟨⟨r0, r1, r2, r3, r4, r5, r6, r7⟩, f0, f1, f2, f3, f4, f5, f6, f7⟩ := row8 HRn.out
      have HF := hide (drawn_fin (w := w) (R := w.heap.size) (p := p) (k := k) (γ := γ) (κ := κ) (s := s) (A := A) (A' := (some ⟨w4.heap.size, 0, none⟩)) (c := c) (C := C) (c' := 1) HSS.out ((HZ2.out.grown HVn.out (by rw [HSZ.out]; have := HGL.out; omega)).low (by rw [HSZ.out]; exact Nat.le_refl _)) HNW.out HSn.out HGn.out (Nat.le_refl _) (Nat.lt_succ_self _) HGL.out)
      go_wp2_with fail
      refine bodyPost_ret (v := .agg #[.string s, .int .i64 κ, .int .i64 p, .int .i64 k, .int .i64 γ, .slice A n c, .int .i64 C, .slice (some ⟨w4.heap.size, 0, none⟩) 1 1]) (by simp [results, Tryz.results18, go_sem, r0, r1, r2, r3, r4, r5, r6, r7]) rfl ?_
      exact HF.out
    · have hkc := HKC.out 2
      have HFn := hide (heap_setCell_same w6 w2.heap.size 7 _ _ (.slice (some ⟨w4.heap.size + 1, 0, none⟩) 1 1) HF6.out)
      have HRn := hide (row_other1 HR6.out (show w.heap.size ≠ w2.heap.size by have := HW12.out; omega) 7 (.slice (some ⟨w4.heap.size + 1, 0, none⟩) 1 1))
      have HSn := hide (HS6.out.set (b := w2.heap.size) (by have := HGL.out; have := HW12.out; omega) 7 (.slice (some ⟨w4.heap.size + 1, 0, none⟩) 1 1))
      have HGn := hide (grown_set2 HG6.out w2.heap.size 7 (.slice (some ⟨w4.heap.size + 1, 0, none⟩) 1 1) (by have := HW12.out; omega))
      have HVn := hide (grown_set2 HV6.out w2.heap.size 7 (.slice (some ⟨w4.heap.size + 1, 0, none⟩) 1 1) (Nat.le_refl _))
      have HNW := hide (((FixI.row (zs := [80]) (lo := w4.heap.size) HQ1.out (by omega) (by decide)).set (b := w2.heap.size) HFL.out 7 (.slice (some ⟨w4.heap.size + 1, 0, none⟩) 1 1)).low (by have := HG4.out.size; have := HW12.out; have := HFL.out; omega : w.heap.size + 1 ≤ w4.heap.size))
      obtain ⟨⟨a0, a1, a2, a3, a4, a5, a6, a7⟩, _, _, _, _, _, _, _, _⟩ := row8 HFn.out
      obtain ⟨⟨r0, r1, r2, r3, r4, r5, r6, r7⟩, f0, f1, f2, f3, f4, f5, f6, f7⟩ := row8 HRn.out
      have HF := hide (drawn_fin (w := w) (R := w.heap.size) (p := p) (k := k) (γ := γ) (κ := κ) (s := s) (A := A) (A' := (some ⟨w4.heap.size + 1, 0, none⟩)) (c := c) (C := C) (c' := 1) HSS.out ((HZ2.out.grown HVn.out (by rw [HSZ.out]; have := HGL.out; omega)).low (by rw [HSZ.out]; exact Nat.le_refl _)) HNW.out HSn.out HGn.out (Nat.le_refl _) (Nat.lt_succ_self _) HGL.out)
      go_wp2_with fail
      refine bodyPost_ret (v := .agg #[.string s, .int .i64 κ, .int .i64 p, .int .i64 k, .int .i64 γ, .slice A n c, .int .i64 C, .slice (some ⟨w4.heap.size + 1, 0, none⟩) 1 1]) (by simp [results, Tryz.results18, go_sem, r0, r1, r2, r3, r4, r5, r6, r7]) rfl ?_
      exact HF.out
    · have hkc := HKC.out 3
      have HFn := hide (heap_setCell_same w6 w2.heap.size 7 _ _ (.slice (some ⟨w4.heap.size + 1 + 1, 0, none⟩) 1 1) HF6.out)
      have HRn := hide (row_other1 HR6.out (show w.heap.size ≠ w2.heap.size by have := HW12.out; omega) 7 (.slice (some ⟨w4.heap.size + 1 + 1, 0, none⟩) 1 1))
      have HSn := hide (HS6.out.set (b := w2.heap.size) (by have := HGL.out; have := HW12.out; omega) 7 (.slice (some ⟨w4.heap.size + 1 + 1, 0, none⟩) 1 1))
      have HGn := hide (grown_set2 HG6.out w2.heap.size 7 (.slice (some ⟨w4.heap.size + 1 + 1, 0, none⟩) 1 1) (by have := HW12.out; omega))
      have HVn := hide (grown_set2 HV6.out w2.heap.size 7 (.slice (some ⟨w4.heap.size + 1 + 1, 0, none⟩) 1 1) (Nat.le_refl _))
      have HNW := hide (((FixI.row (zs := [81]) (lo := w4.heap.size) HQ2.out (by omega) (by decide)).set (b := w2.heap.size) HFL.out 7 (.slice (some ⟨w4.heap.size + 1 + 1, 0, none⟩) 1 1)).low (by have := HG4.out.size; have := HW12.out; have := HFL.out; omega : w.heap.size + 1 ≤ w4.heap.size))
      obtain ⟨⟨a0, a1, a2, a3, a4, a5, a6, a7⟩, _, _, _, _, _, _, _, _⟩ := row8 HFn.out
      obtain ⟨⟨r0, r1, r2, r3, r4, r5, r6, r7⟩, f0, f1, f2, f3, f4, f5, f6, f7⟩ := row8 HRn.out
      have HF := hide (drawn_fin (w := w) (R := w.heap.size) (p := p) (k := k) (γ := γ) (κ := κ) (s := s) (A := A) (A' := (some ⟨w4.heap.size + 1 + 1, 0, none⟩)) (c := c) (C := C) (c' := 1) HSS.out ((HZ2.out.grown HVn.out (by rw [HSZ.out]; have := HGL.out; omega)).low (by rw [HSZ.out]; exact Nat.le_refl _)) HNW.out HSn.out HGn.out (Nat.le_refl _) (Nat.lt_succ_self _) HGL.out)
      go_wp2_with fail
      refine bodyPost_ret (v := .agg #[.string s, .int .i64 κ, .int .i64 p, .int .i64 k, .int .i64 γ, .slice A n c, .int .i64 C, .slice (some ⟨w4.heap.size + 1 + 1, 0, none⟩) 1 1]) (by simp [results, Tryz.results18, go_sem, r0, r1, r2, r3, r4, r5, r6, r7]) rfl ?_
      exact HF.out
    · have hkc := HKC.out 4
      have HFn := hide (heap_setCell_same w6 w2.heap.size 7 _ _ (.slice (some ⟨w4.heap.size + 1 + 1 + 1, 0, none⟩) 2 2) HF6.out)
      have HRn := hide (row_other1 HR6.out (show w.heap.size ≠ w2.heap.size by have := HW12.out; omega) 7 (.slice (some ⟨w4.heap.size + 1 + 1 + 1, 0, none⟩) 2 2))
      have HSn := hide (HS6.out.set (b := w2.heap.size) (by have := HGL.out; have := HW12.out; omega) 7 (.slice (some ⟨w4.heap.size + 1 + 1 + 1, 0, none⟩) 2 2))
      have HGn := hide (grown_set2 HG6.out w2.heap.size 7 (.slice (some ⟨w4.heap.size + 1 + 1 + 1, 0, none⟩) 2 2) (by have := HW12.out; omega))
      have HVn := hide (grown_set2 HV6.out w2.heap.size 7 (.slice (some ⟨w4.heap.size + 1 + 1 + 1, 0, none⟩) 2 2) (Nat.le_refl _))
      have HNW := hide (((FixI.row (zs := [10, 10]) (lo := w4.heap.size) HQ3.out (by omega) (by decide)).set (b := w2.heap.size) HFL.out 7 (.slice (some ⟨w4.heap.size + 1 + 1 + 1, 0, none⟩) 2 2)).low (by have := HG4.out.size; have := HW12.out; have := HFL.out; omega : w.heap.size + 1 ≤ w4.heap.size))
      obtain ⟨⟨a0, a1, a2, a3, a4, a5, a6, a7⟩, _, _, _, _, _, _, _, _⟩ := row8 HFn.out
      obtain ⟨⟨r0, r1, r2, r3, r4, r5, r6, r7⟩, f0, f1, f2, f3, f4, f5, f6, f7⟩ := row8 HRn.out
      have HF := hide (drawn_fin (w := w) (R := w.heap.size) (p := p) (k := k) (γ := γ) (κ := κ) (s := s) (A := A) (A' := (some ⟨w4.heap.size + 1 + 1 + 1, 0, none⟩)) (c := c) (C := C) (c' := 2) HSS.out ((HZ2.out.grown HVn.out (by rw [HSZ.out]; have := HGL.out; omega)).low (by rw [HSZ.out]; exact Nat.le_refl _)) HNW.out HSn.out HGn.out (Nat.le_refl _) (Nat.lt_succ_self _) HGL.out)
      go_wp2_with fail
      refine bodyPost_ret (v := .agg #[.string s, .int .i64 κ, .int .i64 p, .int .i64 k, .int .i64 γ, .slice A n c, .int .i64 C, .slice (some ⟨w4.heap.size + 1 + 1 + 1, 0, none⟩) 2 2]) (by simp [results, Tryz.results18, go_sem, r0, r1, r2, r3, r4, r5, r6, r7]) rfl ?_
      exact HF.out
    · have hkc := HKC.out 5
      have HFn := hide (heap_setCell_same w6 w2.heap.size 7 _ _ (.slice (some ⟨w4.heap.size + 1 + 1 + 1 + 1, 0, none⟩) 4 4) HF6.out)
      have HRn := hide (row_other1 HR6.out (show w.heap.size ≠ w2.heap.size by have := HW12.out; omega) 7 (.slice (some ⟨w4.heap.size + 1 + 1 + 1 + 1, 0, none⟩) 4 4))
      have HSn := hide (HS6.out.set (b := w2.heap.size) (by have := HGL.out; have := HW12.out; omega) 7 (.slice (some ⟨w4.heap.size + 1 + 1 + 1 + 1, 0, none⟩) 4 4))
      have HGn := hide (grown_set2 HG6.out w2.heap.size 7 (.slice (some ⟨w4.heap.size + 1 + 1 + 1 + 1, 0, none⟩) 4 4) (by have := HW12.out; omega))
      have HVn := hide (grown_set2 HV6.out w2.heap.size 7 (.slice (some ⟨w4.heap.size + 1 + 1 + 1 + 1, 0, none⟩) 4 4) (Nat.le_refl _))
      have HNW := hide (((FixI.row (zs := [1, 2, 3, 4]) (lo := w4.heap.size) HQ4.out (by omega) (by decide)).set (b := w2.heap.size) HFL.out 7 (.slice (some ⟨w4.heap.size + 1 + 1 + 1 + 1, 0, none⟩) 4 4)).low (by have := HG4.out.size; have := HW12.out; have := HFL.out; omega : w.heap.size + 1 ≤ w4.heap.size))
      obtain ⟨⟨a0, a1, a2, a3, a4, a5, a6, a7⟩, _, _, _, _, _, _, _, _⟩ := row8 HFn.out
      obtain ⟨⟨r0, r1, r2, r3, r4, r5, r6, r7⟩, f0, f1, f2, f3, f4, f5, f6, f7⟩ := row8 HRn.out
      have HF := hide (drawn_fin (w := w) (R := w.heap.size) (p := p) (k := k) (γ := γ) (κ := κ) (s := s) (A := A) (A' := (some ⟨w4.heap.size + 1 + 1 + 1 + 1, 0, none⟩)) (c := c) (C := C) (c' := 4) HSS.out ((HZ2.out.grown HVn.out (by rw [HSZ.out]; have := HGL.out; omega)).low (by rw [HSZ.out]; exact Nat.le_refl _)) HNW.out HSn.out HGn.out (Nat.le_refl _) (Nat.lt_succ_self _) HGL.out)
      go_wp2_with fail
      refine bodyPost_ret (v := .agg #[.string s, .int .i64 κ, .int .i64 p, .int .i64 k, .int .i64 γ, .slice A n c, .int .i64 C, .slice (some ⟨w4.heap.size + 1 + 1 + 1 + 1, 0, none⟩) 4 4]) (by simp [results, Tryz.results18, go_sem, r0, r1, r2, r3, r4, r5, r6, r7]) rfl ?_
      exact HF.out
    · have hkc := HKC.out 6
      have HFn := hide (heap_setCell_same w6 w2.heap.size 7 _ _ (.slice (some ⟨w4.heap.size + 1 + 1 + 1 + 1 + 1, 0, none⟩) 5 5) HF6.out)
      have HRn := hide (row_other1 HR6.out (show w.heap.size ≠ w2.heap.size by have := HW12.out; omega) 7 (.slice (some ⟨w4.heap.size + 1 + 1 + 1 + 1 + 1, 0, none⟩) 5 5))
      have HSn := hide (HS6.out.set (b := w2.heap.size) (by have := HGL.out; have := HW12.out; omega) 7 (.slice (some ⟨w4.heap.size + 1 + 1 + 1 + 1 + 1, 0, none⟩) 5 5))
      have HGn := hide (grown_set2 HG6.out w2.heap.size 7 (.slice (some ⟨w4.heap.size + 1 + 1 + 1 + 1 + 1, 0, none⟩) 5 5) (by have := HW12.out; omega))
      have HVn := hide (grown_set2 HV6.out w2.heap.size 7 (.slice (some ⟨w4.heap.size + 1 + 1 + 1 + 1 + 1, 0, none⟩) 5 5) (Nat.le_refl _))
      have HNW := hide (((FixI.row (zs := [1, 2, 3, 4, 5]) (lo := w4.heap.size) HQ5.out (by omega) (by decide)).set (b := w2.heap.size) HFL.out 7 (.slice (some ⟨w4.heap.size + 1 + 1 + 1 + 1 + 1, 0, none⟩) 5 5)).low (by have := HG4.out.size; have := HW12.out; have := HFL.out; omega : w.heap.size + 1 ≤ w4.heap.size))
      obtain ⟨⟨a0, a1, a2, a3, a4, a5, a6, a7⟩, _, _, _, _, _, _, _, _⟩ := row8 HFn.out
      obtain ⟨⟨r0, r1, r2, r3, r4, r5, r6, r7⟩, f0, f1, f2, f3, f4, f5, f6, f7⟩ := row8 HRn.out
      have HF := hide (drawn_fin (w := w) (R := w.heap.size) (p := p) (k := k) (γ := γ) (κ := κ) (s := s) (A := A) (A' := (some ⟨w4.heap.size + 1 + 1 + 1 + 1 + 1, 0, none⟩)) (c := c) (C := C) (c' := 5) HSS.out ((HZ2.out.grown HVn.out (by rw [HSZ.out]; have := HGL.out; omega)).low (by rw [HSZ.out]; exact Nat.le_refl _)) HNW.out HSn.out HGn.out (Nat.le_refl _) (Nat.lt_succ_self _) HGL.out)
      go_wp2_with fail
      refine bodyPost_ret (v := .agg #[.string s, .int .i64 κ, .int .i64 p, .int .i64 k, .int .i64 γ, .slice A n c, .int .i64 C, .slice (some ⟨w4.heap.size + 1 + 1 + 1 + 1 + 1, 0, none⟩) 5 5]) (by simp [results, Tryz.results18, go_sem, r0, r1, r2, r3, r4, r5, r6, r7]) rfl ?_
      exact HF.out
  by_cases y4 : y = 4
  · subst y4
    have n0 : ((4 : Int) == 0) = false := by decide
    have n1 : ((4 : Int) == 1) = false := by decide
    have n2 : ((4 : Int) == 2) = false := by decide
    have n3 : ((4 : Int) == 3) = false := by decide
    obtain ⟨w5, hw5⟩ : ∃ w5, (w4.alloc (.cells #[.int .i64 0, .int .i64 1, .int .i64 8, .int .i64 9] 2)) = w5 := ⟨_, rfl⟩
    have hb5 : Below w4.heap.size w4 w5 := by rw [← hw5]; exact chain_below [.cells #[.int .i64 0, .int .i64 1, .int .i64 8, .int .i64 9] 2] w4
    have HO0 := hide (show w5.heap[w4.heap.size + 0]? = some (.cells #[.int .i64 0, .int .i64 1, .int .i64 8, .int .i64 9] 2) by rw [← hw5]; exact chain_get [.cells #[.int .i64 0, .int .i64 1, .int .i64 8, .int .i64 9] 2] w4 0 _ rfl)
    have HF5 := hide (heap_nextG HF4.out hb5)
    have HR5 := hide (heap_nextG HR4.out hb5)
    have HS5 := hide (HS4.out.below hb5 (by have := HS4.out.lt; omega))
    have HG5 := hide (grown_blw HG4.out hb5 HG4.out.size)
    have HV5 := hide (grown_blw HV4.out hb5 HV4.out.size)
    clear hb5 hy0 hy24
    go_wp2_with fail
    (try rw [hw5])
    clear hw5
    refine (HNX.out 4 _ HS5.out (by decide)).mono ?_
    rintro e w6 ⟨z, rfl, hz0, hz1, hS6, hg6⟩
    have hg4l := HS4.out.lt
    have HF6 := hide (row_grownF HF5.out hg6 (by have := HGL.out; have := HW12.out; omega))
    have HR6 := hide (row_grownF HR5.out hg6 (by have := HGL.out; omega))
    have HS6 := hide hS6
    have HG6 := hide (grown_one HG5.out hg6)
    have HV6 := hide (grown_one HV5.out hg6)
    have hKr := row_grownF HO0.out hg6 (by omega)
    have HKC := hide (fun j => cell_of_row w6 w4.heap.size j _ _ _ hKr)
    clear hKr hS6 hg6 hg4l
    obtain ⟨i, hi, rfl⟩ : ∃ i : Nat, i < 4 ∧ z = i := ⟨z.toNat, by omega, by omega⟩
    clear hz0 hz1
    obtain ⟨⟨t0, t1, t2, t3, t4, t5, t6, t7⟩, u0, u1, u2, u3, u4, u5, u6, u7⟩ := row8 HF6.out
    obtain rfl | rfl | rfl | rfl : i = 0 ∨ i = 1 ∨ i = 2 ∨ i = 3 := by omega
    · have hkc := HKC.out 0
      have HFn := hide (heap_setCell_same w6 w2.heap.size 6 _ _ (.int .i64 0) HF6.out)
      have HRn := hide (row_other1 HR6.out (show w.heap.size ≠ w2.heap.size by have := HW12.out; omega) 6 (.int .i64 0))
      have HSn := hide (HS6.out.set (b := w2.heap.size) (by have := HGL.out; have := HW12.out; omega) 6 (.int .i64 0))
      have HGn := hide (grown_set2 HG6.out w2.heap.size 6 (.int .i64 0) (by have := HW12.out; omega))
      have HVn := hide (grown_set2 HV6.out w2.heap.size 6 (.int .i64 0) (Nat.le_refl _))
      obtain ⟨⟨a0, a1, a2, a3, a4, a5, a6, a7⟩, _, _, _, _, _, _, _, _⟩ := row8 HFn.out
      obtain ⟨⟨r0, r1, r2, r3, r4, r5, r6, r7⟩, f0, f1, f2, f3, f4, f5, f6, f7⟩ := row8 HRn.out
      have HF := hide (drawn_fin (w := w) (R := w.heap.size) (p := p) (k := k) (γ := γ) (κ := κ) (s := s) (A := A) (A' := A') (c := c) (C := 0) (c' := c') HSS.out ((HZ2.out.grown HVn.out (by rw [HSZ.out]; have := HGL.out; omega)).low (by rw [HSZ.out]; exact Nat.le_refl _)) ((HL2.out.grown HVn.out (by rw [HSZ.out]; have := HGL.out; omega)).low (by rw [HSZ.out]; exact Nat.le_refl _)) HSn.out HGn.out (Nat.le_refl _) (Nat.lt_succ_self _) HGL.out)
      go_wp2_with fail
      refine bodyPost_ret (v := .agg #[.string s, .int .i64 κ, .int .i64 p, .int .i64 k, .int .i64 γ, .slice A n c, .int .i64 0, .slice A' n' c']) (by simp [results, Tryz.results18, go_sem, r0, r1, r2, r3, r4, r5, r6, r7]) rfl ?_
      exact HF.out
    · have hkc := HKC.out 1
      have HFn := hide (heap_setCell_same w6 w2.heap.size 6 _ _ (.int .i64 1) HF6.out)
      have HRn := hide (row_other1 HR6.out (show w.heap.size ≠ w2.heap.size by have := HW12.out; omega) 6 (.int .i64 1))
      have HSn := hide (HS6.out.set (b := w2.heap.size) (by have := HGL.out; have := HW12.out; omega) 6 (.int .i64 1))
      have HGn := hide (grown_set2 HG6.out w2.heap.size 6 (.int .i64 1) (by have := HW12.out; omega))
      have HVn := hide (grown_set2 HV6.out w2.heap.size 6 (.int .i64 1) (Nat.le_refl _))
      obtain ⟨⟨a0, a1, a2, a3, a4, a5, a6, a7⟩, _, _, _, _, _, _, _, _⟩ := row8 HFn.out
      obtain ⟨⟨r0, r1, r2, r3, r4, r5, r6, r7⟩, f0, f1, f2, f3, f4, f5, f6, f7⟩ := row8 HRn.out
      have HF := hide (drawn_fin (w := w) (R := w.heap.size) (p := p) (k := k) (γ := γ) (κ := κ) (s := s) (A := A) (A' := A') (c := c) (C := 1) (c' := c') HSS.out ((HZ2.out.grown HVn.out (by rw [HSZ.out]; have := HGL.out; omega)).low (by rw [HSZ.out]; exact Nat.le_refl _)) ((HL2.out.grown HVn.out (by rw [HSZ.out]; have := HGL.out; omega)).low (by rw [HSZ.out]; exact Nat.le_refl _)) HSn.out HGn.out (Nat.le_refl _) (Nat.lt_succ_self _) HGL.out)
      go_wp2_with fail
      refine bodyPost_ret (v := .agg #[.string s, .int .i64 κ, .int .i64 p, .int .i64 k, .int .i64 γ, .slice A n c, .int .i64 1, .slice A' n' c']) (by simp [results, Tryz.results18, go_sem, r0, r1, r2, r3, r4, r5, r6, r7]) rfl ?_
      exact HF.out
    · have hkc := HKC.out 2
      have HFn := hide (heap_setCell_same w6 w2.heap.size 6 _ _ (.int .i64 8) HF6.out)
      have HRn := hide (row_other1 HR6.out (show w.heap.size ≠ w2.heap.size by have := HW12.out; omega) 6 (.int .i64 8))
      have HSn := hide (HS6.out.set (b := w2.heap.size) (by have := HGL.out; have := HW12.out; omega) 6 (.int .i64 8))
      have HGn := hide (grown_set2 HG6.out w2.heap.size 6 (.int .i64 8) (by have := HW12.out; omega))
      have HVn := hide (grown_set2 HV6.out w2.heap.size 6 (.int .i64 8) (Nat.le_refl _))
      obtain ⟨⟨a0, a1, a2, a3, a4, a5, a6, a7⟩, _, _, _, _, _, _, _, _⟩ := row8 HFn.out
      obtain ⟨⟨r0, r1, r2, r3, r4, r5, r6, r7⟩, f0, f1, f2, f3, f4, f5, f6, f7⟩ := row8 HRn.out
      have HF := hide (drawn_fin (w := w) (R := w.heap.size) (p := p) (k := k) (γ := γ) (κ := κ) (s := s) (A := A) (A' := A') (c := c) (C := 8) (c' := c') HSS.out ((HZ2.out.grown HVn.out (by rw [HSZ.out]; have := HGL.out; omega)).low (by rw [HSZ.out]; exact Nat.le_refl _)) ((HL2.out.grown HVn.out (by rw [HSZ.out]; have := HGL.out; omega)).low (by rw [HSZ.out]; exact Nat.le_refl _)) HSn.out HGn.out (Nat.le_refl _) (Nat.lt_succ_self _) HGL.out)
      go_wp2_with fail
      refine bodyPost_ret (v := .agg #[.string s, .int .i64 κ, .int .i64 p, .int .i64 k, .int .i64 γ, .slice A n c, .int .i64 8, .slice A' n' c']) (by simp [results, Tryz.results18, go_sem, r0, r1, r2, r3, r4, r5, r6, r7]) rfl ?_
      exact HF.out
    · have hkc := HKC.out 3
      have HFn := hide (heap_setCell_same w6 w2.heap.size 6 _ _ (.int .i64 9) HF6.out)
      have HRn := hide (row_other1 HR6.out (show w.heap.size ≠ w2.heap.size by have := HW12.out; omega) 6 (.int .i64 9))
      have HSn := hide (HS6.out.set (b := w2.heap.size) (by have := HGL.out; have := HW12.out; omega) 6 (.int .i64 9))
      have HGn := hide (grown_set2 HG6.out w2.heap.size 6 (.int .i64 9) (by have := HW12.out; omega))
      have HVn := hide (grown_set2 HV6.out w2.heap.size 6 (.int .i64 9) (Nat.le_refl _))
      obtain ⟨⟨a0, a1, a2, a3, a4, a5, a6, a7⟩, _, _, _, _, _, _, _, _⟩ := row8 HFn.out
      obtain ⟨⟨r0, r1, r2, r3, r4, r5, r6, r7⟩, f0, f1, f2, f3, f4, f5, f6, f7⟩ := row8 HRn.out
      have HF := hide (drawn_fin (w := w) (R := w.heap.size) (p := p) (k := k) (γ := γ) (κ := κ) (s := s) (A := A) (A' := A') (c := c) (C := 9) (c' := c') HSS.out ((HZ2.out.grown HVn.out (by rw [HSZ.out]; have := HGL.out; omega)).low (by rw [HSZ.out]; exact Nat.le_refl _)) ((HL2.out.grown HVn.out (by rw [HSZ.out]; have := HGL.out; omega)).low (by rw [HSZ.out]; exact Nat.le_refl _)) HSn.out HGn.out (Nat.le_refl _) (Nat.lt_succ_self _) HGL.out)
      go_wp2_with fail
      refine bodyPost_ret (v := .agg #[.string s, .int .i64 κ, .int .i64 p, .int .i64 k, .int .i64 γ, .slice A n c, .int .i64 9, .slice A' n' c']) (by simp [results, Tryz.results18, go_sem, r0, r1, r2, r3, r4, r5, r6, r7]) rfl ?_
      exact HF.out
  by_cases y5 : y = 5
  · subst y5
    have n0 : ((5 : Int) == 0) = false := by decide
    have n1 : ((5 : Int) == 1) = false := by decide
    have n2 : ((5 : Int) == 2) = false := by decide
    have n3 : ((5 : Int) == 3) = false := by decide
    have n4 : ((5 : Int) == 4) = false := by decide
    clear hy0 hy24
    obtain ⟨⟨t0, t1, t2, t3, t4, t5, t6, t7⟩, u0, u1, u2, u3, u4, u5, u6, u7⟩ := row8 HF4.out
    go_wp2_with fail
    clear t0 t1 t2 t3 t4 t5 t6 t7 u0 u1 u2 u3 u4 u5 u6 u7
    refine (drawAny g Bc Ac nc cc code _ HS4.out).mono ?_
    rintro e wb ⟨p', k', γ', rfl, hSb, hgb⟩
    have HFb := hide (row_grownF HF4.out hgb (by have := HGL.out; have := HW12.out; omega))
    have HRb := hide (row_grownF HR4.out hgb (by have := HGL.out; have := HW12.out; omega))
    have HGb := hide (grown_one HG4.out hgb)
    have HVb := hide (grown_one HV4.out hgb)
    have HSb := hide hSb
    clear hSb hgb
    obtain ⟨⟨t0, t1, t2, t3, t4, t5, t6, t7⟩, u0, u1, u2, u3, u4, u5, u6, u7⟩ := row8 HFb.out
    have HFn0 := hide (heap_setCell_same (wb) w2.heap.size 2 _ _ (.int .i64 p') HFb.out)
    have HRn0 := hide (row_other1 HRb.out (show w.heap.size ≠ w2.heap.size by have := HW12.out; omega) 2 (.int .i64 p'))
    have HSn0 := hide (HSb.out.set (b := w2.heap.size) (by have := HGL.out; have := HW12.out; omega) 2 (.int .i64 p'))
    have HGn0 := hide (grown_set2 HGb.out w2.heap.size 2 (.int .i64 p') (by have := HW12.out; omega))
    have HVn0 := hide (grown_set2 HVb.out w2.heap.size 2 (.int .i64 p') (Nat.le_refl _))
    have HFn1 := hide (heap_setCell_same ((wb).setCell ⟨w2.heap.size, 2, none⟩ (.int .i64 p')) w2.heap.size 3 _ _ (.int .i64 k') HFn0.out)
    have HRn1 := hide (row_other1 HRn0.out (show w.heap.size ≠ w2.heap.size by have := HW12.out; omega) 3 (.int .i64 k'))
    have HSn1 := hide (HSn0.out.set (b := w2.heap.size) (by have := HGL.out; have := HW12.out; omega) 3 (.int .i64 k'))
    have HGn1 := hide (grown_set2 HGn0.out w2.heap.size 3 (.int .i64 k') (by have := HW12.out; omega))
    have HVn1 := hide (grown_set2 HVn0.out w2.heap.size 3 (.int .i64 k') (Nat.le_refl _))
    have HFn2 := hide (heap_setCell_same (((wb).setCell ⟨w2.heap.size, 2, none⟩ (.int .i64 p')).setCell ⟨w2.heap.size, 3, none⟩ (.int .i64 k')) w2.heap.size 4 _ _ (.int .i64 γ') HFn1.out)
    have HRn2 := hide (row_other1 HRn1.out (show w.heap.size ≠ w2.heap.size by have := HW12.out; omega) 4 (.int .i64 γ'))
    have HSn2 := hide (HSn1.out.set (b := w2.heap.size) (by have := HGL.out; have := HW12.out; omega) 4 (.int .i64 γ'))
    have HGn2 := hide (grown_set2 HGn1.out w2.heap.size 4 (.int .i64 γ') (by have := HW12.out; omega))
    have HVn2 := hide (grown_set2 HVn1.out w2.heap.size 4 (.int .i64 γ') (Nat.le_refl _))
    obtain ⟨⟨a0, a1, a2, a3, a4, a5, a6, a7⟩, _, _, _, _, _, _, _, _⟩ := row8 HFn2.out
    obtain ⟨⟨r0, r1, r2, r3, r4, r5, r6, r7⟩, f0, f1, f2, f3, f4, f5, f6, f7⟩ := row8 HRn2.out
    have HF := hide (drawn_fin (w := w) (R := w.heap.size) (p := p') (k := k') (γ := γ') (κ := κ) (s := s) (A := A) (A' := A') (c := c) (C := C) (c' := c') HSS.out ((HZ2.out.grown HVn2.out (by rw [HSZ.out]; have := HGL.out; omega)).low (by rw [HSZ.out]; exact Nat.le_refl _)) ((HL2.out.grown HVn2.out (by rw [HSZ.out]; have := HGL.out; omega)).low (by rw [HSZ.out]; exact Nat.le_refl _)) HSn2.out HGn2.out (Nat.le_refl _) (Nat.lt_succ_self _) HGL.out)
    go_wp2_with fail
    refine bodyPost_ret (v := .agg #[.string s, .int .i64 κ, .int .i64 p', .int .i64 k', .int .i64 γ', .slice A n c, .int .i64 C, .slice A' n' c']) (by simp [results, Tryz.results18, go_sem, r0, r1, r2, r3, r4, r5, r6, r7]) rfl ?_
    exact HF.out
  by_cases y6 : y = 6
  · subst y6
    have n0 : ((6 : Int) == 0) = false := by decide
    have n1 : ((6 : Int) == 1) = false := by decide
    have n2 : ((6 : Int) == 2) = false := by decide
    have n3 : ((6 : Int) == 3) = false := by decide
    have n4 : ((6 : Int) == 4) = false := by decide
    have n5 : ((6 : Int) == 5) = false := by decide
    clear hy0 hy24
    obtain ⟨⟨t0, t1, t2, t3, t4, t5, t6, t7⟩, u0, u1, u2, u3, u4, u5, u6, u7⟩ := row8 HF4.out
    go_wp2_with fail
    clear t0 t1 t2 t3 t4 t5 t6 t7 u0 u1 u2 u3 u4 u5 u6 u7
    obtain ⟨P0, hP⟩ : ∃ x, foP 8 = x := ⟨_, rfl⟩
    obtain ⟨K0, hK⟩ : ∃ x, foK 8 = x := ⟨_, rfl⟩
    obtain ⟨G0, hG⟩ : ∃ x, foG 8 = x := ⟨_, rfl⟩
    rw [hP, hK, hG] at HFO
    clear hP hK hG
    refine (HFO.out _).mono ?_
    rintro e wb ⟨rfl, hb⟩
    have HFb := hide (heap_nextG HF4.out hb)
    have HRb := hide (heap_nextG HR4.out hb)
    have HSb := hide (HS4.out.below hb HS4.out.lt)
    have HGb := hide (grown_blw HG4.out hb HG4.out.size)
    have HVb := hide (grown_blw HV4.out hb HV4.out.size)
    clear hb
    obtain ⟨wc, hwc⟩ : ∃ wc, wb.alloc (.cells #[.int .i64 P0, .int .i64 K0, .int .i64 G0] 25) = wc := ⟨_, rfl⟩
    have hbz : Below wb.heap.size wb wc := by rw [← hwc]; exact (Below.refl _ _).alloc (Nat.le_refl _) _
    have HFc := hide (heap_nextG HFb.out hbz)
    have HRc := hide (heap_nextG HRb.out hbz)
    have HSc := hide (HSb.out.below hbz HSb.out.lt)
    have HGc := hide (grown_blw HGb.out hbz HGb.out.size)
    have HVc := hide (grown_blw HVb.out hbz HVb.out.size)
    have HOF := hide (show wc.heap[wb.heap.size]? = some (.cells #[.int .i64 P0, .int .i64 K0, .int .i64 G0] 25 (0, 0)) by rw [← hwc]; exact heap_alloc_new _ _)
    obtain ⟨a0, b0, c0⟩ := cells3 HOF.out
    obtain ⟨wx, hwx⟩ : ∃ wx, (wc.alloc (.cells #[.int .i64 17, .int .i64 33, .int .i64 41] 2)).alloc (.cells #[.int .i64 30, .int .i64 80] 2) = wx := ⟨_, rfl⟩
    have hbx : Below wc.heap.size wc wx := by rw [← hwx]; exact chain_below [.cells #[.int .i64 17, .int .i64 33, .int .i64 41] 2, .cells #[.int .i64 30, .int .i64 80] 2] wc
    have HFx := hide (heap_nextG HFc.out hbx)
    have HRx := hide (heap_nextG HRc.out hbx)
    have HSx := hide (HSc.out.below hbx HSc.out.lt)
    have HGx := hide (grown_blw HGc.out hbx HGc.out.size)
    have HVx := hide (grown_blw HVc.out hbx HVc.out.size)
    have HOZ := hide (show wx.heap[wc.heap.size]? = some (.cells #[.int .i64 17, .int .i64 33, .int .i64 41] 2 (0, 0)) by rw [← hwx]; exact chain_get [.cells #[.int .i64 17, .int .i64 33, .int .i64 41] 2, .cells #[.int .i64 30, .int .i64 80] 2] wc 0 _ rfl)
    have HOL := hide (show wx.heap[wc.heap.size + 1]? = some (.cells #[.int .i64 30, .int .i64 80] 2 (0, 0)) by rw [← hwx]; exact chain_get [.cells #[.int .i64 17, .int .i64 33, .int .i64 41] 2, .cells #[.int .i64 30, .int .i64 80] 2] wc 1 _ rfl)
    have HCW := hide (show w.heap.size + 1 ≤ wc.heap.size ∧ w2.heap.size < wc.heap.size from ⟨Nat.le_trans HW12.out (Nat.le_of_lt (Array.getElem?_eq_some_iff.1 HFc.out).1), (Array.getElem?_eq_some_iff.1 HFc.out).1⟩)
    obtain ⟨⟨t0, t1, t2, t3, t4, t5, t6, t7⟩, u0, u1, u2, u3, u4, u5, u6, u7⟩ := row8 HFx.out
    obtain ⟨⟨r0, r1, r2, r3, r4, r5, r6, r7⟩, f0, f1, f2, f3, f4, f5, f6, f7⟩ := row8 HRx.out
    have HFz := hide (row8_set HFx.out (.string ⟨#[115,109,97,108,108]⟩) (.int .i64 1) (.int .i64 P0) (.int .i64 K0) (.int .i64 G0) (.slice (some ⟨wc.heap.size, 0, none⟩) 3 3) (.int .i64 0) (.slice (some ⟨wc.heap.size + 1, 0, none⟩) 2 2))
    have hwr : (w.heap.size == w2.heap.size) = false := by have := HW12.out; simp; omega
    have HRz := hide (row8_other HRx.out (show w.heap.size ≠ w2.heap.size by have := HW12.out; omega) (.string ⟨#[115,109,97,108,108]⟩) (.int .i64 1) (.int .i64 P0) (.int .i64 K0) (.int .i64 G0) (.slice (some ⟨wc.heap.size, 0, none⟩) 3 3) (.int .i64 0) (.slice (some ⟨wc.heap.size + 1, 0, none⟩) 2 2))
    have HSz := hide (HSx.out.set8 (b := w2.heap.size) (by have := HGL.out; have := HW12.out; omega) (.string ⟨#[115,109,97,108,108]⟩) (.int .i64 1) (.int .i64 P0) (.int .i64 K0) (.int .i64 G0) (.slice (some ⟨wc.heap.size, 0, none⟩) 3 3) (.int .i64 0) (.slice (some ⟨wc.heap.size + 1, 0, none⟩) 2 2))
    have HGz := hide (grown_set8 HGx.out (N := w2.heap.size) (by have := HW12.out; omega) (.string ⟨#[115,109,97,108,108]⟩) (.int .i64 1) (.int .i64 P0) (.int .i64 K0) (.int .i64 G0) (.slice (some ⟨wc.heap.size, 0, none⟩) 3 3) (.int .i64 0) (.slice (some ⟨wc.heap.size + 1, 0, none⟩) 2 2))
    have HNZ := hide ((FixI.row (zs := [17, 33, 41]) (lo := wc.heap.size) HOZ.out (Nat.le_refl _) (by decide)).set8 (b := w2.heap.size) (by have := HCW.out; omega) (.string ⟨#[115,109,97,108,108]⟩) (.int .i64 1) (.int .i64 P0) (.int .i64 K0) (.int .i64 G0) (.slice (some ⟨wc.heap.size, 0, none⟩) 3 3) (.int .i64 0) (.slice (some ⟨wc.heap.size + 1, 0, none⟩) 2 2) |>.low (by have := HCW.out; omega : w.heap.size + 1 ≤ wc.heap.size))
    have HNL := hide ((FixI.row (zs := [30, 80]) (lo := wc.heap.size) HOL.out (by omega) (by decide)).set8 (b := w2.heap.size) (by have := HCW.out; omega) (.string ⟨#[115,109,97,108,108]⟩) (.int .i64 1) (.int .i64 P0) (.int .i64 K0) (.int .i64 G0) (.slice (some ⟨wc.heap.size, 0, none⟩) 3 3) (.int .i64 0) (.slice (some ⟨wc.heap.size + 1, 0, none⟩) 2 2) |>.low (by have := HCW.out; omega : w.heap.size + 1 ≤ wc.heap.size))
    clear hbz hbx hwr
    unfold set8F at HFz HRz HSz HGz HNZ HNL
    obtain ⟨wz, hwz⟩ : ∃ wz, set8F wx w2.heap.size (.string ⟨#[115,109,97,108,108]⟩) (.int .i64 1) (.int .i64 P0) (.int .i64 K0) (.int .i64 G0) (.slice (some ⟨wc.heap.size, 0, none⟩) 3 3) (.int .i64 0) (.slice (some ⟨wc.heap.size + 1, 0, none⟩) 2 2) = wz := ⟨_, rfl⟩
    unfold set8F at hwz
    rw [hwz] at HFz HRz HSz HGz HNZ HNL
    obtain ⟨⟨a0, a1, a2, a3, a4, a5, a6, a7⟩, _, _, _, _, _, _, _, _⟩ := row8 HFz.out
    obtain ⟨⟨r0, r1, r2, r3, r4, r5, r6, r7⟩, f0, f1, f2, f3, f4, f5, f6, f7⟩ := row8 HRz.out
    have HF := hide (drawn_fin (w := w) (R := w.heap.size) (p := P0) (k := K0) (γ := G0) (κ := 1) (s := ⟨#[115,109,97,108,108]⟩) (A := (some ⟨wc.heap.size, 0, none⟩)) (A' := (some ⟨wc.heap.size + 1, 0, none⟩)) (c := 3) (C := 0) (c' := 2) (by decide) HNZ.out HNL.out HSz.out HGz.out (Nat.le_refl _) (Nat.lt_succ_self _) HGL.out)
    go_wp2_with fail
    refine bodyPost_ret (v := .agg #[.string ⟨#[115,109,97,108,108]⟩, .int .i64 1, .int .i64 P0, .int .i64 K0, .int .i64 G0, .slice (some ⟨wc.heap.size, 0, none⟩) 3 3, .int .i64 0, .slice (some ⟨wc.heap.size + 1, 0, none⟩) 2 2]) (by simp [results, Tryz.results18, go_sem, r0, r1, r2, r3, r4, r5, r6, r7]) rfl ?_
    exact HF.out
  have n0 : (y == 0) = false := by simpa using y0
  have n1 : (y == 1) = false := by simpa using y1
  have n2 : (y == 2) = false := by simpa using y2
  have n3 : (y == 3) = false := by simpa using y3
  have n4 : (y == 4) = false := by simpa using y4
  have n5 : (y == 5) = false := by simpa using y5
  have n6 : (y == 6) = false := by simpa using y6
  clear hy0 hy24
  obtain ⟨⟨a0, a1, a2, a3, a4, a5, a6, a7⟩, _, _, _, _, _, _, _, _⟩ := row8 HF4.out
  obtain ⟨⟨r0, r1, r2, r3, r4, r5, r6, r7⟩, f0, f1, f2, f3, f4, f5, f6, f7⟩ := row8 HR4.out
  have HF := hide (drawn_fin (w := w) (R := w.heap.size) (p := p) (k := k) (γ := γ) (κ := κ) (s := s) (A := A) (A' := A') (c := c) (C := C) (c' := c') HSS.out ((HZ2.out.grown HV4.out (by rw [HSZ.out]; have := HGL.out; omega)).low (by rw [HSZ.out]; exact Nat.le_refl _)) ((HL2.out.grown HV4.out (by rw [HSZ.out]; have := HGL.out; omega)).low (by rw [HSZ.out]; exact Nat.le_refl _)) HS4.out HG4.out (Nat.le_refl _) (Nat.lt_succ_self _) HGL.out)
  go_wp2_with fail
  refine bodyPost_ret (v := .agg #[.string s, .int .i64 κ, .int .i64 p, .int .i64 k, .int .i64 γ, .slice A n c, .int .i64 C, .slice A' n' c']) (by simp [results, Tryz.results18, go_sem, r0, r1, r2, r3, r4, r5, r6, r7]) rfl ?_
  exact HF.out
end Go.Proofs.YtncgeoliboidhaaGreat
