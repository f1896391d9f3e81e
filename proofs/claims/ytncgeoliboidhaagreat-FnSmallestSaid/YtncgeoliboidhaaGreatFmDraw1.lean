/-
  The model's library of families, and a draw from it.
  Condition: the code has at most 4096 bytes.
-/
import Derived.Test.YtncgeoliboidhaaGreatFmLaw
import Derived.Test.YtncgeoliboidhaaGreatFOfSpec
import Derived.Test.YtncgeoliboidhaaGreatDraw
import Derived.Test.YtncgeoliboidhaaGreatWB
namespace Go.Proofs.YtncgeoliboidhaaGreat
open Go.RowKit
set_option linter.unusedSimpArgs false
set_option linter.unusedVariables false

/-- A list of numbers that lies apart from all blocks before one. -/
def FixI (w : World) (lo : Nat) (A : Option Addr) (n : Nat) (zs : List Int) : Prop :=
  zs.length = n ∧ n ≤ 8 ∧ (0 < n → ∃ b off, A = some ⟨b, off, none⟩ ∧ lo ≤ b ∧ b < w.heap.size ∧ ∀ (j : Nat) (x : Int), zs[j]? = some x → w.cell? ⟨b, off + j, none⟩ = some (.int .i64 x))
theorem FixI.ints {w : World} {lo : Nat} {A : Option Addr} {n : Nat} {zs : List Int} (h : FixI w lo A n zs) : Ints .i64 w w.heap.size A n zs := by
  refine ⟨h.1, fun hn => ?_⟩
  obtain ⟨b, off, rfl, _, hb, hc⟩ := h.2.2 hn
  exact ⟨b, off, rfl, hb, hc⟩
theorem FixI.grown {w w' : World} {lo g : Nat} {A : Option Addr} {n : Nat} {zs : List Int} (h : FixI w lo A n zs) (hg : w.grownBy w' (some g)) (hl : g < lo) : FixI w' lo A n zs := by
  refine ⟨h.1, h.2.1, fun hn => ?_⟩
  obtain ⟨b, off, rfl, h1, hb, hc⟩ := h.2.2 hn
  refine ⟨b, off, rfl, h1, Nat.lt_of_lt_of_le hb hg.size, fun j x hx => ?_⟩
  rw [World.cell?_of_block (hg.block b hb (by intro e; injection e; omega))]
  exact hc j x hx
theorem FixI.below {w w' : World} {lo B : Nat} {A : Option Addr} {n : Nat} {zs : List Int} (h : FixI w lo A n zs) (hb : Below B w w') (hB : w.heap.size ≤ B) : FixI w' lo A n zs := by
  refine ⟨h.1, h.2.1, fun hn => ?_⟩
  obtain ⟨b, off, rfl, h1, h2, hc⟩ := h.2.2 hn
  refine ⟨b, off, rfl, h1, Nat.lt_of_lt_of_le h2 hb.size, fun j x hx => ?_⟩
  rw [hb.cell (p := ⟨b, off + j, none⟩) (by simp only []; omega)]
  exact hc j x hx
theorem FixI.low {w : World} {lo lo' : Nat} {A : Option Addr} {n : Nat} {zs : List Int} (h : FixI w lo A n zs) (hl : lo' ≤ lo) : FixI w lo' A n zs :=
  ⟨h.1, h.2.1, fun hn => let ⟨b, off, e, h1, r⟩ := h.2.2 hn; ⟨b, off, e, Nat.le_trans hl h1, r⟩⟩
theorem FixI.nil (w : World) (lo : Nat) (A : Option Addr) : FixI w lo A 0 [] := ⟨rfl, by omega, fun h => absurd h (by omega)⟩
theorem FixI.row {w : World} {b lo : Nat} {t : TypeId} {zs : List Int} (h : w.heap[b]? = some (.cells (zs.map (Value.int .i64)).toArray t (0, 0))) (hl : lo ≤ b) (hn : zs.length ≤ 8) : FixI w lo (some ⟨b, 0, none⟩) zs.length zs := by
  refine ⟨rfl, hn, fun _ => ⟨b, 0, rfl, hl, (Array.getElem?_eq_some_iff.1 h).1, fun j x hx => ?_⟩⟩
  rw [Nat.zero_add, cell_of_row w b j _ _ _ h]
  simp [hx]
theorem heap_nextG {w w' : World} {i : Nat} {o : Obj} (h : w.heap[i]? = some o) (hb : Below w.heap.size w w') : w'.heap[i]? = some o := by
  rw [hb.block i (Array.getElem?_eq_some_iff.1 h).1]; exact h
/-- Blocks made one behind the other. -/
def chainW (w : World) (os : List Obj) : World := os.foldl World.alloc w
theorem chain_below (os : List Obj) : ∀ w : World, Below w.heap.size w (chainW w os) := by
  induction os with
  | nil => intro w; exact Below.refl _ _
  | cons o os ih =>
    intro w
    have h1 := (Below.refl w.heap.size w).alloc (Nat.le_refl _) o
    exact h1.trans ((ih (w.alloc o)).mono (by rw [alloc_size]; omega))
theorem chain_get (os : List Obj) : ∀ (w : World) (i : Nat) (o : Obj), os[i]? = some o → (chainW w os).heap[w.heap.size + i]? = some o := by
  induction os with
  | nil => intro w i o h; simp at h
  | cons x os ih =>
    intro w i o h
    cases i with
    | zero =>
      simp only [List.getElem?_cons_zero, Option.some.injEq] at h
      subst h
      have h1 := heap_alloc_new w x
      show (chainW (w.alloc x) os).heap[w.heap.size]? = some x
      rw [(chain_below os (w.alloc x)).block w.heap.size (by rw [alloc_size]; omega)]
      exact h1
    | succ i =>
      rw [List.getElem?_cons_succ] at h
      have := ih (w.alloc x) i o h
      rw [alloc_size] at this
      show (chainW (w.alloc x) os).heap[w.heap.size + (i + 1)]? = some o
      rw [show w.heap.size + (i + 1) = w.heap.size + 1 + i by omega]
      exact this
/-- Five families in a block. -/
def LibAt (w : World) (lo b : Nat) : Prop :=
  ∀ i, i < 5 → ∃ (s : ByteArray) (κ p k g : Int) (A : Option Addr) (n : Nat) (C : Int) (A' : Option Addr) (n' : Nat) (zs ls : List Int), (κ = 1 ∨ κ = 2) ∧ s.size ≤ 9 ∧ FixI w lo A n zs ∧ FixI w lo A' n' ls ∧
    w.cell? ⟨b, i * 8, none⟩ = some (.string s) ∧ w.cell? ⟨b, i * 8 + 1, none⟩ = some (.int .i64 κ) ∧ w.cell? ⟨b, i * 8 + 2, none⟩ = some (.int .i64 p) ∧ w.cell? ⟨b, i * 8 + 3, none⟩ = some (.int .i64 k) ∧ w.cell? ⟨b, i * 8 + 4, none⟩ = some (.int .i64 g) ∧
    w.cell? ⟨b, i * 8 + 5, none⟩ = some (.slice A n n) ∧ w.cell? ⟨b, i * 8 + 6, none⟩ = some (.int .i64 C) ∧ w.cell? ⟨b, i * 8 + 7, none⟩ = some (.slice A' n' n')
def libObjs (w : World) (p0 k0 g0 p1 k1 g1 p2 k2 g2 p3 k3 g3 : Int) : List Obj := [.cells #[.int .i64 17, .int .i64 21, .int .i64 25] 2,
  .cells #[.int .i64 20, .int .i64 40] 2,
  .cells #[.int .i64 17, .int .i64 21, .int .i64 25, .int .i64 29, .int .i64 33] 2,
  .cells #[.int .i64 15, .int .i64 30, .int .i64 60] 2,
  .cells #[.int .i64 17, .int .i64 21, .int .i64 25, .int .i64 29, .int .i64 33, .int .i64 37, .int .i64 41] 2,
  .cells #[.int .i64 10, .int .i64 20, .int .i64 30, .int .i64 50] 2,
  .cells #[.int .i64 4, .int .i64 6, .int .i64 8, .int .i64 12, .int .i64 16, .int .i64 24] 2,
  .cells #[.int .i64 25, .int .i64 50] 2,
  .cells #[.int .i64 3, .int .i64 4, .int .i64 5] 2,
  .cells #[.int .i64 30] 2,
  .cells #[.string ⟨#[116, 105, 108, 101]⟩, .int .i64 1, .int .i64 p0, .int .i64 k0, .int .i64 g0, .slice (some ⟨w.heap.size, 0, none⟩) 3 3, .int .i64 0, .slice (some ⟨w.heap.size + 1, 0, none⟩) 2 2, .string ⟨#[112, 97, 110, 101, 108]⟩, .int .i64 1, .int .i64 p1, .int .i64 k1, .int .i64 g1, .slice (some ⟨w.heap.size + 1 + 1, 0, none⟩) 5 5, .int .i64 0, .slice (some ⟨w.heap.size + 1 + 1 + 1, 0, none⟩) 3 3, .string ⟨#[112, 108, 97, 116, 101]⟩, .int .i64 1, .int .i64 p2, .int .i64 k2, .int .i64 g2, .slice (some ⟨w.heap.size + 1 + 1 + 1 + 1, 0, none⟩) 7 7, .int .i64 0, .slice (some ⟨w.heap.size + 1 + 1 + 1 + 1 + 1, 0, none⟩) 4 4, .string ⟨#[115, 116, 97, 99, 107]⟩, .int .i64 2, .int .i64 p3, .int .i64 k3, .int .i64 g3, .slice (some ⟨w.heap.size + 1 + 1 + 1 + 1 + 1 + 1, 0, none⟩) 6 6, .int .i64 4, .slice (some ⟨w.heap.size + 1 + 1 + 1 + 1 + 1 + 1 + 1, 0, none⟩) 2 2, .string ⟨#[114, 105, 98, 98, 111, 110]⟩, .int .i64 2, .int .i64 p3, .int .i64 k3, .int .i64 g3, .slice (some ⟨w.heap.size + 1 + 1 + 1 + 1 + 1 + 1 + 1 + 1, 0, none⟩) 3 3, .int .i64 8, .slice (some ⟨w.heap.size + 1 + 1 + 1 + 1 + 1 + 1 + 1 + 1 + 1, 0, none⟩) 1 1] 28
  ]
set_option maxRecDepth 100000 in
set_option maxHeartbeats 4000000 in
theorem lib_at (w : World) (p0 k0 g0 p1 k1 g1 p2 k2 g2 p3 k3 g3 : Int) : LibAt (chainW w (libObjs w p0 k0 g0 p1 k1 g1 p2 k2 g2 p3 k3 g3)) w.heap.size (w.heap.size + 10) := by
  have hg := fun i o h => chain_get (libObjs w p0 k0 g0 p1 k1 g1 p2 k2 g2 p3 k3 g3) w i o h
  generalize chainW w (libObjs w p0 k0 g0 p1 k1 g1 p2 k2 g2 p3 k3 g3) = W at *
  have hL := hg 10 _ rfl
  have hc := fun j => cell_of_row W (w.heap.size + 10) j _ _ _ hL
  intro i hi
  obtain rfl | rfl | rfl | rfl | rfl : i = 0 ∨ i = 1 ∨ i = 2 ∨ i = 3 ∨ i = 4 := by omega
  · have h0 := FixI.row (zs := [17, 21, 25]) (lo := w.heap.size) (hg 0 _ rfl) (by omega) (by decide)
    have h1 := FixI.row (zs := [20, 40]) (lo := w.heap.size) (hg 1 _ rfl) (by omega) (by decide)
    exact ⟨_, _, _, _, _, _, _, _, _, _, _, _, by decide, by decide, h0, h1, hc 0, hc 1, hc 2, hc 3, hc 4, hc 5, hc 6, hc 7⟩
  · have h0 := FixI.row (zs := [17, 21, 25, 29, 33]) (lo := w.heap.size) (hg 2 _ rfl) (by omega) (by decide)
    have h1 := FixI.row (zs := [15, 30, 60]) (lo := w.heap.size) (hg 3 _ rfl) (by omega) (by decide)
    exact ⟨_, _, _, _, _, _, _, _, _, _, _, _, by decide, by decide, h0, h1, hc 8, hc 9, hc 10, hc 11, hc 12, hc 13, hc 14, hc 15⟩
  · have h0 := FixI.row (zs := [17, 21, 25, 29, 33, 37, 41]) (lo := w.heap.size) (hg 4 _ rfl) (by omega) (by decide)
    have h1 := FixI.row (zs := [10, 20, 30, 50]) (lo := w.heap.size) (hg 5 _ rfl) (by omega) (by decide)
    exact ⟨_, _, _, _, _, _, _, _, _, _, _, _, by decide, by decide, h0, h1, hc 16, hc 17, hc 18, hc 19, hc 20, hc 21, hc 22, hc 23⟩
  · have h0 := FixI.row (zs := [4, 6, 8, 12, 16, 24]) (lo := w.heap.size) (hg 6 _ rfl) (by omega) (by decide)
    have h1 := FixI.row (zs := [25, 50]) (lo := w.heap.size) (hg 7 _ rfl) (by omega) (by decide)
    exact ⟨_, _, _, _, _, _, _, _, _, _, _, _, by decide, by decide, h0, h1, hc 24, hc 25, hc 26, hc 27, hc 28, hc 29, hc 30, hc 31⟩
  · have h0 := FixI.row (zs := [3, 4, 5]) (lo := w.heap.size) (hg 8 _ rfl) (by omega) (by decide)
    have h1 := FixI.row (zs := [30]) (lo := w.heap.size) (hg 9 _ rfl) (by omega) (by decide)
    exact ⟨_, _, _, _, _, _, _, _, _, _, _, _, by decide, by decide, h0, h1, hc 32, hc 33, hc 34, hc 35, hc 36, hc 37, hc 38, hc 39⟩

def NewLib (w : World) (x : Ending) (w' : World) : Prop := ∃ b, x = .returned (.slice (some ⟨b, 0, none⟩) 5 5) ∧ LibAt w' w.heap.size b ∧ b < w'.heap.size ∧ w.heap.size ≤ b ∧ Below w.heap.size w w'
theorem LibAt.low {w : World} {lo lo' b : Nat} (h : LibAt w lo b) (hl : lo' ≤ lo) : LibAt w lo' b := fun i hi =>
  let ⟨s, κ, p, k, g, A, n, C, A', n', zs, ls, h0, h1, h2, h3, r⟩ := h i hi; ⟨s, κ, p, k, g, A, n, C, A', n', zs, ls, h0, h1, h2.low hl, h3.low hl, r⟩
theorem LibAt.grown {w w' : World} {lo b g : Nat} (h : LibAt w lo b) (hg : w.grownBy w' (some g)) (hl : g < lo) (hb : b < w.heap.size) (hb2 : lo ≤ b) : LibAt w' lo b := fun i hi =>
  let ⟨s, κ, p, k, g', A, n, C, A', n', zs, ls, h0, h1, h2, h3, c0, c1, c2, c3, c4, c5, c6, c7⟩ := h i hi
  have hc : ∀ j, w'.cell? ⟨b, j, none⟩ = w.cell? ⟨b, j, none⟩ := fun j => World.cell?_of_block (hg.block b hb (by intro e; injection e; omega))
  ⟨s, κ, p, k, g', A, n, C, A', n', zs, ls, h0, h1, h2.grown hg hl, h3.grown hg hl, (hc _).trans c0, (hc _).trans c1, (hc _).trans c2, (hc _).trans c3, (hc _).trans c4, (hc _).trans c5, (hc _).trans c6, (hc _).trans c7⟩
set_option maxRecDepth 100000 in
set_option maxHeartbeats 8000000 in
theorem specLib (w : World) : Calls Tryz.prog 101 #[] w (NewLib w) := by
  have HO := hide (fun s w' => specFieldOf s w')
  go_enter Tryz.func101, Tryz.ntmps101
  go_wp2_with fail
  obtain ⟨P0, hP⟩ : ∃ x, foP 16 = x := ⟨_, rfl⟩
  obtain ⟨K0, hK⟩ : ∃ x, foK 16 = x := ⟨_, rfl⟩
  obtain ⟨G0, hG⟩ : ∃ x, foG 16 = x := ⟨_, rfl⟩
  have HO0 := hide (fun w' => HO.out 16 w')
  rw [hP, hK, hG] at HO0
  clear hP hK hG
  refine (HO0.out _).mono ?_
  rintro e v0 ⟨rfl, hb⟩
  obtain ⟨w0, hw0⟩ : ∃ w0, v0.alloc (.cells #[.int .i64 P0, .int .i64 K0, .int .i64 G0] 25) = w0 := ⟨_, rfl⟩
  have hbz : Below v0.heap.size v0 w0 := by rw [← hw0]; exact (Below.refl _ _).alloc (Nat.le_refl _) _
  have HZ0 := hide (show w0.heap[v0.heap.size]? = some (.cells #[.int .i64 P0, .int .i64 K0, .int .i64 G0] 25 (0, 0)) by rw [← hw0]; exact heap_alloc_new _ _)
  have HB0 := hide (hb.trans (hbz.mono hb.size))
  clear hb hbz
  go_wp2_with fail
  clear hw0
  obtain ⟨P1, hP⟩ : ∃ x, foP 64 = x := ⟨_, rfl⟩
  obtain ⟨K1, hK⟩ : ∃ x, foK 64 = x := ⟨_, rfl⟩
  obtain ⟨G1, hG⟩ : ∃ x, foG 64 = x := ⟨_, rfl⟩
  have HO1 := hide (fun w' => HO.out 64 w')
  rw [hP, hK, hG] at HO1
  clear hP hK hG
  refine (HO1.out _).mono ?_
  rintro e v1 ⟨rfl, hb⟩
  obtain ⟨w1, hw1⟩ : ∃ w1, v1.alloc (.cells #[.int .i64 P1, .int .i64 K1, .int .i64 G1] 25) = w1 := ⟨_, rfl⟩
  have hbz : Below v1.heap.size v1 w1 := by rw [← hw1]; exact (Below.refl _ _).alloc (Nat.le_refl _) _
  have HZ1 := hide (show w1.heap[v1.heap.size]? = some (.cells #[.int .i64 P1, .int .i64 K1, .int .i64 G1] 25 (0, 0)) by rw [← hw1]; exact heap_alloc_new _ _)
  have HB1 := hide (HB0.out.trans ((hb.mono HB0.out.size).trans (hbz.mono (Nat.le_trans HB0.out.size hb.size))))
  have HZ0' := hide (heap_nextG (heap_nextG HZ0.out hb) hbz)
  clear HZ0
  have HZ0 := HZ0'
  clear HZ0'
  clear hb hbz
  go_wp2_with fail
  clear hw1
  obtain ⟨P2, hP⟩ : ∃ x, foP 256 = x := ⟨_, rfl⟩
  obtain ⟨K2, hK⟩ : ∃ x, foK 256 = x := ⟨_, rfl⟩
  obtain ⟨G2, hG⟩ : ∃ x, foG 256 = x := ⟨_, rfl⟩
  have HO2 := hide (fun w' => HO.out 256 w')
  rw [hP, hK, hG] at HO2
  clear hP hK hG
  refine (HO2.out _).mono ?_
  rintro e v2 ⟨rfl, hb⟩
  obtain ⟨w2, hw2⟩ : ∃ w2, v2.alloc (.cells #[.int .i64 P2, .int .i64 K2, .int .i64 G2] 25) = w2 := ⟨_, rfl⟩
  have hbz : Below v2.heap.size v2 w2 := by rw [← hw2]; exact (Below.refl _ _).alloc (Nat.le_refl _) _
  have HZ2 := hide (show w2.heap[v2.heap.size]? = some (.cells #[.int .i64 P2, .int .i64 K2, .int .i64 G2] 25 (0, 0)) by rw [← hw2]; exact heap_alloc_new _ _)
  have HB2 := hide (HB1.out.trans ((hb.mono HB1.out.size).trans (hbz.mono (Nat.le_trans HB1.out.size hb.size))))
  have HZ0' := hide (heap_nextG (heap_nextG HZ0.out hb) hbz)
  clear HZ0
  have HZ0 := HZ0'
  clear HZ0'
  have HZ1' := hide (heap_nextG (heap_nextG HZ1.out hb) hbz)
  clear HZ1
  have HZ1 := HZ1'
  clear HZ1'
  clear hb hbz
  go_wp2_with fail
  clear hw2
  obtain ⟨P3, hP⟩ : ∃ x, foP 32 = x := ⟨_, rfl⟩
  obtain ⟨K3, hK⟩ : ∃ x, foK 32 = x := ⟨_, rfl⟩
  obtain ⟨G3, hG⟩ : ∃ x, foG 32 = x := ⟨_, rfl⟩
  have HO3 := hide (fun w' => HO.out 32 w')
  rw [hP, hK, hG] at HO3
  clear hP hK hG
  refine (HO3.out _).mono ?_
  rintro e v3 ⟨rfl, hb⟩
  obtain ⟨w3, hw3⟩ : ∃ w3, v3.alloc (.cells #[.int .i64 P3, .int .i64 K3, .int .i64 G3] 25) = w3 := ⟨_, rfl⟩
  have hbz : Below v3.heap.size v3 w3 := by rw [← hw3]; exact (Below.refl _ _).alloc (Nat.le_refl _) _
  have HZ3 := hide (show w3.heap[v3.heap.size]? = some (.cells #[.int .i64 P3, .int .i64 K3, .int .i64 G3] 25 (0, 0)) by rw [← hw3]; exact heap_alloc_new _ _)
  have HB3 := hide (HB2.out.trans ((hb.mono HB2.out.size).trans (hbz.mono (Nat.le_trans HB2.out.size hb.size))))
  have HZ0' := hide (heap_nextG (heap_nextG HZ0.out hb) hbz)
  clear HZ0
  have HZ0 := HZ0'
  clear HZ0'
  have HZ1' := hide (heap_nextG (heap_nextG HZ1.out hb) hbz)
  clear HZ1
  have HZ1 := HZ1'
  clear HZ1'
  have HZ2' := hide (heap_nextG (heap_nextG HZ2.out hb) hbz)
  clear HZ2
  have HZ2 := HZ2'
  clear HZ2'
  clear hb hbz
  obtain ⟨a0, b0, c0⟩ := cells3 HZ0.out
  obtain ⟨a1, b1, c1⟩ := cells3 HZ1.out
  obtain ⟨a2, b2, c2⟩ := cells3 HZ2.out
  obtain ⟨a3, b3, c3⟩ := cells3 HZ3.out
  obtain ⟨a1_2, b1_2, c1_2⟩ : ((w3.alloc (.cells #[.int .i64 17, .int .i64 21, .int .i64 25] 2)).alloc (.cells #[.int .i64 20, .int .i64 40] 2)).cell? ⟨v1.heap.size, 0, none⟩ = some (.int .i64 P1) ∧ ((w3.alloc (.cells #[.int .i64 17, .int .i64 21, .int .i64 25] 2)).alloc (.cells #[.int .i64 20, .int .i64 40] 2)).cell? ⟨v1.heap.size, 1, none⟩ = some (.int .i64 K1) ∧ ((w3.alloc (.cells #[.int .i64 17, .int .i64 21, .int .i64 25] 2)).alloc (.cells #[.int .i64 20, .int .i64 40] 2)).cell? ⟨v1.heap.size, 2, none⟩ = some (.int .i64 G1) := cells3 (heap_nextG HZ1.out (show Below w3.heap.size w3 ((w3.alloc (.cells #[.int .i64 17, .int .i64 21, .int .i64 25] 2)).alloc (.cells #[.int .i64 20, .int .i64 40] 2)) from chain_below [.cells #[.int .i64 17, .int .i64 21, .int .i64 25] 2, .cells #[.int .i64 20, .int .i64 40] 2] w3))
  obtain ⟨a2_4, b2_4, c2_4⟩ : ((((w3.alloc (.cells #[.int .i64 17, .int .i64 21, .int .i64 25] 2)).alloc (.cells #[.int .i64 20, .int .i64 40] 2)).alloc (.cells #[.int .i64 17, .int .i64 21, .int .i64 25, .int .i64 29, .int .i64 33] 2)).alloc (.cells #[.int .i64 15, .int .i64 30, .int .i64 60] 2)).cell? ⟨v2.heap.size, 0, none⟩ = some (.int .i64 P2) ∧ ((((w3.alloc (.cells #[.int .i64 17, .int .i64 21, .int .i64 25] 2)).alloc (.cells #[.int .i64 20, .int .i64 40] 2)).alloc (.cells #[.int .i64 17, .int .i64 21, .int .i64 25, .int .i64 29, .int .i64 33] 2)).alloc (.cells #[.int .i64 15, .int .i64 30, .int .i64 60] 2)).cell? ⟨v2.heap.size, 1, none⟩ = some (.int .i64 K2) ∧ ((((w3.alloc (.cells #[.int .i64 17, .int .i64 21, .int .i64 25] 2)).alloc (.cells #[.int .i64 20, .int .i64 40] 2)).alloc (.cells #[.int .i64 17, .int .i64 21, .int .i64 25, .int .i64 29, .int .i64 33] 2)).alloc (.cells #[.int .i64 15, .int .i64 30, .int .i64 60] 2)).cell? ⟨v2.heap.size, 2, none⟩ = some (.int .i64 G2) := cells3 (heap_nextG HZ2.out (show Below w3.heap.size w3 ((((w3.alloc (.cells #[.int .i64 17, .int .i64 21, .int .i64 25] 2)).alloc (.cells #[.int .i64 20, .int .i64 40] 2)).alloc (.cells #[.int .i64 17, .int .i64 21, .int .i64 25, .int .i64 29, .int .i64 33] 2)).alloc (.cells #[.int .i64 15, .int .i64 30, .int .i64 60] 2)) from chain_below [.cells #[.int .i64 17, .int .i64 21, .int .i64 25] 2, .cells #[.int .i64 20, .int .i64 40] 2, .cells #[.int .i64 17, .int .i64 21, .int .i64 25, .int .i64 29, .int .i64 33] 2, .cells #[.int .i64 15, .int .i64 30, .int .i64 60] 2] w3))
  obtain ⟨a3_6, b3_6, c3_6⟩ : ((((((w3.alloc (.cells #[.int .i64 17, .int .i64 21, .int .i64 25] 2)).alloc (.cells #[.int .i64 20, .int .i64 40] 2)).alloc (.cells #[.int .i64 17, .int .i64 21, .int .i64 25, .int .i64 29, .int .i64 33] 2)).alloc (.cells #[.int .i64 15, .int .i64 30, .int .i64 60] 2)).alloc (.cells #[.int .i64 17, .int .i64 21, .int .i64 25, .int .i64 29, .int .i64 33, .int .i64 37, .int .i64 41] 2)).alloc (.cells #[.int .i64 10, .int .i64 20, .int .i64 30, .int .i64 50] 2)).cell? ⟨v3.heap.size, 0, none⟩ = some (.int .i64 P3) ∧ ((((((w3.alloc (.cells #[.int .i64 17, .int .i64 21, .int .i64 25] 2)).alloc (.cells #[.int .i64 20, .int .i64 40] 2)).alloc (.cells #[.int .i64 17, .int .i64 21, .int .i64 25, .int .i64 29, .int .i64 33] 2)).alloc (.cells #[.int .i64 15, .int .i64 30, .int .i64 60] 2)).alloc (.cells #[.int .i64 17, .int .i64 21, .int .i64 25, .int .i64 29, .int .i64 33, .int .i64 37, .int .i64 41] 2)).alloc (.cells #[.int .i64 10, .int .i64 20, .int .i64 30, .int .i64 50] 2)).cell? ⟨v3.heap.size, 1, none⟩ = some (.int .i64 K3) ∧ ((((((w3.alloc (.cells #[.int .i64 17, .int .i64 21, .int .i64 25] 2)).alloc (.cells #[.int .i64 20, .int .i64 40] 2)).alloc (.cells #[.int .i64 17, .int .i64 21, .int .i64 25, .int .i64 29, .int .i64 33] 2)).alloc (.cells #[.int .i64 15, .int .i64 30, .int .i64 60] 2)).alloc (.cells #[.int .i64 17, .int .i64 21, .int .i64 25, .int .i64 29, .int .i64 33, .int .i64 37, .int .i64 41] 2)).alloc (.cells #[.int .i64 10, .int .i64 20, .int .i64 30, .int .i64 50] 2)).cell? ⟨v3.heap.size, 2, none⟩ = some (.int .i64 G3) := cells3 (heap_nextG HZ3.out (show Below w3.heap.size w3 ((((((w3.alloc (.cells #[.int .i64 17, .int .i64 21, .int .i64 25] 2)).alloc (.cells #[.int .i64 20, .int .i64 40] 2)).alloc (.cells #[.int .i64 17, .int .i64 21, .int .i64 25, .int .i64 29, .int .i64 33] 2)).alloc (.cells #[.int .i64 15, .int .i64 30, .int .i64 60] 2)).alloc (.cells #[.int .i64 17, .int .i64 21, .int .i64 25, .int .i64 29, .int .i64 33, .int .i64 37, .int .i64 41] 2)).alloc (.cells #[.int .i64 10, .int .i64 20, .int .i64 30, .int .i64 50] 2)) from chain_below [.cells #[.int .i64 17, .int .i64 21, .int .i64 25] 2, .cells #[.int .i64 20, .int .i64 40] 2, .cells #[.int .i64 17, .int .i64 21, .int .i64 25, .int .i64 29, .int .i64 33] 2, .cells #[.int .i64 15, .int .i64 30, .int .i64 60] 2, .cells #[.int .i64 17, .int .i64 21, .int .i64 25, .int .i64 29, .int .i64 33, .int .i64 37, .int .i64 41] 2, .cells #[.int .i64 10, .int .i64 20, .int .i64 30, .int .i64 50] 2] w3))
  obtain ⟨a3_8, b3_8, c3_8⟩ : ((((((((w3.alloc (.cells #[.int .i64 17, .int .i64 21, .int .i64 25] 2)).alloc (.cells #[.int .i64 20, .int .i64 40] 2)).alloc (.cells #[.int .i64 17, .int .i64 21, .int .i64 25, .int .i64 29, .int .i64 33] 2)).alloc (.cells #[.int .i64 15, .int .i64 30, .int .i64 60] 2)).alloc (.cells #[.int .i64 17, .int .i64 21, .int .i64 25, .int .i64 29, .int .i64 33, .int .i64 37, .int .i64 41] 2)).alloc (.cells #[.int .i64 10, .int .i64 20, .int .i64 30, .int .i64 50] 2)).alloc (.cells #[.int .i64 4, .int .i64 6, .int .i64 8, .int .i64 12, .int .i64 16, .int .i64 24] 2)).alloc (.cells #[.int .i64 25, .int .i64 50] 2)).cell? ⟨v3.heap.size, 0, none⟩ = some (.int .i64 P3) ∧ ((((((((w3.alloc (.cells #[.int .i64 17, .int .i64 21, .int .i64 25] 2)).alloc (.cells #[.int .i64 20, .int .i64 40] 2)).alloc (.cells #[.int .i64 17, .int .i64 21, .int .i64 25, .int .i64 29, .int .i64 33] 2)).alloc (.cells #[.int .i64 15, .int .i64 30, .int .i64 60] 2)).alloc (.cells #[.int .i64 17, .int .i64 21, .int .i64 25, .int .i64 29, .int .i64 33, .int .i64 37, .int .i64 41] 2)).alloc (.cells #[.int .i64 10, .int .i64 20, .int .i64 30, .int .i64 50] 2)).alloc (.cells #[.int .i64 4, .int .i64 6, .int .i64 8, .int .i64 12, .int .i64 16, .int .i64 24] 2)).alloc (.cells #[.int .i64 25, .int .i64 50] 2)).cell? ⟨v3.heap.size, 1, none⟩ = some (.int .i64 K3) ∧ ((((((((w3.alloc (.cells #[.int .i64 17, .int .i64 21, .int .i64 25] 2)).alloc (.cells #[.int .i64 20, .int .i64 40] 2)).alloc (.cells #[.int .i64 17, .int .i64 21, .int .i64 25, .int .i64 29, .int .i64 33] 2)).alloc (.cells #[.int .i64 15, .int .i64 30, .int .i64 60] 2)).alloc (.cells #[.int .i64 17, .int .i64 21, .int .i64 25, .int .i64 29, .int .i64 33, .int .i64 37, .int .i64 41] 2)).alloc (.cells #[.int .i64 10, .int .i64 20, .int .i64 30, .int .i64 50] 2)).alloc (.cells #[.int .i64 4, .int .i64 6, .int .i64 8, .int .i64 12, .int .i64 16, .int .i64 24] 2)).alloc (.cells #[.int .i64 25, .int .i64 50] 2)).cell? ⟨v3.heap.size, 2, none⟩ = some (.int .i64 G3) := cells3 (heap_nextG HZ3.out (show Below w3.heap.size w3 ((((((((w3.alloc (.cells #[.int .i64 17, .int .i64 21, .int .i64 25] 2)).alloc (.cells #[.int .i64 20, .int .i64 40] 2)).alloc (.cells #[.int .i64 17, .int .i64 21, .int .i64 25, .int .i64 29, .int .i64 33] 2)).alloc (.cells #[.int .i64 15, .int .i64 30, .int .i64 60] 2)).alloc (.cells #[.int .i64 17, .int .i64 21, .int .i64 25, .int .i64 29, .int .i64 33, .int .i64 37, .int .i64 41] 2)).alloc (.cells #[.int .i64 10, .int .i64 20, .int .i64 30, .int .i64 50] 2)).alloc (.cells #[.int .i64 4, .int .i64 6, .int .i64 8, .int .i64 12, .int .i64 16, .int .i64 24] 2)).alloc (.cells #[.int .i64 25, .int .i64 50] 2)) from chain_below [.cells #[.int .i64 17, .int .i64 21, .int .i64 25] 2, .cells #[.int .i64 20, .int .i64 40] 2, .cells #[.int .i64 17, .int .i64 21, .int .i64 25, .int .i64 29, .int .i64 33] 2, .cells #[.int .i64 15, .int .i64 30, .int .i64 60] 2, .cells #[.int .i64 17, .int .i64 21, .int .i64 25, .int .i64 29, .int .i64 33, .int .i64 37, .int .i64 41] 2, .cells #[.int .i64 10, .int .i64 20, .int .i64 30, .int .i64 50] 2, .cells #[.int .i64 4, .int .i64 6, .int .i64 8, .int .i64 12, .int .i64 16, .int .i64 24] 2, .cells #[.int .i64 25, .int .i64 50] 2] w3))
  go_wp2_with fail
  clear hw3
  go_ret
  have HL := lib_at w3 P0 K0 G0 P1 K1 G1 P2 K2 G2 P3 K3 G3
  have HC := chain_below (libObjs w3 P0 K0 G0 P1 K1 G1 P2 K2 G2 P3 K3 G3) w3
  have HG := chain_get (libObjs w3 P0 K0 G0 P1 K1 G1 P2 K2 G2 P3 K3 G3) w3 10 _ rfl
  exact ⟨w3.heap.size + 10, rfl, HL.low HB3.out.size, (Array.getElem?_eq_some_iff.1 HG).1, Nat.le_trans HB3.out.size (Nat.le_add_right _ _), HB3.out.trans (HC.mono HB3.out.size)⟩

/-- What a draw of a family leaves. -/
def DrawnFm (g Bc : Nat) (Ac : Option Addr) (nc cc : Nat) (code : List Int) (w : World) (x : Ending) (w' : World) : Prop :=
  ∃ (s : ByteArray) (κ p k γ : Int) (A : Option Addr) (n c : Nat) (C : Int) (A' : Option Addr) (n' c' : Nat) (zs ls : List Int), x = .returned (.agg #[.string s, .int .i64 κ, .int .i64 p, .int .i64 k, .int .i64 γ, .slice A n c, .int .i64 C, .slice A' n' c']) ∧ s.size ≤ 9 ∧ FixI w' w.heap.size A n zs ∧ FixI w' w.heap.size A' n' ls ∧ Src w' g Bc Ac nc cc code ∧ w.grownBy w' (some g)

end Go.Proofs.YtncgeoliboidhaaGreat
