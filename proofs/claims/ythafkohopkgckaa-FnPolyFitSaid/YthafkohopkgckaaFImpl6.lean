/-
  The contracts of the program's table of powers and of what is read from it.
  Condition: the field is of one of both kinds, with a generator.
-/
import Derived.Test.YthafkohopkgckaaFImpl5
import Derived.Deep.WholeRow
import Derived.Deep.RegionHeld3
namespace Go.Proofs.Ythafkohopkgckaa
open Go.RowKit
set_option linter.unusedSimpArgs false
set_option linter.unusedVariables false

/-- The table of the powers of a generator. -/
def tbl (q : Nat) (mul : Nat → Nat → Nat) (γ i : Nat) : Int := if i < q - 1 then (pw mul γ i : Nat) else 0
/-- An array of the table's type reads as t. -/
def Tab (cs : Array Value) (t : Nat → Int) : Prop := cs.size = 1021 ∧ ∀ i, i < 1021 → cs[i]? = some (.int .i64 (t i))

theorem zero_tab : ∃ Z : Array Value, Tab Z (fun _ => 0) ∧ ∀ w, (zeroValue 107).run Try.prog w = .ok (.agg Z) w := by
  have h : (Try.prog.info? 107).map (fun i => (i.zero, i.size)) = some (some (.agg (Array.replicate 1021 (.int .i64 0))), 1021) := by kernel_rfl
  obtain ⟨h1, h2⟩ := zero_of_info h
  refine ⟨_, ⟨by simp, fun i hi => ?_⟩, h1⟩
  simp [hi]
theorem size_tab : (Try.prog.info? 107).map (·.size) = some 1021 := by kernel_rfl

set_option maxHeartbeats 400000 in
theorem implGenerator {p k g : Int} {γ : Nat} (h : (p ≠ 2 ∧ k = 1 ∧ g = γ) ∨ (p = 2 ∧ 3 ≤ k ∧ γ = 2)) (w : World) :
    Calls Try.prog 120 #[.agg #[.int .i64 p, .int .i64 k, .int .i64 g]] w (Gives (.int .i64 γ) w) := by
  have HX := hide (Box.start w 25 p k g)
  rcases h with ⟨h1, rfl, rfl⟩ | ⟨rfl, h2, rfl⟩
  · have e1 : (p == 2) = false := by simpa using h1
    go_enter Try.func120, Try.ntmps120
    go_wp2_with fail
    go_ret
    exact ⟨rfl, HX.out.2⟩
  · go_enter Try.func120, Try.ntmps120
    go_wp2_with fail
    go_ret
    exact ⟨rfl, HX.out.2⟩

def PowRel (w : World) (p k g : Int) (q : Nat) (mul : Nat → Nat → Nat) (γ : Nat) (Z : Array Value) (s i : Value) (wr : World) : Prop :=
  ∃ (j x : Nat) (cs : Array Value), j ≤ q - 1 ∧ i = .int .i64 j ∧ s = .int .i64 x ∧ x < q ∧ Hid (x = pw mul γ j) ∧ Tab cs (fun i => if i < j then (pw mul γ i : Nat) else 0) ∧
    wr.heap[w.heap.size + 1 + 1]? = some (.cells cs 107 (0, 0)) ∧ wr.heap[w.heap.size + 1]? = some (.cells Z 107 (0, 0)) ∧ Box w wr 25 p k g

theorem tab_put {cs : Array Value} {q : Nat} {mul : Nat → Nat → Nat} {γ j : Nat} (hj : j < 1021) (h : Tab cs (fun i => if i < j then (pw mul γ i : Nat) else 0)) :
    Tab (cs.setIfInBounds j (.int .i64 (pw mul γ j : Nat))) (fun i => if i < j + 1 then (pw mul γ i : Nat) else 0) := by
  refine ⟨by simp [h.1], fun i hi => ?_⟩
  rw [Array.getElem?_setIfInBounds]
  have hs := h.1
  have h2 := h.2 i hi
  by_cases he : j = i
  · subst he
    simp [hs, hj]
  · rw [if_neg he, h2]
    congr 2
    by_cases h3 : i < j
    · simp [h3, show i < j + 1 by omega]
    · simp [h3, show ¬ i < j + 1 by omega]
theorem tab_end {cs : Array Value} {q : Nat} {mul : Nat → Nat → Nat} {γ : Nat} (h : Tab cs (fun i => if i < q - 1 then (pw mul γ i : Nat) else 0)) : Tab cs (tbl q mul γ) := ⟨h.1, fun i hi => by rw [h.2 i hi]; rfl⟩
theorem Tab.one {cs : Array Value} {t : Nat → Int} (h : Tab cs t) : cs.all (·.oneCell') = true := by
  rw [Array.all_eq_true]
  intro i hi
  have := h.2 i (by rw [← h.1]; exact hi)
  rw [Array.getElem?_eq_getElem hi] at this
  injection this with this
  rw [this]; rfl
theorem heap_below {w w' : World} {i : Nat} {o : Obj} (h : w.heap[i]? = some o) (hb : Below w.heap.size w w') : w'.heap[i]? = some o := by
  rw [hb.block i (Array.getElem?_eq_some_iff.1 h).1]; exact h

theorem Box.set {w wr : World} {t : TypeId} {p k g : Int} (h : Box w wr t p k g) (b o : Nat) (v : Value) (hb : w.heap.size < b) : Box w (wr.setCell ⟨b, o, none⟩ v) t p k g :=
  ⟨by rw [heap_setCell_other wr ⟨b, o, none⟩ _ v (by simp; omega)]; exact h.1, h.2.setCell (by simp; omega) v⟩

theorem Below.setRow {B : Nat} {w w' : World} (h : Below B w w') (g : Nat) (cs : Array Value) (hg : B ≤ g) : Below B w (w'.setRow g cs) :=
  ⟨h.os, h.tape, h.output, by simp; exact h.size, fun i hi => (setRow_other w' g i cs (by omega)).trans (h.block i hi)⟩

def TabR (t : Nat → Int) (w : World) (x : Ending) (w' : World) : Prop := ∃ cs : Array Value, x = .returned (.agg cs) ∧ Tab cs t ∧ Below w.heap.size w w'

set_option maxHeartbeats 2000000 in
theorem implPowers {p k g : Int} {q : Nat} {mul : Nat → Nat → Nat} (h : Kd p k g q mul) {γ : Nat} (hγ : γ < q) (hg : (p ≠ 2 ∧ k = 1 ∧ g = γ) ∨ (p = 2 ∧ 3 ≤ k ∧ γ = 2)) (w : World) :
    Calls Try.prog 118 #[.agg #[.int .i64 p, .int .i64 k, .int .i64 g]] w (TabR (tbl q mul γ) w) := by
  obtain ⟨hq3, hq⟩ := h.big
  have M := h.mon
  obtain ⟨Z, hZ, hz⟩ := zero_tab
  have HZ := hide hZ
  have HG := hide hg
  clear hZ hg
  go_enter Try.func118, Try.ntmps118
  go_wp2_with fail
  refine (implSize h _).mono ?_
  rintro e w1 ⟨rfl, hb⟩
  have HX := hide ((((Box.start w 25 p k g).alloc (.cells Z 107)).alloc (.cells Z 107)).next hb)
  have H2 := hide (heap_below (i := w.heap.size + 1 + 1) (o := .cells Z 107 (0, 0)) (by have h1 := heap_alloc_new ((w.alloc (.cells #[.int .i64 p, .int .i64 k, .int .i64 g] 25)).alloc (.cells Z 107)) (.cells Z 107); rw [alloc_size, alloc_size] at h1; exact h1) hb)
  have H1 := hide (heap_below (i := w.heap.size + 1) (o := .cells Z 107 (0, 0)) (by
    have h1 := heap_alloc_new (w.alloc (.cells #[.int .i64 p, .int .i64 k, .int .i64 g] 25)) (.cells Z 107)
    rw [alloc_size] at h1
    exact (Below.heap_alloc _ _ _ (by rw [alloc_size, alloc_size]; omega)).trans h1) hb)
  clear hb
  go_wp2_with fail
  go_loopw [4, 9] (fun s i wr => PowRel w p k g q mul γ Z s i wr) (fun _ i _ => q - (intOf i).toNat)
  case atStart => exact ⟨0, 1, Z, by omega, rfl, rfl, by omega, rfl, ⟨HZ.out.1, fun i hi => by rw [HZ.out.2 i hi]; rfl⟩, H2, H1, HX⟩
  case round =>
    clear HX H1 H2
    obtain ⟨j, x, cs, hj, rfl, rfl, hx, HXJ, HT, H2, H1, HX⟩ := hrel
    have HX := hide HX
    have HT := hide HT
    have H2 := hide H2
    have H1 := hide H1
    obtain ⟨c0, c1, c2⟩ := HX.out.cells
    by_cases hlt : j < q - 1
    · have hlt' : (j : Int) < (q : Int) - 1 := by omega
      have hj1 : j < 1021 := by omega
      have z1 : (j : Int) < 1021 := by omega
      have z0 : (0 : Int) ≤ (j : Int) := by omega
      have hcell : wr.cell? ⟨w.heap.size + 1 + 1, j, none⟩ = some (.int .i64 ((fun i => if i < j then ((pw mul γ i : Nat) : Int) else 0) j)) := (cell_of_row wr _ j _ _ _ H2.out).trans (HT.out.2 j hj1)
      have hfro : wr.frozen? ⟨w.heap.size + 1 + 1, j, none⟩ = false := frozen_of_row wr _ j _ _ H2.out
      go_wp2_with fail
      have HXS := hide (HX.out.set (w.heap.size + 1 + 1) j (.int .i64 (x : Int)) (by omega))
      have H2S := hide (heap_setCell_same wr (w.heap.size + 1 + 1) j cs 107 (.int .i64 (x : Int)) H2.out)
      have H1S := hide ((heap_setCell_other wr ⟨w.heap.size + 1 + 1, j, none⟩ (w.heap.size + 1) (.int .i64 (x : Int)) (by simp)).trans H1.out)
      have HTS := hide (show Tab (cs.setIfInBounds j (.int .i64 (x : Int))) (fun i => if i < j + 1 then (pw mul γ i : Nat) else 0) by rw [HXJ.out]; exact tab_put (q := q) hj1 HT.out)
      generalize hws : wr.setCell ⟨w.heap.size + 1 + 1, j, none⟩ (.int .i64 (x : Int)) = ws at HXS H2S H1S ⊢
      generalize hcs : cs.setIfInBounds j (.int .i64 (x : Int)) = cs' at H2S HTS
      clear hws hcs hcell hfro c0 c1 c2 H1 H2 HT HX
      have HD := hide HXS.out.drew
      obtain ⟨c0, c1, c2⟩ := HXS.out.cells
      go_region_held3 (fun w' => w'.cell? ⟨w.heap.size, 0, none⟩ = some (.int .i64 p) ∧ w'.cell? ⟨w.heap.size, 1, none⟩ = some (.int .i64 k) ∧ w'.cell? ⟨w.heap.size, 2, none⟩ = some (.int .i64 g))
        (first
          | exact ⟨HD.out.cells.1, HD.out.cells.2.1, HD.out.cells.2.2⟩
          | exact ⟨HX2.out.cells.1, HX2.out.cells.2.1, HX2.out.cells.2.2⟩
          | exact ⟨HX3.out.cells.1, HX3.out.cells.2.1, HX3.out.cells.2.2⟩)
        (first
          | (go_at_call 120; refine (implGenerator HG.out _).mono ?_; rintro e w2 ⟨rfl, hb2⟩; have HX2 := hide (HD.out.next hb2); have K2 := hide (heap_below (w := ws.drew) H2S.out hb2); have K1 := hide (heap_below (w := ws.drew) H1S.out hb2); clear hb2)
          | (go_at_call 64; refine (implProd h x γ hx hγ _).mono ?_; rintro e w3 ⟨rfl, hb3⟩; have HX3 := hide (HX2.out.next hb3); have L2 := hide (heap_below K2.out hb3); have L1 := hide (heap_below K1.out hb3); clear hb3))
      go_wp2_with fail
      go_roundw
      case rel => exact ⟨j + 1, mul x γ, cs', by omega, by go_num, rfl, M.clo _ _ hx hγ, by show _ = mul (pw mul γ j) γ; rw [← HXJ.out], HTS, L2, L1, HX3⟩
      case measure => simp [intOf]; omega
    · have hlt' : decide ((j : Int) < (q : Int) - 1) = false := by simp; omega
      have HJ := hide (show j = q - 1 by omega)
      have hzs : cs.size = Z.size := by rw [HT.out.1, HZ.out.1]
      have HS := hide (show (Try.prog.info? 107).map (·.size) = some cs.size by rw [HT.out.1]; exact size_tab)
      have HZS := hide hzs.symm
      clear hzs hz
      go_wp2_with (first
        | (with_reducible refine wpList_load_row rfl 107 (.tmp 3) rfl (w.heap.size + 1 + 1) rfl 107 cs (0, 0) _ H2.out Try.underlying107 rfl HS.out ?_)
        | (with_reducible refine wpList_store_row rfl 107 (.tmp 2) (.tmp 21) rfl (w.heap.size + 1) cs rfl rfl 107 Z H1.out HS.out HZS.out HT.out.one ?_))
      have HR := hide (setRow_heap wr (w.heap.size + 1) Z cs 107 _ H1.out)
      refine bodyPost_ret (v := .agg cs) (results_cell_row Try.results118 _ _ (w.heap.size + 1) 107 cs _ _ rfl HR.out Try.underlying107 rfl HS.out) rfl ⟨cs, rfl, ?_, ?_⟩
      · have h1 := HT.out
        rw [HJ.out] at h1
        exact tab_end h1
      · exact Go.Proofs.Ythafkohopkgckaa.Below.setRow HX.out.2 _ _ (by omega)
end Go.Proofs.Ythafkohopkgckaa
