/-
  The laws' own functions on families: size, copy, whether two are the same.
  Condition: as each statement says.
-/
import Derived.Test.YtncgeoliboidhaaBxf
import Derived.Test.YtncgeoliboidhaaFmSpec2
import Derived.Test.YtncgeoliboidhaaFLaw
import Derived.Test.YtncgeoliboidhaaLawKit
import Derived.Test.YtncgeoliboidhaaMarks
import Derived.Deep.RegionHeld3
namespace Go.Proofs.Ytncgeoliboidhaa
open Go.RowKit
set_option linter.unusedVariables false
set_option linter.unusedSimpArgs false

/-- The box of a program's family. -/
def FBox (w wr : World) (s : ByteArray) (κ p k g : Int) (A : Option Addr) (n c : Nat) (C : Int) (A' : Option Addr) (n' c' : Nat) : Prop := Bxf w wr 31 #[.string s, .int .i64 κ, .int .i64 p, .int .i64 k, .int .i64 g, .slice A n c, .int .i64 C, .slice A' n' c']
/-- The box of a law's family. -/
def FBoxL (w wr : World) (s : ByteArray) (κ p k g : Int) (A : Option Addr) (n c : Nat) (C : Int) (A' : Option Addr) (n' c' : Nat) : Prop := Bxf w wr 26 #[.string s, .int .i64 κ, .int .i64 p, .int .i64 k, .int .i64 g, .slice A n c, .int .i64 C, .slice A' n' c']
/-- The cells of a family in a block. -/
def FCells (w : World) (b : Nat) (s : ByteArray) (κ p k g : Int) (A : Option Addr) (n c : Nat) (C : Int) (A' : Option Addr) (n' c' : Nat) : Prop :=
  w.cell? ⟨b, 0, none⟩ = some (.string s) ∧ w.cell? ⟨b, 1, none⟩ = some (.int .i64 κ) ∧ w.cell? ⟨b, 2, none⟩ = some (.int .i64 p) ∧ w.cell? ⟨b, 3, none⟩ = some (.int .i64 k) ∧ w.cell? ⟨b, 4, none⟩ = some (.int .i64 g) ∧
  w.cell? ⟨b, 5, none⟩ = some (.slice A n c) ∧ w.cell? ⟨b, 6, none⟩ = some (.int .i64 C) ∧ w.cell? ⟨b, 7, none⟩ = some (.slice A' n' c')
section
variable {w wr wr' : World} {s : ByteArray} {κ p k g : Int} {A : Option Addr} {n c : Nat} {C : Int} {A' : Option Addr} {n' c' : Nat}
theorem FBox.start (w : World) (s : ByteArray) (κ p k g : Int) (A : Option Addr) (n c : Nat) (C : Int) (A' : Option Addr) (n' c' : Nat) : FBox w (w.alloc (.cells #[.string s, .int .i64 κ, .int .i64 p, .int .i64 k, .int .i64 g, .slice A n c, .int .i64 C, .slice A' n' c'] 31)) s κ p k g A n c C A' n' c' := Bxf.start w _ _
theorem FBox.lt (h : FBox w wr s κ p k g A n c C A' n' c') : w.heap.size < wr.heap.size := Bxf.lt h
theorem FBox.next (h : FBox w wr s κ p k g A n c C A' n' c') (hb : Below wr.heap.size wr wr') : FBox w wr' s κ p k g A n c C A' n' c' := Bxf.next h hb
theorem FBox.drew (h : FBox w wr s κ p k g A n c C A' n' c') : FBox w wr.drew s κ p k g A n c C A' n' c' := Bxf.drew h
theorem FBox.drewN (h : FBox w wr s κ p k g A n c C A' n' c') (m : Nat) : FBox w (wr.drewN m) s κ p k g A n c C A' n' c' := Bxf.drewN h m
theorem FBox.alloc (h : FBox w wr s κ p k g A n c C A' n' c') (o : Obj) : FBox w (wr.alloc o) s κ p k g A n c C A' n' c' := Bxf.alloc h o
theorem FBox.grow {row : Option Nat} (h : FBox w wr s κ p k g A n c C A' n' c') (hg : wr.grownBy wr' row) (hr : ∀ b, row = some b → w.heap.size < b) : FBox w wr' s κ p k g A n c C A' n' c' := Bxf.grow h hg hr
theorem FBox.cells (h : FBox w wr s κ p k g A n c C A' n' c') : FCells wr w.heap.size s κ p k g A n c C A' n' c' :=
  ⟨Bxf.cell h rfl, Bxf.cell h rfl, Bxf.cell h rfl, Bxf.cell h rfl, Bxf.cell h rfl, Bxf.cell h rfl, Bxf.cell h rfl, Bxf.cell h rfl⟩
theorem FBoxL.start (w : World) (s : ByteArray) (κ p k g : Int) (A : Option Addr) (n c : Nat) (C : Int) (A' : Option Addr) (n' c' : Nat) : FBoxL w (w.alloc (.cells #[.string s, .int .i64 κ, .int .i64 p, .int .i64 k, .int .i64 g, .slice A n c, .int .i64 C, .slice A' n' c'] 26)) s κ p k g A n c C A' n' c' := Bxf.start w _ _
theorem FBoxL.lt (h : FBoxL w wr s κ p k g A n c C A' n' c') : w.heap.size < wr.heap.size := Bxf.lt h
theorem FBoxL.next (h : FBoxL w wr s κ p k g A n c C A' n' c') (hb : Below wr.heap.size wr wr') : FBoxL w wr' s κ p k g A n c C A' n' c' := Bxf.next h hb
theorem FBoxL.cells (h : FBoxL w wr s κ p k g A n c C A' n' c') : FCells wr w.heap.size s κ p k g A n c C A' n' c' :=
  ⟨Bxf.cell h rfl, Bxf.cell h rfl, Bxf.cell h rfl, Bxf.cell h rfl, Bxf.cell h rfl, Bxf.cell h rfl, Bxf.cell h rfl, Bxf.cell h rfl⟩
end
theorem row8 {w : World} {b : Nat} {x0 x1 x2 x3 x4 x5 x6 x7 : Value} {t : TypeId} (h : w.heap[b]? = some (.cells #[x0, x1, x2, x3, x4, x5, x6, x7] t (0, 0))) :
    (w.cell? ⟨b, 0, none⟩ = some x0 ∧ w.cell? ⟨b, 1, none⟩ = some x1 ∧ w.cell? ⟨b, 2, none⟩ = some x2 ∧ w.cell? ⟨b, 3, none⟩ = some x3 ∧ w.cell? ⟨b, 4, none⟩ = some x4 ∧ w.cell? ⟨b, 5, none⟩ = some x5 ∧ w.cell? ⟨b, 6, none⟩ = some x6 ∧ w.cell? ⟨b, 7, none⟩ = some x7) ∧
    w.frozen? ⟨b, 0, none⟩ = false ∧ w.frozen? ⟨b, 1, none⟩ = false ∧ w.frozen? ⟨b, 2, none⟩ = false ∧ w.frozen? ⟨b, 3, none⟩ = false ∧ w.frozen? ⟨b, 4, none⟩ = false ∧ w.frozen? ⟨b, 5, none⟩ = false ∧ w.frozen? ⟨b, 6, none⟩ = false ∧ w.frozen? ⟨b, 7, none⟩ = false :=
  ⟨⟨cell_of_row w b 0 _ _ _ h, cell_of_row w b 1 _ _ _ h, cell_of_row w b 2 _ _ _ h, cell_of_row w b 3 _ _ _ h, cell_of_row w b 4 _ _ _ h, cell_of_row w b 5 _ _ _ h, cell_of_row w b 6 _ _ _ h, cell_of_row w b 7 _ _ _ h⟩, frozen_of_row w b 0 _ _ h, frozen_of_row w b 1 _ _ h, frozen_of_row w b 2 _ _ h, frozen_of_row w b 3 _ _ h, frozen_of_row w b 4 _ _ h, frozen_of_row w b 5 _ _ h, frozen_of_row w b 6 _ _ h, frozen_of_row w b 7 _ _ h⟩
set_option maxHeartbeats 1000000 in
theorem szIn (A : Option Addr) (n c x : Nat) (hx : x ≤ 1048576) (hn : n ≤ x) (w : World) :
    Calls Try.prog 30 #[.slice A n c, .int .i64 x] w fun e w' => e = .returned (.int .i64 ((x - n : Nat) : Int)) ∧ w = w' := by
  have HR := hide (show ((x - n : Nat) : Int) = (x : Int) - (n : Int) by omega)
  have hn' : ¬ ((x : Int) - (n : Int)) < 0 := by omega
  go_enter Try.func30, Try.ntmps30
  go_wp2_with fail
  go_ret
  exact ⟨ret_int HR.out, rfl⟩
set_option maxHeartbeats 1000000 in
theorem szOut (A : Option Addr) (n c x : Nat) (hx : x ≤ 1048576) (hn : x < n) (hm : n ≤ 9223372036854775807) (w : World) :
    Calls Try.prog 30 #[.slice A n c, .int .i64 x] w fun e w' => e = .returned (.int .i64 (-1)) ∧ w = w' := by
  have hn' : ((x : Int) - (n : Int)) < 0 := by omega
  go_enter Try.func30, Try.ntmps30
  go_wp2_with fail
  go_ret
  exact ⟨rfl, rfl⟩

set_option maxRecDepth 100000 in
set_option maxHeartbeats 2000000 in
theorem szFm (s : ByteArray) (κ p k g : Int) (A : Option Addr) (n c : Nat) (C : Int) (A' : Option Addr) (n' c' : Nat) (w : World) (h : s.size + n + n' ≤ 1048576) :
    Calls Try.prog 10 #[.agg #[.string s, .int .i64 κ, .int .i64 p, .int .i64 k, .int .i64 g, .slice A n c, .int .i64 C, .slice A' n' c'], .int .i64 1048576] w (Gives (.int .i64 ((1048576 - s.size - n - n' : Nat) : Int)) w) := by
  have HX := hide (FBoxL.start w s κ p k g A n c C A' n' c')
  obtain ⟨a, ha⟩ : ∃ a, 1048576 - s.size = a := ⟨_, rfl⟩
  have HS1 := hide (fun w' => szIn A n c a (by omega) (by omega) w')
  have HS2 := hide (fun w' => szIn A' n' c' (a - n) (by omega) (by omega) w')
  have e1 : (1048576 : Int) - (s.size : Int) = (a : Int) := by omega
  have z1 : ¬ (a : Int) < 0 := by omega
  have z2 : ¬ ((a - n : Nat) : Int) < 0 := by omega
  have z3 : ¬ ((a - n - n' : Nat) : Int) < 0 := by omega
  have hsz : s.size ≤ 1048576 := by omega
  rw [ha]
  generalize a - n - n' = a2 at *
  generalize a - n = a1 at *
  obtain ⟨c0, c1, c2, c3, c4, c5, c6, c7⟩ := HX.out.cells
  clear h ha
  go_enter Try.func10, Try.ntmps10
  go_wp2_with fail
  refine (HS1.out _).mono ?_
  rintro e _ ⟨rfl, rfl⟩
  go_wp2_with fail
  refine (HS2.out _).mono ?_
  rintro e _ ⟨rfl, rfl⟩
  go_wp2_with fail
  go_ret
  exact ⟨rfl, HX.out.2⟩
set_option maxRecDepth 100000 in
set_option maxHeartbeats 2000000 in
theorem szFm_no (s : ByteArray) (κ p k g : Int) (A : Option Addr) (n c : Nat) (C : Int) (A' : Option Addr) (n' c' : Nat) (w : World) (h : 1048576 < s.size + n + n') (hs : s.size ≤ 9223372036854775807) (hn : n ≤ 9223372036854775807) (hn' : n' ≤ 9223372036854775807) :
    Calls Try.prog 10 #[.agg #[.string s, .int .i64 κ, .int .i64 p, .int .i64 k, .int .i64 g, .slice A n c, .int .i64 C, .slice A' n' c'], .int .i64 1048576] w (Gives (.int .i64 (-1)) w) := by
  have HX := hide (FBoxL.start w s κ p k g A n c C A' n' c')
  obtain ⟨c0, c1, c2, c3, c4, c5, c6, c7⟩ := HX.out.cells
  by_cases h1 : 1048576 < s.size
  · have z1 : (1048576 : Int) - (s.size : Int) < 0 := by omega
    clear h
    go_enter Try.func10, Try.ntmps10
    go_wp2_with fail
    go_ret
    exact ⟨rfl, HX.out.2⟩
  obtain ⟨a, ha⟩ : ∃ a, 1048576 - s.size = a := ⟨_, rfl⟩
  have e1 : (1048576 : Int) - (s.size : Int) = (a : Int) := by omega
  have z1 : ¬ (a : Int) < 0 := by omega
  have hsz : s.size ≤ 1048576 := by omega
  by_cases h2 : a < n
  · have HS1 := hide (fun w' => szOut A n c a (by omega) h2 hn w')
    clear h ha h1 h2
    go_enter Try.func10, Try.ntmps10
    go_wp2_with fail
    refine (HS1.out _).mono ?_
    rintro e _ ⟨rfl, rfl⟩
    go_wp2_with fail
    go_ret
    exact ⟨rfl, HX.out.2⟩
  · have HS1 := hide (fun w' => szIn A n c a (by omega) (by omega) w')
    have HS2 := hide (fun w' => szOut A' n' c' (a - n) (by omega) (by omega) hn' w')
    have z2 : ¬ ((a - n : Nat) : Int) < 0 := by omega
    generalize a - n = a1 at *
    clear h ha h1 h2
    go_enter Try.func10, Try.ntmps10
    go_wp2_with fail
    refine (HS1.out _).mono ?_
    rintro e _ ⟨rfl, rfl⟩
    go_wp2_with fail
    refine (HS2.out _).mono ?_
    rintro e _ ⟨rfl, rfl⟩
    go_wp2_with fail
    go_ret
    exact ⟨rfl, HX.out.2⟩

/-- A new family: its lists are new. -/
def NewFm (s : ByteArray) (κ p k g : Int) (zs : List Int) (C : Int) (ls : List Int) (w : World) (x : Ending) (w' : World) : Prop :=
  ∃ A c A' c', x = .returned (.agg #[.string s, .int .i64 κ, .int .i64 p, .int .i64 k, .int .i64 g, .slice A zs.length c, .int .i64 C, .slice A' ls.length c']) ∧ Ints .i64 w' w'.heap.size A zs.length zs ∧ Ints .i64 w' w'.heap.size A' ls.length ls ∧ Below w.heap.size w w'

/-- What toFamily's memory is like: what it was given, its result, its variable. -/
def TF (w wr : World) (gs cs : Array Value) : Prop :=
  wr.heap[w.heap.size]? = some (.cells gs 26 (0, 0)) ∧ wr.heap[w.heap.size + 1]? = some (.cells #[.string ⟨#[]⟩, .int .i64 0, .int .i64 0, .int .i64 0, .int .i64 0, .slice none 0 0, .int .i64 0, .slice none 0 0] 31 (0, 0)) ∧
  wr.heap[w.heap.size + 1 + 1]? = some (.cells cs 31 (0, 0)) ∧ Below w.heap.size w wr ∧ w.heap.size + 3 ≤ wr.heap.size
theorem TF.next {w wr wr' : World} {gs cs : Array Value} (h : TF w wr gs cs) (hb : Below wr.heap.size wr wr') : TF w wr' gs cs :=
  ⟨by rw [hb.block _ (by have := h.2.2.2.2; omega)]; exact h.1, by rw [hb.block _ (by have := h.2.2.2.2; omega)]; exact h.2.1, by rw [hb.block _ (by have := h.2.2.2.2; omega)]; exact h.2.2.1, h.2.2.2.1.trans (hb.mono h.2.2.2.1.size), Nat.le_trans h.2.2.2.2 hb.size⟩
theorem TF.set {w wr : World} {gs cs : Array Value} (h : TF w wr gs cs) (j : Nat) (u : Value) : TF w (wr.setCell ⟨w.heap.size + 1 + 1, j, none⟩ u) gs (cs.setIfInBounds j u) :=
  ⟨by rw [Below.heap_setCell _ _ _ _ (by simp only []; omega)]; exact h.1, by rw [Below.heap_setCell _ _ _ _ (by simp only []; omega)]; exact h.2.1, heap_setCell_same _ _ j _ _ _ h.2.2.1, h.2.2.2.1.setCell (by simp only []; omega) _, by have := h.2.2.2.2; simpa [World.setCell] using this⟩
set_option maxRecDepth 100000 in
set_option maxHeartbeats 8000000 in
theorem toFm (s : ByteArray) (κ p k g : Int) (A : Option Addr) (n c : Nat) (C : Int) (A' : Option Addr) (n' c' : Nat) (zs ls : List Int) (w : World) (hI : Ints .i64 w w.heap.size A n zs) (hJ : Ints .i64 w w.heap.size A' n' ls) (hn : n ≤ 1099511627776) (hn' : n' ≤ 1099511627776) :
    Calls Try.prog 12 #[.agg #[.string s, .int .i64 κ, .int .i64 p, .int .i64 k, .int .i64 g, .slice A n c, .int .i64 C, .slice A' n' c']] w (NewFm s κ p k g zs C ls w) := by
  have hT : TF w (((w.alloc (.cells #[.string s, .int .i64 κ, .int .i64 p, .int .i64 k, .int .i64 g, .slice A n c, .int .i64 C, .slice A' n' c'] 26)).alloc (.cells #[.string ⟨#[]⟩, .int .i64 0, .int .i64 0, .int .i64 0, .int .i64 0, .slice none 0 0, .int .i64 0, .slice none 0 0] 31)).alloc (.cells #[.string s, .int .i64 κ, .int .i64 0, .int .i64 0, .int .i64 0, .slice none 0 0, .int .i64 0, .slice none 0 0] 31)) #[.string s, .int .i64 κ, .int .i64 p, .int .i64 k, .int .i64 g, .slice A n c, .int .i64 C, .slice A' n' c'] #[.string s, .int .i64 κ, .int .i64 0, .int .i64 0, .int .i64 0, .slice none 0 0, .int .i64 0, .slice none 0 0] := by
    have h1 := heap_alloc_new w (.cells #[.string s, .int .i64 κ, .int .i64 p, .int .i64 k, .int .i64 g, .slice A n c, .int .i64 C, .slice A' n' c'] 26)
    have h2 := heap_alloc_new (w.alloc (.cells #[.string s, .int .i64 κ, .int .i64 p, .int .i64 k, .int .i64 g, .slice A n c, .int .i64 C, .slice A' n' c'] 26)) (.cells #[.string ⟨#[]⟩, .int .i64 0, .int .i64 0, .int .i64 0, .int .i64 0, .slice none 0 0, .int .i64 0, .slice none 0 0] 31)
    have h3 := heap_alloc_new ((w.alloc (.cells #[.string s, .int .i64 κ, .int .i64 p, .int .i64 k, .int .i64 g, .slice A n c, .int .i64 C, .slice A' n' c'] 26)).alloc (.cells #[.string ⟨#[]⟩, .int .i64 0, .int .i64 0, .int .i64 0, .int .i64 0, .slice none 0 0, .int .i64 0, .slice none 0 0] 31)) (.cells #[.string s, .int .i64 κ, .int .i64 0, .int .i64 0, .int .i64 0, .slice none 0 0, .int .i64 0, .slice none 0 0] 31)
    rw [alloc_size] at h2
    rw [alloc_size, alloc_size] at h3
    refine ⟨row_upF (row_upF h1 _) _, row_upF h2 _, h3, (((Below.refl _ _).alloc (Nat.le_refl _) _).alloc (by rw [alloc_size]; omega) _).alloc (by rw [alloc_size, alloc_size]; omega) _, by rw [alloc_size, alloc_size, alloc_size]; omega⟩
  have HT0 := hide hT
  have HI := hide hI
  have HJ := hide hJ
  have HL := hide hI.len
  have HL' := hide hJ.len
  clear hI hJ hT
  go_enter Try.func12, Try.ntmps12
  go_wp2_with fail
  refine (toField p k g _).mono ?_
  rintro e w1 ⟨rfl, hb⟩
  have HT1 := hide (HT0.out.next hb)
  clear hb HT0
  have HT2 := hide (((HT1.out.set 2 (.int .i64 p)).set 3 (.int .i64 k)).set 4 (.int .i64 g))
  obtain ⟨⟨a0, a1, a2, a3, a4, a5, a6, a7⟩, _, _, _, _, _, _, _, _⟩ := row8 HT1.out.1
  obtain ⟨⟨b0, b1, b2, b3, b4, b5, b6, b7⟩, f0, f1, f2, f3, f4, f5, f6, f7⟩ := row8 HT1.out.2.2.1
  go_wp2_with fail
  refine (toInts A n c zs _ ((HI.out.below HT2.out.2.2.2.1).more (by have := HT2.out.2.2.2.2; omega)) hn).mono ?_
  rintro e w2 ⟨A1, c1, rfl, hc1, ho1, hb⟩
  have HT3 := hide (HT2.out.next hb)
  have HC1 := hide hc1
  have HO1 := hide ho1
  have HBa := hide hb
  clear hb HT1 hc1 ho1 a0 a1 a2 a3 a4 a5 a6 a7 b0 b1 b2 b3 b4 b5 b6 b7 f0 f1 f2 f3 f4 f5 f6 f7
  have q3 : w.heap.size + 3 ≤ _ := HT2.out.2.2.2.2
  have HQ3 := hide q3
  clear q3
  have HT4 := hide ((HT3.out.set 5 (.slice A1 zs.length c1)).set 6 (.int .i64 C))
  have HO1b := hide (((HO1.out.set1 (b := w.heap.size + 1 + 1) (by have := HQ3.out; omega) 5 (.slice A1 zs.length c1)).set1 (b := w.heap.size + 1 + 1) (by have := HQ3.out; omega) 6 (.int .i64 C)))
  obtain ⟨⟨a0, a1, a2, a3, a4, a5, a6, a7⟩, _, _, _, _, _, _, _, _⟩ := row8 HT3.out.1
  obtain ⟨⟨b0, b1, b2, b3, b4, b5, b6, b7⟩, f0, f1, f2, f3, f4, f5, f6, f7⟩ := row8 HT3.out.2.2.1
  go_wp2_with fail
  refine (toInts A' n' c' ls _ ((HJ.out.below HT4.out.2.2.2.1).more (by have := HT4.out.2.2.2.2; omega)) hn').mono ?_
  rintro e w3 ⟨A2, c2, rfl, hc2, ho2, hb⟩
  have HT5 := hide (HT4.out.next hb)
  have HO1c := hide (HO1b.out.below hb (Nat.le_refl _))
  have HO2 := hide ho2
  have HC2 := hide hc2
  have HQ4 := hide (show w.heap.size + 3 ≤ _ from HT4.out.2.2.2.2)
  clear hb hc2 ho2 HBa HO1 HO1b HT3 HT4 a0 a1 a2 a3 a4 a5 a6 a7 b0 b1 b2 b3 b4 b5 b6 b7 f0 f1 f2 f3 f4 f5 f6 f7
  obtain ⟨⟨a0, a1, a2, a3, a4, a5, a6, a7⟩, _, _, _, _, _, _, _, _⟩ := row8 HT5.out.1
  obtain ⟨⟨b0, b1, b2, b3, b4, b5, b6, b7⟩, f0, f1, f2, f3, f4, f5, f6, f7⟩ := row8 HT5.out.2.2.1
  obtain ⟨⟨d0, d1, d2, d3, d4, d5, d6, d7⟩, g0, g1, g2, g3, g4, g5, g6, g7⟩ := row8 HT5.out.2.1
  have HBF := hide HT5.out.2.2.2.1
  clear HT5 HT2
  go_wp2_with fail
  have q1 : w.heap.size ≤ w.heap.size + 1 := Nat.le_succ _
  have q2 : w.heap.size ≤ w.heap.size + 1 + 1 := by omega
  refine bodyPost_ret (v := .agg #[.string s, .int .i64 κ, .int .i64 p, .int .i64 k, .int .i64 g, .slice A1 zs.length c1, .int .i64 C, .slice A2 ls.length c2]) (by simp [results, Try.results12, go_sem, b0, b1, b2, b3, b4, b5, b6, b7, d0, d1, d2, d3, d4, d5, d6, d7]) rfl ⟨A1, c1, A2, c2, rfl, ?_, ?_, ?_⟩
  · refine Own.ints (base := w.heap.size + 3) (n := zs.length) (c := c1) (e := 2) ?_
    have r1 : w.heap.size + 1 < w.heap.size + 3 := by omega
    have r2 : w.heap.size + 1 + 1 < w.heap.size + 3 := by omega
    have := own_base HO1c.out HQ3.out
    repeat (with_reducible refine Own.set1 ?_ (by first | exact r1 | exact r2) _ _)
    exact this
  · refine Own.ints (base := w.heap.size + 3) (n := ls.length) (c := c2) (e := 2) ?_
    have r1 : w.heap.size + 1 < w.heap.size + 3 := by omega
    have r2 : w.heap.size + 1 + 1 < w.heap.size + 3 := by omega
    have := own_base HO2.out HQ4.out
    repeat (with_reducible refine Own.set1 ?_ (by first | exact r1 | exact r2) _ _)
    exact this
  · repeat (with_reducible refine Below.setCell ?_ (by first | exact q1 | exact q2) _)
    exact HBF.out

set_option maxHeartbeats 1000000 in
theorem eqFldF (x y z : Int) (w : World) :
    Calls Try.prog 39 #[.agg #[.int .i64 x, .int .i64 y, .int .i64 z], .agg #[.int .i64 x, .int .i64 y, .int .i64 z]] w (Gives (.bool true) w) := by
  have e1 : (x != x) = false := by simp
  have e2 : (y != y) = false := by simp
  have e3 : (z != z) = false := by simp
  go_enter Try.func39, Try.ntmps39
  go_wp2_with fail
  go_ret
  exact ⟨rfl, (((Below.refl _ _).alloc (Nat.le_refl _) _).alloc (by rw [alloc_size]; omega) _)⟩
set_option maxRecDepth 100000 in
set_option maxHeartbeats 4000000 in
theorem eqFm (s : ByteArray) (κ p k g C : Int) (A : Option Addr) (n c : Nat) (A' : Option Addr) (n' c' : Nat) (F : Option Addr) (m d : Nat) (F' : Option Addr) (m' d' : Nat) (zs ls : List Int) (w : World)
    (hI : Ints .i64 w w.heap.size A n zs) (hJ : Ints .i64 w w.heap.size A' n' ls) (hI' : Ints .i64 w w.heap.size F m zs) (hJ' : Ints .i64 w w.heap.size F' m' ls) (hz : zs.length ≤ 1099511627776) (hl : ls.length ≤ 1099511627776) :
    Calls Try.prog 14 #[.agg #[.string s, .int .i64 κ, .int .i64 p, .int .i64 k, .int .i64 g, .slice A n c, .int .i64 C, .slice A' n' c'], .agg #[.string s, .int .i64 κ, .int .i64 p, .int .i64 k, .int .i64 g, .slice F m d, .int .i64 C, .slice F' m' d']] w (Gives (.bool true) w) := by
  have e1 : (κ != κ) = false := by simp
  have e2 : (C != C) = false := by simp
  have HX := hide (FBox.start w s κ p k g A n c C A' n' c')
  have hbx : Below w.heap.size w (w.alloc (.cells #[.string s, .int .i64 κ, .int .i64 p, .int .i64 k, .int .i64 g, .slice A n c, .int .i64 C, .slice A' n' c'] 31)) := HX.out.2
  obtain ⟨w1, hw1⟩ : ∃ w1, w.alloc (.cells #[.string s, .int .i64 κ, .int .i64 p, .int .i64 k, .int .i64 g, .slice A n c, .int .i64 C, .slice A' n' c'] 31) = w1 := ⟨_, rfl⟩
  rw [hw1] at HX hbx
  have HY := hide (FBox.start w1 s κ p k g F m d C F' m' d')
  have HI := hide (hI.below (hbx))
  have HJ := hide (hJ.below (hbx))
  have HI' := hide (hI'.below (hbx))
  have HJ' := hide (hJ'.below (hbx))
  have HS := hide (show w.heap.size ≤ w1.heap.size by rw [← hw1, alloc_size]; omega)
  have HBx := hide hbx
  clear hI hJ hI' hJ' hbx
  obtain ⟨w2, hw2⟩ : ∃ w2, w1.alloc (.cells #[.string s, .int .i64 κ, .int .i64 p, .int .i64 k, .int .i64 g, .slice F m d, .int .i64 C, .slice F' m' d'] 31) = w2 := ⟨_, rfl⟩
  rw [hw2] at HY
  have HX2 := hide (HX.out.next HY.out.2)
  have HS2 := hide (show w.heap.size ≤ w2.heap.size from Nat.le_trans HS.out HY.out.2.size)
  have HG := hide (fun (wr : World) (h : Below w2.heap.size w2 wr) => show Ints .i64 wr wr.heap.size A n zs ∧ Ints .i64 wr wr.heap.size A' n' ls ∧ Ints .i64 wr wr.heap.size F m zs ∧ Ints .i64 wr wr.heap.size F' m' ls from
    have hb : Below w.heap.size w1 wr := (HY.out.2.mono HS.out).trans (h.mono HS2.out)
    have hz : w.heap.size ≤ wr.heap.size := Nat.le_trans HS2.out h.size
    ⟨(HI.out.below hb).more hz, (HJ.out.below hb).more hz, (HI'.out.below hb).more hz, (HJ'.out.below hb).more hz⟩)
  have HF := hide (fun (wr : World) (h : Below w2.heap.size w2 wr) => show Below w.heap.size w wr from HBx.out.trans ((HY.out.2.mono HS.out).trans (h.mono HS2.out)))
  obtain ⟨c0, c1, c2, c3, c4, c5, c6, c7⟩ := HX2.out.cells
  obtain ⟨d0, d1, d2, d3, d4, d5, d6, d7⟩ := HY.out.cells
  go_enter Try.func14, Try.ntmps14
  go_wp2_with fail
  refine (eqFldF p k g _).mono ?_
  rintro e w3 ⟨rfl, hb3⟩
  have HX3 := hide (HX2.out.next hb3)
  have HY3 := hide (HY.out.next hb3)
  have HB3 := hide hb3
  clear c0 c1 c2 c3 c4 c5 c6 c7 d0 d1 d2 d3 d4 d5 d6 d7 hb3
  obtain ⟨c0, c1, c2, c3, c4, c5, c6, c7⟩ := HX3.out.cells
  obtain ⟨d0, d1, d2, d3, d4, d5, d6, d7⟩ := HY3.out.cells
  go_wp2_with fail
  refine (eqSame A n c _ F m d _ zs _ (HG.out _ HB3.out).1 (HG.out _ HB3.out).2.2.1 hz).mono ?_
  rintro e w4 ⟨rfl, hb4⟩
  have HX4 := hide (HX3.out.next hb4)
  have HY4 := hide (HY3.out.next hb4)
  have HB4 := hide (HB3.out.trans (hb4.mono HB3.out.size))
  clear c0 c1 c2 c3 c4 c5 c6 c7 d0 d1 d2 d3 d4 d5 d6 d7 hb4
  obtain ⟨c0, c1, c2, c3, c4, c5, c6, c7⟩ := HX4.out.cells
  obtain ⟨d0, d1, d2, d3, d4, d5, d6, d7⟩ := HY4.out.cells
  go_wp2_with fail
  refine (eqSame A' n' c' _ F' m' d' _ ls _ (HG.out _ HB4.out).2.1 (HG.out _ HB4.out).2.2.2 hl).mono ?_
  rintro e w5 ⟨rfl, hb5⟩
  have HB5 := hide (HB4.out.trans (hb5.mono HB4.out.size))
  clear c0 c1 c2 c3 c4 c5 c6 c7 d0 d1 d2 d3 d4 d5 d6 d7 hb5
  go_wp2_with fail
  go_ret
  exact ⟨rfl, HF.out _ HB5.out⟩
end Go.Proofs.Ytncgeoliboidhaa
