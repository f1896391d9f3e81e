/-
  Words for a struct that a call was given, whatever its fields; when a code is valid, told by its numbers; the contracts of IsCode, of the model and of the program.
  The contracts of what tells whether lists are words of a code, of the model and of the program.
  Condition: as each statement says.
-/
import Derived.Test.YtncgeoliboidhaaGreatVF
import Derived.Test.YtncgeoliboidhaaGreatVG
import Derived.Test.YtncgeoliboidhaaGreatRsMath
namespace Go.Proofs.YtncgeoliboidhaaGreat
open Go.RowKit
set_option linter.unusedSimpArgs false
set_option linter.unusedVariables false

/-- The struct that a call was given lies with its cells in the first block that it made, and nothing before it has changed. -/
def Bxd (w wr : World) (t : TypeId) (cs : Array Value) : Prop :=
  wr.heap[w.heap.size]? = some (.cells cs t (0, 0)) ∧ Below w.heap.size w wr
section
variable {w wr wr' : World} {t : TypeId} {cs : Array Value}
theorem Bxd.start (w : World) (t : TypeId) (cs : Array Value) : Bxd w (w.alloc (.cells cs t)) t cs := ⟨heap_alloc_new w _, (Below.refl _ _).alloc (Nat.le_refl _) _⟩
theorem Bxd.lt (h : Bxd w wr t cs) : w.heap.size < wr.heap.size := (Array.getElem?_eq_some_iff.1 h.1).1
theorem Bxd.next (h : Bxd w wr t cs) (hb : Below wr.heap.size wr wr') : Bxd w wr' t cs :=
  ⟨by rw [hb.block _ h.lt]; exact h.1, h.2.trans (hb.mono (Nat.le_of_lt h.lt))⟩
theorem Bxd.alloc (h : Bxd w wr t cs) (o : Obj) : Bxd w (wr.alloc o) t cs := h.next ((Below.refl _ _).alloc (Nat.le_refl _) o)
theorem Bxd.drew (h : Bxd w wr t cs) : Bxd w wr.drew t cs := ⟨h.1, h.2.drew⟩
theorem Bxd.drewN (h : Bxd w wr t cs) (n : Nat) : Bxd w (wr.drewN n) t cs := ⟨h.1, below_drewN h.2 n⟩
theorem Bxd.grow {row : Option Nat} (h : Bxd w wr t cs) (hg : wr.grownBy wr' row) (hr : ∀ b, row = some b → w.heap.size < b) : Bxd w wr' t cs :=
  ⟨by rw [hg.block _ h.lt (by intro e; have := hr _ e.symm; omega)]; exact h.1, h.2.grown hg (Nat.le_of_lt h.lt) (fun r hr' => by have := hr r hr'; omega)⟩
theorem Bxd.set (h : Bxd w wr t cs) {b : Nat} (hb : w.heap.size < b) (j : Nat) (u : Value) : Bxd w (wr.setCell ⟨b, j, none⟩ u) t cs :=
  h.grow (set_grown wr b j u) (fun r e => by injection e with e; omega)
theorem Bxd.setRow (h : Bxd w wr t cs) {b : Nat} (hb : w.heap.size < b) (ds : Array Value) : Bxd w (wr.setRow b ds) t cs := by
  have hB := Below.setRow (Below.refl (w.heap.size + 1) wr) b ds (by omega)
  exact ⟨by rw [hB.block _ (by omega)]; exact h.1, h.2.trans (hB.mono (by omega))⟩
theorem Bxd.cell (h : Bxd w wr t cs) {j : Nat} {v : Value} (hv : cs[j]? = some v) : wr.cell? ⟨w.heap.size, j, none⟩ = some v := by
  rw [cell_of_row wr w.heap.size j _ _ _ h.1]; exact hv
end

/-- The box of a code. -/
def CBox (w wr : World) (p k g L C : Int) : Prop := Bxd w wr 91 #[.int .i64 p, .int .i64 k, .int .i64 g, .int .i64 L, .int .i64 C]
section
variable {w wr wr' : World} {p k g L C : Int}
theorem CBox.start (w : World) (p k g L C : Int) : CBox w (w.alloc (.cells #[.int .i64 p, .int .i64 k, .int .i64 g, .int .i64 L, .int .i64 C] 91)) p k g L C := Bxd.start w _ _
theorem CBox.lt (h : CBox w wr p k g L C) : w.heap.size < wr.heap.size := Bxd.lt h
theorem CBox.next (h : CBox w wr p k g L C) (hb : Below wr.heap.size wr wr') : CBox w wr' p k g L C := Bxd.next h hb
theorem CBox.alloc (h : CBox w wr p k g L C) (o : Obj) : CBox w (wr.alloc o) p k g L C := Bxd.alloc h o
theorem CBox.drew (h : CBox w wr p k g L C) : CBox w wr.drew p k g L C := Bxd.drew h
theorem CBox.drewN (h : CBox w wr p k g L C) (n : Nat) : CBox w (wr.drewN n) p k g L C := Bxd.drewN h n
theorem CBox.grow {row : Option Nat} (h : CBox w wr p k g L C) (hg : wr.grownBy wr' row) (hr : ∀ b, row = some b → w.heap.size < b) : CBox w wr' p k g L C := Bxd.grow h hg hr
theorem CBox.set (h : CBox w wr p k g L C) {b : Nat} (hb : w.heap.size < b) (j : Nat) (u : Value) : CBox w (wr.setCell ⟨b, j, none⟩ u) p k g L C := Bxd.set h hb j u
theorem CBox.setRow (h : CBox w wr p k g L C) {b : Nat} (hb : w.heap.size < b) (ds : Array Value) : CBox w (wr.setRow b ds) p k g L C := Bxd.setRow h hb ds
/-- The five cells of a code. -/
def Cells5 (w : World) (b : Nat) (p k g L C : Int) : Prop :=
  w.cell? ⟨b, 0, none⟩ = some (.int .i64 p) ∧ w.cell? ⟨b, 1, none⟩ = some (.int .i64 k) ∧ w.cell? ⟨b, 2, none⟩ = some (.int .i64 g) ∧ w.cell? ⟨b, 3, none⟩ = some (.int .i64 L) ∧ w.cell? ⟨b, 4, none⟩ = some (.int .i64 C)
theorem CBox.cells (h : CBox w wr p k g L C) : wr.cell? ⟨w.heap.size, 0, none⟩ = some (.int .i64 p) ∧ wr.cell? ⟨w.heap.size, 1, none⟩ = some (.int .i64 k) ∧ wr.cell? ⟨w.heap.size, 2, none⟩ = some (.int .i64 g) ∧ wr.cell? ⟨w.heap.size, 3, none⟩ = some (.int .i64 L) ∧ wr.cell? ⟨w.heap.size, 4, none⟩ = some (.int .i64 C) :=
  ⟨Bxd.cell h rfl, Bxd.cell h rfl, Bxd.cell h rfl, Bxd.cell h rfl, Bxd.cell h rfl⟩
end

/-- Whether a code is valid, by its numbers. -/
def codeB (p k g L C : Int) : Bool := fieldB p k g && decide (1 ≤ C ∧ C ≤ 64 ∧ C < L ∧ L ≤ 255 ∧ L < sizeI p k)
/-- A valid code: its field, its generator, its length and its number of check elements. -/
structure CodeIs (R : Fld) (γ : El R) (p k g : Int) (l c : Nat) : Prop where
  fld : FldIs R p k g
  ok : fieldB p k g = true
  gval : (p ≠ 2 ∧ k = 1 ∧ g = γ.val) ∨ (p = 2 ∧ 3 ≤ k ∧ γ.val = 2)
  ggen : gen R.q R.mul γ.val = true
  c1 : 1 ≤ c
  c64 : c ≤ 64
  cl : c < l
  l255 : l ≤ 255
  lq : l < R.q
theorem epw_val {R : Fld} (x : El R) : ∀ n, (epw x n).val = pw R.mul x.val n
  | 0 => rfl
  | n + 1 => by show R.mul (epw x n).val x.val = R.mul (pw R.mul x.val n) x.val; rw [epw_val x n]
theorem FldIs.mon {R : Fld} {p k g : Int} (h : FldIs R p k g) : Mon R.q R.mul := h.kind.mon
theorem CodeIs.far {R : Fld} {γ : El R} {p k g : Int} {l c : Nat} (h : CodeIs R γ p k g l c) : Far γ l := by
  have M := h.fld.mon
  have hq3 := R.three
  refine ⟨fun e => ?_, fun i j hi hj hne e => ?_⟩
  · have := gen_pos M γ.lt h.ggen 1
    rw [pw_one M γ.lt, e] at this
    exact this rfl
  · have e' : pw R.mul γ.val i = pw R.mul γ.val j := by rw [← epw_val, ← epw_val, e]
    have hl := h.lq
    rcases Nat.lt_or_ge i j with h1 | h1
    · exact gen_inj M γ.lt h.ggen (show i < R.q - 1 by omega) (show j < R.q - 1 by omega) h1 e'
    · exact gen_inj M γ.lt h.ggen (show j < R.q - 1 by omega) (show i < R.q - 1 by omega) (by omega) e'.symm
theorem fld_gen {p k g : Int} {R : Fld} (h : FldIs R p k g) : ∃ γ : El R, ((p ≠ 2 ∧ k = 1 ∧ g = γ.val) ∨ (p = 2 ∧ 3 ≤ k ∧ γ.val = 2)) ∧ gen R.q R.mul γ.val = true := by
  obtain ⟨γ, h1, h2, h3⟩ := h.gen
  exact ⟨⟨γ, h1⟩, h3, h2⟩
theorem codeB_open {p k g L C : Int} (h : codeB p k g L C = true) : ∃ (R : Fld) (γ : El R) (l c : Nat), L = l ∧ C = c ∧ CodeIs R γ p k g l c := by
  simp only [codeB, Bool.and_eq_true, decide_eq_true_eq] at h
  obtain ⟨hf, h1, h2, h3, h4, h5⟩ := h
  obtain ⟨R, hR⟩ := fld_ex hf
  obtain ⟨γ, hg, hgg⟩ := fld_gen hR
  rw [hR.kind.size] at h5
  exact ⟨R, γ, L.toNat, C.toNat, by omega, by omega, hR, hf, hg, hgg, by omega, by omega, by omega, by omega, by omega⟩
theorem codeB_is {R : Fld} {γ : El R} {p k g : Int} {l c : Nat} (h : CodeIs R γ p k g l c) : codeB p k g l c = true := by
  simp only [codeB, Bool.and_eq_true, decide_eq_true_eq]
  rw [h.fld.kind.size]
  have := h.c1; have := h.c64; have := h.cl; have := h.l255; have := h.lq
  exact ⟨h.ok, by omega, by omega, by omega, by omega, by omega⟩
theorem codeB_no {p k g L C : Int} (h : ¬ (1 ≤ C ∧ C ≤ 64 ∧ C < L ∧ L ≤ 255)) : codeB p k g L C = false := by
  rw [codeB, Bool.and_eq_false_iff]; right
  rw [decide_eq_false_iff_not]
  exact fun ⟨h1, h2, h3, h4, _⟩ => h ⟨h1, h2, h3, h4⟩
theorem codeB_nf {p k g L C : Int} (h : fieldB p k g = false) : codeB p k g L C = false := by rw [codeB, h]; rfl
theorem codeB_lt {p k g L C : Int} {q : Nat} {mul : Nat → Nat → Nat} (hK : Kd p k g q mul) (hf : fieldB p k g = true) (h1 : 1 ≤ C ∧ C ≤ 64 ∧ C < L ∧ L ≤ 255) : codeB p k g L C = decide (L < (q : Int)) := by
  rw [codeB, hf, hK.size, Bool.true_and, Bool.eq_iff_iff]
  simp only [decide_eq_true_eq]
  omega

set_option maxRecDepth 100000 in
set_option maxHeartbeats 2000000 in
theorem implCodeValid (p k g L C : Int) (w : World) :
    Calls Tryz.prog 65 #[.agg #[.int .i64 p, .int .i64 k, .int .i64 g, .int .i64 L, .int .i64 C]] w (Gives (.bool (codeB p k g L C)) w) := by
  have HX := hide (CBox.start w p k g L C)
  rcases (show decide (1 ≤ C) = false ∨ (decide (1 ≤ C) = true ∧ decide (C ≤ 64) = false) ∨ (decide (1 ≤ C) = true ∧ decide (C ≤ 64) = true ∧ decide (C < L) = false) ∨ (decide (1 ≤ C) = true ∧ decide (C ≤ 64) = true ∧ decide (C < L) = true ∧ decide (L ≤ 255) = false) ∨ (decide (1 ≤ C) = true ∧ decide (C ≤ 64) = true ∧ decide (C < L) = true ∧ decide (L ≤ 255) = true) by
    simp only [decide_eq_false_iff_not, decide_eq_true_eq]; omega) with h1 | ⟨h1, h2⟩ | ⟨h1, h2, h3⟩ | ⟨h1, h2, h3, h4⟩ | ⟨h1, h2, h3, h4⟩
  rotate_left 4
  · obtain ⟨c0, c1, c2, c3, c4⟩ := HX.out.cells
    have hb1 := of_decide_eq_true h1
    have hb2 := of_decide_eq_true h2
    have hb3 := of_decide_eq_true h3
    have hb4 := of_decide_eq_true h4
    rcases hf : fieldB p k g with _ | _
    · have HF := hide (codeB_nf (L := L) (C := C) hf)
      have HB := hide hf
      clear hf
      go_enter Tryz.func65, Tryz.ntmps65
      go_wp2_with fail
      first
        | go_region_with (go_at_call 29; refine (implValid p k g _).mono ?_; rw [HB.out]; rintro e w2 ⟨rfl, hb⟩; have HX2 := hide (HX.out.drew.next hb); clear hb)
        | fail
      all_goals
        go_wp2_with fail
        go_ret
        exact ⟨ret_bool HF, HX2.out.2⟩
    · obtain ⟨q, mul, γ, hK, _⟩ := fieldB_open hf
      have HF := hide (codeB_lt hK hf (L := L) (C := C) ⟨hb1, hb2, hb3, hb4⟩)
      have HB := hide hf
      clear hf
      rcases hl : decide (L < (q : Int)) with _ | _ <;> (
        have HL := hide hl
        go_enter Tryz.func65, Tryz.ntmps65
        go_wp2_with fail
        go_region_held3 (fun w' => w'.cell? ⟨w.heap.size, 0, none⟩ = some (.int .i64 p) ∧ w'.cell? ⟨w.heap.size, 1, none⟩ = some (.int .i64 k) ∧ w'.cell? ⟨w.heap.size, 2, none⟩ = some (.int .i64 g) ∧ w'.cell? ⟨w.heap.size, 3, none⟩ = some (.int .i64 L) ∧ w'.cell? ⟨w.heap.size, 4, none⟩ = some (.int .i64 C))
          (first
            | exact HX.out.drew.cells
            | exact HX2.out.cells
            | exact HX3.out.cells)
          (first
            | (go_at_call 29; refine (implValid p k g _).mono ?_; rw [HB.out]; rintro e w2 ⟨rfl, hb⟩; have HX2 := hide (HX.out.drew.next hb); clear hb)
            | (go_at_call 63; refine (implSize hK _).mono ?_; rintro e w3 ⟨rfl, hb⟩; have HX3 := hide (HX2.out.next hb); clear hb))
        go_wp2_with fail
        go_ret
        exact ⟨ret_bool (by rw [HF.out, HL.out]), HX3.out.2⟩)
  all_goals
    have HF := hide (show codeB p k g L C = false from codeB_no (by simp only [decide_eq_false_iff_not, decide_eq_true_eq] at *; omega))
    obtain ⟨c0, c1, c2, c3, c4⟩ := HX.out.cells
    go_enter Tryz.func65, Tryz.ntmps65
    go_wp2_with fail
    go_quiet (fail)
    go_wp2_with fail
    go_ret
    exact ⟨ret_bool HF, (HX.out.drewN _).2⟩

set_option maxRecDepth 100000 in
set_option maxHeartbeats 2000000 in
theorem specIsCode (p k g L C : Int) (w : World) (hC : -9223372036854775808 ≤ C ∧ C ≤ 9223372036854775807) :
    Calls Tryz.prog 112 #[.agg #[.int .i64 p, .int .i64 k, .int .i64 g, .int .i64 L, .int .i64 C]] w (Gives (.bool (codeB p k g L C)) w) := by
  have HX := hide (CBox.start w p k g L C)
  obtain ⟨c0, c1, c2, c3, c4⟩ := HX.out.cells
  rcases hf : fieldB p k g with _ | _
  · have HF := hide (codeB_nf (L := L) (C := C) hf)
    have HB := hide hf
    clear hf
    go_enter Tryz.func112, Tryz.ntmps112
    go_wp2_with fail
    refine (specIsField p k g _).mono ?_
    rw [HB.out]
    rintro e w1 ⟨rfl, hb⟩
    have HX1 := hide (HX.out.next hb)
    clear hb
    go_wp2_with fail
    go_ret
    exact ⟨ret_bool HF, HX1.out.2⟩
  · obtain ⟨q, mul, γ, hK, _⟩ := fieldB_open hf
    by_cases h1 : 1 ≤ C ∧ C ≤ 64
    · have hin := hide (show inR C 1 64 = true from inR_yes h1.1 h1.2)
      have hw1 : IntKind.i64.wrap (C + 1) = C + 1 := IntWalk.i64_in _ ⟨by omega, by omega⟩
      by_cases h2 : C + 1 ≤ L ∧ L ≤ 255
      · have hin2 := hide (show inR L (C + 1) 255 = true from inR_yes h2.1 h2.2)
        have HF := hide (codeB_lt hK hf (L := L) (C := C) (by omega))
        have HB := hide hf
        clear hf h1 h2
        go_enter Tryz.func112, Tryz.ntmps112
        go_wp2_with fail
        refine (specIsField p k g _).mono ?_
        rw [HB.out]
        rintro e w1 ⟨rfl, hb⟩
        have HX1 := hide (HX.out.next hb)
        clear hb c0 c1 c2 c3 c4
        obtain ⟨c0, c1, c2, c3, c4⟩ := HX1.out.cells
        go_wp2_with fail
        refine (specIn_is C 1 64 true _ hin.out).mono ?_
        rintro e w1 ⟨rfl, rfl⟩
        go_wp2_with fail
        go_region_held3 (fun w' => w'.cell? ⟨w.heap.size, 0, none⟩ = some (.int .i64 p) ∧ w'.cell? ⟨w.heap.size, 1, none⟩ = some (.int .i64 k) ∧ w'.cell? ⟨w.heap.size, 2, none⟩ = some (.int .i64 g) ∧ w'.cell? ⟨w.heap.size, 3, none⟩ = some (.int .i64 L) ∧ w'.cell? ⟨w.heap.size, 4, none⟩ = some (.int .i64 C))
          (first
            | exact HX1.out.drew.cells
            | exact HX2.out.cells)
          (first
            | (go_at_call 26; refine (specIn_is L (C + 1) 255 true _ hin2.out).mono ?_; rintro e w1 ⟨rfl, rfl⟩)
            | (go_at_call 39; refine (specSize hK _).mono ?_; rintro e w2 ⟨rfl, hb⟩; have HX2 := hide (HX1.out.drew.next hb); clear hb))
        go_wp2_with fail
        go_ret
        exact ⟨ret_bool HF, HX2.out.2⟩
      · have hin2 := hide (show inR L (C + 1) 255 = false from inR_no (by omega))
        have HF := hide (show codeB p k g L C = false from codeB_no (by omega))
        have HB := hide hf
        clear hf h1 h2
        go_enter Tryz.func112, Tryz.ntmps112
        go_wp2_with fail
        refine (specIsField p k g _).mono ?_
        rw [HB.out]
        rintro e w1 ⟨rfl, hb⟩
        have HX1 := hide (HX.out.next hb)
        clear hb c0 c1 c2 c3 c4
        obtain ⟨c0, c1, c2, c3, c4⟩ := HX1.out.cells
        go_wp2_with fail
        refine (specIn_is C 1 64 true _ hin.out).mono ?_
        rintro e w1 ⟨rfl, rfl⟩
        go_wp2_with fail
        first
          | go_region_with (go_at_call 26; refine (specIn_is L (C + 1) 255 false _ hin2.out).mono ?_; rintro e w1 ⟨rfl, rfl⟩)
          | fail
        all_goals
          go_wp2_with fail
          go_ret
          exact ⟨ret_bool HF, HX1.out.drew.2⟩
    · have hin := hide (show inR C 1 64 = false from inR_no (by omega))
      have HF := hide (show codeB p k g L C = false from codeB_no (by omega))
      have HB := hide hf
      clear hf h1
      go_enter Tryz.func112, Tryz.ntmps112
      go_wp2_with fail
      refine (specIsField p k g _).mono ?_
      rw [HB.out]
      rintro e w1 ⟨rfl, hb⟩
      have HX1 := hide (HX.out.next hb)
      clear hb c0 c1 c2 c3 c4
      obtain ⟨c0, c1, c2, c3, c4⟩ := HX1.out.cells
      go_wp2_with fail
      refine (specIn_is C 1 64 false _ hin.out).mono ?_
      rintro e w1 ⟨rfl, rfl⟩
      go_wp2_with fail
      go_ret
      exact ⟨ret_bool HF, HX1.out.2⟩
end Go.Proofs.YtncgeoliboidhaaGreat

namespace Go.Proofs.YtncgeoliboidhaaGreat
open Go.RowKit
set_option linter.unusedSimpArgs false
set_option linter.unusedVariables false

/-- Whether a list has so many elements, all of a field with q elements. -/
def wordB (q : Nat) (L : Int) (zs : List Int) : Bool := decide ((zs.length : Int) = L) && zs.all (elB q)
theorem wordB_len {q : Nat} {L : Int} {zs : List Int} (h : ¬ (zs.length : Int) = L) : wordB q L zs = false := by rw [wordB, show decide ((zs.length : Int) = L) = false by simpa using h]; rfl
theorem wordB_all {q : Nat} {L : Int} {zs : List Int} (h : (zs.length : Int) = L) : wordB q L zs = zs.all (elB q) := by rw [wordB, show decide ((zs.length : Int) = L) = true by simpa using h]; rfl
theorem word_open {R : Fld} {l : Nat} {zs : List Int} (h : wordB R.q l zs = true) : ∃ ws : List (El R), zs = iv ws ∧ ws.length = l := by
  rw [wordB, Bool.and_eq_true, decide_eq_true_eq] at h
  obtain ⟨ws, rfl⟩ := iv_of h.2
  exact ⟨ws, rfl, by have := h.1; rw [iv_len] at this; omega⟩
theorem word_shut {R : Fld} (ws : List (El R)) : wordB R.q (ws.length : Nat) (iv ws) = true := by
  rw [wordB, iv_len, iv_all]; simp

/-- The code of a code and lists. -/
def wErr (p k g L C : Int) (Z : List (List Int)) : Int := if codeB p k g L C = true then (if ∀ zs ∈ Z, wordB (sizeI p k).toNat L zs = true then 0 else 2) else 1
theorem wErr_no {p k g L C : Int} {Z : List (List Int)} (h : codeB p k g L C = false) : wErr p k g L C Z = 1 := by rw [wErr, h]; rfl
theorem wErr_bad {p k g L C : Int} {q : Nat} {mul : Nat → Nat → Nat} {Z : List (List Int)} {zs : List Int} (h : codeB p k g L C = true) (hK : Kd p k g q mul) (hz : zs ∈ Z) (hp : wordB q L zs = false) : wErr p k g L C Z = 2 := by
  rw [wErr, if_pos h, if_neg]
  intro h
  have := h zs hz
  rw [hK.size, Int.toNat_natCast, hp] at this
  cases this
theorem wErr_ok {p k g L C : Int} {q : Nat} {mul : Nat → Nat → Nat} {Z : List (List Int)} (h : codeB p k g L C = true) (hK : Kd p k g q mul) (hz : ∀ zs ∈ Z, wordB q L zs = true) : wErr p k g L C Z = 0 := by
  rw [wErr, if_pos h, if_pos]
  rw [hK.size, Int.toNat_natCast]
  exact hz
theorem wErr_cases (p k g L C : Int) (Z : List (List Int)) : (wErr p k g L C Z = 1 ∧ codeB p k g L C = false) ∨ (wErr p k g L C Z = 2 ∧ codeB p k g L C = true) ∨
    (wErr p k g L C Z = 0 ∧ ∃ (R : Fld) (γ : El R) (l c : Nat), L = l ∧ C = c ∧ CodeIs R γ p k g l c ∧ ∀ zs ∈ Z, ∃ ws : List (El R), zs = iv ws ∧ ws.length = l) := by
  rcases h : codeB p k g L C with _ | _
  · exact .inl ⟨wErr_no h, rfl⟩
  · obtain ⟨R, γ, l, c, rfl, rfl, hc⟩ := codeB_open h
    by_cases hz : ∀ zs ∈ Z, wordB R.q l zs = true
    · exact .inr (.inr ⟨wErr_ok h hc.fld.kind hz, R, γ, l, c, rfl, rfl, hc, fun zs hm => word_open (hz zs hm)⟩)
    · refine .inr (.inl ⟨?_, rfl⟩)
      rw [wErr, if_pos h, if_neg]
      rw [hc.fld.kind.size, Int.toNat_natCast]
      exact hz

def WeRel (w : World) (p k g L C : Int) (q n : Nat) (Z : List (Option Addr × Nat × Nat × List Int)) (i : Value) (wr : World) : Prop :=
  ∃ j : Nat, j ≤ n ∧ i = .int .i64 j ∧ Hid (∀ e ∈ Z.take j, wordB q L e.2.2.2 = true) ∧ CBox w wr p k g L C

theorem take_all {α : Type} {Z : List α} {j : Nat} {e : α} {P : α → Prop} (h : ∀ x ∈ Z.take j, P x) (he : Z[j]? = some e) (hp : P e) : ∀ x ∈ Z.take (j + 1), P x := by
  intro x hm
  rw [List.take_add_one, he] at hm
  simp only [Option.toList_some, List.mem_append, List.mem_singleton] at hm
  rcases hm with hm | rfl
  · exact h x hm
  · exact hp

end Go.Proofs.YtncgeoliboidhaaGreat
