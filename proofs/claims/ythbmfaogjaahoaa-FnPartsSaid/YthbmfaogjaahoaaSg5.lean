/-
  Which segments are valid: the program and the model; the narrowest mode of a text.
  Condition: as each statement says.
-/
import Derived.Test.YthbmfaogjaahoaaSg2
import Derived.Test.YthbmfaogjaahoaaSg4
namespace Go.Proofs.Ythbmfaogjaahoaa
open Go.RowKit
set_option linter.unusedSimpArgs false
set_option linter.unusedVariables false

/-- A segment that a call was given lies in the first block that it made, and nothing before it has changed. -/
def SBox (w wr : World) (t : TypeId) (m : Int) (s : ByteArray) : Prop := wr.heap[w.heap.size]? = some (.cells #[.int .i64 m, .string s] t (0, 0)) ∧ Below w.heap.size w wr
section
variable {w wr wr' : World} {t : TypeId} {m : Int} {s : ByteArray}
theorem SBox.start (w : World) (t : TypeId) (m : Int) (s : ByteArray) : SBox w (w.alloc (.cells #[.int .i64 m, .string s] t)) t m s := ⟨heap_alloc_new w _, (Below.refl _ _).alloc (Nat.le_refl _) _⟩
theorem SBox.lt (h : SBox w wr t m s) : w.heap.size < wr.heap.size := (Array.getElem?_eq_some_iff.1 h.1).1
theorem SBox.next (h : SBox w wr t m s) (hb : Below wr.heap.size wr wr') : SBox w wr' t m s :=
  ⟨by rw [hb.block _ h.lt]; exact h.1, h.2.trans (hb.mono (Nat.le_of_lt h.lt))⟩
theorem SBox.alloc (h : SBox w wr t m s) (o : Obj) : SBox w (wr.alloc o) t m s := h.next ((Below.refl _ _).alloc (Nat.le_refl _) o)
theorem SBox.drew (h : SBox w wr t m s) : SBox w wr.drew t m s := ⟨h.1, h.2.drew⟩
theorem SBox.cells (h : SBox w wr t m s) : wr.cell? ⟨w.heap.size, 0, none⟩ = some (.int .i64 m) ∧ wr.cell? ⟨w.heap.size, 1, none⟩ = some (.string s) :=
  ⟨cell_of_row wr w.heap.size 0 _ _ _ h.1, cell_of_row wr w.heap.size 1 _ _ _ h.1⟩
theorem SBox.grow' {row : Option Nat} (h : SBox w wr t m s) (hg : wr.grownBy wr' row) (hr : ∀ b, row = some b → w.heap.size < b) : SBox w wr' t m s :=
  ⟨by rw [hg.block _ h.lt (by intro e; have := hr _ e.symm; omega)]; exact h.1, h.2.grown hg (Nat.le_of_lt h.lt) (fun r hr' => by have := hr r hr'; omega)⟩
end

theorem seg_mode {m : Int} (h : m < 1 ∨ 4 < m) (bs : List Int) : segB m bs = false := by simp [segB, inR_no h]
theorem seg_short {bs : List Int} (h : bs.length < 1 ∨ 255 < bs.length) (m : Int) : segB m bs = false := by
  rw [segB, inR_no (x := (bs.length : Int)) (by omega)]; simp
theorem seg_is {m : Int} {bs : List Int} (hm : 1 ≤ m ∧ m ≤ 4) (hl : 1 ≤ bs.length ∧ bs.length ≤ 255) : segB m bs = allV m bs := by
  rw [segB, inR_yes hm.1 hm.2, inR_yes (by omega) (by omega)]; rfl
theorem seg_ok {m : Int} {bs : List Int} (h : segB m bs = true) : (1 ≤ m ∧ m ≤ 4) ∧ (1 ≤ bs.length ∧ bs.length ≤ 255) ∧ allV m bs = true := by
  by_cases hm : 1 ≤ m ∧ m ≤ 4
  · by_cases hl : 1 ≤ bs.length ∧ bs.length ≤ 255
    · exact ⟨hm, hl, by rw [← seg_is hm hl]; exact h⟩
    · rw [seg_short (by omega)] at h; cases h
  · rw [seg_mode (by omega)] at h; cases h

set_option maxRecDepth 100000 in
set_option maxHeartbeats 1000000 in
theorem implSegValid (m : Int) (s : ByteArray) (hs : s.size ≤ 1099511627776) (w : World) :
    Calls Try.prog 116 #[.agg #[.int .i64 m, .string s]] w (Gives (.bool (segB m (bytesI s))) w) := by
  have HX := hide (SBox.start w 107 m s)
  obtain ⟨c0, c1⟩ := HX.out.cells
  have hlen := bytesI_len s
  by_cases hm : m < 1 ∨ 4 < m
  · have HE := hide (seg_mode hm (bytesI s))
    go_enter Try.func116, Try.ntmps116
    go_wp2_with fail
    refine (implModeOf_no m hm _).mono ?_
    rintro e _ ⟨rfl, rfl⟩
    clear hm hlen
    go_wp2_with fail
    go_ret
    exact ⟨ret_bool HE.out, HX.out.2⟩
  · have HM := hide (implModeOf m (by omega))
    by_cases hl : s.size < 1
    · have HE := hide (seg_short (bs := bytesI s) (.inl (by omega)) m)
      go_enter Try.func116, Try.ntmps116
      go_wp2_with fail
      refine (HM.out _).mono ?_
      rintro e _ ⟨rfl, rfl⟩
      clear hm hlen
      obtain ⟨M, hM⟩ : ∃ M, MV m = M := ⟨_, rfl⟩
      rw [hM]
      clear hM
      go_wp2_with fail
      go_ret
      exact ⟨ret_bool HE.out, HX.out.2⟩
    · by_cases hl2 : 255 < s.size
      · have HE := hide (seg_short (bs := bytesI s) (.inr (by omega)) m)
        go_enter Try.func116, Try.ntmps116
        go_wp2_with fail
        refine (HM.out _).mono ?_
        rintro e _ ⟨rfl, rfl⟩
        clear hm hlen
        obtain ⟨M, hM⟩ : ∃ M, MV m = M := ⟨_, rfl⟩
        rw [hM]
        clear hM
        go_wp2_with fail
        go_ret
        exact ⟨ret_bool HE.out, HX.out.2⟩
      · have HE := hide (seg_is (m := m) (bs := bytesI s) (by omega) (by omega))
        have HH := hide (implHas m (by omega) s hs)
        go_enter Try.func116, Try.ntmps116
        go_wp2_with fail
        refine (HM.out _).mono ?_
        rintro e _ ⟨rfl, rfl⟩
        clear hm hlen HM
        obtain ⟨M, hM⟩ : ∃ M, MV m = M := ⟨_, rfl⟩
        rw [hM] at HH ⊢
        clear hM
        go_wp2_with fail
        refine (HH.out _).mono ?_
        rintro e w1 ⟨rfl, hb1⟩
        have HX1 := hide (HX.out.next hb1)
        clear hb1 c0 c1
        go_wp2_with fail
        go_ret
        exact ⟨ret_bool HE.out, HX1.out.2⟩

/-- The narrowest mode. -/
def narrow (bs : List Int) : Int := if allV 1 bs then 1 else if allV 3 bs then 3 else if allV 2 bs then 2 else 4
end Go.Proofs.Ythbmfaogjaahoaa
