/-
  The contracts of what tells whether lists are words of a code, of the model and of the program.
  Condition: the field is valid where a list is looked at, and lists are shorter than 2^40.
-/
import Derived.Test.YtkdpkbnhckpnoaaCode1
import Derived.Test.YtkdpkbnhckpnoaaJG
namespace Go.Proofs.Ytkdpkbnhckpnoaa
open Go.RowKit
set_option linter.unusedSimpArgs false
set_option linter.unusedVariables false

/-- Whether a list has so many elements, all of a field with q elements. -/
def wordB (q : Nat) (L : Int) (zs : List Int) : Bool := decide ((zs.length : Int) = L) && zs.all (elB q)
theorem wordB_len {q : Nat} {L : Int} {zs : List Int} (h : ¬ (zs.length : Int) = L) : wordB q L zs = false := by rw [wordB, show decide ((zs.length : Int) = L) = false by simpa using h]; rfl
theorem wordB_all {q : Nat} {L : Int} {zs : List Int} (h : (zs.length : Int) = L) : wordB q L zs = zs.all (elB q) := by rw [wordB, show decide ((zs.length : Int) = L) = true by simpa using h]; rfl
theorem word_open {R : Fld} {l : Nat} {zs : List Int} (h : wordB R.q l zs = true) : ∃ ws : List (El R), zs = iv ws ∧ ws.length = l := by
  rw [wordB, Bool.and_eq_true, decide_eq_true_eq] at h
  obtain ⟨ws, rfl⟩ := iv_of h.2
  exact ⟨ws, rfl, by have := h.1; rw [iv_len] at this; omega⟩
theorem word_shut {R : Fld} (ws : List (El R)) : wordB R.q (ws.length : Nat) (iv ws) = true := by
  rw [wordB, iv_len, iv_all]; simp

set_option maxHeartbeats 1000000 in
theorem implHasList {p k g L C : Int} {q : Nat} {mul : Nat → Nat → Nat} (hK : Kd p k g q mul) (M : Int) (A : Option Addr) (n c B : Nat) (zs : List Int) (w : World) (hI : Ints .i64 w B A n zs) (hB : B ≤ w.heap.size) (hn : n ≤ 1099511627776) :
    Calls Try.prog 83 #[.agg #[.int .i64 p, .int .i64 k, .int .i64 g, .int .i64 L, .int .i64 C], .slice A n c, .int .i64 M] w (Gives (.bool (wordB q M zs)) w) := by
  have HX := hide (CBox.start w p k g L C)
  have hl := hI.len
  have HI := hide hI
  clear hI
  obtain ⟨c0, c1, c2, c3, c4⟩ := HX.out.cells
  by_cases hM : (n : Int) = M
  · subst hM
    have HF := hide (wordB_all (q := q) (L := (n : Int)) (zs := zs) (by rw [hl]))
    clear hl
    go_enter Try.func83, Try.ntmps83
    go_wp2_with fail
    refine (implHasAll hK A n c B zs _ (HI.out.below (HX.out.2.mono hB)) (Nat.le_trans hB (Nat.le_of_lt HX.out.lt)) hn).mono ?_
    rintro e w1 ⟨rfl, hb⟩
    have HX1 := hide (HX.out.next hb)
    clear hb
    go_wp2_with fail
    go_ret
    exact ⟨ret_bool HF, HX1.out.2⟩
  · have HF := hide (wordB_len (q := q) (L := M) (zs := zs) (by rw [hl]; exact hM))
    have e1 : ((n : Int) == M) = false := by simpa using hM
    clear hM hl
    go_enter Try.func83, Try.ntmps83
    go_wp2_with fail
    go_ret
    exact ⟨ret_bool HF, HX.out.2⟩

set_option maxHeartbeats 1000000 in
theorem implMsgLen (p k g : Int) (l c : Nat) (hl : l ≤ 255) (hc : c < l) (w : World) :
    Calls Try.prog 75 #[.agg #[.int .i64 p, .int .i64 k, .int .i64 g, .int .i64 l, .int .i64 c]] w (Gives (.int .i64 (l - c : Nat)) w) := by
  have HX := hide (CBox.start w p k g l c)
  obtain ⟨c0, c1, c2, c3, c4⟩ := HX.out.cells
  have HF := hide (show ((l - c : Nat) : Int) = (l : Int) - (c : Int) by omega)
  go_enter Try.func75, Try.ntmps75
  go_wp2_with fail
  go_ret
  exact ⟨ret_int HF, HX.out.2⟩

/-- The code of a code and lists. -/
def wErr (p k g L C : Int) (Z : List (List Int)) : Int := if codeB p k g L C = true then (if ∀ zs ∈ Z, wordB (sizeI p k).toNat L zs = true then 0 else 2) else 1
theorem wErr_no {p k g L C : Int} {Z : List (List Int)} (h : codeB p k g L C = false) : wErr p k g L C Z = 1 := by rw [wErr, h]; rfl
theorem wErr_bad {p k g L C : Int} {q : Nat} {mul : Nat → Nat → Nat} {Z : List (List Int)} {zs : List Int} (h : codeB p k g L C = true) (hK : Kd p k g q mul) (hz : zs ∈ Z) (hp : wordB q L zs = false) : wErr p k g L C Z = 2 := by
  rw [wErr, if_pos h, if_neg]
  intro h
  have := h zs hz
  rw [hK.size, Int.toNat_natCast, hp] at this
  cases this
theorem wErr_ok {p k g L C : Int} {q : Nat} {mul : Nat → Nat → Nat} {Z : List (List Int)} (h : codeB p k g L C = true) (hK : Kd p k g q mul) (hz : ∀ zs ∈ Z, wordB q L zs = true) : wErr p k g L C Z = 0 := by
  rw [wErr, if_pos h, if_pos]
  rw [hK.size, Int.toNat_natCast]
  exact hz
theorem wErr_cases (p k g L C : Int) (Z : List (List Int)) : (wErr p k g L C Z = 1 ∧ codeB p k g L C = false) ∨ (wErr p k g L C Z = 2 ∧ codeB p k g L C = true) ∨
    (wErr p k g L C Z = 0 ∧ ∃ (R : Fld) (γ : El R) (l c : Nat), L = l ∧ C = c ∧ CodeIs R γ p k g l c ∧ ∀ zs ∈ Z, ∃ ws : List (El R), zs = iv ws ∧ ws.length = l) := by
  rcases h : codeB p k g L C with _ | _
  · exact .inl ⟨wErr_no h, rfl⟩
  · obtain ⟨R, γ, l, c, rfl, rfl, hc⟩ := codeB_open h
    by_cases hz : ∀ zs ∈ Z, wordB R.q l zs = true
    · exact .inr (.inr ⟨wErr_ok h hc.fld.kind hz, R, γ, l, c, rfl, rfl, hc, fun zs hm => word_open (hz zs hm)⟩)
    · refine .inr (.inl ⟨?_, rfl⟩)
      rw [wErr, if_pos h, if_neg]
      rw [hc.fld.kind.size, Int.toNat_natCast]
      exact hz

def WeRel (w : World) (p k g L C : Int) (q n : Nat) (Z : List (Option Addr × Nat × Nat × List Int)) (i : Value) (wr : World) : Prop :=
  ∃ j : Nat, j ≤ n ∧ i = .int .i64 j ∧ Hid (∀ e ∈ Z.take j, wordB q L e.2.2.2 = true) ∧ CBox w wr p k g L C

theorem take_all {α : Type} {Z : List α} {j : Nat} {e : α} {P : α → Prop} (h : ∀ x ∈ Z.take j, P x) (he : Z[j]? = some e) (hp : P e) : ∀ x ∈ Z.take (j + 1), P x := by
  intro x hm
  rw [List.take_add_one, he] at hm
  simp only [Option.toList_some, List.mem_append, List.mem_singleton] at hm
  rcases hm with hm | rfl
  · exact h x hm
  · exact hp

set_option maxHeartbeats 1000000 in
theorem implWErr (p k g L C : Int) (b n c B : Nat) (Z : List (Option Addr × Nat × Nat × List Int)) (w : World) (hR : Rws w B b Z) (hL : Z.length = n) (hB : B ≤ w.heap.size) (hn : n ≤ 100) :
    Calls Try.prog 54 #[.agg #[.int .i64 p, .int .i64 k, .int .i64 g, .int .i64 L, .int .i64 C], .slice (some ⟨b, 0, none⟩) n c] w (Gives (.int .i64 (wErr p k g L C (lists Z))) w) := by
  have HX := hide (CBox.start w p k g L C)
  have HR := hide hR
  clear hR
  obtain ⟨c0, c1, c2, c3, c4⟩ := HX.out.cells
  rcases h : codeB p k g L C with _ | _
  · have HF := hide (wErr_no (Z := lists Z) h)
    have HB := hide h
    clear h
    go_enter Try.func54, Try.ntmps54
    go_wp2_with fail
    refine (implCodeValid p k g L C _).mono ?_
    rw [HB.out]
    rintro e w1 ⟨rfl, hb⟩
    have HX1 := hide (HX.out.next hb)
    clear hb
    go_wp2_with fail
    go_ret
    exact ⟨ret_int HF, HX1.out.2⟩
  · obtain ⟨q, mul, γ, hK, _⟩ := fieldB_open (show fieldB p k g = true by
      simp only [codeB, Bool.and_eq_true] at h; exact h.1)
    have HB := hide h
    clear h
    go_enter Try.func54, Try.ntmps54
    go_wp2_with fail
    refine (implCodeValid p k g L C _).mono ?_
    rw [HB.out]
    rintro e w1 ⟨rfl, hb⟩
    have HX1 := hide (HX.out.next hb)
    clear hb
    go_wp2_with fail
    go_loopw [12] (fun i wr => WeRel w p k g L C q n Z i wr) (fun i _ => n - (intOf i).toNat)
    case atStart => exact ⟨0, by omega, rfl, by simp [Hid], HX1⟩
    case round =>
      clear HX1 c0 c1 c2 c3 c4
      obtain ⟨j, hj, rfl, HA, HX⟩ := hrel
      have HX := hide HX
      obtain ⟨c0, c1, c2, c3, c4⟩ := HX.out.cells
      by_cases hlt : j < n
      · obtain ⟨⟨A, m, cc, zs⟩, he⟩ : ∃ e, Z[j]? = some e := ⟨_, List.getElem?_eq_getElem (by omega)⟩
        obtain ⟨hc, hI, hm⟩ := (HR.out.below (HX.out.2.mono hB)).2 j _ he
        simp only at hc hI hm
        have HI := hide hI
        have HE := hide he
        clear hI he
        rcases hp : wordB q L zs with _ | _
        · have HF := hide (wErr_bad (Z := lists Z) HB.out hK (List.mem_map.2 ⟨_, List.mem_of_getElem? HE.out, rfl⟩) hp)
          go_wp2_with fail
          refine (implHasList hK L A m cc B zs _ HI.out (Nat.le_trans hB (Nat.le_of_lt HX.out.lt)) hm).mono ?_
          rw [hp]
          rintro e w2 ⟨rfl, hb2⟩
          have HX2 := hide (HX.out.next hb2)
          clear hb2
          go_wp2_with fail
          go_ret
          exact ⟨ret_int HF, HX2.out.2⟩
        · have HN := hide (take_all HA.out HE.out hp)
          go_wp2_with fail
          refine (implHasList hK L A m cc B zs _ HI.out (Nat.le_trans hB (Nat.le_of_lt HX.out.lt)) hm).mono ?_
          rw [hp]
          rintro e w2 ⟨rfl, hb2⟩
          have HX2 := hide (HX.out.next hb2)
          clear hb2
          go_wp2_with fail
          go_roundw
          case rel => exact ⟨j + 1, by omega, by go_num, HN, HX2⟩
          case measure => simp [intOf]; omega
      · have HF := hide (show wErr p k g L C (lists Z) = 0 from wErr_ok HB.out hK (by
          intro zs hz
          obtain ⟨e, he, rfl⟩ := List.mem_map.1 hz
          exact HA.out e (by rw [List.take_of_length_le (by omega)]; exact he)))
        go_wp2_with fail
        go_ret
        exact ⟨ret_int HF, HX.out.2⟩

end Go.Proofs.Ytkdpkbnhckpnoaa
