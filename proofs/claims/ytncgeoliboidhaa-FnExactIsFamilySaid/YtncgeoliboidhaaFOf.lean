/-
  What FieldOf finds, told by numbers.
  No condition.
-/
import Derived.Test.YtncgeoliboidhaaFErr
namespace Go.Proofs.Ytncgeoliboidhaa
open Go.RowKit

/-- The least polynomial of a degree that makes a field, or 0. -/
def powG (K : Nat) : Nat := ((List.range (2 ^ (K + 1))).find? (fun G : Nat => decide (2 ^ K ≤ G) && fieldB 2 K G)).getD 0
theorem powG_at {K G : Nat} (h1 : 2 ^ K ≤ G) (h2 : G < 2 ^ (K + 1)) (hG : fieldB 2 K G = true) (hb : ∀ j : Nat, j < G → 2 ^ K ≤ j → fieldB 2 K j = false) : powG K = G := by
  rw [powG, find_at h2 (by simp [h1, hG])]
  · rfl
  · intro j hj
    by_cases h : 2 ^ K ≤ j
    · simp [hb j hj h]
    · simp [h]
theorem powG_none {K : Nat} (hb : ∀ j : Nat, j < 2 ^ (K + 1) → 2 ^ K ≤ j → fieldB 2 K j = false) : powG K = 0 := by
  rw [powG, List.find?_eq_none.2]
  · rfl
  · intro j hj
    by_cases h : 2 ^ K ≤ j
    · simp [hb j (List.mem_range.1 hj) h]
    · simp [h]
theorem powG_spec {K : Nat} (h : powG K ≠ 0) : 2 ^ K ≤ powG K ∧ powG K < 2 ^ (K + 1) ∧ fieldB 2 K (powG K) = true ∧ ∀ j : Nat, j < powG K → 2 ^ K ≤ j → fieldB 2 K j = false := by
  rcases hf : (List.range (2 ^ (K + 1))).find? (fun G : Nat => decide (2 ^ K ≤ G) && fieldB 2 K G) with _ | i
  · exact absurd (by rw [powG, hf]; rfl) h
  · have hl : powG K = i := by rw [powG, hf]; rfl
    rw [hl]
    rw [List.find?_range_eq_some] at hf
    obtain ⟨h1, h2, h3⟩ := hf
    simp only [Bool.and_eq_true, decide_eq_true_eq] at h1
    refine ⟨h1.1, by simpa using h2, h1.2, fun j hj h1j => ?_⟩
    have := h3 j hj
    simpa [h1j] using this

/-- What is found of a degree, and with what code. -/
def lowP (K : Nat) : Int := if powG K = 0 then 0 else 2
def lowK (K : Nat) : Int := if powG K = 0 then 0 else K
def lowC (K : Nat) : Int := if powG K = 0 then 4 else 0
def isPow (s : Int) : Option Nat := (List.range 9).find? (fun K => decide (3 ≤ K) && decide (s = 2 ^ K))
theorem isPow_at {s : Int} {K : Nat} (h3 : 3 ≤ K) (h8 : K ≤ 8) (h : s = 2 ^ K) : isPow s = some K := by
  rw [isPow, find_at (i := K) (by omega) (by simp [h3, h])]
  intro j hj
  simp only [Bool.and_eq_false_iff, decide_eq_false_iff_not]
  right
  rw [h]
  intro he
  have h1 : ((2 ^ K : Nat) : Int) = ((2 ^ j : Nat) : Int) := by push_cast; exact he
  have h2 : 2 ^ j < 2 ^ K := Nat.pow_lt_pow_right (by decide) hj
  omega
theorem isPow_no {s : Int} (h : ∀ K : Nat, 3 ≤ K → K ≤ 8 → s ≠ 2 ^ K) : isPow s = none := by
  rw [isPow, List.find?_eq_none]
  intro K hK
  have := List.mem_range.1 hK
  simp only [Bool.and_eq_true, decide_eq_true_eq, not_and]
  exact fun h3 => h K h3 (by omega)
/-- The four numbers that FieldOf returns. -/
def foP (s : Int) : Int := if k1B s 1 = true then s else match isPow s with | none => 0 | some K => lowP K
def foK (s : Int) : Int := if k1B s 1 = true then 1 else match isPow s with | none => 0 | some K => lowK K
def foG (s : Int) : Int := if k1B s 1 = true then (least s.toNat (mul1 s.toNat) : Nat) else match isPow s with | none => 0 | some K => (powG K : Nat)
def foC (s : Int) : Int := if k1B s 1 = true then 0 else match isPow s with | none => 4 | some K => lowC K
theorem fo_1 {P : Nat} (h : k1B P 1 = true) : foP P = P ∧ foK P = 1 ∧ foG P = (least P (mul1 P) : Nat) ∧ foC P = 0 := by
  simp only [foP, foK, foG, foC, h, if_true, Int.toNat_natCast]
  exact ⟨trivial, trivial, trivial, trivial⟩
theorem fo_2 {s : Int} {K : Nat} (h : k1B s 1 = false) (hK : isPow s = some K) : foP s = lowP K ∧ foK s = lowK K ∧ foG s = (powG K : Nat) ∧ foC s = lowC K := by
  simp only [foP, foK, foG, foC, h, hK]
  exact ⟨rfl, rfl, rfl, rfl⟩
theorem fo_0 {s : Int} (h : k1B s 1 = false) (hK : isPow s = none) : foP s = 0 ∧ foK s = 0 ∧ foG s = 0 ∧ foC s = 4 := by
  simp only [foP, foK, foG, foC, h, hK]
  exact ⟨rfl, rfl, rfl, rfl⟩

/-- What a function leaves that returns a field and a code. -/
def GivesF (p k g c : Int) (w : World) (x : Ending) (w' : World) : Prop := x = .returned (.tuple #[.agg #[.int .i64 p, .int .i64 k, .int .i64 g], .int .i64 c]) ∧ Below w.heap.size w w'
theorem ret_f {p k g c p' k' g' c' : Int} (h1 : p' = p) (h2 : k' = k) (h3 : g' = g) (h4 : c' = c) : Ending.returned (.tuple #[.agg #[.int .i64 p, .int .i64 k, .int .i64 g], .int .i64 c]) = .returned (.tuple #[.agg #[.int .i64 p', .int .i64 k', .int .i64 g'], .int .i64 c']) := by
  rw [h1, h2, h3, h4]
theorem Box.frozen {w wr : World} {t : TypeId} {p k g : Int} (h : Box w wr t p k g) : wr.frozen? ⟨w.heap.size, 0, none⟩ = false ∧ wr.frozen? ⟨w.heap.size, 1, none⟩ = false ∧ wr.frozen? ⟨w.heap.size, 2, none⟩ = false :=
  ⟨frozen_of_row wr _ 0 _ _ h.1, frozen_of_row wr _ 1 _ _ h.1, frozen_of_row wr _ 2 _ _ h.1⟩
end Go.Proofs.Ytncgeoliboidhaa
