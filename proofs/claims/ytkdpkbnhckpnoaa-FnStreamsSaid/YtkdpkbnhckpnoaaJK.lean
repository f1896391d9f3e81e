/-
  The contracts of the model's values, sums of equal elements and derivatives of polynomials.
  The contracts of the program's derivatives, roots and common divisors of polynomials.
  The contract of the program's common divisor of polynomials.
  The contracts of IsPolynomial, PolyAdd and PolyMul, of the model and of the program, side by side.
  Condition: as each statement says.
-/
import Derived.Test.YtkdpkbnhckpnoaaJG
import Derived.Test.YtkdpkbnhckpnoaaJE
namespace Go.Proofs.Ytkdpkbnhckpnoaa
open Go.RowKit
set_option linter.unusedSimpArgs false
set_option linter.unusedVariables false

section
variable {R : Fld} {p k g : Int}
/-- The sum of j ones, by the numbers of the field. -/
def numE (h : FldIs R p k g) (j : Nat) : El R := ⟨j % p.toNat, by
  have hk := h.kind
  generalize R.q = q at hk ⊢
  generalize R.mul = mul at hk
  cases hk with
  | one _ _ h3 h => exact Nat.mod_lt _ (by omega)
  | two K G h3 h8 hG hG2 => have := pow_small h3 h8; have h2 : j % (2 : Int).toNat < 2 := Nat.mod_lt _ (by decide); omega⟩
theorem num_val (h : FldIs R p k g) (j : Nat) : (numE h j).val = j % p.toNat := rfl
theorem kd_prime {q : Nat} {mul : Nat → Nat → Nat} (h : Kd p k g q mul) : ∃ P : Nat, p = P ∧ 2 ≤ P ∧ P ≤ 1021 := by
  cases h with
  | one _ _ h3 h => exact ⟨q, rfl, by omega, h⟩
  | two K G h3 h8 hG hG2 => exact ⟨2, rfl, by omega, by omega⟩

/-- The derivative. -/
def derP (h : FldIs R p k g) (ps : List (El R)) : List (El R) := trim (tab (ps.length - 1) fun i => numE h (i + 1) * cf ps (i + 1))

def DeRel (w : World) (p k g : Int) (n : Nat) (f : Nat → El R) (v i : Value) (wr : World) : Prop :=
  ∃ j : Nat, j ≤ n - 1 ∧ i = .int .i64 (j + 1 : Nat) ∧ Own wr (w.heap.size + 1) 2 .i64 v (iv (tab j f)) ∧ Box w wr 25 p k g

end
end Go.Proofs.Ytkdpkbnhckpnoaa

namespace Go.Proofs.Ytkdpkbnhckpnoaa
open Go.RowKit
set_option linter.unusedSimpArgs false
set_option linter.unusedVariables false

section
variable {R : Fld} {p k g : Int}
def DiRel (w : World) (p k g : Int) (N : Nat) (f : Nat → El R) (i : Value) (wr : World) : Prop :=
  ∃ j : Nat, j ≤ N ∧ i = .int .i64 j ∧ Own wr (w.heap.size + 1) 2 .i64 (.slice (some ⟨w.heap.size + 1, 0, none⟩) N N) (iv (tab N fun l => if l < j then f l else 0)) ∧ Box w wr 25 p k g
theorem num_tmod (h : FldIs R p k g) (l : Nat) : ((l : Nat) : Int).tmod p = ((numE h l).val : Int) ∧ p ≠ 0 := by
  obtain ⟨P, rfl, h2, h3⟩ := kd_prime h.kind
  rw [num_val, Int.toNat_natCast, Int.tmod_eq_emod_of_nonneg (by omega)]
  exact ⟨rfl, by omega⟩

/-- The roots among the first elements. -/
def rootsE (ps : List (El R)) : Nat → List (El R)
  | 0 => []
  | n + 1 => if h : n < R.q then (if ev ⟨n, h⟩ ps = 0 then rootsE ps n ++ [⟨n, h⟩] else rootsE ps n) else rootsE ps n
theorem roots_yes {ps : List (El R)} {x : El R} (h : ev x ps = 0) : rootsE ps (x.val + 1) = rootsE ps x.val ++ [x] := by
  show (if h : x.val < R.q then _ else _) = _
  rw [dif_pos x.lt, if_pos h]
theorem roots_no {ps : List (El R)} {x : El R} (h : ev x ps ≠ 0) : rootsE ps (x.val + 1) = rootsE ps x.val := by
  show (if h : x.val < R.q then _ else _) = _
  rw [dif_pos x.lt, if_neg h]
theorem roots_facts (ps : List (El R)) : ∀ n : Nat, (rootsE ps n).length ≤ n ∧ (rootsE ps n).Nodup ∧ ∀ x ∈ rootsE ps n, ev x ps = 0 ∧ x.val < n
  | 0 => ⟨Nat.le_refl _, List.nodup_nil, fun x hx => by simp [rootsE] at hx⟩
  | n + 1 => by
    obtain ⟨h1, h2, h3⟩ := roots_facts ps n
    by_cases h : n < R.q
    · by_cases hz : ev ⟨n, h⟩ ps = 0
      · have e : rootsE ps (n + 1) = rootsE ps n ++ [⟨n, h⟩] := roots_yes (x := ⟨n, h⟩) hz
        rw [e]
        refine ⟨by rw [List.length_append]; simp; omega, ?_, fun x hx => ?_⟩
        · rw [List.nodup_append]
          refine ⟨h2, by simp, fun a ha b hb => ?_⟩
          obtain rfl : b = ⟨n, h⟩ := by simpa using hb
          intro e
          have := (h3 a ha).2
          rw [e] at this
          exact absurd this (Nat.lt_irrefl n)
        · rw [List.mem_append] at hx
          rcases hx with hx | hx
          · exact ⟨(h3 x hx).1, Nat.lt_succ_of_lt (h3 x hx).2⟩
          · obtain rfl : x = ⟨n, h⟩ := by simpa using hx
            exact ⟨hz, Nat.lt_succ_self n⟩
      · have e : rootsE ps (n + 1) = rootsE ps n := roots_no (x := ⟨n, h⟩) hz
        rw [e]
        exact ⟨by omega, h2, fun x hx => ⟨(h3 x hx).1, Nat.lt_succ_of_lt (h3 x hx).2⟩⟩
    · have e : rootsE ps (n + 1) = rootsE ps n := dif_neg h
      rw [e]
      exact ⟨by omega, h2, fun x hx => ⟨(h3 x hx).1, Nat.lt_succ_of_lt (h3 x hx).2⟩⟩

def RtRel (w : World) (p k g : Int) (ps : List (El R)) (v i : Value) (wr : World) : Prop :=
  ∃ j : Nat, j ≤ R.q ∧ i = .int .i64 j ∧ Own wr (w.heap.size + 1) 2 .i64 v (iv (rootsE ps j)) ∧ Box w wr 25 p k g

end
end Go.Proofs.Ytkdpkbnhckpnoaa

namespace Go.Proofs.Ytkdpkbnhckpnoaa
open Go.RowKit
set_option linter.unusedSimpArgs false
set_option linter.unusedVariables false

section
variable {R : Fld} {p k g : Int}
/-- Two slices that read as polynomials with the same common divisor. -/
def GcRel (w : World) (p k g : Int) (M : Nat) (ps qs : List (El R)) (u v : Value) (wr : World) : Prop :=
  ∃ (A A' : Option Addr) (n c n' c' : Nat) (pp qq : List (El R)), u = .slice A n c ∧ v = .slice A' n' c' ∧ Ints .i64 wr wr.heap.size A n (iv pp) ∧ Ints .i64 wr wr.heap.size A' n' (iv qq) ∧ Hid (Tr pp ∧ Tr qq ∧ gcdL pp qq = gcdL ps qs ∧ (0 < pp.length ∨ 0 < qq.length)) ∧ n ≤ M ∧ n' ≤ M ∧ Box w wr 25 p k g
def lenOf : Value → Nat
  | .slice _ n _ => n
  | _ => 0
theorem gc_step {ps qs pp qq : List (El R)} (h : Tr pp ∧ Tr qq ∧ gcdL pp qq = gcdL ps qs ∧ (0 < pp.length ∨ 0 < qq.length)) (h0 : 0 < qq.length) :
    Tr qq ∧ Tr (remP pp qq) ∧ gcdL qq (remP pp qq) = gcdL ps qs ∧ (0 < qq.length ∨ 0 < (remP pp qq).length) :=
  ⟨h.2.1, tr_rem h.1, by rw [← gcdL_step h.1 h.2.1 h0]; exact h.2.2.1, .inl h0⟩
theorem gc_end {ps qs pp qq : List (El R)} (h : Tr pp ∧ Tr qq ∧ gcdL pp qq = gcdL ps qs ∧ (0 < pp.length ∨ 0 < qq.length)) (h0 : qq.length = 0) :
    0 < pp.length ∧ scaP (lastE pp).inv pp = gcdM ps qs := by
  have h1 := h.2.2.1
  rw [gcdL_end h0] at h1
  exact ⟨by omega, by rw [gcdM, ← h1]⟩

end
end Go.Proofs.Ytkdpkbnhckpnoaa

namespace Go.Proofs.Ytkdpkbnhckpnoaa
open Go.RowKit
set_option linter.unusedSimpArgs false
set_option linter.unusedVariables false

/-- A function of a field and one list, or two lists: its contract, whatever the lists' memory. -/
def C1 (f : Nat) (p k g : Int) (z : List Int) (Post : World → Ending → World → Prop) : Prop :=
  ∀ (A : Option Addr) (n c B : Nat) (w : World), Ints .i64 w B A n z → B ≤ w.heap.size → Calls Try.prog f #[.agg #[.int .i64 p, .int .i64 k, .int .i64 g], .slice A n c] w (Post w)
def C2 (f : Nat) (p k g : Int) (z z' : List Int) (Post : World → Ending → World → Prop) : Prop :=
  ∀ (A : Option Addr) (n c : Nat) (A' : Option Addr) (n' c' B : Nat) (w : World), Ints .i64 w B A n z → Ints .i64 w B A' n' z' → B ≤ w.heap.size → Calls Try.prog f #[.agg #[.int .i64 p, .int .i64 k, .int .i64 g], .slice A n c, .slice A' n' c'] w (Post w)
/-- What a function leaves that returns a new list and a code. -/
def NewIK (r : List Int) (c : Int) (w : World) (x : Ending) (w' : World) : Prop :=
  ∃ A m, x = .returned (.tuple #[.slice A r.length m, .int .i64 c]) ∧ r.length ≤ m ∧ Own w' w.heap.size 2 .i64 (.slice A r.length m) r ∧ Below w.heap.size w w'
theorem newIK_of {r : List Int} {c : Int} {w w' : World} {v : Value} {base : Nat} (h : Own w' base 2 .i64 v r) (hb : Below w.heap.size w w') (hB : w.heap.size ≤ base) : NewIK r c w (.returned (.tuple #[v, .int .i64 c])) w' := by
  obtain ⟨A, m, rfl, hc⟩ := h.form
  exact ⟨A, m, rfl, hc, h.low hB, hb⟩
theorem newIK_nil {c : Int} {w w' : World} (hb : Below w.heap.size w w') : NewIK [] c w (.returned (.tuple #[.slice none 0 0, .int .i64 c])) w' :=
  newIK_of (base := w.heap.size) (World.ownsRow_nil _ _ _ _) hb (Nat.le_refl _)

theorem rws1 {w : World} {B n c : Nat} {A : Option Addr} {z : List Int} (t : TypeId) (h : Ints .i64 w B A n z) (hB : B ≤ w.heap.size) (hn : n ≤ 1099511627776) :
    Rws (w.alloc (.cells #[.slice A n c] t)) (w.heap.size + 1) w.heap.size [(A, n, c, z)] := by
  refine ⟨by omega, fun i e he => ?_⟩
  have h1 := (h.below ((Below.refl B w).alloc hB (.cells #[.slice A n c] t))).more (B' := w.heap.size + 1) (by omega)
  have hi : i < 1 := (List.getElem?_eq_some_iff.1 he).1
  obtain rfl : i = 0 := by omega
  simp only [List.getElem?_cons_zero, Option.some.injEq] at he
  subst he
  exact ⟨by rw [World.cell?_alloc_at _ _ _ _ rfl]; rfl, h1, hn⟩
theorem rws2 {w : World} {B n c n' c' : Nat} {A A' : Option Addr} {z z' : List Int} (t : TypeId) (h : Ints .i64 w B A n z) (h' : Ints .i64 w B A' n' z') (hB : B ≤ w.heap.size) (hn : n ≤ 1099511627776) (hn' : n' ≤ 1099511627776) :
    Rws (w.alloc (.cells #[.slice A n c, .slice A' n' c'] t)) (w.heap.size + 1) w.heap.size [(A, n, c, z), (A', n', c', z')] := by
  refine ⟨by omega, fun i e he => ?_⟩
  have h1 := (h.below ((Below.refl B w).alloc hB (.cells #[.slice A n c, .slice A' n' c'] t))).more (B' := w.heap.size + 1) (by omega)
  have h2 := (h'.below ((Below.refl B w).alloc hB (.cells #[.slice A n c, .slice A' n' c'] t))).more (B' := w.heap.size + 1) (by omega)
  have hi : i < 2 := (List.getElem?_eq_some_iff.1 he).1
  rcases (show i = 0 ∨ i = 1 by omega) with rfl | rfl
  · simp only [List.getElem?_cons_zero, Option.some.injEq] at he
    subst he
    exact ⟨by rw [World.cell?_alloc_at _ _ _ _ rfl]; rfl, h1, hn⟩
  · simp only [List.getElem?_cons_succ, List.getElem?_cons_zero, Option.some.injEq] at he
    subst he
    exact ⟨by rw [World.cell?_alloc_at _ _ _ _ rfl]; rfl, h2, hn'⟩

theorem rws1b {w : World} {B n c : Nat} {A : Option Addr} {z : List Int} (o : Obj) (t : TypeId) (h : Ints .i64 w B A n z) (hB : B ≤ w.heap.size) (hn : n ≤ 1099511627776) :
    Rws ((w.alloc o).alloc (.cells #[.slice A n c] t)) (w.heap.size + 2) (w.heap.size + 1) [(A, n, c, z)] := by
  have h1 := rws1 (c := c) t (h.below ((Below.refl B w).alloc hB o)) (by rw [alloc_size]; omega) hn
  rw [alloc_size] at h1; exact h1
theorem rws2b {w : World} {B n c n' c' : Nat} {A A' : Option Addr} {z z' : List Int} (o : Obj) (t : TypeId) (h : Ints .i64 w B A n z) (h' : Ints .i64 w B A' n' z') (hB : B ≤ w.heap.size) (hn : n ≤ 1099511627776) (hn' : n' ≤ 1099511627776) :
    Rws ((w.alloc o).alloc (.cells #[.slice A n c, .slice A' n' c'] t)) (w.heap.size + 2) (w.heap.size + 1) [(A, n, c, z), (A', n', c', z')] := by
  have h1 := rws2 (c := c) (c' := c') t (h.below ((Below.refl B w).alloc hB o)) (h'.below ((Below.refl B w).alloc hB o)) (by rw [alloc_size]; omega) hn hn'
  rw [alloc_size] at h1; exact h1

theorem poly_open {R : Fld} {zs : List Int} (h : polyB R.q zs = true) : ∃ ps : List (El R), zs = iv ps ∧ Tr ps ∧ ps.length ≤ 512 := by
  simp only [polyB, Bool.and_eq_true, decide_eq_true_eq] at h
  obtain ⟨h1, h2, h3⟩ := h
  obtain ⟨ps, rfl⟩ := iv_of h2
  rw [iv_len] at h1
  refine ⟨ps, rfl, fun i hi e => h3 ?_, h1⟩
  rw [List.getLast?_eq_getElem?, iv_len, show ps.length - 1 = i by omega, iv_at (by omega), e]; rfl
theorem poly_shut {R : Fld} {ps : List (El R)} (h : Tr ps) (hl : ps.length ≤ 512) : polyB R.q (iv ps) = true := by
  simp only [polyB, Bool.and_eq_true, decide_eq_true_eq, iv_len]
  refine ⟨hl, iv_all ps, fun e => ?_⟩
  rw [List.getLast?_eq_getElem?, iv_len] at e
  have h0 : 0 < ps.length := by
    rcases Nat.eq_zero_or_pos ps.length with h0 | h0
    · rw [List.getElem?_eq_none (by rw [iv_len]; omega)] at e; cases e
    · exact h0
  rw [iv_at (by omega)] at e
  simp only [Option.some.injEq] at e
  exact h (ps.length - 1) (by omega) (El.eq (by rw [val_zero]; omega))
theorem pErr_good {p k g : Int} {L : List (List Int)} (h : pErr p k g L ≠ 1) : pErr p k g L = 0 ∧ fieldB p k g = true ∧ ∃ R : Fld, FldIs R p k g ∧ ∀ z ∈ L, ∃ ps : List (El R), z = iv ps ∧ Tr ps ∧ ps.length ≤ 512 := by
  unfold pErr at h ⊢
  by_cases hh : fieldB p k g = true ∧ ∀ zs ∈ L, polyB (sizeI p k).toNat zs = true
  · rw [if_pos hh]
    obtain ⟨R, hR⟩ := fld_ex hh.1
    refine ⟨rfl, hh.1, R, hR, fun z hz => poly_open ?_⟩
    have := hh.2 z hz
    rwa [hR.kind.size, Int.toNat_natCast] at this
  · rw [if_neg hh] at h; exact absurd rfl h
theorem pErr1 (p k g : Int) (z : List Int) : pErr p k g [z] = 1 ∨ (pErr p k g [z] = 0 ∧ fieldB p k g = true ∧ ∃ (R : Fld) (ps : List (El R)), FldIs R p k g ∧ z = iv ps ∧ Tr ps ∧ ps.length ≤ 512) := by
  by_cases h : pErr p k g [z] = 1
  · exact .inl h
  · obtain ⟨h0, hf, R, hR, hL⟩ := pErr_good h
    obtain ⟨ps, h1, h2, h3⟩ := hL z (by simp)
    exact .inr ⟨h0, hf, R, ps, hR, h1, h2, h3⟩
theorem pErr2 (p k g : Int) (z z' : List Int) : pErr p k g [z, z'] = 1 ∨ (pErr p k g [z, z'] = 0 ∧ fieldB p k g = true ∧ ∃ (R : Fld) (ps qs : List (El R)), FldIs R p k g ∧ z = iv ps ∧ Tr ps ∧ ps.length ≤ 512 ∧ z' = iv qs ∧ Tr qs ∧ qs.length ≤ 512) := by
  by_cases h : pErr p k g [z, z'] = 1
  · exact .inl h
  · obtain ⟨h0, hf, R, hR, hL⟩ := pErr_good h
    obtain ⟨ps, h1, h2, h3⟩ := hL z (by simp)
    obtain ⟨qs, h4, h5, h6⟩ := hL z' (by simp)
    exact .inr ⟨h0, hf, R, ps, qs, hR, h1, h2, h3, h4, h5, h6⟩
theorem len40 {z : List Int} (h : z.length ≤ 1048576) : z.length ≤ 1099511627776 := Nat.le_trans h (by omega)
theorem iv512 {R : Fld} {ps : List (El R)} (h : ps.length ≤ 1024) : (iv ps).length ≤ 1099511627776 := by rw [iv_len]; omega

section
variable (p k g : Int) (z z' : List Int)
end
end Go.Proofs.Ytkdpkbnhckpnoaa
