/-
  Lists of indices; the contracts of valid indices, of locators and of locator polynomials, of the program.
  The contracts of the locators of a code, their inverses, locator polynomials and the indices that one locates, of the program.
  The contracts of the indices that a polynomial locates, of evaluators and of the values of errors, of the program.
  Condition: as each statement says.
-/
import Derived.Test.YtkdpkbnhckpnoaaCode5
import Derived.Test.YtkdpkbnhckpnoaaJP
import Derived.Test.YtkdpkbnhckpnoaaJK
namespace Go.Proofs.Ytkdpkbnhckpnoaa
open Go.RowKit
set_option linter.unusedSimpArgs false
set_option linter.unusedVariables false

/-- Natural numbers as the numbers of a list. -/
def nv (J : List Nat) : List Int := J.map fun (i : Nat) => (i : Int)
theorem nv_len (J : List Nat) : (nv J).length = J.length := List.length_map ..
theorem nv_at {J : List Nat} {j z : Nat} (h : J[j]? = some z) : (nv J)[j]? = some (z : Int) := by rw [nv, List.getElem?_map, h]; rfl
theorem nv_get {J : List Nat} {j : Nat} {x : Int} (h : (nv J)[j]? = some x) : ∃ z : Nat, J[j]? = some z ∧ x = z := by
  rw [nv, List.getElem?_map] at h
  obtain ⟨z, hz, rfl⟩ := Option.map_eq_some_iff.1 h
  exact ⟨z, hz, rfl⟩
theorem nv_app (J K : List Nat) : nv (J ++ K) = nv J ++ nv K := List.map_append
/-- Strictly increasing from a number on, below L. -/
def idxF (L : Int) : Int → List Int → Bool
  | _, [] => true
  | lo, z :: zs => decide (lo ≤ z ∧ z < L) && idxF L (z + 1) zs
/-- A valid list of indices, by its numbers. -/
def idxB (L : Int) (zs : List Int) : Bool := idxF L 0 zs
theorem idxF_yes {L lo z : Int} {zs : List Int} (h1 : lo ≤ z) (h2 : z < L) : idxF L lo (z :: zs) = idxF L (z + 1) zs := by
  rw [idxF, decide_eq_true ⟨h1, h2⟩]; rfl
theorem idxF_no {L lo z : Int} {zs : List Int} (h : z < lo ∨ L ≤ z) : idxF L lo (z :: zs) = false := by
  rw [idxF, decide_eq_false (by omega)]; rfl
theorem idxF_open {L : Int} : ∀ {zs : List Int} {lo : Int}, 0 ≤ lo → idxF L lo zs = true → ∃ J : List Nat, zs = nv J ∧ J.Pairwise (· < ·) ∧ ∀ i ∈ J, lo ≤ i ∧ (i : Int) < L
  | [], lo, _, _ => ⟨[], rfl, List.Pairwise.nil, fun i h => absurd h List.not_mem_nil⟩
  | z :: zs, lo, h0, h => by
    rw [idxF, Bool.and_eq_true, decide_eq_true_eq] at h
    obtain ⟨J, rfl, h2, h3⟩ := idxF_open (lo := z + 1) (by omega) h.2
    refine ⟨z.toNat :: J, ?_, List.pairwise_cons.2 ⟨fun i hi => ?_, h2⟩, fun i hi => ?_⟩
    · show z :: nv J = (z.toNat : Int) :: nv J
      congr 1; omega
    · have := (h3 i hi).1; omega
    · rcases List.mem_cons.1 hi with rfl | hi
      · omega
      · have := h3 i hi; omega
theorem idx_open {l : Nat} {zs : List Int} (h : idxB l zs = true) : ∃ J : List Nat, zs = nv J ∧ Idx l J := by
  obtain ⟨J, h1, h2, h3⟩ := idxF_open (Int.le_refl 0) h
  exact ⟨J, h1, h2, fun i hi => by have := (h3 i hi).2; omega⟩
theorem idxF_shut {l : Nat} : ∀ {J : List Nat} {lo : Int}, J.Pairwise (· < ·) → (∀ i ∈ J, lo ≤ i ∧ i < l) → idxF l lo (nv J) = true
  | [], _, _, _ => rfl
  | z :: J, lo, h, h' => by
    obtain ⟨h1, h2⟩ := List.pairwise_cons.1 h
    have hz := h' z (List.mem_cons_self ..)
    show idxF l lo ((z : Int) :: nv J) = true
    rw [idxF_yes hz.1 (by omega)]
    exact idxF_shut h2 fun i hi => by have := h1 i hi; have := h' i (List.mem_cons_of_mem _ hi); omega
theorem idx_shut {l : Nat} {J : List Nat} (h : Idx l J) : idxB l (nv J) = true := idxF_shut h.1 fun i hi => by have := h.2 i hi; omega
theorem drop_at {zs : List Int} {j : Nat} {x : Int} (h : zs[j]? = some x) : zs.drop j = x :: zs.drop (j + 1) := by
  obtain ⟨hj, e⟩ := List.getElem?_eq_some_iff.1 h
  rw [List.drop_eq_getElem_cons hj, e]

def HiRel (w : World) (p k g : Int) (L C : Int) (n : Nat) (zs : List Int) (v i : Value) (wr : World) : Prop :=
  ∃ (j : Nat) (lo : Int), j ≤ n ∧ 0 ≤ lo ∧ lo ≤ 1000000 ∧ i = .int .i64 j ∧ v = .int .i64 lo ∧ Hid (idxF L lo (zs.drop j) = idxB L zs) ∧ CBox w wr p k g L C

section
variable {R : Fld}
/-- The locators, and their inverses. -/
def locT (γ : El R) (l : Nat) : List (El R) := tab l (lcE γ l)
def invT (γ : El R) (l : Nat) : List (El R) := tab l fun i => (lcE γ l i).inv
theorem locT_len (γ : El R) (l : Nat) : (locT γ l).length = l := tab_len _ _
theorem invT_len (γ : El R) (l : Nat) : (invT γ l).length = l := tab_len _ _
theorem locT_at {γ : El R} {l i : Nat} (h : i < l) : cf (locT γ l) i = lcE γ l i := by rw [locT, cf_tab, if_pos h]
theorem invT_at {γ : El R} {l i : Nat} (h : i < l) : cf (invT γ l) i = (lcE γ l i).inv := by rw [invT, cf_tab, if_pos h]
theorem locT_rev (γ : El R) (l : Nat) : (tab l fun j => epw γ j).reverse = locT γ l := by rw [tab_rev]; rfl

theorem run_slice_tab0 (b c : Nat) (hc : c ≤ 1000) (w : World) :
    (Instr.sliceAt 134 (.pointer (some ⟨b, 0, none⟩)) none (some (.int .i64 (c : Int))) none).run Try.prog w = .ok (.slice (some ⟨b, 0, none⟩) c 1021) w := by
  have ht : Try.prog.underlying 134 = some (.array (Try.prog.arrayLen 134) (Try.prog.elem 134)) := by kernel_rfl
  have hl : Try.prog.arrayLen 134 = 1021 := by kernel_rfl
  have hs : (sizeOf (Try.prog.elem 134)).run Try.prog w = .ok 1 w := by kernel_rfl
  rw [run_sliceAt_array_h w _ ⟨b, 0, none⟩ ht .i64 (c : Int) (by omega) (by rw [hl]; omega), hs, hl]
  simp only [Result.andThen_ok, slicedAt]
  rw [Int.toNat_natCast, if_neg (by omega)]
  rfl
end
end Go.Proofs.Ytkdpkbnhckpnoaa

namespace Go.Proofs.Ytkdpkbnhckpnoaa
open Go.RowKit
set_option linter.unusedSimpArgs false
set_option linter.unusedVariables false

section
variable {R : Fld} {γ : El R} {p k g : Int} {l c : Nat}
/-- The powers of an element from the power 0 on. -/
def pw0 (γ : El R) (n : Nat) : List (El R) := tab n fun j => epw γ j
theorem pw0_len (γ : El R) (n : Nat) : (pw0 γ n).length = n := tab_len _ _
theorem pw0_at {γ : El R} {n j : Nat} (h : j < n) : cf (pw0 γ n) j = epw γ j := by rw [pw0, cf_tab, if_pos h]
theorem tab_ints0 {ws : World} {N n B : Nat} {cs : Array Value} {t : TypeId} (hR : ws.heap[N]? = some (.cells cs t (0, 0))) (hT : Tab cs (tbl R.q R.mul γ.val)) (hc : n + 1 ≤ R.q) (hq : R.q ≤ 1021) (hB : N < B) :
    Ints .i64 ws B (some ⟨N, 0, none⟩) n (iv (pw0 γ n)) := by
  refine ⟨by rw [iv_len, pw0_len], fun _ => ⟨N, 0, rfl, hB, fun j x hx => ?_⟩⟩
  have hj : j < n := by
    have := (List.getElem?_eq_some_iff.1 hx).1
    rwa [iv_len, pw0_len] at this
  rw [iv_at (by rw [pw0_len]; exact hj), pw0_at hj] at hx
  injection hx with hx
  rw [cell_of_row ws N (0 + j) _ _ _ hR, hT.2 (0 + j) (by omega), tbl, if_pos (by omega), ← hx, epw_val, Nat.zero_add]

/-- The power of the generator that the program takes for the inverse of a locator. -/
theorem inv_pow (h : CodeIs R γ p k g l c) {i : Nat} (hi : i < l) : epw γ ((R.q - 1 - (l - 1 - i)) % (R.q - 1)) = (lcE γ l i).inv ∧ (R.q - 1 - (l - 1 - i)) % (R.q - 1) < R.q - 1 := by
  have hq3 := R.three
  have hlq := h.lq
  have M := h.fld.mon
  have h1 : epw γ (R.q - 1) = 1 := El.eq (by rw [epw_val]; exact (gen_parts M h.ggen).1)
  refine ⟨?_, Nat.mod_lt _ (by omega)⟩
  have e1 : epw γ ((R.q - 1 - (l - 1 - i)) % (R.q - 1)) = epw γ (R.q - 1 - (l - 1 - i)) := by
    rcases Nat.eq_zero_or_pos (l - 1 - i) with h0 | h0
    · rw [h0, Nat.sub_zero, Nat.mod_self, h1]; rfl
    · rw [Nat.mod_eq_of_lt (by omega)]
  rw [e1]
  refine inv_only (r := lcE γ l i) ?_ ?_
  · rw [lcE, ← epw_add, show R.q - 1 - (l - 1 - i) + (l - 1 - i) = R.q - 1 by omega, h1]
  · rw [emc]; exact lc_inv h.far i

def IlRel (w : World) (p k g : Int) (l c : Nat) (N gS o : Nat) (γ : El R) (i : Value) (wr : World) : Prop :=
  ∃ j : Nat, j ≤ l ∧ i = .int .i64 j ∧ Own wr gS 2 .i64 (.slice (some ⟨gS, 0, none⟩) l l) (iv (tab l fun i => if i < j then (lcE γ l i).inv else 0)) ∧ Ints .i64 wr gS (some ⟨N, 0, none⟩) o (iv (pw0 γ o)) ∧ CBox w wr p k g l c
theorem fillT_step {l j : Nat} {f : Nat → El R} {y : El R} (hy : y = f j) : (tab l fun i => if i < j then f i else 0).set j y = tab l fun i => if i < j + 1 then f i else 0 := by
  rw [tab_set]
  refine tab_congr fun i hi => ?_
  by_cases h : i = j
  · rw [if_pos h, if_pos (by omega), hy, h]
  · rw [if_neg h]
    by_cases h2 : i < j
    · rw [if_pos h2, if_pos (by omega)]
    · rw [if_neg h2, if_neg (by omega)]

def LpRel (w : World) (p k g : Int) (l c : Nat) (γ : El R) (A1 : Option Addr) (J : List Nat) (v i : Value) (wr : World) : Prop :=
  ∃ (j : Nat) (Ap : Option Addr) (cp : Nat), j ≤ J.length ∧ i = .int .i64 j ∧ v = .slice Ap (j + 1) cp ∧ Own wr (w.heap.size + 1) 2 .i64 (.slice Ap (j + 1) cp) (iv (locP (locs γ l (J.take j)))) ∧ Ints .i64 wr wr.heap.size A1 l (iv (locT γ l)) ∧ CBox w wr p k g l c
theorem locs_take {γ : El R} {l : Nat} {J : List Nat} {j z : Nat} (h : J[j]? = some z) : locP (locs γ l (J.take (j + 1))) = mulP (locP (locs γ l (J.take j))) (lf (lcE γ l z)) := by
  rw [List.take_add_one, h, Option.toList_some, locs_app]
  exact locP_snoc _ _
theorem locJ_len {N : Nat} (hF : Far γ N) (l : Nat) (J : List Nat) : (locP (locs γ l J)).length = J.length + 1 := by
  rw [loc_len (fun x hx => by obtain ⟨i, _, rfl⟩ := List.mem_map.1 hx; exact epw_ne hF.1 _), locs_len]

end
end Go.Proofs.Ytkdpkbnhckpnoaa

namespace Go.Proofs.Ytkdpkbnhckpnoaa
open Go.RowKit
set_option linter.unusedSimpArgs false
set_option linter.unusedVariables false

section
variable {R : Fld} {γ : El R} {p k g : Int} {l c : Nat}
theorem num_zero (h : FldIs R p k g) : numE h 0 = 0 := El.eq (by rw [num_val, Nat.zero_mod]; rfl)
theorem num_succ (h : FldIs R p k g) (j : Nat) : numE h (j + 1) = numE h j + 1 := by
  refine El.eq ?_
  rw [val_add, num_val, num_val, h.add, val_one]
  have hk := h.kind
  generalize R.q = q at hk ⊢
  generalize R.mul = mul at hk
  cases hk with
  | one _ _ h3 h =>
    rw [addF_1 h3, Int.toNat_natCast, Nat.mod_add_mod]
  | two K G h3 h8 hG hG2 =>
    rw [addF, if_pos rfl]
    show (j + 1) % 2 = j % 2 ^^^ 1
    rcases (show j % 2 = 0 ∨ j % 2 = 1 by omega) with h | h
    · rw [h, show (j + 1) % 2 = 1 by omega]; rfl
    · rw [h, show (j + 1) % 2 = 0 by omega]; rfl
theorem derP_is (h : FldIs R p k g) (ps : List (El R)) : derP h ps = derG (numE h) ps := rfl

/-- What a function leaves that returns a new list and a bool. -/
def NewIB (r : List Int) (b : Bool) (w : World) (x : Ending) (w' : World) : Prop :=
  ∃ A m, x = .returned (.tuple #[.slice A r.length m, .bool b]) ∧ r.length ≤ m ∧ Own w' w.heap.size 2 .i64 (.slice A r.length m) r ∧ Below w.heap.size w w'
theorem newIB_of {r : List Int} {c : Bool} {w w' : World} {v : Value} {base : Nat} (h : Own w' base 2 .i64 v r) (hb : Below w.heap.size w w') (hB : w.heap.size ≤ base) : NewIB r c w (.returned (.tuple #[v, .bool c])) w' := by
  obtain ⟨A, m, rfl, hc⟩ := h.form
  exact ⟨A, m, rfl, hc, h.low hB, hb⟩
theorem newIB_nil {c : Bool} {w w' : World} (hb : Below w.heap.size w w') : NewIB [] c w (.returned (.tuple #[.slice none 0 0, .bool c])) w' :=
  newIB_of (base := w.heap.size) (World.ownsRow_nil _ _ _ _) hb (Nat.le_refl _)

/-- The indices below n that a polynomial locates. -/
def hitN (γ : El R) (l n : Nat) (p : List (El R)) : List Nat := (List.range n).filter fun i => decide (ev (lcE γ l i).inv p = 0)
theorem hitN_succ (γ : El R) (l n : Nat) (p : List (El R)) : hitN γ l (n + 1) p = hitN γ l n p ++ (if ev (lcE γ l n).inv p = 0 then [n] else []) := by
  unfold hitN
  rw [List.range_succ, List.filter_append]
  congr 1
  by_cases h : ev (lcE γ l n).inv p = 0
  · rw [if_pos h]; simp [h]
  · rw [if_neg h]; simp [h]
theorem hitN_len (γ : El R) (l n : Nat) (p : List (El R)) : (hitN γ l n p).length ≤ n := by
  have := List.length_filter_le (fun i => decide (ev (lcE γ l i).inv p = 0)) (List.range n)
  rw [List.length_range] at this; exact this

def LbRel (w : World) (p k g : Int) (l c : Nat) (γ : El R) (N : Nat) (A1 : Option Addr) (ps : List (El R)) (v i : Value) (wr : World) : Prop :=
  ∃ j : Nat, j ≤ l ∧ i = .int .i64 j ∧ Own wr N 2 .i64 v (nv (hitN γ l j ps)) ∧ Ints .i64 wr N A1 l (iv (invT γ l)) ∧ N ≤ wr.heap.size ∧ CBox w wr p k g l c

theorem locB_none {ps : List (El R)} (h : ps.length = 0) : locB γ l ps = false := by
  simp only [locB, decide_eq_false_iff_not]; omega
theorem locB_first {ps : List (El R)} (h : cf ps 0 ≠ 1) : locB γ l ps = false := by
  simp only [locB, decide_eq_false_iff_not]; exact fun h' => h h'.2.1
theorem one_val {x : El R} : ((x.val : Int) != 1) = !decide (x = 1) := by
  by_cases h : x = 1
  · subst h; rfl
  · have : x.val ≠ 1 := fun e => h (El.eq e)
    simp [h]; omega

/-- The indices that are returned for a polynomial. -/
def locJ (γ : El R) (l : Nat) (ps : List (El R)) : List Nat := if locB γ l ps = true then hits γ l ps else []

end
end Go.Proofs.Ytkdpkbnhckpnoaa
