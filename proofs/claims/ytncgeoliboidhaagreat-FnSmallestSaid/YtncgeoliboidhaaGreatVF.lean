/-
  A valid field keeps the laws of a field; the contracts of sums, products, negatives and inverses of its elements, of the program and of the model.
  Words for memory that a function writes into; the contract of the program's sum of a polynomial and a multiple of another one.
  The contracts of the program's functions that tell whether lists are polynomials, of the last coefficient and of the value.
  The contracts of the program's values, shortened lists, multiples, products and sums of polynomials.
  The contracts of the program's multiples, products and sums of polynomials.
  The contracts of the program's sums and quotients of polynomials.
  Condition: as each statement says.
-/
import Derived.Test.YtncgeoliboidhaaGreatVD
import Derived.Test.YtncgeoliboidhaaGreatVE
import Derived.Test.YtncgeoliboidhaaGreatFSpec4
import Derived.Test.YtncgeoliboidhaaGreatMarks
import Derived.Deep.RegionHeld3
import Derived.Deep.RegionLaw
import Derived.Laws.CopyOwn
namespace Go.Proofs.YtncgeoliboidhaaGreat
open Go.RowKit

/-- The field with these numbers. -/
structure FldIs (R : Fld) (p k g : Int) : Prop where
  kind : Kd p k g R.q R.mul
  gen : ∃ γ, γ < R.q ∧ gen R.q R.mul γ = true ∧ ((p ≠ 2 ∧ k = 1 ∧ g = γ) ∨ (p = 2 ∧ 3 ≤ k ∧ γ = 2))
  add : R.add = addF p R.q
  neg : R.neg = negF p R.q
  inv : R.inv = fun a => pw R.mul a (R.q - 2)

theorem addF_1 {q : Nat} (h3 : 3 ≤ q) (a b : Nat) : addF q q a b = (a + b) % q := by rw [addF, if_neg (by omega)]
theorem negF_1' {q : Nat} (h3 : 3 ≤ q) (a : Nat) : negF q q a = (q - a) % q := by rw [negF, if_neg (by omega)]

theorem fld_ex {p k g : Int} (h : fieldB p k g = true) : ∃ R : Fld, FldIs R p k g := by
  obtain ⟨q, mul, γ, hK, h1, h2, h3, h4⟩ := fieldB_open h
  have M := hK.mon
  have hg : ∃ γ, γ < q ∧ Go.Proofs.YtncgeoliboidhaaGreat.gen q mul γ = true ∧ ((p ≠ 2 ∧ k = 1 ∧ g = γ) ∨ (p = 2 ∧ 3 ≤ k ∧ γ = 2)) := ⟨γ, h2, h3, h4⟩
  have hinv : ∀ a, a < q → a ≠ 0 → mul a (pw mul a (q - 2)) = 1 := fun a ha h0 => inv_mul M h2 h3 ha h0
  have hclo : ∀ a, a < q → pw mul a (q - 2) < q := fun a ha => pw_lt M ha _
  have hK' := hK
  cases hK with
  | one _ _ hq3 hq =>
    refine ⟨⟨q, addF q q, negF q q, mul1 q, fun a => pw (mul1 q) a (q - 2), hq3, ?_, ?_, M.clo, hclo, ?_, ?_, ?_, ?_, M.comm, M.assoc, fun a ha => mul_one M ha, ?_, hinv⟩, ⟨hK', hg, rfl, rfl, rfl⟩⟩
    · intro a b _ _; rw [addF_1 hq3]; exact Nat.mod_lt _ (by omega)
    · intro a _; rw [negF_1' hq3]; exact Nat.mod_lt _ (by omega)
    · intro a b _ _; rw [addF_1 hq3, addF_1 hq3, Nat.add_comm]
    · intro a b c _ _ _; rw [addF_1 hq3, addF_1 hq3, addF_1 hq3, addF_1 hq3, Nat.mod_add_mod, Nat.add_mod_mod, Nat.add_assoc]
    · intro a ha; rw [addF_1 hq3]; exact Nat.mod_eq_of_lt ha
    · intro a ha
      rw [addF_1 hq3, negF_1' hq3, Nat.add_mod_mod, show a + (q - a) = q by omega, Nat.mod_self]
    · intro a b c _ _ _
      rw [addF_1 hq3, addF_1 hq3]; unfold mul1
      rw [Nat.mul_mod_mod, ← Nat.add_mod, Nat.mul_add]
  | two K G hk3 hk8 hG hG2 =>
    have e2 : ∀ a b, addF 2 (2 ^ K) a b = a ^^^ b := fun a b => by rw [addF, if_pos rfl]
    have e3 : ∀ a, negF 2 (2 ^ K) a = a := fun a => by rw [negF, if_pos rfl]
    refine ⟨⟨2 ^ K, addF 2 (2 ^ K), negF 2 (2 ^ K), mul2 K G, fun a => pw (mul2 K G) a (2 ^ K - 2), M.three, ?_, ?_, M.clo, hclo, ?_, ?_, ?_, ?_, M.comm, M.assoc, fun a ha => mul_one M ha, ?_, hinv⟩, ⟨hK', hg, rfl, rfl, rfl⟩⟩
    · intro a b ha hb; rw [e2]; exact Nat.xor_lt_two_pow ha hb
    · intro a ha; rw [e3]; exact ha
    · intro a b _ _; rw [e2, e2, Nat.xor_comm]
    · intro a b c _ _ _; simp only [e2, Nat.xor_assoc]
    · intro a _; rw [e2, Nat.xor_zero]
    · intro a _; rw [e2, e3, Nat.xor_self]
    · intro a b c ha hb hc; rw [e2, e2]; exact mul2_xor a b c ha hb hc

section
variable {R : Fld} {p k g : Int} (h : FldIs R p k g)
include h
theorem FldIs.le : R.q ≤ 1021 := h.kind.big.2
theorem FldIs.bd (a : El R) : a.val < 1021 := by have := a.lt; have := h.le; omega
theorem implProdE (a b : El R) (w : World) :
    Calls Tryz.prog 115 #[.agg #[.int .i64 p, .int .i64 k, .int .i64 g], .int .i64 a.val, .int .i64 b.val] w (Gives (.int .i64 ((a * b).val : Nat)) w) :=
  implProd h.kind _ _ a.lt b.lt w
theorem specMulE (a b : El R) (w : World) :
    Calls Tryz.prog 134 #[.agg #[.int .i64 p, .int .i64 k, .int .i64 g], .int .i64 a.val, .int .i64 b.val] w (Gives (.int .i64 ((a * b).val : Nat)) w) :=
  specMul0 h.kind _ _ a.lt b.lt w
end

/-- The numbers of elements. -/
def iv {R : Fld} (ps : List (El R)) : List Int := ps.map fun x => (x.val : Int)
section
variable {R : Fld}
theorem iv_len (ps : List (El R)) : (iv ps).length = ps.length := by simp [iv]
theorem iv_at {ps : List (El R)} {i : Nat} (hi : i < ps.length) : (iv ps)[i]? = some ((cf ps i).val : Int) := by
  rw [iv, List.getElem?_map, at_cf hi]; rfl
theorem iv_set (ps : List (El R)) (j : Nat) (x : El R) : (iv ps).set j (x.val : Int) = iv (ps.set j x) := by simp [iv, List.map_set]
theorem iv_app (ps qs : List (El R)) : iv (ps ++ qs) = iv ps ++ iv qs := by simp [iv]
theorem iv_one (x : El R) : iv [x] = [(x.val : Int)] := rfl
theorem iv_take (ps : List (El R)) (n : Nat) : (iv ps).take n = iv (ps.take n) := by simp [iv]
theorem iv_zeros (n : Nat) : List.replicate n (0 : Int) = iv (tab n fun _ => (0 : El R)) := by
  unfold iv tab
  rw [List.map_map]
  refine List.ext_getElem? fun i => ?_
  rcases Nat.lt_or_ge i n with h | h
  · rw [List.getElem?_replicate, if_pos h]; simp [h, val_zero]
  · rw [List.getElem?_eq_none (by simpa using h), List.getElem?_eq_none (by simpa using h)]
theorem iv_inj {ps qs : List (El R)} (h : iv ps = iv qs) : ps = qs := by
  have hl : ps.length = qs.length := by rw [← iv_len, h, iv_len]
  refine List.ext_getElem? fun i => ?_
  rcases Nat.lt_or_ge i ps.length with hi | hi
  · have h1 := iv_at hi
    rw [h, iv_at (by omega)] at h1
    rw [at_cf hi, at_cf (by omega)]
    simp only [Option.some.injEq] at h1
    exact congrArg some (El.eq (by omega)).symm
  · rw [List.getElem?_eq_none hi, List.getElem?_eq_none (by omega)]
/-- A list of elements is one of numbers below the size. -/
theorem iv_of {zs : List Int} (h : zs.all (elB R.q) = true) : ∃ ps : List (El R), zs = iv ps := by
  rw [List.all_eq_true] at h
  induction zs with
  | nil => exact ⟨[], rfl⟩
  | cons z zs ih =>
    obtain ⟨ps, hp⟩ := ih fun x hx => h x (List.mem_cons_of_mem _ hx)
    have hz := h z (List.mem_cons_self ..)
    simp only [elB, decide_eq_true_eq] at hz
    refine ⟨⟨z.toNat, by omega⟩ :: ps, ?_⟩
    show _ = ((z.toNat : Nat) : Int) :: iv ps
    rw [← hp]; congr 1; omega
theorem iv_all (ps : List (El R)) : (iv ps).all (elB R.q) = true := by
  rw [List.all_eq_true]
  intro x hx
  obtain ⟨a, _, rfl⟩ := List.mem_map.1 hx
  simp only [elB, decide_eq_true_eq]
  have := a.lt
  omega
end
end Go.Proofs.YtncgeoliboidhaaGreat

namespace Go.Proofs.YtncgeoliboidhaaGreat
open Go.RowKit
set_option linter.unusedSimpArgs false

theorem Ints.grown {k : IntKind} {w w' : World} {B n : Nat} {A : Option Addr} {zs : List Int} {row : Option Nat} (h : Ints k w B A n zs) (hg : w.grownBy w' row) (hB : B ≤ w.heap.size) (hr : ∀ r, row = some r → B ≤ r) : Ints k w' B A n zs :=
  h.keep fun b o hb => grown_cell (p := ⟨b, o, none⟩) hg (show b < _ by omega) (fun e => by have := hr _ e; simp only at this; omega)
theorem grown_below' {a w w' : World} {row : Option Nat} {B : Nat} (h : a.grownBy w row) (hb : Below B w w') (hB : a.heap.size ≤ B) : a.grownBy w' row :=
  ⟨hb.os.trans h.os, hb.tape.trans h.tape, hb.output.trans h.output, Nat.le_trans h.size hb.size, fun i hi hne => (hb.block i (by omega)).trans (h.block i hi hne)⟩
theorem set_grown (w : World) (g j : Nat) (u : Value) : w.grownBy (w.setCell ⟨g, j, none⟩ u) (some g) :=
  ⟨rfl, rfl, rfl, by simp [World.setCell], fun i _ hne => Below.heap_setCell w ⟨g, j, none⟩ u i (fun e => hne (by simp [e]))⟩
theorem grown_set' {a w : World} {g : Nat} (h : a.grownBy w (some g)) (j : Nat) (u : Value) : a.grownBy (w.setCell ⟨g, j, none⟩ u) (some g) :=
  grown_trans h (set_grown w g j u)
/-- The struct that a call was given lies in the first block that it made; of the blocks before it at most one was written. -/
def Bx (w wr : World) (t : TypeId) (p k g : Int) (row : Option Nat) : Prop :=
  wr.heap[w.heap.size]? = some (.cells #[.int .i64 p, .int .i64 k, .int .i64 g] t (0, 0)) ∧ w.grownBy wr row
section
variable {w wr wr' : World} {t : TypeId} {p k g : Int} {row : Option Nat}
theorem Bx.start (w : World) (t : TypeId) (p k g : Int) (row : Option Nat) : Bx w (w.alloc (.cells #[.int .i64 p, .int .i64 k, .int .i64 g] t)) t p k g row :=
  ⟨heap_alloc_new w _, World.grownBy_alloc w _ _⟩
theorem Bx.lt (h : Bx w wr t p k g row) : w.heap.size < wr.heap.size := (Array.getElem?_eq_some_iff.1 h.1).1
theorem Bx.next (h : Bx w wr t p k g row) (hb : Below wr.heap.size wr wr') : Bx w wr' t p k g row :=
  ⟨by rw [hb.block _ h.lt]; exact h.1, grown_below' h.2 hb (Nat.le_of_lt h.lt)⟩
theorem Bx.drew (h : Bx w wr t p k g row) : Bx w wr.drew t p k g row := ⟨h.1, ⟨h.2.os, h.2.tape, h.2.output, h.2.size, h.2.block⟩⟩
theorem Bx.cells (h : Bx w wr t p k g row) : wr.cell? ⟨w.heap.size, 0, none⟩ = some (.int .i64 p) ∧ wr.cell? ⟨w.heap.size, 1, none⟩ = some (.int .i64 k) ∧ wr.cell? ⟨w.heap.size, 2, none⟩ = some (.int .i64 g) := cells3 h.1
theorem Bx.set {b : Nat} (h : Bx w wr t p k g (some b)) (hb : b ≠ w.heap.size) (j : Nat) (u : Value) : Bx w (wr.setCell ⟨b, j, none⟩ u) t p k g (some b) :=
  ⟨by rw [(set_grown wr b j u).block _ h.lt (by simpa using Ne.symm hb)]; exact h.1, grown_set' h.2 j u⟩
end

section
variable {R : Fld}
/-- One more coefficient is added. -/
theorem add_snoc {n s j : Nat} {a : El R} {f : Nat → El R} {qs : List (El R)} :
    (tab n fun i => f i + up s a (cf (qs.take j)) i).set (s + j) (f (s + j) + a * cf qs j) = tab n fun i => f i + up s a (cf (qs.take (j + 1))) i := by
  rw [tab_set]
  refine tab_congr fun i _ => ?_
  have hc : ∀ m l : Nat, cf (qs.take m) l = if l < m then cf qs l else 0 := fun m l => by
    unfold cf; simp only [List.getD_eq_getElem?_getD, List.getElem?_take]; split <;> simp
  by_cases hi : i = s + j
  · subst hi; rw [if_pos rfl, up_add, hc, if_pos (by omega)]
  · rw [if_neg hi]
    unfold up; split
    · rw [hc, hc]
      by_cases hl : i - s < j
      · rw [if_pos hl, if_pos (by omega)]
      · rw [if_neg hl, if_neg (by omega)]
    · rfl
theorem add_at {n s j : Nat} {a : El R} {f : Nat → El R} {qs : List (El R)} (hn : s + j < n) :
    (tab n fun i => f i + up s a (cf (qs.take j)) i)[s + j]? = some (f (s + j)) := by
  rw [tab_at _ hn, up_add, cf_out (by rw [List.length_take]; omega), em0, ea0]
theorem add_none {n s : Nat} {a : El R} {f : Nat → El R} {qs : List (El R)} : tab n f = tab n fun i => f i + up s a (cf (qs.take 0)) i := by
  refine tab_congr fun i _ => ?_
  have : up s a (cf (qs.take 0)) i = 0 := by unfold up; split; rw [show cf (qs.take 0) (i - s) = 0 from cf_out (by simp), em0]; rfl
  rw [this, ea0]
end

def AmRel {R : Fld} (w : World) (p k g : Int) (base n c gB s m : Nat) (a : El R) (f : Nat → El R) (qs : List (El R)) (i : Value) (wr : World) : Prop :=
  ∃ j : Nat, j ≤ m ∧ i = .int .i64 j ∧ Own wr base 2 .i64 (.slice (some ⟨gB, 0, none⟩) n c) (iv (tab n fun i => f i + up s a (cf (qs.take j)) i)) ∧ Bx w wr 25 p k g (some gB)

/-- What is left when a multiple has been added in its place. -/
def Added {R : Fld} (base n c gB s : Nat) (a : El R) (f : Nat → El R) (qs : List (El R)) (w : World) (x : Ending) (w' : World) : Prop :=
  x = .returned (.tuple #[]) ∧ Own w' base 2 .i64 (.slice (some ⟨gB, 0, none⟩) n c) (iv (tab n fun i => f i + up s a (cf qs) i)) ∧ w.grownBy w' (some gB)

theorem am_next {R : Fld} {base n c gB s j t : Nat} {a u y : El R} {f : Nat → El R} {qs : List (El R)} {w3 : World} (ht : t = s + j) (hu : u = f (s + j)) (hy : y = cf qs j)
    (hO : Own w3 base 2 .i64 (.slice (some ⟨gB, 0, none⟩) n c) (iv (tab n fun i => f i + up s a (cf (qs.take j)) i))) :
    Own (w3.setCell ⟨gB, t, none⟩ (.int .i64 ((u + a * y).val : Nat))) base 2 .i64 (.slice (some ⟨gB, 0, none⟩) n c) (iv (tab n fun i => f i + up s a (cf (qs.take (j + 1))) i)) := by
  have h := (hO.stored t ((u + a * y).val : Nat)).1
  rw [iv_set, ht, hu, hy, add_snoc] at h
  rw [ht, hu, hy]
  exact h

end Go.Proofs.YtncgeoliboidhaaGreat

namespace Go.Proofs.YtncgeoliboidhaaGreat
open Go.RowKit
set_option linter.unusedSimpArgs false

/-- Whether a list is a polynomial over a field with q elements. -/
def polyB (q : Nat) (zs : List Int) : Bool := decide (zs.length ≤ 512) && (zs.all (elB q) && decide (zs.getLast? ≠ some 0))
/-- The code of a field and some lists. -/
def pErr (p k g : Int) (L : List (List Int)) : Int := if fieldB p k g = true ∧ ∀ zs ∈ L, polyB (sizeI p k).toNat zs = true then 0 else 1

def AllRel (w : World) (p k g : Int) (q n : Nat) (zs : List Int) (i : Value) (wr : World) : Prop :=
  ∃ j : Nat, j ≤ n ∧ i = .int .i64 j ∧ Hid ((zs.take j).all (elB q) = true) ∧ Box w wr 25 p k g

set_option maxHeartbeats 1000000 in
theorem implHasAll {p k g : Int} {q : Nat} {mul : Nat → Nat → Nat} (hK : Kd p k g q mul) (A : Option Addr) (n c B : Nat) (zs : List Int) (w : World) (hI : Ints .i64 w B A n zs) (hB : B ≤ w.heap.size) (hn : n ≤ 1099511627776) :
    Calls Tryz.prog 90 #[.agg #[.int .i64 p, .int .i64 k, .int .i64 g], .slice A n c] w (Gives (.bool (zs.all (elB q))) w) := by
  have HX := hide (Box.start w 25 p k g)
  have HI := hide hI
  have hl := hide hI.len
  clear hI
  go_enter Tryz.func90, Tryz.ntmps90
  go_wp2_with fail
  go_loopw [9] (fun i wr => AllRel w p k g q n zs i wr) (fun i _ => n - (intOf i).toNat)
  case atStart => exact ⟨0, by omega, rfl, by simp [Hid], HX⟩
  case round =>
    clear HX
    obtain ⟨j, hj, rfl, HA, HX⟩ := hrel
    have HX := hide HX
    obtain ⟨c0, c1, c2⟩ := HX.out.cells
    by_cases hlt : j < n
    · obtain ⟨b, off, x, rfl, hb, hx, hc⟩ := (HI.out.below (HX.out.2.mono hB)).at_ hlt
      have hx' := hide hx
      clear hx
      rcases he : elB q x with _ | _
      · have HF := hide (fAll_no hx' he)
        have he' : decide (0 ≤ x ∧ x < (q : Int)) = false := he
        go_wp2_with fail
        refine (implHasF hK x _).mono ?_
        rw [he']
        clear he he'
        rintro e w2 ⟨rfl, hb2⟩
        have HX2 := hide (HX.out.next hb2)
        clear hb2
        go_wp2_with fail
        go_ret
        exact ⟨ret_bool HF, HX2.out.2⟩
      · have HN := hide (all_snoc HA.out hx' he)
        have he' : decide (0 ≤ x ∧ x < (q : Int)) = true := he
        go_wp2_with fail
        refine (implHasF hK x _).mono ?_
        rw [he']
        clear he he'
        rintro e w2 ⟨rfl, hb2⟩
        have HX2 := hide (HX.out.next hb2)
        clear hb2
        go_wp2_with fail
        go_roundw
        case rel => exact ⟨j + 1, by omega, by go_num, HN, HX2⟩
        case measure => simp [intOf]; omega
    · have HF := hide (show zs.all (elB q) = true by
        have h1 := HA.out
        rwa [List.take_of_length_le (by rw [hl.out]; omega)] at h1)
      go_wp2_with fail
      go_ret
      exact ⟨ret_bool HF, HX.out.2⟩

theorem getLast_ex {zs : List Int} {n : Nat} (hl : zs.length = n) (hp : 0 < n) : ∃ x, zs.getLast? = some x := by
  rcases zs with _ | ⟨z, zs⟩
  · simp at hl; omega
  · exact ⟨_, List.getLast?_cons⟩

/-- A slice of slices of integers: it lies in the block b below B, what it holds too. -/
def Rws (w : World) (B b : Nat) (L : List (Option Addr × Nat × Nat × List Int)) : Prop :=
  b < B ∧ ∀ i e, L[i]? = some e → w.cell? ⟨b, i, none⟩ = some (.slice e.1 e.2.1 e.2.2.1) ∧ Ints .i64 w B e.1 e.2.1 e.2.2.2 ∧ e.2.1 ≤ 1099511627776
theorem Rws.below {w w' : World} {B b : Nat} {L : List (Option Addr × Nat × Nat × List Int)} (h : Rws w B b L) (hb : Below B w w') : Rws w' B b L :=
  ⟨h.1, fun i e he => ⟨(hb.cell (p := ⟨b, i, none⟩) h.1).trans (h.2 i e he).1, (h.2 i e he).2.1.below hb, (h.2 i e he).2.2⟩⟩
def lists (L : List (Option Addr × Nat × Nat × List Int)) : List (List Int) := L.map fun e => e.2.2.2

def PeRel (w : World) (p k g : Int) (q n : Nat) (L : List (Option Addr × Nat × Nat × List Int)) (i : Value) (wr : World) : Prop :=
  ∃ j : Nat, j ≤ n ∧ i = .int .i64 j ∧ Hid (∀ e ∈ L.take j, polyB q e.2.2.2 = true) ∧ Box w wr 25 p k g

theorem pErr_no {p k g : Int} {L : List (List Int)} (h : fieldB p k g = false) : pErr p k g L = 1 := by rw [pErr, if_neg]; rw [h]; simp
theorem pErr_bad {p k g : Int} {q : Nat} {mul : Nat → Nat → Nat} {L : List (List Int)} {zs : List Int} (hK : Kd p k g q mul) (hz : zs ∈ L) (hp : polyB q zs = false) : pErr p k g L = 1 := by
  rw [pErr, if_neg]
  rintro ⟨_, h⟩
  have := h zs hz
  rw [hK.size, Int.toNat_natCast, hp] at this
  cases this
theorem pErr_ok {p k g : Int} {q : Nat} {mul : Nat → Nat → Nat} {L : List (List Int)} (hf : fieldB p k g = true) (hK : Kd p k g q mul) (h : ∀ zs ∈ L, polyB q zs = true) : pErr p k g L = 0 := by
  rw [pErr, if_pos]
  rw [hK.size, Int.toNat_natCast]
  exact ⟨hf, h⟩

end Go.Proofs.YtncgeoliboidhaaGreat

namespace Go.Proofs.YtncgeoliboidhaaGreat
open Go.RowKit
set_option linter.unusedSimpArgs false

theorem Box.grown {w wr wr' : World} {t : TypeId} {p k g : Int} {b : Nat} (h : Box w wr t p k g) (hg : wr.grownBy wr' (some b)) (hb : w.heap.size < b) : Box w wr' t p k g :=
  ⟨by rw [hg.block _ h.lt (by simp; omega)]; exact h.1, h.2.grown hg (Nat.le_of_lt h.lt) (fun r hr => by simp only [Option.some.injEq] at hr; omega)⟩
theorem Own.take {w : World} {base g n c m : Nat} {e : TypeId} {k : IntKind} {zs : List Int} (h : Own w base e k (.slice (some ⟨g, 0, none⟩) n c) zs) (hm : m ≤ n) : Own w base e k (.slice (some ⟨g, 0, none⟩) m c) (zs.take m) := by
  have hl := h.len
  rcases h.2 with ⟨h0, _⟩ | ⟨g', cap, cur, hv, hb, hg, hnc, hmx, hs, ht⟩
  · cases h0
  · simp only [Value.slice.injEq, Option.some.injEq, Addr.mk.injEq, and_true] at hv
    obtain ⟨⟨rfl, _⟩, _, rfl⟩ := hv
    refine Own.intro (n := m) ⟨?_, .inr ⟨g, c, cur, rfl, hb, hg, by omega, hmx, hs, ?_⟩⟩ (by rw [List.length_take]; omega) rfl
    · simp; omega
    · rw [Nat.mul_one] at ht ⊢
      rw [List.map_take, ← ht, List.take_take, Nat.min_eq_left (by omega)]

section
variable {R : Fld} {p k g : Int}
def EvRel (w : World) (p k g : Int) (n : Nat) (x : El R) (ps : List (El R)) (v i : Value) (wr : World) : Prop :=
  ∃ (j : Nat) (kk : Int) (y : El R), j ≤ n ∧ kk = (j : Int) - 1 ∧ i = .int .i64 kk ∧ v = .int .i64 (y.val : Nat) ∧ Hid (y = ev x (ps.drop j)) ∧ Box w wr 25 p k g

def TrRel (n c gB : Nat) (ps : List (El R)) (v : Value) : Prop :=
  ∃ m : Nat, m ≤ n ∧ v = .slice (some ⟨gB, 0, none⟩) m c ∧ Hid (trim (ps.take m) = trim ps)
/-- What a shortened list leaves. -/
def Trimmed (base gB c : Nat) (ps : List (El R)) (w : World) (x : Ending) (w' : World) : Prop :=
  x = .returned (.slice (some ⟨gB, 0, none⟩) (trim ps).length c) ∧ Own w base 2 .i64 (.slice (some ⟨gB, 0, none⟩) (trim ps).length c) (iv (trim ps)) ∧ w = w'
theorem Own.trim_ {w : World} {base gB n c m : Nat} {ps : List (El R)} (hO : Own w base 2 .i64 (.slice (some ⟨gB, 0, none⟩) n c) (iv ps)) (hm : m ≤ n) (h : ps.take m = trim ps) :
    Own w base 2 .i64 (.slice (some ⟨gB, 0, none⟩) m c) (iv (trim ps)) := by
  have := hO.take hm
  rw [iv_take, h] at this
  exact this

end

end Go.Proofs.YtncgeoliboidhaaGreat

namespace Go.Proofs.YtncgeoliboidhaaGreat
open Go.RowKit
set_option linter.unusedSimpArgs false

/-- copy into a list that was just made of zeros. -/
theorem wpList_copyZ {P : Program} {w : World} {ops : Array Oper} {rest : List Oper} {o : Oper} {a : Act} {Q : Exit → Act → World → Prop} (hgd : o.guard = none) (d s : Operand) (t : TypeId)
    (ho : o.op = .call { callee := .builtin .copy, args := #[d, s], argTypes := #[t, t] }) {e : TypeId} {k : IntKind} {bytes : Nat} (E : IsElem P t e k bytes)
    (base gB N c : Nat) (ys : List Int) (hd : a.eval d = .slice (some ⟨gB, 0, none⟩) N c) (hO : Own w base e k (.slice (some ⟨gB, 0, none⟩) N c) ys)
    (B : Nat) (A : Option Addr) (m c' : Nat) (zs : List Int) (hs : a.eval s = .slice A m c') (hI : Ints k w B A m zs) (hm : m ≤ N)
    (h : ∀ w', Own w' base e k (.slice (some ⟨gB, 0, none⟩) N c) (zs ++ ys.drop m) → w.grownBy w' (some gB) → wpList P ops Q rest (a.put o.dst (goInt m)) w') : wpList P ops Q (o :: rest) a w := by
  have hsz : (P.info? e).map (·.size) = some 1 := by
    obtain ⟨i, hi, _, h1, _⟩ := info_parts E.info
    rw [hi]; simp [h1]
  have hl := hI.len
  have hyl := hO.len
  rcases Nat.eq_zero_or_pos m with h0 | h0
  · subst h0
    refine wpList_copy_nothing hgd d s t t ho e E.under hsz _ _ N c 0 c' hd hs (by simp) ?_
    have := h w (by obtain rfl := List.eq_nil_of_length_eq_zero hl; simpa using hO) (World.grownBy.refl w _)
    exact this
  · obtain ⟨b, off, rfl, hb, hc⟩ := hI.2 h0
    rcases hO.2 with ⟨hv, _⟩ | ⟨g', cap, cur, hv, hbs, hg, hnc, hmx, hcs, ht⟩
    · cases hv
    · simp only [Value.slice.injEq, Option.some.injEq, Addr.mk.injEq, and_true] at hv
      obtain ⟨⟨rfl, _⟩, _, rfl⟩ := hv
      rw [Nat.mul_one] at hcs ht
      refine wpList_copy_own hgd d s t t ho e E.under hsz gB 0 N c ⟨b, off, none⟩ m c' hd hs cur e hg (zs.map (Value.int k)) (by rw [List.length_map, hl]; exact (Nat.min_eq_left hm).symm) (fun j v hv => by
          rw [List.getElem?_map] at hv
          obtain ⟨x, hx, rfl⟩ := Option.map_eq_some_iff.1 hv
          rw [addr_add]; exact hc j x hx) (by rw [List.length_map, hl]; omega) (ints_oneCell k zs) ?_
      have hgo : (goInt ((zs.map (Value.int k)).length : Nat)) = goInt m := by rw [List.length_map, hl]
      rw [hgo]
      refine h _ ?_ ⟨rfl, rfl, rfl, by simp [World.setRow], fun i hi hne => setRow_other w gB i _ (fun e => hne (by rw [e]))⟩
      refine Own.intro (n := N) (zs := zs ++ ys.drop m) ⟨?_, .inr ⟨gB, c, _, rfl, hbs, setRow_heap w gB cur _ e (0, 0) hg, by omega, hmx, ?_, rfl⟩⟩ (by rw [List.length_append, List.length_drop]; omega) ?_
      · simp; omega
      · simp; omega
      · rw [Nat.mul_one, List.take_zero, List.nil_append, Nat.zero_add, List.length_map, hl, List.take_append, List.length_map, hl, List.take_of_length_le (by rw [List.length_map]; omega), List.map_append]
        congr 1
        rw [← List.drop_take, hyl, ht, List.map_drop]

section
variable {R : Fld} {p k g : Int}
theorem iv_zeros' (n : Nat) : Hid (List.replicate n (0 : Int) = iv (tab n fun _ => (0 : El R))) := iv_zeros n
/-- What a function leaves that returns a new list of elements. -/
def NewP (zs : List (El R)) (w : World) (x : Ending) (w' : World) : Prop :=
  ∃ gB c, x = .returned (.slice (some ⟨gB, 0, none⟩) zs.length c) ∧ Own w' w.heap.size 2 .i64 (.slice (some ⟨gB, 0, none⟩) zs.length c) (iv zs) ∧ w.heap.size < gB ∧ Below w.heap.size w w'
theorem grown_Below {w w1 w2 : World} {b : Nat} (h : Below w.heap.size w w1) (hg : w1.grownBy w2 (some b)) (hb : w.heap.size ≤ b) : Below w.heap.size w w2 :=
  h.grown hg h.size (fun r hr => by simp only [Option.some.injEq] at hr; omega)

/-- The product of what has been taken of the first list. -/
def TmRel (w : World) (p k g : Int) (N n : Nat) (ps qs : List (El R)) (i : Value) (wr : World) : Prop :=
  ∃ j : Nat, j ≤ n ∧ i = .int .i64 j ∧ Own wr (w.heap.size + 1) 2 .i64 (.slice (some ⟨w.heap.size + 1, 0, none⟩) N N) (iv (tab N (mulN (cf ps) (cf qs) j))) ∧ Box w wr 25 p k g

end
end Go.Proofs.YtncgeoliboidhaaGreat

namespace Go.Proofs.YtncgeoliboidhaaGreat
open Go.RowKit
set_option linter.unusedSimpArgs false

section
variable {R : Fld} {p k g : Int}
theorem iv_pad {ps : List (El R)} {n N : Nat} (hn : ps.length = n) (hN : n ≤ N) : iv ps ++ (iv (tab N fun _ => (0 : El R))).drop n = iv (tab N (cf ps)) := by
  refine List.ext_getElem? fun i => ?_
  rcases Nat.lt_or_ge i n with h | h
  · rw [List.getElem?_append_left (by rw [iv_len]; omega), iv_at (by omega), iv_at (by rw [tab_len]; omega), cf_tab, if_pos (by omega)]
  · rw [List.getElem?_append_right (by rw [iv_len]; omega), iv_len, List.getElem?_drop, show n + (i - ps.length) = i by omega]
    rcases Nat.lt_or_ge i N with h1 | h1
    · rw [iv_at (by rw [tab_len]; omega), iv_at (by rw [tab_len]; omega), cf_tab, cf_tab, if_pos h1, if_pos h1, cf_out (by omega)]
    · rw [List.getElem?_eq_none (by rw [iv_len, tab_len]; omega), List.getElem?_eq_none (by rw [iv_len, tab_len]; omega)]

def Pl1 (n m : Nat) (l i : Value) : Prop := ∃ j : Nat, j ≤ 1 ∧ i = .int .i64 j ∧ l = .int .i64 ((if j = 0 then n else max n m : Nat) : Int)
def Pl2 (w : World) (p k g : Int) (N : Nat) (ps qs : List (El R)) (i : Value) (wr : World) : Prop :=
  ∃ j : Nat, j ≤ 1 ∧ i = .int .i64 j ∧ Own wr (w.heap.size + 1) 2 .i64 (.slice (some ⟨w.heap.size + 1, 0, none⟩) N N) (iv (tab N fun i => if j = 0 then cf ps i else cf ps i + up 0 1 (cf qs) i)) ∧ Box w wr 25 p k g

/-- What a division leaves: two new lists. -/
def NewPP (qs rs : List (El R)) (w : World) (x : Ending) (w' : World) : Prop :=
  ∃ vq vr, x = .returned (.tuple #[vq, vr]) ∧ Own w' w.heap.size 2 .i64 vq (iv qs) ∧ Own w' w.heap.size 2 .i64 vr (iv rs) ∧ (vq.ownBlock = none ∨ vq.ownBlock ≠ vr.ownBlock) ∧ Below w.heap.size w w'

def DvRel (w : World) (p k g : Int) (gq n K d : Nat) (ps qs : List (El R)) (v : El R) (i : Value) (wr : World) : Prop :=
  ∃ (j : Nat) (kk : Int) (f t : Nat → El R), j ≤ K ∧ kk = (j : Int) - 1 ∧ i = .int .i64 kk ∧ Hid (dvs (cf qs) d v j f = dvs (cf qs) d v K (cf ps)) ∧ Hid (∀ i, (if i < j then dvq (cf qs) d v j f i else t i) = dvq (cf qs) d v K (cf ps) i) ∧
    Own wr (w.heap.size + 1) 2 .i64 (.slice (some ⟨w.heap.size + 1, 0, none⟩) n n) (iv (tab n f)) ∧ Own wr gq 2 .i64 (.slice (some ⟨gq, 0, none⟩) K K) (iv (tab K t)) ∧ Box w wr 25 p k g

theorem dvq_step {G f t T : Nat → El R} {d i : Nat} {v u : El R} (hu : u = f (i + d)) (h : ∀ l, (if l < i + 1 then dvq G d v (i + 1) f l else t l) = T l) :
    ∀ l, (if l < i then dvq G d v i (fun l => f l + up i (-(u * v)) G l) l else (if l = i then u * v else t l)) = T l := by
  intro l
  have h1 := h l
  subst hu
  by_cases h2 : l < i
  · rw [if_pos h2]
    rw [if_pos (by omega)] at h1
    rw [← h1]
    show _ = if l = i then _ else _
    rw [if_neg (by omega)]
  · rw [if_neg h2]
    by_cases h3 : l = i
    · rw [if_pos h3]
      rw [if_pos (by omega)] at h1
      rw [← h1]
      show _ = if l = i then _ else _
      rw [if_pos h3]
    · rw [if_neg h3]
      rw [if_neg (by omega)] at h1
      exact h1
theorem lastE_is {qs : List (El R)} (hq : 0 < qs.length) : (iv qs).getLast? = some ((lastE qs).val : Int) := by
  rw [List.getLast?_eq_getElem?, iv_len, iv_at (by omega)]; rfl

theorem dvq_out (G : Nat → El R) (d : Nat) (v : El R) : ∀ (K : Nat) (f : Nat → El R) (i : Nat), K ≤ i → dvq G d v K f i = 0
  | 0, _, _, _ => rfl
  | K + 1, f, i, h => by
    show (if i = K then _ else _) = _
    rw [if_neg (by omega)]
    exact dvq_out G d v K _ i (by omega)

end
end Go.Proofs.YtncgeoliboidhaaGreat
