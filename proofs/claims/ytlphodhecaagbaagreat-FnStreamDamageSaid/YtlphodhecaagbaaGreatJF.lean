/-
  The contracts of the laws' own helpers on slices of int64: copy, compare, mark, ask for the marks.
  A valid field keeps the laws of a field; the contracts of sums, products, negatives and inverses of its elements, of the program and of the model.
  Words for memory that a function writes into; the contract of the program's sum of a polynomial and a multiple of another one.
  The contracts of the program's functions that tell whether lists are polynomials, of the last coefficient and of the value.
  The contracts of the program's values, shortened lists, multiples, products and sums of polynomials.
  The contracts of the program's multiples, products and sums of polynomials.
  The contracts of the program's sums and quotients of polynomials.
  Condition: as each statement says.
-/
import Derived.Test.YtlphodhecaagbaaGreatProg
import Derived.Test.YtlphodhecaagbaaGreatJA
import Derived.Deep.QuietTactic
import Derived.BigQuiet
import Derived.Test.YtlphodhecaagbaaGreatJE
import Derived.Test.YtlphodhecaagbaaGreatJB
import Derived.Test.YtlphodhecaagbaaGreatJC
import Derived.Deep.RegionHeld3
import Derived.Deep.RegionLaw
import Derived.Laws.CopyOwn
namespace Go.Proofs.YtlphodhecaagbaaGreat
open Go.RowKit
theorem info64 : (Tryz.prog.info? 2).map (fun i => (i.zero, i.size, i.bytes)) = some (some (.int .i64 0), 1, 8) := by kernel_rfl

theorem elem64 : IsElem Tryz.prog 28 2 .i64 8 := ⟨Tryz.underlying28, info64, by omega⟩
theorem made_own {w1 : World} {base g n : Nat} {e : TypeId} (h : w1.ownsRow base e 1 (.slice (some ⟨g, 0, none⟩) n n) n (madeCells (Value.int .i64 0).cells (n * 1)).toList) :
    Own w1 base e .i64 (.slice (some ⟨g, 0, none⟩) n n) (List.replicate n 0) :=
  Own.intro h (by simp) (by rw [Nat.mul_one]; show (madeCells #[Value.int .i64 0] n).toList = _; rw [toList_madeCells_one, List.map_replicate])

def CopyRel (n : Nat) (zs : List Int) (w : World) (i : Value) (wr : World) : Prop :=
  ∃ k : Nat, k ≤ n ∧ i = .int .i64 k ∧ Own wr w.heap.size 2 .i64 (.slice (some ⟨w.heap.size, 0, none⟩) n n) (zs.take k ++ List.replicate (n - k) 0) ∧ Below w.heap.size w wr

set_option maxHeartbeats 400000 in
theorem toInts (A : Option Addr) (n c : Nat) (zs : List Int) (w : World) (hI : Ints .i64 w w.heap.size A n zs) (hn : n ≤ 1099511627776) :
    Calls Tryz.prog 23 #[.slice A n c] w (NewInts 2 .i64 zs w) := by
  have hl := hide hI.len
  have HI := hide hI
  clear hI
  obtain ⟨i0, hi0, hz0, hz1, hz2⟩ := info_parts info64
  have Hi0 := hide hi0
  have Hz0 := hide hz0
  have Hz1 := hide hz1
  have Hz2 := hide hz2
  clear hi0 hz0 hz1 hz2
  go_enter Tryz.func23, Tryz.ntmps23
  go_wp2_with (refine wpList_make_full _ rfl _ _ _ rfl w.heap.size 2 i0 (.int .i64 0) 1 Tryz.underlying28 Hi0 Hz0 Hz1 .i64 .i64 n n n rfl rfl rfl rfl (by rw [Hz2]; omega) (by unfold maxLen; omega) (Nat.le_refl _) ?_; intro w1 hown0 hgr0)
  have hOwn := hide (made_own hown0)
  have hB := hide ((Below.refl w.heap.size w).grown hgr0 (Nat.le_refl _) (by simp))
  clear hown0 hgr0
  go_wp2
  go_loopw [4] (fun i wr => CopyRel n zs w i wr) (fun i _ => n - (intOf i).toNat)
  case atStart => exact ⟨0, by omega, rfl, by simpa using hOwn.out, hB⟩
  case round =>
    clear hOwn hB w1
    obtain ⟨k, hk, rfl, hOwn, hB⟩ := hrel
    have HO := hide hOwn
    have HB := hide hB
    clear hOwn hB
    by_cases hlt : k < n
    · obtain ⟨b, off, x, rfl, hb, hx, hc⟩ := (HI.out.below HB).at_ hlt
      have HX := hide hx
      clear hx
      have hc2 : wr.cell? ⟨w.heap.size, k, none⟩ = some (.int .i64 0) := HO.out.cellAt (by
        rw [List.getElem?_append_right (by rw [List.length_take]; omega), List.length_take, show k - min k zs.length = 0 by rw [hl]; omega, List.getElem?_replicate, if_pos (by omega)])
      have hf2 : wr.frozen? ⟨w.heap.size, k, none⟩ = false := HO.out.frozenAt k
      go_wp2
      go_roundw
      case rel =>
        refine ⟨k + 1, by omega, by go_num, ?_, HB.out.setCell (Nat.le_refl _) _⟩
        have := (HO.out.stored k x).1
        rw [show n - k = (n - (k + 1)) + 1 by omega, List.replicate_succ, set_snoc HX] at this
        exact this
      case measure => simp [intOf]; omega
    · have HE := hide (show n = k by omega)
      go_wp2
      go_ret
      have hz : zs.take k ++ List.replicate (n - k) 0 = zs := by
        rw [List.take_of_length_le (by rw [hl]; omega), show n - k = 0 by omega]; simp
      rw [hz] at HO
      have hl' : n = zs.length := hl.out.symm
      subst hl'
      exact ⟨_, _, rfl, Nat.le_refl _, HO, HB⟩

/-- Whether two lists are the same. -/
def sameI (a b : List Int) : Bool := decide (a = b)
theorem sameI_refl (a : List Int) : sameI a a = true := by simp [sameI]
theorem sameI_len {a b : List Int} (h : a.length ≠ b.length) : sameI a b = false := by
  simp only [sameI, decide_eq_false_iff_not]; intro e; exact h (by rw [e])
theorem sameI_at {a b : List Int} {k : Nat} {x y : Int} (hx : a[k]? = some x) (hy : b[k]? = some y) (h : x ≠ y) : sameI a b = false := by
  simp only [sameI, decide_eq_false_iff_not]; intro e; subst e; rw [hx] at hy; exact h (by injection hy)
theorem sameI_yes {a b : List Int} {n : Nat} (ha : a.length = n) (hb : b.length = n) (h : a.take n = b.take n) : sameI a b = true := by
  rw [List.take_of_length_le (by omega), List.take_of_length_le (by omega)] at h
  simp only [sameI, decide_eq_true_eq]; exact h
theorem take_same {a b : List Int} {k : Nat} {x : Int} (h : a.take k = b.take k) (hx : a[k]? = some x) (hy : b[k]? = some x) : a.take (k + 1) = b.take (k + 1) := by
  rw [List.take_add_one, List.take_add_one, h, hx, hy]

/-- What a function leaves that returns a bool and at most draws. -/
def Tells (v : Value) (w : World) (x : Ending) (w' : World) : Prop := x = .returned v ∧ ∃ m, w' = w.drewN m
def EqRel (n : Nat) (za zb : List Int) (w : World) (i : Value) (wr : World) : Prop :=
  ∃ k : Nat, k ≤ n ∧ i = .int .i64 k ∧ za.take k = zb.take k ∧ ∃ m, wr = w.drewN m

set_option maxHeartbeats 400000 in
theorem eqInts (A : Option Addr) (n c B : Nat) (za : List Int) (A' : Option Addr) (n' c' B' : Nat) (zb : List Int) (w : World) (hI : Ints .i64 w B A n za) (hJ : Ints .i64 w B' A' n' zb) (hn : n ≤ 1099511627776) (hn' : n' ≤ 1099511627776) :
    Calls Tryz.prog 24 #[.slice A n c, .slice A' n' c'] w (Tells (.bool (sameI za zb)) w) := by
  have hl := hide hI.len
  have hl' := hide hJ.len
  have HI := hide hI
  have HJ := hide hJ
  clear hI hJ
  by_cases hne : n = n'
  · subst hne
    go_enter Tryz.func24, Tryz.ntmps24
    go_wp2
    go_loopw [5] (fun i wr => EqRel n za zb w i wr) (fun i _ => n - (intOf i).toNat)
    case atStart => exact ⟨0, by omega, rfl, by simp, 0, rfl⟩
    case round =>
      obtain ⟨k, hk, rfl, htake, m, rfl⟩ := hrel
      have HT := hide htake
      clear htake
      by_cases hlt : k < n
      · obtain ⟨b, off, x, rfl, hb, hx, hc⟩ := HI.out.at_ hlt
        obtain ⟨b', off', y, rfl, hb', hy, hc'⟩ := HJ.out.at_ hlt
        have HX := hide hx
        have HY := hide hy
        clear hx hy
        have z1 : (k : Int) < (n : Int) := by omega
        have z0 : (0 : Int) ≤ (k : Int) := by omega
        by_cases hxy : x = y
        · subst hxy
          go_wp2
          go_quiet (fail)
          go_wp2
          go_roundw
          case rel => exact ⟨k + 1, by omega, by go_num, take_same HT HX HY, _, rfl⟩
          case measure => simp [intOf]; omega
        · have HN := hide (sameI_at HX HY hxy)
          have e0 : (x != y) = true := by simpa using hxy
          go_wp2
          go_quiet (fail)
          go_wp2
          go_ret
          exact ⟨ret_bool HN, _, World.drewN_drewN _ _ _⟩
      · have HH := hide (sameI_yes hl hl' (show za.take n = zb.take n by rw [show n = k by omega]; exact HT))
        go_wp2
        go_ret
        exact ⟨ret_bool HH, m, rfl⟩
  · have HN := hide (sameI_len (a := za) (b := zb) (by rw [hl.out, hl'.out]; exact hne))
    have e0 : ((n : Int) != (n' : Int)) = true := by simp; omega
    go_enter Tryz.func24, Tryz.ntmps24
    go_wp2
    go_ret
    exact ⟨ret_bool HN, 0, rfl⟩

/-- The marks that the laws write: n numbers from k on. -/
def marks (k n : Nat) : List Int := (List.range n).map (fun i : Nat => (k : Int) + (i : Int))
theorem marks_len (k n : Nat) : (marks k n).length = n := by simp [marks]
theorem marks_at {k n j : Nat} (h : j < n) : (marks k n)[j]? = some ((k : Int) + (j : Int)) := by simp [marks, h]

def MarkRel (base k0 n : Nat) (zs : List Int) (v : Value) (w : World) (kk i : Value) (wr : World) : Prop :=
  ∃ j : Nat, j ≤ n ∧ i = .int .i64 j ∧ kk = .int .i64 ((k0 : Int) + (j : Int)) ∧ Own wr base 2 .i64 v ((marks k0 n).take j ++ zs.drop j) ∧ w.grownBy wr v.ownBlock

def Marked (base k0 n : Nat) (v : Value) (w : World) (x : Ending) (w' : World) : Prop :=
  x = .returned (.int .i64 ((k0 : Int) + (n : Int))) ∧ Own w' base 2 .i64 v (marks k0 n) ∧ w.grownBy w' v.ownBlock

set_option maxHeartbeats 400000 in
theorem markInts (A : Option Addr) (n c base k0 : Nat) (zs : List Int) (w : World) (hO : Own w base 2 .i64 (.slice A n c) zs) (hn : n ≤ 1099511627776) (hk0 : k0 ≤ 1099511627776) :
    Calls Tryz.prog 25 #[.slice A n c, .int .i64 (k0 : Int)] w (Marked base k0 n (.slice A n c) w) := by
  have hl := hide hO.len
  have HI := hide hO
  clear hO
  go_enter Tryz.func25, Tryz.ntmps25
  go_wp2
  go_loopw [1, 5] (fun kk i wr => MarkRel base k0 n zs (.slice A n c) w kk i wr) (fun _ i _ => n - (intOf i).toNat)
  case atStart => exact ⟨0, by omega, rfl, by simp, by simpa using HI.out, World.grownBy.refl _ _⟩
  case round =>
    obtain ⟨j, hj, rfl, rfl, hOwn, hgr⟩ := hrel
    have HO := hide hOwn
    have HG := hide hgr
    clear hOwn hgr
    by_cases hlt : j < n
    · obtain ⟨g, c', hv, hg1, hg2, hg3⟩ := HO.out.some_ (by simp [marks_len, ← hl.out]; omega)
      simp only [Value.slice.injEq] at hv
      obtain ⟨rfl, hv1, hv2⟩ := hv
      clear hv1 hv2 hg1 hg2 hg3
      have hj2 : j < zs.length := by rw [← hl.out]; exact hlt
      have HJ := hide hj2
      have HD := hide (List.drop_eq_getElem_cons hj2)
      generalize zs[j] = y at HD
      have hc2 : wr.cell? ⟨g, j, none⟩ = some (.int .i64 y) := HO.out.cellAt (by
        rw [HD.out, List.getElem?_append_right (by rw [List.length_take]; omega), List.length_take, marks_len, show j - min j n = 0 by omega]
        rfl)
      clear hj2
      have hf2 : wr.frozen? ⟨g, j, none⟩ = false := HO.out.frozenAt j
      go_wp2
      go_roundw
      case rel =>
        refine ⟨j + 1, by omega, by go_num, by go_num, ?_, grown_trans HG (HO.out.stored j _).2⟩
        have := (HO.out.stored j ((k0 : Int) + (j : Int))).1
        rw [HD.out, set_snoc (marks_at hlt)] at this
        exact this
      case measure => simp [intOf]; omega
    · have HE := hide (show n = j by omega)
      go_wp2
      go_ret
      have hz : (marks k0 n).take j ++ zs.drop j = marks k0 n := by
        rw [List.take_of_length_le (by rw [marks_len]; omega), List.drop_of_length_le (by rw [← hl.out]; omega), List.append_nil]
      rw [hz] at HO
      exact ⟨ret_int (by rw [HE.out]), HO, HG⟩

set_option maxHeartbeats 400000 in
theorem heldInts (A : Option Addr) (n c B k0 : Nat) (w : World) (hI : Ints .i64 w B A n (marks k0 n)) (hn : n ≤ 1099511627776) (hk0 : k0 ≤ 1099511627776) :
    Calls Tryz.prog 26 #[.slice A n c, .int .i64 (k0 : Int)] w fun e w' => e = .returned (.int .i64 ((k0 : Int) + (n : Int))) ∧ w = w' := by
  have HI := hide hI
  clear hI
  go_enter Tryz.func26, Tryz.ntmps26
  go_wp2
  go_loop [1, 5] (fun kk i => ∃ j : Nat, j ≤ n ∧ i = .int .i64 j ∧ kk = .int .i64 ((k0 : Int) + (j : Int))) (fun _ i => n - (intOf i).toNat)
  case atStart => exact ⟨0, by omega, rfl, by simp⟩
  case round =>
    obtain ⟨j, hj, rfl, rfl⟩ := hrel
    by_cases hlt : j < n
    · obtain ⟨b, off, x, rfl, hb, hx, hc⟩ := HI.out.at_ hlt
      rw [marks_at hlt] at hx
      obtain rfl : ((k0 : Int) + (j : Int)) = x := by injection hx
      clear hx
      go_wp2
      go_round
      case rel => exact ⟨j + 1, by omega, by go_num, by go_num⟩
      case measure => simp [intOf]; omega
    · have HE := hide (show n = j by omega)
      go_wp2
      go_ret
      exact ⟨ret_int (by rw [HE.out]), rfl⟩
end Go.Proofs.YtlphodhecaagbaaGreat

namespace Go.Proofs.YtlphodhecaagbaaGreat
open Go.RowKit

/-- The field with these numbers. -/
structure FldIs (R : Fld) (p k g : Int) : Prop where
  kind : Kd p k g R.q R.mul
  gen : ∃ γ, γ < R.q ∧ gen R.q R.mul γ = true ∧ ((p ≠ 2 ∧ k = 1 ∧ g = γ) ∨ (p = 2 ∧ 3 ≤ k ∧ γ = 2))
  add : R.add = addF p R.q
  neg : R.neg = negF p R.q
  inv : R.inv = fun a => pw R.mul a (R.q - 2)

theorem addF_1 {q : Nat} (h3 : 3 ≤ q) (a b : Nat) : addF q q a b = (a + b) % q := by rw [addF, if_neg (by omega)]
theorem negF_1' {q : Nat} (h3 : 3 ≤ q) (a : Nat) : negF q q a = (q - a) % q := by rw [negF, if_neg (by omega)]

theorem fld_ex {p k g : Int} (h : fieldB p k g = true) : ∃ R : Fld, FldIs R p k g := by
  obtain ⟨q, mul, γ, hK, h1, h2, h3, h4⟩ := fieldB_open h
  have M := hK.mon
  have hg : ∃ γ, γ < q ∧ Go.Proofs.YtlphodhecaagbaaGreat.gen q mul γ = true ∧ ((p ≠ 2 ∧ k = 1 ∧ g = γ) ∨ (p = 2 ∧ 3 ≤ k ∧ γ = 2)) := ⟨γ, h2, h3, h4⟩
  have hinv : ∀ a, a < q → a ≠ 0 → mul a (pw mul a (q - 2)) = 1 := fun a ha h0 => inv_mul M h2 h3 ha h0
  have hclo : ∀ a, a < q → pw mul a (q - 2) < q := fun a ha => pw_lt M ha _
  have hK' := hK
  cases hK with
  | one _ _ hq3 hq =>
    refine ⟨⟨q, addF q q, negF q q, mul1 q, fun a => pw (mul1 q) a (q - 2), hq3, ?_, ?_, M.clo, hclo, ?_, ?_, ?_, ?_, M.comm, M.assoc, fun a ha => mul_one M ha, ?_, hinv⟩, ⟨hK', hg, rfl, rfl, rfl⟩⟩
    · intro a b _ _; rw [addF_1 hq3]; exact Nat.mod_lt _ (by omega)
    · intro a _; rw [negF_1' hq3]; exact Nat.mod_lt _ (by omega)
    · intro a b _ _; rw [addF_1 hq3, addF_1 hq3, Nat.add_comm]
    · intro a b c _ _ _; rw [addF_1 hq3, addF_1 hq3, addF_1 hq3, addF_1 hq3, Nat.mod_add_mod, Nat.add_mod_mod, Nat.add_assoc]
    · intro a ha; rw [addF_1 hq3]; exact Nat.mod_eq_of_lt ha
    · intro a ha
      rw [addF_1 hq3, negF_1' hq3, Nat.add_mod_mod, show a + (q - a) = q by omega, Nat.mod_self]
    · intro a b c _ _ _
      rw [addF_1 hq3, addF_1 hq3]; unfold mul1
      rw [Nat.mul_mod_mod, ← Nat.add_mod, Nat.mul_add]
  | two K G hk3 hk8 hG hG2 =>
    have e2 : ∀ a b, addF 2 (2 ^ K) a b = a ^^^ b := fun a b => by rw [addF, if_pos rfl]
    have e3 : ∀ a, negF 2 (2 ^ K) a = a := fun a => by rw [negF, if_pos rfl]
    refine ⟨⟨2 ^ K, addF 2 (2 ^ K), negF 2 (2 ^ K), mul2 K G, fun a => pw (mul2 K G) a (2 ^ K - 2), M.three, ?_, ?_, M.clo, hclo, ?_, ?_, ?_, ?_, M.comm, M.assoc, fun a ha => mul_one M ha, ?_, hinv⟩, ⟨hK', hg, rfl, rfl, rfl⟩⟩
    · intro a b ha hb; rw [e2]; exact Nat.xor_lt_two_pow ha hb
    · intro a ha; rw [e3]; exact ha
    · intro a b _ _; rw [e2, e2, Nat.xor_comm]
    · intro a b c _ _ _; simp only [e2, Nat.xor_assoc]
    · intro a _; rw [e2, Nat.xor_zero]
    · intro a _; rw [e2, e3, Nat.xor_self]
    · intro a b c ha hb hc; rw [e2, e2]; exact mul2_xor a b c ha hb hc

section
variable {R : Fld} {p k g : Int} (h : FldIs R p k g)
include h
theorem FldIs.le : R.q ≤ 1021 := h.kind.big.2
theorem FldIs.bd (a : El R) : a.val < 1021 := by have := a.lt; have := h.le; omega
theorem implSumE (a b : El R) (w : World) :
    Calls Tryz.prog 105 #[.agg #[.int .i64 p, .int .i64 k, .int .i64 g], .int .i64 a.val, .int .i64 b.val] w (Gives (.int .i64 ((a + b).val : Nat)) w) := by
  rw [val_add, h.add]; exact implSum h.kind _ _ a.lt b.lt w
theorem implProdE (a b : El R) (w : World) :
    Calls Tryz.prog 121 #[.agg #[.int .i64 p, .int .i64 k, .int .i64 g], .int .i64 a.val, .int .i64 b.val] w (Gives (.int .i64 ((a * b).val : Nat)) w) :=
  implProd h.kind _ _ a.lt b.lt w
theorem implNegE (a : El R) (w : World) :
    Calls Tryz.prog 91 #[.agg #[.int .i64 p, .int .i64 k, .int .i64 g], .int .i64 a.val] w (Gives (.int .i64 ((-a).val : Nat)) w) := by
  rw [val_neg, h.neg]; exact implNegative h.kind _ a.lt w
theorem implInvE (a : El R) (w : World) :
    Calls Tryz.prog 119 #[.agg #[.int .i64 p, .int .i64 k, .int .i64 g], .int .i64 a.val] w (Gives (.int .i64 (a.inv.val : Nat)) w) := by
  obtain ⟨γ, h1, h2, h3⟩ := h.gen
  rw [val_inv, h.inv]; exact implInverse h.kind h1 h2 h3 _ a.lt w
theorem specAddE (a b : El R) (w : World) :
    Calls Tryz.prog 112 #[.agg #[.int .i64 p, .int .i64 k, .int .i64 g], .int .i64 a.val, .int .i64 b.val] w (Gives (.int .i64 ((a + b).val : Nat)) w) := by
  rw [val_add, h.add]; exact specAdd0 h.kind _ _ a.lt b.lt w
theorem specMulE (a b : El R) (w : World) :
    Calls Tryz.prog 96 #[.agg #[.int .i64 p, .int .i64 k, .int .i64 g], .int .i64 a.val, .int .i64 b.val] w (Gives (.int .i64 ((a * b).val : Nat)) w) :=
  specMul0 h.kind _ _ a.lt b.lt w
theorem specNegE (a : El R) (w : World) :
    Calls Tryz.prog 85 #[.agg #[.int .i64 p, .int .i64 k, .int .i64 g], .int .i64 a.val] w (Gives (.int .i64 ((-a).val : Nat)) w) := by
  rw [val_neg, h.neg]; exact specNeg0 h.kind _ a.lt w
theorem specInvE (a : El R) (w : World) :
    Calls Tryz.prog 114 #[.agg #[.int .i64 p, .int .i64 k, .int .i64 g], .int .i64 a.val] w (Gives (.int .i64 (a.inv.val : Nat)) w) := by
  rw [val_inv, h.inv]; exact specInverse h.kind _ a.lt w
end

/-- The numbers of elements. -/
def iv {R : Fld} (ps : List (El R)) : List Int := ps.map fun x => (x.val : Int)
section
variable {R : Fld}
theorem iv_len (ps : List (El R)) : (iv ps).length = ps.length := by simp [iv]
theorem iv_at {ps : List (El R)} {i : Nat} (hi : i < ps.length) : (iv ps)[i]? = some ((cf ps i).val : Int) := by
  rw [iv, List.getElem?_map, at_cf hi]; rfl
theorem iv_set (ps : List (El R)) (j : Nat) (x : El R) : (iv ps).set j (x.val : Int) = iv (ps.set j x) := by simp [iv, List.map_set]
theorem iv_app (ps qs : List (El R)) : iv (ps ++ qs) = iv ps ++ iv qs := by simp [iv]
theorem iv_one (x : El R) : iv [x] = [(x.val : Int)] := rfl
theorem iv_take (ps : List (El R)) (n : Nat) : (iv ps).take n = iv (ps.take n) := by simp [iv]
theorem iv_zeros (n : Nat) : List.replicate n (0 : Int) = iv (tab n fun _ => (0 : El R)) := by
  unfold iv tab
  rw [List.map_map]
  refine List.ext_getElem? fun i => ?_
  rcases Nat.lt_or_ge i n with h | h
  · rw [List.getElem?_replicate, if_pos h]; simp [h, val_zero]
  · rw [List.getElem?_eq_none (by simpa using h), List.getElem?_eq_none (by simpa using h)]
theorem iv_inj {ps qs : List (El R)} (h : iv ps = iv qs) : ps = qs := by
  have hl : ps.length = qs.length := by rw [← iv_len, h, iv_len]
  refine List.ext_getElem? fun i => ?_
  rcases Nat.lt_or_ge i ps.length with hi | hi
  · have h1 := iv_at hi
    rw [h, iv_at (by omega)] at h1
    rw [at_cf hi, at_cf (by omega)]
    simp only [Option.some.injEq] at h1
    exact congrArg some (El.eq (by omega)).symm
  · rw [List.getElem?_eq_none hi, List.getElem?_eq_none (by omega)]
/-- A list of elements is one of numbers below the size. -/
theorem iv_of {zs : List Int} (h : zs.all (elB R.q) = true) : ∃ ps : List (El R), zs = iv ps := by
  rw [List.all_eq_true] at h
  induction zs with
  | nil => exact ⟨[], rfl⟩
  | cons z zs ih =>
    obtain ⟨ps, hp⟩ := ih fun x hx => h x (List.mem_cons_of_mem _ hx)
    have hz := h z (List.mem_cons_self ..)
    simp only [elB, decide_eq_true_eq] at hz
    refine ⟨⟨z.toNat, by omega⟩ :: ps, ?_⟩
    show _ = ((z.toNat : Nat) : Int) :: iv ps
    rw [← hp]; congr 1; omega
theorem iv_all (ps : List (El R)) : (iv ps).all (elB R.q) = true := by
  rw [List.all_eq_true]
  intro x hx
  obtain ⟨a, _, rfl⟩ := List.mem_map.1 hx
  simp only [elB, decide_eq_true_eq]
  have := a.lt
  omega
end
end Go.Proofs.YtlphodhecaagbaaGreat

namespace Go.Proofs.YtlphodhecaagbaaGreat
open Go.RowKit
set_option linter.unusedSimpArgs false

theorem elemP : IsElem Tryz.prog 121 2 .i64 8 := ⟨Tryz.underlying121, info64, by omega⟩

theorem Ints.grown {k : IntKind} {w w' : World} {B n : Nat} {A : Option Addr} {zs : List Int} {row : Option Nat} (h : Ints k w B A n zs) (hg : w.grownBy w' row) (hB : B ≤ w.heap.size) (hr : ∀ r, row = some r → B ≤ r) : Ints k w' B A n zs :=
  h.keep fun b o hb => grown_cell (p := ⟨b, o, none⟩) hg (show b < _ by omega) (fun e => by have := hr _ e; simp only at this; omega)
theorem grown_below' {a w w' : World} {row : Option Nat} {B : Nat} (h : a.grownBy w row) (hb : Below B w w') (hB : a.heap.size ≤ B) : a.grownBy w' row :=
  ⟨hb.os.trans h.os, hb.tape.trans h.tape, hb.output.trans h.output, Nat.le_trans h.size hb.size, fun i hi hne => (hb.block i (by omega)).trans (h.block i hi hne)⟩
theorem set_grown (w : World) (g j : Nat) (u : Value) : w.grownBy (w.setCell ⟨g, j, none⟩ u) (some g) :=
  ⟨rfl, rfl, rfl, by simp [World.setCell], fun i _ hne => Below.heap_setCell w ⟨g, j, none⟩ u i (fun e => hne (by simp [e]))⟩
theorem grown_set' {a w : World} {g : Nat} (h : a.grownBy w (some g)) (j : Nat) (u : Value) : a.grownBy (w.setCell ⟨g, j, none⟩ u) (some g) :=
  grown_trans h (set_grown w g j u)
/-- The struct that a call was given lies in the first block that it made; of the blocks before it at most one was written. -/
def Bx (w wr : World) (t : TypeId) (p k g : Int) (row : Option Nat) : Prop :=
  wr.heap[w.heap.size]? = some (.cells #[.int .i64 p, .int .i64 k, .int .i64 g] t (0, 0)) ∧ w.grownBy wr row
section
variable {w wr wr' : World} {t : TypeId} {p k g : Int} {row : Option Nat}
theorem Bx.start (w : World) (t : TypeId) (p k g : Int) (row : Option Nat) : Bx w (w.alloc (.cells #[.int .i64 p, .int .i64 k, .int .i64 g] t)) t p k g row :=
  ⟨heap_alloc_new w _, World.grownBy_alloc w _ _⟩
theorem Bx.lt (h : Bx w wr t p k g row) : w.heap.size < wr.heap.size := (Array.getElem?_eq_some_iff.1 h.1).1
theorem Bx.next (h : Bx w wr t p k g row) (hb : Below wr.heap.size wr wr') : Bx w wr' t p k g row :=
  ⟨by rw [hb.block _ h.lt]; exact h.1, grown_below' h.2 hb (Nat.le_of_lt h.lt)⟩
theorem Bx.drew (h : Bx w wr t p k g row) : Bx w wr.drew t p k g row := ⟨h.1, ⟨h.2.os, h.2.tape, h.2.output, h.2.size, h.2.block⟩⟩
theorem Bx.cells (h : Bx w wr t p k g row) : wr.cell? ⟨w.heap.size, 0, none⟩ = some (.int .i64 p) ∧ wr.cell? ⟨w.heap.size, 1, none⟩ = some (.int .i64 k) ∧ wr.cell? ⟨w.heap.size, 2, none⟩ = some (.int .i64 g) := cells3 h.1
theorem Bx.set {b : Nat} (h : Bx w wr t p k g (some b)) (hb : b ≠ w.heap.size) (j : Nat) (u : Value) : Bx w (wr.setCell ⟨b, j, none⟩ u) t p k g (some b) :=
  ⟨by rw [(set_grown wr b j u).block _ h.lt (by simpa using Ne.symm hb)]; exact h.1, grown_set' h.2 j u⟩
end

section
variable {R : Fld}
/-- One more coefficient is added. -/
theorem add_snoc {n s j : Nat} {a : El R} {f : Nat → El R} {qs : List (El R)} :
    (tab n fun i => f i + up s a (cf (qs.take j)) i).set (s + j) (f (s + j) + a * cf qs j) = tab n fun i => f i + up s a (cf (qs.take (j + 1))) i := by
  rw [tab_set]
  refine tab_congr fun i _ => ?_
  have hc : ∀ m l : Nat, cf (qs.take m) l = if l < m then cf qs l else 0 := fun m l => by
    unfold cf; simp only [List.getD_eq_getElem?_getD, List.getElem?_take]; split <;> simp
  by_cases hi : i = s + j
  · subst hi; rw [if_pos rfl, up_add, hc, if_pos (by omega)]
  · rw [if_neg hi]
    unfold up; split
    · rw [hc, hc]
      by_cases hl : i - s < j
      · rw [if_pos hl, if_pos (by omega)]
      · rw [if_neg hl, if_neg (by omega)]
    · rfl
theorem add_at {n s j : Nat} {a : El R} {f : Nat → El R} {qs : List (El R)} (hn : s + j < n) :
    (tab n fun i => f i + up s a (cf (qs.take j)) i)[s + j]? = some (f (s + j)) := by
  rw [tab_at _ hn, up_add, cf_out (by rw [List.length_take]; omega), em0, ea0]
theorem add_none {n s : Nat} {a : El R} {f : Nat → El R} {qs : List (El R)} : tab n f = tab n fun i => f i + up s a (cf (qs.take 0)) i := by
  refine tab_congr fun i _ => ?_
  have : up s a (cf (qs.take 0)) i = 0 := by unfold up; split; rw [show cf (qs.take 0) (i - s) = 0 from cf_out (by simp), em0]; rfl
  rw [this, ea0]
end

def AmRel {R : Fld} (w : World) (p k g : Int) (base n c gB s m : Nat) (a : El R) (f : Nat → El R) (qs : List (El R)) (i : Value) (wr : World) : Prop :=
  ∃ j : Nat, j ≤ m ∧ i = .int .i64 j ∧ Own wr base 2 .i64 (.slice (some ⟨gB, 0, none⟩) n c) (iv (tab n fun i => f i + up s a (cf (qs.take j)) i)) ∧ Bx w wr 25 p k g (some gB)

/-- What is left when a multiple has been added in its place. -/
def Added {R : Fld} (base n c gB s : Nat) (a : El R) (f : Nat → El R) (qs : List (El R)) (w : World) (x : Ending) (w' : World) : Prop :=
  x = .returned (.tuple #[]) ∧ Own w' base 2 .i64 (.slice (some ⟨gB, 0, none⟩) n c) (iv (tab n fun i => f i + up s a (cf qs) i)) ∧ w.grownBy w' (some gB)

theorem am_next {R : Fld} {base n c gB s j t : Nat} {a u y : El R} {f : Nat → El R} {qs : List (El R)} {w3 : World} (ht : t = s + j) (hu : u = f (s + j)) (hy : y = cf qs j)
    (hO : Own w3 base 2 .i64 (.slice (some ⟨gB, 0, none⟩) n c) (iv (tab n fun i => f i + up s a (cf (qs.take j)) i))) :
    Own (w3.setCell ⟨gB, t, none⟩ (.int .i64 ((u + a * y).val : Nat))) base 2 .i64 (.slice (some ⟨gB, 0, none⟩) n c) (iv (tab n fun i => f i + up s a (cf (qs.take (j + 1))) i)) := by
  have h := (hO.stored t ((u + a * y).val : Nat)).1
  rw [iv_set, ht, hu, hy, add_snoc] at h
  rw [ht, hu, hy]
  exact h

set_option maxHeartbeats 2000000 in
theorem implAddMul {R : Fld} {p k g : Int} (h : FldIs R p k g) (a : El R) (s n c gB base : Nat) (f : Nat → El R) (qs : List (El R)) (A : Option Addr) (m cq B : Nat) (w : World)
    (hO : Own w base 2 .i64 (.slice (some ⟨gB, 0, none⟩) n c) (iv (tab n f))) (hI : Ints .i64 w B A m (iv qs)) (hB : B ≤ gB) (hsm : m = 0 ∨ s + m ≤ n) (hs : s ≤ 1099511627776) (hn : n ≤ 1099511627776) :
    Calls Tryz.prog 122 #[.slice (some ⟨gB, 0, none⟩) n c, .agg #[.int .i64 p, .int .i64 k, .int .i64 g], .int .i64 a.val, .int .i64 s, .slice A m cq] w (Added base n c gB s a f qs w) := by
  have hgl : gB < w.heap.size := (hO.lt (g := gB) rfl).2
  have hm : qs.length = m := by rw [← iv_len]; exact hI.len
  have HI := hide hI
  have HX := hide (Bx.start w 25 p k g (some gB))
  have HO := hide (hO.alloc (.cells #[.int .i64 p, .int .i64 k, .int .i64 g] 25))
  clear hI hO
  go_enter Tryz.func122, Tryz.ntmps122
  go_wp2_with fail
  go_loopw [14] (fun i wr => AmRel w p k g base n c gB s m a f qs i wr) (fun i _ => m - (intOf i).toNat)
  case atStart => exact ⟨0, by omega, rfl, by rw [← add_none]; exact HO, HX⟩
  case round =>
    clear HX HO
    obtain ⟨j, hj, rfl, HO, HX⟩ := hrel
    have HX := hide HX
    have HO := hide HO
    by_cases hlt : j < m
    · obtain ⟨b, off, x, rfl, hb, hx, hc⟩ := (HI.out.grown HX.out.2 (by omega) (fun r hr => by simp only [Option.some.injEq] at hr; omega)).at_ hlt
      rw [iv_at (by omega)] at hx
      simp only [Option.some.injEq] at hx
      subst hx
      obtain ⟨y, hy⟩ : ∃ y, y = cf qs j := ⟨_, rfl⟩
      rw [← hy] at hc
      have HY := hide hy
      clear hy
      obtain ⟨c0, c1, c2⟩ := HX.out.cells
      have hcx := HO.out.cellAt (j := s + j) (x := ((f (s + j)).val : Int)) (by rw [iv, List.getElem?_map, add_at (by omega)]; rfl)
      have hfx := HO.out.frozenAt (s + j)
      obtain ⟨t, ht⟩ : ∃ t, t = s + j := ⟨_, rfl⟩
      obtain ⟨u, hu⟩ : ∃ u, u = f (s + j) := ⟨_, rfl⟩
      rw [← hu, ← ht] at hcx
      rw [← ht] at hfx
      have htn : t < n := by omega
      have HT := hide ht
      have HU := hide hu
      have HC := hide (And.intro c0 (And.intro c1 (And.intro c2 hfx)))
      have hw1 : IntKind.i64.wrap ((s : Int) + (j : Int)) = (t : Int) := by rw [IntWalk.i64_in _ ⟨by omega, by omega⟩]; omega
      clear hu ht c0 c1 c2 hfx
      have hne : gB ≠ w.heap.size := by omega
      have HNE := hide hne
      clear hne
      go_wp2_with fail
      obtain ⟨d0, d1, d2, hfx⟩ := HC.out
      go_region_law (first
          | (go_simp; go_at_call 121; refine (implProdE h a y _).mono ?_; rintro e w2 ⟨rfl, hb2⟩; have HX2 := hide (HX.out.drew.next hb2); have HO2 := hide (HO.out.drew.below hb2 (Nat.le_refl _)); obtain ⟨e0, e1, e2⟩ := HX2.out.cells; have hfx2 := HO2.out.frozenAt t; have hcx2 := (hb2.cell (p := ⟨gB, t, none⟩) (show gB < _ from Nat.lt_trans hgl HX.out.lt)).trans hcx; clear hb2)
          | (go_simp; go_at_call 105; refine (implSumE h u (a * y) _).mono ?_; rintro e w3 ⟨rfl, hb3⟩; have HX3 := hide (HX2.out.next hb3); have HO3 := hide (HO2.out.below hb3 (Nat.le_refl _)); have hfx3 := HO3.out.frozenAt t; have hcx3 := (hb3.cell (p := ⟨gB, t, none⟩) (show gB < _ from Nat.lt_trans hgl HX2.out.lt)).trans hcx2; clear hb3))
      all_goals
        go_wp2_with fail
        go_roundw
        case rel => exact ⟨j + 1, by omega, by go_num, am_next HT HU HY HO3, HX3.out.set HNE.out t _⟩
        case measure => simp [intOf]; omega
    · obtain rfl : j = m := by omega
      go_wp2_with fail
      go_end0
      exact ⟨rfl, by rw [List.take_of_length_le (by omega)] at HO; exact HO, HX.out.2⟩
end Go.Proofs.YtlphodhecaagbaaGreat

namespace Go.Proofs.YtlphodhecaagbaaGreat
open Go.RowKit
set_option linter.unusedSimpArgs false

/-- Whether a list is a polynomial over a field with q elements. -/
def polyB (q : Nat) (zs : List Int) : Bool := decide (zs.length ≤ 512) && (zs.all (elB q) && decide (zs.getLast? ≠ some 0))
/-- The code of a field and some lists. -/
def pErr (p k g : Int) (L : List (List Int)) : Int := if fieldB p k g = true ∧ ∀ zs ∈ L, polyB (sizeI p k).toNat zs = true then 0 else 1

def AllRel (w : World) (p k g : Int) (q n : Nat) (zs : List Int) (i : Value) (wr : World) : Prop :=
  ∃ j : Nat, j ≤ n ∧ i = .int .i64 j ∧ Hid ((zs.take j).all (elB q) = true) ∧ Box w wr 25 p k g

set_option maxHeartbeats 1000000 in
theorem implHasAll {p k g : Int} {q : Nat} {mul : Nat → Nat → Nat} (hK : Kd p k g q mul) (A : Option Addr) (n c B : Nat) (zs : List Int) (w : World) (hI : Ints .i64 w B A n zs) (hB : B ≤ w.heap.size) (hn : n ≤ 1099511627776) :
    Calls Tryz.prog 61 #[.agg #[.int .i64 p, .int .i64 k, .int .i64 g], .slice A n c] w (Gives (.bool (zs.all (elB q))) w) := by
  have HX := hide (Box.start w 25 p k g)
  have HI := hide hI
  have hl := hide hI.len
  clear hI
  go_enter Tryz.func61, Tryz.ntmps61
  go_wp2_with fail
  go_loopw [9] (fun i wr => AllRel w p k g q n zs i wr) (fun i _ => n - (intOf i).toNat)
  case atStart => exact ⟨0, by omega, rfl, by simp [Hid], HX⟩
  case round =>
    clear HX
    obtain ⟨j, hj, rfl, HA, HX⟩ := hrel
    have HX := hide HX
    obtain ⟨c0, c1, c2⟩ := HX.out.cells
    by_cases hlt : j < n
    · obtain ⟨b, off, x, rfl, hb, hx, hc⟩ := (HI.out.below (HX.out.2.mono hB)).at_ hlt
      have hx' := hide hx
      clear hx
      rcases he : elB q x with _ | _
      · have HF := hide (all_no hx' he)
        have he' : decide (0 ≤ x ∧ x < (q : Int)) = false := he
        go_wp2_with fail
        refine (implHas hK x _).mono ?_
        rw [he']
        clear he he'
        rintro e w2 ⟨rfl, hb2⟩
        have HX2 := hide (HX.out.next hb2)
        clear hb2
        go_wp2_with fail
        go_ret
        exact ⟨ret_bool HF, HX2.out.2⟩
      · have HN := hide (all_snoc HA.out hx' he)
        have he' : decide (0 ≤ x ∧ x < (q : Int)) = true := he
        go_wp2_with fail
        refine (implHas hK x _).mono ?_
        rw [he']
        clear he he'
        rintro e w2 ⟨rfl, hb2⟩
        have HX2 := hide (HX.out.next hb2)
        clear hb2
        go_wp2_with fail
        go_roundw
        case rel => exact ⟨j + 1, by omega, by go_num, HN, HX2⟩
        case measure => simp [intOf]; omega
    · have HF := hide (show zs.all (elB q) = true by
        have h1 := HA.out
        rwa [List.take_of_length_le (by rw [hl.out]; omega)] at h1)
      go_wp2_with fail
      go_ret
      exact ⟨ret_bool HF, HX.out.2⟩

theorem implLast (A : Option Addr) (n c B : Nat) (zs : List Int) (x : Int) (w : World) (hI : Ints .i64 w B A n zs) (hx : zs.getLast? = some x) (hn : n ≤ 1099511627776) :
    Calls Tryz.prog 120 #[.slice A n c] w fun e w' => e = .returned (.int .i64 x) ∧ w = w' := by
  have hl := hI.len
  have hp : 0 < n := by
    rcases zs with _ | ⟨z, zs⟩
    · cases hx
    · simp at hl; omega
  obtain ⟨m, rfl⟩ : ∃ m, n = m + 1 := ⟨n - 1, by omega⟩
  obtain ⟨b, off, y, rfl, hb, hy, hc⟩ := hI.at_ (j := m) (by omega)
  have e : y = x := by
    rw [List.getLast?_eq_getElem?, hl, show m + 1 - 1 = m by omega, hy] at hx
    simpa using hx
  subst e
  have hw1 : ((m + 1 : Nat) : Int) - 1 = (m : Int) := by omega
  clear hI hx hy hl
  go_enter Tryz.func120, Tryz.ntmps120
  go_wp2
  go_ret
  exact ⟨rfl, rfl⟩

theorem getLast_ex {zs : List Int} {n : Nat} (hl : zs.length = n) (hp : 0 < n) : ∃ x, zs.getLast? = some x := by
  rcases zs with _ | ⟨z, zs⟩
  · simp at hl; omega
  · exact ⟨_, List.getLast?_cons⟩

/-- A slice of slices of integers: it lies in the block b below B, what it holds too. -/
def Rws (w : World) (B b : Nat) (L : List (Option Addr × Nat × Nat × List Int)) : Prop :=
  b < B ∧ ∀ i e, L[i]? = some e → w.cell? ⟨b, i, none⟩ = some (.slice e.1 e.2.1 e.2.2.1) ∧ Ints .i64 w B e.1 e.2.1 e.2.2.2 ∧ e.2.1 ≤ 1099511627776
theorem Rws.below {w w' : World} {B b : Nat} {L : List (Option Addr × Nat × Nat × List Int)} (h : Rws w B b L) (hb : Below B w w') : Rws w' B b L :=
  ⟨h.1, fun i e he => ⟨(hb.cell (p := ⟨b, i, none⟩) h.1).trans (h.2 i e he).1, (h.2 i e he).2.1.below hb, (h.2 i e he).2.2⟩⟩
def lists (L : List (Option Addr × Nat × Nat × List Int)) : List (List Int) := L.map fun e => e.2.2.2

def PeRel (w : World) (p k g : Int) (q n : Nat) (L : List (Option Addr × Nat × Nat × List Int)) (i : Value) (wr : World) : Prop :=
  ∃ j : Nat, j ≤ n ∧ i = .int .i64 j ∧ Hid (∀ e ∈ L.take j, polyB q e.2.2.2 = true) ∧ Box w wr 25 p k g

theorem pErr_no {p k g : Int} {L : List (List Int)} (h : fieldB p k g = false) : pErr p k g L = 1 := by rw [pErr, if_neg]; rw [h]; simp
theorem pErr_bad {p k g : Int} {q : Nat} {mul : Nat → Nat → Nat} {L : List (List Int)} {zs : List Int} (hK : Kd p k g q mul) (hz : zs ∈ L) (hp : polyB q zs = false) : pErr p k g L = 1 := by
  rw [pErr, if_neg]
  rintro ⟨_, h⟩
  have := h zs hz
  rw [hK.size, Int.toNat_natCast, hp] at this
  cases this
theorem pErr_ok {p k g : Int} {q : Nat} {mul : Nat → Nat → Nat} {L : List (List Int)} (hf : fieldB p k g = true) (hK : Kd p k g q mul) (h : ∀ zs ∈ L, polyB q zs = true) : pErr p k g L = 0 := by
  rw [pErr, if_pos]
  rw [hK.size, Int.toNat_natCast]
  exact ⟨hf, h⟩

end Go.Proofs.YtlphodhecaagbaaGreat

namespace Go.Proofs.YtlphodhecaagbaaGreat
open Go.RowKit
set_option linter.unusedSimpArgs false

theorem Box.grown {w wr wr' : World} {t : TypeId} {p k g : Int} {b : Nat} (h : Box w wr t p k g) (hg : wr.grownBy wr' (some b)) (hb : w.heap.size < b) : Box w wr' t p k g :=
  ⟨by rw [hg.block _ h.lt (by simp; omega)]; exact h.1, h.2.grown hg (Nat.le_of_lt h.lt) (fun r hr => by simp only [Option.some.injEq] at hr; omega)⟩
theorem Own.take {w : World} {base g n c m : Nat} {e : TypeId} {k : IntKind} {zs : List Int} (h : Own w base e k (.slice (some ⟨g, 0, none⟩) n c) zs) (hm : m ≤ n) : Own w base e k (.slice (some ⟨g, 0, none⟩) m c) (zs.take m) := by
  have hl := h.len
  rcases h.2 with ⟨h0, _⟩ | ⟨g', cap, cur, hv, hb, hg, hnc, hmx, hs, ht⟩
  · cases h0
  · simp only [Value.slice.injEq, Option.some.injEq, Addr.mk.injEq, and_true] at hv
    obtain ⟨⟨rfl, _⟩, _, rfl⟩ := hv
    refine Own.intro (n := m) ⟨?_, .inr ⟨g, c, cur, rfl, hb, hg, by omega, hmx, hs, ?_⟩⟩ (by rw [List.length_take]; omega) rfl
    · simp; omega
    · rw [Nat.mul_one] at ht ⊢
      rw [List.map_take, ← ht, List.take_take, Nat.min_eq_left (by omega)]

section
variable {R : Fld} {p k g : Int}
def EvRel (w : World) (p k g : Int) (n : Nat) (x : El R) (ps : List (El R)) (v i : Value) (wr : World) : Prop :=
  ∃ (j : Nat) (kk : Int) (y : El R), j ≤ n ∧ kk = (j : Int) - 1 ∧ i = .int .i64 kk ∧ v = .int .i64 (y.val : Nat) ∧ Hid (y = ev x (ps.drop j)) ∧ Box w wr 25 p k g

set_option maxHeartbeats 1000000 in
theorem implValueAt (h : FldIs R p k g) (x : El R) (ps : List (El R)) (A : Option Addr) (n c B : Nat) (w : World) (hI : Ints .i64 w B A n (iv ps)) (hB : B ≤ w.heap.size) (hn : n ≤ 1099511627776) :
    Calls Tryz.prog 128 #[.slice A n c, .agg #[.int .i64 p, .int .i64 k, .int .i64 g], .int .i64 x.val] w (Gives (.int .i64 ((ev x ps).val : Nat)) w) := by
  have HX := hide (Box.start w 25 p k g)
  have HI := hide hI
  have hl : ps.length = n := by rw [← iv_len]; exact hI.len
  clear hI
  go_enter Tryz.func128, Tryz.ntmps128
  go_wp2_with fail
  go_loopw [7, 8] (fun v i wr => EvRel w p k g n x ps v i wr) (fun _ i _ => (intOf i + 1).toNat)
  case atStart => exact ⟨n, _, 0, Nat.le_refl _, rfl, rfl, rfl, by rw [List.drop_of_length_le (by omega)]; rfl, HX⟩
  case round =>
    clear HX
    obtain ⟨j, kk, y, hj, hkk, rfl, rfl, HY, HX⟩ := hrel
    have HX := hide HX
    by_cases hj0 : j = 0
    · subst hj0
      obtain rfl : kk = -1 := by omega
      have HF := hide (show (((ev x ps).val : Nat) : Int) = (y.val : Int) by rw [HY.out]; rfl)
      clear hkk
      go_wp2_with fail
      go_ret
      exact ⟨ret_int HF, HX.out.2⟩
    · obtain ⟨i, rfl⟩ : ∃ i, j = i + 1 := ⟨j - 1, by omega⟩
      obtain rfl : kk = (i : Int) := by omega
      clear hkk
      have hin : i < n := by omega
      obtain ⟨b, off, z, rfl, hb, hz, hc⟩ := (HI.out.below (HX.out.2.mono hB)).at_ hin
      rw [iv_at (by omega)] at hz
      simp only [Option.some.injEq] at hz
      subst hz
      obtain ⟨u, hu⟩ : ∃ u, u = cf ps i := ⟨_, rfl⟩
      rw [← hu] at hc
      have HN := hide (show y * x + u = ev x (ps.drop i) by rw [ev_drop (by omega), ← HY.out, hu])
      have hbl : b < wr.heap.size := Nat.lt_of_lt_of_le hb (Nat.le_trans hB (Nat.le_of_lt HX.out.lt))
      have HC := hide hc
      clear hu hc
      go_wp2_with fail
      go_region_held3 (fun w' => w'.cell? ⟨w.heap.size, 0, none⟩ = some (.int .i64 p) ∧ w'.cell? ⟨w.heap.size, 1, none⟩ = some (.int .i64 k) ∧ w'.cell? ⟨w.heap.size, 2, none⟩ = some (.int .i64 g) ∧ w'.cell? ⟨b, off + i, none⟩ = some (.int .i64 (u.val : Int)))
        (first
          | exact ⟨HX.out.drew.cells.1, HX.out.drew.cells.2.1, HX.out.drew.cells.2.2, HC.out⟩
          | exact ⟨HX2.out.cells.1, HX2.out.cells.2.1, HX2.out.cells.2.2, HC2.out⟩
          | exact ⟨HX3.out.cells.1, HX3.out.cells.2.1, HX3.out.cells.2.2, HC3.out⟩)
        (first
          | (go_at_call 121; refine (implProdE h y x _).mono ?_; rintro e w2 ⟨rfl, hb2⟩; have HX2 := hide (HX.out.drew.next hb2); have HC2 := hide ((hb2.cell (p := ⟨b, off + i, none⟩) hbl).trans HC.out); have hbl2 : b < w2.heap.size := Nat.lt_of_lt_of_le hbl hb2.size; clear hb2)
          | (go_at_call 105; refine (implSumE h (y * x) u _).mono ?_; rintro e w3 ⟨rfl, hb3⟩; have HX3 := hide (HX2.out.next hb3); have HC3 := hide ((hb3.cell (p := ⟨b, off + i, none⟩) hbl2).trans HC2.out); clear hb3))
      go_wp2_with fail
      go_roundw
      case rel => exact ⟨i, _, y * x + u, by omega, rfl, rfl, rfl, HN, HX3⟩
      case measure => simp [intOf]

def TrRel (n c gB : Nat) (ps : List (El R)) (v : Value) : Prop :=
  ∃ m : Nat, m ≤ n ∧ v = .slice (some ⟨gB, 0, none⟩) m c ∧ Hid (trim (ps.take m) = trim ps)
/-- What a shortened list leaves. -/
def Trimmed (base gB c : Nat) (ps : List (El R)) (w : World) (x : Ending) (w' : World) : Prop :=
  x = .returned (.slice (some ⟨gB, 0, none⟩) (trim ps).length c) ∧ Own w base 2 .i64 (.slice (some ⟨gB, 0, none⟩) (trim ps).length c) (iv (trim ps)) ∧ w = w'
theorem Own.trim_ {w : World} {base gB n c m : Nat} {ps : List (El R)} (hO : Own w base 2 .i64 (.slice (some ⟨gB, 0, none⟩) n c) (iv ps)) (hm : m ≤ n) (h : ps.take m = trim ps) :
    Own w base 2 .i64 (.slice (some ⟨gB, 0, none⟩) m c) (iv (trim ps)) := by
  have := hO.take hm
  rw [iv_take, h] at this
  exact this

set_option maxHeartbeats 1000000 in
theorem implTrimmed (ps : List (El R)) (gB n c base : Nat) (w : World) (hO : Own w base 2 .i64 (.slice (some ⟨gB, 0, none⟩) n c) (iv ps)) (hn : n ≤ 1099511627776) :
    Calls Tryz.prog 118 #[.slice (some ⟨gB, 0, none⟩) n c] w (Trimmed base gB c ps w) := by
  have hl : ps.length = n := by have := hO.len; rw [iv_len] at this; omega
  have hcap : n ≤ c := by
    obtain ⟨A, c', h1, h2⟩ := hO.form
    simp only [Value.slice.injEq] at h1
    rw [iv_len] at h2
    omega
  have HO := hide hO
  clear hO
  go_enter Tryz.func118, Tryz.ntmps118
  go_wp2_with fail
  go_loop [0] (fun v => TrRel n c gB ps v) (fun v => match v with | .slice _ m _ => m | _ => 0)
  case atStart => exact ⟨n, Nat.le_refl _, rfl, by rw [List.take_of_length_le (by omega)]; rfl⟩
  case round =>
    obtain ⟨m, hm, rfl, HT⟩ := hrel
    rcases Nat.eq_zero_or_pos m with rfl | hp
    · have HF := hide (show ps.take 0 = trim ps by rw [← HT.out]; rfl)
      have HW := hide (HO.out.trim_ (Nat.zero_le _) HF.out)
      have HZ := hide (show (trim ps).length = 0 by rw [← HF.out]; rfl)
      go_wp2_with fail
      go_ret
      exact ⟨by rw [HZ.out]; rfl, by rw [HZ.out]; exact HW, rfl⟩
    · obtain ⟨i, rfl⟩ : ∃ i, m = i + 1 := ⟨m - 1, by omega⟩
      have hw1 : ((i + 1 : Nat) : Int) - 1 = (i : Int) := by omega
      have hsn : ps.take (i + 1) = ps.take i ++ [cf ps i] := by rw [List.take_add_one, at_cf (by omega)]; rfl
      have HL := hide (show (iv (ps.take (i + 1))).getLast? = some ((cf ps i).val : Int) by rw [hsn, iv_app, iv_one]; simp)
      have HI := hide (show Ints .i64 w w.heap.size (some ⟨gB, 0, none⟩) (i + 1) (iv (ps.take (i + 1))) by
        have h1 := HO.out.take hm
        rw [iv_take] at h1
        have h2 := h1.ints
        rwa [iv_len, List.length_take, Nat.min_eq_left (by omega)] at h2)
      by_cases hz : cf ps i = 0
      · have HN := hide (show trim (ps.take i) = trim ps by rw [← HT.out, hsn, hz, trim_zero])
        rw [hz] at HL
        clear hsn hz
        go_wp2_with fail
        refine (implLast (some ⟨gB, 0, none⟩) (i + 1) c w.heap.size _ _ _ HI.out HL.out (by omega)).mono ?_
        rintro e w1 ⟨rfl, rfl⟩
        go_wp2_with fail
        go_round
        case rel => exact ⟨i, by omega, rfl, HN⟩
        case measure => simp
      · have HF := hide (show ps.take (i + 1) = trim ps by rw [← HT.out, hsn, trim_more _ hz])
        have HW := hide (HO.out.trim_ hm HF.out)
        have HZ := hide (show (trim ps).length = i + 1 by rw [← HF.out, List.length_take]; omega)
        have hv : ((((cf ps i).val : Nat) : Int) == 0) = false := by have := val_ne hz; simp; omega
        clear hsn hz
        go_wp2_with fail
        refine (implLast (some ⟨gB, 0, none⟩) (i + 1) c w.heap.size _ _ _ HI.out HL.out (by omega)).mono ?_
        rintro e w1 ⟨rfl, rfl⟩
        go_wp2_with fail
        go_ret
        exact ⟨by rw [HZ.out]; rfl, by rw [HZ.out]; exact HW, rfl⟩
end

theorem implPlen {R : Fld} (ps qs : List (El R)) (A A' : Option Addr) (n m c c' : Nat) (w : World) (hp : ps.length = n) (hq : qs.length = m) (hn : n ≤ 1099511627776) (hm : m ≤ 1099511627776) :
    Calls Tryz.prog 133 #[.slice A n c, .slice A' m c'] w fun e w' => e = .returned (.int .i64 (plen ps qs : Nat)) ∧ w = w' := by
  rcases Nat.eq_zero_or_pos n with h0 | h0
  · rw [plen_0 (by omega)]
    subst h0
    go_enter Tryz.func133, Tryz.ntmps133
    go_wp2
    go_ret
    exact ⟨rfl, rfl⟩
  · have e0 : ((n : Int) == 0) = false := by simp; omega
    rcases Nat.eq_zero_or_pos m with h1 | h1
    · rw [plen_0 (by omega)]
      subst h1
      go_enter Tryz.func133, Tryz.ntmps133
      go_wp2
      go_ret
      exact ⟨rfl, rfl⟩
    · have e1 : ((m : Int) == 0) = false := by simp; omega
      have HF := hide (show ((plen ps qs : Nat) : Int) = (n : Int) + (m : Int) - 1 by rw [plen_1 (by omega) (by omega)]; omega)
      go_enter Tryz.func133, Tryz.ntmps133
      go_wp2
      go_ret
      exact ⟨ret_int HF, rfl⟩
end Go.Proofs.YtlphodhecaagbaaGreat

namespace Go.Proofs.YtlphodhecaagbaaGreat
open Go.RowKit
set_option linter.unusedSimpArgs false

/-- copy into a list that was just made of zeros. -/
theorem wpList_copyZ {P : Program} {w : World} {ops : Array Oper} {rest : List Oper} {o : Oper} {a : Act} {Q : Exit → Act → World → Prop} (hgd : o.guard = none) (d s : Operand) (t : TypeId)
    (ho : o.op = .call { callee := .builtin .copy, args := #[d, s], argTypes := #[t, t] }) {e : TypeId} {k : IntKind} {bytes : Nat} (E : IsElem P t e k bytes)
    (base gB N c : Nat) (ys : List Int) (hd : a.eval d = .slice (some ⟨gB, 0, none⟩) N c) (hO : Own w base e k (.slice (some ⟨gB, 0, none⟩) N c) ys)
    (B : Nat) (A : Option Addr) (m c' : Nat) (zs : List Int) (hs : a.eval s = .slice A m c') (hI : Ints k w B A m zs) (hm : m ≤ N)
    (h : ∀ w', Own w' base e k (.slice (some ⟨gB, 0, none⟩) N c) (zs ++ ys.drop m) → w.grownBy w' (some gB) → wpList P ops Q rest (a.put o.dst (goInt m)) w') : wpList P ops Q (o :: rest) a w := by
  have hsz : (P.info? e).map (·.size) = some 1 := by
    obtain ⟨i, hi, _, h1, _⟩ := info_parts E.info
    rw [hi]; simp [h1]
  have hl := hI.len
  have hyl := hO.len
  rcases Nat.eq_zero_or_pos m with h0 | h0
  · subst h0
    refine wpList_copy_nothing hgd d s t t ho e E.under hsz _ _ N c 0 c' hd hs (by simp) ?_
    have := h w (by obtain rfl := List.eq_nil_of_length_eq_zero hl; simpa using hO) (World.grownBy.refl w _)
    exact this
  · obtain ⟨b, off, rfl, hb, hc⟩ := hI.2 h0
    rcases hO.2 with ⟨hv, _⟩ | ⟨g', cap, cur, hv, hbs, hg, hnc, hmx, hcs, ht⟩
    · cases hv
    · simp only [Value.slice.injEq, Option.some.injEq, Addr.mk.injEq, and_true] at hv
      obtain ⟨⟨rfl, _⟩, _, rfl⟩ := hv
      rw [Nat.mul_one] at hcs ht
      refine wpList_copy_own hgd d s t t ho e E.under hsz gB 0 N c ⟨b, off, none⟩ m c' hd hs cur e hg (zs.map (Value.int k)) (by rw [List.length_map, hl]; exact (Nat.min_eq_left hm).symm) (fun j v hv => by
          rw [List.getElem?_map] at hv
          obtain ⟨x, hx, rfl⟩ := Option.map_eq_some_iff.1 hv
          rw [addr_add]; exact hc j x hx) (by rw [List.length_map, hl]; omega) (ints_oneCell k zs) ?_
      have hgo : (goInt ((zs.map (Value.int k)).length : Nat)) = goInt m := by rw [List.length_map, hl]
      rw [hgo]
      refine h _ ?_ ⟨rfl, rfl, rfl, by simp [World.setRow], fun i hi hne => setRow_other w gB i _ (fun e => hne (by rw [e]))⟩
      refine Own.intro (n := N) (zs := zs ++ ys.drop m) ⟨?_, .inr ⟨gB, c, _, rfl, hbs, setRow_heap w gB cur _ e (0, 0) hg, by omega, hmx, ?_, rfl⟩⟩ (by rw [List.length_append, List.length_drop]; omega) ?_
      · simp; omega
      · simp; omega
      · rw [Nat.mul_one, List.take_zero, List.nil_append, Nat.zero_add, List.length_map, hl, List.take_append, List.length_map, hl, List.take_of_length_le (by rw [List.length_map]; omega), List.map_append]
        congr 1
        rw [← List.drop_take, hyl, ht, List.map_drop]

section
variable {R : Fld} {p k g : Int}
theorem iv_zeros' (n : Nat) : Hid (List.replicate n (0 : Int) = iv (tab n fun _ => (0 : El R))) := iv_zeros n
/-- What a function leaves that returns a new list of elements. -/
def NewP (zs : List (El R)) (w : World) (x : Ending) (w' : World) : Prop :=
  ∃ gB c, x = .returned (.slice (some ⟨gB, 0, none⟩) zs.length c) ∧ Own w' w.heap.size 2 .i64 (.slice (some ⟨gB, 0, none⟩) zs.length c) (iv zs) ∧ w.heap.size < gB ∧ Below w.heap.size w w'
theorem grown_Below {w w1 w2 : World} {b : Nat} (h : Below w.heap.size w w1) (hg : w1.grownBy w2 (some b)) (hb : w.heap.size ≤ b) : Below w.heap.size w w2 :=
  h.grown hg h.size (fun r hr => by simp only [Option.some.injEq] at hr; omega)

set_option maxHeartbeats 1000000 in
theorem implScaled (h : FldIs R p k g) (a : El R) (ps : List (El R)) (A : Option Addr) (n c B : Nat) (w : World) (hI : Ints .i64 w B A n (iv ps)) (hB : B ≤ w.heap.size) (hn : n ≤ 549755813888) :
    Calls Tryz.prog 131 #[.slice A n c, .agg #[.int .i64 p, .int .i64 k, .int .i64 g], .int .i64 a.val] w (NewP (trim (tab n fun i => a * cf ps i)) w) := by
  have HX := hide (Box.start w 25 p k g)
  have HI := hide hI
  clear hI
  go_enter Tryz.func131, Tryz.ntmps131
  go_wp2_with (refine wpList_mkN _ rfl (.tmp 9) (.tmp 9) 121 rfl elemP .i64 .i64 _ _ n rfl rfl rfl rfl (by omega) fun w1 h1 h2 => ?_; have HX1 := hide (HX.out.next h2); rw [alloc_size, iv_zeros (R := R)] at h1; have HO1 := hide h1; obtain ⟨c0, c1, c2⟩ := HX1.out.cells; clear h1 h2)
  have HI1 := hide (HI.out.below (HX1.out.2.mono hB))
  refine (implAddMul h a 0 n n (w.heap.size + 1) _ (fun _ => 0) ps A n c B _ HO1.out HI1.out (by omega) (by omega) (by omega) (by omega)).mono ?_
  rintro e w2 ⟨rfl, hO2, hg⟩
  have HO2 := hide hO2
  have HX2 := hide (HX1.out.grown hg (by omega))
  clear hO2 hg c0 c1 c2
  go_wp2_with fail
  refine (implTrimmed _ (w.heap.size + 1) n n _ _ HO2.out (by omega)).mono ?_
  rintro e w3 ⟨rfl, hO3, rfl⟩
  have e1 : (tab n fun i => (0 : El R) + up 0 a (cf ps) i) = tab n fun i => a * cf ps i := tab_congr fun i _ => by
    rw [e0a]; unfold up; rw [if_pos (Nat.zero_le _)]; rfl
  rw [e1] at hO3 ⊢
  have HO3 := hide hO3
  clear hO3
  go_wp2_with fail
  go_ret
  exact ⟨w.heap.size + 1, n, rfl, HO3.out.low (by omega), by omega, HX2.out.2⟩

/-- The product of what has been taken of the first list. -/
def TmRel (w : World) (p k g : Int) (N n : Nat) (ps qs : List (El R)) (i : Value) (wr : World) : Prop :=
  ∃ j : Nat, j ≤ n ∧ i = .int .i64 j ∧ Own wr (w.heap.size + 1) 2 .i64 (.slice (some ⟨w.heap.size + 1, 0, none⟩) N N) (iv (tab N (mulN (cf ps) (cf qs) j))) ∧ Box w wr 25 p k g

set_option maxHeartbeats 1000000 in
theorem implTimes (h : FldIs R p k g) (ps qs : List (El R)) (A A' : Option Addr) (n c m c' B : Nat) (w : World) (hI : Ints .i64 w B A n (iv ps)) (hJ : Ints .i64 w B A' m (iv qs)) (hB : B ≤ w.heap.size) (hn : n ≤ 549755813888) (hm : m ≤ 549755813888) :
    Calls Tryz.prog 102 #[.slice A n c, .agg #[.int .i64 p, .int .i64 k, .int .i64 g], .slice A' m c'] w (NewP (mulP ps qs) w) := by
  have HX := hide (Box.start w 25 p k g)
  have hpn : ps.length = n := by rw [← iv_len]; exact hI.len
  have hqm : qs.length = m := by rw [← iv_len]; exact hJ.len
  have HI := hide hI
  have HJ := hide hJ
  clear hI hJ
  obtain ⟨N, hN⟩ : ∃ N, plen ps qs = N := ⟨_, rfl⟩
  have hNb : N ≤ 1099511627776 := by rw [← hN]; unfold plen; split <;> omega
  have hN1 : m = 0 ∨ n = 0 ∨ N = n + m - 1 := by rw [← hN]; unfold plen; split <;> omega
  have HN := hide hN
  clear hN
  go_enter Tryz.func102, Tryz.ntmps102
  go_wp2_with fail
  refine (implPlen ps qs A A' n m c c' _ hpn hqm (by omega) (by omega)).mono ?_
  rw [HN.out]
  rintro e w0 ⟨rfl, rfl⟩
  go_wp2_with (refine wpList_mkN _ rfl (.tmp 12) (.tmp 12) 121 rfl elemP .i64 .i64 _ _ N rfl rfl rfl rfl (by omega) fun w1 h1 h2 => ?_; have HX1 := hide (HX.out.next h2); rw [alloc_size, iv_zeros (R := R)] at h1; have HO1 := hide h1; clear h1 h2)
  go_loopw [16] (fun i wr => TmRel w p k g N n ps qs i wr) (fun i _ => n - (intOf i).toNat)
  case atStart => exact ⟨0, by omega, rfl, HO1.out, HX1.out⟩
  case round =>
    clear HX1 HO1
    obtain ⟨j, hj, rfl, HO, HX⟩ := hrel
    have HX := hide HX
    have HO := hide HO
    by_cases hlt : j < n
    · obtain ⟨b, off, x, rfl, hb, hx, hc⟩ := (HI.out.below (HX.out.2.mono hB)).at_ hlt
      rw [iv_at (by omega)] at hx
      simp only [Option.some.injEq] at hx
      subst hx
      obtain ⟨y, hy⟩ : ∃ y, y = cf ps j := ⟨_, rfl⟩
      rw [← hy] at hc
      have HY := hide hy
      clear hy
      have HJ1 := hide (HJ.out.below (HX.out.2.mono hB))
      obtain ⟨c0, c1, c2⟩ := HX.out.cells
      go_wp2_with fail
      refine (implAddMul h y j N N (w.heap.size + 1) _ _ qs A' m c' B _ HO.out HJ1.out (by omega) (by omega) (by omega) (by omega)).mono ?_
      rintro e w2 ⟨rfl, hO2, hg⟩
      have HO2 := hide hO2
      have HX2 := hide (HX.out.grown hg (by omega))
      clear hO2 hg c0 c1 c2
      go_wp2_with fail
      go_roundw
      case rel => exact ⟨j + 1, by omega, by go_num, by have := HO2.out; rw [HY.out] at this; exact this, HX2⟩
      case measure => simp [intOf]; omega
    · obtain rfl : j = n := by omega
      have HP := hide (show tab N (mulN (cf ps) (cf qs) j) = mulP ps qs by rw [mulP, HN.out, hpn])
      have HL := hide (show (mulP ps qs).length = N by rw [mulP, tab_len, HN.out])
      go_wp2_with fail
      go_ret
      exact ⟨w.heap.size + 1, N, by rw [HL.out]; rfl, by rw [HL.out, ← HP.out]; exact HO.out.low (by omega), by omega, HX.out.2⟩
end
end Go.Proofs.YtlphodhecaagbaaGreat

namespace Go.Proofs.YtlphodhecaagbaaGreat
open Go.RowKit
set_option linter.unusedSimpArgs false

section
variable {R : Fld} {p k g : Int}
theorem iv_pad {ps : List (El R)} {n N : Nat} (hn : ps.length = n) (hN : n ≤ N) : iv ps ++ (iv (tab N fun _ => (0 : El R))).drop n = iv (tab N (cf ps)) := by
  refine List.ext_getElem? fun i => ?_
  rcases Nat.lt_or_ge i n with h | h
  · rw [List.getElem?_append_left (by rw [iv_len]; omega), iv_at (by omega), iv_at (by rw [tab_len]; omega), cf_tab, if_pos (by omega)]
  · rw [List.getElem?_append_right (by rw [iv_len]; omega), iv_len, List.getElem?_drop, show n + (i - ps.length) = i by omega]
    rcases Nat.lt_or_ge i N with h1 | h1
    · rw [iv_at (by rw [tab_len]; omega), iv_at (by rw [tab_len]; omega), cf_tab, cf_tab, if_pos h1, if_pos h1, cf_out (by omega)]
    · rw [List.getElem?_eq_none (by rw [iv_len, tab_len]; omega), List.getElem?_eq_none (by rw [iv_len, tab_len]; omega)]

def Pl1 (n m : Nat) (l i : Value) : Prop := ∃ j : Nat, j ≤ 1 ∧ i = .int .i64 j ∧ l = .int .i64 ((if j = 0 then n else max n m : Nat) : Int)
def Pl2 (w : World) (p k g : Int) (N : Nat) (ps qs : List (El R)) (i : Value) (wr : World) : Prop :=
  ∃ j : Nat, j ≤ 1 ∧ i = .int .i64 j ∧ Own wr (w.heap.size + 1) 2 .i64 (.slice (some ⟨w.heap.size + 1, 0, none⟩) N N) (iv (tab N fun i => if j = 0 then cf ps i else cf ps i + up 0 1 (cf qs) i)) ∧ Box w wr 25 p k g

set_option maxHeartbeats 2000000 in
theorem implPlus (h : FldIs R p k g) (ps qs : List (El R)) (A A' : Option Addr) (n c m c' B b : Nat) (w : World) (hI : Ints .i64 w B A n (iv ps)) (hJ : Ints .i64 w B A' m (iv qs)) (hb : b < w.heap.size) (hc : w.cell? ⟨b, 0, none⟩ = some (.slice A' m c')) (hB : B ≤ w.heap.size) (hn : n ≤ 549755813888) (hm : m ≤ 549755813888) :
    Calls Tryz.prog 130 #[.slice A n c, .agg #[.int .i64 p, .int .i64 k, .int .i64 g], .slice (some ⟨b, 0, none⟩) 1 1] w (NewP (addP ps qs) w) := by
  have HX := hide (Box.start w 25 p k g)
  have hpn : ps.length = n := by rw [← iv_len]; exact hI.len
  have hqm : qs.length = m := by rw [← iv_len]; exact hJ.len
  have HI := hide hI
  have HJ := hide hJ
  have HC := hide hc
  have hca := ((Below.refl w.heap.size w).alloc (Nat.le_refl _) (.cells #[.int .i64 p, .int .i64 k, .int .i64 g] 25)).cell (p := ⟨b, 0, none⟩) hb |>.trans hc
  clear hI hJ hc
  go_enter Tryz.func130, Tryz.ntmps130
  go_wp2_with fail
  go_loop [7, 17] (fun l i => Pl1 n m l i) (fun _ i => 1 - (intOf i).toNat)
  case atStart => exact ⟨0, by omega, rfl, rfl⟩
  case round =>
    obtain ⟨j, hj, rfl, rfl⟩ := hrel
    by_cases h0 : j = 0
    · subst h0
      rw [if_pos rfl]
      go_wp2_with fail
      go_round
      case rel => exact ⟨1, by omega, by go_num, by rw [if_neg (by decide)]; congr 1; omega⟩
      case measure => simp [intOf]
    · obtain rfl : j = 1 := by omega
      rw [if_neg (by omega)]
      obtain ⟨N, hN⟩ : ∃ N, max n m = N := ⟨_, rfl⟩
      have hNn : n ≤ N := by omega
      have hNm : m ≤ N := by omega
      have hNb : N ≤ 549755813888 := by omega
      rw [hN]
      have HN := hide hN
      clear hN h0 hca
      go_wp2_with (first
        | (refine wpList_mkN _ rfl (.tmp 26) (.tmp 26) 121 rfl elemP .i64 .i64 _ _ N rfl rfl rfl rfl (by omega) fun w1 h1 h2 => ?_; have HX1 := hide (HX.out.next h2); rw [alloc_size, iv_zeros (R := R)] at h1; have HO1 := hide h1; have HI1 := hide (HI.out.below (HX1.out.2.mono hB)); clear h1 h2)
        | (refine wpList_copyZ rfl (.tmp 28) (.tmp 29) 121 rfl elemP _ (w.heap.size + 1) N N _ rfl HO1.out B A n c _ rfl HI1.out hNn fun w2 h1 h2 => ?_; rw [iv_pad hpn hNn] at h1; have HO2 := hide h1; have HX2 := hide (HX1.out.grown h2 (by omega)); clear h1 h2))
      go_loopw [33] (fun i wr => Pl2 w p k g N ps qs i wr) (fun i _ => 1 - (intOf i).toNat)
      case atStart => exact ⟨0, by omega, rfl, HO2.out, HX2.out⟩
      case round =>
        clear HO1 HX1 HI1 HO2 HX2
        obtain ⟨j, hj, rfl, HO, HX⟩ := hrel
        have HX := hide HX
        have HO := hide HO
        by_cases h0 : j = 0
        · subst h0
          have HO := hide (show Own wr (w.heap.size + 1) 2 .i64 (.slice (some ⟨w.heap.size + 1, 0, none⟩) N N) (iv (tab N (cf ps))) from HO.out)
          have hc := (HX.out.2.cell (p := ⟨b, 0, none⟩) hb).trans HC.out
          have HJ1 := hide (HJ.out.below (HX.out.2.mono hB))
          obtain ⟨c0, c1, c2⟩ := HX.out.cells
          go_wp2_with fail
          refine (implAddMul h 1 0 N N (w.heap.size + 1) _ _ qs A' m c' B _ HO.out HJ1.out (by omega) (by omega) (by omega) (by omega)).mono ?_
          rintro e w2 ⟨rfl, hO2, hg⟩
          have HO2 := hide hO2
          have HX2 := hide (HX.out.grown hg (by omega))
          clear hO2 hg c0 c1 c2 hc
          go_wp2_with fail
          go_roundw
          case rel => exact ⟨1, by omega, by go_num, HO2.out, HX2⟩
          case measure => simp [intOf]
        · obtain rfl : j = 1 := by omega
          have HA := hide (show trim (tab N fun i => cf ps i + up 0 1 (cf qs) i) = addP ps qs by
            rw [addP, hpn, hqm, HN.out]
            congr 1
            refine tab_congr fun i _ => ?_
            unfold up; rw [if_pos (Nat.zero_le _), e1m]; rfl)
          clear h0
          go_wp2_with fail
          refine (implTrimmed (tab N fun i => cf ps i + up 0 1 (cf qs) i) (w.heap.size + 1) N N _ _ HO.out (by omega)).mono ?_
          rintro e w3 ⟨rfl, hO3, rfl⟩
          rw [HA.out] at hO3 ⊢
          have HO3 := hide hO3
          clear hO3
          go_wp2_with fail
          go_ret
          exact ⟨w.heap.size + 1, N, rfl, HO3.out.low (by omega), by omega, HX.out.2⟩

/-- What a division leaves: two new lists. -/
def NewPP (qs rs : List (El R)) (w : World) (x : Ending) (w' : World) : Prop :=
  ∃ vq vr, x = .returned (.tuple #[vq, vr]) ∧ Own w' w.heap.size 2 .i64 vq (iv qs) ∧ Own w' w.heap.size 2 .i64 vr (iv rs) ∧ (vq.ownBlock = none ∨ vq.ownBlock ≠ vr.ownBlock) ∧ Below w.heap.size w w'

def DvRel (w : World) (p k g : Int) (gq n K d : Nat) (ps qs : List (El R)) (v : El R) (i : Value) (wr : World) : Prop :=
  ∃ (j : Nat) (kk : Int) (f t : Nat → El R), j ≤ K ∧ kk = (j : Int) - 1 ∧ i = .int .i64 kk ∧ Hid (dvs (cf qs) d v j f = dvs (cf qs) d v K (cf ps)) ∧ Hid (∀ i, (if i < j then dvq (cf qs) d v j f i else t i) = dvq (cf qs) d v K (cf ps) i) ∧
    Own wr (w.heap.size + 1) 2 .i64 (.slice (some ⟨w.heap.size + 1, 0, none⟩) n n) (iv (tab n f)) ∧ Own wr gq 2 .i64 (.slice (some ⟨gq, 0, none⟩) K K) (iv (tab K t)) ∧ Box w wr 25 p k g

theorem dvq_step {G f t T : Nat → El R} {d i : Nat} {v u : El R} (hu : u = f (i + d)) (h : ∀ l, (if l < i + 1 then dvq G d v (i + 1) f l else t l) = T l) :
    ∀ l, (if l < i then dvq G d v i (fun l => f l + up i (-(u * v)) G l) l else (if l = i then u * v else t l)) = T l := by
  intro l
  have h1 := h l
  subst hu
  by_cases h2 : l < i
  · rw [if_pos h2]
    rw [if_pos (by omega)] at h1
    rw [← h1]
    show _ = if l = i then _ else _
    rw [if_neg (by omega)]
  · rw [if_neg h2]
    by_cases h3 : l = i
    · rw [if_pos h3]
      rw [if_pos (by omega)] at h1
      rw [← h1]
      show _ = if l = i then _ else _
      rw [if_pos h3]
    · rw [if_neg h3]
      rw [if_neg (by omega)] at h1
      exact h1
theorem lastE_is {qs : List (El R)} (hq : 0 < qs.length) : (iv qs).getLast? = some ((lastE qs).val : Int) := by
  rw [List.getLast?_eq_getElem?, iv_len, iv_at (by omega)]; rfl

theorem dvq_out (G : Nat → El R) (d : Nat) (v : El R) : ∀ (K : Nat) (f : Nat → El R) (i : Nat), K ≤ i → dvq G d v K f i = 0
  | 0, _, _, _ => rfl
  | K + 1, f, i, h => by
    show (if i = K then _ else _) = _
    rw [if_neg (by omega)]
    exact dvq_out G d v K _ i (by omega)

set_option maxRecDepth 100000 in
set_option maxHeartbeats 4000000 in
theorem implDivided (h : FldIs R p k g) (ps qs : List (El R)) (A A' : Option Addr) (n c m c' B : Nat) (w : World) (hI : Ints .i64 w B A n (iv ps)) (hJ : Ints .i64 w B A' m (iv qs)) (hB : B ≤ w.heap.size) (hn : n ≤ 549755813888) (hm : m ≤ 549755813888) (hm0 : 0 < m) :
    Calls Tryz.prog 89 #[.slice A n c, .agg #[.int .i64 p, .int .i64 k, .int .i64 g], .slice A' m c'] w (NewPP (quoP ps qs) (remP ps qs) w) := by
  have HX := hide (Box.start w 25 p k g)
  have hpn : ps.length = n := by rw [← iv_len]; exact hI.len
  have hqm : qs.length = m := by rw [← iv_len]; exact hJ.len
  have HI := hide hI
  have HJ := hide hJ
  clear hI hJ
  by_cases hlt : n < m
  · have HQ := hide (show quoP ps qs = [] by rw [quoP, if_pos (by omega)])
    have HR := hide (show remP ps qs = ps by rw [remP, if_pos (by omega)])
    go_enter Tryz.func89, Tryz.ntmps89
    go_wp2_with (first
      | (refine wpList_mkN _ rfl (.tmp 13) (.tmp 13) 121 rfl elemP .i64 .i64 _ _ n rfl rfl rfl rfl (by omega) fun w1 h1 h2 => ?_; have HX1 := hide (HX.out.next h2); rw [alloc_size, iv_zeros (R := R)] at h1; have HO1 := hide h1; have HI1 := hide (HI.out.below (HX1.out.2.mono hB)); clear h1 h2)
      | (refine wpList_copyZ rfl (.tmp 15) (.tmp 16) 121 rfl elemP _ (w.heap.size + 1) n n _ rfl HO1.out B A n c _ rfl HI1.out (Nat.le_refl _) fun w2 h1 h2 => ?_; rw [iv_pad hpn (Nat.le_refl _)] at h1; have HO2 := hide h1; have HX2 := hide (HX1.out.grown h2 (by omega)); clear h1 h2))
    go_ret2
    refine ⟨.slice none 0 0, .slice (some ⟨w.heap.size + 1, 0, none⟩) n n, rfl, ?_, ?_, .inl rfl, HX2.out.2⟩
    · rw [HQ.out]; exact World.ownsRow_nil _ _ _ _
    · rw [HR.out]
      have := HO2.out.low (base' := w.heap.size) (by omega)
      rw [← hpn, tab_cf] at this
      rw [← hpn]; exact this
  · obtain ⟨K, hK⟩ : ∃ K, K = n - m + 1 := ⟨_, rfl⟩
    obtain ⟨v, hv⟩ : ∃ v, v = (lastE qs).inv := ⟨_, rfl⟩
    have HQ := hide (show quoP ps qs = tab K (dvq (cf qs) (qs.length - 1) v K (cf ps)) by rw [quoP, if_neg (by omega), hpn, hqm, ← hK, ← hv])
    have HR := hide (show remP ps qs = trim (tab n (dvs (cf qs) (qs.length - 1) v K (cf ps))) by rw [remP, if_neg (by omega), hpn, hqm, ← hK, ← hv])
    obtain ⟨d, hd⟩ : ∃ d, m = d + 1 := ⟨m - 1, by omega⟩
    rw [hqm, show m - 1 = d by omega] at HQ HR
    have hd1 : d + 1 ≤ m := by omega
    have hd2 : m ≤ d + 1 := by omega
    clear hd
    have HL := hide (lastE_is (qs := qs) (by omega))
    have HV := hide hv
    have hKn : (n : Int) - (m : Int) + 1 = (K : Int) := by omega
    have hK1 : 1 ≤ K := by omega
    have hKm : K + m = n + 1 := by omega
    clear hK hv
    go_enter Tryz.func89, Tryz.ntmps89
    go_wp2_with (first
      | (refine wpList_mkN _ rfl (.tmp 13) (.tmp 13) 121 rfl elemP .i64 .i64 _ _ n rfl rfl rfl rfl (by omega) fun w1 h1 h2 => ?_; have HX1 := hide (HX.out.next h2); rw [alloc_size, iv_zeros (R := R)] at h1; have HO1 := hide h1; have HI1 := hide (HI.out.below (HX1.out.2.mono hB)); clear h1 h2)
      | (refine wpList_copyZ rfl (.tmp 15) (.tmp 16) 121 rfl elemP _ (w.heap.size + 1) n n _ rfl HO1.out B A n c _ rfl HI1.out (Nat.le_refl _) fun w2 h1 h2 => ?_; rw [iv_pad hpn (Nat.le_refl _)] at h1; have HO2 := hide h1; have HX2 := hide (HX1.out.grown h2 (by omega)); clear h1 h2)
      | (refine wpList_mkN _ rfl (.tmp 29) (.tmp 29) 121 rfl elemP .i64 .i64 _ _ K rfl rfl (by omega) (by omega) (by omega) fun w3 h1 h2 => ?_; have HX3 := hide (HX2.out.next h2); rw [iv_zeros (R := R)] at h1; have HO3 := hide (HO2.out.below h2 (Nat.le_refl _)); have HQ3 := hide h1; have hlq := (HO2.out.lt (g := w.heap.size + 1) rfl).2; clear h1 h2))
    go_region_held3 (fun w' => w'.cell? ⟨w.heap.size, 0, none⟩ = some (.int .i64 p) ∧ w'.cell? ⟨w.heap.size, 1, none⟩ = some (.int .i64 k) ∧ w'.cell? ⟨w.heap.size, 2, none⟩ = some (.int .i64 g))
      (first
        | exact ⟨HX3.out.drew.cells.1, HX3.out.drew.cells.2.1, HX3.out.drew.cells.2.2⟩
        | exact ⟨HX5.out.cells.1, HX5.out.cells.2.1, HX5.out.cells.2.2⟩)
      (first
        | (go_at_call 120; refine (implLast A' m c' B (iv qs) _ _ (HJ.out.below (HX3.out.drew.2.mono hB)) HL.out (by omega)).mono ?_; rintro e w4 ⟨rfl, rfl⟩)
        | (go_at_call 119; refine (implInvE h (lastE qs) _).mono ?_; rw [← HV.out]; rintro e w5 ⟨rfl, hb5⟩; have HX5 := hide (HX3.out.drew.next hb5); have HO5 := hide (HO3.out.drew.below hb5 (Nat.le_refl _)); have HQ5 := hide (HQ3.out.drew.below hb5 (Nat.le_refl _)); clear hb5))
    generalize hgq : w2.heap.size = gq at HQ5 hlq ⊢
    clear hgq HX3 HO3 HQ3 HX1 HO1 HI1 HO2 HX2
    go_wp2_with fail
    go_loopw [11] (fun i wr => DvRel w p k g gq n K d ps qs v i wr) (fun i _ => (intOf i + 1).toNat)
    case atStart => exact ⟨K, _, cf ps, fun _ => 0, Nat.le_refl _, rfl, rfl, rfl, fun i => by split; rfl; exact (dvq_out _ _ _ _ _ _ (by omega)).symm, HO5.out, HQ5.out, HX5.out⟩
    case round =>
      clear HX5 HO5 HQ5
      obtain ⟨j, kk, f, t, hj, hkk, rfl, HD, HE, HO, HT, HX⟩ := hrel
      have HX := hide HX
      have HO := hide HO
      have HT := hide HT
      by_cases hj0 : j = 0
      · subst hj0
        obtain rfl : kk = -1 := by omega
        have HQQ := hide (show tab K t = quoP ps qs by rw [HQ.out]; exact tab_congr fun i _ => by have := HE.out i; rw [if_neg (by omega)] at this; exact this)
        have HRR := hide (show trim (tab n f) = remP ps qs by rw [HR.out, ← HD.out]; rfl)
        have HQL := hide (show (quoP ps qs).length = K by rw [← HQQ.out, tab_len])
        clear hkk
        go_wp2_with fail
        refine (implTrimmed (tab n f) (w.heap.size + 1) n n _ _ HO.out (by omega)).mono ?_
        rintro e w3 ⟨rfl, hO3, rfl⟩
        have HO3 := hide hO3
        clear hO3
        go_wp2_with fail
        go_ret2
        refine ⟨.slice (some ⟨gq, 0, none⟩) K K, .slice (some ⟨w.heap.size + 1, 0, none⟩) (trim (tab n f)).length n, rfl, ?_, ?_, .inr ?_, HX.out.2⟩
        · rw [← HQQ.out]; exact HT.out.low (by omega)
        · rw [← HRR.out]; exact HO3.out.low (by omega)
        · show some gq ≠ some (w.heap.size + 1)
          intro e; injection e; omega
      · obtain ⟨i, rfl⟩ : ∃ i, j = i + 1 := ⟨j - 1, by omega⟩
        obtain rfl : kk = (i : Int) := by omega
        clear hkk
        obtain ⟨tt, htt⟩ : ∃ tt, tt = i + d := ⟨_, rfl⟩
        obtain ⟨s, hs⟩ : ∃ s, s = i + m := ⟨_, rfl⟩
        obtain ⟨u, hu⟩ : ∃ u, u = f (i + d) := ⟨_, rfl⟩
        have hw1 : IntKind.i64.wrap ((i : Int) + (m : Int)) = (s : Int) := by rw [IntWalk.i64_in _ ⟨by omega, by omega⟩]; omega
        have hw2 : IntKind.i64.wrap ((s : Int) - 1) = (tt : Int) := by rw [IntWalk.i64_in _ ⟨by omega, by omega⟩]; omega
        have htn : tt < n := by omega
        have hiK : i < K := by omega
        have HCR := hide (show wr.cell? ⟨w.heap.size + 1, tt, none⟩ = some (.int .i64 (u.val : Int)) from HO.out.cellAt (by rw [iv, List.getElem?_map, tab_at _ htn, htt, hu]; rfl))
        have HFZ := hide (HT.out.frozenAt i)
        have HU := hide hu
        have HTT := hide htt
        have hgl := (HO.out.lt (g := w.heap.size + 1) rfl).2
        have HGL := hide hgl
        have HQL := hide hlq
        clear htt hs hu hgl hlq
        go_wp2_with fail
        go_region_held3 (fun w' => w'.cell? ⟨w.heap.size, 0, none⟩ = some (.int .i64 p) ∧ w'.cell? ⟨w.heap.size, 1, none⟩ = some (.int .i64 k) ∧ w'.cell? ⟨w.heap.size, 2, none⟩ = some (.int .i64 g) ∧ w'.cell? ⟨w.heap.size + 1, tt, none⟩ = some (.int .i64 (u.val : Int)) ∧ w'.frozen? ⟨gq, i, none⟩ = false)
          (first
            | exact ⟨HX.out.drew.cells.1, HX.out.drew.cells.2.1, HX.out.drew.cells.2.2, HCR.out, HFZ.out⟩
            | exact ⟨HX2.out.cells.1, HX2.out.cells.2.1, HX2.out.cells.2.2, HC2.out, HF2.out⟩
            | exact HS4.out)
          (first
            | (go_at_call 121; refine (implProdE h u v _).mono ?_; rintro e w2 ⟨rfl, hb2⟩; have HX2 := hide (HX.out.drew.next hb2); have HO2 := hide (HO.out.drew.below hb2 (Nat.le_refl _)); have HT2 := hide (HT.out.drew.below hb2 (Nat.le_refl _)); have HC2 := hide ((hb2.cell (p := ⟨w.heap.size + 1, tt, none⟩) HGL.out).trans HCR.out); have HF2 := hide (HT2.out.frozenAt i); have hq2 : w2.cell? ⟨gq, i, none⟩ = some (.int .i64 ((t i).val : Int)) := HT2.out.cellAt (by rw [iv, List.getElem?_map, tab_at _ hiK]; rfl); have HT4 := hide (HT2.out.stored i ((u * v).val : Nat)).1; have HG4 := hide (HT2.out.stored i ((u * v).val : Nat)).2; have HX4 := hide (HX2.out.grown HG4.out (by have := HQL.out; omega)); have HO4 := hide (HO2.out.grown HG4.out (.inr (by have := HQL.out; show some (w.heap.size + 1) ≠ some gq; intro e; injection e; omega))); have HS4 := hide (And.intro HX4.out.cells.1 (And.intro HX4.out.cells.2.1 (And.intro HX4.out.cells.2.2 (And.intro ((grown_cell (p := ⟨w.heap.size + 1, tt, none⟩) HG4.out (Nat.lt_of_lt_of_le HGL.out hb2.size) (by have := HQL.out; intro e; injection e; simp only at *; omega)).trans HC2.out) (HT4.out.frozenAt i))))); clear hb2))
        clear hq2 HS4 HC2 HF2 HT2 HO2 HX2 HCR HFZ HG4
        generalize w2.setCell ⟨gq, i, none⟩ (.int .i64 ((u * v).val : Nat)) = w4 at HT4 HO4 HX4 ⊢
        have hq4 : w4.cell? ⟨gq, i, none⟩ = some (.int .i64 ((u * v).val : Int)) := HT4.out.cellAt (by rw [iv_set, tab_set, iv, List.getElem?_map, tab_at _ hiK, if_pos rfl]; rfl)
        have HC4 := hide hq4
        clear hq4
        go_wp2_with fail
        go_region_held3 (fun w' => w'.cell? ⟨w.heap.size, 0, none⟩ = some (.int .i64 p) ∧ w'.cell? ⟨w.heap.size, 1, none⟩ = some (.int .i64 k) ∧ w'.cell? ⟨w.heap.size, 2, none⟩ = some (.int .i64 g) ∧ w'.cell? ⟨gq, i, none⟩ = some (.int .i64 ((u * v).val : Int)))
          (first
            | exact ⟨HX4.out.drew.cells.1, HX4.out.drew.cells.2.1, HX4.out.drew.cells.2.2, HC4.out⟩
            | exact ⟨HX5.out.cells.1, HX5.out.cells.2.1, HX5.out.cells.2.2, HC5.out⟩
            | exact ⟨HX6.out.cells.1, HX6.out.cells.2.1, HX6.out.cells.2.2, HC6.out⟩)
          (first
            | (go_at_call 91; refine (implNegE h (u * v) _).mono ?_; rintro e w5 ⟨rfl, hb5⟩; have HX5 := hide (HX4.out.drew.next hb5); have HO5 := hide (HO4.out.drew.below hb5 (Nat.le_refl _)); have HT5 := hide (HT4.out.drew.below hb5 (Nat.le_refl _)); have HC5 := hide ((hb5.cell (p := ⟨gq, i, none⟩) (HT4.out.lt (g := gq) rfl).2).trans HC4.out); clear hb5)
            | (go_at_call 122; refine (implAddMul h (-(u * v)) i n n (w.heap.size + 1) _ f qs A' m c' B _ HO5.out (HJ.out.below (HX5.out.2.mono hB)) (by omega) (by omega) (by omega) (by omega)).mono ?_; rintro e w6 ⟨rfl, hO6, hg6⟩; have HX6 := hide (HX5.out.grown hg6 (by omega)); have HO6 := hide hO6; have HT6 := hide (HT5.out.grown hg6 (.inr (by have := HQL.out; show some gq ≠ some (w.heap.size + 1); intro e; injection e; omega))); have HC6 := hide ((grown_cell (p := ⟨gq, i, none⟩) hg6 (HT5.out.lt (g := gq) rfl).2 (by have := HQL.out; intro e; injection e; simp only at *; omega)).trans HC5.out); clear hO6 hg6))
        have HTF := hide (show Own w6 gq 2 .i64 (.slice (some ⟨gq, 0, none⟩) K K) (iv (tab K fun l => if l = i then u * v else t l)) by
          have := HT6.out; rw [iv_set, tab_set] at this; exact this)
        clear HC4 HC5 HC6 HX4 HX5 HO4 HO5 HT4 HT5 HT6
        go_wp2_with fail
        go_roundw
        case rel => exact ⟨i, _, _, _, by omega, rfl, rfl, (by have h1 := HD.out; rw [HU.out]; exact h1), dvq_step HU.out HE.out, HO6.out, HTF.out, HX6.out⟩
        case measure => simp [intOf]
end
end Go.Proofs.YtlphodhecaagbaaGreat
