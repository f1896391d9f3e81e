/-
  The contracts of the model's values, sums of equal elements and derivatives of polynomials.
  The contracts of the program's derivatives, roots and common divisors of polynomials.
  The contract of the program's common divisor of polynomials.
  The contracts of IsPolynomial, PolyAdd and PolyMul, of the model and of the program, side by side.
  Condition: as each statement says.
-/
import Derived.Test.YtlphodhecaagbaaGreatJG
import Derived.Test.YtlphodhecaagbaaGreatJE
namespace Go.Proofs.YtlphodhecaagbaaGreat
open Go.RowKit
set_option linter.unusedSimpArgs false
set_option linter.unusedVariables false

section
variable {R : Fld} {p k g : Int}
set_option maxHeartbeats 1000000 in
theorem specEvalE (h : FldIs R p k g) (x : El R) (ps : List (El R)) (A : Option Addr) (n c B : Nat) (w : World) (hI : Ints .i64 w B A n (iv ps)) (hB : B ≤ w.heap.size) (hn : n ≤ 1099511627776) :
    Calls Tryz.prog 138 #[.agg #[.int .i64 p, .int .i64 k, .int .i64 g], .slice A n c, .int .i64 x.val] w (Gives (.int .i64 ((ev x ps).val : Nat)) w) := by
  have HX := hide (Box.start w 25 p k g)
  have HI := hide hI
  have hl : ps.length = n := by rw [← iv_len]; exact hI.len
  clear hI
  go_enter Tryz.func138, Tryz.ntmps138
  go_wp2_with fail
  go_loopw [7, 8] (fun v i wr => EvRel w p k g n x ps v i wr) (fun _ i _ => (intOf i + 1).toNat)
  case atStart => exact ⟨n, _, 0, Nat.le_refl _, rfl, rfl, rfl, by rw [List.drop_of_length_le (by omega)]; rfl, HX⟩
  case round =>
    clear HX
    obtain ⟨j, kk, y, hj, hkk, rfl, rfl, HY, HX⟩ := hrel
    have HX := hide HX
    by_cases hj0 : j = 0
    · subst hj0
      obtain rfl : kk = -1 := by omega
      have HF := hide (show (((ev x ps).val : Nat) : Int) = (y.val : Int) by rw [HY.out]; rfl)
      clear hkk
      go_wp2_with fail
      go_ret
      exact ⟨ret_int HF, HX.out.2⟩
    · obtain ⟨i, rfl⟩ : ∃ i, j = i + 1 := ⟨j - 1, by omega⟩
      obtain rfl : kk = (i : Int) := by omega
      clear hkk
      have hin : i < n := by omega
      obtain ⟨b, off, z, rfl, hb, hz, hc⟩ := (HI.out.below (HX.out.2.mono hB)).at_ hin
      rw [iv_at (by omega)] at hz
      simp only [Option.some.injEq] at hz
      subst hz
      obtain ⟨u, hu⟩ : ∃ u, u = cf ps i := ⟨_, rfl⟩
      rw [← hu] at hc
      have HN := hide (show y * x + u = ev x (ps.drop i) by rw [ev_drop (by omega), ← HY.out, hu])
      have hbl : b < wr.heap.size := Nat.lt_of_lt_of_le hb (Nat.le_trans hB (Nat.le_of_lt HX.out.lt))
      have HC := hide hc
      clear hu hc
      go_wp2_with fail
      go_region_held3 (fun w' => w'.cell? ⟨w.heap.size, 0, none⟩ = some (.int .i64 p) ∧ w'.cell? ⟨w.heap.size, 1, none⟩ = some (.int .i64 k) ∧ w'.cell? ⟨w.heap.size, 2, none⟩ = some (.int .i64 g) ∧ w'.cell? ⟨b, off + i, none⟩ = some (.int .i64 (u.val : Int)))
        (first
          | exact ⟨HX.out.drew.cells.1, HX.out.drew.cells.2.1, HX.out.drew.cells.2.2, HC.out⟩
          | exact ⟨HX2.out.cells.1, HX2.out.cells.2.1, HX2.out.cells.2.2, HC2.out⟩
          | exact ⟨HX3.out.cells.1, HX3.out.cells.2.1, HX3.out.cells.2.2, HC3.out⟩)
        (first
          | (go_at_call 96; refine (specMulE h y x _).mono ?_; rintro e w2 ⟨rfl, hb2⟩; have HX2 := hide (HX.out.drew.next hb2); have HC2 := hide ((hb2.cell (p := ⟨b, off + i, none⟩) hbl).trans HC.out); have hbl2 : b < w2.heap.size := Nat.lt_of_lt_of_le hbl hb2.size; clear hb2)
          | (go_at_call 112; refine (specAddE h (y * x) u _).mono ?_; rintro e w3 ⟨rfl, hb3⟩; have HX3 := hide (HX2.out.next hb3); have HC3 := hide ((hb3.cell (p := ⟨b, off + i, none⟩) hbl2).trans HC2.out); clear hb3))
      go_wp2_with fail
      go_roundw
      case rel => exact ⟨i, _, y * x + u, by omega, rfl, rfl, rfl, HN, HX3⟩
      case measure => simp [intOf]

/-- The sum of j ones, by the numbers of the field. -/
def numE (h : FldIs R p k g) (j : Nat) : El R := ⟨j % p.toNat, by
  have hk := h.kind
  generalize R.q = q at hk ⊢
  generalize R.mul = mul at hk
  cases hk with
  | one _ _ h3 h => exact Nat.mod_lt _ (by omega)
  | two K G h3 h8 hG hG2 => have := pow_small h3 h8; have h2 : j % (2 : Int).toNat < 2 := Nat.mod_lt _ (by decide); omega⟩
theorem num_val (h : FldIs R p k g) (j : Nat) : (numE h j).val = j % p.toNat := rfl
theorem kd_prime {q : Nat} {mul : Nat → Nat → Nat} (h : Kd p k g q mul) : ∃ P : Nat, p = P ∧ 2 ≤ P ∧ P ≤ 1021 := by
  cases h with
  | one _ _ h3 h => exact ⟨q, rfl, by omega, h⟩
  | two K G h3 h8 hG hG2 => exact ⟨2, rfl, by omega, by omega⟩

set_option maxHeartbeats 1000000 in
theorem specTimes0 {q : Nat} {mul : Nat → Nat → Nat} (h : Kd p k g q mul) (a j : Nat) (ha : a < q) (hj : j ≤ 1099511627776) (w : World) :
    Calls Tryz.prog 150 #[.agg #[.int .i64 p, .int .i64 k, .int .i64 g], .int .i64 a, .int .i64 j] w (Gives (.int .i64 (mul (j % p.toNat) a : Nat)) w) := by
  have hmon := h.mon
  cases h with
  | one _ _ h3 h =>
    have HX := hide (Box.start w 25 q 1 g)
    obtain ⟨c0, c1, c2⟩ := HX.out.cells
    obtain ⟨r, hr⟩ : ∃ r : Nat, r = j % q := ⟨_, rfl⟩
    have hrq : r < q := by rw [hr]; exact Nat.mod_lt _ (by omega)
    have hm1 : ((j : Nat) : Int).tmod (q : Int) = (r : Int) := by rw [Int.tmod_eq_emod_of_nonneg (by omega), hr]; rfl
    have hle : a * r ≤ 1021 * 1021 := Nat.mul_le_mul (by omega) (by omega)
    obtain ⟨s, hs⟩ : ∃ s : Nat, s = a * r := ⟨_, rfl⟩
    have hw1 : IntKind.i64.wrap ((a : Int) * (r : Int)) = (s : Int) := by rw [IntWalk.i64_in _ ⟨by rw [← Int.natCast_mul]; omega, by rw [← Int.natCast_mul]; omega⟩, hs]; simp
    have hm2 : ((s : Nat) : Int).tmod (q : Int) = ((s % q : Nat) : Int) := by rw [Int.tmod_eq_emod_of_nonneg (by omega)]; rfl
    have HF := hide (show ((mul1 q (j % ((q : Nat) : Int).toNat) a : Nat) : Int) = ((s % q : Nat) : Int) by
      rw [Int.toNat_natCast, ← hr, hs]; unfold mul1; rw [Nat.mul_comm])
    have hq0 : (q : Int) ≠ 0 := by omega
    obtain ⟨t, ht⟩ : ∃ t : Nat, t = s % q := ⟨_, rfl⟩
    rw [← ht] at hm2 HF
    obtain ⟨Q, hQ⟩ : ∃ Q : Int, Q = (q : Int) := ⟨_, rfl⟩
    obtain ⟨S, hS⟩ : ∃ S : Int, S = (s : Int) := ⟨_, rfl⟩
    rw [← hQ] at hm1 hm2 hq0 c0 c1 c2 HX HF ⊢
    rw [← hS] at hw1 hm2
    have hS0 : 0 ≤ S ∧ S ≤ 2000000 := by omega
    clear hr hs ht hQ hS hle
    go_enter Tryz.func150, Tryz.ntmps150
    go_wp2_with fail
    go_quiet (fail)
    go_wp2_with fail
    go_ret
    exact ⟨ret_int HF, (HX.out.drewN _).2⟩
  | two K G h3 h8 hG hG2 =>
    have HX := hide (Box.start w 25 2 K G)
    have e1 : ((K : Int) == 1) = false := by simp; omega
    have hp := pow_small h3 h8
    rcases (show j % 2 = 0 ∨ j % 2 = 1 by omega) with hr | hr
    · have HF := hide (show ((mul2 K G (j % ((2 : Int)).toNat) a : Nat) : Int) = 0 by
        rw [show j % ((2 : Int)).toNat = 0 from hr, hmon.zero]; rfl)
      have e2 : ((j : Nat) : Int) % 2 = 0 := by omega
      go_enter Tryz.func150, Tryz.ntmps150
      go_wp2_with fail
      go_ret
      exact ⟨ret_int HF, HX.out.2⟩
    · have HF := hide (show ((mul2 K G (j % ((2 : Int)).toNat) a : Nat) : Int) = a by
        rw [show j % ((2 : Int)).toNat = 1 from hr, hmon.one _ ha])
      have e2 : ((j : Nat) : Int) % 2 = 1 := by omega
      go_enter Tryz.func150, Tryz.ntmps150
      go_wp2_with fail
      go_ret
      exact ⟨ret_int HF, HX.out.2⟩
theorem specTimesE (h : FldIs R p k g) (a : El R) (j : Nat) (hj : j ≤ 1099511627776) (w : World) :
    Calls Tryz.prog 150 #[.agg #[.int .i64 p, .int .i64 k, .int .i64 g], .int .i64 a.val, .int .i64 j] w (Gives (.int .i64 ((numE h j * a).val : Nat)) w) :=
  specTimes0 h.kind a.val j a.lt hj w

/-- The derivative. -/
def derP (h : FldIs R p k g) (ps : List (El R)) : List (El R) := trim (tab (ps.length - 1) fun i => numE h (i + 1) * cf ps (i + 1))

def DeRel (w : World) (p k g : Int) (n : Nat) (f : Nat → El R) (v i : Value) (wr : World) : Prop :=
  ∃ j : Nat, j ≤ n - 1 ∧ i = .int .i64 (j + 1 : Nat) ∧ Own wr (w.heap.size + 1) 2 .i64 v (iv (tab j f)) ∧ Box w wr 25 p k g

set_option maxRecDepth 100000 in
set_option maxHeartbeats 4000000 in
theorem specDerE (h : FldIs R p k g) (ps : List (El R)) (A : Option Addr) (n c B : Nat) (w : World) (hI : Ints .i64 w B A n (iv ps)) (hB : B ≤ w.heap.size) (hn : n ≤ 549755813888) :
    Calls Tryz.prog 143 #[.agg #[.int .i64 p, .int .i64 k, .int .i64 g], .slice A n c] w (NewE (derP h ps) w) := by
  have HX := hide (Box.start w 25 p k g)
  have hpn : ps.length = n := by rw [← iv_len]; exact hI.len
  have HI := hide hI
  clear hI
  obtain ⟨f, hf⟩ : ∃ f : Nat → El R, f = fun i => numE h (i + 1) * cf ps (i + 1) := ⟨_, rfl⟩
  have HA := hide (show trim (tab (n - 1) f) = derP h ps by rw [derP, hpn, hf])
  have HFF := hide hf
  clear hf
  go_enter Tryz.func143, Tryz.ntmps143
  go_wp2_with fail
  have HXs := hide (HX.out.alloc (.cells #[] 2))
  have HOs := hide (Own.lit0 (w.alloc (.cells #[.int .i64 p, .int .i64 k, .int .i64 g] 25)) 2 .i64)
  go_loopw [5, 6] (fun v i wr => DeRel w p k g n f v i wr) (fun _ i _ => n - (intOf i).toNat)
  case atStart => exact ⟨0, by omega, rfl, by rw [← alloc_size w (.cells #[.int .i64 p, .int .i64 k, .int .i64 g] 25)]; exact HOs.out, HXs.out⟩
  case round =>
    clear HX HXs HOs
    obtain ⟨v, rfl⟩ : ∃ v : Value, v = u5 := ⟨_, rfl⟩
    obtain ⟨j, hj, rfl, HO, HX⟩ := hrel
    have HX := hide HX
    have HO := hide HO
    by_cases hlt : j + 1 < n
    · obtain ⟨l, hll⟩ : ∃ l, l = j + 1 := ⟨_, rfl⟩
      rw [← hll] at hlt ⊢
      obtain ⟨b, off, x, rfl, hb, hx, hc⟩ := (HI.out.below (HX.out.2.mono hB)).at_ hlt
      rw [iv_at (by omega)] at hx
      simp only [Option.some.injEq] at hx
      subst hx
      obtain ⟨y, hy⟩ : ∃ y, y = cf ps l := ⟨_, rfl⟩
      rw [← hy] at hc
      have HY := hide (show f j = numE h l * y by rw [HFF.out, hy, hll])
      have HC := hide hc
      have hbl : b < wr.heap.size := Nat.lt_of_lt_of_le hb (Nat.le_trans hB (Nat.le_of_lt HX.out.lt))
      have hwl : w.heap.size < wr.heap.size := HX.out.lt
      have HVB := hide (show ∀ b, v.ownBlock = some b → w.heap.size < b from fun b hb => (HO.out.lt hb).1)
      have HVC := hide (show v.ownBlock ≠ some b from fun e => by have := (HO.out.lt e).1; omega)
      have hlj : l = j + 1 := hll
      have HLJ := hide hlj
      have hl40 : l ≤ 549755813888 := by omega
      have hj40 : j ≤ 549755813888 := by omega
      clear hy hc hll hlj
      go_wp2_with fail
      go_region_held3 (fun w' => w'.cell? ⟨w.heap.size, 0, none⟩ = some (.int .i64 p) ∧ w'.cell? ⟨w.heap.size, 1, none⟩ = some (.int .i64 k) ∧ w'.cell? ⟨w.heap.size, 2, none⟩ = some (.int .i64 g) ∧ w'.cell? ⟨b, off + l, none⟩ = some (.int .i64 (y.val : Int)))
        (first
          | exact ⟨HX.out.drew.cells.1, HX.out.drew.cells.2.1, HX.out.drew.cells.2.2, HC.out⟩
          | exact ⟨HX2.out.cells.1, HX2.out.cells.2.1, HX2.out.cells.2.2, HC2.out⟩
          | exact ⟨(HX2.out.alloc _).cells.1, (HX2.out.alloc _).cells.2.1, (HX2.out.alloc _).cells.2.2, HC2a.out⟩
          | exact ⟨HX3.out.cells.1, HX3.out.cells.2.1, HX3.out.cells.2.2, HC3.out⟩)
        (first
          | (go_at_call 150; refine (specTimesE h y l (by omega) _).mono ?_; rintro e w2 ⟨rfl, hb2⟩; have HX2 := hide (HX.out.drew.next hb2); have HO2 := hide (HO.out.drew.below hb2 (Nat.le_refl _)); have HC2 := hide ((hb2.cell (p := ⟨b, off + l, none⟩) hbl).trans HC.out); have hbl2 : b < w2.heap.size := Nat.lt_of_lt_of_le hbl hb2.size; have HC2a := hide ((((Below.refl w2.heap.size w2).alloc (Nat.le_refl _) (.cells #[.int .i64 ((numE h l * y).val : Int)] 2)).cell (p := ⟨b, off + l, none⟩) hbl2).trans HC2.out); clear hb2)
          | (refine step_appL _ (by rfl) _ _ _ (by rfl) elem64 (w.heap.size + 1) v (iv (tab j f)) (by rfl) (HO2.out.alloc _) (w2.heap.size + 1) (some ⟨w2.heap.size, 0, none⟩) 1 1 [((numE h l * y).val : Int)] (by rfl) (ints_one w2 2 .i64 ((numE h l * y).val : Int)) (by rw [iv_len, tab_len]; omega) (by have := HX2.out.lt; rw [alloc_size]; omega) ?_; intro v3 w3 hown3 hgrow; have HX3 := hide ((HX2.out.alloc _).grow' hgrow HVB.out); have HO3 := hide hown3; have HC3 := hide ((grown_cell (p := ⟨b, off + l, none⟩) hgrow (by rw [alloc_size]; simp only; omega) HVC.out).trans HC2a.out); clear hown3 hgrow))
      have HOn := hide (show Own w3 (w.heap.size + 1) 2 .i64 v3 (iv (tab (j + 1) f)) by
        have := HO3.out; rw [tab_snoc, iv_app, iv_one, HY.out]; exact this)
      clear HO3
      have hm1 : l < n := hlt
      go_wp2_with fail
      go_roundw
      case rel => exact ⟨j + 1, by have := HLJ.out; omega, by rw [HLJ.out]; go_num, HOn.out, HX3.out⟩
      case measure => have := HLJ.out; simp [intOf]; omega
    · have hjN : j = n - 1 := by omega
      have HE := hide (show trim (tab j f) = derP h ps by rw [hjN]; exact HA.out)
      have HF := hide HO.out.form
      obtain ⟨Av, cv, rfl, hcv⟩ := HF.out
      rw [iv_len, tab_len] at hcv HO ⊢
      clear hjN
      go_wp2_with fail
      refine (specTrimE Av j cv wr.heap.size (tab j f) wr HO.out.intsE (Nat.le_refl _) (by omega) hcv).mono ?_
      rw [HE.out]
      rintro e w1 ⟨A1, c1, rfl, hc1, ho1, hb1⟩
      have HX1 := hide (HX.out.next hb1)
      have HO1 := hide (ho1.low (Nat.le_of_lt HX.out.lt))
      clear ho1 hb1
      go_wp2_with fail
      go_ret
      exact ⟨A1, c1, rfl, hc1, HO1, HX1.out.2⟩
end
end Go.Proofs.YtlphodhecaagbaaGreat

namespace Go.Proofs.YtlphodhecaagbaaGreat
open Go.RowKit
set_option linter.unusedSimpArgs false
set_option linter.unusedVariables false

section
variable {R : Fld} {p k g : Int}
def DiRel (w : World) (p k g : Int) (N : Nat) (f : Nat → El R) (i : Value) (wr : World) : Prop :=
  ∃ j : Nat, j ≤ N ∧ i = .int .i64 j ∧ Own wr (w.heap.size + 1) 2 .i64 (.slice (some ⟨w.heap.size + 1, 0, none⟩) N N) (iv (tab N fun l => if l < j then f l else 0)) ∧ Box w wr 25 p k g
theorem num_tmod (h : FldIs R p k g) (l : Nat) : ((l : Nat) : Int).tmod p = ((numE h l).val : Int) ∧ p ≠ 0 := by
  obtain ⟨P, rfl, h2, h3⟩ := kd_prime h.kind
  rw [num_val, Int.toNat_natCast, Int.tmod_eq_emod_of_nonneg (by omega)]
  exact ⟨rfl, by omega⟩

set_option maxRecDepth 100000 in
set_option maxHeartbeats 4000000 in
theorem implDerE (h : FldIs R p k g) (ps : List (El R)) (A : Option Addr) (n c B : Nat) (w : World) (hI : Ints .i64 w B A n (iv ps)) (hB : B ≤ w.heap.size) (hn : n ≤ 549755813888) :
    Calls Tryz.prog 134 #[.slice A n c, .agg #[.int .i64 p, .int .i64 k, .int .i64 g]] w (NewE (derP h ps) w) := by
  have HX := hide (Box.start w 25 p k g)
  have hpn : ps.length = n := by rw [← iv_len]; exact hI.len
  have HI := hide hI
  clear hI
  obtain ⟨f, hf⟩ : ∃ f : Nat → El R, f = fun i => numE h (i + 1) * cf ps (i + 1) := ⟨_, rfl⟩
  have HA := hide (show trim (tab (n - 1) f) = derP h ps by rw [derP, hpn, hf])
  have HFF := hide hf
  clear hf
  rcases Nat.eq_zero_or_pos n with h0 | h0
  · subst h0
    have HE := hide (show derP h ps = [] by rw [← HA.out]; rfl)
    rw [HE.out]
    go_enter Tryz.func134, Tryz.ntmps134
    go_wp2_with fail
    go_ret
    exact ⟨none, 0, rfl, Nat.le_refl _, World.ownsRow_nil _ _ _ _, HX.out.2⟩
  obtain ⟨N, hN⟩ : ∃ N, N = n - 1 := ⟨_, rfl⟩
  have e0 : ((n : Int) == 0) = false := by simp; omega
  have hN1 : (n : Int) - 1 = (N : Int) := by omega
  have hNn : N < n := by omega
  rw [← hN] at HA
  have HNN := hide hN
  clear hN
  go_enter Tryz.func134, Tryz.ntmps134
  go_wp2_with (refine wpList_mkN _ rfl (.tmp 12) (.tmp 12) 121 rfl elemP .i64 .i64 _ _ N rfl rfl (by omega) (by omega) (by omega) fun w1 h1 h2 => ?_; have HX1 := hide (HX.out.next h2); rw [alloc_size, iv_zeros (R := R)] at h1; have HO1 := hide h1; clear h1 h2)
  go_loopw [16] (fun i wr => DiRel w p k g N f i wr) (fun i _ => N - (intOf i).toNat)
  case atStart => exact ⟨0, by omega, rfl, by have := HO1.out; rw [tab_congr (g := fun l => if l < 0 then f l else 0) (fun i _ => (if_neg (by omega)).symm)] at this; exact this, HX1.out⟩
  case round =>
    clear HX HX1 HO1
    obtain ⟨j, hj, rfl, HO, HX⟩ := hrel
    have HX := hide HX
    have HO := hide HO
    by_cases hlt : j < N
    · obtain ⟨l, hll⟩ : ∃ l, l = j + 1 := ⟨_, rfl⟩
      have hln : l < n := by omega
      obtain ⟨b, off, x, rfl, hb, hx, hc⟩ := (HI.out.below (HX.out.2.mono hB)).at_ hln
      rw [iv_at (by omega)] at hx
      simp only [Option.some.injEq] at hx
      subst hx
      obtain ⟨y, hy⟩ : ∃ y, y = cf ps l := ⟨_, rfl⟩
      rw [← hy] at hc
      have HY := hide (show f j = numE h l * y by rw [HFF.out, hy, hll])
      obtain ⟨hm1, hp0⟩ := num_tmod h l
      obtain ⟨e, he⟩ : ∃ e, e = numE h l := ⟨_, rfl⟩
      rw [← he] at hm1 HY
      have hw1 : IntKind.i64.wrap ((j : Int) + 1) = (l : Int) := by rw [IntWalk.i64_in _ ⟨by omega, by omega⟩]; omega
      have HCP := hide hc
      have HFZ := hide (HO.out.frozenAt j)
      have HCX := hide (show wr.cell? ⟨w.heap.size + 1, j, none⟩ = some (.int .i64 ((0 : El R).val : Int)) from HO.out.cellAt (by rw [iv, List.getElem?_map, tab_at _ hlt, if_neg (by omega)]; rfl))
      have hbl : b < wr.heap.size := Nat.lt_of_lt_of_le hb (Nat.le_trans hB (Nat.le_of_lt HX.out.lt))
      have hgl := (HO.out.lt (g := w.heap.size + 1) rfl).2
      have HNB := hide (show (some (w.heap.size + 1) : Option Nat) ≠ some b by intro e; injection e; omega)
      have HLL := hide hll
      clear hy hc hll he
      go_wp2_with fail
      go_region_held3 (fun w' => w'.cell? ⟨w.heap.size, 0, none⟩ = some (.int .i64 p) ∧ w'.cell? ⟨w.heap.size, 1, none⟩ = some (.int .i64 k) ∧ w'.cell? ⟨w.heap.size, 2, none⟩ = some (.int .i64 g) ∧ w'.cell? ⟨b, off + l, none⟩ = some (.int .i64 (y.val : Int)) ∧ w'.frozen? ⟨w.heap.size + 1, j, none⟩ = false)
        (first
          | exact ⟨HX.out.drew.cells.1, HX.out.drew.cells.2.1, HX.out.drew.cells.2.2, HCP.out, HFZ.out⟩
          | exact ⟨HX2.out.cells.1, HX2.out.cells.2.1, HX2.out.cells.2.2, HCP2.out, HF2.out⟩
          | exact HS4.out)
        ((go_at_call 121; refine (implProdE h e y _).mono ?_; rintro e2 w2 ⟨rfl, hb2⟩; have HX2 := hide (HX.out.drew.next hb2); have HO2 := hide (HO.out.drew.below hb2 (Nat.le_refl _)); have HCP2 := hide ((hb2.cell (p := ⟨b, off + l, none⟩) hbl).trans HCP.out); have HF2 := hide (HO2.out.frozenAt j); have hcx2 := (hb2.cell (p := ⟨w.heap.size + 1, j, none⟩) hgl).trans HCX.out; have HO4 := hide (HO2.out.stored j ((e * y).val : Nat)).1; have HG4 := hide (HO2.out.stored j ((e * y).val : Nat)).2; have HX4 := hide (HX2.out.grow' HG4.out (fun r hr => by simp only [Value.ownBlock, Option.some.injEq] at hr; omega)); have HS4 := hide (And.intro HX4.out.cells.1 (And.intro HX4.out.cells.2.1 (And.intro HX4.out.cells.2.2 (And.intro ((grown_cell (p := ⟨b, off + l, none⟩) HG4.out (Nat.lt_of_lt_of_le hbl hb2.size) HNB.out).trans HCP2.out) (HO4.out.frozenAt j))))); clear hb2))
      have HOn := hide (show Own (w2.setCell ⟨w.heap.size + 1, j, none⟩ (.int .i64 ((e * y).val : Nat))) (w.heap.size + 1) 2 .i64 (.slice (some ⟨w.heap.size + 1, 0, none⟩) N N) (iv (tab N fun l => if l < j + 1 then f l else 0)) by
        have := HO4.out
        rw [iv_set, tab_set] at this
        rw [tab_congr (g := fun i => if i = j then e * y else if i < j then f i else 0) (fun i _ => by
          by_cases h1 : i = j
          · subst h1; rw [if_pos (by omega), if_pos rfl, HY.out]
          · rw [if_neg h1]
            by_cases h2 : i < j
            · rw [if_pos (by omega), if_pos h2]
            · rw [if_neg (by omega), if_neg h2])]
        exact this)
      clear HCP HFZ HCX HCP2 HF2 hcx2 HO2 HO4 HG4 HX2 HS4
      go_wp2_with fail
      go_roundw
      case rel => exact ⟨j + 1, by omega, by rw [← HLL.out], HOn.out, HX4.out⟩
      case measure => have := HLL.out; simp [intOf]; omega
    · obtain rfl : j = N := by omega
      have HE := hide (show (tab j fun l => if l < j then f l else 0) = tab j f from tab_congr fun i hi => if_pos hi)
      have HO' := hide (show Own wr (w.heap.size + 1) 2 .i64 (.slice (some ⟨w.heap.size + 1, 0, none⟩) j j) (iv (tab j f)) by rw [← HE.out]; exact HO.out)
      clear HO
      go_wp2_with fail
      refine (implTrimmed (tab j f) (w.heap.size + 1) j j _ _ HO'.out (by omega)).mono ?_
      rintro e w3 ⟨rfl, hO3, rfl⟩
      have HO3 := hide (newE_of (w := w) hO3 HX.out.2 (Nat.le_succ _))
      rw [HA.out] at HO3 ⊢
      clear hO3
      go_wp2_with fail
      go_ret
      exact HO3

/-- The roots among the first elements. -/
def rootsE (ps : List (El R)) : Nat → List (El R)
  | 0 => []
  | n + 1 => if h : n < R.q then (if ev ⟨n, h⟩ ps = 0 then rootsE ps n ++ [⟨n, h⟩] else rootsE ps n) else rootsE ps n
theorem roots_yes {ps : List (El R)} {x : El R} (h : ev x ps = 0) : rootsE ps (x.val + 1) = rootsE ps x.val ++ [x] := by
  show (if h : x.val < R.q then _ else _) = _
  rw [dif_pos x.lt, if_pos h]
theorem roots_no {ps : List (El R)} {x : El R} (h : ev x ps ≠ 0) : rootsE ps (x.val + 1) = rootsE ps x.val := by
  show (if h : x.val < R.q then _ else _) = _
  rw [dif_pos x.lt, if_neg h]
theorem roots_facts (ps : List (El R)) : ∀ n : Nat, (rootsE ps n).length ≤ n ∧ (rootsE ps n).Nodup ∧ ∀ x ∈ rootsE ps n, ev x ps = 0 ∧ x.val < n
  | 0 => ⟨Nat.le_refl _, List.nodup_nil, fun x hx => by simp [rootsE] at hx⟩
  | n + 1 => by
    obtain ⟨h1, h2, h3⟩ := roots_facts ps n
    by_cases h : n < R.q
    · by_cases hz : ev ⟨n, h⟩ ps = 0
      · have e : rootsE ps (n + 1) = rootsE ps n ++ [⟨n, h⟩] := roots_yes (x := ⟨n, h⟩) hz
        rw [e]
        refine ⟨by rw [List.length_append]; simp; omega, ?_, fun x hx => ?_⟩
        · rw [List.nodup_append]
          refine ⟨h2, by simp, fun a ha b hb => ?_⟩
          obtain rfl : b = ⟨n, h⟩ := by simpa using hb
          intro e
          have := (h3 a ha).2
          rw [e] at this
          exact absurd this (Nat.lt_irrefl n)
        · rw [List.mem_append] at hx
          rcases hx with hx | hx
          · exact ⟨(h3 x hx).1, Nat.lt_succ_of_lt (h3 x hx).2⟩
          · obtain rfl : x = ⟨n, h⟩ := by simpa using hx
            exact ⟨hz, Nat.lt_succ_self n⟩
      · have e : rootsE ps (n + 1) = rootsE ps n := roots_no (x := ⟨n, h⟩) hz
        rw [e]
        exact ⟨by omega, h2, fun x hx => ⟨(h3 x hx).1, Nat.lt_succ_of_lt (h3 x hx).2⟩⟩
    · have e : rootsE ps (n + 1) = rootsE ps n := dif_neg h
      rw [e]
      exact ⟨by omega, h2, fun x hx => ⟨(h3 x hx).1, Nat.lt_succ_of_lt (h3 x hx).2⟩⟩

def RtRel (w : World) (p k g : Int) (ps : List (El R)) (v i : Value) (wr : World) : Prop :=
  ∃ j : Nat, j ≤ R.q ∧ i = .int .i64 j ∧ Own wr (w.heap.size + 1) 2 .i64 v (iv (rootsE ps j)) ∧ Box w wr 25 p k g

end
end Go.Proofs.YtlphodhecaagbaaGreat

namespace Go.Proofs.YtlphodhecaagbaaGreat
open Go.RowKit
set_option linter.unusedSimpArgs false
set_option linter.unusedVariables false

section
variable {R : Fld} {p k g : Int}
/-- Two slices that read as polynomials with the same common divisor. -/
def GcRel (w : World) (p k g : Int) (M : Nat) (ps qs : List (El R)) (u v : Value) (wr : World) : Prop :=
  ∃ (A A' : Option Addr) (n c n' c' : Nat) (pp qq : List (El R)), u = .slice A n c ∧ v = .slice A' n' c' ∧ Ints .i64 wr wr.heap.size A n (iv pp) ∧ Ints .i64 wr wr.heap.size A' n' (iv qq) ∧ Hid (Tr pp ∧ Tr qq ∧ gcdL pp qq = gcdL ps qs ∧ (0 < pp.length ∨ 0 < qq.length)) ∧ n ≤ M ∧ n' ≤ M ∧ Box w wr 25 p k g
def lenOf : Value → Nat
  | .slice _ n _ => n
  | _ => 0
theorem gc_step {ps qs pp qq : List (El R)} (h : Tr pp ∧ Tr qq ∧ gcdL pp qq = gcdL ps qs ∧ (0 < pp.length ∨ 0 < qq.length)) (h0 : 0 < qq.length) :
    Tr qq ∧ Tr (remP pp qq) ∧ gcdL qq (remP pp qq) = gcdL ps qs ∧ (0 < qq.length ∨ 0 < (remP pp qq).length) :=
  ⟨h.2.1, tr_rem h.1, by rw [← gcdL_step h.1 h.2.1 h0]; exact h.2.2.1, .inl h0⟩
theorem gc_end {ps qs pp qq : List (El R)} (h : Tr pp ∧ Tr qq ∧ gcdL pp qq = gcdL ps qs ∧ (0 < pp.length ∨ 0 < qq.length)) (h0 : qq.length = 0) :
    0 < pp.length ∧ scaP (lastE pp).inv pp = gcdM ps qs := by
  have h1 := h.2.2.1
  rw [gcdL_end h0] at h1
  exact ⟨by omega, by rw [gcdM, ← h1]⟩

end
end Go.Proofs.YtlphodhecaagbaaGreat

namespace Go.Proofs.YtlphodhecaagbaaGreat
open Go.RowKit
set_option linter.unusedSimpArgs false
set_option linter.unusedVariables false

/-- A function of a field and one list, or two lists: its contract, whatever the lists' memory. -/
def C1 (f : Nat) (p k g : Int) (z : List Int) (Post : World → Ending → World → Prop) : Prop :=
  ∀ (A : Option Addr) (n c B : Nat) (w : World), Ints .i64 w B A n z → B ≤ w.heap.size → Calls Tryz.prog f #[.agg #[.int .i64 p, .int .i64 k, .int .i64 g], .slice A n c] w (Post w)
def C2 (f : Nat) (p k g : Int) (z z' : List Int) (Post : World → Ending → World → Prop) : Prop :=
  ∀ (A : Option Addr) (n c : Nat) (A' : Option Addr) (n' c' B : Nat) (w : World), Ints .i64 w B A n z → Ints .i64 w B A' n' z' → B ≤ w.heap.size → Calls Tryz.prog f #[.agg #[.int .i64 p, .int .i64 k, .int .i64 g], .slice A n c, .slice A' n' c'] w (Post w)
/-- What a function leaves that returns a new list and a code. -/
def NewIK (r : List Int) (c : Int) (w : World) (x : Ending) (w' : World) : Prop :=
  ∃ A m, x = .returned (.tuple #[.slice A r.length m, .int .i64 c]) ∧ r.length ≤ m ∧ Own w' w.heap.size 2 .i64 (.slice A r.length m) r ∧ Below w.heap.size w w'
theorem newIK_of {r : List Int} {c : Int} {w w' : World} {v : Value} {base : Nat} (h : Own w' base 2 .i64 v r) (hb : Below w.heap.size w w') (hB : w.heap.size ≤ base) : NewIK r c w (.returned (.tuple #[v, .int .i64 c])) w' := by
  obtain ⟨A, m, rfl, hc⟩ := h.form
  exact ⟨A, m, rfl, hc, h.low hB, hb⟩
theorem newIK_nil {c : Int} {w w' : World} (hb : Below w.heap.size w w') : NewIK [] c w (.returned (.tuple #[.slice none 0 0, .int .i64 c])) w' :=
  newIK_of (base := w.heap.size) (World.ownsRow_nil _ _ _ _) hb (Nat.le_refl _)

theorem rws1 {w : World} {B n c : Nat} {A : Option Addr} {z : List Int} (t : TypeId) (h : Ints .i64 w B A n z) (hB : B ≤ w.heap.size) (hn : n ≤ 1099511627776) :
    Rws (w.alloc (.cells #[.slice A n c] t)) (w.heap.size + 1) w.heap.size [(A, n, c, z)] := by
  refine ⟨by omega, fun i e he => ?_⟩
  have h1 := (h.below ((Below.refl B w).alloc hB (.cells #[.slice A n c] t))).more (B' := w.heap.size + 1) (by omega)
  have hi : i < 1 := (List.getElem?_eq_some_iff.1 he).1
  obtain rfl : i = 0 := by omega
  simp only [List.getElem?_cons_zero, Option.some.injEq] at he
  subst he
  exact ⟨by rw [World.cell?_alloc_at _ _ _ _ rfl]; rfl, h1, hn⟩
theorem rws2 {w : World} {B n c n' c' : Nat} {A A' : Option Addr} {z z' : List Int} (t : TypeId) (h : Ints .i64 w B A n z) (h' : Ints .i64 w B A' n' z') (hB : B ≤ w.heap.size) (hn : n ≤ 1099511627776) (hn' : n' ≤ 1099511627776) :
    Rws (w.alloc (.cells #[.slice A n c, .slice A' n' c'] t)) (w.heap.size + 1) w.heap.size [(A, n, c, z), (A', n', c', z')] := by
  refine ⟨by omega, fun i e he => ?_⟩
  have h1 := (h.below ((Below.refl B w).alloc hB (.cells #[.slice A n c, .slice A' n' c'] t))).more (B' := w.heap.size + 1) (by omega)
  have h2 := (h'.below ((Below.refl B w).alloc hB (.cells #[.slice A n c, .slice A' n' c'] t))).more (B' := w.heap.size + 1) (by omega)
  have hi : i < 2 := (List.getElem?_eq_some_iff.1 he).1
  rcases (show i = 0 ∨ i = 1 by omega) with rfl | rfl
  · simp only [List.getElem?_cons_zero, Option.some.injEq] at he
    subst he
    exact ⟨by rw [World.cell?_alloc_at _ _ _ _ rfl]; rfl, h1, hn⟩
  · simp only [List.getElem?_cons_succ, List.getElem?_cons_zero, Option.some.injEq] at he
    subst he
    exact ⟨by rw [World.cell?_alloc_at _ _ _ _ rfl]; rfl, h2, hn'⟩

theorem rws1b {w : World} {B n c : Nat} {A : Option Addr} {z : List Int} (o : Obj) (t : TypeId) (h : Ints .i64 w B A n z) (hB : B ≤ w.heap.size) (hn : n ≤ 1099511627776) :
    Rws ((w.alloc o).alloc (.cells #[.slice A n c] t)) (w.heap.size + 2) (w.heap.size + 1) [(A, n, c, z)] := by
  have h1 := rws1 (c := c) t (h.below ((Below.refl B w).alloc hB o)) (by rw [alloc_size]; omega) hn
  rw [alloc_size] at h1; exact h1
theorem rws2b {w : World} {B n c n' c' : Nat} {A A' : Option Addr} {z z' : List Int} (o : Obj) (t : TypeId) (h : Ints .i64 w B A n z) (h' : Ints .i64 w B A' n' z') (hB : B ≤ w.heap.size) (hn : n ≤ 1099511627776) (hn' : n' ≤ 1099511627776) :
    Rws ((w.alloc o).alloc (.cells #[.slice A n c, .slice A' n' c'] t)) (w.heap.size + 2) (w.heap.size + 1) [(A, n, c, z), (A', n', c', z')] := by
  have h1 := rws2 (c := c) (c' := c') t (h.below ((Below.refl B w).alloc hB o)) (h'.below ((Below.refl B w).alloc hB o)) (by rw [alloc_size]; omega) hn hn'
  rw [alloc_size] at h1; exact h1

theorem poly_open {R : Fld} {zs : List Int} (h : polyB R.q zs = true) : ∃ ps : List (El R), zs = iv ps ∧ Tr ps ∧ ps.length ≤ 512 := by
  simp only [polyB, Bool.and_eq_true, decide_eq_true_eq] at h
  obtain ⟨h1, h2, h3⟩ := h
  obtain ⟨ps, rfl⟩ := iv_of h2
  rw [iv_len] at h1
  refine ⟨ps, rfl, fun i hi e => h3 ?_, h1⟩
  rw [List.getLast?_eq_getElem?, iv_len, show ps.length - 1 = i by omega, iv_at (by omega), e]; rfl
theorem poly_shut {R : Fld} {ps : List (El R)} (h : Tr ps) (hl : ps.length ≤ 512) : polyB R.q (iv ps) = true := by
  simp only [polyB, Bool.and_eq_true, decide_eq_true_eq, iv_len]
  refine ⟨hl, iv_all ps, fun e => ?_⟩
  rw [List.getLast?_eq_getElem?, iv_len] at e
  have h0 : 0 < ps.length := by
    rcases Nat.eq_zero_or_pos ps.length with h0 | h0
    · rw [List.getElem?_eq_none (by rw [iv_len]; omega)] at e; cases e
    · exact h0
  rw [iv_at (by omega)] at e
  simp only [Option.some.injEq] at e
  exact h (ps.length - 1) (by omega) (El.eq (by rw [val_zero]; omega))
theorem pErr_good {p k g : Int} {L : List (List Int)} (h : pErr p k g L ≠ 1) : pErr p k g L = 0 ∧ fieldB p k g = true ∧ ∃ R : Fld, FldIs R p k g ∧ ∀ z ∈ L, ∃ ps : List (El R), z = iv ps ∧ Tr ps ∧ ps.length ≤ 512 := by
  unfold pErr at h ⊢
  by_cases hh : fieldB p k g = true ∧ ∀ zs ∈ L, polyB (sizeI p k).toNat zs = true
  · rw [if_pos hh]
    obtain ⟨R, hR⟩ := fld_ex hh.1
    refine ⟨rfl, hh.1, R, hR, fun z hz => poly_open ?_⟩
    have := hh.2 z hz
    rwa [hR.kind.size, Int.toNat_natCast] at this
  · rw [if_neg hh] at h; exact absurd rfl h
theorem pErr1 (p k g : Int) (z : List Int) : pErr p k g [z] = 1 ∨ (pErr p k g [z] = 0 ∧ fieldB p k g = true ∧ ∃ (R : Fld) (ps : List (El R)), FldIs R p k g ∧ z = iv ps ∧ Tr ps ∧ ps.length ≤ 512) := by
  by_cases h : pErr p k g [z] = 1
  · exact .inl h
  · obtain ⟨h0, hf, R, hR, hL⟩ := pErr_good h
    obtain ⟨ps, h1, h2, h3⟩ := hL z (by simp)
    exact .inr ⟨h0, hf, R, ps, hR, h1, h2, h3⟩
theorem pErr2 (p k g : Int) (z z' : List Int) : pErr p k g [z, z'] = 1 ∨ (pErr p k g [z, z'] = 0 ∧ fieldB p k g = true ∧ ∃ (R : Fld) (ps qs : List (El R)), FldIs R p k g ∧ z = iv ps ∧ Tr ps ∧ ps.length ≤ 512 ∧ z' = iv qs ∧ Tr qs ∧ qs.length ≤ 512) := by
  by_cases h : pErr p k g [z, z'] = 1
  · exact .inl h
  · obtain ⟨h0, hf, R, hR, hL⟩ := pErr_good h
    obtain ⟨ps, h1, h2, h3⟩ := hL z (by simp)
    obtain ⟨qs, h4, h5, h6⟩ := hL z' (by simp)
    exact .inr ⟨h0, hf, R, ps, qs, hR, h1, h2, h3, h4, h5, h6⟩
theorem len40 {z : List Int} (h : z.length ≤ 1048576) : z.length ≤ 1099511627776 := Nat.le_trans h (by omega)
theorem iv512 {R : Fld} {ps : List (El R)} (h : ps.length ≤ 1024) : (iv ps).length ≤ 1099511627776 := by rw [iv_len]; omega

section
variable (p k g : Int) (z z' : List Int)
end
end Go.Proofs.YtlphodhecaagbaaGreat
