/-
  The contracts of the model's values, sums of equal elements and derivatives of polynomials.
  Condition: the field is valid, and lists are shorter than 2^39.
-/
import Derived.Test.YthafkohopkgckaaPSpec2
namespace Go.Proofs.Ythafkohopkgckaa
open Go.RowKit
set_option linter.unusedSimpArgs false
set_option linter.unusedVariables false

section
variable {R : Fld} {p k g : Int}
set_option maxHeartbeats 1000000 in
theorem specEvalE (h : FldIs R p k g) (x : El R) (ps : List (El R)) (A : Option Addr) (n c B : Nat) (w : World) (hI : Ints .i64 w B A n (iv ps)) (hB : B ≤ w.heap.size) (hn : n ≤ 1099511627776) :
    Calls Try.prog 78 #[.agg #[.int .i64 p, .int .i64 k, .int .i64 g], .slice A n c, .int .i64 x.val] w (Gives (.int .i64 ((ev x ps).val : Nat)) w) := by
  have HX := hide (Box.start w 25 p k g)
  have HI := hide hI
  have hl : ps.length = n := by rw [← iv_len]; exact hI.len
  clear hI
  go_enter Try.func78, Try.ntmps78
  go_wp2_with fail
  go_loopw [7, 8] (fun v i wr => EvRel w p k g n x ps v i wr) (fun _ i _ => (intOf i + 1).toNat)
  case atStart => exact ⟨n, _, 0, Nat.le_refl _, rfl, rfl, rfl, by rw [List.drop_of_length_le (by omega)]; rfl, HX⟩
  case round =>
    clear HX
    obtain ⟨j, kk, y, hj, hkk, rfl, rfl, HY, HX⟩ := hrel
    have HX := hide HX
    by_cases hj0 : j = 0
    · subst hj0
      obtain rfl : kk = -1 := by omega
      have HF := hide (show (((ev x ps).val : Nat) : Int) = (y.val : Int) by rw [HY.out]; rfl)
      clear hkk
      go_wp2_with fail
      go_ret
      exact ⟨ret_int HF, HX.out.2⟩
    · obtain ⟨i, rfl⟩ : ∃ i, j = i + 1 := ⟨j - 1, by omega⟩
      obtain rfl : kk = (i : Int) := by omega
      clear hkk
      have hin : i < n := by omega
      obtain ⟨b, off, z, rfl, hb, hz, hc⟩ := (HI.out.below (HX.out.2.mono hB)).at_ hin
      rw [iv_at (by omega)] at hz
      simp only [Option.some.injEq] at hz
      subst hz
      obtain ⟨u, hu⟩ : ∃ u, u = cf ps i := ⟨_, rfl⟩
      rw [← hu] at hc
      have HN := hide (show y * x + u = ev x (ps.drop i) by rw [ev_drop (by omega), ← HY.out, hu])
      have hbl : b < wr.heap.size := Nat.lt_of_lt_of_le hb (Nat.le_trans hB (Nat.le_of_lt HX.out.lt))
      have HC := hide hc
      clear hu hc
      go_wp2_with fail
      go_region_held3 (fun w' => w'.cell? ⟨w.heap.size, 0, none⟩ = some (.int .i64 p) ∧ w'.cell? ⟨w.heap.size, 1, none⟩ = some (.int .i64 k) ∧ w'.cell? ⟨w.heap.size, 2, none⟩ = some (.int .i64 g) ∧ w'.cell? ⟨b, off + i, none⟩ = some (.int .i64 (u.val : Int)))
        (first
          | exact ⟨HX.out.drew.cells.1, HX.out.drew.cells.2.1, HX.out.drew.cells.2.2, HC.out⟩
          | exact ⟨HX2.out.cells.1, HX2.out.cells.2.1, HX2.out.cells.2.2, HC2.out⟩
          | exact ⟨HX3.out.cells.1, HX3.out.cells.2.1, HX3.out.cells.2.2, HC3.out⟩)
        (first
          | (go_at_call 85; refine (specMulE h y x _).mono ?_; rintro e w2 ⟨rfl, hb2⟩; have HX2 := hide (HX.out.drew.next hb2); have HC2 := hide ((hb2.cell (p := ⟨b, off + i, none⟩) hbl).trans HC.out); have hbl2 : b < w2.heap.size := Nat.lt_of_lt_of_le hbl hb2.size; clear hb2)
          | (go_at_call 61; refine (specAddE h (y * x) u _).mono ?_; rintro e w3 ⟨rfl, hb3⟩; have HX3 := hide (HX2.out.next hb3); have HC3 := hide ((hb3.cell (p := ⟨b, off + i, none⟩) hbl2).trans HC2.out); clear hb3))
      go_wp2_with fail
      go_roundw
      case rel => exact ⟨i, _, y * x + u, by omega, rfl, rfl, rfl, HN, HX3⟩
      case measure => simp [intOf]

/-- The sum of j ones, by the numbers of the field. -/
def numE (h : FldIs R p k g) (j : Nat) : El R := ⟨j % p.toNat, by
  have hk := h.kind
  generalize R.q = q at hk ⊢
  generalize R.mul = mul at hk
  cases hk with
  | one _ _ h3 h => exact Nat.mod_lt _ (by omega)
  | two K G h3 h8 hG hG2 => have := pow_small h3 h8; have h2 : j % (2 : Int).toNat < 2 := Nat.mod_lt _ (by decide); omega⟩
theorem num_val (h : FldIs R p k g) (j : Nat) : (numE h j).val = j % p.toNat := rfl
theorem kd_prime {q : Nat} {mul : Nat → Nat → Nat} (h : Kd p k g q mul) : ∃ P : Nat, p = P ∧ 2 ≤ P ∧ P ≤ 1021 := by
  cases h with
  | one _ _ h3 h => exact ⟨q, rfl, by omega, h⟩
  | two K G h3 h8 hG hG2 => exact ⟨2, rfl, by omega, by omega⟩

set_option maxHeartbeats 1000000 in
theorem specTimes0 {q : Nat} {mul : Nat → Nat → Nat} (h : Kd p k g q mul) (a j : Nat) (ha : a < q) (hj : j ≤ 1099511627776) (w : World) :
    Calls Try.prog 113 #[.agg #[.int .i64 p, .int .i64 k, .int .i64 g], .int .i64 a, .int .i64 j] w (Gives (.int .i64 (mul (j % p.toNat) a : Nat)) w) := by
  have hmon := h.mon
  cases h with
  | one _ _ h3 h =>
    have HX := hide (Box.start w 25 q 1 g)
    obtain ⟨c0, c1, c2⟩ := HX.out.cells
    obtain ⟨r, hr⟩ : ∃ r : Nat, r = j % q := ⟨_, rfl⟩
    have hrq : r < q := by rw [hr]; exact Nat.mod_lt _ (by omega)
    have hm1 : ((j : Nat) : Int).tmod (q : Int) = (r : Int) := by rw [Int.tmod_eq_emod_of_nonneg (by omega), hr]; rfl
    have hle : a * r ≤ 1021 * 1021 := Nat.mul_le_mul (by omega) (by omega)
    obtain ⟨s, hs⟩ : ∃ s : Nat, s = a * r := ⟨_, rfl⟩
    have hw1 : IntKind.i64.wrap ((a : Int) * (r : Int)) = (s : Int) := by rw [IntWalk.i64_in _ ⟨by rw [← Int.natCast_mul]; omega, by rw [← Int.natCast_mul]; omega⟩, hs]; simp
    have hm2 : ((s : Nat) : Int).tmod (q : Int) = ((s % q : Nat) : Int) := by rw [Int.tmod_eq_emod_of_nonneg (by omega)]; rfl
    have HF := hide (show ((mul1 q (j % ((q : Nat) : Int).toNat) a : Nat) : Int) = ((s % q : Nat) : Int) by
      rw [Int.toNat_natCast, ← hr, hs]; unfold mul1; rw [Nat.mul_comm])
    have hq0 : (q : Int) ≠ 0 := by omega
    obtain ⟨t, ht⟩ : ∃ t : Nat, t = s % q := ⟨_, rfl⟩
    rw [← ht] at hm2 HF
    obtain ⟨Q, hQ⟩ : ∃ Q : Int, Q = (q : Int) := ⟨_, rfl⟩
    obtain ⟨S, hS⟩ : ∃ S : Int, S = (s : Int) := ⟨_, rfl⟩
    rw [← hQ] at hm1 hm2 hq0 c0 c1 c2 HX HF ⊢
    rw [← hS] at hw1 hm2
    have hS0 : 0 ≤ S ∧ S ≤ 2000000 := by omega
    clear hr hs ht hQ hS hle
    go_enter Try.func113, Try.ntmps113
    go_wp2_with fail
    go_quiet (fail)
    go_wp2_with fail
    go_ret
    exact ⟨ret_int HF, (HX.out.drewN _).2⟩
  | two K G h3 h8 hG hG2 =>
    have HX := hide (Box.start w 25 2 K G)
    have e1 : ((K : Int) == 1) = false := by simp; omega
    have hp := pow_small h3 h8
    rcases (show j % 2 = 0 ∨ j % 2 = 1 by omega) with hr | hr
    · have HF := hide (show ((mul2 K G (j % ((2 : Int)).toNat) a : Nat) : Int) = 0 by
        rw [show j % ((2 : Int)).toNat = 0 from hr, hmon.zero]; rfl)
      have e2 : ((j : Nat) : Int) % 2 = 0 := by omega
      go_enter Try.func113, Try.ntmps113
      go_wp2_with fail
      go_ret
      exact ⟨ret_int HF, HX.out.2⟩
    · have HF := hide (show ((mul2 K G (j % ((2 : Int)).toNat) a : Nat) : Int) = a by
        rw [show j % ((2 : Int)).toNat = 1 from hr, hmon.one _ ha])
      have e2 : ((j : Nat) : Int) % 2 = 1 := by omega
      go_enter Try.func113, Try.ntmps113
      go_wp2_with fail
      go_ret
      exact ⟨ret_int HF, HX.out.2⟩
theorem specTimesE (h : FldIs R p k g) (a : El R) (j : Nat) (hj : j ≤ 1099511627776) (w : World) :
    Calls Try.prog 113 #[.agg #[.int .i64 p, .int .i64 k, .int .i64 g], .int .i64 a.val, .int .i64 j] w (Gives (.int .i64 ((numE h j * a).val : Nat)) w) :=
  specTimes0 h.kind a.val j a.lt hj w

/-- The derivative. -/
def derP (h : FldIs R p k g) (ps : List (El R)) : List (El R) := trim (tab (ps.length - 1) fun i => numE h (i + 1) * cf ps (i + 1))

def DeRel (w : World) (p k g : Int) (n : Nat) (f : Nat → El R) (v i : Value) (wr : World) : Prop :=
  ∃ j : Nat, j ≤ n - 1 ∧ i = .int .i64 (j + 1 : Nat) ∧ Own wr (w.heap.size + 1) 2 .i64 v (iv (tab j f)) ∧ Box w wr 25 p k g

set_option maxRecDepth 100000 in
set_option maxHeartbeats 4000000 in
theorem specDerE (h : FldIs R p k g) (ps : List (El R)) (A : Option Addr) (n c B : Nat) (w : World) (hI : Ints .i64 w B A n (iv ps)) (hB : B ≤ w.heap.size) (hn : n ≤ 549755813888) :
    Calls Try.prog 92 #[.agg #[.int .i64 p, .int .i64 k, .int .i64 g], .slice A n c] w (NewE (derP h ps) w) := by
  have HX := hide (Box.start w 25 p k g)
  have hpn : ps.length = n := by rw [← iv_len]; exact hI.len
  have HI := hide hI
  clear hI
  obtain ⟨f, hf⟩ : ∃ f : Nat → El R, f = fun i => numE h (i + 1) * cf ps (i + 1) := ⟨_, rfl⟩
  have HA := hide (show trim (tab (n - 1) f) = derP h ps by rw [derP, hpn, hf])
  have HFF := hide hf
  clear hf
  go_enter Try.func92, Try.ntmps92
  go_wp2_with fail
  have HXs := hide (HX.out.alloc (.cells #[] 2))
  have HOs := hide (Own.lit0 (w.alloc (.cells #[.int .i64 p, .int .i64 k, .int .i64 g] 25)) 2 .i64)
  go_loopw [5, 6] (fun v i wr => DeRel w p k g n f v i wr) (fun _ i _ => n - (intOf i).toNat)
  case atStart => exact ⟨0, by omega, rfl, by rw [← alloc_size w (.cells #[.int .i64 p, .int .i64 k, .int .i64 g] 25)]; exact HOs.out, HXs.out⟩
  case round =>
    clear HX HXs HOs
    obtain ⟨v, rfl⟩ : ∃ v : Value, v = u5 := ⟨_, rfl⟩
    obtain ⟨j, hj, rfl, HO, HX⟩ := hrel
    have HX := hide HX
    have HO := hide HO
    by_cases hlt : j + 1 < n
    · obtain ⟨l, hll⟩ : ∃ l, l = j + 1 := ⟨_, rfl⟩
      rw [← hll] at hlt ⊢
      obtain ⟨b, off, x, rfl, hb, hx, hc⟩ := (HI.out.below (HX.out.2.mono hB)).at_ hlt
      rw [iv_at (by omega)] at hx
      simp only [Option.some.injEq] at hx
      subst hx
      obtain ⟨y, hy⟩ : ∃ y, y = cf ps l := ⟨_, rfl⟩
      rw [← hy] at hc
      have HY := hide (show f j = numE h l * y by rw [HFF.out, hy, hll])
      have HC := hide hc
      have hbl : b < wr.heap.size := Nat.lt_of_lt_of_le hb (Nat.le_trans hB (Nat.le_of_lt HX.out.lt))
      have hwl : w.heap.size < wr.heap.size := HX.out.lt
      have HVB := hide (show ∀ b, v.ownBlock = some b → w.heap.size < b from fun b hb => (HO.out.lt hb).1)
      have HVC := hide (show v.ownBlock ≠ some b from fun e => by have := (HO.out.lt e).1; omega)
      have hlj : l = j + 1 := hll
      have HLJ := hide hlj
      have hl40 : l ≤ 549755813888 := by omega
      have hj40 : j ≤ 549755813888 := by omega
      clear hy hc hll hlj
      go_wp2_with fail
      go_region_held3 (fun w' => w'.cell? ⟨w.heap.size, 0, none⟩ = some (.int .i64 p) ∧ w'.cell? ⟨w.heap.size, 1, none⟩ = some (.int .i64 k) ∧ w'.cell? ⟨w.heap.size, 2, none⟩ = some (.int .i64 g) ∧ w'.cell? ⟨b, off + l, none⟩ = some (.int .i64 (y.val : Int)))
        (first
          | exact ⟨HX.out.drew.cells.1, HX.out.drew.cells.2.1, HX.out.drew.cells.2.2, HC.out⟩
          | exact ⟨HX2.out.cells.1, HX2.out.cells.2.1, HX2.out.cells.2.2, HC2.out⟩
          | exact ⟨(HX2.out.alloc _).cells.1, (HX2.out.alloc _).cells.2.1, (HX2.out.alloc _).cells.2.2, HC2a.out⟩
          | exact ⟨HX3.out.cells.1, HX3.out.cells.2.1, HX3.out.cells.2.2, HC3.out⟩)
        (first
          | (go_at_call 113; refine (specTimesE h y l (by omega) _).mono ?_; rintro e w2 ⟨rfl, hb2⟩; have HX2 := hide (HX.out.drew.next hb2); have HO2 := hide (HO.out.drew.below hb2 (Nat.le_refl _)); have HC2 := hide ((hb2.cell (p := ⟨b, off + l, none⟩) hbl).trans HC.out); have hbl2 : b < w2.heap.size := Nat.lt_of_lt_of_le hbl hb2.size; have HC2a := hide ((((Below.refl w2.heap.size w2).alloc (Nat.le_refl _) (.cells #[.int .i64 ((numE h l * y).val : Int)] 2)).cell (p := ⟨b, off + l, none⟩) hbl2).trans HC2.out); clear hb2)
          | (refine step_appL _ (by rfl) _ _ _ (by rfl) elem64 (w.heap.size + 1) v (iv (tab j f)) (by rfl) (HO2.out.alloc _) (w2.heap.size + 1) (some ⟨w2.heap.size, 0, none⟩) 1 1 [((numE h l * y).val : Int)] (by rfl) (ints_one w2 2 .i64 ((numE h l * y).val : Int)) (by rw [iv_len, tab_len]; omega) (by have := HX2.out.lt; rw [alloc_size]; omega) ?_; intro v3 w3 hown3 hgrow; have HX3 := hide ((HX2.out.alloc _).grow' hgrow HVB.out); have HO3 := hide hown3; have HC3 := hide ((grown_cell (p := ⟨b, off + l, none⟩) hgrow (by rw [alloc_size]; simp only; omega) HVC.out).trans HC2a.out); clear hown3 hgrow))
      have HOn := hide (show Own w3 (w.heap.size + 1) 2 .i64 v3 (iv (tab (j + 1) f)) by
        have := HO3.out; rw [tab_snoc, iv_app, iv_one, HY.out]; exact this)
      clear HO3
      have hm1 : l < n := hlt
      go_wp2_with fail
      go_roundw
      case rel => exact ⟨j + 1, by have := HLJ.out; omega, by rw [HLJ.out]; go_num, HOn.out, HX3.out⟩
      case measure => have := HLJ.out; simp [intOf]; omega
    · have hjN : j = n - 1 := by omega
      have HE := hide (show trim (tab j f) = derP h ps by rw [hjN]; exact HA.out)
      have HF := hide HO.out.form
      obtain ⟨Av, cv, rfl, hcv⟩ := HF.out
      rw [iv_len, tab_len] at hcv HO ⊢
      clear hjN
      go_wp2_with fail
      refine (specTrimE Av j cv wr.heap.size (tab j f) wr HO.out.intsE (Nat.le_refl _) (by omega) hcv).mono ?_
      rw [HE.out]
      rintro e w1 ⟨A1, c1, rfl, hc1, ho1, hb1⟩
      have HX1 := hide (HX.out.next hb1)
      have HO1 := hide (ho1.low (Nat.le_of_lt HX.out.lt))
      clear ho1 hb1
      go_wp2_with fail
      go_ret
      exact ⟨A1, c1, rfl, hc1, HO1, HX1.out.2⟩
end
end Go.Proofs.Ythafkohopkgckaa
