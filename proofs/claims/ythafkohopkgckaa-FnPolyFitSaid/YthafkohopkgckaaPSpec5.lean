/-
  The contract of the model's quotients of polynomials.
  Condition: the field is valid, the divisor is not empty, and lists are shorter than 2^39.
-/
import Derived.Test.YthafkohopkgckaaPSpec2
import Derived.Test.YthafkohopkgckaaTail
namespace Go.Proofs.Ythafkohopkgckaa
open Go.RowKit
set_option linter.unusedSimpArgs false
set_option linter.unusedVariables false

section
variable {R : Fld} {p k g : Int}
/-- What a function leaves that returns two new lists of elements. -/
def NewEE (qs rs : List (El R)) (w : World) (x : Ending) (w' : World) : Prop :=
  ∃ A c A' c', x = .returned (.tuple #[.slice A qs.length c, .slice A' rs.length c']) ∧ qs.length ≤ c ∧ rs.length ≤ c' ∧ Own w' w.heap.size 2 .i64 (.slice A qs.length c) (iv qs) ∧ Own w' w.heap.size 2 .i64 (.slice A' rs.length c') (iv rs) ∧
    (((Value.slice A qs.length c).ownBlock = none ∨ (Value.slice A qs.length c).ownBlock ≠ (Value.slice A' rs.length c').ownBlock) ∧ ((Value.slice A' rs.length c').ownBlock = none ∨ (Value.slice A' rs.length c').ownBlock ≠ (Value.slice A qs.length c).ownBlock)) ∧ Below w.heap.size w w'

def SvRel (w : World) (p k g : Int) (gr cr gq n K d : Nat) (ps qs : List (El R)) (v : El R) (i : Value) (wr : World) : Prop :=
  ∃ (j : Nat) (kk : Int) (f t : Nat → El R), j ≤ K ∧ kk = (j : Int) - 1 ∧ i = .int .i64 kk ∧ Hid (dvs (cf qs) d v j f = dvs (cf qs) d v K (cf ps)) ∧ Hid (∀ i, (if i < j then dvq (cf qs) d v j f i else t i) = dvq (cf qs) d v K (cf ps) i) ∧
    Own wr gr 2 .i64 (.slice (some ⟨gr, 0, none⟩) n cr) (iv (tab n f)) ∧ Own wr gq 2 .i64 (.slice (some ⟨gq, 0, none⟩) K K) (iv (tab K t)) ∧ Box w wr 25 p k g
def SiRel (w : World) (p k g : Int) (gr cr gq n m K s : Nat) (a : El R) (f t : Nat → El R) (qs : List (El R)) (i : Value) (wr : World) : Prop :=
  ∃ j : Nat, j ≤ m ∧ i = .int .i64 j ∧ Own wr gr 2 .i64 (.slice (some ⟨gr, 0, none⟩) n cr) (iv (tab n fun i => f i + up s a (cf (qs.take j)) i)) ∧ Own wr gq 2 .i64 (.slice (some ⟨gq, 0, none⟩) K K) (iv (tab K t)) ∧ Box w wr 25 p k g
theorem Own.at_block {w : World} {base g n c : Nat} {e : TypeId} {k : IntKind} {zs : List Int} (h : Own w base e k (.slice (some ⟨g, 0, none⟩) n c) zs) : Own w g e k (.slice (some ⟨g, 0, none⟩) n c) zs := by
  refine ⟨h.1, ?_⟩
  rcases h.2 with ⟨h0, _⟩ | ⟨g', cap, cur, h1, h2, h3⟩
  · cases h0
  · refine .inr ⟨g', cap, cur, h1, ?_, h3⟩
    simp only [Value.slice.injEq, Option.some.injEq, Addr.mk.injEq, and_true] at h1
    omega
theorem Box.set'' {w wr : World} {t : TypeId} {b : Nat} (h : Box w wr t p k g) (hb : w.heap.size < b) (j : Nat) (u : Value) : Box w (wr.setCell ⟨b, j, none⟩ u) t p k g :=
  h.grow' (set_grown wr b j u) (fun r hr => by simp only [Option.some.injEq] at hr; omega)

set_option maxRecDepth 100000 in
set_option maxHeartbeats 8000000 in
theorem specDivE (h : FldIs R p k g) (ps qs : List (El R)) (A A' : Option Addr) (n c m c' B : Nat) (w : World) (hI : Ints .i64 w B A n (iv ps)) (hJ : Ints .i64 w B A' m (iv qs)) (hB : B ≤ w.heap.size) (hn : n ≤ 549755813888) (hm : m ≤ 549755813888) (hm0 : 0 < m) :
    Calls Try.prog 75 #[.agg #[.int .i64 p, .int .i64 k, .int .i64 g], .slice A n c, .slice A' m c'] w (NewEE (trim (quoP ps qs)) (remP ps qs) w) := by
  have HX := hide (Box.start w 25 p k g)
  have hpn : ps.length = n := by rw [← iv_len]; exact hI.len
  have hqm : qs.length = m := by rw [← iv_len]; exact hJ.len
  have HI := hide hI
  have HJ := hide hJ
  have HIa := hide (hI.below ((Below.refl _ _).alloc hB (.cells #[.int .i64 p, .int .i64 k, .int .i64 g] 25)))
  clear hI hJ
  by_cases hlt : n < m
  · have HQ := hide (show trim (quoP ps qs) = [] by rw [quoP, if_pos (by omega)]; rfl)
    have HR := hide (show remP ps qs = ps by rw [remP, if_pos (by omega)])
    rw [HQ.out, HR.out]
    go_enter Try.func75, Try.ntmps75
    go_wp2_with fail
    refine (specOwnE A n c B ps _ HIa.out (by rw [alloc_size]; omega) (by omega)).mono ?_
    rintro e w1 ⟨A1, c1, rfl, hc1, ho1, hb1⟩
    have HX1 := hide (HX.out.next hb1)
    have hO2 := Own.lit0 w1 2 .i64
    have HO2 := hide (hO2.low (Nat.le_of_lt HX1.out.lt))
    have HO1 := hide ((ho1.low (base' := w.heap.size) (by rw [alloc_size]; omega)).alloc (.cells #[] 2))
    have HN1 := hide (ho1.ne hO2 (Nat.le_refl _))
    have HN2 := hide (ho1.ne' hO2 (Nat.le_refl _))
    have HX2 := hide (HX1.out.alloc (.cells #[] 2))
    clear ho1 hb1 hO2
    go_wp2_with fail
    go_ret2
    exact ⟨_, _, _, _, by rw [hpn]; rfl, Nat.le_refl _, hc1, HO2.out, HO1.out, ⟨HN2.out, HN1.out⟩, HX2.out.2⟩
  · obtain ⟨K, hK⟩ : ∃ K, K = n - m + 1 := ⟨_, rfl⟩
    obtain ⟨v, hv⟩ : ∃ v, v = (lastE qs).inv := ⟨_, rfl⟩
    have HQ := hide (show quoP ps qs = tab K (dvq (cf qs) (qs.length - 1) v K (cf ps)) by rw [quoP, if_neg (by omega), hpn, hqm, ← hK, ← hv])
    have HR := hide (show remP ps qs = trim (tab n (dvs (cf qs) (qs.length - 1) v K (cf ps))) by rw [remP, if_neg (by omega), hpn, hqm, ← hK, ← hv])
    obtain ⟨d, hd⟩ : ∃ d, m = d + 1 := ⟨m - 1, by omega⟩
    rw [hqm, show m - 1 = d by omega] at HQ HR
    have hd1 : d + 1 ≤ m := by omega
    have hd2 : m ≤ d + 1 := by omega
    have hd3 : d < m := by omega
    have hmd : IntKind.i64.wrap ((m : Int) - 1) = (d : Int) := by rw [IntWalk.i64_in _ ⟨by omega, by omega⟩]; omega
    clear hd
    have HV := hide hv
    have hKn : (n : Int) - (m : Int) + 1 = (K : Int) := by omega
    have hK1 : 1 ≤ K := by omega
    have hKm : K + m = n + 1 := by omega
    clear hK hv
    go_enter Try.func75, Try.ntmps75
    go_wp2_with fail
    refine (specOwnE A n c B ps _ HIa.out (by rw [alloc_size]; omega) (by omega)).mono ?_
    rintro e w1 ⟨A1, cr, rfl, hc1, ho1, hb1⟩
    rw [hpn] at ho1 hc1 ⊢
    have HX1 := hide (HX.out.next hb1)
    obtain ⟨gr, cr', hA1, hgr, hgl, hx3⟩ := ho1.some_ (by rw [iv_len]; omega)
    simp only [Value.slice.injEq] at hA1
    obtain ⟨rfl, hx2, rfl⟩ := hA1
    clear hx2 hx3
    have HO1 := hide ho1.at_block
    rw [alloc_size] at hgr
    clear ho1 hb1
    go_wp2_with (refine wpList_mkN _ rfl (.tmp 29) (.tmp 29) 35 rfl elem64 .i64 .i64 _ _ K rfl rfl (by omega) (by omega) (by omega) fun w3 h1 h2 => ?_; have HX3 := hide (HX1.out.next h2); rw [iv_zeros (R := R)] at h1; have HO3 := hide (HO1.out.below h2 (Nat.le_refl _)); have HQ3 := hide h1; clear h1 h2)
    obtain ⟨b, off, x, rfl, hb, hx, hc⟩ := (HJ.out.below (HX3.out.2.mono hB)).at_ hd3
    rw [iv_at (by omega)] at hx
    simp only [Option.some.injEq] at hx
    subst hx
    obtain ⟨le, hle⟩ : ∃ le, le = lastE qs := ⟨_, rfl⟩
    have hle2 : cf qs d = le := by rw [hle, lastE, hqm, show m - 1 = d by omega]
    rw [hle2] at hc
    have HV2 := hide (show v = le.inv by rw [HV.out, hle])
    have hbl : b < w3.heap.size := Nat.lt_of_lt_of_le hb (Nat.le_trans hB (Nat.le_of_lt HX3.out.lt))
    have HC := hide hc
    clear hc hle hle2
    go_region_held3 (fun w' => w'.cell? ⟨w.heap.size, 0, none⟩ = some (.int .i64 p) ∧ w'.cell? ⟨w.heap.size, 1, none⟩ = some (.int .i64 k) ∧ w'.cell? ⟨w.heap.size, 2, none⟩ = some (.int .i64 g) ∧ w'.cell? ⟨b, off + d, none⟩ = some (.int .i64 (le.val : Int)))
      (first
        | exact ⟨HX3.out.drew.cells.1, HX3.out.drew.cells.2.1, HX3.out.drew.cells.2.2, HC.out⟩
        | exact ⟨HX5.out.cells.1, HX5.out.cells.2.1, HX5.out.cells.2.2, HC5.out⟩)
      ((go_at_call 86; refine (specInvE h le _).mono ?_; rw [← HV2.out]; rintro e w5 ⟨rfl, hb5⟩; have HX5 := hide (HX3.out.drew.next hb5); have HO5 := hide (HO3.out.drew.below hb5 (Nat.le_refl _)); have HQ5 := hide (HQ3.out.drew.below hb5 (Nat.le_refl _)); have HC5 := hide ((hb5.cell (p := ⟨b, off + d, none⟩) hbl).trans HC.out); clear hb5))
    generalize hgq : w1.heap.size = gq at HQ5 hgl ⊢
    clear hgq HX3 HO3 HQ3 HX1 HO1 HC HC5 hbl
    go_wp2_with fail
    go_loopw [12] (fun i wr => SvRel w p k g gr cr gq n K d ps qs v i wr) (fun i _ => (intOf i + 1).toNat)
    case atStart => exact ⟨K, _, cf ps, fun _ => 0, Nat.le_refl _, rfl, rfl, rfl, fun i => by split; rfl; exact (dvq_out _ _ _ _ _ _ (by omega)).symm, by have := HO5.out; rw [← tab_cf ps, hpn] at this; exact this, HQ5.out, HX5.out⟩
    case round =>
      clear HX5 HO5 HQ5
      obtain ⟨wo, rfl⟩ : ∃ wo : World, wo = wr := ⟨_, rfl⟩
      obtain ⟨j, kk, f, t, hj, hkk, rfl, HD, HE, HO, HT, HX⟩ := hrel
      have HX := hide HX
      have HO := hide HO
      have HT := hide HT
      by_cases hj0 : j = 0
      · subst hj0
        obtain rfl : kk = -1 := by omega
        have HQQ := hide (show tab K t = quoP ps qs by rw [HQ.out]; exact tab_congr fun i _ => by have := HE.out i; rw [if_neg (by omega)] at this; exact this)
        have HRR := hide (show trim (tab n f) = remP ps qs by rw [HR.out, ← HD.out]; rfl)
        clear hkk
        go_wp2_with fail
        refine (specTrimE _ K K wo.heap.size (tab K t) wo HT.out.intsE (Nat.le_refl _) (by omega) (Nat.le_refl _)).mono ?_
        rw [HQQ.out]
        rintro e w3 ⟨A3, c3, rfl, hc3, ho3, hb3⟩
        have HX3 := hide (HX.out.next hb3)
        have HO3 := hide ho3
        have HO4 := hide (HO.out.below hb3 (Nat.le_refl _))
        clear ho3 hb3
        go_wp2_with fail
        refine (specTrimE _ n cr w3.heap.size (tab n f) w3 HO4.out.intsE (Nat.le_refl _) (by omega) hc1).mono ?_
        rw [HRR.out]
        rintro e w5 ⟨A5, c5, rfl, hc5, ho5, hb5⟩
        have HX5 := hide (HX3.out.next hb5)
        have HN1 := hide (HO3.out.ne ho5 (Nat.le_refl _))
        have HN2 := hide (HO3.out.ne' ho5 (Nat.le_refl _))
        have HO5 := hide (ho5.low (Nat.le_of_lt HX3.out.lt))
        have HO6 := hide ((HO3.out.below hb5 (Nat.le_refl _)).low (Nat.le_of_lt HX.out.lt))
        clear ho5 hb5
        go_wp2_with fail
        go_ret2
        exact ⟨_, _, _, _, rfl, hc3, hc5, HO6.out, HO5.out, ⟨HN1.out, HN2.out⟩, HX5.out.2⟩
      · obtain ⟨i, rfl⟩ : ∃ i, j = i + 1 := ⟨j - 1, by omega⟩
        obtain rfl : kk = (i : Int) := by omega
        clear hkk
        obtain ⟨tt, htt⟩ : ∃ tt, tt = i + d := ⟨_, rfl⟩
        obtain ⟨s, hs⟩ : ∃ s, s = i + m := ⟨_, rfl⟩
        obtain ⟨u, hu⟩ : ∃ u, u = f (i + d) := ⟨_, rfl⟩
        have hw1 : IntKind.i64.wrap ((i : Int) + (m : Int)) = (s : Int) := by rw [IntWalk.i64_in _ ⟨by omega, by omega⟩]; omega
        have hw2 : IntKind.i64.wrap ((s : Int) - 1) = (tt : Int) := by rw [IntWalk.i64_in _ ⟨by omega, by omega⟩]; omega
        have htn : tt < n := by omega
        have hiK : i < K := by omega
        have HCR := hide (show wo.cell? ⟨gr, tt, none⟩ = some (.int .i64 (u.val : Int)) from HO.out.cellAt (by rw [iv, List.getElem?_map, tab_at _ htn, htt, hu]; rfl))
        have HU := hide hu
        have HGL := hide (HO.out.lt (g := gr) rfl).2
        have HIM := hide (show i + m ≤ n by omega)
        clear htt hs hu
        go_wp2_with fail
        go_region_held3 (fun w' => w'.cell? ⟨w.heap.size, 0, none⟩ = some (.int .i64 p) ∧ w'.cell? ⟨w.heap.size, 1, none⟩ = some (.int .i64 k) ∧ w'.cell? ⟨w.heap.size, 2, none⟩ = some (.int .i64 g) ∧ w'.cell? ⟨gr, tt, none⟩ = some (.int .i64 (u.val : Int)))
          (first
            | exact ⟨HX.out.drew.cells.1, HX.out.drew.cells.2.1, HX.out.drew.cells.2.2, HCR.out⟩
            | exact ⟨HX2.out.cells.1, HX2.out.cells.2.1, HX2.out.cells.2.2, HC2.out⟩)
          ((go_at_call 85; refine (specMulE h u v _).mono ?_; rintro e w2 ⟨rfl, hb2⟩; have HX2 := hide (HX.out.drew.next hb2); have HO2 := hide (HO.out.drew.below hb2 (Nat.le_refl _)); have HT2 := hide (HT.out.drew.below hb2 (Nat.le_refl _)); have HC2 := hide ((hb2.cell (p := ⟨gr, tt, none⟩) HGL.out).trans HCR.out); clear hb2))
        obtain ⟨X, hX⟩ : ∃ X, X = u * v := ⟨_, rfl⟩
        rw [← hX]
        have HXX := hide hX
        clear hX
        have hq2 : w2.cell? ⟨gq, i, none⟩ = some (.int .i64 ((t i).val : Int)) := HT2.out.cellAt (by rw [iv, List.getElem?_map, tab_at _ hiK]; rfl)
        have hf2 := HT2.out.frozenAt i
        have HT4 := hide (show Own (w2.setCell ⟨gq, i, none⟩ (.int .i64 (X.val : Int))) gq 2 .i64 (.slice (some ⟨gq, 0, none⟩) K K) (iv (tab K fun l => if l = i then X else t l)) by
          have := (HT2.out.stored i (X.val : Nat)).1; rw [iv_set, tab_set] at this; exact this)
        have HG4 := hide (HT2.out.stored i (X.val : Nat)).2
        have HX4 := hide (HX2.out.set'' (b := gq) (by omega) i (.int .i64 (X.val : Int)))
        have HO4 := hide (HO2.out.grown HG4.out (.inr (by show some gr ≠ some gq; intro e; injection e; omega)))
        have HTF := hide (dvq_step HU.out HE.out)
        have HD4 := hide HD.out
        rw [← HXX.out] at HTF
        clear HC2 HO2 HT2 HX2 HCR HG4 HE HD HT HO HX
        go_wp2_with fail
        clear hq2 hf2
        generalize w2.setCell ⟨gq, i, none⟩ (.int .i64 (X.val : Int)) = w4 at HT4 HO4 HX4 ⊢
        go_loopw [14] (fun i' wr => SiRel w p k g gr cr gq n m K i (-X) f (fun l => if l = i then X else t l) qs i' wr) (fun i _ => m - (intOf i).toNat)
        case atStart => exact ⟨0, by omega, rfl, by rw [← add_none]; exact HO4.out, HT4.out, HX4.out⟩
        case round =>
          clear HX4 HO4 HT4
          obtain ⟨l, hl, rfl, HO, HT, HX⟩ := hrel
          have HX := hide HX
          have HO := hide HO
          have HT := hide HT
          by_cases hll : l < m
          · obtain ⟨b', off', x', hA', hb', hx', hc'⟩ := (HJ.out.below (HX.out.2.mono hB)).at_ hll
            rw [iv_at (by omega)] at hx'
            simp only [Option.some.injEq] at hx' hA'
            subst hx'
            simp only [Addr.mk.injEq, and_true] at hA'
            obtain ⟨rfl, rfl⟩ := hA'
            obtain ⟨y, hy⟩ : ∃ y, y = cf qs l := ⟨_, rfl⟩
            rw [← hy] at hc'
            have HY := hide hy
            have hcx := HO.out.cellAt (j := i + l) (x := ((f (i + l)).val : Int)) (by rw [iv, List.getElem?_map, add_at (by have := HIM.out; omega)]; rfl)
            obtain ⟨t2, ht2⟩ : ∃ t2, t2 = i + l := ⟨_, rfl⟩
            obtain ⟨u2, hu2⟩ : ∃ u2, u2 = f (i + l) := ⟨_, rfl⟩
            rw [← hu2, ← ht2] at hcx
            have ht2n : t2 < n := by have := HIM.out; omega
            have HT2 := hide ht2
            have HU2 := hide hu2
            have hbl' : b < wr.heap.size := Nat.lt_of_lt_of_le hb' (Nat.le_trans hB (Nat.le_of_lt HX.out.lt))
            have hgl' : gr < wr.heap.size := (HO.out.lt (g := gr) rfl).2
            have hw3 : IntKind.i64.wrap ((i : Int) + (l : Int)) = (t2 : Int) := by rw [IntWalk.i64_in _ ⟨by omega, by omega⟩]; omega
            have HCQ := hide hc'
            have HCX := hide hcx
            clear hu2 ht2 hy hcx hc'
            go_wp2_with fail
            refine tail_begin (fun w' => w'.cell? ⟨w.heap.size, 0, none⟩ = some (.int .i64 p) ∧ w'.cell? ⟨w.heap.size, 1, none⟩ = some (.int .i64 k) ∧ w'.cell? ⟨w.heap.size, 2, none⟩ = some (.int .i64 g) ∧ w'.cell? ⟨b, off + l, none⟩ = some (.int .i64 (y.val : Int)) ∧ w'.cell? ⟨gr, t2, none⟩ = some (.int .i64 (u2.val : Int))) 22 (by kernel_rfl) ⟨HX.out.drew.cells.1, HX.out.drew.cells.2.1, HX.out.drew.cells.2.2, HCQ.out, HCX.out⟩ (fun hS' => ?_)
            refine tail_take 0 rfl (by kernel_rfl) (by kernel_rfl) (by kernel_rfl) (by kernel_rfl) (fun _ _ _ h => h) (by rfl) (v := ?_) ?_ (by assumption) ?_
            rotate_left 1
            · intro w' hS'; (try dsimp only at hS'); go_simp; try with_reducible rfl
            try simp only [Act.put, List.setIfInBounds_toArray, List.set_cons_zero, List.set_cons_succ]
            refine tail_take 1 rfl (by kernel_rfl) (by kernel_rfl) (by kernel_rfl) (by kernel_rfl) (fun _ _ _ h => h) (by rfl) (v := ?_) ?_ (by assumption) ?_
            rotate_left 1
            · intro w' hS'; (try dsimp only at hS'); go_simp; try with_reducible rfl
            try simp only [Act.put, List.setIfInBounds_toArray, List.set_cons_zero, List.set_cons_succ]
            refine tail_take 2 rfl (by kernel_rfl) (by kernel_rfl) (by kernel_rfl) (by kernel_rfl) (fun _ _ _ h => h) (by rfl) (v := ?_) ?_ (by assumption) ?_
            rotate_left 1
            · intro w' hS'; (try dsimp only at hS'); go_simp; try with_reducible rfl
            try simp only [Act.put, List.setIfInBounds_toArray, List.set_cons_zero, List.set_cons_succ]
            refine tail_take 3 rfl (by kernel_rfl) (by kernel_rfl) (by kernel_rfl) (by kernel_rfl) (fun _ _ _ h => h) (by rfl) (v := ?_) ?_ (by assumption) ?_
            rotate_left 1
            · intro w' hS'; (try dsimp only at hS'); go_simp; try with_reducible rfl
            try simp only [Act.put, List.setIfInBounds_toArray, List.set_cons_zero, List.set_cons_succ]
            refine tail_take 4 rfl (by kernel_rfl) (by kernel_rfl) (by kernel_rfl) (by kernel_rfl) (fun _ _ _ h => h) (by rfl) (v := ?_) ?_ (by assumption) ?_
            rotate_left 1
            · intro w' hS'; (try dsimp only at hS'); go_simp; try with_reducible rfl
            try simp only [Act.put, List.setIfInBounds_toArray, List.set_cons_zero, List.set_cons_succ]
            refine tail_take 5 rfl (by kernel_rfl) (by kernel_rfl) (by kernel_rfl) (by kernel_rfl) (fun _ _ _ h => h) (by rfl) (v := ?_) ?_ (by assumption) ?_
            rotate_left 1
            · intro w' hS'; (try dsimp only at hS'); go_simp; try with_reducible rfl
            try simp only [Act.put, List.setIfInBounds_toArray, List.set_cons_zero, List.set_cons_succ]
            refine tail_take 6 rfl (by kernel_rfl) (by kernel_rfl) (by kernel_rfl) (by kernel_rfl) (fun _ _ _ h => h) (by rfl) (v := ?_) ?_ (by assumption) ?_
            rotate_left 1
            · intro w' hS'; (try dsimp only at hS'); go_simp; try with_reducible rfl
            try simp only [Act.put, List.setIfInBounds_toArray, List.set_cons_zero, List.set_cons_succ]
            refine tail_take 7 rfl (by kernel_rfl) (by kernel_rfl) (by kernel_rfl) (by kernel_rfl) (fun _ _ _ h => h) (by rfl) (v := ?_) ?_ (by assumption) ?_
            rotate_left 1
            · intro w' hS'; (try dsimp only at hS'); go_simp; try with_reducible rfl
            try simp only [Act.put, List.setIfInBounds_toArray, List.set_cons_zero, List.set_cons_succ]
            refine tail_take 8 rfl (by kernel_rfl) (by kernel_rfl) (by kernel_rfl) (by kernel_rfl) (fun _ _ _ h => h) (by rfl) (v := ?_) ?_ (by assumption) ?_
            rotate_left 1
            · intro w' hS'; (try dsimp only at hS'); go_simp; try with_reducible rfl
            try simp only [Act.put, List.setIfInBounds_toArray, List.set_cons_zero, List.set_cons_succ]
            refine tail_take 9 rfl (by kernel_rfl) (by kernel_rfl) (by kernel_rfl) (by kernel_rfl) (fun _ _ _ h => h) (by rfl) (v := ?_) ?_ (by assumption) ?_
            rotate_left 1
            · intro w' hS'; (try dsimp only at hS'); go_simp; try with_reducible rfl
            try simp only [Act.put, List.setIfInBounds_toArray, List.set_cons_zero, List.set_cons_succ]
            refine tail_take 10 rfl (by kernel_rfl) (by kernel_rfl) (by kernel_rfl) (by kernel_rfl) (fun _ _ _ h => h) (by rfl) (v := ?_) ?_ (by assumption) ?_
            rotate_left 1
            · intro w' hS'; (try dsimp only at hS'); go_simp; try with_reducible rfl
            try simp only [Act.put, List.setIfInBounds_toArray, List.set_cons_zero, List.set_cons_succ]
            refine tail_take 11 rfl (by kernel_rfl) (by kernel_rfl) (by kernel_rfl) (by kernel_rfl) (fun _ _ _ h => h) (by rfl) (v := ?_) ?_ (by assumption) ?_
            rotate_left 1
            · intro w' hS'; (try dsimp only at hS'); go_simp; try with_reducible rfl
            try simp only [Act.put, List.setIfInBounds_toArray, List.set_cons_zero, List.set_cons_succ]
            refine tail_take 12 rfl (by kernel_rfl) (by kernel_rfl) (by kernel_rfl) (by kernel_rfl) (fun _ _ _ h => h) (by rfl) (v := ?_) ?_ (by assumption) ?_
            rotate_left 1
            · intro w' hS'; (try dsimp only at hS'); go_simp; try with_reducible rfl
            try simp only [Act.put, List.setIfInBounds_toArray, List.set_cons_zero, List.set_cons_succ]
            refine tail_take 13 rfl (by kernel_rfl) (by kernel_rfl) (by kernel_rfl) (by kernel_rfl) (fun _ _ _ h => h) (by rfl) (v := ?_) ?_ (by assumption) ?_
            rotate_left 1
            · intro w' hS'; (try dsimp only at hS'); go_simp; try with_reducible rfl
            try simp only [Act.put, List.setIfInBounds_toArray, List.set_cons_zero, List.set_cons_succ]
            refine tail_take 14 rfl (by kernel_rfl) (by kernel_rfl) (by kernel_rfl) (by kernel_rfl) (fun _ _ _ h => h) (by rfl) (v := ?_) ?_ (by assumption) ?_
            rotate_left 1
            · intro w' hS'; (try dsimp only at hS'); go_simp; try with_reducible rfl
            try simp only [Act.put, List.setIfInBounds_toArray, List.set_cons_zero, List.set_cons_succ]
            refine tail_take 15 rfl (by kernel_rfl) (by kernel_rfl) (by kernel_rfl) (by kernel_rfl) (fun _ _ _ h => h) (by rfl) (v := ?_) ?_ (by assumption) ?_
            rotate_left 1
            · intro w' hS'; (try dsimp only at hS'); go_simp; try with_reducible rfl
            try simp only [Act.put, List.setIfInBounds_toArray, List.set_cons_zero, List.set_cons_succ]
            refine tail_take 16 rfl (by kernel_rfl) (by kernel_rfl) (by kernel_rfl) (by kernel_rfl) (fun _ _ _ h => h) (by rfl) (v := ?_) ?_ (by assumption) ?_
            rotate_left 1
            · intro w' hS'; (try dsimp only at hS'); go_simp; try with_reducible rfl
            try simp only [Act.put, List.setIfInBounds_toArray, List.set_cons_zero, List.set_cons_succ]
            refine tail_take 17 rfl (by kernel_rfl) (by kernel_rfl) (by kernel_rfl) (by kernel_rfl) (fun _ _ _ h => h) (by rfl) (v := ?_) ?_ (by assumption) ?_
            rotate_left 1
            · intro w' hS'; (try dsimp only at hS'); go_simp; try with_reducible rfl
            try simp only [Act.put, List.setIfInBounds_toArray, List.set_cons_zero, List.set_cons_succ]
            refine tail_call 18 rfl (by kernel_rfl) rfl (fun K hK => ?_)
            go_simp
            go_at_call 85; refine (specMulE h X y _).mono ?_; rintro e w6 ⟨rfl, hb6⟩; have HX6 := hide (HX.out.drew.next hb6); have HO6 := hide (HO.out.drew.below hb6 (Nat.le_refl _)); have HT6' := hide (HT.out.drew.below hb6 (Nat.le_refl _)); have HCQ6 := hide ((hb6.cell (p := ⟨b, off + l, none⟩) hbl').trans HCQ.out); have HCX6 := hide ((hb6.cell (p := ⟨gr, t2, none⟩) hgl').trans HCX.out); have hbl6 := Nat.lt_of_lt_of_le hbl' hb6.size; have hgl6 := Nat.lt_of_lt_of_le hgl' hb6.size; clear hb6
            refine hK.out _ _ (by (try dsimp only); exact ⟨HX6.out.cells.1, HX6.out.cells.2.1, HX6.out.cells.2.2, HCQ6.out, HCX6.out⟩) (fun hS' => ?_)
            clear hK K
            try simp only [Act.put, List.setIfInBounds_toArray, List.set_cons_zero, List.set_cons_succ]
            refine tail_call 19 rfl (by kernel_rfl) rfl (fun K hK => ?_)
            go_simp
            go_at_call 84; refine (specNegE h (X * y) _).mono ?_; rintro e w7 ⟨rfl, hb7⟩; have HX7 := hide (HX6.out.next hb7); have HO7 := hide (HO6.out.below hb7 (Nat.le_refl _)); have HT7' := hide (HT6'.out.below hb7 (Nat.le_refl _)); have HCQ7 := hide ((hb7.cell (p := ⟨b, off + l, none⟩) hbl6).trans HCQ6.out); have HCX7 := hide ((hb7.cell (p := ⟨gr, t2, none⟩) hgl6).trans HCX6.out); have hbl7 := Nat.lt_of_lt_of_le hbl6 hb7.size; have hgl7 := Nat.lt_of_lt_of_le hgl6 hb7.size; clear hb7
            refine hK.out _ _ (by (try dsimp only); exact ⟨HX7.out.cells.1, HX7.out.cells.2.1, HX7.out.cells.2.2, HCQ7.out, HCX7.out⟩) (fun hS' => ?_)
            clear hK K
            try simp only [Act.put, List.setIfInBounds_toArray, List.set_cons_zero, List.set_cons_succ]
            refine tail_call 20 rfl (by kernel_rfl) rfl (fun K hK => ?_)
            go_simp
            go_at_call 61; refine (specAddE h u2 (-(X * y)) _).mono ?_; rintro e w8 ⟨rfl, hb8⟩; have HX8 := hide (HX7.out.next hb8); have HO8 := hide (HO7.out.below hb8 (Nat.le_refl _)); have HT8' := hide (HT7'.out.below hb8 (Nat.le_refl _)); have HCQ8 := hide ((hb8.cell (p := ⟨b, off + l, none⟩) hbl7).trans HCQ7.out); have HCX8 := hide ((hb8.cell (p := ⟨gr, t2, none⟩) hgl7).trans HCX7.out); have hbl8 := Nat.lt_of_lt_of_le hbl7 hb8.size; have hgl8 := Nat.lt_of_lt_of_le hgl7 hb8.size; clear hb8
            refine hK.out _ _ (by (try dsimp only); exact ⟨HX8.out.cells.1, HX8.out.cells.2.1, HX8.out.cells.2.2, HCQ8.out, HCX8.out⟩) (fun hS' => ?_)
            clear hK K
            try simp only [Act.put, List.setIfInBounds_toArray, List.set_cons_zero, List.set_cons_succ]
            refine tail_take 21 rfl (by kernel_rfl) (by kernel_rfl) (by kernel_rfl) (by kernel_rfl) (fun _ _ _ h => h) (by rfl) (v := ?_) ?_ (by assumption) ?_
            rotate_left 1
            · intro w' hS'; (try dsimp only at hS'); go_simp; try with_reducible rfl
            try simp only [Act.put, List.setIfInBounds_toArray, List.set_cons_zero, List.set_cons_succ]
            have hcx3 := HCX8.out
            have hfx3 := HO8.out.frozenAt t2
            refine tail_last 22 rfl (by kernel_rfl) (by kernel_rfl) rfl rfl (fun K hK => ?_)
            go_simp
            refine hK.out _ _ ?_
            clear hK K
            try simp only [Act.put, List.setIfInBounds_toArray, List.set_cons_zero, List.set_cons_succ]
            have HOn := hide (am_next (a := -X) HT2.out HU2.out HY.out HO8.out)
            rw [enm] at HOn
            have HG9 := hide (HO8.out.stored t2 ((u2 + -(X * y)).val : Nat)).2
            have HT9 := hide (HT8'.out.grown HG9.out (.inr (by show some gq ≠ some gr; intro e; injection e; omega)))
            have HX9 := hide (HX8.out.set'' (b := gr) (by omega) t2 (.int .i64 ((u2 + -(X * y)).val : Nat)))
            clear HCQ HCX HCQ6 HCX6 HCQ7 HCX7 HCQ8 HCX8 HO6 HO7 HO8 HX6 HX7 HX8 HT6' HT7' HT8' HG9 hcx3 hfx3
            go_wp2_with fail
            go_roundw
            case rel => exact ⟨l + 1, by omega, by go_num, HOn.out, HT9.out, HX9.out⟩
            case measure => simp [intOf]; omega
          · obtain rfl : l = m := by omega
            have HOn := hide (show Own wr gr 2 .i64 (.slice (some ⟨gr, 0, none⟩) n cr) (iv (tab n fun l' => f l' + up i (-X) (cf qs) l')) by
              have := HO.out
              rw [List.take_of_length_le (by omega)] at this
              exact this)
            clear HO
            go_wp2_with fail
            go_roundw
            case rel => exact ⟨i, _, _, _, by omega, rfl, rfl, (by have h1 := HD4.out; rw [HXX.out, HU.out]; exact h1), (by rw [HXX.out]; rw [HXX.out] at HTF; exact HTF.out), HOn.out, HT.out, HX.out⟩
            case measure => simp [intOf]
end
end Go.Proofs.Ythafkohopkgckaa
