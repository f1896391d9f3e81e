/-
  The contracts of the program's sums and quotients of polynomials.
  Condition: the field is valid, and lists are shorter than 2^39.
-/
import Derived.Test.YthafkohopkgckaaPoly4
namespace Go.Proofs.Ythafkohopkgckaa
open Go.RowKit
set_option linter.unusedSimpArgs false

section
variable {R : Fld} {p k g : Int}
theorem iv_pad {ps : List (El R)} {n N : Nat} (hn : ps.length = n) (hN : n ≤ N) : iv ps ++ (iv (tab N fun _ => (0 : El R))).drop n = iv (tab N (cf ps)) := by
  refine List.ext_getElem? fun i => ?_
  rcases Nat.lt_or_ge i n with h | h
  · rw [List.getElem?_append_left (by rw [iv_len]; omega), iv_at (by omega), iv_at (by rw [tab_len]; omega), cf_tab, if_pos (by omega)]
  · rw [List.getElem?_append_right (by rw [iv_len]; omega), iv_len, List.getElem?_drop, show n + (i - ps.length) = i by omega]
    rcases Nat.lt_or_ge i N with h1 | h1
    · rw [iv_at (by rw [tab_len]; omega), iv_at (by rw [tab_len]; omega), cf_tab, cf_tab, if_pos h1, if_pos h1, cf_out (by omega)]
    · rw [List.getElem?_eq_none (by rw [iv_len, tab_len]; omega), List.getElem?_eq_none (by rw [iv_len, tab_len]; omega)]

def Pl1 (n m : Nat) (l i : Value) : Prop := ∃ j : Nat, j ≤ 1 ∧ i = .int .i64 j ∧ l = .int .i64 ((if j = 0 then n else max n m : Nat) : Int)
def Pl2 (w : World) (p k g : Int) (N : Nat) (ps qs : List (El R)) (i : Value) (wr : World) : Prop :=
  ∃ j : Nat, j ≤ 1 ∧ i = .int .i64 j ∧ Own wr (w.heap.size + 1) 2 .i64 (.slice (some ⟨w.heap.size + 1, 0, none⟩) N N) (iv (tab N fun i => if j = 0 then cf ps i else cf ps i + up 0 1 (cf qs) i)) ∧ Box w wr 25 p k g

set_option maxHeartbeats 2000000 in
theorem implPlus (h : FldIs R p k g) (ps qs : List (El R)) (A A' : Option Addr) (n c m c' B b : Nat) (w : World) (hI : Ints .i64 w B A n (iv ps)) (hJ : Ints .i64 w B A' m (iv qs)) (hb : b < w.heap.size) (hc : w.cell? ⟨b, 0, none⟩ = some (.slice A' m c')) (hB : B ≤ w.heap.size) (hn : n ≤ 549755813888) (hm : m ≤ 549755813888) :
    Calls Try.prog 76 #[.slice A n c, .agg #[.int .i64 p, .int .i64 k, .int .i64 g], .slice (some ⟨b, 0, none⟩) 1 1] w (NewP (addP ps qs) w) := by
  have HX := hide (Box.start w 25 p k g)
  have hpn : ps.length = n := by rw [← iv_len]; exact hI.len
  have hqm : qs.length = m := by rw [← iv_len]; exact hJ.len
  have HI := hide hI
  have HJ := hide hJ
  have HC := hide hc
  have hca := ((Below.refl w.heap.size w).alloc (Nat.le_refl _) (.cells #[.int .i64 p, .int .i64 k, .int .i64 g] 25)).cell (p := ⟨b, 0, none⟩) hb |>.trans hc
  clear hI hJ hc
  go_enter Try.func76, Try.ntmps76
  go_wp2_with fail
  go_loop [7, 17] (fun l i => Pl1 n m l i) (fun _ i => 1 - (intOf i).toNat)
  case atStart => exact ⟨0, by omega, rfl, rfl⟩
  case round =>
    obtain ⟨j, hj, rfl, rfl⟩ := hrel
    by_cases h0 : j = 0
    · subst h0
      rw [if_pos rfl]
      go_wp2_with fail
      go_round
      case rel => exact ⟨1, by omega, by go_num, by rw [if_neg (by decide)]; congr 1; omega⟩
      case measure => simp [intOf]
    · obtain rfl : j = 1 := by omega
      rw [if_neg (by omega)]
      obtain ⟨N, hN⟩ : ∃ N, max n m = N := ⟨_, rfl⟩
      have hNn : n ≤ N := by omega
      have hNm : m ≤ N := by omega
      have hNb : N ≤ 549755813888 := by omega
      rw [hN]
      have HN := hide hN
      clear hN h0 hca
      go_wp2_with (first
        | (refine wpList_mkN _ rfl (.tmp 26) (.tmp 26) 70 rfl elemP .i64 .i64 _ _ N rfl rfl rfl rfl (by omega) fun w1 h1 h2 => ?_; have HX1 := hide (HX.out.next h2); rw [alloc_size, iv_zeros (R := R)] at h1; have HO1 := hide h1; have HI1 := hide (HI.out.below (HX1.out.2.mono hB)); clear h1 h2)
        | (refine wpList_copyZ rfl (.tmp 28) (.tmp 29) 70 rfl elemP _ (w.heap.size + 1) N N _ rfl HO1.out B A n c _ rfl HI1.out hNn fun w2 h1 h2 => ?_; rw [iv_pad hpn hNn] at h1; have HO2 := hide h1; have HX2 := hide (HX1.out.grown h2 (by omega)); clear h1 h2))
      go_loopw [33] (fun i wr => Pl2 w p k g N ps qs i wr) (fun i _ => 1 - (intOf i).toNat)
      case atStart => exact ⟨0, by omega, rfl, HO2.out, HX2.out⟩
      case round =>
        clear HO1 HX1 HI1 HO2 HX2
        obtain ⟨j, hj, rfl, HO, HX⟩ := hrel
        have HX := hide HX
        have HO := hide HO
        by_cases h0 : j = 0
        · subst h0
          have HO := hide (show Own wr (w.heap.size + 1) 2 .i64 (.slice (some ⟨w.heap.size + 1, 0, none⟩) N N) (iv (tab N (cf ps))) from HO.out)
          have hc := (HX.out.2.cell (p := ⟨b, 0, none⟩) hb).trans HC.out
          have HJ1 := hide (HJ.out.below (HX.out.2.mono hB))
          obtain ⟨c0, c1, c2⟩ := HX.out.cells
          go_wp2_with fail
          refine (implAddMul h 1 0 N N (w.heap.size + 1) _ _ qs A' m c' B _ HO.out HJ1.out (by omega) (by omega) (by omega) (by omega)).mono ?_
          rintro e w2 ⟨rfl, hO2, hg⟩
          have HO2 := hide hO2
          have HX2 := hide (HX.out.grown hg (by omega))
          clear hO2 hg c0 c1 c2 hc
          go_wp2_with fail
          go_roundw
          case rel => exact ⟨1, by omega, by go_num, HO2.out, HX2⟩
          case measure => simp [intOf]
        · obtain rfl : j = 1 := by omega
          have HA := hide (show trim (tab N fun i => cf ps i + up 0 1 (cf qs) i) = addP ps qs by
            rw [addP, hpn, hqm, HN.out]
            congr 1
            refine tab_congr fun i _ => ?_
            unfold up; rw [if_pos (Nat.zero_le _), e1m]; rfl)
          clear h0
          go_wp2_with fail
          refine (implTrimmed (tab N fun i => cf ps i + up 0 1 (cf qs) i) (w.heap.size + 1) N N _ _ HO.out (by omega)).mono ?_
          rintro e w3 ⟨rfl, hO3, rfl⟩
          rw [HA.out] at hO3 ⊢
          have HO3 := hide hO3
          clear hO3
          go_wp2_with fail
          go_ret
          exact ⟨w.heap.size + 1, N, rfl, HO3.out.low (by omega), by omega, HX.out.2⟩

/-- What a division leaves: two new lists. -/
def NewPP (qs rs : List (El R)) (w : World) (x : Ending) (w' : World) : Prop :=
  ∃ vq vr, x = .returned (.tuple #[vq, vr]) ∧ Own w' w.heap.size 2 .i64 vq (iv qs) ∧ Own w' w.heap.size 2 .i64 vr (iv rs) ∧ (vq.ownBlock = none ∨ vq.ownBlock ≠ vr.ownBlock) ∧ Below w.heap.size w w'

def DvRel (w : World) (p k g : Int) (gq n K d : Nat) (ps qs : List (El R)) (v : El R) (i : Value) (wr : World) : Prop :=
  ∃ (j : Nat) (kk : Int) (f t : Nat → El R), j ≤ K ∧ kk = (j : Int) - 1 ∧ i = .int .i64 kk ∧ Hid (dvs (cf qs) d v j f = dvs (cf qs) d v K (cf ps)) ∧ Hid (∀ i, (if i < j then dvq (cf qs) d v j f i else t i) = dvq (cf qs) d v K (cf ps) i) ∧
    Own wr (w.heap.size + 1) 2 .i64 (.slice (some ⟨w.heap.size + 1, 0, none⟩) n n) (iv (tab n f)) ∧ Own wr gq 2 .i64 (.slice (some ⟨gq, 0, none⟩) K K) (iv (tab K t)) ∧ Box w wr 25 p k g

theorem dvq_step {G f t T : Nat → El R} {d i : Nat} {v u : El R} (hu : u = f (i + d)) (h : ∀ l, (if l < i + 1 then dvq G d v (i + 1) f l else t l) = T l) :
    ∀ l, (if l < i then dvq G d v i (fun l => f l + up i (-(u * v)) G l) l else (if l = i then u * v else t l)) = T l := by
  intro l
  have h1 := h l
  subst hu
  by_cases h2 : l < i
  · rw [if_pos h2]
    rw [if_pos (by omega)] at h1
    rw [← h1]
    show _ = if l = i then _ else _
    rw [if_neg (by omega)]
  · rw [if_neg h2]
    by_cases h3 : l = i
    · rw [if_pos h3]
      rw [if_pos (by omega)] at h1
      rw [← h1]
      show _ = if l = i then _ else _
      rw [if_pos h3]
    · rw [if_neg h3]
      rw [if_neg (by omega)] at h1
      exact h1
theorem lastE_is {qs : List (El R)} (hq : 0 < qs.length) : (iv qs).getLast? = some ((lastE qs).val : Int) := by
  rw [List.getLast?_eq_getElem?, iv_len, iv_at (by omega)]; rfl

theorem dvq_out (G : Nat → El R) (d : Nat) (v : El R) : ∀ (K : Nat) (f : Nat → El R) (i : Nat), K ≤ i → dvq G d v K f i = 0
  | 0, _, _, _ => rfl
  | K + 1, f, i, h => by
    show (if i = K then _ else _) = _
    rw [if_neg (by omega)]
    exact dvq_out G d v K _ i (by omega)

set_option maxRecDepth 100000 in
set_option maxHeartbeats 4000000 in
theorem implDivided (h : FldIs R p k g) (ps qs : List (El R)) (A A' : Option Addr) (n c m c' B : Nat) (w : World) (hI : Ints .i64 w B A n (iv ps)) (hJ : Ints .i64 w B A' m (iv qs)) (hB : B ≤ w.heap.size) (hn : n ≤ 549755813888) (hm : m ≤ 549755813888) (hm0 : 0 < m) :
    Calls Try.prog 74 #[.slice A n c, .agg #[.int .i64 p, .int .i64 k, .int .i64 g], .slice A' m c'] w (NewPP (quoP ps qs) (remP ps qs) w) := by
  have HX := hide (Box.start w 25 p k g)
  have hpn : ps.length = n := by rw [← iv_len]; exact hI.len
  have hqm : qs.length = m := by rw [← iv_len]; exact hJ.len
  have HI := hide hI
  have HJ := hide hJ
  clear hI hJ
  by_cases hlt : n < m
  · have HQ := hide (show quoP ps qs = [] by rw [quoP, if_pos (by omega)])
    have HR := hide (show remP ps qs = ps by rw [remP, if_pos (by omega)])
    go_enter Try.func74, Try.ntmps74
    go_wp2_with (first
      | (refine wpList_mkN _ rfl (.tmp 13) (.tmp 13) 70 rfl elemP .i64 .i64 _ _ n rfl rfl rfl rfl (by omega) fun w1 h1 h2 => ?_; have HX1 := hide (HX.out.next h2); rw [alloc_size, iv_zeros (R := R)] at h1; have HO1 := hide h1; have HI1 := hide (HI.out.below (HX1.out.2.mono hB)); clear h1 h2)
      | (refine wpList_copyZ rfl (.tmp 15) (.tmp 16) 70 rfl elemP _ (w.heap.size + 1) n n _ rfl HO1.out B A n c _ rfl HI1.out (Nat.le_refl _) fun w2 h1 h2 => ?_; rw [iv_pad hpn (Nat.le_refl _)] at h1; have HO2 := hide h1; have HX2 := hide (HX1.out.grown h2 (by omega)); clear h1 h2))
    go_ret2
    refine ⟨.slice none 0 0, .slice (some ⟨w.heap.size + 1, 0, none⟩) n n, rfl, ?_, ?_, .inl rfl, HX2.out.2⟩
    · rw [HQ.out]; exact World.ownsRow_nil _ _ _ _
    · rw [HR.out]
      have := HO2.out.low (base' := w.heap.size) (by omega)
      rw [← hpn, tab_cf] at this
      rw [← hpn]; exact this
  · obtain ⟨K, hK⟩ : ∃ K, K = n - m + 1 := ⟨_, rfl⟩
    obtain ⟨v, hv⟩ : ∃ v, v = (lastE qs).inv := ⟨_, rfl⟩
    have HQ := hide (show quoP ps qs = tab K (dvq (cf qs) (qs.length - 1) v K (cf ps)) by rw [quoP, if_neg (by omega), hpn, hqm, ← hK, ← hv])
    have HR := hide (show remP ps qs = trim (tab n (dvs (cf qs) (qs.length - 1) v K (cf ps))) by rw [remP, if_neg (by omega), hpn, hqm, ← hK, ← hv])
    obtain ⟨d, hd⟩ : ∃ d, m = d + 1 := ⟨m - 1, by omega⟩
    rw [hqm, show m - 1 = d by omega] at HQ HR
    have hd1 : d + 1 ≤ m := by omega
    have hd2 : m ≤ d + 1 := by omega
    clear hd
    have HL := hide (lastE_is (qs := qs) (by omega))
    have HV := hide hv
    have hKn : (n : Int) - (m : Int) + 1 = (K : Int) := by omega
    have hK1 : 1 ≤ K := by omega
    have hKm : K + m = n + 1 := by omega
    clear hK hv
    go_enter Try.func74, Try.ntmps74
    go_wp2_with (first
      | (refine wpList_mkN _ rfl (.tmp 13) (.tmp 13) 70 rfl elemP .i64 .i64 _ _ n rfl rfl rfl rfl (by omega) fun w1 h1 h2 => ?_; have HX1 := hide (HX.out.next h2); rw [alloc_size, iv_zeros (R := R)] at h1; have HO1 := hide h1; have HI1 := hide (HI.out.below (HX1.out.2.mono hB)); clear h1 h2)
      | (refine wpList_copyZ rfl (.tmp 15) (.tmp 16) 70 rfl elemP _ (w.heap.size + 1) n n _ rfl HO1.out B A n c _ rfl HI1.out (Nat.le_refl _) fun w2 h1 h2 => ?_; rw [iv_pad hpn (Nat.le_refl _)] at h1; have HO2 := hide h1; have HX2 := hide (HX1.out.grown h2 (by omega)); clear h1 h2)
      | (refine wpList_mkN _ rfl (.tmp 29) (.tmp 29) 70 rfl elemP .i64 .i64 _ _ K rfl rfl (by omega) (by omega) (by omega) fun w3 h1 h2 => ?_; have HX3 := hide (HX2.out.next h2); rw [iv_zeros (R := R)] at h1; have HO3 := hide (HO2.out.below h2 (Nat.le_refl _)); have HQ3 := hide h1; have hlq := (HO2.out.lt (g := w.heap.size + 1) rfl).2; clear h1 h2))
    go_region_held3 (fun w' => w'.cell? ⟨w.heap.size, 0, none⟩ = some (.int .i64 p) ∧ w'.cell? ⟨w.heap.size, 1, none⟩ = some (.int .i64 k) ∧ w'.cell? ⟨w.heap.size, 2, none⟩ = some (.int .i64 g))
      (first
        | exact ⟨HX3.out.drew.cells.1, HX3.out.drew.cells.2.1, HX3.out.drew.cells.2.2⟩
        | exact ⟨HX5.out.cells.1, HX5.out.cells.2.1, HX5.out.cells.2.2⟩)
      (first
        | (go_at_call 102; refine (implLast A' m c' B (iv qs) _ _ (HJ.out.below (HX3.out.drew.2.mono hB)) HL.out (by omega)).mono ?_; rintro e w4 ⟨rfl, rfl⟩)
        | (go_at_call 101; refine (implInvE h (lastE qs) _).mono ?_; rw [← HV.out]; rintro e w5 ⟨rfl, hb5⟩; have HX5 := hide (HX3.out.drew.next hb5); have HO5 := hide (HO3.out.drew.below hb5 (Nat.le_refl _)); have HQ5 := hide (HQ3.out.drew.below hb5 (Nat.le_refl _)); clear hb5))
    generalize hgq : w2.heap.size = gq at HQ5 hlq ⊢
    clear hgq HX3 HO3 HQ3 HX1 HO1 HI1 HO2 HX2
    go_wp2_with fail
    go_loopw [11] (fun i wr => DvRel w p k g gq n K d ps qs v i wr) (fun i _ => (intOf i + 1).toNat)
    case atStart => exact ⟨K, _, cf ps, fun _ => 0, Nat.le_refl _, rfl, rfl, rfl, fun i => by split; rfl; exact (dvq_out _ _ _ _ _ _ (by omega)).symm, HO5.out, HQ5.out, HX5.out⟩
    case round =>
      clear HX5 HO5 HQ5
      obtain ⟨j, kk, f, t, hj, hkk, rfl, HD, HE, HO, HT, HX⟩ := hrel
      have HX := hide HX
      have HO := hide HO
      have HT := hide HT
      by_cases hj0 : j = 0
      · subst hj0
        obtain rfl : kk = -1 := by omega
        have HQQ := hide (show tab K t = quoP ps qs by rw [HQ.out]; exact tab_congr fun i _ => by have := HE.out i; rw [if_neg (by omega)] at this; exact this)
        have HRR := hide (show trim (tab n f) = remP ps qs by rw [HR.out, ← HD.out]; rfl)
        have HQL := hide (show (quoP ps qs).length = K by rw [← HQQ.out, tab_len])
        clear hkk
        go_wp2_with fail
        refine (implTrimmed (tab n f) (w.heap.size + 1) n n _ _ HO.out (by omega)).mono ?_
        rintro e w3 ⟨rfl, hO3, rfl⟩
        have HO3 := hide hO3
        clear hO3
        go_wp2_with fail
        go_ret2
        refine ⟨.slice (some ⟨gq, 0, none⟩) K K, .slice (some ⟨w.heap.size + 1, 0, none⟩) (trim (tab n f)).length n, rfl, ?_, ?_, .inr ?_, HX.out.2⟩
        · rw [← HQQ.out]; exact HT.out.low (by omega)
        · rw [← HRR.out]; exact HO3.out.low (by omega)
        · show some gq ≠ some (w.heap.size + 1)
          intro e; injection e; omega
      · obtain ⟨i, rfl⟩ : ∃ i, j = i + 1 := ⟨j - 1, by omega⟩
        obtain rfl : kk = (i : Int) := by omega
        clear hkk
        obtain ⟨tt, htt⟩ : ∃ tt, tt = i + d := ⟨_, rfl⟩
        obtain ⟨s, hs⟩ : ∃ s, s = i + m := ⟨_, rfl⟩
        obtain ⟨u, hu⟩ : ∃ u, u = f (i + d) := ⟨_, rfl⟩
        have hw1 : IntKind.i64.wrap ((i : Int) + (m : Int)) = (s : Int) := by rw [IntWalk.i64_in _ ⟨by omega, by omega⟩]; omega
        have hw2 : IntKind.i64.wrap ((s : Int) - 1) = (tt : Int) := by rw [IntWalk.i64_in _ ⟨by omega, by omega⟩]; omega
        have htn : tt < n := by omega
        have hiK : i < K := by omega
        have HCR := hide (show wr.cell? ⟨w.heap.size + 1, tt, none⟩ = some (.int .i64 (u.val : Int)) from HO.out.cellAt (by rw [iv, List.getElem?_map, tab_at _ htn, htt, hu]; rfl))
        have HFZ := hide (HT.out.frozenAt i)
        have HU := hide hu
        have HTT := hide htt
        have hgl := (HO.out.lt (g := w.heap.size + 1) rfl).2
        have HGL := hide hgl
        have HQL := hide hlq
        clear htt hs hu hgl hlq
        go_wp2_with fail
        go_region_held3 (fun w' => w'.cell? ⟨w.heap.size, 0, none⟩ = some (.int .i64 p) ∧ w'.cell? ⟨w.heap.size, 1, none⟩ = some (.int .i64 k) ∧ w'.cell? ⟨w.heap.size, 2, none⟩ = some (.int .i64 g) ∧ w'.cell? ⟨w.heap.size + 1, tt, none⟩ = some (.int .i64 (u.val : Int)) ∧ w'.frozen? ⟨gq, i, none⟩ = false)
          (first
            | exact ⟨HX.out.drew.cells.1, HX.out.drew.cells.2.1, HX.out.drew.cells.2.2, HCR.out, HFZ.out⟩
            | exact ⟨HX2.out.cells.1, HX2.out.cells.2.1, HX2.out.cells.2.2, HC2.out, HF2.out⟩
            | exact HS4.out)
          (first
            | (go_at_call 64; refine (implProdE h u v _).mono ?_; rintro e w2 ⟨rfl, hb2⟩; have HX2 := hide (HX.out.drew.next hb2); have HO2 := hide (HO.out.drew.below hb2 (Nat.le_refl _)); have HT2 := hide (HT.out.drew.below hb2 (Nat.le_refl _)); have HC2 := hide ((hb2.cell (p := ⟨w.heap.size + 1, tt, none⟩) HGL.out).trans HCR.out); have HF2 := hide (HT2.out.frozenAt i); have hq2 : w2.cell? ⟨gq, i, none⟩ = some (.int .i64 ((t i).val : Int)) := HT2.out.cellAt (by rw [iv, List.getElem?_map, tab_at _ hiK]; rfl); have HT4 := hide (HT2.out.stored i ((u * v).val : Nat)).1; have HG4 := hide (HT2.out.stored i ((u * v).val : Nat)).2; have HX4 := hide (HX2.out.grown HG4.out (by have := HQL.out; omega)); have HO4 := hide (HO2.out.grown HG4.out (.inr (by have := HQL.out; show some (w.heap.size + 1) ≠ some gq; intro e; injection e; omega))); have HS4 := hide (And.intro HX4.out.cells.1 (And.intro HX4.out.cells.2.1 (And.intro HX4.out.cells.2.2 (And.intro ((grown_cell (p := ⟨w.heap.size + 1, tt, none⟩) HG4.out (Nat.lt_of_lt_of_le HGL.out hb2.size) (by have := HQL.out; intro e; injection e; simp only at *; omega)).trans HC2.out) (HT4.out.frozenAt i))))); clear hb2))
        clear hq2 HS4 HC2 HF2 HT2 HO2 HX2 HCR HFZ HG4
        generalize w2.setCell ⟨gq, i, none⟩ (.int .i64 ((u * v).val : Nat)) = w4 at HT4 HO4 HX4 ⊢
        have hq4 : w4.cell? ⟨gq, i, none⟩ = some (.int .i64 ((u * v).val : Int)) := HT4.out.cellAt (by rw [iv_set, tab_set, iv, List.getElem?_map, tab_at _ hiK, if_pos rfl]; rfl)
        have HC4 := hide hq4
        clear hq4
        go_wp2_with fail
        go_region_held3 (fun w' => w'.cell? ⟨w.heap.size, 0, none⟩ = some (.int .i64 p) ∧ w'.cell? ⟨w.heap.size, 1, none⟩ = some (.int .i64 k) ∧ w'.cell? ⟨w.heap.size, 2, none⟩ = some (.int .i64 g) ∧ w'.cell? ⟨gq, i, none⟩ = some (.int .i64 ((u * v).val : Int)))
          (first
            | exact ⟨HX4.out.drew.cells.1, HX4.out.drew.cells.2.1, HX4.out.drew.cells.2.2, HC4.out⟩
            | exact ⟨HX5.out.cells.1, HX5.out.cells.2.1, HX5.out.cells.2.2, HC5.out⟩
            | exact ⟨HX6.out.cells.1, HX6.out.cells.2.1, HX6.out.cells.2.2, HC6.out⟩)
          (first
            | (go_at_call 103; refine (implNegE h (u * v) _).mono ?_; rintro e w5 ⟨rfl, hb5⟩; have HX5 := hide (HX4.out.drew.next hb5); have HO5 := hide (HO4.out.drew.below hb5 (Nat.le_refl _)); have HT5 := hide (HT4.out.drew.below hb5 (Nat.le_refl _)); have HC5 := hide ((hb5.cell (p := ⟨gq, i, none⟩) (HT4.out.lt (g := gq) rfl).2).trans HC4.out); clear hb5)
            | (go_at_call 100; refine (implAddMul h (-(u * v)) i n n (w.heap.size + 1) _ f qs A' m c' B _ HO5.out (HJ.out.below (HX5.out.2.mono hB)) (by omega) (by omega) (by omega) (by omega)).mono ?_; rintro e w6 ⟨rfl, hO6, hg6⟩; have HX6 := hide (HX5.out.grown hg6 (by omega)); have HO6 := hide hO6; have HT6 := hide (HT5.out.grown hg6 (.inr (by have := HQL.out; show some gq ≠ some (w.heap.size + 1); intro e; injection e; omega))); have HC6 := hide ((grown_cell (p := ⟨gq, i, none⟩) hg6 (HT5.out.lt (g := gq) rfl).2 (by have := HQL.out; intro e; injection e; simp only at *; omega)).trans HC5.out); clear hO6 hg6))
        have HTF := hide (show Own w6 gq 2 .i64 (.slice (some ⟨gq, 0, none⟩) K K) (iv (tab K fun l => if l = i then u * v else t l)) by
          have := HT6.out; rw [iv_set, tab_set] at this; exact this)
        clear HC4 HC5 HC6 HX4 HX5 HO4 HO5 HT4 HT5 HT6
        go_wp2_with fail
        go_roundw
        case rel => exact ⟨i, _, _, _, by omega, rfl, rfl, (by have h1 := HD.out; rw [HU.out]; exact h1), dvq_step HU.out HE.out, HO6.out, HTF.out, HX6.out⟩
        case measure => simp [intOf]
end
end Go.Proofs.Ythafkohopkgckaa
