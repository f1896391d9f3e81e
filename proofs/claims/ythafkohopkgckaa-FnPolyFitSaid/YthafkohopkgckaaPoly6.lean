/-
  The contracts of the program's derivatives, roots and common divisors of polynomials.
  Condition: the field is valid, and lists are shorter than 2^39.
-/
import Derived.Test.YthafkohopkgckaaPSpec3
namespace Go.Proofs.Ythafkohopkgckaa
open Go.RowKit
set_option linter.unusedSimpArgs false
set_option linter.unusedVariables false

section
variable {R : Fld} {p k g : Int}
def DiRel (w : World) (p k g : Int) (N : Nat) (f : Nat → El R) (i : Value) (wr : World) : Prop :=
  ∃ j : Nat, j ≤ N ∧ i = .int .i64 j ∧ Own wr (w.heap.size + 1) 2 .i64 (.slice (some ⟨w.heap.size + 1, 0, none⟩) N N) (iv (tab N fun l => if l < j then f l else 0)) ∧ Box w wr 25 p k g
theorem num_tmod (h : FldIs R p k g) (l : Nat) : ((l : Nat) : Int).tmod p = ((numE h l).val : Int) ∧ p ≠ 0 := by
  obtain ⟨P, rfl, h2, h3⟩ := kd_prime h.kind
  rw [num_val, Int.toNat_natCast, Int.tmod_eq_emod_of_nonneg (by omega)]
  exact ⟨rfl, by omega⟩

set_option maxRecDepth 100000 in
set_option maxHeartbeats 4000000 in
theorem implDerE (h : FldIs R p k g) (ps : List (El R)) (A : Option Addr) (n c B : Nat) (w : World) (hI : Ints .i64 w B A n (iv ps)) (hB : B ≤ w.heap.size) (hn : n ≤ 549755813888) :
    Calls Try.prog 93 #[.slice A n c, .agg #[.int .i64 p, .int .i64 k, .int .i64 g]] w (NewE (derP h ps) w) := by
  have HX := hide (Box.start w 25 p k g)
  have hpn : ps.length = n := by rw [← iv_len]; exact hI.len
  have HI := hide hI
  clear hI
  obtain ⟨f, hf⟩ : ∃ f : Nat → El R, f = fun i => numE h (i + 1) * cf ps (i + 1) := ⟨_, rfl⟩
  have HA := hide (show trim (tab (n - 1) f) = derP h ps by rw [derP, hpn, hf])
  have HFF := hide hf
  clear hf
  rcases Nat.eq_zero_or_pos n with h0 | h0
  · subst h0
    have HE := hide (show derP h ps = [] by rw [← HA.out]; rfl)
    rw [HE.out]
    go_enter Try.func93, Try.ntmps93
    go_wp2_with fail
    go_ret
    exact ⟨none, 0, rfl, Nat.le_refl _, World.ownsRow_nil _ _ _ _, HX.out.2⟩
  obtain ⟨N, hN⟩ : ∃ N, N = n - 1 := ⟨_, rfl⟩
  have e0 : ((n : Int) == 0) = false := by simp; omega
  have hN1 : (n : Int) - 1 = (N : Int) := by omega
  have hNn : N < n := by omega
  rw [← hN] at HA
  have HNN := hide hN
  clear hN
  go_enter Try.func93, Try.ntmps93
  go_wp2_with (refine wpList_mkN _ rfl (.tmp 12) (.tmp 12) 70 rfl elemP .i64 .i64 _ _ N rfl rfl (by omega) (by omega) (by omega) fun w1 h1 h2 => ?_; have HX1 := hide (HX.out.next h2); rw [alloc_size, iv_zeros (R := R)] at h1; have HO1 := hide h1; clear h1 h2)
  go_loopw [16] (fun i wr => DiRel w p k g N f i wr) (fun i _ => N - (intOf i).toNat)
  case atStart => exact ⟨0, by omega, rfl, by have := HO1.out; rw [tab_congr (g := fun l => if l < 0 then f l else 0) (fun i _ => (if_neg (by omega)).symm)] at this; exact this, HX1.out⟩
  case round =>
    clear HX HX1 HO1
    obtain ⟨j, hj, rfl, HO, HX⟩ := hrel
    have HX := hide HX
    have HO := hide HO
    by_cases hlt : j < N
    · obtain ⟨l, hll⟩ : ∃ l, l = j + 1 := ⟨_, rfl⟩
      have hln : l < n := by omega
      obtain ⟨b, off, x, rfl, hb, hx, hc⟩ := (HI.out.below (HX.out.2.mono hB)).at_ hln
      rw [iv_at (by omega)] at hx
      simp only [Option.some.injEq] at hx
      subst hx
      obtain ⟨y, hy⟩ : ∃ y, y = cf ps l := ⟨_, rfl⟩
      rw [← hy] at hc
      have HY := hide (show f j = numE h l * y by rw [HFF.out, hy, hll])
      obtain ⟨hm1, hp0⟩ := num_tmod h l
      obtain ⟨e, he⟩ : ∃ e, e = numE h l := ⟨_, rfl⟩
      rw [← he] at hm1 HY
      have hw1 : IntKind.i64.wrap ((j : Int) + 1) = (l : Int) := by rw [IntWalk.i64_in _ ⟨by omega, by omega⟩]; omega
      have HCP := hide hc
      have HFZ := hide (HO.out.frozenAt j)
      have HCX := hide (show wr.cell? ⟨w.heap.size + 1, j, none⟩ = some (.int .i64 ((0 : El R).val : Int)) from HO.out.cellAt (by rw [iv, List.getElem?_map, tab_at _ hlt, if_neg (by omega)]; rfl))
      have hbl : b < wr.heap.size := Nat.lt_of_lt_of_le hb (Nat.le_trans hB (Nat.le_of_lt HX.out.lt))
      have hgl := (HO.out.lt (g := w.heap.size + 1) rfl).2
      have HNB := hide (show (some (w.heap.size + 1) : Option Nat) ≠ some b by intro e; injection e; omega)
      have HLL := hide hll
      clear hy hc hll he
      go_wp2_with fail
      go_region_held3 (fun w' => w'.cell? ⟨w.heap.size, 0, none⟩ = some (.int .i64 p) ∧ w'.cell? ⟨w.heap.size, 1, none⟩ = some (.int .i64 k) ∧ w'.cell? ⟨w.heap.size, 2, none⟩ = some (.int .i64 g) ∧ w'.cell? ⟨b, off + l, none⟩ = some (.int .i64 (y.val : Int)) ∧ w'.frozen? ⟨w.heap.size + 1, j, none⟩ = false)
        (first
          | exact ⟨HX.out.drew.cells.1, HX.out.drew.cells.2.1, HX.out.drew.cells.2.2, HCP.out, HFZ.out⟩
          | exact ⟨HX2.out.cells.1, HX2.out.cells.2.1, HX2.out.cells.2.2, HCP2.out, HF2.out⟩
          | exact HS4.out)
        ((go_at_call 64; refine (implProdE h e y _).mono ?_; rintro e2 w2 ⟨rfl, hb2⟩; have HX2 := hide (HX.out.drew.next hb2); have HO2 := hide (HO.out.drew.below hb2 (Nat.le_refl _)); have HCP2 := hide ((hb2.cell (p := ⟨b, off + l, none⟩) hbl).trans HCP.out); have HF2 := hide (HO2.out.frozenAt j); have hcx2 := (hb2.cell (p := ⟨w.heap.size + 1, j, none⟩) hgl).trans HCX.out; have HO4 := hide (HO2.out.stored j ((e * y).val : Nat)).1; have HG4 := hide (HO2.out.stored j ((e * y).val : Nat)).2; have HX4 := hide (HX2.out.grow' HG4.out (fun r hr => by simp only [Value.ownBlock, Option.some.injEq] at hr; omega)); have HS4 := hide (And.intro HX4.out.cells.1 (And.intro HX4.out.cells.2.1 (And.intro HX4.out.cells.2.2 (And.intro ((grown_cell (p := ⟨b, off + l, none⟩) HG4.out (Nat.lt_of_lt_of_le hbl hb2.size) HNB.out).trans HCP2.out) (HO4.out.frozenAt j))))); clear hb2))
      have HOn := hide (show Own (w2.setCell ⟨w.heap.size + 1, j, none⟩ (.int .i64 ((e * y).val : Nat))) (w.heap.size + 1) 2 .i64 (.slice (some ⟨w.heap.size + 1, 0, none⟩) N N) (iv (tab N fun l => if l < j + 1 then f l else 0)) by
        have := HO4.out
        rw [iv_set, tab_set] at this
        rw [tab_congr (g := fun i => if i = j then e * y else if i < j then f i else 0) (fun i _ => by
          by_cases h1 : i = j
          · subst h1; rw [if_pos (by omega), if_pos rfl, HY.out]
          · rw [if_neg h1]
            by_cases h2 : i < j
            · rw [if_pos (by omega), if_pos h2]
            · rw [if_neg (by omega), if_neg h2])]
        exact this)
      clear HCP HFZ HCX HCP2 HF2 hcx2 HO2 HO4 HG4 HX2 HS4
      go_wp2_with fail
      go_roundw
      case rel => exact ⟨j + 1, by omega, by rw [← HLL.out], HOn.out, HX4.out⟩
      case measure => have := HLL.out; simp [intOf]; omega
    · obtain rfl : j = N := by omega
      have HE := hide (show (tab j fun l => if l < j then f l else 0) = tab j f from tab_congr fun i hi => if_pos hi)
      have HO' := hide (show Own wr (w.heap.size + 1) 2 .i64 (.slice (some ⟨w.heap.size + 1, 0, none⟩) j j) (iv (tab j f)) by rw [← HE.out]; exact HO.out)
      clear HO
      go_wp2_with fail
      refine (implTrimmed (tab j f) (w.heap.size + 1) j j _ _ HO'.out (by omega)).mono ?_
      rintro e w3 ⟨rfl, hO3, rfl⟩
      have HO3 := hide (newE_of (w := w) hO3 HX.out.2 (Nat.le_succ _))
      rw [HA.out] at HO3 ⊢
      clear hO3
      go_wp2_with fail
      go_ret
      exact HO3

/-- The roots among the first elements. -/
def rootsE (ps : List (El R)) : Nat → List (El R)
  | 0 => []
  | n + 1 => if h : n < R.q then (if ev ⟨n, h⟩ ps = 0 then rootsE ps n ++ [⟨n, h⟩] else rootsE ps n) else rootsE ps n
theorem roots_yes {ps : List (El R)} {x : El R} (h : ev x ps = 0) : rootsE ps (x.val + 1) = rootsE ps x.val ++ [x] := by
  show (if h : x.val < R.q then _ else _) = _
  rw [dif_pos x.lt, if_pos h]
theorem roots_no {ps : List (El R)} {x : El R} (h : ev x ps ≠ 0) : rootsE ps (x.val + 1) = rootsE ps x.val := by
  show (if h : x.val < R.q then _ else _) = _
  rw [dif_pos x.lt, if_neg h]
theorem roots_facts (ps : List (El R)) : ∀ n : Nat, (rootsE ps n).length ≤ n ∧ (rootsE ps n).Nodup ∧ ∀ x ∈ rootsE ps n, ev x ps = 0 ∧ x.val < n
  | 0 => ⟨Nat.le_refl _, List.nodup_nil, fun x hx => by simp [rootsE] at hx⟩
  | n + 1 => by
    obtain ⟨h1, h2, h3⟩ := roots_facts ps n
    by_cases h : n < R.q
    · by_cases hz : ev ⟨n, h⟩ ps = 0
      · have e : rootsE ps (n + 1) = rootsE ps n ++ [⟨n, h⟩] := roots_yes (x := ⟨n, h⟩) hz
        rw [e]
        refine ⟨by rw [List.length_append]; simp; omega, ?_, fun x hx => ?_⟩
        · rw [List.nodup_append]
          refine ⟨h2, by simp, fun a ha b hb => ?_⟩
          obtain rfl : b = ⟨n, h⟩ := by simpa using hb
          intro e
          have := (h3 a ha).2
          rw [e] at this
          exact absurd this (Nat.lt_irrefl n)
        · rw [List.mem_append] at hx
          rcases hx with hx | hx
          · exact ⟨(h3 x hx).1, Nat.lt_succ_of_lt (h3 x hx).2⟩
          · obtain rfl : x = ⟨n, h⟩ := by simpa using hx
            exact ⟨hz, Nat.lt_succ_self n⟩
      · have e : rootsE ps (n + 1) = rootsE ps n := roots_no (x := ⟨n, h⟩) hz
        rw [e]
        exact ⟨by omega, h2, fun x hx => ⟨(h3 x hx).1, Nat.lt_succ_of_lt (h3 x hx).2⟩⟩
    · have e : rootsE ps (n + 1) = rootsE ps n := dif_neg h
      rw [e]
      exact ⟨by omega, h2, fun x hx => ⟨(h3 x hx).1, Nat.lt_succ_of_lt (h3 x hx).2⟩⟩

def RtRel (w : World) (p k g : Int) (ps : List (El R)) (v i : Value) (wr : World) : Prop :=
  ∃ j : Nat, j ≤ R.q ∧ i = .int .i64 j ∧ Own wr (w.heap.size + 1) 2 .i64 v (iv (rootsE ps j)) ∧ Box w wr 25 p k g

set_option maxHeartbeats 4000000 in
theorem implRootsE (h : FldIs R p k g) (ps : List (El R)) (A : Option Addr) (n c B : Nat) (w : World) (hI : Ints .i64 w B A n (iv ps)) (hB : B ≤ w.heap.size) (hn : n ≤ 549755813888) :
    Calls Try.prog 77 #[.slice A n c, .agg #[.int .i64 p, .int .i64 k, .int .i64 g]] w (NewE (rootsE ps R.q) w) := by
  have HX := hide (Box.start w 25 p k g)
  have HI := hide hI
  have hq := h.le
  have hq3 := R.three
  clear hI
  go_enter Try.func77, Try.ntmps77
  go_wp2_with fail
  refine (implSize h.kind _).mono ?_
  rintro e w1 ⟨rfl, hb⟩
  have HX1 := hide (HX.out.next hb)
  clear hb
  go_wp2_with fail
  go_loopw [5, 9] (fun v i wr => RtRel w p k g ps v i wr) (fun _ i _ => R.q - (intOf i).toNat)
  case atStart => exact ⟨0, by omega, rfl, World.ownsRow_nil _ _ _ _, HX1.out⟩
  case round =>
    clear HX HX1
    obtain ⟨v, rfl⟩ : ∃ v : Value, v = u5 := ⟨_, rfl⟩
    obtain ⟨j, hj, rfl, HO, HX⟩ := hrel
    have HX := hide HX
    have HO := hide HO
    by_cases hlt : j < R.q
    · obtain ⟨x, rfl⟩ : ∃ x : El R, j = x.val := ⟨⟨j, hlt⟩, rfl⟩
      have HI1 := hide (HI.out.below (HX.out.2.mono hB))
      obtain ⟨c0, c1, c2⟩ := HX.out.cells
      go_wp2_with fail
      refine (implValueAt h x ps A n c B _ HI1.out (Nat.le_trans hB (Nat.le_of_lt HX.out.lt)) (by omega)).mono ?_
      rintro e w2 ⟨rfl, hb2⟩
      have HX2 := hide (HX.out.next hb2)
      have HO2 := hide (HO.out.below hb2 (Nat.le_refl _))
      have hwl : w.heap.size + 1 ≤ w2.heap.size := HX2.out.lt
      have HVB := hide (show ∀ b, v.ownBlock = some b → w.heap.size < b from fun b hb => (HO2.out.lt hb).1)
      have hlen : (iv (rootsE ps x.val)).length + 1 ≤ 100000 := by rw [iv_len]; have := (roots_facts ps x.val).1; omega
      clear hb2 c0 c1 c2
      by_cases hz : ev x ps = 0
      · have HZ := hide (roots_yes hz)
        rw [hz]
        clear hz
        go_wp2_with (at_builtin; refine wpList_app1 w2 rfl _ _ _ rfl elem64 (w.heap.size + 1) v _ rfl HO2.out (x.val : Int) rfl (by omega) hwl ?_; intro v3 w3 hown hgrow)
        have HO3 := hide (show Own w3 (w.heap.size + 1) 2 .i64 v3 (iv (rootsE ps (x.val + 1))) by rw [HZ.out, iv_app, iv_one]; exact hown)
        have HX3 := hide (HX2.out.grow' hgrow HVB.out)
        clear hown hgrow
        go_wp2_with fail
        go_roundw
        case rel => exact ⟨x.val + 1, by omega, by go_num, HO3.out, HX3.out⟩
        case measure => simp [intOf]; omega
      · have HZ := hide (roots_no hz)
        have hv : ((((ev x ps).val : Nat) : Int) == 0) = false := by have := val_ne hz; simp; omega
        have HO3 := hide (show Own w2 (w.heap.size + 1) 2 .i64 v (iv (rootsE ps (x.val + 1))) by rw [HZ.out]; exact HO2.out)
        clear hz
        go_wp2_with fail
        go_roundw
        case rel => exact ⟨x.val + 1, by omega, by go_num, HO3.out, HX2.out⟩
        case measure => simp [intOf]; omega
    · obtain rfl : j = R.q := by omega
      have HF := hide (newE_of HO.out HX.out.2 (Nat.le_succ _))
      go_wp2_with fail
      go_ret
      exact HF
end
end Go.Proofs.Ythafkohopkgckaa
