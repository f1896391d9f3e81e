/-
  The contracts of IsPolynomial, PolyAdd and PolyMul, of the model and of the program, side by side.
  Condition: lists shorter than 2^20.
-/
import Derived.Test.YthafkohopkgckaaPSpec4
namespace Go.Proofs.Ythafkohopkgckaa
open Go.RowKit
set_option linter.unusedSimpArgs false
set_option linter.unusedVariables false

/-- A function of a field and one list, or two lists: its contract, whatever the lists' memory. -/
def C1 (f : Nat) (p k g : Int) (z : List Int) (Post : World → Ending → World → Prop) : Prop :=
  ∀ (A : Option Addr) (n c B : Nat) (w : World), Ints .i64 w B A n z → B ≤ w.heap.size → Calls Try.prog f #[.agg #[.int .i64 p, .int .i64 k, .int .i64 g], .slice A n c] w (Post w)
def C2 (f : Nat) (p k g : Int) (z z' : List Int) (Post : World → Ending → World → Prop) : Prop :=
  ∀ (A : Option Addr) (n c : Nat) (A' : Option Addr) (n' c' B : Nat) (w : World), Ints .i64 w B A n z → Ints .i64 w B A' n' z' → B ≤ w.heap.size → Calls Try.prog f #[.agg #[.int .i64 p, .int .i64 k, .int .i64 g], .slice A n c, .slice A' n' c'] w (Post w)
/-- What a function leaves that returns a new list and a code. -/
def NewIK (r : List Int) (c : Int) (w : World) (x : Ending) (w' : World) : Prop :=
  ∃ A m, x = .returned (.tuple #[.slice A r.length m, .int .i64 c]) ∧ r.length ≤ m ∧ Own w' w.heap.size 2 .i64 (.slice A r.length m) r ∧ Below w.heap.size w w'
theorem newIK_of {r : List Int} {c : Int} {w w' : World} {v : Value} {base : Nat} (h : Own w' base 2 .i64 v r) (hb : Below w.heap.size w w') (hB : w.heap.size ≤ base) : NewIK r c w (.returned (.tuple #[v, .int .i64 c])) w' := by
  obtain ⟨A, m, rfl, hc⟩ := h.form
  exact ⟨A, m, rfl, hc, h.low hB, hb⟩
theorem newIK_nil {c : Int} {w w' : World} (hb : Below w.heap.size w w') : NewIK [] c w (.returned (.tuple #[.slice none 0 0, .int .i64 c])) w' :=
  newIK_of (base := w.heap.size) (World.ownsRow_nil _ _ _ _) hb (Nat.le_refl _)

theorem rws1 {w : World} {B n c : Nat} {A : Option Addr} {z : List Int} (t : TypeId) (h : Ints .i64 w B A n z) (hB : B ≤ w.heap.size) (hn : n ≤ 1099511627776) :
    Rws (w.alloc (.cells #[.slice A n c] t)) (w.heap.size + 1) w.heap.size [(A, n, c, z)] := by
  refine ⟨by omega, fun i e he => ?_⟩
  have h1 := (h.below ((Below.refl B w).alloc hB (.cells #[.slice A n c] t))).more (B' := w.heap.size + 1) (by omega)
  have hi : i < 1 := (List.getElem?_eq_some_iff.1 he).1
  obtain rfl : i = 0 := by omega
  simp only [List.getElem?_cons_zero, Option.some.injEq] at he
  subst he
  exact ⟨by rw [World.cell?_alloc_at _ _ _ _ rfl]; rfl, h1, hn⟩
theorem rws2 {w : World} {B n c n' c' : Nat} {A A' : Option Addr} {z z' : List Int} (t : TypeId) (h : Ints .i64 w B A n z) (h' : Ints .i64 w B A' n' z') (hB : B ≤ w.heap.size) (hn : n ≤ 1099511627776) (hn' : n' ≤ 1099511627776) :
    Rws (w.alloc (.cells #[.slice A n c, .slice A' n' c'] t)) (w.heap.size + 1) w.heap.size [(A, n, c, z), (A', n', c', z')] := by
  refine ⟨by omega, fun i e he => ?_⟩
  have h1 := (h.below ((Below.refl B w).alloc hB (.cells #[.slice A n c, .slice A' n' c'] t))).more (B' := w.heap.size + 1) (by omega)
  have h2 := (h'.below ((Below.refl B w).alloc hB (.cells #[.slice A n c, .slice A' n' c'] t))).more (B' := w.heap.size + 1) (by omega)
  have hi : i < 2 := (List.getElem?_eq_some_iff.1 he).1
  rcases (show i = 0 ∨ i = 1 by omega) with rfl | rfl
  · simp only [List.getElem?_cons_zero, Option.some.injEq] at he
    subst he
    exact ⟨by rw [World.cell?_alloc_at _ _ _ _ rfl]; rfl, h1, hn⟩
  · simp only [List.getElem?_cons_succ, List.getElem?_cons_zero, Option.some.injEq] at he
    subst he
    exact ⟨by rw [World.cell?_alloc_at _ _ _ _ rfl]; rfl, h2, hn'⟩

theorem rws1b {w : World} {B n c : Nat} {A : Option Addr} {z : List Int} (o : Obj) (t : TypeId) (h : Ints .i64 w B A n z) (hB : B ≤ w.heap.size) (hn : n ≤ 1099511627776) :
    Rws ((w.alloc o).alloc (.cells #[.slice A n c] t)) (w.heap.size + 2) (w.heap.size + 1) [(A, n, c, z)] := by
  have h1 := rws1 (c := c) t (h.below ((Below.refl B w).alloc hB o)) (by rw [alloc_size]; omega) hn
  rw [alloc_size] at h1; exact h1
theorem rws2b {w : World} {B n c n' c' : Nat} {A A' : Option Addr} {z z' : List Int} (o : Obj) (t : TypeId) (h : Ints .i64 w B A n z) (h' : Ints .i64 w B A' n' z') (hB : B ≤ w.heap.size) (hn : n ≤ 1099511627776) (hn' : n' ≤ 1099511627776) :
    Rws ((w.alloc o).alloc (.cells #[.slice A n c, .slice A' n' c'] t)) (w.heap.size + 2) (w.heap.size + 1) [(A, n, c, z), (A', n', c', z')] := by
  have h1 := rws2 (c := c) (c' := c') t (h.below ((Below.refl B w).alloc hB o)) (h'.below ((Below.refl B w).alloc hB o)) (by rw [alloc_size]; omega) hn hn'
  rw [alloc_size] at h1; exact h1

theorem poly_open {R : Fld} {zs : List Int} (h : polyB R.q zs = true) : ∃ ps : List (El R), zs = iv ps ∧ Tr ps ∧ ps.length ≤ 512 := by
  simp only [polyB, Bool.and_eq_true, decide_eq_true_eq] at h
  obtain ⟨h1, h2, h3⟩ := h
  obtain ⟨ps, rfl⟩ := iv_of h2
  rw [iv_len] at h1
  refine ⟨ps, rfl, fun i hi e => h3 ?_, h1⟩
  rw [List.getLast?_eq_getElem?, iv_len, show ps.length - 1 = i by omega, iv_at (by omega), e]; rfl
theorem poly_shut {R : Fld} {ps : List (El R)} (h : Tr ps) (hl : ps.length ≤ 512) : polyB R.q (iv ps) = true := by
  simp only [polyB, Bool.and_eq_true, decide_eq_true_eq, iv_len]
  refine ⟨hl, iv_all ps, fun e => ?_⟩
  rw [List.getLast?_eq_getElem?, iv_len] at e
  have h0 : 0 < ps.length := by
    rcases Nat.eq_zero_or_pos ps.length with h0 | h0
    · rw [List.getElem?_eq_none (by rw [iv_len]; omega)] at e; cases e
    · exact h0
  rw [iv_at (by omega)] at e
  simp only [Option.some.injEq] at e
  exact h (ps.length - 1) (by omega) (El.eq (by rw [val_zero]; omega))
theorem pErr_good {p k g : Int} {L : List (List Int)} (h : pErr p k g L ≠ 1) : pErr p k g L = 0 ∧ fieldB p k g = true ∧ ∃ R : Fld, FldIs R p k g ∧ ∀ z ∈ L, ∃ ps : List (El R), z = iv ps ∧ Tr ps ∧ ps.length ≤ 512 := by
  unfold pErr at h ⊢
  by_cases hh : fieldB p k g = true ∧ ∀ zs ∈ L, polyB (sizeI p k).toNat zs = true
  · rw [if_pos hh]
    obtain ⟨R, hR⟩ := fld_ex hh.1
    refine ⟨rfl, hh.1, R, hR, fun z hz => poly_open ?_⟩
    have := hh.2 z hz
    rwa [hR.kind.size, Int.toNat_natCast] at this
  · rw [if_neg hh] at h; exact absurd rfl h
theorem pErr1 (p k g : Int) (z : List Int) : pErr p k g [z] = 1 ∨ (pErr p k g [z] = 0 ∧ fieldB p k g = true ∧ ∃ (R : Fld) (ps : List (El R)), FldIs R p k g ∧ z = iv ps ∧ Tr ps ∧ ps.length ≤ 512) := by
  by_cases h : pErr p k g [z] = 1
  · exact .inl h
  · obtain ⟨h0, hf, R, hR, hL⟩ := pErr_good h
    obtain ⟨ps, h1, h2, h3⟩ := hL z (by simp)
    exact .inr ⟨h0, hf, R, ps, hR, h1, h2, h3⟩
theorem pErr2 (p k g : Int) (z z' : List Int) : pErr p k g [z, z'] = 1 ∨ (pErr p k g [z, z'] = 0 ∧ fieldB p k g = true ∧ ∃ (R : Fld) (ps qs : List (El R)), FldIs R p k g ∧ z = iv ps ∧ Tr ps ∧ ps.length ≤ 512 ∧ z' = iv qs ∧ Tr qs ∧ qs.length ≤ 512) := by
  by_cases h : pErr p k g [z, z'] = 1
  · exact .inl h
  · obtain ⟨h0, hf, R, hR, hL⟩ := pErr_good h
    obtain ⟨ps, h1, h2, h3⟩ := hL z (by simp)
    obtain ⟨qs, h4, h5, h6⟩ := hL z' (by simp)
    exact .inr ⟨h0, hf, R, ps, qs, hR, h1, h2, h3, h4, h5, h6⟩
theorem len40 {z : List Int} (h : z.length ≤ 1048576) : z.length ≤ 1099511627776 := Nat.le_trans h (by omega)
theorem iv512 {R : Fld} {ps : List (El R)} (h : ps.length ≤ 1024) : (iv ps).length ≤ 1099511627776 := by rw [iv_len]; omega

section
variable (p k g : Int) (z z' : List Int)
set_option maxHeartbeats 1000000 in
theorem isPoly_both (hz : z.length ≤ 1048576) : ∃ b : Bool, C1 45 p k g z (Gives (.bool b)) ∧ C1 35 p k g z (Gives (.bool b)) := by
  refine ⟨decide (pErr p k g [z] = 0), ?_, ?_⟩
  · intro A n c B w hI hB
    have HX := hide (Box.start w 25 p k g)
    have hn : n ≤ 1048576 := by rw [← hI.len]; exact hz
    have HI := hide hI
    clear hI
    rcases hf : fieldB p k g with _ | _
    · have HF := hide (show decide (pErr p k g [z] = 0) = false by rw [pErr_no hf]; rfl)
      have HB := hide hf
      clear hf
      go_enter Try.func45, Try.ntmps45
      go_wp2_with fail
      refine (specIsField p k g _).mono ?_
      rw [HB.out]
      rintro e w1 ⟨rfl, hb⟩
      have HX1 := hide (HX.out.next hb)
      clear hb
      go_wp2_with fail
      go_ret
      exact ⟨ret_bool HF, HX1.out.2⟩
    · obtain ⟨q, mul, γ, hK, _⟩ := fieldB_open hf
      have HF := hide (show decide (pErr p k g [z] = 0) = polyB q z by
        rcases hp : polyB q z with _ | _
        · rw [pErr_bad hK (by simp : z ∈ [z]) hp]; rfl
        · rw [pErr_ok hf hK (by simp [hp])]; rfl)
      have HB := hide hf
      clear hf
      go_enter Try.func45, Try.ntmps45
      go_wp2_with fail
      refine (specIsField p k g _).mono ?_
      rw [HB.out]
      rintro e w1 ⟨rfl, hb⟩
      have HX1 := hide (HX.out.next hb)
      have HI1 := hide (HI.out.below (HX1.out.2.mono hB))
      obtain ⟨c0, c1, c2⟩ := HX1.out.cells
      clear hb
      go_wp2_with fail
      refine (specL3Is hK A n c B z _ HI1.out (Nat.le_trans hB (Nat.le_of_lt HX1.out.lt)) (by omega)).mono ?_
      rintro e w2 ⟨rfl, hb⟩
      have HX2 := hide (HX1.out.next hb)
      clear hb
      go_wp2_with fail
      go_ret
      exact ⟨ret_bool HF, HX2.out.2⟩
  · intro A n c B w hI hB
    have HX := hide (Box.start w 25 p k g)
    have hn : n ≤ 1048576 := by rw [← hI.len]; exact hz
    have HR := hide (rws1b (c := c) (.cells #[.int .i64 p, .int .i64 k, .int .i64 g] 25) 70 hI hB (by omega))
    have HXr := hide (HX.out.alloc (.cells #[.slice A n c] 70))
    obtain ⟨v, hv⟩ : ∃ v, v = pErr p k g [z] := ⟨_, rfl⟩
    have HF := hide (show decide (pErr p k g [z] = 0) = (v == 0) by rw [hv]; rfl)
    have HV := hide hv
    clear hI hv
    go_enter Try.func35, Try.ntmps35
    go_wp2_with fail
    refine (implPErr p k g _ 1 1 _ _ _ HR.out rfl (box_size _ _ _) (by omega)).mono ?_
    rw [show lists [(A, n, c, z)] = [z] from rfl, ← HV.out]
    rintro e w1 ⟨rfl, hb⟩
    have HX1 := hide (HXr.out.next hb)
    clear hb
    go_wp2_with fail
    go_ret
    exact ⟨ret_bool HF, HX1.out.2⟩

set_option maxHeartbeats 1000000 in
theorem add_both (hz : z.length ≤ 1048576) (hz' : z'.length ≤ 1048576) : ∃ (r : List Int) (c : Int), r.length ≤ 1099511627776 ∧ C2 49 p k g z z' (NewIK r c) ∧ C2 34 p k g z z' (NewIK r c) := by
  rcases pErr2 p k g z z' with h1 | ⟨h0, hf, R, ps, qs, hR, rfl, hp, hpl, rfl, hq, hql⟩
  · have H1 := hide h1
    clear h1
    refine ⟨[], 1, by simp, ?_, ?_⟩
    · intro A n c A' n' c' B w hI hJ hB
      have HX := hide (Box.start w 25 p k g)
      have hn : n ≤ 1048576 := by rw [← hI.len]; exact hz
      have hn' : n' ≤ 1048576 := by rw [← hJ.len]; exact hz'
      have HR := hide (rws2b (c := c) (c' := c') (.cells #[.int .i64 p, .int .i64 k, .int .i64 g] 25) 35 hI hJ hB (by omega) (by omega))
      have HXr := hide (HX.out.alloc (.cells #[.slice A n c, .slice A' n' c'] 35))
      clear hI hJ
      go_enter Try.func49, Try.ntmps49
      go_wp2_with fail
      refine (specPErr p k g _ 2 2 _ _ _ HR.out rfl (box_size _ _ _) (by omega)).mono ?_
      rw [show lists [(A, n, c, z), (A', n', c', z')] = [z, z'] from rfl, H1.out]
      rintro e w1 ⟨rfl, hb⟩
      have HX1 := hide (HXr.out.next hb)
      clear hb
      go_wp2_with fail
      go_ret2
      exact newIK_nil HX1.out.2
    · intro A n c A' n' c' B w hI hJ hB
      have HX := hide (Box.start w 25 p k g)
      have hn : n ≤ 1048576 := by rw [← hI.len]; exact hz
      have hn' : n' ≤ 1048576 := by rw [← hJ.len]; exact hz'
      have HR := hide (rws2b (c := c) (c' := c') (.cells #[.int .i64 p, .int .i64 k, .int .i64 g] 25) 70 hI hJ hB (by omega) (by omega))
      have HXr := hide (HX.out.alloc (.cells #[.slice A n c, .slice A' n' c'] 70))
      clear hI hJ
      go_enter Try.func34, Try.ntmps34
      go_wp2_with fail
      refine (implPErr p k g _ 2 2 _ _ _ HR.out rfl (box_size _ _ _) (by omega)).mono ?_
      rw [show lists [(A, n, c, z), (A', n', c', z')] = [z, z'] from rfl, H1.out]
      rintro e w1 ⟨rfl, hb⟩
      have HX1 := hide (HXr.out.next hb)
      clear hb
      go_wp2_with fail
      go_ret2
      exact newIK_nil HX1.out.2
  · have H0 := hide h0
    clear h0
    refine ⟨iv (addP ps qs), 0, iv512 (by have := trim_le (tab (max ps.length qs.length) fun i => cf ps i + cf qs i); rw [tab_len] at this; unfold addP; omega), ?_, ?_⟩
    · intro A n c A' n' c' B w hI hJ hB
      have HX := hide (Box.start w 25 p k g)
      have hn : n ≤ 1048576 := by rw [← hI.len]; exact hz
      have hn' : n' ≤ 1048576 := by rw [← hJ.len]; exact hz'
      have HR := hide (rws2b (c := c) (c' := c') (.cells #[.int .i64 p, .int .i64 k, .int .i64 g] 25) 35 hI hJ hB (by omega) (by omega))
      have HXr := hide (HX.out.alloc (.cells #[.slice A n c, .slice A' n' c'] 35))
      have HI := hide hI
      have HJ := hide hJ
      clear hI hJ
      go_enter Try.func49, Try.ntmps49
      go_wp2_with fail
      refine (specPErr p k g _ 2 2 _ _ _ HR.out rfl (box_size _ _ _) (by omega)).mono ?_
      rw [show lists [(A, n, c, iv ps), (A', n', c', iv qs)] = [iv ps, iv qs] from rfl, H0.out]
      rintro e w1 ⟨rfl, hb⟩
      have HX1 := hide (HXr.out.next hb)
      obtain ⟨c0, c1, c2⟩ := HX1.out.cells
      clear hb
      go_wp2_with fail
      refine (specAddE' hR ps qs A A' n c n' c' B _ (HI.out.below (HX1.out.2.mono hB)) (HJ.out.below (HX1.out.2.mono hB)) (Nat.le_trans hB (Nat.le_of_lt HX1.out.lt)) (by omega) (by omega)).mono ?_
      rintro e w2 ⟨A1, m1, rfl, hm1, ho, hb⟩
      have HX2 := hide (HX1.out.next hb)
      have HO := hide (newIK_of (c := 0) ho HX2.out.2 (Nat.le_of_lt HX1.out.lt))
      clear ho hb c0 c1 c2
      go_wp2_with fail
      go_ret2
      exact HO
    · intro A n c A' n' c' B w hI hJ hB
      have HX := hide (Box.start w 25 p k g)
      have hn : n ≤ 1048576 := by rw [← hI.len]; exact hz
      have hn' : n' ≤ 1048576 := by rw [← hJ.len]; exact hz'
      have HR := hide (rws2b (c := c) (c' := c') (.cells #[.int .i64 p, .int .i64 k, .int .i64 g] 25) 70 hI hJ hB (by omega) (by omega))
      have HXr := hide (HX.out.alloc (.cells #[.slice A n c, .slice A' n' c'] 70))
      have HI := hide hI
      have HJ := hide hJ
      clear hI hJ
      go_enter Try.func34, Try.ntmps34
      go_wp2_with fail
      refine (implPErr p k g _ 2 2 _ _ _ HR.out rfl (box_size _ _ _) (by omega)).mono ?_
      rw [show lists [(A, n, c, iv ps), (A', n', c', iv qs)] = [iv ps, iv qs] from rfl, H0.out]
      rintro e w1 ⟨rfl, hb⟩
      have HX1 := hide (HXr.out.next hb)
      have HXb := hide (HX1.out.alloc (.cells #[.slice A' n' c'] 70))
      obtain ⟨c0, c1, c2⟩ := HX1.out.cells
      clear hb
      go_wp2_with fail
      refine (implPlus hR ps qs A A' n c n' c' B w1.heap.size _ (HI.out.below (HXb.out.2.mono hB)) (HJ.out.below (HXb.out.2.mono hB)) (by rw [alloc_size]; omega) (by rw [World.cell?_alloc_at _ _ _ _ rfl]; rfl) (Nat.le_trans hB (Nat.le_of_lt HXb.out.lt)) (by omega) (by omega)).mono ?_
      rintro e w2 ⟨gB, m1, rfl, ho, hm1, hb⟩
      have HX2 := hide (HXb.out.next hb)
      have HO := hide (newIK_of (c := 0) ho HX2.out.2 (Nat.le_of_lt HXb.out.lt))
      clear ho hb c0 c1 c2
      go_wp2_with fail
      go_ret2
      exact HO
end
end Go.Proofs.Ythafkohopkgckaa
