/-
  The contract of the draw of a polynomial: a new list; of the old memory only the source's own block changes.
  Condition: the code has at most 4096 bytes.
-/
import Derived.Test.YthafkohopkgckaaFDraw3
import Derived.Test.YthafkohopkgckaaPSpec5
namespace Go.Proofs.Ythafkohopkgckaa
open Go.RowKit
set_option linter.unusedSimpArgs false
set_option linter.unusedVariables false

theorem Bx.src {w wr wr' : World} {t : TypeId} {p k γ : Int} {gs : Nat} (h : Bx w wr t p k γ (some gs)) (hg : wr.grownBy wr' (some gs)) (hne : gs ≠ w.heap.size) : Bx w wr' t p k γ (some gs) :=
  ⟨by rw [hg.block _ h.lt (by simpa using Ne.symm hne)]; exact h.1, grown_trans h.2 hg⟩
theorem Bx.own {w wr wr' : World} {t : TypeId} {p k γ : Int} {gs : Nat} {row : Option Nat} (h : Bx w wr t p k γ (some gs)) (hg : wr.grownBy wr' row) (hr : ∀ b, row = some b → w.heap.size < b) : Bx w wr' t p k γ (some gs) :=
  ⟨by rw [hg.block _ h.lt (fun e => by have := hr _ e.symm; omega)]; exact h.1,
   ⟨hg.os.trans h.2.os, hg.tape.trans h.2.tape, hg.output.trans h.2.output, Nat.le_trans h.2.size hg.size, fun i hi hne => (hg.block i (Nat.lt_of_lt_of_le hi h.2.size) (fun e => by have := hr _ e.symm; omega)).trans (h.2.block i hi hne)⟩⟩
theorem Own.lit1 (w : World) (e : TypeId) (k : IntKind) (y : Int) : Own (w.alloc (.cells #[.int k y] e)) w.heap.size e k (.slice (some ⟨w.heap.size, 0, none⟩) 1 1) [y] :=
  Own.intro (World.ownsRow_lit w #[.int k y] 1 (by simp) (by simp [maxLen]) (by simp)) rfl rfl

/-- What a draw of a list leaves. -/
def DrawnL (g Bc : Nat) (A : Option Addr) (n c : Nat) (code : List Int) (M : Nat) (w : World) (x : Ending) (w' : World) : Prop :=
  ∃ (zs : List Int) (A1 : Option Addr) (c1 : Nat), x = .returned (.slice A1 zs.length c1) ∧ zs.length ≤ M ∧ Own w' w.heap.size 2 .i64 (.slice A1 zs.length c1) zs ∧ Src w' g Bc A n c code ∧ w.grownBy w' (some g)
theorem drawnL_of {g Bc : Nat} {A : Option Addr} {n c : Nat} {code : List Int} {M base : Nat} {w w' : World} {v : Value} {zs : List Int} (h : Own w' base 2 .i64 v zs) (hl : zs.length ≤ M) (hB : w.heap.size ≤ base) (hs : Src w' g Bc A n c code) (hg : w.grownBy w' (some g)) : DrawnL g Bc A n c code M w (.returned v) w' := by
  obtain ⟨A1, c1, rfl, _⟩ := h.form
  exact ⟨zs, A1, c1, rfl, hl, h.low hB, hs, hg⟩

def PdRel {R : Fld} (w : World) (p k γ : Int) (g Bc : Nat) (A : Option Addr) (n c : Nat) (code : List Int) (v i : Value) (wr : World) : Prop :=
  ∃ (j : Nat) (ps : List (El R)), ps.length + j ≤ 21 ∧ i = .int .i64 j ∧ Own wr (w.heap.size + 1) 2 .i64 v (iv ps) ∧ Src wr g Bc A n c code ∧ Bx w wr 25 p k γ (some g)

set_option maxHeartbeats 4000000 in
theorem drawPoly (p k γ most : Int) (g Bc : Nat) (A : Option Addr) (n c : Nat) (code : List Int) (w : World) (hS : Src w g Bc A n c code) (hm0 : 0 ≤ most) (hm : most ≤ 20) :
    Calls Try.prog 65 #[.pointer (some ⟨g, 0, none⟩), .agg #[.int .i64 p, .int .i64 k, .int .i64 γ], .int .i64 most] w (DrawnL g Bc A n c code 30 w) := by
  have hgl := hS.lt
  have HX := hide (Bx.start w 25 p k γ (some g))
  have HS := hide (hS.still (World.grownBy_alloc w (.cells #[.int .i64 p, .int .i64 k, .int .i64 γ] 25) none) (by simp))
  have hne : g ≠ w.heap.size := by omega
  have HNE := hide hne
  clear hS hne
  rcases hf : fieldB p k γ with _ | _
  · have HB := hide hf
    clear hf
    go_enter Try.func65, Try.ntmps65
    go_wp2_with fail
    refine (specIsField p k γ _).mono ?_
    rw [HB.out]
    rintro e w1 ⟨rfl, hb⟩
    have HX1 := hide (HX.out.next hb)
    have HS1 := hide (HS.out.below hb HS.out.lt)
    have HO1 := hide (Own.lit1 w1 2 .i64 1)
    have HX2 := hide (HX1.out.next ((Below.refl _ _).alloc (Nat.le_refl _) (.cells #[.int .i64 1] 2)))
    have HS2 := hide (HS1.out.still (World.grownBy_alloc w1 (.cells #[.int .i64 1] 2) none) (by simp))
    clear hb
    go_wp2_with fail
    go_ret
    exact drawnL_of HO1.out (by simp) (Nat.le_of_lt HX1.out.lt) HS2 HX2.out.2
  · obtain ⟨R, hR⟩ := fld_ex hf
    have hq := hR.le
    have hq3 := R.three
    have HB := hide hf
    clear hf
    go_enter Try.func65, Try.ntmps65
    go_wp2_with fail
    refine (specIsField p k γ _).mono ?_
    rw [HB.out]
    rintro e w1 ⟨rfl, hb⟩
    have HX1 := hide (HX.out.next hb)
    have HS1 := hide (HS.out.below hb HS.out.lt)
    have HO2 := hide ((Own.lit0 w1 2 .i64).low (base' := w.heap.size + 1) HX1.out.lt)
    have HX2 := hide (HX1.out.next ((Below.refl _ _).alloc (Nat.le_refl _) (.cells #[] 2)))
    have HS2 := hide (HS1.out.still (World.grownBy_alloc w1 (.cells #[] 2) none) (by simp))
    have hw1l : w.heap.size < w1.heap.size := HX1.out.lt
    clear hb HX HS HX1 HS1
    go_wp2_with fail
    refine (next_any g Bc A n c code (most + 1) _ HS2.out (by omega)).mono ?_
    rintro e w3 ⟨y, rfl, hy0, hy1, hs, hg⟩
    obtain ⟨y, rfl⟩ : ∃ m : Nat, y = m := ⟨y.toNat, by omega⟩
    have HS3 := hide hs
    have HX3 := hide (HX2.out.src hg HNE.out)
    have HO3 := hide (HO2.out.grown hg (.inr (by show some w1.heap.size ≠ some g; intro e; injection e; omega)))
    clear hs hg HX2 HS2 HO2
    go_wp2_with fail
    go_loopw [7, 8] (fun v i wr => PdRel (R := R) w p k γ g Bc A n c code v i wr) (fun _ i _ => (intOf i).toNat)
    case atStart => exact ⟨y, [], by simp; omega, rfl, HO3.out, HS3.out, HX3.out⟩
    case round =>
      clear HX3 HS3 HO3 hy0 hy1
      obtain ⟨v, rfl⟩ : ∃ v : Value, v = u7 := ⟨_, rfl⟩
      obtain ⟨j, ps, hj, rfl, HO, HS, HX⟩ := hrel
      have HX := hide HX
      have HO := hide HO
      have HS := hide HS
      have HVG := hide (show v.ownBlock = none ∨ v.ownBlock ≠ some g by
        rcases hv : v.ownBlock with _ | b
        · exact .inl rfl
        · refine .inr fun e => ?_
          injection e with e
          have := (HO.out.lt hv).1
          omega)
      have HVB := hide (show ∀ b, v.ownBlock = some b → w.heap.size < b from fun b hb => (HO.out.lt hb).1)
      have hgw : g < w.heap.size := hgl
      by_cases hlt : 0 < j
      · obtain ⟨i, hi⟩ : ∃ i, j = i + 1 := ⟨j - 1, by omega⟩
        obtain ⟨c0, c1, c2⟩ := cells3 HX.out.1
        have hw1 : (j : Int) - 1 = (i : Int) := by omega
        have HII := hide hi
        clear hi
        go_wp2_with fail
        refine (specSize hR.kind _).mono ?_
        rintro e w2 ⟨rfl, hb⟩
        have HX2 := hide (HX.out.next hb)
        have HS2 := hide (HS.out.below hb HS.out.lt)
        have HO2 := hide (HO.out.below hb (Nat.le_refl _))
        clear hb c0 c1 c2
        go_wp2_with fail
        refine (next_any g Bc A n c code (R.q : Int) _ HS2.out (by omega)).mono ?_
        rintro e w3 ⟨y, rfl, hy0, hy1, hs, hg⟩
        obtain ⟨Y, rfl⟩ : ∃ Y : El R, y = (Y.val : Int) := ⟨⟨y.toNat, by omega⟩, by show y = ((y.toNat : Nat) : Int); omega⟩
        have HS3 := hide hs
        have HX3 := hide (HX2.out.src hg HNE.out)
        have HO3 := hide (HO2.out.grown hg HVG.out)
        have hlen : (iv ps).length + 1 ≤ 1000 := by rw [iv_len]; omega
        have hwl : w.heap.size + 1 ≤ w3.heap.size := HX3.out.lt
        clear hs hg hy0 hy1
        go_wp2_with (at_builtin; refine wpList_app1 w3 rfl _ _ _ rfl elem64 (w.heap.size + 1) v _ rfl HO3.out (Y.val : Int) rfl (by omega) hwl ?_; intro v4 w4 hown hgrow)
        have HO4 := hide (show Own w4 (w.heap.size + 1) 2 .i64 v4 (iv (ps ++ [Y])) by rw [iv_app, iv_one]; exact hown)
        have HX4 := hide (HX3.out.own hgrow HVB.out)
        have HS4 := hide (HS3.out.still hgrow (fun r hr => by have := HVB.out r hr; omega))
        clear hown hgrow
        go_wp2_with fail
        go_roundw
        case rel => exact ⟨i, ps ++ [Y], by have := HII.out; rw [List.length_append]; simp; omega, rfl, HO4.out, HS4.out, HX4.out⟩
        case measure => have := HII.out; simp [intOf]; omega
      · have hz : decide (0 < j) = false := by simpa using hlt
        have HLN := hide (show ps.length ≤ 21 by omega)
        obtain ⟨Av, cv, rfl, hcv⟩ := HO.out.form
        rw [iv_len] at hcv HO HVG HVB ⊢
        clear hlt
        go_wp2_with fail
        refine (specTrimE Av ps.length cv wr.heap.size ps wr HO.out.intsE (Nat.le_refl _) (by have := HLN.out; omega) hcv).mono ?_
        rintro e w1 ⟨A1, c1, rfl, hc1, ho1, hb1⟩
        have HT := hide (trim_le ps)
        have HX1 := hide (HX.out.next hb1)
        have HS1 := hide (HS.out.below hb1 HS.out.lt)
        have HO1 := hide (ho1.low (base' := w.heap.size + 1) HX.out.lt)
        obtain ⟨qs, hqs⟩ : ∃ qs, qs = trim ps := ⟨_, rfl⟩
        have HQL := hide (show qs.length ≤ 21 by have := HT.out; have := HLN.out; rw [hqs]; omega)
        rw [← hqs] at HO1 hc1 ⊢
        have HVG2 := hide (show (Value.slice A1 qs.length c1).ownBlock = none ∨ (Value.slice A1 qs.length c1).ownBlock ≠ some g by
          rcases hv : (Value.slice A1 qs.length c1).ownBlock with _ | b
          · exact .inl rfl
          · refine .inr fun e => ?_
            injection e with e
            have := (HO1.out.lt hv).1
            omega)
        have HVB2 := hide (show ∀ b, (Value.slice A1 qs.length c1).ownBlock = some b → w.heap.size < b from fun b hb => (HO1.out.lt hb).1)
        clear ho1 hb1 HVG HVB hcv HO HX HS hqs HT HLN
        go_wp2_with fail
        refine (next_any g Bc A n c code 40 _ HS1.out (by omega)).mono ?_
        rintro e w3 ⟨y, rfl, hy0, hy1, hs, hg⟩
        have HS3 := hide hs
        have HX3 := hide (HX1.out.src hg HNE.out)
        have HO3 := hide (HO1.out.grown hg HVG2.out)
        have hlen : (iv qs).length + 1 ≤ 1000 := by rw [iv_len]; have := HQL.out; omega
        have hwl : w.heap.size + 1 ≤ w3.heap.size := HX3.out.lt
        clear hs hg hy1
        by_cases hy : y = 0
        · subst hy
          go_wp2_with (at_builtin; refine wpList_app1 w3 rfl _ _ _ rfl elem64 (w.heap.size + 1) (.slice A1 qs.length c1) _ rfl HO3.out 0 rfl (by omega) hwl ?_; intro v4 w4 hown hgrow)
          have HO4 := hide hown
          have HX4 := hide (HX3.out.own hgrow HVB2.out)
          have HS4 := hide (HS3.out.still hgrow (fun r hr => by have := HVB2.out r hr; omega))
          have HL := hide (show (iv qs ++ [(0 : Int)]).length ≤ 30 by rw [List.length_append, iv_len]; have := HQL.out; simp; omega)
          clear hown hgrow
          go_wp2_with fail
          go_ret
          exact drawnL_of HO4.out HL.out (Nat.le_succ _) HS4 HX4.out.2
        · by_cases hy' : y = 1
          · subst hy'
            obtain ⟨c0, c1', c2⟩ := cells3 HX3.out.1
            go_wp2_with fail
            refine (specSize hR.kind _).mono ?_
            rintro e w5 ⟨rfl, hb⟩
            have HX5 := hide (HX3.out.next hb)
            have HS5 := hide (HS3.out.below hb HS3.out.lt)
            have HO5 := hide (HO3.out.below hb (Nat.le_refl _))
            have hwl5 : w.heap.size + 1 ≤ w5.heap.size := HX5.out.lt
            clear hb c0 c1' c2
            go_wp2_with (at_builtin; refine wpList_app1 w5 rfl _ _ _ rfl elem64 (w.heap.size + 1) (.slice A1 qs.length c1) _ rfl HO5.out (R.q : Int) rfl (by omega) hwl5 ?_; intro v4 w4 hown hgrow)
            have HO4 := hide hown
            have HX4 := hide (HX5.out.own hgrow HVB2.out)
            have HS4 := hide (HS5.out.still hgrow (fun r hr => by have := HVB2.out r hr; omega))
            have HL := hide (show (iv qs ++ [(R.q : Int)]).length ≤ 30 by rw [List.length_append, iv_len]; have := HQL.out; simp; omega)
            clear hown hgrow
            go_wp2_with fail
            go_ret
            exact drawnL_of HO4.out HL.out (Nat.le_succ _) HS4 HX4.out.2
          · have e0 : (y == 0) = false := by simpa using hy
            have e1 : (y == 1) = false := by simpa using hy'
            have HL := hide (show (iv qs).length ≤ 30 by rw [iv_len]; have := HQL.out; omega)
            clear hy hy'
            go_wp2_with fail
            go_ret
            exact drawnL_of HO3.out HL.out (Nat.le_succ _) HS3 HX3.out.2
end Go.Proofs.Ythafkohopkgckaa
