/-
  The contract of the draw of a word of a code: a new list; of the old memory only the source's own block changes.
  Condition: the code has at most 4096 bytes; the numbers of the code lie in bounds.
-/
import Derived.Test.YtdniocdmncldjaaGreatCDraw4
import Derived.Test.YtdniocdmncldjaaGreatCHalf
namespace Go.Proofs.YtdniocdmncldjaaGreat
open Go.RowKit
set_option linter.unusedVariables false
set_option linter.unusedSimpArgs false

/-- What EncodeWord of the model returns: an error, or a word of a valid code. -/
theorem enc_spec (p k g L C : Int) (z : List Int) (hz : z.length ≤ 1048576) (hC : -9223372036854775808 ≤ C ∧ C ≤ 9223372036854775807) : ∃ (r : List Int) (cd : Int), D1 65 p k g L C z (NewIK r cd) ∧
    ((cd != 0) = true ∨ (cd = 0 ∧ ∃ (R : Fld) (γ : El R) (l c : Nat), L = l ∧ C = c ∧ CodeIs R γ p k g l c ∧ r.length = l)) := by
  rcases h : codeB p k g L C with _ | _
  · exact ⟨[], 1, enc_bad1S p k g L C z hz hC h, .inl rfl⟩
  · obtain ⟨R, γ, l, c, rfl, rfl, hc⟩ := codeB_open h
    rcases hw : wordB R.q ((l - c : Nat) : Int) z with _ | _
    · exact ⟨[], 2, enc_bad2S hc z hz hw, .inl rfl⟩
    · obtain ⟨ms, rfl, hm⟩ := word_open hw
      exact ⟨_, 0, enc_valS hc ms hz hm, .inr ⟨rfl, R, γ, l, c, rfl, rfl, hc, by rw [iv_len, enc_len, hm]; have := hc.cl; omega⟩⟩
theorem own_lit3 (w : World) (e : TypeId) (k : IntKind) (x y z : Int) : Own (w.alloc (.cells #[.int k x, .int k y, .int k z] e)) w.heap.size e k (.slice (some ⟨w.heap.size, 0, none⟩) 3 3) [x, y, z] :=
  Own.intro (World.ownsRow_lit w #[.int k x, .int k y, .int k z] 3 (by simp) (by simp [maxLen]) (by simp)) rfl rfl

def WdrRel (w : World) (p k γ : Int) (l c0 : Nat) (g Bc : Nat) (A : Option Addr) (n c : Nat) (code : List Int) (gW cw : Nat) (i : Value) (wr : World) : Prop :=
  ∃ (m : Nat) (zs : List Int), i = .int .i64 m ∧ m ≤ 3000 ∧ Hid (zs.length = l) ∧ Own wr (w.heap.size + 1) 2 .i64 (.slice (some ⟨gW, 0, none⟩) l cw) zs ∧ Src wr g Bc A n c code ∧ CBs w wr p k γ l c0 g

set_option maxRecDepth 100000 in
set_option maxHeartbeats 8000000 in
theorem drawWord (p k γ L C ch : Int) (g Bc : Nat) (A : Option Addr) (n c : Nat) (code : List Int) (w : World) (hS : Src w g Bc A n c code) (hL0 : 0 ≤ L) (hL1 : L ≤ 3000) (hC0 : 0 ≤ C) (hC1 : C ≤ 3000) (hch0 : 0 ≤ ch) (hch1 : ch ≤ 2000) :
    Calls Tryz.prog 36 #[.pointer (some ⟨g, 0, none⟩), .agg #[.int .i64 p, .int .i64 k, .int .i64 γ, .int .i64 L, .int .i64 C], .int .i64 ch] w (DrawnL g Bc A n c code 400 w) := by
  have hgl := hS.lt
  have hne : g ≠ w.heap.size := by omega
  have HNE := hide hne
  have HX := hide (CBs.start w p k γ L C g)
  have HS := hide (hS.still (World.grownBy_alloc w (.cells #[.int .i64 p, .int .i64 k, .int .i64 γ, .int .i64 L, .int .i64 C] 27) none) (by simp))
  have hCb : -9223372036854775808 ≤ C ∧ C ≤ 9223372036854775807 := by omega
  clear hS hne
  rcases hcb : codeB p k γ L C with _ | _
  · have HB := hide hcb
    clear hcb
    go_enter Tryz.func36, Tryz.ntmps36
    go_wp2_with fail
    refine (specIsCode p k γ L C _ hCb).mono ?_
    rw [HB.out]
    rintro e w1 ⟨rfl, hb⟩
    have HX1 := hide ((HX.out.next hb).alloc (.cells #[.int .i64 1, .int .i64 0, .int .i64 2] 2))
    have HS1 := hide ((HS.out.below hb HS.out.lt).still (World.grownBy_alloc w1 (.cells #[.int .i64 1, .int .i64 0, .int .i64 2] 2) none) (by simp))
    have HO1 := hide (own_lit3 w1 2 .i64 1 0 2)
    have hwl : w.heap.size ≤ w1.heap.size := Nat.le_of_lt (HX.out.next hb).lt
    clear hb
    go_wp2_with fail
    go_ret
    exact drawnL_of HO1.out (by simp) hwl HS1.out HX1.out.2
  · have HB := hide hcb
    clear hcb
    go_enter Tryz.func36, Tryz.ntmps36
    go_wp2_with fail
    refine (specIsCode p k γ L C _ hCb).mono ?_
    rw [HB.out]
    rintro e w1 ⟨rfl, hb⟩
    have HX1 := hide (HX.out.next hb)
    have HS1 := hide (HS.out.below hb HS.out.lt)
    clear hb
    obtain ⟨c0, c1, c2, c3, c4⟩ := HX1.out.cells
    go_wp2_with fail
    refine (drawMessage p k γ L C g Bc A n c code _ HS1.out hL0 hL1 hC0 hC1).mono ?_
    rintro e w2 ⟨zs, A2, cz, rfl, hzl, ho, hs, hg⟩
    have HX2 := hide (HX1.out.src hg HNE.out)
    have HS2 := hide hs
    have HO2 := hide (ho.low (base' := w.heap.size + 1) HX1.out.lt)
    have HCZ := hide (show zs.length ≤ cz by
      obtain ⟨A', c', h1, h2⟩ := ho.form
      simp only [Value.slice.injEq] at h1
      omega)
    clear ho hs hg c0 c1 c2 c3 c4
    obtain ⟨c0, c1, c2, c3, c4⟩ := HX2.out.cells
    obtain ⟨r, cd, hE, hR⟩ := enc_spec p k γ L C zs (by omega) hCb
    have HE := hide hE
    have HR := hide hR
    clear hE hR
    go_wp2_with fail
    refine (HE.out A2 zs.length cz w2.heap.size w2 HO2.out.ints HCZ.out (Nat.le_refl _)).mono ?_
    rintro e w3 ⟨A3, c3', rfl, hc3, ho, hb⟩
    have HX3 := hide (HX2.out.next hb)
    have HS3 := hide (HS2.out.below hb HS2.out.lt)
    have HO3 := hide (HO2.out.below hb (Nat.le_refl _))
    have HW3 := hide (ho.low (base' := w.heap.size + 1) HX2.out.lt)
    clear ho hb c0 c1 c2 c3 c4 HE
    rcases HR.out with hcd | ⟨hcd, R, γ', l, c', rfl, rfl, hc, hrl⟩
    · go_wp2_with fail
      go_ret
      exact drawnL_of HO3.out (by omega) (Nat.le_succ _) HS3.out HX3.out.2
    · subst hcd
      have hl255 := hc.l255
      have hcl := hc.cl
      have hc1' := hc.c1
      have hK := hc.fld.kind
      have hqb := hK.big
      obtain ⟨gW, cw, he, hg1, hg2, hcw⟩ := HW3.out.some_ (by omega)
      simp only [Value.slice.injEq] at he
      obtain ⟨rfl, _, hcc⟩ := he
      subst hcc
      rw [hrl] at HW3 hcw ⊢
      have HRL := hide hrl
      have HGW := hide (show w.heap.size < gW from hg1)
      have hw1 : IntKind.i64.wrap (ch + 1) = ch + 1 := IntWalk.i64_in _ ⟨by omega, by omega⟩
      clear hg1 hg2 hrl hc3
      go_wp2_with fail
      refine (next_any g Bc A n c code (ch + 1) _ HS3.out (by omega)).mono ?_
      rintro e w4 ⟨y, rfl, hy0, hy1, hs, hg⟩
      obtain ⟨y, rfl⟩ : ∃ m : Nat, y = m := ⟨y.toNat, by omega⟩
      have HX4 := hide (HX3.out.src hg HNE.out)
      have HS4 := hide hs
      have HO4 := hide (HW3.out.grown hg (own_gap HW3.out (by omega)))
      have hyb : y ≤ 3000 := by omega
      clear hs hg hy0 hy1
      go_wp2_with fail
      go_loopw [10] (fun i wr => WdrRel w p k γ l c' g Bc A n c code gW c3' i wr) (fun i _ => (intOf i).toNat)
      case atStart => exact ⟨y, r, rfl, hyb, HRL.out, HO4.out, HS4.out, HX4.out⟩
      case round =>
        clear HX4 HS4 HO4 HX3 HS3 HO3 HW3 HX2 HS2 HO2 HX1 HS1 HX HS hyb
        obtain ⟨m, zs, rfl, hmb, HL, HO, HS, HX⟩ := hrel
        have HX := hide HX
        have HO := hide HO
        have HS := hide HS
        have HVG := hide (own_gap HO.out (B := g) (by omega))
        by_cases hm : 0 < m
        · obtain ⟨m', hm'⟩ : ∃ m', m = m' + 1 := ⟨m - 1, by omega⟩
          have hw2 : (m : Int) - 1 = (m' : Int) := by omega
          have HMM := hide hm'
          have hgw := HGW.out
          clear hm'
          go_wp2_with fail
          go_region_held3 (fun w' => w'.cell? ⟨w.heap.size, 0, none⟩ = some (.int .i64 p) ∧ w'.cell? ⟨w.heap.size, 1, none⟩ = some (.int .i64 k) ∧ w'.cell? ⟨w.heap.size, 2, none⟩ = some (.int .i64 γ) ∧ w'.cell? ⟨w.heap.size, 3, none⟩ = some (.int .i64 l))
            (first
              | exact ⟨HX.out.drew.cells.1, HX.out.drew.cells.2.1, HX.out.drew.cells.2.2.1, HX.out.drew.cells.2.2.2.1⟩
              | exact ⟨HXa.out.cells.1, HXa.out.cells.2.1, HXa.out.cells.2.2.1, HXa.out.cells.2.2.2.1⟩
              | exact ⟨HXb.out.cells.1, HXb.out.cells.2.1, HXb.out.cells.2.2.1, HXb.out.cells.2.2.2.1⟩
              | exact ⟨HXc.out.cells.1, HXc.out.cells.2.1, HXc.out.cells.2.2.1, HXc.out.cells.2.2.2.1⟩
              | exact ⟨HXd.out.cells.1, HXd.out.cells.2.1, HXd.out.cells.2.2.1, HXd.out.cells.2.2.2.1⟩)
            (first
              | (go_at_call 40; refine (specSize hK _).mono ?_; rintro e wb ⟨rfl, hb⟩; have HXb := hide (HXa.out.next hb); have HSb := hide (HSa.out.below hb HSa.out.lt); have HOb := hide (HOa.out.below hb (Nat.le_refl _)); clear hb)
              | (go_at_call 37; have hm1 := HM1; refine (next_any g Bc A n c code (R.q : Int) _ HSb.out (by omega)).mono ?_; rintro e wc ⟨z, rfl, hz0, hz1, hs, hg⟩; have HXc := hide (HXb.out.src hg HNE.out); have HSc := hide hs; have HOc := hide (HOb.out.grown hg HVG.out); have hfx := HOc.out.frozenAt t; obtain ⟨u, hcx⟩ : ∃ u : Int, wc.cell? ⟨gW, t, none⟩ = some (.int .i64 u) := ⟨_, HOc.out.cellAt (j := t) (List.getElem?_eq_getElem (by rw [HL.out]; exact htl))⟩; have HOd := hide (HOc.out.stored t z).1; have HGd := hide (HOc.out.stored t z).2; have HXd := hide (HXc.out.own HGd.out (fun b hb => by injection hb with hb; rw [← hb]; exact hgw)); have HSd := hide (HSc.out.still HGd.out (fun b hb => by injection hb with hb; rw [← hb]; exact Nat.lt_trans hgl hgw)); clear hs hg)
              | (go_at_call 37; refine (next_any g Bc A n c code (l : Int) _ HS.out.drew' (by omega)).mono ?_; rintro e wa ⟨t, rfl, ht0, ht1, hs, hg⟩; obtain ⟨t, rfl⟩ : ∃ m : Nat, t = m := ⟨t.toNat, by omega⟩; have htl : t < l := (by omega); have hti : (t : Int) < (l : Int) := (by omega); have HXa := hide (HX.out.drew.src hg HNE.out); have HSa := hide hs; have HOa := hide (HO.out.drew.grown hg HVG.out); have HM1 : True := trivial; clear hs hg))
          all_goals
            have HLd := hide (show (zs.set t z).length = l by rw [List.length_set]; exact HL.out)
            go_wp2_with fail
            go_roundw
            case rel => exact ⟨m', zs.set t z, rfl, by have := HMM.out; omega, HLd, HOd.out, HSd.out, HXd.out⟩
            case measure => have := HMM.out; simp [intOf]; omega
        · have hz : decide (0 < m) = false := by simpa using hm
          have HLL := hide (show zs.length ≤ 400 by rw [HL.out]; omega)
          have HVB := hide (show ∀ b, (Value.slice (some ⟨gW, 0, none⟩) l c3').ownBlock = some b → w.heap.size < b from fun b hb => (HO.out.lt hb).1)
          have HLN := hide HL.out
          clear hm
          go_wp2_with fail
          refine (next_any g Bc A n c code 40 _ HS.out (by omega)).mono ?_
          rintro e w5 ⟨y, rfl, hy0, hy1, hs, hg⟩
          have HX5 := hide (HX.out.src hg HNE.out)
          have HS5 := hide hs
          have HO5 := hide (HO.out.grown hg HVG.out)
          have hwl : w.heap.size + 1 ≤ w5.heap.size := HX5.out.lt
          clear hs hg hy1
          by_cases hy : y = 0
          · subst hy
            have hlen : zs.length + 1 ≤ 1000 := by have := HLL.out; omega
            go_wp2_with (at_builtin; refine wpList_app1 w5 rfl _ _ _ rfl elem64 (w.heap.size + 1) (.slice (some ⟨gW, 0, none⟩) l c3') _ rfl HO5.out 0 rfl (by omega) hwl ?_; intro v6 w6 hown hgrow)
            have HO6 := hide hown
            have HX6 := hide (HX5.out.own hgrow HVB.out)
            have HS6 := hide (HS5.out.still hgrow (fun r hr => Nat.lt_trans hgl (HVB.out r hr)))
            have HL6 := hide (show (zs ++ [(0 : Int)]).length ≤ 400 by simp; rw [HL.out]; omega)
            clear hown hgrow
            go_wp2_with fail
            go_ret
            exact drawnL_of HO6.out HL6.out (Nat.le_succ _) HS6.out HX6.out.2
          · have e0 : (y == 0) = false := by simpa using hy
            clear hy
            go_wp2_with fail
            go_ret
            exact drawnL_of HO5.out HLL.out (Nat.le_succ _) HS5.out HX5.out.2
end Go.Proofs.YtdniocdmncldjaaGreat
