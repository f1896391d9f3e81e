/-
  The contract of the draw of a field with a sequence: a new list; of the old memory only the source's own block changes.
  Condition: the code has at most 4096 bytes.
-/
import Derived.Test.YtdniocdmncldjaaRCont
import Derived.Test.YtdniocdmncldjaaJN
import Derived.Test.YtdniocdmncldjaaJR
namespace Go.Proofs.Ytdniocdmncldjaa
open Go.RowKit
set_option linter.unusedSimpArgs false
set_option linter.unusedVariables false

/-- In a draw that was given its source: the source, the block of the result that is still 0, the block of the field. -/
def Sst (w : World) (g Bc : Nat) (A : Option Addr) (n c : Nat) (code : List Int) (N : Nat) (p k γ : Int) (wr : World) : Prop :=
  Src wr g Bc A n c code ∧ Zero3 wr w.heap.size ∧ wr.heap[N]? = some (.cells #[.int .i64 p, .int .i64 k, .int .i64 γ] 25 (0, 0)) ∧ w.grownBy wr (some g) ∧ g < w.heap.size ∧ w.heap.size < N
theorem grown_drawn {a w : World} {row : Option Nat} (h : a.grownBy w row) : a.grownBy w.drew row := ⟨h.os, h.tape, h.output, h.size, h.block⟩
section
variable {w wr wr' : World} {g Bc n c N : Nat} {A : Option Addr} {code : List Int} {p k γ : Int}
theorem Sst.lt (h : Sst w g Bc A n c code N p k γ wr) : N < wr.heap.size := (Array.getElem?_eq_some_iff.1 h.2.2.1).1
theorem Sst.src (h : Sst w g Bc A n c code N p k γ wr) (hs : Src wr' g Bc A n c code) (hg : wr.grownBy wr' (some g)) : Sst w g Bc A n c code N p k γ wr' :=
  ⟨hs, h.2.1.grown hg (by have := h.2.2.2.2; omega), row_grown h.2.2.1 hg (by have := h.2.2.2.2; omega), grown_trans h.2.2.2.1 hg, h.2.2.2.2⟩
theorem Sst.next (h : Sst w g Bc A n c code N p k γ wr) (hb : Below wr.heap.size wr wr') : Sst w g Bc A n c code N p k γ wr' :=
  ⟨h.1.below hb h.1.lt, h.2.1.below hb, heap_below h.2.2.1 hb, grown_below h.2.2.2.1 hb h.2.2.2.1.size, h.2.2.2.2⟩
theorem Sst.alloc (h : Sst w g Bc A n c code N p k γ wr) (o : Obj) : Sst w g Bc A n c code N p k γ (wr.alloc o) := h.next ((Below.refl _ _).alloc (Nat.le_refl _) o)
theorem Sst.drew (h : Sst w g Bc A n c code N p k γ wr) : Sst w g Bc A n c code N p k γ wr.drew := ⟨h.1, h.2.1, h.2.2.1, grown_drawn h.2.2.2.1, h.2.2.2.2⟩
theorem Sst.own {row : Option Nat} (h : Sst w g Bc A n c code N p k γ wr) (hg : wr.grownBy wr' row) (hr : ∀ b, row = some b → N < b) : Sst w g Bc A n c code N p k γ wr' := by
  obtain ⟨h1, h2, h3, h4, h5, h6⟩ := h
  refine ⟨h1.still hg (fun r hr' => by have := hr r hr'; omega), ?_, ?_, ⟨hg.os.trans h4.os, hg.tape.trans h4.tape, hg.output.trans h4.output, Nat.le_trans h4.size hg.size, fun i hi hne => (hg.block i (Nat.lt_of_lt_of_le hi h4.size) (fun e => by have := hr _ e.symm; omega)).trans (h4.block i hi hne)⟩, h5, h6⟩
  · unfold Zero3; rw [hg.block _ h2.lt (fun e => by have := hr _ e.symm; omega)]; exact h2
  · rw [hg.block _ (Array.getElem?_eq_some_iff.1 h3).1 (fun e => by have := hr _ e.symm; omega)]; exact h3
theorem Sst.cells (h : Sst w g Bc A n c code N p k γ wr) : wr.cell? ⟨N, 0, none⟩ = some (.int .i64 p) ∧ wr.cell? ⟨N, 1, none⟩ = some (.int .i64 k) ∧ wr.cell? ⟨N, 2, none⟩ = some (.int .i64 γ) := cells3 h.2.2.1
end
/-- What a draw of a field and a list leaves. -/
def DrawnS (g Bc : Nat) (A : Option Addr) (n c : Nat) (code : List Int) (w : World) (x : Ending) (w' : World) : Prop :=
  ∃ (p k γ : Int) (zs : List Int) (A1 : Option Addr) (c1 : Nat), x = .returned (.tuple #[.agg #[.int .i64 p, .int .i64 k, .int .i64 γ], .slice A1 zs.length c1]) ∧ zs.length ≤ 100 ∧ Own w' w.heap.size 2 .i64 (.slice A1 zs.length c1) zs ∧ Src w' g Bc A n c code ∧ w.grownBy w' (some g)
theorem drawnS_mk {w wr : World} {g Bc n c N : Nat} {A : Option Addr} {code : List Int} {p k γ : Int} {zs : List Int} {A1 : Option Addr} {c1 b1 : Nat} (h : Sst w g Bc A n c code N p k γ wr) (h1 : Own wr b1 2 .i64 (.slice A1 zs.length c1) zs) (hb1 : N ≤ b1) (hl1 : zs.length ≤ 100) (x y z : Value) :
    DrawnS g Bc A n c code w (.returned (.tuple #[.agg #[.int .i64 p, .int .i64 k, .int .i64 γ], .slice A1 zs.length c1])) (((wr.setCell ⟨w.heap.size, 0, none⟩ x).setCell ⟨w.heap.size, 1, none⟩ y).setCell ⟨w.heap.size, 2, none⟩ z) := by
  obtain ⟨h1', _, _, h4, h5, h6⟩ := h
  exact ⟨p, k, γ, zs, A1, c1, rfl, hl1, (h1.set3 (by omega) x y z).low (by omega), set3_src h1' h5 x y z, grown_set2 (grown_set2 (grown_set2 h4 _ 0 x (Nat.le_refl _)) _ 1 y (Nat.le_refl _)) _ 2 z (Nat.le_refl _)⟩
theorem own_apart2 {v : Value} {row : Option Nat} {N2 : Nat} (h : ∀ b, v.ownBlock = some b → b < N2) (h' : ∀ b, row = some b → N2 ≤ b) : v.ownBlock = none ∨ v.ownBlock ≠ row := by
  rcases hv : v.ownBlock with _ | b
  · exact .inl rfl
  · refine .inr fun e => ?_
    have := h b hv
    have := h' b e.symm
    omega
section
variable {R : Fld}
def Sd1 (R : Fld) (w : World) (g Bc : Nat) (A : Option Addr) (n c : Nat) (code : List Int) (N : Nat) (p k γ : Int) (v i : Value) (wr : World) : Prop :=
  ∃ (j : Nat) (C : List (El R)), C.length + j ≤ 5 ∧ i = .int .i64 j ∧ Own wr (N + 1) 2 .i64 v (iv C) ∧ Sst w g Bc A n c code N p k γ wr
def Sd2 (R : Fld) (w : World) (g Bc : Nat) (A : Option Addr) (n c : Nat) (code : List Int) (N N2 : Nat) (p k γ : Int) (C : List (El R)) (vC : Value) (v i : Value) (wr : World) : Prop :=
  ∃ (j : Nat) (T : List (El R)), T.length + j ≤ 10 ∧ i = .int .i64 j ∧ Own wr N2 2 .i64 v (iv T) ∧ Own wr (N + 1) 2 .i64 vC (iv C) ∧ N2 ≤ wr.heap.size ∧ Sst w g Bc A n c code N p k γ wr

set_option maxRecDepth 100000 in
set_option maxHeartbeats 16000000 in
theorem drawSeq (g Bc : Nat) (A : Option Addr) (n c : Nat) (code : List Int) (w : World) (hS : Src w g Bc A n c code) :
    Calls Try.prog 32 #[.pointer (some ⟨g, 0, none⟩)] w (DrawnS g Bc A n c code w) := by
  have hgl := hS.lt
  have HS := hide ((hS.still (World.grownBy_alloc w (.cells #[.int .i64 0, .int .i64 0, .int .i64 0] 25) none) (by simp)))
  have HZ := hide (Zero3.start w)
  clear hS
  go_enter Try.func32, Try.ntmps32
  go_wp2_with fail
  refine (drawAny g Bc A n c code _ HS.out).mono ?_
  rintro e w1 ⟨p, k, γ, rfl, hs, hg⟩
  have HW1 := hide (show Sst w g Bc A n c code w1.heap.size p k γ (w1.alloc (.cells #[.int .i64 p, .int .i64 k, .int .i64 γ] 25)) from
    ⟨hs.still (World.grownBy_alloc w1 _ none) (by simp), (HZ.out.grown hg (by omega)).alloc _, heap_alloc_new w1 _, grown_alloc (grown_trans (World.grownBy_alloc w _ (some g)) hg) _, hgl, (HZ.out.grown hg (by omega)).lt⟩)
  clear hs hg HS HZ
  obtain ⟨d0, d1, d2⟩ := HW1.out.cells
  go_wp2_with fail
  generalize w1.alloc (.cells #[.int .i64 p, .int .i64 k, .int .i64 γ] 25) = ws at HW1 d0 d1 d2 ⊢
  generalize w1.heap.size = N at HW1 d0 d1 d2 ⊢
  have hgN : g < N := by have := HW1.out.2.2.2.2; omega
  have hwN : w.heap.size < N := by have := HW1.out.2.2.2.2; omega
  rcases hf : fieldB p k γ with _ | _
  · have HB := hide hf
    clear hf
    refine (specIsField p k γ _).mono ?_
    rw [HB.out]
    rintro e w2 ⟨rfl, hb⟩
    have HW2 := hide ((HW1.out.next hb).alloc (.cells #[.int .i64 1, .int .i64 2] 2))
    have HO2 := hide (show Own (w2.alloc (.cells #[.int .i64 1, .int .i64 2] 2)) w2.heap.size 2 .i64 (.slice (some ⟨w2.heap.size, 0, none⟩) 2 2) [1, 2] from Own.intro (World.ownsRow_lit w2 #[.int .i64 1, .int .i64 2] 2 (by simp) (by simp [maxLen]) (by simp)) rfl rfl)
    have HN2 := hide (show N ≤ w2.heap.size from Nat.le_of_lt (HW1.out.next hb).lt)
    obtain ⟨e0, e1, e2⟩ := (HW1.out.next hb).cells
    clear hb d0 d1 d2 HW1
    obtain ⟨d0, d1, d2⟩ := HW2.out.cells
    obtain ⟨c0', c1', c2'⟩ := HW2.out.2.1.cells
    obtain ⟨f0', f1', f2'⟩ := HW2.out.2.1.frozen
    go_wp2_with fail
    refine bodyPost_ret (v := .tuple #[.agg #[.int .i64 p, .int .i64 k, .int .i64 γ], .slice (some ⟨w2.heap.size, 0, none⟩) 2 2]) (by simp [results, Try.results32, go_sem, c0', c1', c2']) rfl ?_
    exact drawnS_mk (zs := [1, 2]) HW2.out HO2.out HN2.out (by decide) _ _ _
  · obtain ⟨R, hR⟩ := fld_ex hf
    have hq := hR.le
    have hq3 := R.three
    have HB := hide hf
    clear hf
    refine (specIsField p k γ _).mono ?_
    rw [HB.out]
    rintro e w2 ⟨rfl, hb⟩
    have HW2 := hide ((HW1.out.next hb).alloc (.cells #[.int .i64 1] 2))
    have hN2 : N + 1 ≤ w2.heap.size := (HW1.out.next hb).lt
    have HO2 := hide ((own_lit1R w2 2 .i64 1).low (base' := N + 1) hN2)
    clear hb d0 d1 d2 HW1
    go_wp2_with fail
    refine (next_any g Bc A n c code 4 _ HW2.out.1 (by omega)).mono ?_
    rintro e w3 ⟨y, rfl, hy0, hy1, hs, hg⟩
    obtain ⟨y, rfl⟩ : ∃ m : Nat, y = m := ⟨y.toNat, by omega⟩
    have HW3 := hide (HW2.out.src hs hg)
    have HO3 := hide (HO2.out.src hg (by omega))
    clear hs hg HW2 HO2 hN2
    go_wp2_with fail
    go_loopw [5, 6] (fun v i wr => Sd1 R w g Bc A n c code N p k γ v i wr) (fun _ i _ => (intOf i).toNat)
    case atStart => exact ⟨y, [1], by simp; omega, rfl, HO3.out, HW3.out⟩
    case round =>
      clear HW3 HO3 hy0 hy1
      obtain ⟨v, rfl⟩ : ∃ v : Value, v = u5 := ⟨_, rfl⟩
      obtain ⟨j, C, hj, rfl, HO, HW⟩ := hrel
      have HO := hide HO
      have HW := hide HW
      obtain ⟨d0, d1, d2⟩ := HW.out.cells
      by_cases hlt : 0 < j
      · obtain ⟨i, hi⟩ : ∃ i, j = i + 1 := ⟨j - 1, by omega⟩
        have hw1 : (j : Int) - 1 = (i : Int) := by omega
        have HII := hide hi
        clear hi
        go_wp2_with fail
        refine (specSize hR.kind _).mono ?_
        rintro e w4 ⟨rfl, hb⟩
        have HW4 := hide (HW.out.next hb)
        have HO4 := hide (HO.out.below hb (Nat.le_refl _))
        clear hb d0 d1 d2
        go_wp2_with fail
        refine (next_any g Bc A n c code (R.q : Int) _ HW4.out.1 (by omega)).mono ?_
        rintro e w5 ⟨y, rfl, hy0, hy1, hs, hg⟩
        obtain ⟨Y, rfl⟩ : ∃ Y : El R, y = (Y.val : Int) := ⟨⟨y.toNat, by omega⟩, by show y = ((y.toNat : Nat) : Int); omega⟩
        have HW5 := hide (HW4.out.src hs hg)
        have HO5 := hide (HO4.out.src hg (by omega))
        have hlen : (iv C).length + 1 ≤ 1000 := by rw [iv_len]; omega
        have hwl : N + 1 ≤ w5.heap.size := HW5.out.lt
        have HVB := hide (show ∀ b, v.ownBlock = some b → N < b from fun b hb => (HO5.out.lt hb).1)
        clear hs hg hy0 hy1
        go_wp2_with (at_builtin; refine wpList_app1 w5 rfl _ _ _ rfl elem64 (N + 1) v _ rfl HO5.out (Y.val : Int) rfl (by omega) hwl ?_; intro v6 w6 hown hgrow)
        have HO6 := hide (show Own w6 (N + 1) 2 .i64 v6 (iv (C ++ [Y])) by rw [iv_app, iv_one]; exact hown)
        have HW6 := hide (HW5.out.own hgrow HVB.out)
        clear hown hgrow
        go_wp2_with fail
        go_roundw
        case rel => exact ⟨i, C ++ [Y], by have := HII.out; rw [List.length_append]; simp; omega, rfl, HO6.out, HW6.out⟩
        case measure => have := HII.out; simp [intOf]; omega
      · have hz : decide (0 < j) = false := by simpa using hlt
        obtain ⟨Ac, cc, rfl, hcc⟩ := HO.out.form
        rw [iv_len] at HO ⊢
        have hnc : C.length ≤ 5 := by omega
        obtain ⟨nc, hncx⟩ : ∃ nc, C.length = nc := ⟨_, rfl⟩
        rw [hncx] at HO hnc ⊢
        have HNC := hide hncx
        clear hcc hlt hj hncx d0 d1 d2
        have HW7 := hide (HW.out.alloc (.cells #[] 2))
        have HC7 := hide (HO.out.alloc (.cells #[] 2))
        have HT7 := hide (Own.lit0 wr 2 .i64)
        obtain ⟨N2, hN2⟩ : ∃ N2, wr.heap.size = N2 := ⟨_, rfl⟩
        have HNN := hide (show N < N2 by rw [← hN2]; exact HW.out.lt)
        have HNS := hide (show N2 ≤ (wr.alloc (.cells #[] 2)).heap.size by rw [alloc_size, hN2]; exact Nat.le_succ _)
        have HVC := hide (show ∀ b, (Value.slice Ac nc cc).ownBlock = some b → b < N2 from fun b hb => by rw [← hN2]; exact (HO.out.lt hb).2)
        rw [hN2] at HT7
        go_wp2_with fail
        clear hN2 HO HW
        refine (next_any g Bc A n c code 10 _ HW7.out.1 (by omega)).mono ?_
        rintro e w8 ⟨y, rfl, hy0, hy1, hs, hg⟩
        obtain ⟨y, rfl⟩ : ∃ m : Nat, y = m := ⟨y.toNat, by omega⟩
        have hgN2 : g < N2 := by have := HNN.out; omega
        have HW8 := hide (HW7.out.src hs hg)
        have HT8 := hide (HT7.out.src hg hgN2)
        have HC8 := hide (HC7.out.src hg (by omega))
        have HS8 := hide (Nat.le_trans HNS.out hg.size)
        clear hs hg HW7 HC7 HT7 HNS
        go_wp2_with fail
        go_loopw [7, 8] (fun v i wr => Sd2 R w g Bc A n c code N N2 p k γ C (.slice Ac nc cc) v i wr) (fun _ i _ => (intOf i).toNat)
        case atStart => exact ⟨y, [], by simp; omega, rfl, HT8.out, HC8.out, HS8.out, HW8.out⟩
        case round =>
          clear HW8 HT8 HC8 HS8 hy0 hy1
          obtain ⟨v, rfl⟩ : ∃ v : Value, v = u7 := ⟨_, rfl⟩
          obtain ⟨j, T, hj, rfl, HO, HC, HN, HW⟩ := hrel
          have HVN := hide (show ∀ b, v.ownBlock = some b → N2 ≤ b from fun b hb => (HO.lt hb).1)
          have HO := hide HO
          have HC := hide HC
          have HNR := hide HN
          have HW := hide HW
          clear HN
          by_cases hlt : 0 < j
          · obtain ⟨i, hi⟩ : ∃ i, j = i + 1 := ⟨j - 1, by omega⟩
            have hw1 : (j : Int) - 1 = (i : Int) := by omega
            obtain ⟨t, ht⟩ : ∃ t, T.length = t := ⟨_, rfl⟩
            obtain ⟨t1, ht1⟩ : ∃ t1, t1 = t + 1 := ⟨_, rfl⟩
            have hib : i ≤ 10 := by omega
            have htb : t1 ≤ 12 := by omega
            have htt : t < t1 := by omega
            have hw2 : IntKind.i64.wrap ((t1 : Int) - 1) = (t : Int) := by rw [IntWalk.i64_in _ ⟨by omega, by omega⟩]; omega
            have HII := hide hi
            have HTL := hide ht
            have HTJ := hide (show t + 1 + i ≤ 10 by omega)
            have HLE := hide (show (iv T).length + 1 = t1 by rw [iv_len, ht, ht1])
            have HT1 := hide ht1
            have hlen : ((iv T).length + 1) * 8 ≤ 140737488355328 := by rw [iv_len, ht]; omega
            have HZ0 := hide (show iv T ++ [0] = iv (T ++ [0]) by rw [show iv (T ++ [0]) = iv T ++ iv [0] from List.map_append]; rfl)
            have HSET := hide (show ∀ Y : El R, (iv (T ++ [0])).set t (Y.val : Int) = iv (T ++ [Y]) from fun Y => by
              rw [iv_set, ← ht, List.set_append_right _ _ (Nat.le_refl _), Nat.sub_self, List.set_cons_zero])
            have hcn : nc ≤ t + 1 ∨ ¬ nc ≤ t + 1 := by omega
            clear hi ht ht1 hj
            rcases hcn with hcn | hcn
            · have z1 : decide ((t : Int) + 1 < (nc : Int)) = false := by rw [decide_eq_false_iff_not]; omega
              go_wp2_with (at_builtin; refine wpList_app1M wr rfl _ _ _ rfl elem64 N2 v _ rfl HO.out 0 rfl hlen HNR.out ?_; intro b cap w9 hown hgrow hloc; rw [HLE.out, HZ0.out] at hown; rw [HLE.out]; have HO9 := hide hown; have HW9 := hide (HW.out.own hgrow (fun r hr => Nat.lt_of_lt_of_le HNN.out (HVN.out r hr))); have HC9 := hide (HC.out.grown hgrow (own_apart2 HVC.out HVN.out)); have HN9 := hide (Nat.le_trans HNR.out hgrow.size); clear hown hgrow hloc; obtain ⟨d0, d1, d2⟩ := HW9.out.cells)
              clear d0 d1 d2
              refine (next_any g Bc A n c code 12 _ HW9.out.1 (by omega)).mono ?_
              rintro e w10 ⟨y0, rfl, hy0, hy1, hs, hg⟩
              have HW10 := hide (HW9.out.src hs hg)
              have HO10 := hide (HO9.out.src hg hgN2)
              have HC10 := hide (HC9.out.src hg (by omega))
              have HN10 := hide (Nat.le_trans HN9.out hg.size)
              clear hs hg
              by_cases hyz : y0 = 0
              · subst hyz
                obtain ⟨d0, d1, d2⟩ := HW10.out.cells
                go_wp2_with fail
                refine (specSize hR.kind _).mono ?_
                rintro e wa ⟨rfl, hb⟩
                have HWa := hide (HW10.out.next hb)
                have HOa := hide (HO10.out.below hb (Nat.le_refl _))
                have HCa := hide (HC10.out.below hb (Nat.le_refl _))
                have HNa := hide (Nat.le_trans HN10.out hb.size)
                clear hb d0 d1 d2
                go_wp2_with fail
                refine (next_any g Bc A n c code (R.q : Int) _ HWa.out.1 (by omega)).mono ?_
                rintro e wb ⟨y, rfl, hy0, hy1, hs, hg⟩
                obtain ⟨Y, rfl⟩ : ∃ Y : El R, y = (Y.val : Int) := ⟨⟨y.toNat, by omega⟩, by show y = ((y.toNat : Nat) : Int); omega⟩
                have HWb := hide (HWa.out.src hs hg)
                have HOb := hide (HOa.out.src hg hgN2)
                have HCb := hide (HCa.out.src hg (by omega))
                have HNb := hide (Nat.le_trans HNa.out hg.size)
                have hcx := HOb.out.cellAt (j := t) (List.getElem?_eq_getElem (by rw [iv_len, List.length_append, HTL.out]; exact Nat.lt_succ_self _))
                have hfx := HOb.out.frozenAt t
                have hbN : N2 ≤ b := (HOb.out.lt (g := b) rfl).1
                have HOs := hide (HOb.out.stored t (Y.val : Int)).1
                have HGs := hide (HOb.out.stored t (Y.val : Int)).2
                rw [HSET.out] at HOs
                have HWs := hide (HWb.out.own HGs.out (fun r hr => by injection hr with hr; have := HNN.out; omega))
                have HCs := hide (HCb.out.grown HGs.out (own_apart2 HVC.out (fun r hr => by injection hr with hr; omega)))
                have HNs := hide (Nat.le_trans HNb.out HGs.out.size)
                clear hs hg hy0 hy1
                go_wp2_with fail
                go_roundw
                case rel => exact ⟨i, T ++ [Y], by rw [List.length_append, HTL.out]; exact HTJ.out, rfl, HOs.out, HCs.out, HNs.out, HWs.out⟩
                case measure => have := HII.out; simp [intOf]; omega
              · have e0 : (y0 == 0) = false := by simpa using hyz
                clear hyz
                obtain ⟨d, hd⟩ : ∃ d, ps (cf C) (cf (T ++ [0])) t = d := ⟨_, rfl⟩
                have HD := hide hd
                clear hd
                go_wp2_with fail
                refine tail_begin (fun w' => w'.cell? ⟨N, 0, none⟩ = some (.int .i64 p) ∧ w'.cell? ⟨N, 1, none⟩ = some (.int .i64 k) ∧ w'.cell? ⟨N, 2, none⟩ = some (.int .i64 γ)) 10 (by kernel_rfl) (by exact HW10.out.drew.cells) (fun hS' => ?_)
                refine tail_take 0 rfl (by kernel_rfl) (by kernel_rfl) (by kernel_rfl) (by kernel_rfl) (fun _ _ _ h => h) (by rfl) (v := ?_) ?_ (by assumption) ?_
                rotate_left 1
                · intro w' hS'; (try dsimp only at hS'); go_simp; try with_reducible rfl
                try simp only [Act.put, List.setIfInBounds_toArray, List.set_cons_zero, List.set_cons_succ]
                refine tail_take 1 rfl (by kernel_rfl) (by kernel_rfl) (by kernel_rfl) (by kernel_rfl) (fun _ _ _ h => h) (by rfl) (v := ?_) ?_ (by assumption) ?_
                rotate_left 1
                · intro w' hS'; (try dsimp only at hS'); go_simp; try with_reducible rfl
                try simp only [Act.put, List.setIfInBounds_toArray, List.set_cons_zero, List.set_cons_succ]
                refine tail_take 2 rfl (by kernel_rfl) (by kernel_rfl) (by kernel_rfl) (by kernel_rfl) (fun _ _ _ h => h) (by rfl) (v := ?_) ?_ (by assumption) ?_
                rotate_left 1
                · intro w' hS'; (try dsimp only at hS'); go_simp; try with_reducible rfl
                try simp only [Act.put, List.setIfInBounds_toArray, List.set_cons_zero, List.set_cons_succ]
                refine tail_take 3 rfl (by kernel_rfl) (by kernel_rfl) (by kernel_rfl) (by kernel_rfl) (fun _ _ _ h => h) (by rfl) (v := ?_) ?_ (by assumption) ?_
                rotate_left 1
                · intro w' hS'; (try dsimp only at hS'); go_simp; try with_reducible rfl
                try simp only [Act.put, List.setIfInBounds_toArray, List.set_cons_zero, List.set_cons_succ]
                refine tail_take 4 rfl (by kernel_rfl) (by kernel_rfl) (by kernel_rfl) (by kernel_rfl) (fun _ _ _ h => h) (by rfl) (v := ?_) ?_ (by assumption) ?_
                rotate_left 1
                · intro w' hS'; (try dsimp only at hS'); go_simp; try with_reducible rfl
                try simp only [Act.put, List.setIfInBounds_toArray, List.set_cons_zero, List.set_cons_succ]
                refine tail_take 5 rfl (by kernel_rfl) (by kernel_rfl) (by kernel_rfl) (by kernel_rfl) (fun _ _ _ h => h) (by rfl) (v := ?_) ?_ (by assumption) ?_
                rotate_left 1
                · intro w' hS'; (try dsimp only at hS'); go_simp; try with_reducible rfl
                try simp only [Act.put, List.setIfInBounds_toArray, List.set_cons_zero, List.set_cons_succ]
                refine tail_take 6 rfl (by kernel_rfl) (by kernel_rfl) (by kernel_rfl) (by kernel_rfl) (fun _ _ _ h => h) (by rfl) (v := ?_) ?_ (by assumption) ?_
                rotate_left 1
                · intro w' hS'; (try dsimp only at hS'); go_simp; try with_reducible rfl
                try simp only [Act.put, List.setIfInBounds_toArray, List.set_cons_zero, List.set_cons_succ]
                refine tail_call 7 rfl (by kernel_rfl) rfl (fun K hK => ?_)
                go_simp
                go_at_call 41; refine (specSumAt hR C (T ++ [0]) t Ac (some ⟨b, 0, none⟩) nc cc t1 cap w10.heap.size _ HC10.out.drew.intsE HO10.out.drew.intsE (Nat.le_refl _) htt (by omega) (by omega)).mono ?_; rw [HD.out]; rintro e' wa ⟨rfl, hb⟩; have HWa := hide (HW10.out.drew.next hb); have HOa := hide (HO10.out.drew.below hb (Nat.le_refl _)); have HCa := hide (HC10.out.drew.below hb (Nat.le_refl _)); have HNa := hide (Nat.le_trans HN10.out hb.size); clear hb
                refine hK.out _ _ (by (try dsimp only); exact HWa.out.cells) (fun hS' => ?_)
                clear hK K
                try simp only [Act.put, List.setIfInBounds_toArray, List.set_cons_zero, List.set_cons_succ]
                refine tail_call 8 rfl (by kernel_rfl) rfl (fun K hK => ?_)
                go_simp
                go_at_call 40; refine (specNegE hR d _).mono ?_; rintro e' wb ⟨rfl, hb⟩; have HWb := hide (HWa.out.next hb); have HOb := hide (HOa.out.below hb (Nat.le_refl _)); have HCb := hide (HCa.out.below hb (Nat.le_refl _)); have HNb := hide (Nat.le_trans HNa.out hb.size); clear hb
                refine hK.out _ _ (by (try dsimp only); exact HWb.out.cells) (fun hS' => ?_)
                clear hK K
                try simp only [Act.put, List.setIfInBounds_toArray, List.set_cons_zero, List.set_cons_succ]
                refine tail_take 9 rfl (by kernel_rfl) (by kernel_rfl) (by kernel_rfl) (by kernel_rfl) (fun _ _ _ h => h) (by rfl) (v := ?_) ?_ (by assumption) ?_
                rotate_left 1
                · intro w' hS'; (try dsimp only at hS'); go_simp; try with_reducible rfl
                try simp only [Act.put, List.setIfInBounds_toArray, List.set_cons_zero, List.set_cons_succ]
                have hcx := HOb.out.cellAt (j := t) (List.getElem?_eq_getElem (by rw [iv_len, List.length_append, HTL.out]; exact Nat.lt_succ_self _))
                have hfx := HOb.out.frozenAt t
                refine tail_last 10 rfl (by kernel_rfl) (by kernel_rfl) rfl rfl (fun K hK => ?_)
                go_simp
                refine hK.out _ _ ?_
                clear hK K
                try simp only [Act.put, List.setIfInBounds_toArray, List.set_cons_zero, List.set_cons_succ]
                have hbN : N2 ≤ b := (HOb.out.lt (g := b) rfl).1
                have HOs := hide (HOb.out.stored t ((-d).val : Int)).1
                have HGs := hide (HOb.out.stored t ((-d).val : Int)).2
                rw [HSET.out] at HOs
                have HWs := hide (HWb.out.own HGs.out (fun r hr => by injection hr with hr; have := HNN.out; omega))
                have HCs := hide (HCb.out.grown HGs.out (own_apart2 HVC.out (fun r hr => by injection hr with hr; omega)))
                have HNs := hide (Nat.le_trans HNb.out HGs.out.size)
                go_wp2_with fail
                go_roundw
                case rel => exact ⟨i, T ++ [-d], by rw [List.length_append, HTL.out]; exact HTJ.out, rfl, HOs.out, HCs.out, HNs.out, HWs.out⟩
                case measure => have := HII.out; simp [intOf]; omega
            · have z1 : decide ((t : Int) + 1 < (nc : Int)) = true := by rw [decide_eq_true_eq]; omega
              go_wp2_with (at_builtin; refine wpList_app1M wr rfl _ _ _ rfl elem64 N2 v _ rfl HO.out 0 rfl hlen HNR.out ?_; intro b cap w9 hown hgrow hloc; rw [HLE.out, HZ0.out] at hown; rw [HLE.out]; have HO9 := hide hown; have HW9 := hide (HW.out.own hgrow (fun r hr => Nat.lt_of_lt_of_le HNN.out (HVN.out r hr))); have HC9 := hide (HC.out.grown hgrow (own_apart2 HVC.out HVN.out)); have HN9 := hide (Nat.le_trans HNR.out hgrow.size); clear hown hgrow hloc; obtain ⟨d0, d1, d2⟩ := HW9.out.cells)
              refine (specSize hR.kind _).mono ?_
              rintro e wa ⟨rfl, hb⟩
              have HWa := hide (HW9.out.next hb)
              have HOa := hide (HO9.out.below hb (Nat.le_refl _))
              have HCa := hide (HC9.out.below hb (Nat.le_refl _))
              have HNa := hide (Nat.le_trans HN9.out hb.size)
              clear hb d0 d1 d2
              go_wp2_with fail
              refine (next_any g Bc A n c code (R.q : Int) _ HWa.out.1 (by omega)).mono ?_
              rintro e wb ⟨y, rfl, hy0, hy1, hs, hg⟩
              obtain ⟨Y, rfl⟩ : ∃ Y : El R, y = (Y.val : Int) := ⟨⟨y.toNat, by omega⟩, by show y = ((y.toNat : Nat) : Int); omega⟩
              have HWb := hide (HWa.out.src hs hg)
              have HOb := hide (HOa.out.src hg hgN2)
              have HCb := hide (HCa.out.src hg (by omega))
              have HNb := hide (Nat.le_trans HNa.out hg.size)
              have hcx := HOb.out.cellAt (j := t) (List.getElem?_eq_getElem (by rw [iv_len, List.length_append, HTL.out]; exact Nat.lt_succ_self _))
              have hfx := HOb.out.frozenAt t
              have hbN : N2 ≤ b := (HOb.out.lt (g := b) rfl).1
              have HOs := hide (HOb.out.stored t (Y.val : Int)).1
              have HGs := hide (HOb.out.stored t (Y.val : Int)).2
              rw [HSET.out] at HOs
              have HWs := hide (HWb.out.own HGs.out (fun r hr => by injection hr with hr; have := HNN.out; omega))
              have HCs := hide (HCb.out.grown HGs.out (own_apart2 HVC.out (fun r hr => by injection hr with hr; omega)))
              have HNs := hide (Nat.le_trans HNb.out HGs.out.size)
              clear hs hg hy0 hy1
              go_wp2_with fail
              go_roundw
              case rel => exact ⟨i, T ++ [Y], by rw [List.length_append, HTL.out]; exact HTJ.out, rfl, HOs.out, HCs.out, HNs.out, HWs.out⟩
              case measure => have := HII.out; simp [intOf]; omega
          · have hz : decide (0 < j) = false := by simpa using hlt
            have hT := iv_len T
            obtain ⟨zs, hzs⟩ : ∃ zs, iv T = zs := ⟨_, rfl⟩
            rw [hzs] at HO hT
            have hzl : zs.length ≤ 10 := by omega
            have hNN : N ≤ N2 := Nat.le_of_lt HNN.out
            clear hzs hT hlt hj
            go_wp2_with fail
            refine (next_any g Bc A n c code 40 _ HW.out.1 (by omega)).mono ?_
            rintro e wa ⟨y, rfl, hy0, hy1, hs, hg⟩
            have HWa := hide (HW.out.src hs hg)
            have HOa := hide (HO.out.src hg hgN2)
            have HNa := hide (Nat.le_trans HNR.out hg.size)
            clear hs hg hy1 HO HW HC
            by_cases hy : y = 0
            · subst hy
              obtain ⟨d0, d1, d2⟩ := HWa.out.cells
              go_wp2_with fail
              refine (specSize hR.kind _).mono ?_
              rintro e wb ⟨rfl, hb⟩
              have HWb := hide (HWa.out.next hb)
              have HOb := hide (HOa.out.below hb (Nat.le_refl _))
              have hNb : N2 ≤ wb.heap.size := Nat.le_trans HNa.out hb.size
              have hlen : (zs.length + 1) * 8 ≤ 140737488355328 := by omega
              have HVN := hide (show ∀ b, v.ownBlock = some b → N < b from fun b hb => by have := (HOb.out.lt hb).1; have := HNN.out; omega)
              clear hb d0 d1 d2
              go_wp2_with (at_builtin; refine wpList_app1M wb rfl _ _ _ rfl elem64 N2 v _ rfl HOb.out (R.q : Int) rfl hlen hNb ?_; intro b cap wc hown hgrow hloc; have HOc := hide hown; have HWc := hide (HWb.out.own hgrow HVN.out); clear hown hgrow hloc; obtain ⟨d0, d1, d2⟩ := HWc.out.cells; obtain ⟨c0', c1', c2'⟩ := HWc.out.2.1.cells; obtain ⟨f0', f1', f2'⟩ := HWc.out.2.1.frozen)
              have HOz := hide (show Own wc N2 2 .i64 (.slice (some ⟨b, 0, none⟩) (zs ++ [(R.q : Int)]).length cap) (zs ++ [(R.q : Int)]) by rw [List.length_append]; exact HOc.out)
              have HLz := hide (show (zs ++ [(R.q : Int)]).length ≤ 100 by rw [List.length_append]; simp; omega)
              refine bodyPost_ret (v := .tuple #[.agg #[.int .i64 p, .int .i64 k, .int .i64 γ], .slice (some ⟨b, 0, none⟩) (zs.length + 1) cap]) (by simp [results, Try.results32, go_sem, c0', c1', c2']) rfl ?_
              have hX := drawnS_mk (zs := zs ++ [(R.q : Int)]) HWc.out HOz.out hNN HLz.out (.int .i64 p) (.int .i64 k) (.int .i64 γ)
              rw [List.length_append] at hX
              exact hX
            · by_cases hy' : y = 1
              · subst hy'
                go_wp2_with fail
                refine (next_any g Bc A n c code 2 _ HWa.out.1 (by omega)).mono ?_
                rintro e wb ⟨y, rfl, hy0, hy1, hs, hg⟩
                have HWb := hide (HWa.out.src hs hg)
                clear hs hg
                obtain ⟨M, hM⟩ : ∃ M : Nat, M = 64 + y.toNat := ⟨_, rfl⟩
                have hMb : M ≤ 66 := by omega
                have hMw : IntKind.i64.wrap (64 + y) = (M : Int) := by rw [IntWalk.i64_in _ ⟨by omega, by omega⟩]; omega
                have hMw2 : (64 : Int) + y = (M : Int) := by omega
                clear hM
                go_wp2_with (refine wpList_mkN _ rfl (.tmp 84) (.tmp 84) 26 rfl elem64 .i64 .i64 _ _ M rfl rfl (by omega) (by omega) (by omega) fun wc h1 h2 => ?_; have HOc := hide h1; have HWc := hide (HWb.out.next h2); clear h1 h2; obtain ⟨d0, d1, d2⟩ := HWc.out.cells; obtain ⟨c0', c1', c2'⟩ := HWc.out.2.1.cells; obtain ⟨f0', f1', f2'⟩ := HWc.out.2.1.frozen)
                have HLz := hide (show (List.replicate M (0 : Int)).length ≤ 100 by rw [List.length_replicate]; omega)
                refine bodyPost_ret (v := .tuple #[.agg #[.int .i64 p, .int .i64 k, .int .i64 γ], .slice (some ⟨wb.heap.size, 0, none⟩) M M]) (by simp [results, Try.results32, go_sem, c0', c1', c2']) rfl ?_
                have hX := drawnS_mk (zs := List.replicate M 0) (A1 := some ⟨wb.heap.size, 0, none⟩) (c1 := M) (b1 := wb.heap.size) HWc.out (by rw [List.length_replicate]; exact HOc.out) (Nat.le_of_lt HWb.out.lt) HLz.out (.int .i64 p) (.int .i64 k) (.int .i64 γ)
                rw [List.length_replicate] at hX
                exact hX
              · have e0 : (y == 0) = false := by simpa using hy
                have e1 : (y == 1) = false := by simpa using hy'
                obtain ⟨Az, cz, rfl, hcz⟩ := HOa.out.form
                clear hy hy'
                obtain ⟨d0, d1, d2⟩ := HWa.out.cells
                obtain ⟨c0', c1', c2'⟩ := HWa.out.2.1.cells
                obtain ⟨f0', f1', f2'⟩ := HWa.out.2.1.frozen
                go_wp2_with fail
                refine bodyPost_ret (v := .tuple #[.agg #[.int .i64 p, .int .i64 k, .int .i64 γ], .slice Az zs.length cz]) (by simp [results, Try.results32, go_sem, c0', c1', c2']) rfl ?_
                exact drawnS_mk (zs := zs) HWa.out HOa.out hNN (by omega) _ _ _
end
end Go.Proofs.Ytdniocdmncldjaa
