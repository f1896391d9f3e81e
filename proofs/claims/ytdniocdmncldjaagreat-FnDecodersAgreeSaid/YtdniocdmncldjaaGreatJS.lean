/-
  The contracts of the sums of a polynomial over a sequence, of the program and of the model.
  The contract of the function that takes a sequence, one element at a time, of the program: its variables, and what one call does with them.
  The contract of one call of the function that takes a sequence, one element at a time, of the program.
  The contracts of the algorithm of Berlekamp and Massey, of the program.
  Condition: as each statement says.
-/
import Derived.Test.YtdniocdmncldjaaGreatBmMath
import Derived.Test.YtdniocdmncldjaaGreatJF
import Derived.Test.YtdniocdmncldjaaGreatJG
import Derived.Test.YtdniocdmncldjaaGreatAppL
import Derived.Test.YtdniocdmncldjaaGreatTail2
import Derived.Test.YtdniocdmncldjaaGreatJQ
namespace Go.Proofs.YtdniocdmncldjaaGreat
open Go.RowKit
set_option linter.unusedSimpArgs false
set_option linter.unusedVariables false

section
variable {R : Fld} {p k g : Int}
/-- The first n summands. -/
def pS (C s : List (El R)) (kk n : Nat) : El R := sumN (fun t => cf C t * cf s (kk - t)) n
theorem pS_all {C s : List (El R)} {kk n : Nat} (h : C.length ≤ n) (h' : n ≤ kk + 1) : pS C s kk n = ps (cf C) (cf s) kk := by
  rw [ps_sum, show kk + 1 = n + (kk + 1 - n) by omega, sumN_more (fun j hj => by rw [cf_out (by omega), e0m])]; rfl
theorem pS_succ (C s : List (El R)) (kk n : Nat) : pS C s kk (n + 1) = pS C s kk n + cf C n * cf s (kk - n) := rfl
def SumRel6 (w : World) (p k g : Int) (n kk : Nat) (C s : List (El R)) (v i : Value) (wr : World) : Prop :=
  ∃ (j : Nat) (y : El R), j ≤ n ∧ j ≤ kk + 1 ∧ i = .int .i64 j ∧ v = .int .i64 (y.val : Nat) ∧ Hid (y = pS C s kk j) ∧ Box w wr 25 p k g

set_option maxHeartbeats 1000000 in
theorem implSumAt (h : FldIs R p k g) (C s : List (El R)) (kk : Nat) (A A' : Option Addr) (n c m c' B : Nat) (w : World) (hI : Ints .i64 w B A n (iv C)) (hJ : Ints .i64 w B A' m (iv s)) (hB : B ≤ w.heap.size) (hk : kk < m) (hnk : n ≤ kk + 1) (hm : m ≤ 1048576) :
    Calls Tryz.prog 67 #[.slice A n c, .agg #[.int .i64 p, .int .i64 k, .int .i64 g], .slice A' m c', .int .i64 kk] w (Gives (.int .i64 ((ps (cf C) (cf s) kk).val : Nat)) w) := by
  have HX := hide (Box.start w 25 p k g)
  have hcn : C.length = n := by rw [← iv_len]; exact hI.len
  have hsm : s.length = m := by rw [← iv_len]; exact hJ.len
  have HI := hide hI
  have HJ := hide hJ
  have HCN := hide hcn
  clear hI hJ
  go_enter Tryz.func67, Tryz.ntmps67
  go_wp2_with fail
  go_loopw [9, 14] (fun v i wr => SumRel6 w p k g n kk C s v i wr) (fun _ i _ => n - (intOf i).toNat)
  case atStart => exact ⟨0, 0, Nat.zero_le _, Nat.zero_le _, rfl, rfl, rfl, HX⟩
  case round =>
    clear HX
    obtain ⟨j, y, hj, hjk, rfl, rfl, HY, HX⟩ := hrel
    have HX := hide HX
    by_cases hlt : j < n
    · obtain ⟨t, ht⟩ : ∃ t, t = kk - j := ⟨_, rfl⟩
      have htm : t < m := by omega
      obtain ⟨b, off, x, rfl, hb, hx, hc⟩ := (HI.out.below (HX.out.2.mono hB)).at_ hlt
      obtain ⟨b', off', x', rfl, hb', hx', hc'⟩ := (HJ.out.below (HX.out.2.mono hB)).at_ htm
      rw [iv_at (by omega)] at hx hx'
      simp only [Option.some.injEq] at hx hx'
      subst hx
      subst hx'
      have hw1 : IntKind.i64.wrap ((kk : Int) - (j : Int)) = (t : Int) := by rw [IntWalk.i64_in _ ⟨by omega, by omega⟩]; omega
      obtain ⟨u, hu⟩ : ∃ u, u = cf C j := ⟨_, rfl⟩
      obtain ⟨z, hz⟩ : ∃ z, z = cf s t := ⟨_, rfl⟩
      rw [← hu] at hc
      rw [← hz] at hc'
      have HN := hide (show y + u * z = pS C s kk (j + 1) by rw [pS_succ, ← HY.out, hu, hz, ht])
      have hbl : b' < wr.heap.size := Nat.lt_of_lt_of_le hb' (Nat.le_trans hB (Nat.le_of_lt HX.out.lt))
      have HC := hide hc'
      clear hu hz ht hc' hcn hsm
      go_wp2_with fail
      go_region_held3 (fun w' => w'.cell? ⟨w.heap.size, 0, none⟩ = some (.int .i64 p) ∧ w'.cell? ⟨w.heap.size, 1, none⟩ = some (.int .i64 k) ∧ w'.cell? ⟨w.heap.size, 2, none⟩ = some (.int .i64 g) ∧ w'.cell? ⟨b', off' + t, none⟩ = some (.int .i64 (z.val : Int)))
        (first
          | exact ⟨HX.out.drew.cells.1, HX.out.drew.cells.2.1, HX.out.drew.cells.2.2, HC.out⟩
          | exact ⟨HX2.out.cells.1, HX2.out.cells.2.1, HX2.out.cells.2.2, HC2.out⟩
          | exact ⟨HX3.out.cells.1, HX3.out.cells.2.1, HX3.out.cells.2.2, HC3.out⟩)
        (first
          | (go_at_call 72; refine (implProdE h u z _).mono ?_; rintro e w2 ⟨rfl, hb2⟩; have HX2 := hide (HX.out.drew.next hb2); have HC2 := hide ((hb2.cell (p := ⟨b', off' + t, none⟩) hbl).trans HC.out); have hbl2 : b' < w2.heap.size := Nat.lt_of_lt_of_le hbl hb2.size; clear hb2)
          | (go_at_call 23; refine (implSumE h y (u * z) _).mono ?_; rintro e w3 ⟨rfl, hb3⟩; have HX3 := hide (HX2.out.next hb3); have HC3 := hide ((hb3.cell (p := ⟨b', off' + t, none⟩) hbl2).trans HC2.out); clear hb3))
      go_wp2_with fail
      go_roundw
      case rel => exact ⟨j + 1, y + u * z, by omega, by omega, by go_num, rfl, HN, HX3⟩
      case measure => simp [intOf]; omega
    · obtain rfl : j = n := by omega
      have HF := hide (show (((ps (cf C) (cf s) kk).val : Nat) : Int) = (y.val : Int) by rw [HY.out, pS_all (by rw [HCN.out]; exact Nat.le_refl _) hjk])
      go_wp2_with fail
      go_ret
      exact ⟨ret_int HF, HX.out.2⟩

end
end Go.Proofs.YtdniocdmncldjaaGreat

namespace Go.Proofs.YtdniocdmncldjaaGreat
open Go.RowKit
set_option linter.unusedSimpArgs false
set_option linter.unusedVariables false

/-- A variable in a block of its own. -/
def BoxV (w : World) (b : Nat) (v : Value) (t : TypeId) : Prop := w.heap[b]? = some (.cells #[v] t (0, 0))
section
variable {w w' : World} {b : Nat} {v : Value} {t : TypeId}
theorem BoxV.cell (h : BoxV w b v t) : w.cell? ⟨b, 0, none⟩ = some v := by rw [cell_of_row w b 0 _ _ _ h]; rfl
theorem BoxV.frozen (h : BoxV w b v t) : w.frozen? ⟨b, 0, none⟩ = false := by
  unfold BoxV at h
  simp [World.frozen?, h]
theorem BoxV.lt (h : BoxV w b v t) : b < w.heap.size := (Array.getElem?_eq_some_iff.1 h).1
theorem BoxV.below {B : Nat} (h : BoxV w b v t) (hb : Below B w w') (hB : b < B) : BoxV w' b v t := by unfold BoxV; rw [hb.block _ hB]; exact h
theorem BoxV.next (h : BoxV w b v t) (hb : Below w.heap.size w w') : BoxV w' b v t := h.below hb h.lt
theorem BoxV.alloc (h : BoxV w b v t) (o : Obj) : BoxV (w.alloc o) b v t := h.next ((Below.refl _ _).alloc (Nat.le_refl _) o)
theorem BoxV.new (w : World) (v : Value) (t : TypeId) : BoxV (w.alloc (.cells #[v] t)) w.heap.size v t := heap_alloc_new w _
theorem BoxV.set (h : BoxV w b v t) (u : Value) : BoxV (w.setCell ⟨b, 0, none⟩ u) b u t := heap_setCell_same w b 0 _ _ _ h
theorem BoxV.other {b' : Nat} {u : Value} (h : BoxV w b v t) (hne : b ≠ b') : BoxV (w.setCell ⟨b', 0, none⟩ u) b v t := by
  unfold BoxV; rw [heap_setCell_other w ⟨b', 0, none⟩ b u hne]; exact h
theorem BoxV.drewN (h : BoxV w b v t) (n : Nat) : BoxV (w.drewN n) b v t := h
theorem BoxV.grown {row : Option Nat} (h : BoxV w b v t) (hg : w.grownBy w' row) (hne : row ≠ some b) : BoxV w' b v t := by
  unfold BoxV; rw [hg.block b h.lt (Ne.symm hne)]; exact h
end
theorem Own.ne_box {w : World} {base b : Nat} {e t : TypeId} {k : IntKind} {v u : Value} {zs : List Int} (h : Own w base e k v zs) (hb : BoxV w b u t) (ht : e ≠ t) : v.ownBlock ≠ some b := by
  intro e1
  rcases h.2 with ⟨rfl, _⟩ | ⟨g, cap, cur, rfl, _, hg, _⟩
  · cases e1
  · simp only [Value.ownBlock, Option.some.injEq] at e1
    subst e1
    unfold BoxV at hb
    rw [hb] at hg
    simp only [Option.some.injEq, Obj.cells.injEq] at hg
    exact ht hg.2.1.symm
theorem Own.putBox {w : World} {base b : Nat} {e t : TypeId} {k : IntKind} {v u : Value} {zs : List Int} (h : Own w base e k v zs) (hb : BoxV w b u t) (ht : e ≠ t) (u' : Value) : Own (w.setCell ⟨b, 0, none⟩ u') base e k v zs :=
  ownsRow_setCell_other h (h.ne_box hb ht) u'
theorem ne_sym {v v' : Value} (hne : v.ownBlock = none ∨ v.ownBlock ≠ v'.ownBlock) : v'.ownBlock = none ∨ v'.ownBlock ≠ v.ownBlock := by
  rcases hne with h | h
  · rcases hv : v'.ownBlock with _ | b
    · exact .inl rfl
    · exact .inr (by rw [h]; simp)
  · exact .inr (Ne.symm h)

section
variable {R : Fld} {p k g : Int}
/-- The four variables beside the field: the elements that were taken, the length, the polynomial that fits, and an older one. -/
structure Reg (w0 wr : World) (p k g : Int) (bt bl bc bo : Nat) (T : List Int) (C O : List (El R)) (L : Nat) (vt vC vO : Value) : Prop where
  fx : Box w0 wr 25 p k g
  ht : BoxV wr bt vt 28
  hl : BoxV wr bl (.int .i64 (L : Int)) 3
  hc : BoxV wr bc vC 53
  ho : BoxV wr bo vO 53
  oT : Own wr (w0.heap.size + 1) 2 .i64 vt T
  oC : Own wr (w0.heap.size + 1) 2 .i64 vC (iv C)
  oO : Own wr (w0.heap.size + 1) 2 .i64 vO (iv O)
  nC : vt.ownBlock = none ∨ vt.ownBlock ≠ vC.ownBlock
  nO : vt.ownBlock = none ∨ vt.ownBlock ≠ vO.ownBlock
  d0 : w0.heap.size < bt ∧ w0.heap.size < bl ∧ w0.heap.size < bc ∧ w0.heap.size < bo
  d1 : bt ≠ bl ∧ bt ≠ bc ∧ bt ≠ bo ∧ bl ≠ bc ∧ bl ≠ bo ∧ bc ≠ bo
section
variable {w0 wr wr' : World} {bt bl bc bo : Nat} {T : List Int} {C O : List (El R)} {L : Nat} {vt vC vO : Value}
theorem Reg.next (h : Reg w0 wr p k g bt bl bc bo T C O L vt vC vO) (hb : Below wr.heap.size wr wr') : Reg w0 wr' p k g bt bl bc bo T C O L vt vC vO :=
  ⟨h.fx.next hb, h.ht.next hb, h.hl.next hb, h.hc.next hb, h.ho.next hb, h.oT.below hb (Nat.le_refl _), h.oC.below hb (Nat.le_refl _), h.oO.below hb (Nat.le_refl _), h.nC, h.nO, h.d0, h.d1⟩
theorem Reg.alloc (h : Reg w0 wr p k g bt bl bc bo T C O L vt vC vO) (o : Obj) : Reg w0 (wr.alloc o) p k g bt bl bc bo T C O L vt vC vO := h.next ((Below.refl _ _).alloc (Nat.le_refl _) o)
theorem Reg.drew (h : Reg w0 wr p k g bt bl bc bo T C O L vt vC vO) : Reg w0 wr.drew p k g bt bl bc bo T C O L vt vC vO :=
  ⟨h.fx.drew, h.ht, h.hl, h.hc, h.ho, h.oT.drew, h.oC.drew, h.oO.drew, h.nC, h.nO, h.d0, h.d1⟩
theorem Reg.drewN (h : Reg w0 wr p k g bt bl bc bo T C O L vt vC vO) (n : Nat) : Reg w0 (wr.drewN n) p k g bt bl bc bo T C O L vt vC vO :=
  ⟨h.fx.drewN n, h.ht.drewN n, h.hl.drewN n, h.hc.drewN n, h.ho.drewN n, h.oT.drewN n, h.oC.drewN n, h.oO.drewN n, h.nC, h.nO, h.d0, h.d1⟩
theorem Reg.cells (h : Reg w0 wr p k g bt bl bc bo T C O L vt vC vO) : wr.cell? ⟨w0.heap.size, 0, none⟩ = some (.int .i64 p) ∧ wr.cell? ⟨w0.heap.size, 1, none⟩ = some (.int .i64 k) ∧ wr.cell? ⟨w0.heap.size, 2, none⟩ = some (.int .i64 g) := h.fx.cells
/-- An element is taken. -/
theorem Reg.push (h : Reg w0 wr p k g bt bl bc bo T C O L vt vC vO) {w1 : World} {b n cap : Nat} {T' : List Int} (ho : Own w1 (w0.heap.size + 1) 2 .i64 (.slice (some ⟨b, 0, none⟩) n cap) T') (hg : wr.grownBy w1 vt.ownBlock) (hl : vt.ownBlock = some b ∨ b = wr.heap.size + 1) :
    BoxV w1 bt vt 28 ∧ Reg w0 (w1.setCell ⟨bt, 0, none⟩ (.slice (some ⟨b, 0, none⟩) n cap)) p k g bt bl bc bo T' C O L (.slice (some ⟨b, 0, none⟩) n cap) vC vO := by
  obtain ⟨a1, a2, a3, a4⟩ := h.d0
  obtain ⟨b1, b2, b3, b4, b5, b6⟩ := h.d1
  have ht := h.ht.grown hg (h.oT.ne_box h.ht (by decide))
  refine ⟨ht, (h.fx.grow' hg (fun r hr => by have := (h.oT.lt hr).1; omega)).set _ _ _ a1, ht.set _, ?_, ?_, ?_, ho.putBox ht (by decide) _, ?_, ?_, ?_, ?_, h.d0, h.d1⟩
  · exact (h.hl.grown hg (h.oT.ne_box h.hl (by decide))).other (Ne.symm b1)
  · exact (h.hc.grown hg (h.oT.ne_box h.hc (by decide))).other (Ne.symm b2)
  · exact (h.ho.grown hg (h.oT.ne_box h.ho (by decide))).other (Ne.symm b3)
  · exact (h.oC.grown hg (ne_sym h.nC)).putBox ht (by decide) _
  · exact (h.oO.grown hg (ne_sym h.nO)).putBox ht (by decide) _
  · exact .inr fun e => ne_lies2 h.oC h.nC hl e.symm
  · exact .inr fun e => ne_lies2 h.oO h.nO hl e.symm
theorem Reg.putO (h : Reg w0 wr p k g bt bl bc bo T C O L vt vC vO) {v : Value} {O' : List (El R)} (hO : Own wr (w0.heap.size + 1) 2 .i64 v (iv O')) (hn : vt.ownBlock = none ∨ vt.ownBlock ≠ v.ownBlock) :
    Reg w0 (wr.setCell ⟨bo, 0, none⟩ v) p k g bt bl bc bo T C O' L vt vC v := by
  obtain ⟨a1, a2, a3, a4⟩ := h.d0
  obtain ⟨b1, b2, b3, b4, b5, b6⟩ := h.d1
  exact ⟨h.fx.set _ _ _ a4, h.ht.other b3, h.hl.other b5, h.hc.other b6, h.ho.set _, h.oT.putBox h.ho (by decide) _, h.oC.putBox h.ho (by decide) _, hO.putBox h.ho (by decide) _, h.nC, hn, h.d0, h.d1⟩
theorem Reg.putC (h : Reg w0 wr p k g bt bl bc bo T C O L vt vC vO) {v : Value} {C' : List (El R)} (hC : Own wr (w0.heap.size + 1) 2 .i64 v (iv C')) (hn : vt.ownBlock = none ∨ vt.ownBlock ≠ v.ownBlock) :
    Reg w0 (wr.setCell ⟨bc, 0, none⟩ v) p k g bt bl bc bo T C' O L vt v vO := by
  obtain ⟨a1, a2, a3, a4⟩ := h.d0
  obtain ⟨b1, b2, b3, b4, b5, b6⟩ := h.d1
  exact ⟨h.fx.set _ _ _ a3, h.ht.other b2, h.hl.other b4, h.hc.set _, h.ho.other (Ne.symm b6), h.oT.putBox h.hc (by decide) _, hC.putBox h.hc (by decide) _, h.oO.putBox h.hc (by decide) _, hn, h.nO, h.d0, h.d1⟩
theorem Reg.putL (h : Reg w0 wr p k g bt bl bc bo T C O L vt vC vO) (L' : Nat) :
    Reg w0 (wr.setCell ⟨bl, 0, none⟩ (.int .i64 (L' : Int))) p k g bt bl bc bo T C O L' vt vC vO := by
  obtain ⟨a1, a2, a3, a4⟩ := h.d0
  obtain ⟨b1, b2, b3, b4, b5, b6⟩ := h.d1
  exact ⟨h.fx.set _ _ _ a2, h.ht.other b1, h.hl.set _, h.hc.other (Ne.symm b4), h.ho.other (Ne.symm b5), h.oT.putBox h.hl (by decide) _, h.oC.putBox h.hl (by decide) _, h.oO.putBox h.hl (by decide) _, h.nC, h.nO, h.d0, h.d1⟩
end
end
end Go.Proofs.YtdniocdmncldjaaGreat

namespace Go.Proofs.YtdniocdmncldjaaGreat
open Go.RowKit
set_option linter.unusedSimpArgs false
set_option linter.unusedVariables false

section
variable {R : Fld} {p k g : Int}
theorem sum_take (C s : List (El R)) (j : Nat) : ps (cf C) (cf (s.take (j + 1))) j = ps (cf C) (cf s) j :=
  ps_local (fun _ _ => rfl) fun i hi => by rw [cf_take, if_pos (by omega)]
theorem iv_push {s : List (El R)} {j : Nat} {x : El R} (hx : s[j]? = some x) : iv (s.take j) ++ [(x.val : Int)] = iv (s.take (j + 1)) := by
  rw [List.take_add_one, hx]; simp [iv]

set_option maxRecDepth 100000 in
set_option maxHeartbeats 8000000 in
theorem implRegStep (h : FldIs R p k g) (w0 : World) (bt bl bc bo : Nat) (s : List (El R)) (j : Nat) (x : El R) (hx : s[j]? = some x) (hs : s.length ≤ 64) (vt vC vO : Value) (w : World)
    (hR : Reg w0 w p k g bt bl bc bo (iv (s.take j)) (bm (cf s) j).C (bm (cf s) j).O (bm (cf s) j).L vt vC vO) :
    Calls Tryz.prog 101 #[.int .i64 x.val, .pointer (some ⟨bt, 0, none⟩), .pointer (some ⟨bo, 0, none⟩), .pointer (some ⟨w0.heap.size, 0, none⟩), .pointer (some ⟨bc, 0, none⟩), .pointer (some ⟨bl, 0, none⟩)] w
      (fun e w' => ∃ vt' vC' vO', e = .returned (.tuple #[vC', .int .i64 ((bm (cf s) (j + 1)).L : Nat)]) ∧ Reg w0 w' p k g bt bl bc bo (iv (s.take (j + 1))) (bm (cf s) (j + 1)).C (bm (cf s) (j + 1)).O (bm (cf s) (j + 1)).L vt' vC' vO') := by
  have hjl : j < s.length := (List.getElem?_eq_some_iff.1 hx).1
  have b1 := bm_len (cf s) j
  have b2 := bm_olen (cf s) j
  have b3 := bm_le (cf s) j
  have b4 := bm_pos (cf s) j
  have hN : bm (cf s) (j + 1) = bmNext (cf s) j (bm (cf s) j) := rfl
  rcases hb : bm (cf s) j with ⟨C, O, L⟩
  rw [hb] at hR b1 b2 b3 b4 hN
  dsimp only at hR b1 b2 b3 b4
  rw [hN]
  have hT := iv_push hx
  have hTl : (iv (s.take j)).length = j := by rw [iv_len, List.length_take]; omega
  have hTl1 : (s.take (j + 1)).length = j + 1 := by rw [List.length_take]; omega
  obtain ⟨AO, cO, hO, hcO⟩ := hR.oO.form
  obtain ⟨AC, cC, hC, hcC⟩ := hR.oC.form
  rw [iv_len] at hO hC hcO hcC
  obtain ⟨nO, hnO⟩ : ∃ n, O.length = n := ⟨_, rfl⟩
  obtain ⟨nC, hnC⟩ : ∃ n, C.length = n := ⟨_, rfl⟩
  obtain ⟨d, hd⟩ : ∃ d, ps (cf C) (cf s) j = d := ⟨_, rfl⟩
  have HNO := hide hnO
  have HNC := hide hnC
  rw [hnO] at hO b2
  rw [hnC] at hC b1 b4
  subst hO hC
  have HR := hide hR
  have HT := hide hT
  have HTL := hide hTl
  have HTL1 := hide hTl1
  have HD := hide hd
  have HDS := hide (show ps (cf C) (cf (s.take (j + 1))) j = d by rw [sum_take, hd])
  have HB := hide hb
  have k0 := hR.ht.cell
  have hb0 : w0.heap.size + 1 ≤ w.heap.size := hR.fx.lt
  have hlen : ((iv (s.take j)).length + 1) * 8 ≤ 140737488355328 := by rw [hTl]; omega
  clear hR hT hTl hTl1 hd hb hN hnO hnC hx hcO hcC
  obtain ⟨T, hTT⟩ : ∃ T, iv (s.take j) = T := ⟨_, rfl⟩
  rw [hTT] at HR HT HTL hlen
  clear hTT
  go_enter Tryz.func101, Tryz.ntmps101
  go_wp2_with (at_builtin; refine wpList_app1M w rfl _ _ _ rfl elem64 (w0.heap.size + 1) vt _ rfl HR.out.oT (x.val : Int) rfl hlen hb0 ?_; intro b cap w1 hown hgrow hloc; rw [HT.out, HTL.out] at hown; rw [HTL.out]; obtain ⟨hbt, hR1⟩ := HR.out.push hown hgrow hloc; have HR1 := hide hR1; have k1 := hbt.cell; have f1 := hbt.frozen; obtain ⟨e0, e1, e2⟩ := HR1.out.cells; have k2 := HR1.out.ho.cell; clear hown hgrow hloc hbt hR1 k0)
  obtain ⟨W1, hW1⟩ : ∃ W, w1.setCell ⟨bt, 0, none⟩ (.slice (some ⟨b, 0, none⟩) (j + 1) cap) = W := ⟨_, rfl⟩
  have hs1 : W1.heap.size = w1.heap.size := by rw [← hW1]; simp [World.setCell]
  rw [hW1] at HR1 ⊢
  rw [← hs1]
  clear e0 e1 e2 k1 k2 f1 hW1 hs1 HR
  have HR2 := hide (HR1.out.alloc (.cells #[.int .i64 0, .int .i64 1] 2))
  obtain ⟨n3, hn3⟩ : ∃ n, (mulP O xP).length = n := ⟨_, rfl⟩
  have hn3b : n3 ≤ 70 := by rw [← hn3, mulP, tab_len]; unfold plen; rw [HNO.out, show (xP : List (El R)).length = 2 from rfl]; split <;> omega
  have HN3 := hide hn3
  clear hn3
  have hx2 : iv (xP : List (El R)) = [0, 1] := rfl
  have h2 := ints_two W1 2 .i64 0 1
  rw [← hx2] at h2
  have HX2 := hide (h2.more (B' := (W1.alloc (.cells #[.int .i64 0, .int .i64 1] 2)).heap.size) (by rw [alloc_size]; exact Nat.le_refl _))
  clear h2 hx2
  refine (implTimes h O xP AO (some ⟨W1.heap.size, 0, none⟩) nO cO 2 2 _ _ HR2.out.oO.intsE HX2.out (Nat.le_refl _) (by omega) (by omega)).mono ?_
  rintro e w3 ⟨g3, m3, rfl, ho3, hg3, hb3⟩
  rw [HN3.out] at ho3 ⊢
  have HR3 := hide (HR2.out.next hb3)
  have hle2 : w0.heap.size + 1 ≤ (W1.alloc (.cells #[.int .i64 0, .int .i64 1] 2)).heap.size := HR2.out.fx.lt
  have HR4 := hide (HR3.out.putO (ho3.low hle2) (HR2.out.oT.ne ho3 (Nat.le_refl _)))
  have k3 := HR3.out.ho.cell
  have f3 := HR3.out.ho.frozen
  obtain ⟨e0, e1, e2⟩ := HR4.out.cells
  have k4 := HR4.out.hc.cell
  have k5 := HR4.out.ht.cell
  clear ho3 hg3 hb3 hle2 HX2
  go_wp2_with fail
  obtain ⟨W4, hW4⟩ : ∃ W, w3.setCell ⟨bo, 0, none⟩ (.slice (some ⟨g3, 0, none⟩) n3 m3) = W := ⟨_, rfl⟩
  rw [hW4] at HR4 ⊢
  clear e0 e1 e2 k3 f3 k4 k5 hW4 HR1 HR2 HR3
  refine (implSumAt h C (s.take (j + 1)) j AC (some ⟨b, 0, none⟩) nC cC (j + 1) cap _ W4 HR4.out.oC.intsE HR4.out.oT.intsE (Nat.le_refl _) (by omega) (by omega) (by omega)).mono ?_
  rw [HDS.out]
  rintro e w5 ⟨rfl, hb5⟩
  have HR5 := hide (HR4.out.next hb5)
  clear hb5 HR4
  have k6 := HR5.out.hc.cell
  have k7 := HR5.out.hl.cell
  by_cases hd0 : d = 0
  · have e3 : ((d.val : Int) == 0) = true := by rw [hd0]; rfl
    have HF := hide (show bmNext (cf s) j ⟨C, O, L⟩ = ⟨C, mulP O xP, L⟩ by unfold bmNext; rw [if_pos (by rw [HD.out]; exact hd0)])
    clear hd0
    go_wp2_with fail
    go_quiet (fail)
    go_wp2_with fail
    go_ret2
    rw [HF.out]
    exact ⟨_, _, _, rfl, HR5.out.drewN _⟩
  · have e3 : ((d.val : Int) == 0) = false := by have := val_ne hd0; simp; omega
    have HD0 := hide hd0
    obtain ⟨n6, hn6⟩ : ∃ n, (scaP (-d) (mulP O xP)).length = n := ⟨_, rfl⟩
    have HSC := hide (show (trim (tab n3 fun i => (-d) * cf (mulP O xP) i)) = scaP (-d) (mulP O xP) by rw [scaP, HN3.out])
    have hn6b : n6 ≤ 70 := by rw [← hn6, ← HSC.out]; have := trim_le (tab n3 fun i => (-d) * cf (mulP O xP) i); rw [tab_len] at this; omega
    have HN6 := hide hn6
    obtain ⟨n7, hn7⟩ : ∃ n, (addP C (scaP (-d) (mulP O xP))).length = n := ⟨_, rfl⟩
    have HN7 := hide hn7
    clear hn6 hn7 hd0
    go_wp2_with fail
    clear k6 k7
    refine tail_begin (fun w' => w'.cell? ⟨w0.heap.size, 0, none⟩ = some (.int .i64 p) ∧ w'.cell? ⟨w0.heap.size, 1, none⟩ = some (.int .i64 k) ∧ w'.cell? ⟨w0.heap.size, 2, none⟩ = some (.int .i64 g) ∧ w'.cell? ⟨bo, 0, none⟩ = some (.slice (some ⟨g3, 0, none⟩) n3 m3)) 10 (by kernel_rfl) (by exact ⟨HR5.out.drew.cells.1, HR5.out.drew.cells.2.1, HR5.out.drew.cells.2.2, HR5.out.drew.ho.cell⟩) (fun hS' => ?_)
    refine tail_take 0 rfl (by kernel_rfl) (by kernel_rfl) (by kernel_rfl) (by kernel_rfl) (fun _ _ _ h => h) (by rfl) (v := ?_) ?_ (by assumption) ?_
    rotate_left 1
    · intro w' hS'; (try dsimp only at hS'); go_simp; try with_reducible rfl
    try simp only [Act.put, List.setIfInBounds_toArray, List.set_cons_zero, List.set_cons_succ]
    refine tail_take 1 rfl (by kernel_rfl) (by kernel_rfl) (by kernel_rfl) (by kernel_rfl) (fun _ _ _ h => h) (by rfl) (v := ?_) ?_ (by assumption) ?_
    rotate_left 1
    · intro w' hS'; (try dsimp only at hS'); go_simp; try with_reducible rfl
    try simp only [Act.put, List.setIfInBounds_toArray, List.set_cons_zero, List.set_cons_succ]
    refine tail_take 2 rfl (by kernel_rfl) (by kernel_rfl) (by kernel_rfl) (by kernel_rfl) (fun _ _ _ h => h) (by rfl) (v := ?_) ?_ (by assumption) ?_
    rotate_left 1
    · intro w' hS'; (try dsimp only at hS'); go_simp; try with_reducible rfl
    try simp only [Act.put, List.setIfInBounds_toArray, List.set_cons_zero, List.set_cons_succ]
    refine tail_take 3 rfl (by kernel_rfl) (by kernel_rfl) (by kernel_rfl) (by kernel_rfl) (fun _ _ _ h => h) (by rfl) (v := ?_) ?_ (by assumption) ?_
    rotate_left 1
    · intro w' hS'; (try dsimp only at hS'); go_simp; try with_reducible rfl
    try simp only [Act.put, List.setIfInBounds_toArray, List.set_cons_zero, List.set_cons_succ]
    refine tail_take 4 rfl (by kernel_rfl) (by kernel_rfl) (by kernel_rfl) (by kernel_rfl) (fun _ _ _ h => h) (by rfl) (v := ?_) ?_ (by assumption) ?_
    rotate_left 1
    · intro w' hS'; (try dsimp only at hS'); go_simp; try with_reducible rfl
    try simp only [Act.put, List.setIfInBounds_toArray, List.set_cons_zero, List.set_cons_succ]
    refine tail_take 5 rfl (by kernel_rfl) (by kernel_rfl) (by kernel_rfl) (by kernel_rfl) (fun _ _ _ h => h) (by rfl) (v := ?_) ?_ (by assumption) ?_
    rotate_left 1
    · intro w' hS'; (try dsimp only at hS'); go_simp; try with_reducible rfl
    try simp only [Act.put, List.setIfInBounds_toArray, List.set_cons_zero, List.set_cons_succ]
    refine tail_call 6 rfl (by kernel_rfl) rfl (fun K hK => ?_)
    go_simp
    go_at_call 24; refine (implNegE h d _).mono ?_; rintro e' w6 ⟨rfl, hb6⟩; have HR6 := hide (HR5.out.drew.next hb6); clear hb6
    refine hK.out _ _ (by (try dsimp only); exact ⟨HR6.out.cells.1, HR6.out.cells.2.1, HR6.out.cells.2.2, HR6.out.ho.cell⟩) (fun hS' => ?_)
    clear hK K
    try simp only [Act.put, List.setIfInBounds_toArray, List.set_cons_zero, List.set_cons_succ]
    refine tail_call 7 rfl (by kernel_rfl) rfl (fun K hK => ?_)
    go_simp
    go_at_call 79; refine (implScaled h (-d) (mulP O xP) (some ⟨g3, 0, none⟩) n3 m3 _ _ HR6.out.oO.intsE (Nat.le_refl _) (by omega)).mono ?_; rw [HSC.out]; rintro e' w7 ⟨g7, m7, rfl, ho7, hg7, hb7⟩; rw [HN6.out] at ho7 ⊢; have HR7 := hide (HR6.out.next hb7); have HO7 := hide ho7.intsE; clear ho7 hg7 hb7
    refine hK.out _ _ (by (try dsimp only); exact ⟨HR7.out.cells.1, HR7.out.cells.2.1, HR7.out.cells.2.2, HR7.out.ho.cell⟩) (fun hS' => ?_)
    clear hK K
    try simp only [Act.put, List.setIfInBounds_toArray, List.set_cons_zero, List.set_cons_succ]
    have HR8 := hide (HR7.out.alloc (.cells #[.slice (some ⟨g7, 0, none⟩) n6 m7] 53))
    have HB8 := hide (BoxV.new w7 (.slice (some ⟨g7, 0, none⟩) n6 m7) 53)
    have HO8 := hide ((HO7.out.below ((Below.refl w7.heap.size w7).alloc (Nat.le_refl _) (.cells #[.slice (some ⟨g7, 0, none⟩) n6 m7] 53))).more (B' := (w7.alloc (.cells #[.slice (some ⟨g7, 0, none⟩) n6 m7] 53)).heap.size) (by rw [alloc_size]; exact Nat.le_succ _))
    refine tail_call 8 rfl (by kernel_rfl) rfl (fun K hK => ?_)
    go_simp
    refine hK.out _ _ (by (try dsimp only); exact ⟨HR8.out.cells.1, HR8.out.cells.2.1, HR8.out.cells.2.2, HR8.out.ho.cell⟩) (fun hS' => ?_)
    clear hK K
    try simp only [Act.put, List.setIfInBounds_toArray, List.set_cons_zero, List.set_cons_succ]
    refine tail_call 9 rfl (by kernel_rfl) rfl (fun K hK => ?_)
    go_simp
    go_at_call 78; refine (implPlus h C (scaP (-d) (mulP O xP)) AC (some ⟨g7, 0, none⟩) nC cC n6 m7 _ w7.heap.size _ HR8.out.oC.intsE HO8.out (by rw [alloc_size]; exact Nat.lt_succ_self _) HB8.out.cell (Nat.le_refl _) (by omega) (by omega)).mono ?_; rintro e' w9 ⟨g9, m9, rfl, ho9, hg9, hb9⟩; rw [HN7.out] at ho9 ⊢; have HR9 := hide (HR8.out.next hb9); have HRA := hide (HR9.out.putC (ho9.low HR8.out.fx.lt) (HR8.out.oT.ne ho9 (Nat.le_refl _))); clear ho9 hg9 hb9
    refine hK.out _ _ (by (try dsimp only); exact ⟨HR9.out.cells.1, HR9.out.cells.2.1, HR9.out.cells.2.2, HR9.out.ho.cell⟩) (fun hS' => ?_)
    clear hK K
    try simp only [Act.put, List.setIfInBounds_toArray, List.set_cons_zero, List.set_cons_succ]
    have k9 := HR9.out.hc.cell
    have f9 := HR9.out.hc.frozen
    refine tail_last 10 rfl (by kernel_rfl) (by kernel_rfl) rfl rfl (fun K hK => ?_)
    go_simp
    refine hK.out _ _ ?_
    clear hK K
    try simp only [Act.put, List.setIfInBounds_toArray, List.set_cons_zero, List.set_cons_succ]
    obtain ⟨W9, hW9⟩ : ∃ W, w9.setCell ⟨bc, 0, none⟩ (.slice (some ⟨g9, 0, none⟩) n7 m9) = W := ⟨_, rfl⟩
    have HOC := hide (HR9.out.oC.putBox HR9.out.hc (by decide) (.slice (some ⟨g9, 0, none⟩) n7 m9))
    rw [hW9] at HRA HOC ⊢
    clear hW9 k9 f9 HR9 HR8 HO8 HB8 HO7 HR7 HR6 hS'
    clear HR5
    have k6 := HRA.out.hl.cell
    have k7 := HRA.out.ht.cell
    by_cases hlt : 2 * L < j + 1
    · have z1 : decide (2 * (L : Int) < (j : Int) + 1) = true := by rw [decide_eq_true_eq]; omega
      have HF := hide (show bmNext (cf s) j ⟨C, O, L⟩ = ⟨addP C (scaP (-d) (mulP O xP)), scaP d.inv C, j + 1 - L⟩ by unfold bmNext; rw [if_neg (by rw [HD.out]; exact HD0.out), if_pos hlt, HD.out])
      obtain ⟨L', hL'⟩ : ∃ L', j + 1 - L = L' := ⟨_, rfl⟩
      rw [hL'] at HF
      have hw1 : IntKind.i64.wrap ((j : Int) + 1 - (L : Int)) = (L' : Int) := by rw [IntWalk.i64_in _ ⟨by omega, by omega⟩]; omega
      have hw2 : (j : Int) + 1 - (L : Int) = (L' : Int) := by omega
      obtain ⟨n8, hn8⟩ : ∃ n, (scaP d.inv C).length = n := ⟨_, rfl⟩
      have HSD := hide (show (trim (tab nC fun i => d.inv * cf C i)) = scaP d.inv C by rw [scaP, HNC.out])
      have HN8 := hide hn8
      clear hn8
      go_wp2_with fail
      clear k6 k7
      refine tail_begin (fun w' => w'.cell? ⟨w0.heap.size, 0, none⟩ = some (.int .i64 p) ∧ w'.cell? ⟨w0.heap.size, 1, none⟩ = some (.int .i64 k) ∧ w'.cell? ⟨w0.heap.size, 2, none⟩ = some (.int .i64 g)) 6 (by kernel_rfl) (by exact HRA.out.drew.cells) (fun hS' => ?_)
      refine tail_take 0 rfl (by kernel_rfl) (by kernel_rfl) (by kernel_rfl) (by kernel_rfl) (fun _ _ _ h => h) (by rfl) (v := ?_) ?_ (by assumption) ?_
      rotate_left 1
      · intro w' hS'; (try dsimp only at hS'); go_simp; try with_reducible rfl
      try simp only [Act.put, List.setIfInBounds_toArray, List.set_cons_zero, List.set_cons_succ]
      refine tail_take 1 rfl (by kernel_rfl) (by kernel_rfl) (by kernel_rfl) (by kernel_rfl) (fun _ _ _ h => h) (by rfl) (v := ?_) ?_ (by assumption) ?_
      rotate_left 1
      · intro w' hS'; (try dsimp only at hS'); go_simp; try with_reducible rfl
      try simp only [Act.put, List.setIfInBounds_toArray, List.set_cons_zero, List.set_cons_succ]
      refine tail_take 2 rfl (by kernel_rfl) (by kernel_rfl) (by kernel_rfl) (by kernel_rfl) (fun _ _ _ h => h) (by rfl) (v := ?_) ?_ (by assumption) ?_
      rotate_left 1
      · intro w' hS'; (try dsimp only at hS'); go_simp; try with_reducible rfl
      try simp only [Act.put, List.setIfInBounds_toArray, List.set_cons_zero, List.set_cons_succ]
      refine tail_take 3 rfl (by kernel_rfl) (by kernel_rfl) (by kernel_rfl) (by kernel_rfl) (fun _ _ _ h => h) (by rfl) (v := ?_) ?_ (by assumption) ?_
      rotate_left 1
      · intro w' hS'; (try dsimp only at hS'); go_simp; try with_reducible rfl
      try simp only [Act.put, List.setIfInBounds_toArray, List.set_cons_zero, List.set_cons_succ]
      refine tail_call 4 rfl (by kernel_rfl) rfl (fun K hK => ?_)
      go_simp
      go_at_call 73; refine (implInvE h d _).mono ?_; rintro e' wA ⟨rfl, hbA⟩; have HRB := hide (HRA.out.drew.next hbA); have HOB := hide (HOC.out.drew.below hbA (Nat.le_refl _)); clear hbA
      refine hK.out _ _ (by (try dsimp only); exact HRB.out.cells) (fun hS' => ?_)
      clear hK K
      try simp only [Act.put, List.setIfInBounds_toArray, List.set_cons_zero, List.set_cons_succ]
      refine tail_call 5 rfl (by kernel_rfl) rfl (fun K hK => ?_)
      go_simp
      go_at_call 79; refine (implScaled h d.inv C AC nC cC _ _ HOB.out.intsE (Nat.le_refl _) (by omega)).mono ?_; rw [HSD.out]; rintro e' wC ⟨gC, mC, rfl, hoC, hgC, hbC⟩; rw [HN8.out] at hoC ⊢; have HRC := hide (HRB.out.next hbC); have HRD := hide (HRC.out.putO (hoC.low HRB.out.fx.lt) (HRB.out.oT.ne hoC (Nat.le_refl _))); clear hoC hgC hbC
      refine hK.out _ _ (by (try dsimp only); exact HRC.out.cells) (fun hS' => ?_)
      clear hK K
      try simp only [Act.put, List.setIfInBounds_toArray, List.set_cons_zero, List.set_cons_succ]
      have k9 := HRC.out.ho.cell
      have f9 := HRC.out.ho.frozen
      refine tail_last 6 rfl (by kernel_rfl) (by kernel_rfl) rfl rfl (fun K hK => ?_)
      go_simp
      refine hK.out _ _ ?_
      clear hK K
      try simp only [Act.put, List.setIfInBounds_toArray, List.set_cons_zero, List.set_cons_succ]
      obtain ⟨WD, hWD⟩ : ∃ W, wC.setCell ⟨bo, 0, none⟩ (.slice (some ⟨gC, 0, none⟩) n8 mC) = W := ⟨_, rfl⟩
      rw [hWD] at HRD ⊢
      clear hWD k9 f9 HRC HRB HRA HOC HOB hS'
      have k6 := HRD.out.ht.cell
      have k7 := HRD.out.hl.cell
      have f7 := HRD.out.hl.frozen
      have HRE := hide (HRD.out.putL L')
      have k8 := HRE.out.hc.cell
      have k9 := HRE.out.hl.cell
      go_wp2_with fail
      go_quiet (fail)
      go_wp2_with fail
      go_ret2
      rw [HF.out]
      exact ⟨_, _, _, rfl, HRE.out.drewN _⟩
    · have z1 : decide (2 * (L : Int) < (j : Int) + 1) = false := by rw [decide_eq_false_iff_not]; omega
      have k8 := HRA.out.hc.cell
      have HF := hide (show bmNext (cf s) j ⟨C, O, L⟩ = ⟨addP C (scaP (-d) (mulP O xP)), mulP O xP, L⟩ by unfold bmNext; rw [if_neg (by rw [HD.out]; exact HD0.out), if_neg hlt, HD.out])
      go_wp2_with fail
      go_quiet (fail)
      go_wp2_with fail
      go_ret2
      rw [HF.out]
      exact ⟨_, _, _, rfl, HRA.out.drewN _⟩
end
end Go.Proofs.YtdniocdmncldjaaGreat

namespace Go.Proofs.YtdniocdmncldjaaGreat
open Go.RowKit
set_option linter.unusedSimpArgs false
set_option linter.unusedVariables false

section
variable {R : Fld} {p k g : Int}
theorem own_lit1R (w : World) (e : TypeId) (k : IntKind) (y : Int) : Own (w.alloc (.cells #[.int k y] e)) w.heap.size e k (.slice (some ⟨w.heap.size, 0, none⟩) 1 1) [y] :=
  Own.intro (World.ownsRow_lit w #[.int k y] 1 (Nat.le_refl _) (by simp [maxLen]) (by simp)) rfl rfl
theorem reg_start (R : Fld) (w : World) (p k g : Int) : Reg w (((((((w.alloc (.cells #[.int .i64 p, .int .i64 k, .int .i64 g] 25)).alloc (.cells #[.slice none 0 0] 28)).alloc (.cells #[.int .i64 0] 3)).alloc (.cells #[.int .i64 1] 2)).alloc
    (.cells #[.slice (some ⟨w.heap.size + 1 + 1 + 1, 0, none⟩) 1 1] 53)).alloc (.cells #[.int .i64 1] 2)).alloc (.cells #[.slice (some ⟨w.heap.size + 1 + 1 + 1 + 1 + 1, 0, none⟩) 1 1] 53)) p k g
    (w.heap.size + 1) (w.heap.size + 1 + 1) (w.heap.size + 1 + 1 + 1 + 1) (w.heap.size + 1 + 1 + 1 + 1 + 1 + 1) [] ([1] : List (El R)) [1] 0 (.slice none 0 0) (.slice (some ⟨w.heap.size + 1 + 1 + 1, 0, none⟩) 1 1) (.slice (some ⟨w.heap.size + 1 + 1 + 1 + 1 + 1, 0, none⟩) 1 1) := by
  have hX := Box.start w 25 p k g
  obtain ⟨w1, e1⟩ : ∃ w1, w.alloc (.cells #[.int .i64 p, .int .i64 k, .int .i64 g] 25) = w1 := ⟨_, rfl⟩
  have s1 : w1.heap.size = w.heap.size + 1 := by rw [← e1, alloc_size]
  rw [e1] at hX ⊢
  have ht := BoxV.new w1 (.slice none 0 0) 28
  obtain ⟨w2, e2⟩ : ∃ w2, w1.alloc (.cells #[.slice none 0 0] 28) = w2 := ⟨_, rfl⟩
  have s2 : w2.heap.size = w.heap.size + 1 + 1 := by rw [← e2, alloc_size, s1]
  have hX := hX.alloc (.cells #[.slice none 0 0] 28)
  rw [s1] at ht
  rw [e2] at ht hX ⊢
  have hl := BoxV.new w2 (.int .i64 0) 3
  obtain ⟨w3, e3⟩ : ∃ w3, w2.alloc (.cells #[.int .i64 0] 3) = w3 := ⟨_, rfl⟩
  have s3 : w3.heap.size = w.heap.size + 1 + 1 + 1 := by rw [← e3, alloc_size, s2]
  have hX := hX.alloc (.cells #[.int .i64 0] 3)
  have ht := ht.alloc (.cells #[.int .i64 0] 3)
  rw [s2] at hl
  rw [e3] at ht hl hX ⊢
  have hC := own_lit1R w3 2 .i64 1
  obtain ⟨w4, e4⟩ : ∃ w4, w3.alloc (.cells #[.int .i64 1] 2) = w4 := ⟨_, rfl⟩
  have s4 : w4.heap.size = w.heap.size + 1 + 1 + 1 + 1 := by rw [← e4, alloc_size, s3]
  have hX := hX.alloc (.cells #[.int .i64 1] 2)
  have ht := ht.alloc (.cells #[.int .i64 1] 2)
  have hl := hl.alloc (.cells #[.int .i64 1] 2)
  rw [s3] at hC
  rw [e4] at ht hl hX hC ⊢
  have hc := BoxV.new w4 (.slice (some ⟨w.heap.size + 1 + 1 + 1, 0, none⟩) 1 1) 53
  obtain ⟨w5, e5⟩ : ∃ w5, w4.alloc (.cells #[.slice (some ⟨w.heap.size + 1 + 1 + 1, 0, none⟩) 1 1] 53) = w5 := ⟨_, rfl⟩
  have s5 : w5.heap.size = w.heap.size + 1 + 1 + 1 + 1 + 1 := by rw [← e5, alloc_size, s4]
  have hX := hX.alloc (.cells #[.slice (some ⟨w.heap.size + 1 + 1 + 1, 0, none⟩) 1 1] 53)
  have ht := ht.alloc (.cells #[.slice (some ⟨w.heap.size + 1 + 1 + 1, 0, none⟩) 1 1] 53)
  have hl := hl.alloc (.cells #[.slice (some ⟨w.heap.size + 1 + 1 + 1, 0, none⟩) 1 1] 53)
  have hC := hC.alloc (.cells #[.slice (some ⟨w.heap.size + 1 + 1 + 1, 0, none⟩) 1 1] 53)
  rw [s4] at hc
  rw [e5] at ht hl hX hC hc ⊢
  have hO := own_lit1R w5 2 .i64 1
  obtain ⟨w6, e6⟩ : ∃ w6, w5.alloc (.cells #[.int .i64 1] 2) = w6 := ⟨_, rfl⟩
  have s6 : w6.heap.size = w.heap.size + 1 + 1 + 1 + 1 + 1 + 1 := by rw [← e6, alloc_size, s5]
  have hX := hX.alloc (.cells #[.int .i64 1] 2)
  have ht := ht.alloc (.cells #[.int .i64 1] 2)
  have hl := hl.alloc (.cells #[.int .i64 1] 2)
  have hC := hC.alloc (.cells #[.int .i64 1] 2)
  have hc := hc.alloc (.cells #[.int .i64 1] 2)
  rw [s5] at hO
  rw [e6] at ht hl hX hC hc hO ⊢
  have ho := BoxV.new w6 (.slice (some ⟨w.heap.size + 1 + 1 + 1 + 1 + 1, 0, none⟩) 1 1) 53
  rw [s6] at ho
  exact ⟨hX.alloc _, ht.alloc _, hl.alloc _, hc.alloc _, ho, World.ownsRow_nil _ _ _ _, (hC.alloc _).low (by omega), (hO.alloc _).low (by omega), .inl rfl, .inl rfl, ⟨by omega, by omega, by omega, by omega⟩, ⟨by omega, by omega, by omega, by omega, by omega, by omega⟩⟩
set_option maxRecDepth 100000 in
set_option maxHeartbeats 8000000 in
theorem implRegister (R : Fld) (p k g : Int) (w : World) :
    Calls Tryz.prog 61 #[.agg #[.int .i64 p, .int .i64 k, .int .i64 g]] w
      (fun e w' => ∃ bt bl bc bo vt vC vO, e = .returned (.func (.func 101) #[] #[.pointer (some ⟨bt, 0, none⟩), .pointer (some ⟨bo, 0, none⟩), .pointer (some ⟨w.heap.size, 0, none⟩), .pointer (some ⟨bc, 0, none⟩), .pointer (some ⟨bl, 0, none⟩)]) ∧
        Reg w w' p k g bt bl bc bo [] ([1] : List (El R)) [1] 0 vt vC vO) := by
  have HX := hide (Box.start w 25 p k g)
  have hmf : ∀ (fn : Fn) (first cap : Array Value) (w : World), (Instr.makeFunc fn first cap).run Tryz.prog w = .ok (.func fn first cap) w := fun _ _ _ _ => rfl
  go_enter Tryz.func61, Tryz.ntmps61
  go_wp2_with fail
  go_ret
  exact ⟨_, _, _, _, _, _, _, rfl, reg_start R w p k g⟩

/-- The polynomial and the length that are left. -/
def ShRel (w0 w : World) (bt bl bc bo : Nat) (p k g : Int) (n : Nat) (s : List (El R)) (v m i : Value) (wr : World) : Prop :=
  ∃ (j : Nat) (vt vC vO : Value), j ≤ n ∧ i = .int .i64 j ∧ m = .int .i64 ((bm (cf s) j).L : Nat) ∧ Own wr (w.heap.size + 1) 2 .i64 v (iv (bm (cf s) j).C) ∧ Reg w0 wr p k g bt bl bc bo (iv (s.take j)) (bm (cf s) j).C (bm (cf s) j).O (bm (cf s) j).L vt vC vO
set_option maxRecDepth 100000 in
set_option maxHeartbeats 8000000 in
theorem implShortest (h : FldIs R p k g) (s : List (El R)) (A : Option Addr) (n c B : Nat) (w : World) (hI : Ints .i64 w B A n (iv s)) (hB : B ≤ w.heap.size) (hn : n ≤ 64) :
    Calls Tryz.prog 33 #[.agg #[.int .i64 p, .int .i64 k, .int .i64 g], .slice A n c] w
      (fun e w' => ∃ v, e = .returned (.tuple #[v, .int .i64 ((bm (cf s) n).L : Nat)]) ∧ Own w' w.heap.size 2 .i64 v (iv (bm (cf s) n).C) ∧ Below w.heap.size w w') := by
  have HX := hide (Box.start w 25 p k g)
  have hsn : s.length = n := by rw [← iv_len]; exact hI.len
  have HI := hide hI
  have HSN := hide hsn
  clear hI hsn
  have HXa := hide (HX.out.alloc (.cells #[.int .i64 1] 2))
  have HL1 := hide (own_lit1R (w.alloc (.cells #[.int .i64 p, .int .i64 k, .int .i64 g] 25)) 2 .i64 1)
  obtain ⟨c0, c1, c2⟩ := HXa.out.cells
  go_enter Tryz.func33, Tryz.ntmps33
  go_wp2_with fail
  obtain ⟨W0, hW0⟩ : ∃ W0, (w.alloc (.cells #[.int .i64 p, .int .i64 k, .int .i64 g] 25)).alloc (.cells #[.int .i64 1] 2) = W0 := ⟨_, rfl⟩
  rw [hW0] at HXa HL1 ⊢
  rw [alloc_size] at HL1
  clear c0 c1 c2 hW0 HX
  refine (implRegister R p k g _).mono ?_
  rintro e w1 ⟨bt, bl, bc, bo, vt, vC, vO, rfl, hR⟩
  have HR1 := hide hR
  have HX1 := hide (HXa.out.next hR.fx.2)
  have HL2 := hide (HL1.out.below hR.fx.2 (Nat.le_refl _))
  have hW0 : w.heap.size + 1 ≤ W0.heap.size := HXa.out.lt
  clear hR HL1
  go_wp2_with fail
  go_loopw [6, 7, 16] (fun v m i wr => ShRel W0 w bt bl bc bo p k g n s v m i wr) (fun _ _ i _ => n - (intOf i).toNat)
  case atStart => exact ⟨0, vt, vC, vO, Nat.zero_le _, rfl, rfl, HL2.out, HR1.out⟩
  case round =>
    clear HL2 HX1 HR1
    obtain ⟨vS, rfl⟩ : ∃ v : Value, v = u6 := ⟨_, rfl⟩
    obtain ⟨j, vt', vC', vO', hj, rfl, rfl, HO, HR⟩ := hrel
    have HO := hide HO
    have HX := hide (HXa.out.next HR.fx.2)
    have HR := hide HR
    by_cases hlt : j < n
    · obtain ⟨b, off, x', rfl, hb, hx, hc⟩ := (HI.out.below (HX.out.2.mono hB)).at_ hlt
      obtain ⟨x, hx', rfl⟩ : ∃ x : El R, s[j]? = some x ∧ x' = (x.val : Int) := by
        rw [iv, List.getElem?_map] at hx
        obtain ⟨x, h1, h2⟩ := Option.map_eq_some_iff.1 hx
        exact ⟨x, h1, h2.symm⟩
      clear hx
      go_wp2_with fail
      refine (implRegStep h W0 bt bl bc bo s j x hx' (by rw [HSN.out]; exact hn) vt' vC' vO' wr HR.out).mono ?_
      rintro e w2 ⟨vt2, vC2, vO2, rfl, hR2⟩
      have HR2 := hide hR2
      clear hR2
      go_wp2_with fail
      go_roundw
      case rel => exact ⟨j + 1, vt2, vC2, vO2, by omega, by go_num, rfl, HR2.out.oC.low (by omega), HR2.out⟩
      case measure => simp [intOf]; omega
    · obtain rfl : j = n := by omega
      go_wp2_with fail
      go_ret2
      exact ⟨_, rfl, HO.out.low (by omega), HX.out.2⟩

/-- The recurrence, if there is one. -/
def recL (n : Nat) (t : BmSt R) : List (El R) := if n < 2 * t.L then [] else t.C
def recB (n : Nat) (t : BmSt R) : Bool := decide (2 * t.L ≤ n)
theorem recL_no {n : Nat} {t : BmSt R} (h : n < 2 * t.L) : recL n t = [] ∧ recB n t = false := ⟨if_pos h, decide_eq_false (by omega)⟩
theorem recL_yes {n : Nat} {t : BmSt R} (h : ¬ n < 2 * t.L) : recL n t = t.C ∧ recB n t = true := ⟨if_neg h, decide_eq_true (by omega)⟩
theorem implRecurrence (h : FldIs R p k g) (s : List (El R)) (A : Option Addr) (n c B : Nat) (w : World) (hI : Ints .i64 w B A n (iv s)) (hB : B ≤ w.heap.size) (hn : n ≤ 64) :
    Calls Tryz.prog 32 #[.agg #[.int .i64 p, .int .i64 k, .int .i64 g], .slice A n c] w
      (NewIB (iv (recL n (bm (cf s) n))) (recB n (bm (cf s) n)) w) := by
  have HX := hide (Box.start w 25 p k g)
  have hLn := bm_le (cf s) n
  have HI := hide hI
  clear hI
  obtain ⟨c0, c1, c2⟩ := HX.out.cells
  go_enter Tryz.func32, Tryz.ntmps32
  go_wp2_with fail
  refine (implShortest h s A n c B _ (HI.out.below (HX.out.2.mono hB)) (Nat.le_trans hB (Nat.le_of_lt HX.out.lt)) hn).mono ?_
  rintro e w1 ⟨v, rfl, ho, hb⟩
  have HX1 := hide (HX.out.next hb)
  have HO1 := hide (ho.low (base' := w.heap.size) (Nat.le_of_lt HX.out.lt))
  clear ho hb c0 c1 c2
  by_cases hlt0 : n < 2 * (bm (cf s) n).L
  · have HZ := hide (recL_no hlt0)
    obtain ⟨L, hL⟩ : ∃ L, (bm (cf s) n).L = L := ⟨_, rfl⟩
    rw [hL] at hLn hlt0 ⊢
    have z1 : decide ((n : Int) < 2 * (L : Int)) = true := by rw [decide_eq_true_eq]; omega
    clear hL
    go_wp2_with fail
    go_ret2
    rw [HZ.out.1, HZ.out.2]
    exact newIB_nil HX1.out.2
  · have HZ := hide (recL_yes hlt0)
    obtain ⟨L, hL⟩ : ∃ L, (bm (cf s) n).L = L := ⟨_, rfl⟩
    rw [hL] at hLn hlt0 ⊢
    have z1 : decide ((n : Int) < 2 * (L : Int)) = false := by rw [decide_eq_false_iff_not]; omega
    clear hL
    go_wp2_with fail
    go_ret2
    rw [HZ.out.1, HZ.out.2]
    exact newIB_of HO1.out HX1.out.2 (Nat.le_refl _)
end
end Go.Proofs.YtdniocdmncldjaaGreat
