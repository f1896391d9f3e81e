/-
  The contracts of the program's logarithms, powers and inverses, and of FieldInv, FieldPow and FieldLog.
  Condition: none beyond the kinds that each names.
-/
import Derived.Test.YthafkohopkgckaaFImpl6
import Derived.Great.Ranges
namespace Go.Proofs.Ythafkohopkgckaa
open Go.RowKit
set_option linter.unusedSimpArgs false
set_option linter.unusedVariables false

theorem run_index_tab {cs : Array Value} {t : Nat → Int} (h : Tab cs t) (j : Nat) (hj : j < 1021) (w : World) :
    (Instr.index 107 (.agg cs) (.int .i64 (j : Int))).run Try.prog w = .ok (.int .i64 (t j)) w := by
  have hi : (Try.prog.info? 2).map (fun i => i.size) = some 1 := by kernel_rfl
  have hs : (sizeOf 2).run Try.prog w = .ok 1 w := by
    cases hq : Try.prog.info? 2 with
    | none => simp [hq] at hi
    | some i => simp [hq] at hi; simp [sizeOf, typeInfo, hq, hi]
  have hagg : (isAgg 2).run Try.prog w = .ok false w := by
    unfold isAgg
    rw [Sem.run_bind, run_underlying Try.underlying2 w]
    rfl
  have h1 : (0 : Int) ≤ (j : Int) ∧ (j : Int) < 1021 := by omega
  have h2 := h.2 j hj
  simp [Instr.index, asIntOf, run_underlying Try.underlying107, h1, hs, part, hagg, h2]
  intro hc
  omega

def LogRel (w : World) (cs : Array Value) (l : Nat) (i : Value) : Prop := ∃ j : Nat, j ≤ l ∧ i = .int .i64 j

set_option maxHeartbeats 1000000 in
theorem implLogm {q : Nat} {mul : Nat → Nat → Nat} (M : Mon q mul) (hq : q ≤ 1021) {γ : Nat} (hγ : γ < q) (hgen : gen q mul γ = true) {cs : Array Value} (hT : Tab cs (tbl q mul γ)) (a l : Nat) (hl : l < q - 1) (ha : pw mul γ l = a) (w : World) :
    Calls Try.prog 119 #[.agg cs, .int .i64 a] w (Gives (.int .i64 l) w) := by
  have HT := hide hT
  have HA := hide ha
  have HGN := hide hgen
  have HS := hide (show (Try.prog.info? 107).map (·.size) = some cs.size by rw [hT.1]; exact size_tab)
  have HH := hide (heap_alloc_new w (.cells cs 107 (0, 0)))
  clear hT ha hgen
  go_enter Try.func119, Try.ntmps119
  go_wp2_with (first
    | (with_reducible refine wpList_load_row rfl 107 (.tmp 2) rfl w.heap.size rfl 107 cs (0, 0) _ HH.out Try.underlying107 rfl HS.out ?_))
  go_loop [8] (fun i => LogRel w cs l i) (fun i => l + 1 - (intOf i).toNat)
  case atStart => exact ⟨0, by omega, rfl⟩
  case round =>
    obtain ⟨j, hj, rfl⟩ := hrel
    have z1 : (j : Int) < 1021 := by omega
    have z0 : (0 : Int) ≤ (j : Int) := by omega
    have hix := run_index_tab HT.out j (by omega)
    have ht : tbl q mul γ j = ((pw mul γ j : Nat) : Int) := by rw [tbl, if_pos (by omega)]
    rw [ht] at hix
    clear ht
    by_cases hjl : j = l
    · subst hjl
      rw [HA.out] at hix
      go_wp2_with fail
      go_ret
      exact ⟨rfl, (Below.refl _ _).alloc (Nat.le_refl _) _⟩
    · have hne : pw mul γ j ≠ a := by rw [← HA.out]; exact gen_inj M hγ HGN.out (by omega) hl (by omega)
      generalize pw mul γ j = x at hix hne
      have e1 : ((x : Int) == (a : Int)) = false := by simp; omega
      clear hne
      go_wp2_with fail
      go_round
      case rel => exact ⟨j + 1, by omega, by go_num⟩
      case measure => simp [intOf]; omega

theorem wrap_mul {l n : Nat} (hl : l ≤ 1021) (hn : n ≤ 1000000) : IntKind.i64.wrap ((l : Int) * (n : Int)) = ((l * n : Nat) : Int) := by
  have h : l * n ≤ 1021 * 1000000 := Nat.mul_le_mul hl hn
  rw [← Int.natCast_mul]
  generalize l * n = y at h
  exact IntWalk.i64_in _ ⟨by omega, by omega⟩
theorem row_below {w w' : World} {b : Nat} {cs : Array Value} {t : TypeId} {fr : Nat × Nat} (h : w.heap[b]? = some (.cells cs t fr)) : w.rangeAt b 0 cs.toList := fun j v hv => by
  rw [Nat.zero_add, cell_of_row w b j cs t fr h]
  simpa using hv

theorem Box.setRow {w wr : World} {t : TypeId} {p k g : Int} (h : Box w wr t p k g) (b : Nat) (cs : Array Value) (hb : w.heap.size < b) : Box w (wr.setRow b cs) t p k g :=
  ⟨by rw [setRow_other wr b _ cs (by omega)]; exact h.1, Go.Proofs.Ythafkohopkgckaa.Below.setRow h.2 b cs (by omega)⟩

set_option maxRecDepth 8000 in
set_option maxHeartbeats 2000000 in
theorem implPower {p k g : Int} {q : Nat} {mul : Nat → Nat → Nat} (h : Kd p k g q mul) {γ : Nat} (hγ : γ < q) (hgen : gen q mul γ = true) (hg : (p ≠ 2 ∧ k = 1 ∧ g = γ) ∨ (p = 2 ∧ 3 ≤ k ∧ γ = 2)) (a n : Nat) (ha : a < q) (hn : n ≤ 1000000) (w : World) :
    Calls Try.prog 115 #[.agg #[.int .i64 p, .int .i64 k, .int .i64 g], .int .i64 a, .int .i64 n] w (Gives (.int .i64 (pw mul a n : Nat)) w) := by
  obtain ⟨hq3, hq⟩ := h.big
  have M := h.mon
  have HX := hide (Box.start w 25 p k g)
  have HG := hide hg
  have HGN := hide hgen
  clear hg hgen
  by_cases hn0 : n = 0
  · subst hn0
    go_enter Try.func115, Try.ntmps115
    go_wp2_with fail
    go_ret
    exact ⟨rfl, HX.out.2⟩
  · have e0 : ((n : Int) == 0) = false := by simp; omega
    by_cases ha0 : a = 0
    · subst ha0
      have HF := hide (show ((pw mul 0 n : Nat) : Int) = 0 by rw [zero_pw M (by omega)]; rfl)
      go_enter Try.func115, Try.ntmps115
      go_wp2_with fail
      go_ret
      exact ⟨ret_int HF, HX.out.2⟩
    · have e1 : ((a : Int) == 0) = false := by simp; omega
      obtain ⟨l, hl, hla⟩ := log_exists M hγ HGN.out ha ha0
      obtain ⟨Z, hZ, hz⟩ := zero_tab
      have HZ := hide hZ
      have HLA := hide hla
      have HF := hide (pw_log M hγ HGN.out hla n)
      clear hZ hla hn0 ha0
      go_enter Try.func115, Try.ntmps115
      go_wp2_with fail
      refine (implPowers h hγ HG.out _).mono ?_
      rintro e w1 ⟨cs, rfl, hT, hb⟩
      have HT := hide hT
      have HX1 := hide (HX.out.next hb)
      have HS := hide (show (Try.prog.info? 107).map (·.size) = some cs.size by rw [hT.1]; exact size_tab)
      have HZS := hide (show Z.size = cs.size by rw [hT.1, HZ.out.1])
      have HH := hide (heap_alloc_new w1 (.cells Z 107 (0, 0)))
      clear hT hb
      go_wp2_with (with_reducible refine wpList_store_row rfl 107 (.tmp 7) (.tmp 13) rfl w1.heap.size cs rfl rfl 107 Z HH.out HS.out HZS.out HT.out.one ?_)
      simp only [Act.put]
      have HXA := hide (HX1.out.alloc (.cells Z 107 (0, 0)))
      have HXB := hide (HXA.out.setRow w1.heap.size cs (HX1.out.lt))
      have HR := hide (setRow_heap (w1.alloc (.cells Z 107)) w1.heap.size Z cs 107 _ HH.out)
      have hbl : w1.heap.size < ((w1.alloc (.cells Z 107)).setRow w1.heap.size cs).heap.size := (Array.getElem?_eq_some_iff.1 HR.out).1
      generalize hws : (w1.alloc (.cells Z 107)).setRow w1.heap.size cs = ws at HXB HR hbl ⊢
      generalize hN : w1.heap.size = N at HR hbl ⊢
      clear hws HXA HX1 HH HZS hN hz HZ HX
      have hy : IntKind.i64.wrap ((l : Int) * (n : Int)) = ((l * n : Nat) : Int) := wrap_mul (by omega) hn
      have HM := hide (show l * n % (q - 1) < q - 1 from Nat.mod_lt _ (by omega))
      have hq1 : IntKind.i64.wrap ((q : Int) - 1) = ((q - 1 : Nat) : Int) := by
        rw [IntWalk.i64_in _ ⟨by omega, by omega⟩]; omega
      have hm : (((l * n : Nat) : Int)).tmod ((q - 1 : Nat) : Int) = ((l * n % (q - 1) : Nat) : Int) := by
        rw [Int.tmod_eq_emod_of_nonneg (by omega)]; rfl
      generalize l * n % (q - 1) = m at hm HM HF
      generalize l * n = y at hm hy
      have hq2 : ((q - 1 : Nat) : Int) ≠ 0 := by omega
      have HL := hide hl
      have hm1 : m < 1021 := by have := HM.out; omega
      have HV := hide (show tbl q mul γ m = ((pw mul a n : Nat) : Int) by rw [tbl, if_pos HM.out, HF.out])
      clear hl HM
      generalize ((q - 1 : Nat) : Int) = q1 at hm hq1 hq2
      generalize (y : Int) = Y at hm hy
      have z0 : (0 : Int) ≤ (m : Int) := by omega
      have z1 : (m : Int) < 1021 := by omega
      obtain ⟨cl⟩ := cs
      have HLen := hide (show cl.length = 1021 from HT.out.1)
      have hu := Try.underlying107
      have hsz : (Try.prog.info? 107).map (·.size) = some cl.length := HS.out
      have HRr := hide (row_below (w' := ws) HR.out)
      have HCm := hide (show ws.cell? ⟨N, m, none⟩ = some (.int .i64 ((pw mul a n : Nat) : Int)) by rw [cell_of_row ws N m _ _ _ HR.out, HT.out.2 m hm1, HV.out])
      obtain ⟨v, hv⟩ : ∃ v : Nat, pw mul a n = v := ⟨_, rfl⟩
      rw [hv] at HCm
      have HVV := hide (show ((pw mul a n : Nat) : Int) = (v : Int) by rw [hv])
      clear hv HV HF
      go_region_held3 (fun w' => w'.rangeAt N 0 cl ∧ w'.cell? ⟨N, m, none⟩ = some (.int .i64 (v : Int)) ∧ w'.cell? ⟨w.heap.size, 0, none⟩ = some (.int .i64 p) ∧ w'.cell? ⟨w.heap.size, 1, none⟩ = some (.int .i64 k) ∧ w'.cell? ⟨w.heap.size, 2, none⟩ = some (.int .i64 g))
        (first
          | exact ⟨HRr.out, HCm.out, HXB.out.drew.cells.1, HXB.out.drew.cells.2.1, HXB.out.drew.cells.2.2⟩
          | exact ⟨row_below (w' := w2) HR2.out, HC2.out, HX2.out.cells.1, HX2.out.cells.2.1, HX2.out.cells.2.2⟩
          | exact ⟨row_below (w' := w3) HR3.out, HC3.out, HX3.out.cells.1, HX3.out.cells.2.1, HX3.out.cells.2.2⟩)
        (first
          | (go_at_call 119; refine (implLogm M hq hγ HGN.out HT.out a l HL.out HLA.out _).mono ?_; rintro e w2 ⟨rfl, hb2⟩; have HX2 := hide (HXB.out.drew.next hb2); have HR2 := hide (heap_below (w := ws.drew) HR.out hb2); have HC2 := hide ((hb2.cell (p := ⟨N, m, none⟩) hbl).trans HCm.out); clear hb2)
          | (go_at_call 98; refine (implSize h _).mono ?_; rintro e w3 ⟨rfl, hb3⟩; have HX3 := hide (HX2.out.next hb3); have HR3 := hide (heap_below HR2.out hb3); have HC3 := hide ((hb3.cell (p := ⟨N, m, none⟩) (Array.getElem?_eq_some_iff.1 HR2.out).1).trans HC2.out); clear hb3))
      go_wp2_with fail
      go_ret
      exact ⟨ret_int HVV, HX3.out.2⟩

set_option maxHeartbeats 1000000 in
theorem implInverse {p k g : Int} {q : Nat} {mul : Nat → Nat → Nat} (h : Kd p k g q mul) {γ : Nat} (hγ : γ < q) (hgen : gen q mul γ = true) (hg : (p ≠ 2 ∧ k = 1 ∧ g = γ) ∨ (p = 2 ∧ 3 ≤ k ∧ γ = 2)) (a : Nat) (ha : a < q) (w : World) :
    Calls Try.prog 101 #[.agg #[.int .i64 p, .int .i64 k, .int .i64 g], .int .i64 a] w (Gives (.int .i64 (pw mul a (q - 2) : Nat)) w) := by
  obtain ⟨hq3, hq⟩ := h.big
  have HX := hide (Box.start w 25 p k g)
  have HG := hide hg
  have HGN := hide hgen
  clear hg hgen
  go_enter Try.func101, Try.ntmps101
  go_wp2_with fail
  have hq1 : IntKind.i64.wrap ((q : Int) - 2) = ((q - 2 : Nat) : Int) := by
    rw [IntWalk.i64_in _ ⟨by omega, by omega⟩]; omega
  have hn : q - 2 ≤ 1000000 := by omega
  obtain ⟨m, hm⟩ : ∃ m : Nat, m = q - 2 := ⟨_, rfl⟩
  rw [← hm] at hq1 hn
  have HM := hide hm
  clear hm
  generalize hws : w.alloc (.cells #[.int .i64 p, .int .i64 k, .int .i64 g] 25) = ws at HX ⊢
  clear hws
  go_region_held3 (fun w' => w'.cell? ⟨w.heap.size, 0, none⟩ = some (.int .i64 p) ∧ w'.cell? ⟨w.heap.size, 1, none⟩ = some (.int .i64 k) ∧ w'.cell? ⟨w.heap.size, 2, none⟩ = some (.int .i64 g))
    (first
      | exact ⟨HX.out.drew.cells.1, HX.out.drew.cells.2.1, HX.out.drew.cells.2.2⟩
      | exact ⟨HX2.out.cells.1, HX2.out.cells.2.1, HX2.out.cells.2.2⟩
      | exact ⟨HX3.out.cells.1, HX3.out.cells.2.1, HX3.out.cells.2.2⟩)
    (first
      | (go_at_call 98; refine (implSize h _).mono ?_; rintro e w2 ⟨rfl, hb2⟩; have HX2 := hide (HX.out.drew.next hb2); clear hb2)
      | (go_at_call 115; refine (implPower h hγ HGN.out HG.out a m ha hn _).mono ?_; rintro e w3 ⟨rfl, hb3⟩; have HX3 := hide (HX2.out.next hb3); clear hb3))
  go_wp2_with fail
  go_ret
  exact ⟨ret_int (by rw [HM.out]), HX3.out.2⟩

theorem inv_cases (p k g a : Int) : (∃ c : Int, invC p k g a = c ∧ (c != 0) = true ∧ c ≠ 0) ∨ ∃ (x q : Nat) (mul : Nat → Nat → Nat) (γ : Nat), invC p k g a = 0 ∧ a = x ∧ x ≠ 0 ∧ x < q ∧ Kd p k g q mul ∧ 1 ≤ γ ∧ γ < q ∧ gen q mul γ = true ∧ genF p g = γ ∧ ((p ≠ 2 ∧ k = 1 ∧ g = γ) ∨ (p = 2 ∧ 3 ≤ k ∧ γ = 2)) := by
  rcases err1 p k g a with ⟨c, hc, hne, hne'⟩ | ⟨x, q, mul, γ, hc, rfl, hx, hK, h1, h2, h3, h4, h5⟩
  · exact .inl ⟨c, invC_bad hc hne', hne, hne'⟩
  · by_cases hx0 : x = 0
    · subst hx0
      exact .inl ⟨5, invC_zero hc, rfl, by decide⟩
    · exact .inr ⟨x, q, mul, γ, invC_ok hc (by omega), rfl, hx0, hx, hK, h1, h2, h3, h4, h5⟩

end Go.Proofs.Ythafkohopkgckaa
