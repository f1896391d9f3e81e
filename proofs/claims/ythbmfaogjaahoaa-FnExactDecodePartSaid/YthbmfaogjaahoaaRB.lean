/-
  What DecodePart reads, and the model's segments from an index of a bit list on.
  The head of a part, read: the program's headedPart.
  DecodePart: of the model and of the program.
  DecodePart: of the model; and both.
  Condition: as each statement says.
-/
import Derived.Test.YthbmfaogjaahoaaPF
import Derived.Test.YthbmfaogjaahoaaPy7
import Derived.Test.YthbmfaogjaahoaaRA
import Derived.Test.YthbmfaogjaahoaaTail2
import Derived.Deep.DeepCutAuto
import Derived.Deep.CutRange
namespace Go.Proofs.Ythbmfaogjaahoaa
open Go Go.RowKit
set_option linter.unusedSimpArgs false
set_option linter.unusedVariables false

theorem dr_sh {zs ys : List Int} {a p : Nat} (h : ys = zs.drop a) (hp : a + p ≤ zs.length) : rdB zs (a + p) = rdB ys p ∧ rdM zs (a + p) = rdM ys p ∧ rdS zs (a + p) = rdS ys p := by
  obtain ⟨a1, a2, a3⟩ := dr_eq (zs := zs) (a := a + p) hp
  obtain ⟨b1, b2, b3⟩ := dr_eq (zs := ys) (a := p) (by rw [h, List.length_drop]; omega)
  have e : ys.drop p = zs.drop (a + p) := by rw [h, List.drop_drop]
  rw [e] at b1 b2 b3
  exact ⟨a1.symm.trans b1, a2.symm.trans b2, a3.symm.trans b3⟩
/-- Between two rounds of the model. -/
def PsRelA (w : World) (a0 : Nat) (ys : List Int) (at' v tot : Value) (wr : World) : Prop :=
  ∃ k p t f : Nat, Hid (p = spos ys k) ∧ Hid (t = stot ys k) ∧ k ≤ p ∧ p ≤ ys.length ∧ t ≤ 400 ∧ at' = .int .i64 (a0 + p : Nat) ∧ tot = .int .i64 t ∧ Hid (sgF ys = sgR ys f k) ∧ ys.length < f + p ∧
    OwnS wr w.heap.size v k (segV (spM ys) (spT ys)) ∧ Below w.heap.size w wr

set_option maxRecDepth 100000 in
set_option maxHeartbeats 4000000 in
theorem specPgA (A : Option Addr) (n c B a0 : Nat) (zs ys : List Int) (hys : ys = zs.drop a0) (ha0 : a0 ≤ n) (w : World) (hI : Ints .i64 w B A n zs) (hB : B ≤ w.heap.size) (hn : n ≤ 8192) (hbt : ∀ x ∈ zs, x = 0 ∨ x = 1) :
    Calls Try.prog 44 #[.slice A n c, .int .i64 (a0 : Nat)] w (PgPost ys w) := by
  have HI := hide hI
  have hl := hide hI.len
  have HYL := hide (show ys.length + a0 = n by rw [hys, List.length_drop, hI.len]; omega)
  have HYB := hide (show ∀ x ∈ ys, x = 0 ∨ x = 1 from fun x hx => hbt x (List.mem_of_mem_drop (hys ▸ hx)))
  have HDR := hide (fun p' (hp' : p' ≤ ys.length) => dr_sh (zs := zs) (a := a0) (p := p') hys (by rw [hI.len]; have := HYL.out; omega))
  have HNUM := hide (fun p' => show numVal ((zs.drop (a0 + p')).take 3) = numVal ((ys.drop p').take 3) by rw [hys, List.drop_drop])
  clear hys
  have HBT := hide hbt
  have HO := hide (show OwnS (w.alloc (.cells #[] 107)) w.heap.size (.slice (some ⟨w.heap.size, 0, none⟩) 0 0) 0 (segV (spM ys) (spT ys)) from World.ownsRow_lit (base := w.heap.size) (size := 2) (e := 107) w #[] 0 (Nat.le_refl _) (by decide) rfl)
  have HB := hide ((Below.refl w.heap.size w).alloc (Nat.le_refl _) (.cells #[] 107))
  clear hI hbt
  go_enter Try.func44, Try.ntmps44
  go_wp2_with fail
  go_loopw [1, 6, 7] (fun at' v tot wr => PsRelA w a0 ys at' v tot wr) (fun at' _ _ _ => n + 1 - (intOf at').toNat)
  case atStart => exact ⟨0, 0, 0, 8193, rfl, rfl, Nat.le_refl _, Nat.zero_le _, by omega, rfl, rfl, rfl, by have := HYL.out; omega, HO.out, HB.out⟩
  case round =>
    clear HO HB
    obtain ⟨k, p, t, f, hp, ht, hkp, hpl, ht4, rfl, rfl, hf, hfl, ho, hb⟩ := hrel
    have HP := hp
    have HT := ht
    have HF := hf
    have HO := hide ho
    have HB := hide hb
    obtain ⟨v, rfl⟩ : ∃ v : Value, v = u6 := ⟨_, rfl⟩
    obtain ⟨f, rfl⟩ : ∃ f', f = f' + 1 := ⟨f - 1, by omega⟩
    clear hp ht hf ho hb
    have hYL := HYL.out
    have HD := hide (HDR.out p hpl)
    have HNM := hide (HNUM.out p)
    obtain ⟨P, hPe⟩ : ∃ P, a0 + p = P := ⟨_, rfl⟩
    rw [hPe] at HD HNM ⊢
    obtain ⟨p3, hp3⟩ : ∃ p3, P + 3 = p3 := ⟨_, rfl⟩
    have hPn : P ≤ n := by omega
    have hfn : n < f + 1 + P := by omega
    have hkn : k ≤ 8192 := by omega
    have HPE := hide hPe
    have HFL := hide hfl
    have HPL := hide hpl
    have HYL' := hide hYL
    clear hYL hPe hfl hpl
    have hw3 : IntKind.i64.wrap ((P : Int) + 3) = (p3 : Int) := by rw [IntWalk.i64_in _ ⟨by omega, by omega⟩]; omega
    by_cases hle : p3 ≤ n
    case neg =>
      have HR := hide (sg_stop HF.out (fun h => hle (by have := h.1; rw [← HP.out] at this; have := HYL'.out; have := HPE.out; omega)))
      go_wp2_with fail
      go_ret2
      exact pg_yes HR.out HO.out HB.out
    obtain ⟨M, hM⟩ : ∃ M, numVal ((zs.drop P).take 3) = M := ⟨_, rfl⟩
    have HN := hide (fun w' (hI' : Ints .i64 w' B A n zs) => show Calls Try.prog 43 #[.slice A n c, .int .i64 (P : Int), .int .i64 ((3 : Nat) : Int)] w' (fun e w'' => e = .returned (.int .i64 M) ∧ w' = w'') by rw [← hM]; exact specNumber A n c B P 3 zs w' hI' (by omega) (by omega) (by omega) HBT.out)
    have HM := hide (show numVal ((ys.drop p).take 3) = M by rw [← HNM.out]; exact hM)
    clear hM
    go_wp2_with fail
    refine (HN.out _ (HI.out.below (HB.out.mono hB))).mono ?_
    rintro e _ ⟨rfl, rfl⟩
    by_cases hM0 : M = 0
    · subst hM0
      have HR := hide (sg_stop HF.out (fun h => h.2 (by rw [← HP.out]; exact HM.out)))
      go_wp2_with fail
      go_ret2
      exact pg_yes HR.out HO.out HB.out
    have HGO := hide (show sgo ys (spos ys k) from ⟨by rw [← HP.out]; have := HYL'.out; have := HPE.out; omega, by rw [← HP.out, HM.out]; exact hM0⟩)
    have HRD := hide (fun w' hI' hB' => specL9 A n c B zs P w' hI' hB' hn hPn HBT.out)
    unfold RdPost at HRD
    obtain ⟨D1, D2, D3⟩ := HD.out
    have HRE := hide (fun (h : rdB zs P = true) => (rd_nums HBT.out h).2.2.1)
    rw [D1, D2, D3] at HRD HRE
    clear D1 D2 D3
    rcases hb : rdB ys p with _ | _
    · have HR := hide (sg_bad HF.out HGO.out (by rw [← HP.out]; exact hb))
      rw [hb] at HRD
      clear hb
      go_wp2_with fail
      refine (HRD.out _ (HI.out.below (HB.out.mono hB)) (Nat.le_trans hB HB.out.size)).mono ?_
      rintro e w1 ⟨rfl, hb1⟩
      have HB1 := hide (HB.out.trans (hb1.mono HB.out.size))
      have HB2 := hide (fun o => HB1.out.alloc HB1.out.size o)
      clear hb1
      go_wp2_with fail
      go_ret2
      exact pg_no HR.out (HB2.out _)
    · obtain ⟨s1, s2, s3, s4, s5, s6, s7, s8, s9, s10, s11⟩ := sg_step HP.out HYB.out hb
      have HL4 := hide (fun h => sg_long HF.out HGO.out (by rw [← HP.out]; exact hb) h)
      have HNX := hide (fun h => sg_next HF.out HGO.out (by rw [← HP.out]; exact hb) h)
      rw [hb] at HRD
      have s4z := HRE.out hb
      obtain ⟨m, hm⟩ : ∃ m, rdM ys p = m := ⟨_, rfl⟩
      obtain ⟨s, hs⟩ : ∃ s, rdS ys p = s := ⟨_, rfl⟩
      obtain ⟨q, hq⟩ : ∃ q, rdE zs P = q := ⟨_, rfl⟩
      simp only [hm, hs, hq] at s1 s2 s3 s4z s5 s6 s7 s8 s9 s10 s11 HRD
      clear s4
      obtain ⟨L, hL⟩ : ∃ L, slen m s.size = L := ⟨_, rfl⟩
      simp only [hL] at s4z s5 s6 s7 s8
      obtain ⟨p2, hp2⟩ : ∃ p2, p + L = p2 := ⟨_, rfl⟩
      simp only [hp2] at s6 s7
      obtain ⟨P2, hP2⟩ : ∃ P2, P + L = P2 := ⟨_, rfl⟩
      simp only [hP2] at s4z
      subst s4z
      have HPE2 := hide (show a0 + p2 = P2 by have := HPE.out; omega)
      obtain ⟨t2, ht2⟩ : ∃ t2, t + s.size = t2 := ⟨_, rfl⟩
      have HS6 := hide s6
      have HP2L := hide (show P2 = P + L from hP2.symm)
      have hP2n : P2 ≤ n := by have := HPE.out; have := HYL'.out; omega
      have hPP2 : P < P2 := by omega
      have hkp2 : k + 1 ≤ p2 := by omega
      clear s6 hP2
      have HT2 := hide (show t2 = stot ys (k + 1) by rw [s11, ← HT.out]; exact ht2.symm)
      have HP2 := hide s7
      have HC := hide (sg_cells s9 s10)
      rw [← HT2.out] at HL4 HNX
      have hwt : IntKind.i64.wrap ((t : Int) + (s.size : Int)) = (t2 : Int) := by rw [IntWalk.i64_in _ ⟨by omega, by omega⟩]; omega
      clear hb hm hs hq hL s7 s9 s10 s11
      go_wp2_with fail
      refine (HRD.out _ (HI.out.below (HB.out.mono hB)) (Nat.le_trans hB HB.out.size)).mono ?_
      rintro e w1 ⟨rfl, hb1⟩
      have HB1 := hide (HB.out.trans (hb1.mono HB.out.size))
      have HO1 := hide (HO.out.next hb1)
      have HX1 := hide (SBox.start w1 107 m s)
      clear hb1
      obtain ⟨c0, c1⟩ := HX1.out.cells
      by_cases hl4 : 400 < t2
      · have HR := hide (HL4.out hl4)
        have HB2 := hide (fun o => HB1.out.alloc HB1.out.size o)
        go_wp2_with fail
        go_ret2
        exact pg_no HR.out (HB2.out _)
      · have HR := hide (HNX.out hl4)
        have HB2 := hide (HB1.out.alloc HB1.out.size (.cells #[.int .i64 m, .string s] 107))
        have HO2 := hide (HO1.out.next ((Below.refl w1.heap.size w1).alloc (Nat.le_refl _) (.cells #[.int .i64 m, .string s] 107)))
        obtain ⟨wa, hwa⟩ : ∃ wa, w1.alloc (.cells #[.int .i64 m, .string s] 107) = wa := ⟨_, rfl⟩
        rw [hwa] at HX1 HB2 HO2 c0 c1
        go_wp2_with (at_builtin; refine wpList_appSeg rfl wa rfl (.tmp 39) (.tmp 41) rfl rfl HO2.out _ _ HC.out rfl (by omega) HB2.out.size ?_; intro v' w' h1 h2; have HO3 := hide h1; have HB3 := hide (HB2.out.grown h2 HB2.out.size (fun g hg => ((World.ownsRow.lt HO2.out) g hg).1)); clear h1 h2)
        refine ⟨⟨k + 1, p2, t2, f, HP2, HT2, hkp2, HS6.out, by omega, by rw [HPE2.out], rfl, HR, by have := HFL.out; have := HS6.out; have := HPE.out; have := HPE2.out; omega, HO3.out, HB3.out⟩, ?_⟩
        simp [intOf]; omega


/-- The text of the segments of a bit list. -/
noncomputable def txC (ys : List Int) : ByteArray := jn (spT ys) (sgF ys).1
theorem tx_js {ys : List Int} (hbt : ∀ x ∈ ys, x = 0 ∨ x = 1) : (∀ j, j ≤ (sgF ys).1 → (jn (spT ys) j).size ≤ 400) ∧ (∀ j, j < (sgF ys).1 → (spT ys j).size ≤ 255) ∧ jsCode (spM ys) (spT ys) (sgF ys).1 = 0 ∧ (sgF ys).1 ≤ 400 := by
  obtain ⟨f1, f2, f3⟩ := sgF_le hbt
  have hsz : ∀ j, j ≤ (sgF ys).1 → (jn (spT ys) j).size ≤ 400 := fun j hj => by
    rw [jn_stot]
    have := stot_mono ys hj
    omega
  have hrd : ∀ j, j < (sgF ys).1 → rdB ys (spos ys j) = true := fun j hj => f3 j hj
  have hal : slAll (spM ys) (spT ys) (sgF ys).1 := fun j hj => rd_seg hbt (hrd j hj)
  exact ⟨hsz, fun j hj => (rd_nums hbt (hrd j hj)).2.1, (js_ok (sl_ok (by omega) hal).1 (by have := hsz _ (Nat.le_refl _); omega)).1, by omega⟩
noncomputable def msS (ys : List Int) : ByteArray := if (sgF ys).2 = 0 then txC ys else ⟨#[]⟩
theorem msS_yes {ys : List Int} (h : (sgF ys).2 = 0) : msS ys = txC ys := by unfold msS; rw [if_pos h]
theorem msS_no {ys : List Int} (h : (sgF ys).2 ≠ 0) : msS ys = ⟨#[]⟩ := by unfold msS; rw [if_neg h]
theorem ms_size {ys : List Int} (hbt : ∀ x ∈ ys, x = 0 ∨ x = 1) : (msS ys).size ≤ 400 := by
  unfold msS; split
  · exact (tx_js hbt).1 _ (Nat.le_refl _)
  · decide

set_option maxRecDepth 100000 in
set_option maxHeartbeats 1000000 in
theorem implMsgIn (A : Option Addr) (n c B : Nat) (ys : List Int) (w : World) (hI : Ints .i64 w B A n ys) (hB : B ≤ w.heap.size) (hn : n ≤ 8192) (hc : n ≤ c) (hcc : c ≤ 9223372036854775807) (hbt : ∀ x ∈ ys, x = 0 ∨ x = 1) :
    Calls Try.prog 50 #[.slice A n c] w (GivSI (msS ys) (sgF ys).2 w) := by
  obtain ⟨d1, d2, d3, d4⟩ := tx_js hbt
  have HPG := hide (implPg A n c B ys w hI hB hn hc hcc hbt)
  unfold PgPost at HPG
  have HC := hide (fun h => msS_no (ys := ys) h)
  have HY := hide (fun h => msS_yes (ys := ys) h)
  unfold txC at HY
  have HJS := hide (js_out d3)
  obtain ⟨m, hm⟩ : ∃ m, (sgF ys).1 = m := ⟨_, rfl⟩
  obtain ⟨T, hT⟩ : ∃ T, spT ys = T := ⟨_, rfl⟩
  obtain ⟨M, hM⟩ : ∃ M, spM ys = M := ⟨_, rfl⟩
  obtain ⟨cd, hcd⟩ : ∃ cd, (sgF ys).2 = cd := ⟨_, rfl⟩
  simp only [hm, hT, hM, hcd] at HPG HC HY HJS d1 d2 d3 d4
  rw [hcd]
  have D2 := hide d2
  have D3 := hide d3
  clear hI hm hT hM hcd d1 d2 d3
  by_cases h0 : cd = 0
  · subst h0
    rw [HY.out rfl]
    go_enter Try.func50, Try.ntmps50
    go_wp2_with fail
    refine HPG.out.mono ?_
    rintro e w1 ⟨A1, m1, rfl, hm1, hm1', ho1, hb1⟩
    have HB1 := hide hb1
    have HO1 := hide ho1
    clear hb1 ho1
    go_wp2_with fail
    have HJ := hide (implJs A1 m m1 _ M T w1 HO1.out.segs (Nat.le_refl _) (by omega) (fun j hj => by have := D2.out j hj; omega))
    rw [HJS.out, D3.out] at HJ
    refine HJ.out.mono ?_
    rintro e w2 ⟨rfl, hb2⟩
    have HB2 := hide (HB1.out.trans (hb2.mono HB1.out.size))
    clear hb2
    go_wp2_with fail
    go_ret2
    exact ⟨rfl, HB2.out⟩
  · rw [HC.out h0]
    go_enter Try.func50, Try.ntmps50
    go_wp2_with fail
    refine HPG.out.mono ?_
    rintro e w1 ⟨A1, m1, rfl, hm1, hm1', ho1, hb1⟩
    have HB1 := hide hb1
    clear hb1 ho1
    go_wp2_with fail
    go_ret2
    exact ⟨rfl, HB1.out⟩

/-- A head begins. -/
def hdB (ys : List Int) : Bool := decide (3 ≤ ys.length) && decide (numVal (ys.take 3) = 5)
set_option maxRecDepth 100000 in
set_option maxHeartbeats 1000000 in
theorem implBegins (A : Option Addr) (n c B : Nat) (ys : List Int) (w : World) (hI : Ints .i64 w B A n ys) (hn : n ≤ 8192) (hc : n ≤ c) (hcc : c ≤ 9223372036854775807) (hbt : ∀ x ∈ ys, x = 0 ∨ x = 1) :
    Calls Try.prog 47 #[.slice A n c] w fun e w' => e = .returned (.bool (hdB ys)) ∧ w = w' := by
  have hl := hide hI.len
  by_cases h3 : 3 ≤ n
  · have HR := hide (show hdB ys = decide (numVal (ys.take 3) = 5) by unfold hdB; rw [decide_eq_true (show 3 ≤ ys.length by rw [hl.out]; exact h3), Bool.true_and])
    obtain ⟨b, off, rfl, hbb, hcl⟩ := hI.2 (by omega)
    have HC1 := hide (implNumberOf (some ⟨b, off, none⟩) 3 c B (ys.take 3) w (ints_first hI h3) (by omega) (fun x hx => hbt x (List.mem_of_mem_take hx)))
    obtain ⟨M, hM⟩ : ∃ M, numVal (ys.take 3) = M := ⟨_, rfl⟩
    rw [hM] at HC1 HR
    clear hI hcl hM
    have h3c : (3 : Int) ≤ (c : Int) := by omega
    have h3n : (3 : Int) ≤ (n : Int) := by omega
    go_enter Try.func47, Try.ntmps47
    go_wp2_with fail
    refine HC1.out.mono ?_
    rintro e _ ⟨rfl, rfl⟩
    by_cases h5 : M = 5
    · subst h5
      have HE := hide (show hdB ys = true by rw [HR.out]; rfl)
      clear HR
      go_wp2_with fail
      go_ret
      exact ⟨ret_bool HE.out, rfl⟩
    · have HE := hide (show hdB ys = false by rw [HR.out]; simpa using h5)
      have h5' : (M == 5) = false := by simpa using h5
      clear HR
      go_wp2_with fail
      go_ret
      exact ⟨ret_bool HE.out, rfl⟩
  · have HR := hide (show hdB ys = false by unfold hdB; rw [decide_eq_false (show ¬ 3 ≤ ys.length by rw [hl.out]; exact h3), Bool.false_and])
    have h3' : decide ((3 : Int) ≤ (n : Int)) = false := decide_eq_false (by omega)
    clear hI
    go_enter Try.func47, Try.ntmps47
    go_wp2_with fail
    go_ret
    exact ⟨ret_bool HR.out, rfl⟩
end Go.Proofs.Ythbmfaogjaahoaa

namespace Go.Proofs.Ythbmfaogjaahoaa
open Go Go.RowKit
set_option linter.unusedSimpArgs false
set_option linter.unusedVariables false

theorem cells4 {w : World} {b : Nat} {x0 x1 x2 x3 : Value} {t : TypeId} (h : w.heap[b]? = some (.cells #[x0, x1, x2, x3] t (0, 0))) : w.cell? ⟨b, 0, none⟩ = some x0 ∧ w.cell? ⟨b, 1, none⟩ = some x1 ∧ w.cell? ⟨b, 2, none⟩ = some x2 ∧ w.cell? ⟨b, 3, none⟩ = some x3 := by
  refine ⟨?_, ?_, ?_, ?_⟩ <;> simp [World.cell?, h]
/-- Four cells of one block written anew. -/
theorem put4_same {w : World} {b : Nat} {x0 x1 x2 x3 : Value} {t : TypeId} (h : w.heap[b]? = some (.cells #[x0, x1, x2, x3] t (0, 0))) (x : PtV) :
    (setPt w b 0 x).heap[b]? = some (.cells #[.int .i64 x.i, .int .i64 x.c, .int .i64 x.p, .string x.t] t (0, 0)) := by
  have h0 := heap_setCell_same w b 0 _ _ (.int .i64 x.i) h
  have h1 := heap_setCell_same _ b 1 _ _ (.int .i64 x.c) h0
  have h2 := heap_setCell_same _ b 2 _ _ (.int .i64 x.p) h1
  exact heap_setCell_same _ b 3 _ _ (.string x.t) h2
theorem put4_other {w : World} {b k : Nat} (hk : k ≠ b) (x : PtV) : (setPt w b 0 x).heap[k]? = w.heap[k]? := by
  unfold setPt
  rw [heap_setCell_other _ _ _ _ (by simpa using hk), heap_setCell_other _ _ _ _ (by simpa using hk), heap_setCell_other _ _ _ _ (by simpa using hk), heap_setCell_other _ _ _ _ (by simpa using hk)]
theorem put4_below {w0 w : World} {b B : Nat} (h : Below B w0 w) (hb : B ≤ b) (x : PtV) : Below B w0 (setPt w b 0 x) :=
  (((h.setCell (p := ⟨b, 0, none⟩) hb _).setCell (p := ⟨b, 1, none⟩) hb _).setCell (p := ⟨b, 2, none⟩) hb _).setCell (p := ⟨b, 3, none⟩) hb _
theorem Box4.put {w wr : World} {t : TypeId} {i c p : Int} {s : ByteArray} (h : Box4 w wr t i c p s) (x : PtV) : Box4 w (setPt wr w.heap.size 0 x) t x.i x.c x.p x.t := ⟨put4_same h.1 x, put4_below h.2 (Nat.le_refl _) x⟩
/-- The result's block is as it was, and a part lies in the next one. -/
def HpReg (w : World) (i c p : Int) (s5 : Value) (wx : World) : Prop :=
  s5 = .pointer (some ⟨w.heap.size + 1, 0, none⟩) ∧ Box4 w wx 26 0 0 0 ⟨#[]⟩ ∧ wx.heap[w.heap.size + 1]? = some (.cells #[.int .i64 i, .int .i64 c, .int .i64 p, .string ⟨#[]⟩] 26 (0, 0))
theorem hp_fin {w wa : World} {i c p : Int} (h : Box4 w wa 26 0 0 0 ⟨#[]⟩) (hz : wa.heap[w.heap.size + 1]? = some (.cells #[.int .i64 0, .int .i64 0, .int .i64 0, .string ⟨#[]⟩] 26 (0, 0))) :
    HpReg w i c p (.pointer (some ⟨w.heap.size + 1, 0, none⟩)) (setPt wa (w.heap.size + 1) 0 ⟨i, c, p, ⟨#[]⟩⟩) :=
  ⟨rfl, ⟨by rw [put4_other (by omega)]; exact h.1, put4_below h.2 (by omega) _⟩, put4_same hz _⟩

/-- A block reads as a part without a text. -/
def Part4 (w : World) (b : Nat) (i c p : Int) : Prop := w.cell? ⟨b, 0, none⟩ = some (.int .i64 i) ∧ w.cell? ⟨b, 1, none⟩ = some (.int .i64 c) ∧ w.cell? ⟨b, 2, none⟩ = some (.int .i64 p) ∧ w.cell? ⟨b, 3, none⟩ = some (.string ⟨#[]⟩)
theorem part4 {w : World} {b : Nat} {i c p : Int} {t : TypeId} (h : w.heap[b]? = some (.cells #[.int .i64 i, .int .i64 c, .int .i64 p, .string ⟨#[]⟩] t (0, 0))) : Part4 w b i c p := cells4 h
theorem part4_next {w w' : World} {b : Nat} {o : Obj} (h : w.heap[b]? = some o) (hb : Below w.heap.size w w') : w'.heap[b]? = some o := by
  rw [hb.block b (Array.getElem?_eq_some_iff.1 h).1]; exact h
theorem part4_put {w : World} {b b' : Nat} {o : Obj} {x : PtV} (h : w.heap[b]? = some o) (hne : b ≠ b') : (setPt w b' 0 x).heap[b]? = some o := by rw [put4_other hne]; exact h
/-- The numbers of a head. -/
def hdI (ys : List Int) : Int := numVal ((ys.drop 3).take 3)
def hdC (ys : List Int) : Int := numVal ((ys.drop 6).take 3) + 1
def hdP (ys : List Int) : Int := numVal ((ys.drop 9).take 8)
theorem hd_bd {ys : List Int} (hbt : ∀ x ∈ ys, x = 0 ∨ x = 1) : (0 ≤ hdI ys ∧ hdI ys ≤ 7) ∧ (1 ≤ hdC ys ∧ hdC ys ≤ 8) ∧ (0 ≤ hdP ys ∧ hdP ys ≤ 255) := by
  obtain ⟨a1, a2⟩ := num_nat hbt 3 3
  obtain ⟨b1, b2⟩ := num_nat hbt 6 3
  obtain ⟨c1, c2⟩ := num_nat hbt 9 8
  unfold hdI hdC hdP
  omega
theorem hd_pt {ys : List Int} (hbt : ∀ x ∈ ys, x = 0 ∨ x = 1) : isPt ⟨hdI ys, hdC ys, hdP ys, ⟨#[]⟩⟩ = decide (hdI ys < hdC ys) := by
  obtain ⟨h1, h2, h3⟩ := hd_bd hbt
  by_cases h : hdI ys < hdC ys
  · rw [decide_eq_true h]; exact isPt_of ⟨h2, ⟨h1.1, h⟩, h3, show (0 : Nat) ≤ 400 by decide⟩
  · rw [decide_eq_false h]; exact isPt_no fun g => h g.2.1.2

set_option maxRecDepth 100000 in
set_option maxHeartbeats 4000000 in
theorem implHeaded (A : Option Addr) (n c B : Nat) (ys : List Int) (w : World) (hI : Ints .i64 w B A n ys) (hB : B ≤ w.heap.size) (hn : n ≤ 8192) (hc : n ≤ c) (hcc : c ≤ 9223372036854775807) (hbt : ∀ x ∈ ys, x = 0 ∨ x = 1) (h17 : 17 ≤ n) :
    Calls Try.prog 49 #[.slice A n c] w fun e w' => e = .returned (.tuple #[.agg #[.int .i64 (hdI ys), .int .i64 (hdC ys), .int .i64 (hdP ys), .string ⟨#[]⟩], .bool (decide (hdI ys < hdC ys))]) ∧ Below w.heap.size w w' := by
  have HI := hide hI
  have hl := hide hI.len
  obtain ⟨b, off, rfl, hbb, hcl⟩ := hI.2 (by omega)
  obtain ⟨n1, n2, n3⟩ := hd_bd hbt
  have HPT := hide (hd_pt hbt)
  have hc3 : ¬ c = 3 := by omega
  have hcq : ¬ c - 3 = 3 := by omega
  have hcr : ¬ c - 3 = 6 := by omega
  obtain ⟨I, hIe⟩ : ∃ I, hdI ys = I := ⟨_, rfl⟩
  obtain ⟨C2, hCe⟩ : ∃ C2, hdC ys = C2 := ⟨_, rfl⟩
  obtain ⟨Q, hQe⟩ : ∃ Q, hdP ys = Q := ⟨_, rfl⟩
  obtain ⟨C1, hC1⟩ : ∃ C1, C2 = C1 + 1 := ⟨C2 - 1, by omega⟩
  have hw1 : IntKind.i64.wrap (C1 + 1) = C2 := by rw [IntWalk.i64_in _ ⟨by omega, by omega⟩]; omega
  have HC1 := hide (fun wx (hb : Below w.heap.size w wx) => show Calls Try.prog 75 #[.slice (some ⟨b, off + 3, none⟩) 3 (c - 3)] wx (fun e w' => e = .returned (.int .i64 I) ∧ wx = w') by
    have h := HI.out.sub (lo := 3) (m := 3) hc (by omega)
    rw [subA, if_neg hc3, Option.map_some, addr_add] at h
    rw [← hIe]
    exact implNumberOf _ 3 (c - 3) B ((ys.drop 3).take 3) wx (h.below (hb.mono hB)) (by omega) (fun x hx => hbt x (List.mem_of_mem_drop (List.mem_of_mem_take hx))))
  have HC2 := hide (fun wx (hb : Below w.heap.size w wx) => show Calls Try.prog 75 #[.slice (some ⟨b, off + 3 + 3, none⟩) 3 (c - 3 - 3)] wx (fun e w' => e = .returned (.int .i64 C1) ∧ wx = w') by
    have h := HI.out.sub (lo := 6) (m := 3) hc (by omega)
    rw [subA, if_neg (by omega), Option.map_some, addr_add] at h
    rw [show C1 = numVal ((ys.drop 6).take 3) by unfold hdC at hCe; omega, show off + 3 + 3 = off + 6 by omega]
    exact implNumberOf _ 3 (c - 3 - 3) B ((ys.drop 6).take 3) wx (h.below (hb.mono hB)) (by omega) (fun x hx => hbt x (List.mem_of_mem_drop (List.mem_of_mem_take hx))))
  have HC3 := hide (fun wx (hb : Below w.heap.size w wx) => show Calls Try.prog 75 #[.slice (some ⟨b, off + 3 + 6, none⟩) 8 (c - 3 - 6)] wx (fun e w' => e = .returned (.int .i64 Q) ∧ wx = w') by
    have h := HI.out.sub (lo := 9) (m := 8) hc (by omega)
    rw [subA, if_neg (by omega), Option.map_some, addr_add] at h
    rw [← hQe, show off + 3 + 6 = off + 9 by omega]
    exact implNumberOf _ 8 (c - 3 - 6) B ((ys.drop 9).take 8) wx (h.below (hb.mono hB)) (by omega) (fun x hx => hbt x (List.mem_of_mem_drop (List.mem_of_mem_take hx))))
  rw [hIe, hCe, hQe] at HPT ⊢
  have HV := hide (fun wx => implIsVal I C2 Q ⟨#[]⟩ (by decide) (by omega) wx)
  rw [HPT.out] at HV
  have HX := hide (Box4.start w 26 0 0 0 ⟨#[]⟩)
  have h17c : (17 : Int) ≤ (c : Int) := by omega
  have h17n : (17 : Int) ≤ (n : Int) := by omega
  have hn17 : ¬ (n : Int) < 17 := by omega
  have h14 : (14 : Int) ≤ ((c - 3 : Nat) : Int) := by omega
  have h3cc : (3 : Int) ≤ ((c - 3 : Nat) : Int) := by omega
  have h6cc : (6 : Int) ≤ ((c - 3 : Nat) : Int) := by omega
  clear hI hcl hIe hCe hQe hC1 hbt n1 n2 n3 HPT
  obtain ⟨bb, hbb2⟩ : ∃ bb, decide (I < C2) = bb := ⟨_, rfl⟩
  rw [hbb2] at HV ⊢
  clear hbb2
  go_enter Try.func49, Try.ntmps49
  go_upto_region 4 with fail
  go_cut [5] from 12 to 22 (fun s5 wx => HpReg w I C2 Q s5 wx)
  case first =>
    refine tail_begin (fun _ => True) 13 (by kernel_rfl) trivial (fun hS' => ?_)
    have HW := hide HX.out.drew
    have HSZ := hide (show ((w.alloc (.cells #[.int .i64 0, .int .i64 0, .int .i64 0, .string ⟨#[]⟩] 26)).drew).heap.size = w.heap.size + 1 from alloc_size _ _)
    obtain ⟨wd, hwd⟩ : ∃ wd, (w.alloc (.cells #[.int .i64 0, .int .i64 0, .int .i64 0, .string ⟨#[]⟩] 26)).drew = wd := ⟨_, rfl⟩
    rw [hwd] at HW HSZ ⊢
    clear hwd
    refine tail_take2 0 rfl (by kernel_rfl) (by kernel_rfl) (by kernel_rfl) (by decide) (fun _ _ _ h => h) (by rfl) (v := ?_) ?_ (by assumption) ?_
    rotate_left 1
    · intro w' hS'; (try dsimp only at hS'); go_simp; try with_reducible rfl
    try simp only [Act.put, List.setIfInBounds_toArray, List.set_cons_zero, List.set_cons_succ]
    refine tail_take2 1 rfl (by kernel_rfl) (by kernel_rfl) (by kernel_rfl) (by decide) (fun _ _ _ h => h) (by rfl) (v := ?_) ?_ (by assumption) ?_
    rotate_left 1
    · intro w' hS'; (try dsimp only at hS'); go_simp; try with_reducible rfl
    try simp only [Act.put, List.setIfInBounds_toArray, List.set_cons_zero, List.set_cons_succ]
    refine tail_take2 3 rfl (by kernel_rfl) (by kernel_rfl) (by kernel_rfl) (by decide) (fun _ _ _ h => h) (by rfl) (v := ?_) ?_ (by assumption) ?_
    rotate_left 1
    · intro w' hS'; (try dsimp only at hS'); go_simp; try with_reducible rfl
    try simp only [Act.put, List.setIfInBounds_toArray, List.set_cons_zero, List.set_cons_succ]
    refine tail_take2 4 rfl (by kernel_rfl) (by kernel_rfl) (by kernel_rfl) (by decide) (fun _ _ _ h => h) (by rfl) (v := ?_) ?_ (by assumption) ?_
    rotate_left 1
    · intro w' hS'; (try dsimp only at hS'); go_simp; try with_reducible rfl
    try simp only [Act.put, List.setIfInBounds_toArray, List.set_cons_zero, List.set_cons_succ]
    refine tail_take2 7 rfl (by kernel_rfl) (by kernel_rfl) (by kernel_rfl) (by decide) (fun _ _ _ h => h) (by rfl) (v := ?_) ?_ (by assumption) ?_
    rotate_left 1
    · intro w' hS'; (try dsimp only at hS'); go_simp; try with_reducible rfl
    try simp only [Act.put, List.setIfInBounds_toArray, List.set_cons_zero, List.set_cons_succ]
    refine tail_take2 8 rfl (by kernel_rfl) (by kernel_rfl) (by kernel_rfl) (by decide) (fun _ _ _ h => h) (by rfl) (v := ?_) ?_ (by assumption) ?_
    rotate_left 1
    · intro w' hS'; (try dsimp only at hS'); go_simp; try with_reducible rfl
    try simp only [Act.put, List.setIfInBounds_toArray, List.set_cons_zero, List.set_cons_succ]
    refine tail_two 2 11 rfl rfl (by kernel_rfl) rfl rfl (fun K' hK => ?_) (fun K' hK => ?_)
    · skip
      go_simp
      go_at_call 75
      refine (HC1.out wd (by first | exact HW.out.2 | exact HWa.out.2)).mono ?_
      rintro e wz ⟨rfl, hwz⟩
      rw [← hwz]
      clear hwz
      refine hK.out _ _ trivial (fun hS' => ?_)
      clear hK K'
      try simp only [Act.put, List.setIfInBounds_toArray, List.set_cons_zero, List.set_cons_succ]
      refine tail_two 5 11 rfl rfl (by kernel_rfl) rfl rfl (fun K' hK => ?_) (fun K' hK => ?_)
      · skip
        go_simp
        go_at_call 75
        refine (HC2.out wd (by first | exact HW.out.2 | exact HWa.out.2)).mono ?_
        rintro e wz ⟨rfl, hwz⟩
        rw [← hwz]
        clear hwz
        refine hK.out _ _ trivial (fun hS' => ?_)
        clear hK K'
        try simp only [Act.put, List.setIfInBounds_toArray, List.set_cons_zero, List.set_cons_succ]
        refine tail_take2 6 rfl (by kernel_rfl) (by kernel_rfl) (by kernel_rfl) (by decide) (fun _ _ _ h => h) (by rfl) (v := ?_) ?_ (by assumption) ?_
        rotate_left 1
        · intro w' hS'; (try dsimp only at hS'); go_simp; try with_reducible rfl
        try simp only [Act.put, List.setIfInBounds_toArray, List.set_cons_zero, List.set_cons_succ]
        refine tail_two 9 11 rfl rfl (by kernel_rfl) rfl rfl (fun K' hK => ?_) (fun K' hK => ?_)
        · skip
          go_simp
          go_at_call 75
          refine (HC3.out wd (by first | exact HW.out.2 | exact HWa.out.2)).mono ?_
          rintro e wz ⟨rfl, hwz⟩
          rw [← hwz]
          clear hwz
          refine hK.out _ _ trivial (fun hS' => ?_)
          clear hK K'
          try simp only [Act.put, List.setIfInBounds_toArray, List.set_cons_zero, List.set_cons_succ]
          refine tail_take2 10 rfl (by kernel_rfl) (by kernel_rfl) (by kernel_rfl) (by decide) (fun _ _ _ h => h) (by rfl) (v := ?_) ?_ (by assumption) ?_
          rotate_left 1
          · intro w' hS'; (try dsimp only at hS'); go_simp; try with_reducible rfl
          try simp only [Act.put, List.setIfInBounds_toArray, List.set_cons_zero, List.set_cons_succ]
          refine tail_call 11 rfl (by kernel_rfl) rfl (fun K' hK => ?_)
          go_simp
          refine hK.out _ _ trivial (fun hS' => ?_)
          clear hK K'
          try simp only [Act.put, List.setIfInBounds_toArray, List.set_cons_zero, List.set_cons_succ]
          obtain ⟨wa, hwa⟩ : ∃ wa, wd.alloc (.cells #[.int .i64 0, .int .i64 0, .int .i64 0, .string ⟨#[]⟩] 26) = wa := ⟨_, rfl⟩
          have hza : wa.heap[w.heap.size + 1]? = some (.cells #[.int .i64 0, .int .i64 0, .int .i64 0, .string ⟨#[]⟩] 26 (0, 0)) := by rw [← hwa, ← HSZ.out]; exact heap_alloc_new wd _
          have HWa := hide (show Box4 w wa 26 0 0 0 ⟨#[]⟩ by rw [← hwa]; exact HW.out.alloc _)
          rw [hwa, HSZ.out]
          clear hwa
          have HZA := hide hza
          obtain ⟨z0, z1, z2, z3⟩ := cells4 hza
          have g0 := frozen_of_row wa (w.heap.size + 1) 0 _ _ hza
          have g1 := frozen_of_row wa (w.heap.size + 1) 1 _ _ hza
          have g2 := frozen_of_row wa (w.heap.size + 1) 2 _ _ hza
          have g3 := frozen_of_row wa (w.heap.size + 1) 3 _ _ hza
          have HF := hide (hp_fin (i := I) (c := C2) (p := Q) HWa.out hza)
          clear hza
          refine tail_call 12 rfl (by kernel_rfl) rfl (fun K' hK => ?_)
          go_simp
          refine hK.out _ _ trivial (fun hS' => ?_)
          clear hK K'
          try simp only [Act.put, List.setIfInBounds_toArray, List.set_cons_zero, List.set_cons_succ]
          refine tail_end (by kernel_rfl) ?_
          (try go_wp2_with fail)
          go_meet
          exact HF.out
        · skip
          go_simp
          refine hK.out _ _ trivial (fun hS' => ?_)
          clear hK K'
          try simp only [Act.put, List.setIfInBounds_toArray, List.set_cons_zero, List.set_cons_succ]
          obtain ⟨wa, hwa⟩ : ∃ wa, wd.alloc (.cells #[.int .i64 0, .int .i64 0, .int .i64 0, .string ⟨#[]⟩] 26) = wa := ⟨_, rfl⟩
          have hza : wa.heap[w.heap.size + 1]? = some (.cells #[.int .i64 0, .int .i64 0, .int .i64 0, .string ⟨#[]⟩] 26 (0, 0)) := by rw [← hwa, ← HSZ.out]; exact heap_alloc_new wd _
          have HWa := hide (show Box4 w wa 26 0 0 0 ⟨#[]⟩ by rw [← hwa]; exact HW.out.alloc _)
          rw [hwa, HSZ.out]
          clear hwa
          refine tail_call 9 rfl (by kernel_rfl) rfl (fun K' hK => ?_)
          go_simp
          go_at_call 75
          refine (HC3.out wa (by first | exact HW.out.2 | exact HWa.out.2)).mono ?_
          rintro e wz ⟨rfl, hwz⟩
          rw [← hwz]
          clear hwz
          refine hK.out _ _ trivial (fun hS' => ?_)
          clear hK K'
          try simp only [Act.put, List.setIfInBounds_toArray, List.set_cons_zero, List.set_cons_succ]
          refine tail_take2 10 rfl (by kernel_rfl) (by kernel_rfl) (by kernel_rfl) (by decide) (fun _ _ _ h => h) (by rfl) (v := ?_) ?_ (by assumption) ?_
          rotate_left 1
          · intro w' hS'; (try dsimp only at hS'); go_simp; try with_reducible rfl
          try simp only [Act.put, List.setIfInBounds_toArray, List.set_cons_zero, List.set_cons_succ]
          have HZA := hide hza
          obtain ⟨z0, z1, z2, z3⟩ := cells4 hza
          have g0 := frozen_of_row wa (w.heap.size + 1) 0 _ _ hza
          have g1 := frozen_of_row wa (w.heap.size + 1) 1 _ _ hza
          have g2 := frozen_of_row wa (w.heap.size + 1) 2 _ _ hza
          have g3 := frozen_of_row wa (w.heap.size + 1) 3 _ _ hza
          have HF := hide (hp_fin (i := I) (c := C2) (p := Q) HWa.out hza)
          clear hza
          refine tail_call 12 rfl (by kernel_rfl) rfl (fun K' hK => ?_)
          go_simp
          refine hK.out _ _ trivial (fun hS' => ?_)
          clear hK K'
          try simp only [Act.put, List.setIfInBounds_toArray, List.set_cons_zero, List.set_cons_succ]
          refine tail_end (by kernel_rfl) ?_
          (try go_wp2_with fail)
          go_meet
          exact HF.out
      · skip
        go_simp
        refine hK.out _ _ trivial (fun hS' => ?_)
        clear hK K'
        try simp only [Act.put, List.setIfInBounds_toArray, List.set_cons_zero, List.set_cons_succ]
        obtain ⟨wa, hwa⟩ : ∃ wa, wd.alloc (.cells #[.int .i64 0, .int .i64 0, .int .i64 0, .string ⟨#[]⟩] 26) = wa := ⟨_, rfl⟩
        have hza : wa.heap[w.heap.size + 1]? = some (.cells #[.int .i64 0, .int .i64 0, .int .i64 0, .string ⟨#[]⟩] 26 (0, 0)) := by rw [← hwa, ← HSZ.out]; exact heap_alloc_new wd _
        have HWa := hide (show Box4 w wa 26 0 0 0 ⟨#[]⟩ by rw [← hwa]; exact HW.out.alloc _)
        rw [hwa, HSZ.out]
        clear hwa
        refine tail_call 5 rfl (by kernel_rfl) rfl (fun K' hK => ?_)
        go_simp
        go_at_call 75
        refine (HC2.out wa (by first | exact HW.out.2 | exact HWa.out.2)).mono ?_
        rintro e wz ⟨rfl, hwz⟩
        rw [← hwz]
        clear hwz
        refine hK.out _ _ trivial (fun hS' => ?_)
        clear hK K'
        try simp only [Act.put, List.setIfInBounds_toArray, List.set_cons_zero, List.set_cons_succ]
        refine tail_take2 6 rfl (by kernel_rfl) (by kernel_rfl) (by kernel_rfl) (by decide) (fun _ _ _ h => h) (by rfl) (v := ?_) ?_ (by assumption) ?_
        rotate_left 1
        · intro w' hS'; (try dsimp only at hS'); go_simp; try with_reducible rfl
        try simp only [Act.put, List.setIfInBounds_toArray, List.set_cons_zero, List.set_cons_succ]
        refine tail_call 9 rfl (by kernel_rfl) rfl (fun K' hK => ?_)
        go_simp
        go_at_call 75
        refine (HC3.out wa (by first | exact HW.out.2 | exact HWa.out.2)).mono ?_
        rintro e wz ⟨rfl, hwz⟩
        rw [← hwz]
        clear hwz
        refine hK.out _ _ trivial (fun hS' => ?_)
        clear hK K'
        try simp only [Act.put, List.setIfInBounds_toArray, List.set_cons_zero, List.set_cons_succ]
        refine tail_take2 10 rfl (by kernel_rfl) (by kernel_rfl) (by kernel_rfl) (by decide) (fun _ _ _ h => h) (by rfl) (v := ?_) ?_ (by assumption) ?_
        rotate_left 1
        · intro w' hS'; (try dsimp only at hS'); go_simp; try with_reducible rfl
        try simp only [Act.put, List.setIfInBounds_toArray, List.set_cons_zero, List.set_cons_succ]
        have HZA := hide hza
        obtain ⟨z0, z1, z2, z3⟩ := cells4 hza
        have g0 := frozen_of_row wa (w.heap.size + 1) 0 _ _ hza
        have g1 := frozen_of_row wa (w.heap.size + 1) 1 _ _ hza
        have g2 := frozen_of_row wa (w.heap.size + 1) 2 _ _ hza
        have g3 := frozen_of_row wa (w.heap.size + 1) 3 _ _ hza
        have HF := hide (hp_fin (i := I) (c := C2) (p := Q) HWa.out hza)
        clear hza
        refine tail_call 12 rfl (by kernel_rfl) rfl (fun K' hK => ?_)
        go_simp
        refine hK.out _ _ trivial (fun hS' => ?_)
        clear hK K'
        try simp only [Act.put, List.setIfInBounds_toArray, List.set_cons_zero, List.set_cons_succ]
        refine tail_end (by kernel_rfl) ?_
        (try go_wp2_with fail)
        go_meet
        exact HF.out
    · skip
      go_simp
      refine hK.out _ _ trivial (fun hS' => ?_)
      clear hK K'
      try simp only [Act.put, List.setIfInBounds_toArray, List.set_cons_zero, List.set_cons_succ]
      obtain ⟨wa, hwa⟩ : ∃ wa, wd.alloc (.cells #[.int .i64 0, .int .i64 0, .int .i64 0, .string ⟨#[]⟩] 26) = wa := ⟨_, rfl⟩
      have hza : wa.heap[w.heap.size + 1]? = some (.cells #[.int .i64 0, .int .i64 0, .int .i64 0, .string ⟨#[]⟩] 26 (0, 0)) := by rw [← hwa, ← HSZ.out]; exact heap_alloc_new wd _
      have HWa := hide (show Box4 w wa 26 0 0 0 ⟨#[]⟩ by rw [← hwa]; exact HW.out.alloc _)
      rw [hwa, HSZ.out]
      clear hwa
      refine tail_call 2 rfl (by kernel_rfl) rfl (fun K' hK => ?_)
      go_simp
      go_at_call 75
      refine (HC1.out wa (by first | exact HW.out.2 | exact HWa.out.2)).mono ?_
      rintro e wz ⟨rfl, hwz⟩
      rw [← hwz]
      clear hwz
      refine hK.out _ _ trivial (fun hS' => ?_)
      clear hK K'
      try simp only [Act.put, List.setIfInBounds_toArray, List.set_cons_zero, List.set_cons_succ]
      refine tail_call 5 rfl (by kernel_rfl) rfl (fun K' hK => ?_)
      go_simp
      go_at_call 75
      refine (HC2.out wa (by first | exact HW.out.2 | exact HWa.out.2)).mono ?_
      rintro e wz ⟨rfl, hwz⟩
      rw [← hwz]
      clear hwz
      refine hK.out _ _ trivial (fun hS' => ?_)
      clear hK K'
      try simp only [Act.put, List.setIfInBounds_toArray, List.set_cons_zero, List.set_cons_succ]
      refine tail_take2 6 rfl (by kernel_rfl) (by kernel_rfl) (by kernel_rfl) (by decide) (fun _ _ _ h => h) (by rfl) (v := ?_) ?_ (by assumption) ?_
      rotate_left 1
      · intro w' hS'; (try dsimp only at hS'); go_simp; try with_reducible rfl
      try simp only [Act.put, List.setIfInBounds_toArray, List.set_cons_zero, List.set_cons_succ]
      refine tail_call 9 rfl (by kernel_rfl) rfl (fun K' hK => ?_)
      go_simp
      go_at_call 75
      refine (HC3.out wa (by first | exact HW.out.2 | exact HWa.out.2)).mono ?_
      rintro e wz ⟨rfl, hwz⟩
      rw [← hwz]
      clear hwz
      refine hK.out _ _ trivial (fun hS' => ?_)
      clear hK K'
      try simp only [Act.put, List.setIfInBounds_toArray, List.set_cons_zero, List.set_cons_succ]
      refine tail_take2 10 rfl (by kernel_rfl) (by kernel_rfl) (by kernel_rfl) (by decide) (fun _ _ _ h => h) (by rfl) (v := ?_) ?_ (by assumption) ?_
      rotate_left 1
      · intro w' hS'; (try dsimp only at hS'); go_simp; try with_reducible rfl
      try simp only [Act.put, List.setIfInBounds_toArray, List.set_cons_zero, List.set_cons_succ]
      have HZA := hide hza
      obtain ⟨z0, z1, z2, z3⟩ := cells4 hza
      have g0 := frozen_of_row wa (w.heap.size + 1) 0 _ _ hza
      have g1 := frozen_of_row wa (w.heap.size + 1) 1 _ _ hza
      have g2 := frozen_of_row wa (w.heap.size + 1) 2 _ _ hza
      have g3 := frozen_of_row wa (w.heap.size + 1) 3 _ _ hza
      have HF := hide (hp_fin (i := I) (c := C2) (p := Q) HWa.out hza)
      clear hza
      refine tail_call 12 rfl (by kernel_rfl) rfl (fun K' hK => ?_)
      go_simp
      refine hK.out _ _ trivial (fun hS' => ?_)
      clear hK K'
      try simp only [Act.put, List.setIfInBounds_toArray, List.set_cons_zero, List.set_cons_succ]
      refine tail_end (by kernel_rfl) ?_
      (try go_wp2_with fail)
      go_meet
      exact HF.out
  case rest =>
    obtain ⟨rfl, hx1, hx2⟩ := hcut
    have HXr := hide hx1
    have HXd := hide hx1.drew
    have HP := hide (show wc.drew.heap[w.heap.size + 1]? = some (.cells #[.int .i64 I, .int .i64 C2, .int .i64 Q, .string ⟨#[]⟩] 26 (0, 0)) from hx2)
    clear hx1 hx2
    go_wp2_with fail
    refine tail_begin (fun w' => Part4 w' (w.heap.size + 1) I C2 Q) 13 (by kernel_rfl) (part4 HP.out) (fun hS' => ?_)
    obtain ⟨wd, hwd⟩ : ∃ wd, wc.drew = wd := ⟨_, rfl⟩
    rw [hwd] at HXd HP hS' ⊢
    clear hwd
    refine tail_take2 0 rfl (by kernel_rfl) (by kernel_rfl) (by kernel_rfl) (by decide) (fun _ _ _ h => h) (by rfl) (v := ?_) ?_ (by assumption) ?_
    rotate_left 1
    · intro w' hS'; (try dsimp only at hS'); obtain ⟨q0, q1, q2, q3⟩ := hS'; go_simp; try with_reducible rfl
    try simp only [Act.put, List.setIfInBounds_toArray, List.set_cons_zero, List.set_cons_succ]
    refine tail_take2 1 rfl (by kernel_rfl) (by kernel_rfl) (by kernel_rfl) (by decide) (fun _ _ _ h => h) (by rfl) (v := ?_) ?_ (by assumption) ?_
    rotate_left 1
    · intro w' hS'; (try dsimp only at hS'); obtain ⟨q0, q1, q2, q3⟩ := hS'; go_simp; try with_reducible rfl
    try simp only [Act.put, List.setIfInBounds_toArray, List.set_cons_zero, List.set_cons_succ]
    refine tail_call 2 rfl (by kernel_rfl) rfl (fun K' hK => ?_)
    go_simp
    go_at_call 41
    refine (HV.out _).mono ?_
    rintro e w2 ⟨rfl, hb2⟩
    have HX2 := hide (HXd.out.next hb2)
    have HP2 := hide (part4_next HP.out hb2)
    clear hb2
    refine hK.out _ _ (by exact part4 HP2.out) (fun hS' => ?_)
    clear hK K'
    try simp only [Act.put, List.setIfInBounds_toArray, List.set_cons_zero, List.set_cons_succ]
    obtain ⟨z0, z1, z2, z3⟩ := HX2.out.cells
    have g0 := frozen_of_row w2 w.heap.size 0 _ _ HX2.out.1
    have g1 := frozen_of_row w2 w.heap.size 1 _ _ HX2.out.1
    have g2 := frozen_of_row w2 w.heap.size 2 _ _ HX2.out.1
    have g3 := frozen_of_row w2 w.heap.size 3 _ _ HX2.out.1
    have HXp := hide (HX2.out.put ⟨I, C2, Q, ⟨#[]⟩⟩)
    have HPP := hide (part4 (part4_put HP2.out (x := ⟨I, C2, Q, ⟨#[]⟩⟩) (b' := w.heap.size) (by omega)))
    refine tail_call 3 rfl (by kernel_rfl) rfl (fun K' hK => ?_)
    go_simp
    refine hK.out _ _ HPP.out (fun hS' => ?_)
    clear hK K' z0 z1 z2 z3 g0 g1 g2 g3
    try simp only [Act.put, List.setIfInBounds_toArray, List.set_cons_zero, List.set_cons_succ]
    refine tail_take2 4 rfl (by kernel_rfl) (by kernel_rfl) (by kernel_rfl) (by decide) (fun _ _ _ h => h) (by rfl) (v := ?_) ?_ (by assumption) ?_
    rotate_left 1
    · intro w' hS'; go_simp; try with_reducible rfl
    try simp only [Act.put, List.setIfInBounds_toArray, List.set_cons_zero, List.set_cons_succ]
    refine tail_end (by kernel_rfl) ?_
    obtain ⟨d0, d1, d2, d3⟩ := HXp.out.cells
    unfold setPt at d0 d1 d2 d3
    simp only at d0 d1 d2 d3
    clear hS'
    (try go_wp2_with fail)
    exact bodyPost_ret (v := .tuple #[.agg #[.int .i64 I, .int .i64 C2, .int .i64 Q, .string ⟨#[]⟩], .bool bb]) (by simp [results, Try.results49, go_sem, d0, d1, d2, d3]) rfl ⟨rfl, HXp.out.2⟩
end Go.Proofs.Ythbmfaogjaahoaa

namespace Go.Proofs.Ythbmfaogjaahoaa
open Go Go.RowKit
set_option linter.unusedSimpArgs false
set_option linter.unusedVariables false

/-- A part and a code are returned. -/
def GivPC (x : PtV) (c : Int) (w : World) (e : Ending) (w' : World) : Prop := e = .returned (.tuple #[.agg #[.int .i64 x.i, .int .i64 x.c, .int .i64 x.p, .string x.t], .int .i64 c]) ∧ Below w.heap.size w w'
theorem Box4.text {w wr : World} {t : TypeId} {i c p : Int} {s : ByteArray} (h : Box4 w wr t i c p s) (s' : ByteArray) : Box4 w (wr.setCell ⟨w.heap.size, 3, none⟩ (.string s')) t i c p s' :=
  ⟨heap_setCell_same wr w.heap.size 3 _ _ (.string s') h.1, h.2.setCell (p := ⟨w.heap.size, 3, none⟩) (Nat.le_refl _) _⟩
theorem Box4.other {w wr : World} {t : TypeId} {i c p : Int} {s : ByteArray} {b : Nat} (h : Box4 w wr t i c p s) (hb : w.heap.size < b) (j : Nat) (v : Value) : Box4 w (wr.setCell ⟨b, j, none⟩ v) t i c p s :=
  ⟨by rw [heap_setCell_other wr ⟨b, j, none⟩ _ _ (by show w.heap.size ≠ b; omega)]; exact h.1, h.2.setCell (p := ⟨b, j, none⟩) (Nat.le_of_lt hb) _⟩
/-- The part of a bit list without a head, and with one. -/
noncomputable def whX (ys : List Int) : PtV := if (sgF ys).2 = 0 then ⟨0, 1, parI (bytesI (txC ys)), txC ys⟩ else PtV.zero
noncomputable def hdX (ys : List Int) : PtV := if (sgF (ys.drop 17)).2 = 0 then ⟨hdI ys, hdC ys, hdP ys, txC (ys.drop 17)⟩ else PtV.zero
theorem whX_yes {ys : List Int} (h : (sgF ys).2 = 0) : whX ys = ⟨0, 1, parI (bytesI (txC ys)), txC ys⟩ := by unfold whX; rw [if_pos h]
theorem whX_no {ys : List Int} (h : (sgF ys).2 ≠ 0) : whX ys = PtV.zero := by unfold whX; rw [if_neg h]
theorem hdX_yes {ys : List Int} (h : (sgF (ys.drop 17)).2 = 0) : hdX ys = ⟨hdI ys, hdC ys, hdP ys, txC (ys.drop 17)⟩ := by unfold hdX; rw [if_pos h]
theorem hdX_no {ys : List Int} (h : (sgF (ys.drop 17)).2 ≠ 0) : hdX ys = PtV.zero := by unfold hdX; rw [if_neg h]
def hdOk (ys : List Int) : Prop := 17 ≤ ys.length ∧ hdI ys < hdC ys
open Classical in
noncomputable def dtK (c0 : Int) (ys : List Int) : Int := if c0 = 0 then (if hdB ys = true then (if hdOk ys then (sgF (ys.drop 17)).2 else 6) else (sgF ys).2) else c0
open Classical in
noncomputable def dtX (c0 : Int) (ys : List Int) : PtV := if c0 = 0 then (if hdB ys = true then (if hdOk ys then hdX ys else PtV.zero) else whX ys) else PtV.zero
theorem dt_bad {c0 : Int} (ys : List Int) (h : c0 ≠ 0) : dtK c0 ys = c0 ∧ dtX c0 ys = PtV.zero := by unfold dtK dtX; rw [if_neg h, if_neg h]; exact ⟨rfl, rfl⟩
theorem dt_whole {ys : List Int} (h : hdB ys = false) : dtK 0 ys = (sgF ys).2 ∧ dtX 0 ys = whX ys := by unfold dtK dtX; rw [if_pos rfl, if_pos rfl, h]; exact ⟨rfl, rfl⟩
theorem dt_head {ys : List Int} (h : hdB ys = true) (h2 : hdOk ys) : dtK 0 ys = (sgF (ys.drop 17)).2 ∧ dtX 0 ys = hdX ys := by unfold dtK dtX; rw [if_pos rfl, if_pos rfl, h, if_pos rfl, if_pos rfl, if_pos h2, if_pos h2]; exact ⟨rfl, rfl⟩
theorem dt_no {ys : List Int} (h : hdB ys = true) (h2 : ¬ hdOk ys) : dtK 0 ys = 6 ∧ dtX 0 ys = PtV.zero := by unfold dtK dtX; rw [if_pos rfl, if_pos rfl, h, if_pos rfl, if_pos rfl, if_neg h2, if_neg h2]; exact ⟨rfl, rfl⟩

set_option maxRecDepth 100000 in
set_option maxHeartbeats 1000000 in
theorem implWhole (A : Option Addr) (n c B : Nat) (ys : List Int) (w : World) (hI : Ints .i64 w B A n ys) (hB : B ≤ w.heap.size) (hn : n ≤ 8192) (hc : n ≤ c) (hcc : c ≤ 9223372036854775807) (hbt : ∀ x ∈ ys, x = 0 ∨ x = 1) :
    Calls Try.prog 48 #[.slice A n c] w (GivPC (whX ys) (sgF ys).2 w) := by
  have HX := hide (Box4.start w 26 0 0 0 ⟨#[]⟩)
  have HMI := hide (implMsgIn A n c B ys _ (hI.below (HX.out.2.mono hB)) (Nat.le_trans hB HX.out.2.size) hn hc hcc hbt)
  have HSZ := hide (ms_size hbt)
  have HY := hide (fun h => whX_yes (ys := ys) h)
  have HN := hide (fun h => whX_no (ys := ys) h)
  have HMY := hide (fun h => msS_yes (ys := ys) h)
  obtain ⟨K, hK⟩ : ∃ K, (sgF ys).2 = K := ⟨_, rfl⟩
  obtain ⟨s, hs⟩ : ∃ s, msS ys = s := ⟨_, rfl⟩
  obtain ⟨t, ht⟩ : ∃ t, txC ys = t := ⟨_, rfl⟩
  rw [hs, hK] at HMI
  rw [hK, ht] at HY
  rw [hK] at HN
  rw [hK, hs, ht] at HMY
  rw [hs] at HSZ
  have hsz := HSZ.out
  rw [hK]
  clear hI hK hs ht
  by_cases h0 : K = 0
  · subst h0
    rw [HY.out rfl]
    obtain rfl := HMY.out rfl
    have HPA := hide (fun w => implPar s (by omega) w)
    obtain ⟨q, hq⟩ : ∃ q, parI (bytesI s) = q := ⟨_, rfl⟩
    rw [hq] at HPA ⊢
    clear hq
    go_enter Try.func48, Try.ntmps48
    go_wp2_with fail
    refine HMI.out.mono ?_
    rintro e w1 ⟨rfl, hb1⟩
    have HX1 := hide (HX.out.next hb1)
    clear hb1
    go_wp2_with fail
    refine (HPA.out _).mono ?_
    rintro e _ ⟨rfl, rfl⟩
    obtain ⟨z0, z1, z2, z3⟩ := HX1.out.cells
    have g0 := frozen_of_row w1 w.heap.size 0 _ _ HX1.out.1
    have g1 := frozen_of_row w1 w.heap.size 1 _ _ HX1.out.1
    have g2 := frozen_of_row w1 w.heap.size 2 _ _ HX1.out.1
    have g3 := frozen_of_row w1 w.heap.size 3 _ _ HX1.out.1
    have HXp := hide (HX1.out.put ⟨0, 1, q, s⟩)
    obtain ⟨d0, d1, d2, d3⟩ := HXp.out.cells
    unfold setPt at d0 d1 d2 d3
    simp only at d0 d1 d2 d3
    go_wp2_with fail
    exact bodyPost_ret (v := .tuple #[.agg #[.int .i64 0, .int .i64 1, .int .i64 q, .string s], .int .i64 0]) (by simp [results, Try.results48, go_sem, d0, d1, d2, d3]) rfl ⟨rfl, HXp.out.2⟩
  · rw [HN.out h0]
    go_enter Try.func48, Try.ntmps48
    go_wp2_with fail
    refine HMI.out.mono ?_
    rintro e w1 ⟨rfl, hb1⟩
    have HX1 := hide (HX.out.next hb1)
    clear hb1
    obtain ⟨z0, z1, z2, z3⟩ := HX1.out.cells
    have g0 := frozen_of_row w1 w.heap.size 0 _ _ HX1.out.1
    have g1 := frozen_of_row w1 w.heap.size 1 _ _ HX1.out.1
    have g2 := frozen_of_row w1 w.heap.size 2 _ _ HX1.out.1
    have g3 := frozen_of_row w1 w.heap.size 3 _ _ HX1.out.1
    have HXp := hide (HX1.out.put ⟨0, 0, 0, ⟨#[]⟩⟩)
    obtain ⟨d0, d1, d2, d3⟩ := HXp.out.cells
    unfold setPt at d0 d1 d2 d3
    simp only at d0 d1 d2 d3
    go_wp2_with fail
    exact bodyPost_ret (v := .tuple #[.agg #[.int .i64 0, .int .i64 0, .int .i64 0, .string ⟨#[]⟩], .int .i64 K]) (by simp [results, Try.results48, go_sem, d0, d1, d2, d3]) rfl ⟨rfl, HXp.out.2⟩

set_option maxRecDepth 100000 in
set_option maxHeartbeats 1000000 in
theorem implHeaded_no (A : Option Addr) (n c : Nat) (w : World) (h17 : n < 17) :
    Calls Try.prog 49 #[.slice A n c] w fun e w' => e = .returned (.tuple #[.agg #[.int .i64 0, .int .i64 0, .int .i64 0, .string ⟨#[]⟩], .bool false]) ∧ Below w.heap.size w w' := by
  have HX := hide (Box4.start w 26 0 0 0 ⟨#[]⟩)
  obtain ⟨d0, d1, d2, d3⟩ := HX.out.cells
  go_enter Try.func49, Try.ntmps49
  go_wp2_with fail
  exact bodyPost_ret (v := .tuple #[.agg #[.int .i64 0, .int .i64 0, .int .i64 0, .string ⟨#[]⟩], .bool false]) (by simp [results, Try.results49, go_sem, d0, d1, d2, d3]) rfl ⟨rfl, HX.out.2⟩


set_option maxRecDepth 100000 in
set_option maxHeartbeats 2000000 in
theorem implDPt {p k g : Int} {c0 : Int} {ys : List Int} (A : Option Addr) (n c B : Nat) (zs : List Int) (w : World)
    (hE : ∀ w, Ints .i64 w B A n zs → B ≤ w.heap.size → Calls Try.prog 46 #[.agg #[.int .i64 p, .int .i64 k, .int .i64 g], .slice A n c] w (EbPost ys c0 w)) (hI : Ints .i64 w B A n zs) (hB : B ≤ w.heap.size)
    (hbt : c0 = 0 → (∀ x ∈ ys, x = 0 ∨ x = 1) ∧ ys.length ≤ 8192) :
    Calls Try.prog 19 #[.agg #[.int .i64 p, .int .i64 k, .int .i64 g], .slice A n c] w (GivPC (dtX c0 ys) (dtK c0 ys) w) := by
  have HXF := hide (Box.start w 36 p k g)
  obtain ⟨e0, e1, e2⟩ := ((HXF.out.alloc (.cells #[.int .i64 0, .int .i64 0, .int .i64 0, .string ⟨#[]⟩] 26))).cells
  have HX := hide (Box4.start (w.alloc (.cells #[.int .i64 p, .int .i64 k, .int .i64 g] 36)) 26 0 0 0 ⟨#[]⟩)
  have HW0 := hide HXF.out.2
  have hz0 : (w.alloc (.cells #[.int .i64 p, .int .i64 k, .int .i64 g] 36)).heap.size = w.heap.size + 1 := alloc_size _ _
  have HBW := hide (HW0.out.trans (HX.out.2.mono HW0.out.size))
  have HE := hide (hE _ (hI.below (HBW.out.mono hB)) (Nat.le_trans hB HBW.out.size))
  clear hE
  by_cases h0 : c0 = 0
  case neg =>
    obtain ⟨q1, q2⟩ := dt_bad ys h0
    rw [q1, q2]
    clear hI hbt q1 q2
    go_enter Try.func19, Try.ntmps19
    go_wp2_with fail
    refine HE.out.mono ?_
    rintro e w1 ⟨A1, m1, rfl, hm1, ho1, hb1⟩
    have HX1 := hide (HX.out.next hb1)
    have HO1 := hide ho1
    have HM1 := hide (own_mostP ho1)
    clear hb1 ho1 e0 e1 e2
    obtain ⟨w0, hw0⟩ : ∃ w0, w.alloc (.cells #[.int .i64 p, .int .i64 k, .int .i64 g] 36) = w0 := ⟨_, rfl⟩
    rw [hw0] at HX1 HW0 hz0 HO1
    rw [← hz0]
    clear hw0 hz0
    obtain ⟨z0, z1, z2, z3⟩ := HX1.out.cells
    have g0 := frozen_of_row w1 w0.heap.size 0 _ _ HX1.out.1
    have g1 := frozen_of_row w1 w0.heap.size 1 _ _ HX1.out.1
    have g2 := frozen_of_row w1 w0.heap.size 2 _ _ HX1.out.1
    have g3 := frozen_of_row w1 w0.heap.size 3 _ _ HX1.out.1
    have HXp := hide (HX1.out.put ⟨0, 0, 0, ⟨#[]⟩⟩)
    obtain ⟨d0, d1, d2, d3⟩ := HXp.out.cells
    unfold setPt at d0 d1 d2 d3
    simp only at d0 d1 d2 d3
    go_wp2_with fail
    exact bodyPost_ret (v := .tuple #[.agg #[.int .i64 0, .int .i64 0, .int .i64 0, .string ⟨#[]⟩], .int .i64 c0]) (by simp [results, Try.results19, go_sem, d0, d1, d2, d3]) rfl ⟨rfl, HW0.out.trans (HXp.out.2.mono HW0.out.size)⟩
  subst h0
  obtain ⟨hbt, hyl⟩ := hbt rfl
  have HBT := hide hbt
  have HBG := hide (fun (A : Option Addr) (c B : Nat) (w : World) (hI : Ints .i64 w B A ys.length ys) hc hcc => implBegins A ys.length c B ys w hI hyl hc hcc HBT.out)
  clear hI hbt
  rcases hh : hdB ys with _ | _
  · obtain ⟨q1, q2⟩ := dt_whole hh
    rw [q1, q2]
    rw [hh] at HBG
    have HWH := hide (fun (A : Option Addr) (c B : Nat) (w : World) (hI : Ints .i64 w B A ys.length ys) (hB : B ≤ w.heap.size) hc hcc => implWhole A ys.length c B ys w hI hB hyl hc hcc HBT.out)
    obtain ⟨X, hX⟩ : ∃ X, whX ys = X := ⟨_, rfl⟩
    obtain ⟨K, hK⟩ : ∃ K, (sgF ys).2 = K := ⟨_, rfl⟩
    rw [hX, hK] at HWH ⊢
    obtain ⟨i, c', p', t⟩ := X
    clear q1 q2 hh hX hK
    go_enter Try.func19, Try.ntmps19
    go_wp2_with fail
    refine HE.out.mono ?_
    rintro e w1 ⟨A1, m1, rfl, hm1, ho1, hb1⟩
    have HX1 := hide (HX.out.next hb1)
    have HO1 := hide ho1
    have HM1 := hide (own_mostP ho1)
    clear hb1 ho1 e0 e1 e2
    obtain ⟨w0, hw0⟩ : ∃ w0, w.alloc (.cells #[.int .i64 p, .int .i64 k, .int .i64 g] 36) = w0 := ⟨_, rfl⟩
    rw [hw0] at HX1 HW0 hz0 HO1
    rw [← hz0]
    clear hw0 hz0
    go_wp2_with fail
    refine (HBG.out A1 m1 _ w1 HO1.out.ints hm1 HM1.out).mono ?_
    rintro e _ ⟨rfl, rfl⟩
    go_wp2_with fail
    refine (HWH.out A1 m1 _ w1 HO1.out.ints (Nat.le_refl _) hm1 HM1.out).mono ?_
    rintro e w2 ⟨rfl, hb2⟩
    have HX2 := hide (HX1.out.next hb2)
    clear hb2
    obtain ⟨z0, z1, z2, z3⟩ := HX2.out.cells
    have g0 := frozen_of_row w2 w0.heap.size 0 _ _ HX2.out.1
    have g1 := frozen_of_row w2 w0.heap.size 1 _ _ HX2.out.1
    have g2 := frozen_of_row w2 w0.heap.size 2 _ _ HX2.out.1
    have g3 := frozen_of_row w2 w0.heap.size 3 _ _ HX2.out.1
    have HXp := hide (HX2.out.put ⟨i, c', p', t⟩)
    obtain ⟨d0, d1, d2, d3⟩ := HXp.out.cells
    unfold setPt at d0 d1 d2 d3
    simp only at d0 d1 d2 d3
    go_wp2_with fail
    exact bodyPost_ret (v := .tuple #[.agg #[.int .i64 i, .int .i64 c', .int .i64 p', .string t], .int .i64 K]) (by simp [results, Try.results19, go_sem, d0, d1, d2, d3]) rfl ⟨rfl, HW0.out.trans (HXp.out.2.mono HW0.out.size)⟩
  rw [hh] at HBG
  by_cases hok : hdOk ys
  case neg =>
    obtain ⟨q1, q2⟩ := dt_no hh hok
    rw [q1, q2]
    have HHD := hide (fun (A : Option Addr) (c B : Nat) (w : World) (hI : Ints .i64 w B A ys.length ys) (hB : B ≤ w.heap.size) hc hcc => show ∃ i c' p' t, Calls Try.prog 49 #[.slice A ys.length c] w (fun e w' => e = .returned (.tuple #[.agg #[.int .i64 i, .int .i64 c', .int .i64 p', .string t], .bool false]) ∧ Below w.heap.size w w') from by
      by_cases h17 : 17 ≤ ys.length
      · have h := implHeaded A ys.length c B ys w hI hB hyl hc hcc HBT.out h17
        rw [decide_eq_false (fun hlt => hok ⟨h17, hlt⟩)] at h
        exact ⟨_, _, _, _, h⟩
      · exact ⟨_, _, _, _, implHeaded_no A ys.length c w (by omega)⟩)
    clear q1 q2 hh hok
    go_enter Try.func19, Try.ntmps19
    go_wp2_with fail
    refine HE.out.mono ?_
    rintro e w1 ⟨A1, m1, rfl, hm1, ho1, hb1⟩
    have HX1 := hide (HX.out.next hb1)
    have HO1 := hide ho1
    have HM1 := hide (own_mostP ho1)
    clear hb1 ho1 e0 e1 e2
    obtain ⟨w0, hw0⟩ : ∃ w0, w.alloc (.cells #[.int .i64 p, .int .i64 k, .int .i64 g] 36) = w0 := ⟨_, rfl⟩
    rw [hw0] at HX1 HW0 hz0 HO1
    rw [← hz0]
    clear hw0 hz0
    go_wp2_with fail
    refine (HBG.out A1 m1 _ w1 HO1.out.ints hm1 HM1.out).mono ?_
    rintro e _ ⟨rfl, rfl⟩
    obtain ⟨i, c', p', t, hH⟩ := HHD.out A1 m1 _ w1 HO1.out.ints (Nat.le_refl _) hm1 HM1.out
    go_wp2_with fail
    refine hH.mono ?_
    rintro e w2 ⟨rfl, hb2⟩
    have HX2 := hide (HX1.out.next hb2)
    clear hb2 hH
    have HX3 := hide (HX2.out.alloc (.cells #[.int .i64 i, .int .i64 c', .int .i64 p', .string t] 26))
    obtain ⟨w3, hw3⟩ : ∃ w3, w2.alloc (.cells #[.int .i64 i, .int .i64 c', .int .i64 p', .string t] 26) = w3 := ⟨_, rfl⟩
    rw [hw3] at HX3
    obtain ⟨z0, z1, z2, z3⟩ := HX3.out.cells
    have g0 := frozen_of_row w3 w0.heap.size 0 _ _ HX3.out.1
    have g1 := frozen_of_row w3 w0.heap.size 1 _ _ HX3.out.1
    have g2 := frozen_of_row w3 w0.heap.size 2 _ _ HX3.out.1
    have g3 := frozen_of_row w3 w0.heap.size 3 _ _ HX3.out.1
    have HXp := hide (HX3.out.put ⟨0, 0, 0, ⟨#[]⟩⟩)
    obtain ⟨d0, d1, d2, d3⟩ := HXp.out.cells
    unfold setPt at d0 d1 d2 d3
    simp only at d0 d1 d2 d3
    go_wp2_with fail
    exact bodyPost_ret (v := .tuple #[.agg #[.int .i64 0, .int .i64 0, .int .i64 0, .string ⟨#[]⟩], .int .i64 6]) (by simp [results, Try.results19, go_sem, d0, d1, d2, d3]) rfl ⟨rfl, HW0.out.trans (HXp.out.2.mono HW0.out.size)⟩
  obtain ⟨q1, q2⟩ := dt_head hh hok
  rw [q1, q2]
  have HHD := hide (fun (A : Option Addr) (c B : Nat) (w : World) (hI : Ints .i64 w B A ys.length ys) (hB : B ≤ w.heap.size) hc hcc => implHeaded A ys.length c B ys w hI hB hyl hc hcc HBT.out hok.1)
  rw [decide_eq_true hok.2] at HHD
  have h17 := hok.1
  have HBD := hide (show ∀ x ∈ ys.drop 17, x = 0 ∨ x = 1 from fun x hx => HBT.out x (List.mem_of_mem_drop hx))
  have HMI := hide (fun (A : Option Addr) (c B : Nat) (w : World) (hI : Ints .i64 w B A ys.length ys) (hB : B ≤ w.heap.size) (hc : ys.length ≤ c) (hcc : c ≤ 9223372036854775807) => show Calls Try.prog 50 #[.slice (subA A c 17) (ys.length - 17) (c - 17)] w (GivSI (msS (ys.drop 17)) (sgF (ys.drop 17)).2 w) from
    implMsgIn _ (ys.length - 17) (c - 17) B (ys.drop 17) w (by have h := hI.sub (lo := 17) (m := ys.length - 17) hc (by omega); rw [List.take_of_length_le (by rw [List.length_drop]; omega)] at h; exact h) hB (by omega) (by omega) (by omega) HBD.out)
  have HY := hide (fun h => hdX_yes (ys := ys) h)
  have HN := hide (fun h => hdX_no (ys := ys) h)
  have HMY := hide (fun h => msS_yes (ys := ys.drop 17) h)
  obtain ⟨K, hK⟩ : ∃ K, (sgF (ys.drop 17)).2 = K := ⟨_, rfl⟩
  obtain ⟨s, hs⟩ : ∃ s, msS (ys.drop 17) = s := ⟨_, rfl⟩
  obtain ⟨t, ht⟩ : ∃ t, txC (ys.drop 17) = t := ⟨_, rfl⟩
  obtain ⟨i, hi⟩ : ∃ i, hdI ys = i := ⟨_, rfl⟩
  obtain ⟨c', hc'⟩ : ∃ i, hdC ys = i := ⟨_, rfl⟩
  obtain ⟨p', hp'⟩ : ∃ i, hdP ys = i := ⟨_, rfl⟩
  simp only [hK, hs, ht, hi, hc', hp'] at HMI HY HN HMY HHD
  rw [hK]
  clear q1 q2 hh hok hK hs ht hi hc' hp'
  by_cases hK0 : K = 0
  · subst hK0
    rw [HY.out rfl]
    obtain rfl := HMY.out rfl
    go_enter Try.func19, Try.ntmps19
    go_wp2_with fail
    refine HE.out.mono ?_
    rintro e w1 ⟨A1, m1, rfl, hm1, ho1, hb1⟩
    have HX1 := hide (HX.out.next hb1)
    have HO1 := hide ho1
    have HM1 := hide (own_mostP ho1)
    clear hb1 ho1 e0 e1 e2
    obtain ⟨w0, hw0⟩ : ∃ w0, w.alloc (.cells #[.int .i64 p, .int .i64 k, .int .i64 g] 36) = w0 := ⟨_, rfl⟩
    rw [hw0] at HX1 HW0 hz0 HO1
    rw [← hz0]
    clear hw0 hz0
    obtain ⟨N, hN⟩ : ∃ N, ys.length = N := ⟨_, rfl⟩
    rw [hN] at HBG HHD HMI HO1 hm1 hyl h17 ⊢
    have HI1 := hide (show Ints .i64 w1 w1.heap.size A1 N ys from by rw [← hN]; exact HO1.out.ints)
    clear hN HO1
    go_wp2_with fail
    refine (HBG.out A1 m1 _ w1 HI1.out hm1 HM1.out).mono ?_
    rintro e _ ⟨rfl, rfl⟩
    go_wp2_with fail
    refine (HHD.out A1 m1 _ w1 HI1.out (Nat.le_refl _) hm1 HM1.out).mono ?_
    rintro e w2 ⟨rfl, hb2⟩
    have HX2 := hide (HX1.out.next hb2)
    have HI2 := hide (HI1.out.below hb2)
    have hs12 := hb2.size
    clear hb2
    have HP3 := hide (Box4.start w2 26 i c' p' ⟨#[]⟩)
    have HX3 := hide (HX2.out.next HP3.out.2)
    have HI3 := hide (HI2.out.below (HP3.out.2.mono hs12))
    have hs23 := HP3.out.2.size
    have HLT := hide (Nat.lt_of_lt_of_le HX1.out.lt hs12)
    have HCAP := hide HM1.out
    have hcapI : (17 : Int) ≤ (m1 : Int) := by omega
    have hNI : (17 : Int) ≤ (N : Int) := by omega
    have hmm : m1 ≤ 9223372036854775807 := HM1.out
    have HMJ := hide (HMI.out A1 m1 _ _ HI3.out (by omega) hm1 HM1.out)
    obtain ⟨w3, hw3⟩ : ∃ w3, w2.alloc (.cells #[.int .i64 i, .int .i64 c', .int .i64 p', .string ⟨#[]⟩] 26) = w3 := ⟨_, rfl⟩
    rw [hw3] at HP3 HX3 HMJ hs23
    have HWE := hide hw3
    clear hw3
    obtain ⟨b1, o1, rfl⟩ : ∃ b o, A1 = some ⟨b, o, none⟩ := by obtain ⟨b, off, e, _⟩ := HI1.out.2 (by omega); exact ⟨b, off, e⟩
    by_cases he : m1 = 17
    · subst he
      obtain rfl : N = 17 := by omega
      rw [subA, if_pos rfl, Nat.sub_self] at HMJ
      go_wp2_with fail
      rw [HWE.out]
      refine HMJ.out.mono ?_
      rintro e w4 ⟨rfl, hb4⟩
      have HX4 := hide (HX3.out.next hb4)
      have HP4 := hide (HP3.out.next hb4)
      clear hb4 HMJ HWE
      obtain ⟨x0, x1, x2, x3⟩ := HP4.out.cells
      have k3 := frozen_of_row w4 w2.heap.size 3 _ _ HP4.out.1
      have HP5 := hide (HP4.out.text s)
      have HX5 := hide (HX4.out.other (b := w2.heap.size) HLT.out 3 (.string s))
      obtain ⟨w5, hw5⟩ : ∃ w5, w4.setCell ⟨w2.heap.size, 3, none⟩ (.string s) = w5 := ⟨_, rfl⟩
      rw [hw5] at HP5 HX5
      obtain ⟨y0, y1, y2, y3⟩ := HP5.out.cells
      obtain ⟨z0, z1, z2, z3⟩ := HX5.out.cells
      have g0 := frozen_of_row w5 w0.heap.size 0 _ _ HX5.out.1
      have g1 := frozen_of_row w5 w0.heap.size 1 _ _ HX5.out.1
      have g2 := frozen_of_row w5 w0.heap.size 2 _ _ HX5.out.1
      have g3 := frozen_of_row w5 w0.heap.size 3 _ _ HX5.out.1
      have HXp := hide (HX5.out.put ⟨i, c', p', s⟩)
      go_wp2_with fail
      obtain ⟨d0, d1, d2, d3⟩ := HXp.out.cells
      unfold setPt at d0 d1 d2 d3
      simp only at d0 d1 d2 d3
      exact bodyPost_ret (v := .tuple #[.agg #[.int .i64 i, .int .i64 c', .int .i64 p', .string s], .int .i64 0]) (by simp [results, Try.results19, go_sem, d0, d1, d2, d3]) rfl ⟨rfl, HW0.out.trans (HXp.out.2.mono HW0.out.size)⟩
    · rw [subA, if_neg he, Option.map_some, addr_add] at HMJ
      go_wp2_with fail
      rw [HWE.out]
      refine HMJ.out.mono ?_
      rintro e w4 ⟨rfl, hb4⟩
      have HX4 := hide (HX3.out.next hb4)
      have HP4 := hide (HP3.out.next hb4)
      clear hb4 HMJ HWE
      obtain ⟨x0, x1, x2, x3⟩ := HP4.out.cells
      have k3 := frozen_of_row w4 w2.heap.size 3 _ _ HP4.out.1
      have HP5 := hide (HP4.out.text s)
      have HX5 := hide (HX4.out.other (b := w2.heap.size) HLT.out 3 (.string s))
      obtain ⟨w5, hw5⟩ : ∃ w5, w4.setCell ⟨w2.heap.size, 3, none⟩ (.string s) = w5 := ⟨_, rfl⟩
      rw [hw5] at HP5 HX5
      obtain ⟨y0, y1, y2, y3⟩ := HP5.out.cells
      obtain ⟨z0, z1, z2, z3⟩ := HX5.out.cells
      have g0 := frozen_of_row w5 w0.heap.size 0 _ _ HX5.out.1
      have g1 := frozen_of_row w5 w0.heap.size 1 _ _ HX5.out.1
      have g2 := frozen_of_row w5 w0.heap.size 2 _ _ HX5.out.1
      have g3 := frozen_of_row w5 w0.heap.size 3 _ _ HX5.out.1
      have HXp := hide (HX5.out.put ⟨i, c', p', s⟩)
      go_wp2_with fail
      obtain ⟨d0, d1, d2, d3⟩ := HXp.out.cells
      unfold setPt at d0 d1 d2 d3
      simp only at d0 d1 d2 d3
      exact bodyPost_ret (v := .tuple #[.agg #[.int .i64 i, .int .i64 c', .int .i64 p', .string s], .int .i64 0]) (by simp [results, Try.results19, go_sem, d0, d1, d2, d3]) rfl ⟨rfl, HW0.out.trans (HXp.out.2.mono HW0.out.size)⟩
  · rw [HN.out hK0]
    go_enter Try.func19, Try.ntmps19
    go_wp2_with fail
    refine HE.out.mono ?_
    rintro e w1 ⟨A1, m1, rfl, hm1, ho1, hb1⟩
    have HX1 := hide (HX.out.next hb1)
    have HO1 := hide ho1
    have HM1 := hide (own_mostP ho1)
    clear hb1 ho1 e0 e1 e2
    obtain ⟨w0, hw0⟩ : ∃ w0, w.alloc (.cells #[.int .i64 p, .int .i64 k, .int .i64 g] 36) = w0 := ⟨_, rfl⟩
    rw [hw0] at HX1 HW0 hz0 HO1
    rw [← hz0]
    clear hw0 hz0
    obtain ⟨N, hN⟩ : ∃ N, ys.length = N := ⟨_, rfl⟩
    rw [hN] at HBG HHD HMI HO1 hm1 hyl h17 ⊢
    have HI1 := hide (show Ints .i64 w1 w1.heap.size A1 N ys from by rw [← hN]; exact HO1.out.ints)
    clear hN HO1
    go_wp2_with fail
    refine (HBG.out A1 m1 _ w1 HI1.out hm1 HM1.out).mono ?_
    rintro e _ ⟨rfl, rfl⟩
    go_wp2_with fail
    refine (HHD.out A1 m1 _ w1 HI1.out (Nat.le_refl _) hm1 HM1.out).mono ?_
    rintro e w2 ⟨rfl, hb2⟩
    have HX2 := hide (HX1.out.next hb2)
    have HI2 := hide (HI1.out.below hb2)
    have hs12 := hb2.size
    clear hb2
    have HP3 := hide (Box4.start w2 26 i c' p' ⟨#[]⟩)
    have HX3 := hide (HX2.out.next HP3.out.2)
    have HI3 := hide (HI2.out.below (HP3.out.2.mono hs12))
    have hs23 := HP3.out.2.size
    have HLT := hide (Nat.lt_of_lt_of_le HX1.out.lt hs12)
    have HCAP := hide HM1.out
    have hcapI : (17 : Int) ≤ (m1 : Int) := by omega
    have hNI : (17 : Int) ≤ (N : Int) := by omega
    have hmm : m1 ≤ 9223372036854775807 := HM1.out
    have HMJ := hide (HMI.out A1 m1 _ _ HI3.out (by omega) hm1 HM1.out)
    obtain ⟨w3, hw3⟩ : ∃ w3, w2.alloc (.cells #[.int .i64 i, .int .i64 c', .int .i64 p', .string ⟨#[]⟩] 26) = w3 := ⟨_, rfl⟩
    rw [hw3] at HP3 HX3 HMJ hs23
    have HWE := hide hw3
    clear hw3
    obtain ⟨b1, o1, rfl⟩ : ∃ b o, A1 = some ⟨b, o, none⟩ := by obtain ⟨b, off, e, _⟩ := HI1.out.2 (by omega); exact ⟨b, off, e⟩
    by_cases he : m1 = 17
    · subst he
      obtain rfl : N = 17 := by omega
      rw [subA, if_pos rfl, Nat.sub_self] at HMJ
      go_wp2_with fail
      rw [HWE.out]
      refine HMJ.out.mono ?_
      rintro e w4 ⟨rfl, hb4⟩
      have HX4 := hide (HX3.out.next hb4)
      have HP4 := hide (HP3.out.next hb4)
      clear hb4 HMJ HWE
      obtain ⟨x0, x1, x2, x3⟩ := HP4.out.cells
      have k3 := frozen_of_row w4 w2.heap.size 3 _ _ HP4.out.1
      have HP5 := hide (HP4.out.text s)
      have HX5 := hide (HX4.out.other (b := w2.heap.size) HLT.out 3 (.string s))
      obtain ⟨w5, hw5⟩ : ∃ w5, w4.setCell ⟨w2.heap.size, 3, none⟩ (.string s) = w5 := ⟨_, rfl⟩
      rw [hw5] at HP5 HX5
      obtain ⟨y0, y1, y2, y3⟩ := HP5.out.cells
      obtain ⟨z0, z1, z2, z3⟩ := HX5.out.cells
      have g0 := frozen_of_row w5 w0.heap.size 0 _ _ HX5.out.1
      have g1 := frozen_of_row w5 w0.heap.size 1 _ _ HX5.out.1
      have g2 := frozen_of_row w5 w0.heap.size 2 _ _ HX5.out.1
      have g3 := frozen_of_row w5 w0.heap.size 3 _ _ HX5.out.1
      have HXp := hide (HX5.out.put ⟨0, 0, 0, ⟨#[]⟩⟩)
      go_wp2_with fail
      obtain ⟨d0, d1, d2, d3⟩ := HXp.out.cells
      unfold setPt at d0 d1 d2 d3
      simp only at d0 d1 d2 d3
      exact bodyPost_ret (v := .tuple #[.agg #[.int .i64 0, .int .i64 0, .int .i64 0, .string ⟨#[]⟩], .int .i64 K]) (by simp [results, Try.results19, go_sem, d0, d1, d2, d3]) rfl ⟨rfl, HW0.out.trans (HXp.out.2.mono HW0.out.size)⟩
    · rw [subA, if_neg he, Option.map_some, addr_add] at HMJ
      go_wp2_with fail
      rw [HWE.out]
      refine HMJ.out.mono ?_
      rintro e w4 ⟨rfl, hb4⟩
      have HX4 := hide (HX3.out.next hb4)
      have HP4 := hide (HP3.out.next hb4)
      clear hb4 HMJ HWE
      obtain ⟨x0, x1, x2, x3⟩ := HP4.out.cells
      have k3 := frozen_of_row w4 w2.heap.size 3 _ _ HP4.out.1
      have HP5 := hide (HP4.out.text s)
      have HX5 := hide (HX4.out.other (b := w2.heap.size) HLT.out 3 (.string s))
      obtain ⟨w5, hw5⟩ : ∃ w5, w4.setCell ⟨w2.heap.size, 3, none⟩ (.string s) = w5 := ⟨_, rfl⟩
      rw [hw5] at HP5 HX5
      obtain ⟨y0, y1, y2, y3⟩ := HP5.out.cells
      obtain ⟨z0, z1, z2, z3⟩ := HX5.out.cells
      have g0 := frozen_of_row w5 w0.heap.size 0 _ _ HX5.out.1
      have g1 := frozen_of_row w5 w0.heap.size 1 _ _ HX5.out.1
      have g2 := frozen_of_row w5 w0.heap.size 2 _ _ HX5.out.1
      have g3 := frozen_of_row w5 w0.heap.size 3 _ _ HX5.out.1
      have HXp := hide (HX5.out.put ⟨0, 0, 0, ⟨#[]⟩⟩)
      go_wp2_with fail
      obtain ⟨d0, d1, d2, d3⟩ := HXp.out.cells
      unfold setPt at d0 d1 d2 d3
      simp only at d0 d1 d2 d3
      exact bodyPost_ret (v := .tuple #[.agg #[.int .i64 0, .int .i64 0, .int .i64 0, .string ⟨#[]⟩], .int .i64 K]) (by simp [results, Try.results19, go_sem, d0, d1, d2, d3]) rfl ⟨rfl, HW0.out.trans (HXp.out.2.mono HW0.out.size)⟩
end Go.Proofs.Ythbmfaogjaahoaa

namespace Go.Proofs.Ythbmfaogjaahoaa
open Go Go.RowKit
set_option linter.unusedSimpArgs false
set_option linter.unusedVariables false

theorem Box4.otherPut {w wr : World} {t : TypeId} {i c p : Int} {s : ByteArray} {b : Nat} (h : Box4 w wr t i c p s) (hb : w.heap.size < b) (x : PtV) : Box4 w (setPt wr b 0 x) t i c p s :=
  ⟨by rw [put4_other (by omega)]; exact h.1, put4_below h.2 (Nat.le_of_lt hb) x⟩
theorem Box4.par {w wr : World} {t : TypeId} {i c p : Int} {s : ByteArray} (h : Box4 w wr t i c p s) (p' : Int) : Box4 w (wr.setCell ⟨w.heap.size, 2, none⟩ (.int .i64 p')) t i c p' s :=
  ⟨heap_setCell_same wr w.heap.size 2 _ _ (.int .i64 p') h.1, h.2.setCell (p := ⟨w.heap.size, 2, none⟩) (Nat.le_refl _) _⟩

set_option maxRecDepth 100000 in
set_option maxHeartbeats 4000000 in
theorem specDPt {p k g : Int} {c0 : Int} {ys : List Int} (A : Option Addr) (n c B : Nat) (zs : List Int) (w : World)
    (hE : ∀ w, Ints .i64 w B A n zs → B ≤ w.heap.size → Calls Try.prog 42 #[.agg #[.int .i64 p, .int .i64 k, .int .i64 g], .slice A n c] w (EbPost ys c0 w)) (hI : Ints .i64 w B A n zs) (hB : B ≤ w.heap.size)
    (hbt : c0 = 0 → (∀ x ∈ ys, x = 0 ∨ x = 1) ∧ ys.length ≤ 8192) :
    Calls Try.prog 16 #[.agg #[.int .i64 p, .int .i64 k, .int .i64 g], .slice A n c] w (GivPC (dtX c0 ys) (dtK c0 ys) w) := by
  have HXF := hide (Box.start w 36 p k g)
  obtain ⟨e0, e1, e2⟩ := ((HXF.out.alloc (.cells #[.int .i64 0, .int .i64 0, .int .i64 0, .string ⟨#[]⟩] 26))).cells
  have HX := hide (Box4.start (w.alloc (.cells #[.int .i64 p, .int .i64 k, .int .i64 g] 36)) 26 0 0 0 ⟨#[]⟩)
  have HW0 := hide HXF.out.2
  have hz0 : (w.alloc (.cells #[.int .i64 p, .int .i64 k, .int .i64 g] 36)).heap.size = w.heap.size + 1 := alloc_size _ _
  have HBW := hide (HW0.out.trans (HX.out.2.mono HW0.out.size))
  have HE := hide (hE _ (hI.below (HBW.out.mono hB)) (Nat.le_trans hB HBW.out.size))
  clear hE
  by_cases h0 : c0 = 0
  case neg =>
    obtain ⟨q1, q2⟩ := dt_bad ys h0
    rw [q1, q2]
    clear hI hbt q1 q2
    go_enter Try.func16, Try.ntmps16
    go_wp2_with fail
    refine HE.out.mono ?_
    rintro e w1 ⟨A1, m1, rfl, hm1, ho1, hb1⟩
    have HX1 := hide (HX.out.next hb1)
    have HO1 := hide ho1
    clear hb1 ho1 e0 e1 e2
    obtain ⟨w0, hw0⟩ : ∃ w0, w.alloc (.cells #[.int .i64 p, .int .i64 k, .int .i64 g] 36) = w0 := ⟨_, rfl⟩
    rw [hw0] at HX1 HW0 hz0 HO1
    rw [← hz0]
    clear hw0 hz0
    obtain ⟨z0, z1, z2, z3⟩ := HX1.out.cells
    have g0 := frozen_of_row w1 w0.heap.size 0 _ _ HX1.out.1
    have g1 := frozen_of_row w1 w0.heap.size 1 _ _ HX1.out.1
    have g2 := frozen_of_row w1 w0.heap.size 2 _ _ HX1.out.1
    have g3 := frozen_of_row w1 w0.heap.size 3 _ _ HX1.out.1
    have HXp := hide (HX1.out.put ⟨0, 0, 0, ⟨#[]⟩⟩)
    go_wp2_with fail
    obtain ⟨d0, d1, d2, d3⟩ := HXp.out.cells
    unfold setPt at d0 d1 d2 d3
    simp only at d0 d1 d2 d3
    exact bodyPost_ret (v := .tuple #[.agg #[.int .i64 0, .int .i64 0, .int .i64 0, .string ⟨#[]⟩], .int .i64 c0]) (by simp [results, Try.results16, go_sem, d0, d1, d2, d3]) rfl ⟨rfl, HW0.out.trans (HXp.out.2.mono HW0.out.size)⟩
  subst h0
  obtain ⟨hbt, hyl⟩ := hbt rfl
  have HBT := hide hbt
  clear hI hbt
  obtain ⟨N, hN⟩ : ∃ N, ys.length = N := ⟨_, rfl⟩
  rw [hN] at hyl
  have HNN := hide hN
  have hnum : ∀ (lo wd : Nat) (A : Option Addr) (c B : Nat) (w : World), Ints .i64 w B A N ys → wd ≤ 32 → lo + wd ≤ N → Calls Try.prog 43 #[.slice A N c, .int .i64 (lo : Nat), .int .i64 (wd : Nat)] w (fun e w' => e = .returned (.int .i64 (numVal ((ys.drop lo).take wd))) ∧ w = w') := fun lo wd A c B w hI h1 h2 => specNumber A N c B lo wd ys w hI (by omega) h1 h2 HBT.out
  have HNUM := hide hnum
  have HPG0 := hide (fun (A : Option Addr) (c B : Nat) (w : World) (hI : Ints .i64 w B A N ys) hB => specPg A N c B ys w hI hB hyl HBT.out)
  have HPG1 := hide (fun (A : Option Addr) (c B : Nat) (w : World) (hI : Ints .i64 w B A N ys) hB (h : 17 ≤ N) => specPgA A N c B 17 ys (ys.drop 17) rfl h w hI hB hyl HBT.out)
  have HBD := hide (show ∀ x ∈ ys.drop 17, x = 0 ∨ x = 1 from fun x hx => HBT.out x (List.mem_of_mem_drop hx))
  clear hnum
  rcases hh : hdB ys with _ | _
  · obtain ⟨q1, q2⟩ := dt_whole hh
    rw [q1, q2]
    obtain ⟨d1, d2, d3, d4⟩ := tx_js HBT.out
    have HY := hide (fun h => whX_yes (ys := ys) h)
    have HN := hide (fun h => whX_no (ys := ys) h)
    have HTS := hide (show (txC ys).size ≤ 400 from d1 _ (Nat.le_refl _))
    have HTX := hide (show txC ys = jn (spT ys) (sgF ys).1 from rfl)
    unfold PgPost at HPG0
    obtain ⟨m, hm⟩ : ∃ m, (sgF ys).1 = m := ⟨_, rfl⟩
    obtain ⟨T, hT⟩ : ∃ T, spT ys = T := ⟨_, rfl⟩
    obtain ⟨M, hM⟩ : ∃ M, spM ys = M := ⟨_, rfl⟩
    obtain ⟨K, hK⟩ : ∃ K, (sgF ys).2 = K := ⟨_, rfl⟩
    obtain ⟨s, hs⟩ : ∃ s, txC ys = s := ⟨_, rfl⟩
    simp only [hm, hT, hM, hK, hs] at HPG0 HY HN HTS HTX d1 d2 d3 d4
    have D1 := hide d1
    have D2 := hide d2
    have hts := HTS.out
    rw [hK]
    clear q1 q2 hm hT hM hK hs d1 d2 d3
    have HHN := hide (fun (h3 : 3 ≤ N) => show ¬ numVal (ys.take 3) = 5 from fun h5 => by unfold hdB at hh; rw [decide_eq_true (by rw [HNN.out]; exact h3), decide_eq_true h5] at hh; cases hh)
    clear hh
    by_cases h3 : 3 ≤ N
    · have HC0 := hide (fun (A : Option Addr) (c B : Nat) (w : World) hI => HNUM.out 0 3 A c B w hI (by omega) (by omega))
      simp only [List.drop_zero] at HC0
      obtain ⟨V, hV⟩ : ∃ V, numVal (ys.take 3) = V := ⟨_, rfl⟩
      rw [hV] at HC0 HHN
      have hV5 := HHN.out h3
      have hV5' : (V == 5) = false := by simpa using hV5
      clear hV
      have h3I : (3 : Int) ≤ (N : Int) := by omega
      by_cases hK0 : K = 0
      · subst hK0
        have HQ := hide (HY.out rfl)
        rw [HQ.out]
        have HPA := hide (fun w => specPar s (by omega) w)
        obtain ⟨q, hq⟩ : ∃ q, parI (bytesI s) = q := ⟨_, rfl⟩
        rw [hq] at HPA ⊢
        clear hq HQ
        go_enter Try.func16, Try.ntmps16
        go_wp2_with fail
        refine HE.out.mono ?_
        rintro e w1 ⟨A1, m1, rfl, hm1, ho1, hb1⟩
        have HX1 := hide (HX.out.next hb1)
        have HO1 := hide ho1
        clear hb1 ho1 e0 e1 e2
        obtain ⟨w0, hw0⟩ : ∃ w0, w.alloc (.cells #[.int .i64 p, .int .i64 k, .int .i64 g] 36) = w0 := ⟨_, rfl⟩
        rw [hw0] at HX1 HW0 hz0 HO1
        rw [← hz0]
        clear hw0 hz0
        have HI1 := hide (show Ints .i64 w1 w1.heap.size A1 N ys from by rw [← HNN.out]; exact HO1.out.ints)
        rw [hN] at HO1 hm1 ⊢
        clear HO1
        have HP2 := hide (Box4.start w1 26 0 1 0 ⟨#[]⟩)
        have HX2 := hide (HX1.out.next HP2.out.2)
        have HI2 := hide (HI1.out.below HP2.out.2)
        have HLT := hide HX1.out.lt
        have hs12 := HP2.out.2.size
        obtain ⟨w2, hw2⟩ : ∃ w2, w1.alloc (.cells #[.int .i64 0, .int .i64 1, .int .i64 0, .string ⟨#[]⟩] 26) = w2 := ⟨_, rfl⟩
        rw [hw2] at HP2 HX2 HI2 hs12
        have HWE := hide hw2
        clear hw2
        go_wp2_with fail
        rw [HWE.out]
        refine (HC0.out A1 m1 _ w2 HI2.out).mono ?_
        rintro e _ ⟨rfl, rfl⟩
        go_wp2_with fail
        refine (HPG0.out A1 m1 _ w2 HI2.out hs12).mono ?_
        rintro e w4 ⟨A4, m4, rfl, hm4, hm4', ho4, hb4⟩
        have HX4 := hide (HX2.out.next hb4)
        have HP4 := hide (HP2.out.next hb4)
        have HO4 := hide ho4
        clear hb4 ho4
        go_wp2_with fail
        refine (specL11J A4 m m4 _ M T _ HO4.out.segs (Nat.le_refl _) d4 D1.out D2.out).mono ?_
        rintro e w5 ⟨rfl, hb5⟩
        rw [← HTX.out]
        have HX5 := hide (HX4.out.next hb5)
        have HP5 := hide (HP4.out.next hb5)
        clear hb5 HO4
        obtain ⟨x0, x1, x2, x3⟩ := HP5.out.cells
        have k3 := frozen_of_row w5 w1.heap.size 3 _ _ HP5.out.1
        have HP6 := hide (HP5.out.text s)
        have HX6 := hide (HX5.out.other (b := w1.heap.size) HLT.out 3 (.string s))
        obtain ⟨w6, hw6⟩ : ∃ w6, w5.setCell ⟨w1.heap.size, 3, none⟩ (.string s) = w6 := ⟨_, rfl⟩
        rw [hw6] at HP6 HX6
        obtain ⟨y0, y1, y2, y3⟩ := HP6.out.cells
        go_wp2_with fail
        refine (HPA.out _).mono ?_
        rintro e _ ⟨rfl, rfl⟩
        have k2 := frozen_of_row w6 w1.heap.size 2 _ _ HP6.out.1
        have HP7 := hide (HP6.out.par q)
        have HX7 := hide (HX6.out.other (b := w1.heap.size) HLT.out 2 (.int .i64 q))
        clear hw6
        obtain ⟨w7, hw7⟩ : ∃ w7, w6.setCell ⟨w1.heap.size, 2, none⟩ (.int .i64 q) = w7 := ⟨_, rfl⟩
        rw [hw7] at HP7 HX7
        obtain ⟨v0, v1, v2, v3⟩ := HP7.out.cells
        obtain ⟨z0, z1, z2, z3⟩ := HX7.out.cells
        have g0 := frozen_of_row w7 w0.heap.size 0 _ _ HX7.out.1
        have g1 := frozen_of_row w7 w0.heap.size 1 _ _ HX7.out.1
        have g2 := frozen_of_row w7 w0.heap.size 2 _ _ HX7.out.1
        have g3 := frozen_of_row w7 w0.heap.size 3 _ _ HX7.out.1
        have HXp := hide (HX7.out.put ⟨0, 1, q, s⟩)
        go_wp2_with fail
        obtain ⟨d0, d1, d2, d3⟩ := HXp.out.cells
        unfold setPt at d0 d1 d2 d3
        simp only at d0 d1 d2 d3
        exact bodyPost_ret (v := .tuple #[.agg #[.int .i64 0, .int .i64 1, .int .i64 q, .string s], .int .i64 0]) (by simp [results, Try.results16, go_sem, d0, d1, d2, d3]) rfl ⟨rfl, HW0.out.trans (HXp.out.2.mono HW0.out.size)⟩
      · rw [HN.out hK0]
        go_enter Try.func16, Try.ntmps16
        go_wp2_with fail
        refine HE.out.mono ?_
        rintro e w1 ⟨A1, m1, rfl, hm1, ho1, hb1⟩
        have HX1 := hide (HX.out.next hb1)
        have HO1 := hide ho1
        clear hb1 ho1 e0 e1 e2
        obtain ⟨w0, hw0⟩ : ∃ w0, w.alloc (.cells #[.int .i64 p, .int .i64 k, .int .i64 g] 36) = w0 := ⟨_, rfl⟩
        rw [hw0] at HX1 HW0 hz0 HO1
        rw [← hz0]
        clear hw0 hz0
        have HI1 := hide (show Ints .i64 w1 w1.heap.size A1 N ys from by rw [← HNN.out]; exact HO1.out.ints)
        rw [hN] at HO1 hm1 ⊢
        clear HO1
        have HP2 := hide (Box4.start w1 26 0 1 0 ⟨#[]⟩)
        have HX2 := hide (HX1.out.next HP2.out.2)
        have HI2 := hide (HI1.out.below HP2.out.2)
        have HLT := hide HX1.out.lt
        have hs12 := HP2.out.2.size
        obtain ⟨w2, hw2⟩ : ∃ w2, w1.alloc (.cells #[.int .i64 0, .int .i64 1, .int .i64 0, .string ⟨#[]⟩] 26) = w2 := ⟨_, rfl⟩
        rw [hw2] at HP2 HX2 HI2 hs12
        have HWE := hide hw2
        clear hw2
        go_wp2_with fail
        rw [HWE.out]
        refine (HC0.out A1 m1 _ w2 HI2.out).mono ?_
        rintro e _ ⟨rfl, rfl⟩
        go_wp2_with fail
        refine (HPG0.out A1 m1 _ w2 HI2.out hs12).mono ?_
        rintro e w4 ⟨A4, m4, rfl, hm4, hm4', ho4, hb4⟩
        have HX4 := hide (HX2.out.next hb4)
        have HP4 := hide (HP2.out.next hb4)
        have HO4 := hide ho4
        clear hb4 ho4
        obtain ⟨z0, z1, z2, z3⟩ := HX4.out.cells
        have g0 := frozen_of_row w4 w0.heap.size 0 _ _ HX4.out.1
        have g1 := frozen_of_row w4 w0.heap.size 1 _ _ HX4.out.1
        have g2 := frozen_of_row w4 w0.heap.size 2 _ _ HX4.out.1
        have g3 := frozen_of_row w4 w0.heap.size 3 _ _ HX4.out.1
        have HXp := hide (HX4.out.put ⟨0, 0, 0, ⟨#[]⟩⟩)
        go_wp2_with fail
        obtain ⟨d0, d1, d2, d3⟩ := HXp.out.cells
        unfold setPt at d0 d1 d2 d3
        simp only at d0 d1 d2 d3
        exact bodyPost_ret (v := .tuple #[.agg #[.int .i64 0, .int .i64 0, .int .i64 0, .string ⟨#[]⟩], .int .i64 K]) (by simp [results, Try.results16, go_sem, d0, d1, d2, d3]) rfl ⟨rfl, HW0.out.trans (HXp.out.2.mono HW0.out.size)⟩
    · have h3I : ¬ (3 : Int) ≤ (N : Int) := by omega
      have h3' : decide ((3 : Int) ≤ (N : Int)) = false := decide_eq_false h3I
      by_cases hK0 : K = 0
      · subst hK0
        have HQ := hide (HY.out rfl)
        rw [HQ.out]
        have HPA := hide (fun w => specPar s (by omega) w)
        obtain ⟨q, hq⟩ : ∃ q, parI (bytesI s) = q := ⟨_, rfl⟩
        rw [hq] at HPA ⊢
        clear hq HQ
        go_enter Try.func16, Try.ntmps16
        go_wp2_with fail
        refine HE.out.mono ?_
        rintro e w1 ⟨A1, m1, rfl, hm1, ho1, hb1⟩
        have HX1 := hide (HX.out.next hb1)
        have HO1 := hide ho1
        clear hb1 ho1 e0 e1 e2
        obtain ⟨w0, hw0⟩ : ∃ w0, w.alloc (.cells #[.int .i64 p, .int .i64 k, .int .i64 g] 36) = w0 := ⟨_, rfl⟩
        rw [hw0] at HX1 HW0 hz0 HO1
        rw [← hz0]
        clear hw0 hz0
        have HI1 := hide (show Ints .i64 w1 w1.heap.size A1 N ys from by rw [← HNN.out]; exact HO1.out.ints)
        rw [hN] at HO1 hm1 ⊢
        clear HO1
        have HP2 := hide (Box4.start w1 26 0 1 0 ⟨#[]⟩)
        have HX2 := hide (HX1.out.next HP2.out.2)
        have HI2 := hide (HI1.out.below HP2.out.2)
        have HLT := hide HX1.out.lt
        have hs12 := HP2.out.2.size
        obtain ⟨w2, hw2⟩ : ∃ w2, w1.alloc (.cells #[.int .i64 0, .int .i64 1, .int .i64 0, .string ⟨#[]⟩] 26) = w2 := ⟨_, rfl⟩
        rw [hw2] at HP2 HX2 HI2 hs12
        have HWE := hide hw2
        clear hw2
        go_wp2_with fail
        rw [HWE.out]
        refine (HPG0.out A1 m1 _ w2 HI2.out hs12).mono ?_
        rintro e w4 ⟨A4, m4, rfl, hm4, hm4', ho4, hb4⟩
        have HX4 := hide (HX2.out.next hb4)
        have HP4 := hide (HP2.out.next hb4)
        have HO4 := hide ho4
        clear hb4 ho4
        go_wp2_with fail
        refine (specL11J A4 m m4 _ M T _ HO4.out.segs (Nat.le_refl _) d4 D1.out D2.out).mono ?_
        rintro e w5 ⟨rfl, hb5⟩
        rw [← HTX.out]
        have HX5 := hide (HX4.out.next hb5)
        have HP5 := hide (HP4.out.next hb5)
        clear hb5 HO4
        obtain ⟨x0, x1, x2, x3⟩ := HP5.out.cells
        have k3 := frozen_of_row w5 w1.heap.size 3 _ _ HP5.out.1
        have HP6 := hide (HP5.out.text s)
        have HX6 := hide (HX5.out.other (b := w1.heap.size) HLT.out 3 (.string s))
        obtain ⟨w6, hw6⟩ : ∃ w6, w5.setCell ⟨w1.heap.size, 3, none⟩ (.string s) = w6 := ⟨_, rfl⟩
        rw [hw6] at HP6 HX6
        obtain ⟨y0, y1, y2, y3⟩ := HP6.out.cells
        go_wp2_with fail
        refine (HPA.out _).mono ?_
        rintro e _ ⟨rfl, rfl⟩
        have k2 := frozen_of_row w6 w1.heap.size 2 _ _ HP6.out.1
        have HP7 := hide (HP6.out.par q)
        have HX7 := hide (HX6.out.other (b := w1.heap.size) HLT.out 2 (.int .i64 q))
        clear hw6
        obtain ⟨w7, hw7⟩ : ∃ w7, w6.setCell ⟨w1.heap.size, 2, none⟩ (.int .i64 q) = w7 := ⟨_, rfl⟩
        rw [hw7] at HP7 HX7
        obtain ⟨v0, v1, v2, v3⟩ := HP7.out.cells
        obtain ⟨z0, z1, z2, z3⟩ := HX7.out.cells
        have g0 := frozen_of_row w7 w0.heap.size 0 _ _ HX7.out.1
        have g1 := frozen_of_row w7 w0.heap.size 1 _ _ HX7.out.1
        have g2 := frozen_of_row w7 w0.heap.size 2 _ _ HX7.out.1
        have g3 := frozen_of_row w7 w0.heap.size 3 _ _ HX7.out.1
        have HXp := hide (HX7.out.put ⟨0, 1, q, s⟩)
        go_wp2_with fail
        obtain ⟨d0, d1, d2, d3⟩ := HXp.out.cells
        unfold setPt at d0 d1 d2 d3
        simp only at d0 d1 d2 d3
        exact bodyPost_ret (v := .tuple #[.agg #[.int .i64 0, .int .i64 1, .int .i64 q, .string s], .int .i64 0]) (by simp [results, Try.results16, go_sem, d0, d1, d2, d3]) rfl ⟨rfl, HW0.out.trans (HXp.out.2.mono HW0.out.size)⟩
      · rw [HN.out hK0]
        go_enter Try.func16, Try.ntmps16
        go_wp2_with fail
        refine HE.out.mono ?_
        rintro e w1 ⟨A1, m1, rfl, hm1, ho1, hb1⟩
        have HX1 := hide (HX.out.next hb1)
        have HO1 := hide ho1
        clear hb1 ho1 e0 e1 e2
        obtain ⟨w0, hw0⟩ : ∃ w0, w.alloc (.cells #[.int .i64 p, .int .i64 k, .int .i64 g] 36) = w0 := ⟨_, rfl⟩
        rw [hw0] at HX1 HW0 hz0 HO1
        rw [← hz0]
        clear hw0 hz0
        have HI1 := hide (show Ints .i64 w1 w1.heap.size A1 N ys from by rw [← HNN.out]; exact HO1.out.ints)
        rw [hN] at HO1 hm1 ⊢
        clear HO1
        have HP2 := hide (Box4.start w1 26 0 1 0 ⟨#[]⟩)
        have HX2 := hide (HX1.out.next HP2.out.2)
        have HI2 := hide (HI1.out.below HP2.out.2)
        have HLT := hide HX1.out.lt
        have hs12 := HP2.out.2.size
        obtain ⟨w2, hw2⟩ : ∃ w2, w1.alloc (.cells #[.int .i64 0, .int .i64 1, .int .i64 0, .string ⟨#[]⟩] 26) = w2 := ⟨_, rfl⟩
        rw [hw2] at HP2 HX2 HI2 hs12
        have HWE := hide hw2
        clear hw2
        go_wp2_with fail
        rw [HWE.out]
        refine (HPG0.out A1 m1 _ w2 HI2.out hs12).mono ?_
        rintro e w4 ⟨A4, m4, rfl, hm4, hm4', ho4, hb4⟩
        have HX4 := hide (HX2.out.next hb4)
        have HP4 := hide (HP2.out.next hb4)
        have HO4 := hide ho4
        clear hb4 ho4
        obtain ⟨z0, z1, z2, z3⟩ := HX4.out.cells
        have g0 := frozen_of_row w4 w0.heap.size 0 _ _ HX4.out.1
        have g1 := frozen_of_row w4 w0.heap.size 1 _ _ HX4.out.1
        have g2 := frozen_of_row w4 w0.heap.size 2 _ _ HX4.out.1
        have g3 := frozen_of_row w4 w0.heap.size 3 _ _ HX4.out.1
        have HXp := hide (HX4.out.put ⟨0, 0, 0, ⟨#[]⟩⟩)
        go_wp2_with fail
        obtain ⟨d0, d1, d2, d3⟩ := HXp.out.cells
        unfold setPt at d0 d1 d2 d3
        simp only at d0 d1 d2 d3
        exact bodyPost_ret (v := .tuple #[.agg #[.int .i64 0, .int .i64 0, .int .i64 0, .string ⟨#[]⟩], .int .i64 K]) (by simp [results, Try.results16, go_sem, d0, d1, d2, d3]) rfl ⟨rfl, HW0.out.trans (HXp.out.2.mono HW0.out.size)⟩
  have h3 : 3 ≤ N := by rcases Nat.lt_or_ge N 3 with h | h
                        · unfold hdB at hh; rw [decide_eq_false (by rw [HNN.out]; omega)] at hh; cases hh
                        · exact h
  have h5 : numVal (ys.take 3) = 5 := by
    unfold hdB at hh
    rw [decide_eq_true (by rw [HNN.out]; exact h3), Bool.true_and] at hh
    exact of_decide_eq_true hh
  have HC0 := hide (fun (A : Option Addr) (c B : Nat) (w : World) hI => HNUM.out 0 3 A c B w hI (by omega) (by omega))
  simp only [List.drop_zero] at HC0
  rw [h5] at HC0
  have h3I : (3 : Int) ≤ (N : Int) := by omega
  obtain ⟨b1, b2, b3⟩ := hd_bd HBT.out
  by_cases h17 : 17 ≤ N
  case neg =>
    obtain ⟨q1, q2⟩ := dt_no hh (fun h => h17 (by rw [← HNN.out]; exact h.1))
    rw [q1, q2]
    have h17I : (N : Int) < 17 := by omega
    clear q1 q2 hh h5 b1 b2 b3
    go_enter Try.func16, Try.ntmps16
    go_wp2_with fail
    refine HE.out.mono ?_
    rintro e w1 ⟨A1, m1, rfl, hm1, ho1, hb1⟩
    have HX1 := hide (HX.out.next hb1)
    have HO1 := hide ho1
    clear hb1 ho1 e0 e1 e2
    obtain ⟨w0, hw0⟩ : ∃ w0, w.alloc (.cells #[.int .i64 p, .int .i64 k, .int .i64 g] 36) = w0 := ⟨_, rfl⟩
    rw [hw0] at HX1 HW0 hz0 HO1
    rw [← hz0]
    clear hw0 hz0
    have HI1 := hide (show Ints .i64 w1 w1.heap.size A1 N ys from by rw [← HNN.out]; exact HO1.out.ints)
    rw [hN] at HO1 hm1 ⊢
    clear HO1
    have HP2 := hide (Box4.start w1 26 0 1 0 ⟨#[]⟩)
    have HX2 := hide (HX1.out.next HP2.out.2)
    have HI2 := hide (HI1.out.below HP2.out.2)
    have HLT := hide HX1.out.lt
    have hs12 := HP2.out.2.size
    obtain ⟨w2, hw2⟩ : ∃ w2, w1.alloc (.cells #[.int .i64 0, .int .i64 1, .int .i64 0, .string ⟨#[]⟩] 26) = w2 := ⟨_, rfl⟩
    rw [hw2] at HP2 HX2 HI2 hs12
    have HWE := hide hw2
    clear hw2
    go_wp2_with fail
    rw [HWE.out]
    refine (HC0.out A1 m1 _ w2 HI2.out).mono ?_
    rintro e _ ⟨rfl, rfl⟩
    obtain ⟨z0, z1, z2, z3⟩ := HX2.out.cells
    have g0 := frozen_of_row w2 w0.heap.size 0 _ _ HX2.out.1
    have g1 := frozen_of_row w2 w0.heap.size 1 _ _ HX2.out.1
    have g2 := frozen_of_row w2 w0.heap.size 2 _ _ HX2.out.1
    have g3 := frozen_of_row w2 w0.heap.size 3 _ _ HX2.out.1
    have HXp := hide (HX2.out.put ⟨0, 0, 0, ⟨#[]⟩⟩)
    go_wp2_with fail
    obtain ⟨d0, d1, d2, d3⟩ := HXp.out.cells
    unfold setPt at d0 d1 d2 d3
    simp only at d0 d1 d2 d3
    exact bodyPost_ret (v := .tuple #[.agg #[.int .i64 0, .int .i64 0, .int .i64 0, .string ⟨#[]⟩], .int .i64 6]) (by simp [results, Try.results16, go_sem, d0, d1, d2, d3]) rfl ⟨rfl, HW0.out.trans (HXp.out.2.mono HW0.out.size)⟩
  have HC1 := hide (fun (A : Option Addr) (c B : Nat) (w : World) hI => HNUM.out 3 3 A c B w hI (by omega) (by omega))
  have HC2 := hide (fun (A : Option Addr) (c B : Nat) (w : World) hI => HNUM.out 6 3 A c B w hI (by omega) (by omega))
  have HC3 := hide (fun (A : Option Addr) (c B : Nat) (w : World) hI => HNUM.out 9 8 A c B w hI (by omega) (by omega))
  have HOK := hide (show hdI ys < hdC ys → hdOk ys from fun h => ⟨by rw [HNN.out]; exact h17, h⟩)
  have HNO := hide (show ¬ hdI ys < hdC ys → ¬ hdOk ys from fun h g => h g.2)
  have HDT := hide (fun h => dt_head hh (HOK.out h))
  have HDN := hide (fun h => dt_no hh (HNO.out h))
  have h17I : ¬ (N : Int) < 17 := by omega
  have hI' : numVal ((ys.drop 3).take 3) = hdI ys := rfl
  have hC' : numVal ((ys.drop 6).take 3) = hdC ys - 1 := by unfold hdC; omega
  have hP' : numVal ((ys.drop 9).take 8) = hdP ys := rfl
  have HY := hide (fun h => hdX_yes (ys := ys) h)
  have HN := hide (fun h => hdX_no (ys := ys) h)
  rw [hI'] at HC1
  rw [hC'] at HC2
  rw [hP'] at HC3
  obtain ⟨i, hi⟩ : ∃ i, hdI ys = i := ⟨_, rfl⟩
  obtain ⟨c', hc'⟩ : ∃ i, hdC ys = i := ⟨_, rfl⟩
  obtain ⟨p', hp'⟩ : ∃ i, hdP ys = i := ⟨_, rfl⟩
  simp only [hi, hc', hp'] at HC1 HC2 HC3 HOK HDT HDN HY b1 b2 b3
  obtain ⟨c1, hc1⟩ : ∃ c1, c' - 1 = c1 := ⟨_, rfl⟩
  have hw1 : IntKind.i64.wrap (c1 + 1) = c' := by rw [IntWalk.i64_in _ ⟨by omega, by omega⟩]; omega
  rw [hc1] at HC2
  clear hh h5 hi hc' hp' hc1 hI' hC' hP' HOK HNO b1 b2 b3
  by_cases hic : i < c'
  case neg =>
    obtain ⟨q1, q2⟩ := HDN.out hic
    rw [q1, q2]
    have hic' : c' ≤ i := by omega
    clear q1 q2 HDN HDT
    go_enter Try.func16, Try.ntmps16
    go_wp2_with fail
    refine HE.out.mono ?_
    rintro e w1 ⟨A1, m1, rfl, hm1, ho1, hb1⟩
    have HX1 := hide (HX.out.next hb1)
    have HO1 := hide ho1
    clear hb1 ho1 e0 e1 e2
    obtain ⟨w0, hw0⟩ : ∃ w0, w.alloc (.cells #[.int .i64 p, .int .i64 k, .int .i64 g] 36) = w0 := ⟨_, rfl⟩
    rw [hw0] at HX1 HW0 hz0 HO1
    rw [← hz0]
    clear hw0 hz0
    have HI1 := hide (show Ints .i64 w1 w1.heap.size A1 N ys from by rw [← HNN.out]; exact HO1.out.ints)
    rw [hN] at HO1 hm1 ⊢
    clear HO1
    have HP2 := hide (Box4.start w1 26 0 1 0 ⟨#[]⟩)
    have HX2 := hide (HX1.out.next HP2.out.2)
    have HI2 := hide (HI1.out.below HP2.out.2)
    have HLT := hide HX1.out.lt
    have hs12 := HP2.out.2.size
    obtain ⟨w2, hw2⟩ : ∃ w2, w1.alloc (.cells #[.int .i64 0, .int .i64 1, .int .i64 0, .string ⟨#[]⟩] 26) = w2 := ⟨_, rfl⟩
    rw [hw2] at HP2 HX2 HI2 hs12
    have HWE := hide hw2
    clear hw2
    go_wp2_with fail
    rw [HWE.out]
    refine (HC0.out A1 m1 _ w2 HI2.out).mono ?_
    rintro e _ ⟨rfl, rfl⟩
    go_wp2_with fail
    refine (HC1.out A1 m1 _ w2 HI2.out).mono ?_
    rintro e _ ⟨rfl, rfl⟩
    go_wp2_with fail
    refine (HC2.out A1 m1 _ w2 HI2.out).mono ?_
    rintro e _ ⟨rfl, rfl⟩
    go_wp2_with fail
    refine (HC3.out A1 m1 _ w2 HI2.out).mono ?_
    rintro e _ ⟨rfl, rfl⟩
    obtain ⟨u0, u1, u2, u3⟩ := HP2.out.cells
    have f0 := frozen_of_row w2 w1.heap.size 0 _ _ HP2.out.1
    have f1 := frozen_of_row w2 w1.heap.size 1 _ _ HP2.out.1
    have f2 := frozen_of_row w2 w1.heap.size 2 _ _ HP2.out.1
    have f3 := frozen_of_row w2 w1.heap.size 3 _ _ HP2.out.1
    have HP3 := hide (HP2.out.put ⟨i, c', p', ⟨#[]⟩⟩)
    have HX3 := hide (HX2.out.otherPut HLT.out ⟨i, c', p', ⟨#[]⟩⟩)
    have HI3 := hide (HI1.out.below HP3.out.2)
    have hs13 := HP3.out.2.size
    obtain ⟨w3, hw3⟩ : ∃ w3, (((w2.setCell ⟨w1.heap.size, 0, none⟩ (.int .i64 i)).setCell ⟨w1.heap.size, 1, none⟩ (.int .i64 c')).setCell ⟨w1.heap.size, 2, none⟩ (.int .i64 p')).setCell ⟨w1.heap.size, 3, none⟩ (.string ⟨#[]⟩) = w3 := ⟨_, rfl⟩
    unfold setPt at HP3 HX3 HI3 hs13
    simp only [hw3] at HP3 HX3 HI3 hs13
    obtain ⟨r0, r1, r2, r3⟩ := HP3.out.cells
    obtain ⟨z0, z1, z2, z3⟩ := HX3.out.cells
    have g0 := frozen_of_row w3 w0.heap.size 0 _ _ HX3.out.1
    have g1 := frozen_of_row w3 w0.heap.size 1 _ _ HX3.out.1
    have g2 := frozen_of_row w3 w0.heap.size 2 _ _ HX3.out.1
    have g3 := frozen_of_row w3 w0.heap.size 3 _ _ HX3.out.1
    have HXp := hide (HX3.out.put ⟨0, 0, 0, ⟨#[]⟩⟩)
    go_wp2_with fail
    obtain ⟨d0, d1, d2, d3⟩ := HXp.out.cells
    unfold setPt at d0 d1 d2 d3
    simp only at d0 d1 d2 d3
    exact bodyPost_ret (v := .tuple #[.agg #[.int .i64 0, .int .i64 0, .int .i64 0, .string ⟨#[]⟩], .int .i64 6]) (by simp [results, Try.results16, go_sem, d0, d1, d2, d3]) rfl ⟨rfl, HW0.out.trans (HXp.out.2.mono HW0.out.size)⟩
  obtain ⟨q1, q2⟩ := HDT.out hic
  rw [q1, q2]
  have hic' : ¬ c' ≤ i := by omega
  clear q1 q2 HDN HDT
  obtain ⟨d1, d2, d3, d4⟩ := tx_js HBD.out
  have HTX := hide (show txC (ys.drop 17) = jn (spT (ys.drop 17)) (sgF (ys.drop 17)).1 from rfl)
  unfold PgPost at HPG1
  obtain ⟨m, hm⟩ : ∃ m, (sgF (ys.drop 17)).1 = m := ⟨_, rfl⟩
  obtain ⟨T, hT⟩ : ∃ T, spT (ys.drop 17) = T := ⟨_, rfl⟩
  obtain ⟨M, hM⟩ : ∃ M, spM (ys.drop 17) = M := ⟨_, rfl⟩
  obtain ⟨K, hK⟩ : ∃ K, (sgF (ys.drop 17)).2 = K := ⟨_, rfl⟩
  obtain ⟨s, hs⟩ : ∃ s, txC (ys.drop 17) = s := ⟨_, rfl⟩
  simp only [hm, hT, hM, hK, hs] at HPG1 HY HN HTX d1 d2 d3 d4
  have D1 := hide d1
  have D2 := hide d2
  rw [hK]
  clear hm hT hM hK hs d1 d2 d3
  by_cases hK0 : K = 0
  · subst hK0
    rw [HY.out rfl]
    go_enter Try.func16, Try.ntmps16
    go_wp2_with fail
    refine HE.out.mono ?_
    rintro e w1 ⟨A1, m1, rfl, hm1, ho1, hb1⟩
    have HX1 := hide (HX.out.next hb1)
    have HO1 := hide ho1
    clear hb1 ho1 e0 e1 e2
    obtain ⟨w0, hw0⟩ : ∃ w0, w.alloc (.cells #[.int .i64 p, .int .i64 k, .int .i64 g] 36) = w0 := ⟨_, rfl⟩
    rw [hw0] at HX1 HW0 hz0 HO1
    rw [← hz0]
    clear hw0 hz0
    have HI1 := hide (show Ints .i64 w1 w1.heap.size A1 N ys from by rw [← HNN.out]; exact HO1.out.ints)
    rw [hN] at HO1 hm1 ⊢
    clear HO1
    have HP2 := hide (Box4.start w1 26 0 1 0 ⟨#[]⟩)
    have HX2 := hide (HX1.out.next HP2.out.2)
    have HI2 := hide (HI1.out.below HP2.out.2)
    have HLT := hide HX1.out.lt
    have hs12 := HP2.out.2.size
    obtain ⟨w2, hw2⟩ : ∃ w2, w1.alloc (.cells #[.int .i64 0, .int .i64 1, .int .i64 0, .string ⟨#[]⟩] 26) = w2 := ⟨_, rfl⟩
    rw [hw2] at HP2 HX2 HI2 hs12
    have HWE := hide hw2
    clear hw2
    go_wp2_with fail
    rw [HWE.out]
    refine (HC0.out A1 m1 _ w2 HI2.out).mono ?_
    rintro e _ ⟨rfl, rfl⟩
    go_wp2_with fail
    refine (HC1.out A1 m1 _ w2 HI2.out).mono ?_
    rintro e _ ⟨rfl, rfl⟩
    go_wp2_with fail
    refine (HC2.out A1 m1 _ w2 HI2.out).mono ?_
    rintro e _ ⟨rfl, rfl⟩
    go_wp2_with fail
    refine (HC3.out A1 m1 _ w2 HI2.out).mono ?_
    rintro e _ ⟨rfl, rfl⟩
    obtain ⟨u0, u1, u2, u3⟩ := HP2.out.cells
    have f0 := frozen_of_row w2 w1.heap.size 0 _ _ HP2.out.1
    have f1 := frozen_of_row w2 w1.heap.size 1 _ _ HP2.out.1
    have f2 := frozen_of_row w2 w1.heap.size 2 _ _ HP2.out.1
    have f3 := frozen_of_row w2 w1.heap.size 3 _ _ HP2.out.1
    have HP3 := hide (HP2.out.put ⟨i, c', p', ⟨#[]⟩⟩)
    have HX3 := hide (HX2.out.otherPut HLT.out ⟨i, c', p', ⟨#[]⟩⟩)
    have HI3 := hide (HI1.out.below HP3.out.2)
    have hs13 := HP3.out.2.size
    obtain ⟨w3, hw3⟩ : ∃ w3, (((w2.setCell ⟨w1.heap.size, 0, none⟩ (.int .i64 i)).setCell ⟨w1.heap.size, 1, none⟩ (.int .i64 c')).setCell ⟨w1.heap.size, 2, none⟩ (.int .i64 p')).setCell ⟨w1.heap.size, 3, none⟩ (.string ⟨#[]⟩) = w3 := ⟨_, rfl⟩
    unfold setPt at HP3 HX3 HI3 hs13
    simp only [hw3] at HP3 HX3 HI3 hs13
    obtain ⟨r0, r1, r2, r3⟩ := HP3.out.cells
    go_wp2_with fail
    refine (HPG1.out A1 m1 _ w3 HI3.out hs13 h17).mono ?_
    rintro e w4 ⟨A4, m4, rfl, hm4, hm4', ho4, hb4⟩
    have HX4 := hide (HX3.out.next hb4)
    have HP4 := hide (HP3.out.next hb4)
    have HO4 := hide ho4
    clear hb4 ho4
    go_wp2_with fail
    refine (specL11J A4 m m4 _ M T _ HO4.out.segs (Nat.le_refl _) d4 D1.out D2.out).mono ?_
    rintro e w5 ⟨rfl, hb5⟩
    rw [← HTX.out]
    have HX5 := hide (HX4.out.next hb5)
    have HP5 := hide (HP4.out.next hb5)
    clear hb5 HO4
    obtain ⟨x0, x1, x2, x3⟩ := HP5.out.cells
    have k3 := frozen_of_row w5 w1.heap.size 3 _ _ HP5.out.1
    have HP6 := hide (HP5.out.text s)
    have HX6 := hide (HX5.out.other (b := w1.heap.size) HLT.out 3 (.string s))
    obtain ⟨w6, hw6⟩ : ∃ w6, w5.setCell ⟨w1.heap.size, 3, none⟩ (.string s) = w6 := ⟨_, rfl⟩
    rw [hw6] at HP6 HX6
    obtain ⟨y0, y1, y2, y3⟩ := HP6.out.cells
    obtain ⟨z0, z1, z2, z3⟩ := HX6.out.cells
    have g0 := frozen_of_row w6 w0.heap.size 0 _ _ HX6.out.1
    have g1 := frozen_of_row w6 w0.heap.size 1 _ _ HX6.out.1
    have g2 := frozen_of_row w6 w0.heap.size 2 _ _ HX6.out.1
    have g3 := frozen_of_row w6 w0.heap.size 3 _ _ HX6.out.1
    have HXp := hide (HX6.out.put ⟨i, c', p', s⟩)
    go_wp2_with fail
    obtain ⟨d0, d1, d2, d3⟩ := HXp.out.cells
    unfold setPt at d0 d1 d2 d3
    simp only at d0 d1 d2 d3
    exact bodyPost_ret (v := .tuple #[.agg #[.int .i64 i, .int .i64 c', .int .i64 p', .string s], .int .i64 0]) (by simp [results, Try.results16, go_sem, d0, d1, d2, d3]) rfl ⟨rfl, HW0.out.trans (HXp.out.2.mono HW0.out.size)⟩
  · rw [HN.out hK0]
    go_enter Try.func16, Try.ntmps16
    go_wp2_with fail
    refine HE.out.mono ?_
    rintro e w1 ⟨A1, m1, rfl, hm1, ho1, hb1⟩
    have HX1 := hide (HX.out.next hb1)
    have HO1 := hide ho1
    clear hb1 ho1 e0 e1 e2
    obtain ⟨w0, hw0⟩ : ∃ w0, w.alloc (.cells #[.int .i64 p, .int .i64 k, .int .i64 g] 36) = w0 := ⟨_, rfl⟩
    rw [hw0] at HX1 HW0 hz0 HO1
    rw [← hz0]
    clear hw0 hz0
    have HI1 := hide (show Ints .i64 w1 w1.heap.size A1 N ys from by rw [← HNN.out]; exact HO1.out.ints)
    rw [hN] at HO1 hm1 ⊢
    clear HO1
    have HP2 := hide (Box4.start w1 26 0 1 0 ⟨#[]⟩)
    have HX2 := hide (HX1.out.next HP2.out.2)
    have HI2 := hide (HI1.out.below HP2.out.2)
    have HLT := hide HX1.out.lt
    have hs12 := HP2.out.2.size
    obtain ⟨w2, hw2⟩ : ∃ w2, w1.alloc (.cells #[.int .i64 0, .int .i64 1, .int .i64 0, .string ⟨#[]⟩] 26) = w2 := ⟨_, rfl⟩
    rw [hw2] at HP2 HX2 HI2 hs12
    have HWE := hide hw2
    clear hw2
    go_wp2_with fail
    rw [HWE.out]
    refine (HC0.out A1 m1 _ w2 HI2.out).mono ?_
    rintro e _ ⟨rfl, rfl⟩
    go_wp2_with fail
    refine (HC1.out A1 m1 _ w2 HI2.out).mono ?_
    rintro e _ ⟨rfl, rfl⟩
    go_wp2_with fail
    refine (HC2.out A1 m1 _ w2 HI2.out).mono ?_
    rintro e _ ⟨rfl, rfl⟩
    go_wp2_with fail
    refine (HC3.out A1 m1 _ w2 HI2.out).mono ?_
    rintro e _ ⟨rfl, rfl⟩
    obtain ⟨u0, u1, u2, u3⟩ := HP2.out.cells
    have f0 := frozen_of_row w2 w1.heap.size 0 _ _ HP2.out.1
    have f1 := frozen_of_row w2 w1.heap.size 1 _ _ HP2.out.1
    have f2 := frozen_of_row w2 w1.heap.size 2 _ _ HP2.out.1
    have f3 := frozen_of_row w2 w1.heap.size 3 _ _ HP2.out.1
    have HP3 := hide (HP2.out.put ⟨i, c', p', ⟨#[]⟩⟩)
    have HX3 := hide (HX2.out.otherPut HLT.out ⟨i, c', p', ⟨#[]⟩⟩)
    have HI3 := hide (HI1.out.below HP3.out.2)
    have hs13 := HP3.out.2.size
    obtain ⟨w3, hw3⟩ : ∃ w3, (((w2.setCell ⟨w1.heap.size, 0, none⟩ (.int .i64 i)).setCell ⟨w1.heap.size, 1, none⟩ (.int .i64 c')).setCell ⟨w1.heap.size, 2, none⟩ (.int .i64 p')).setCell ⟨w1.heap.size, 3, none⟩ (.string ⟨#[]⟩) = w3 := ⟨_, rfl⟩
    unfold setPt at HP3 HX3 HI3 hs13
    simp only [hw3] at HP3 HX3 HI3 hs13
    obtain ⟨r0, r1, r2, r3⟩ := HP3.out.cells
    go_wp2_with fail
    refine (HPG1.out A1 m1 _ w3 HI3.out hs13 h17).mono ?_
    rintro e w4 ⟨A4, m4, rfl, hm4, hm4', ho4, hb4⟩
    have HX4 := hide (HX3.out.next hb4)
    have HP4 := hide (HP3.out.next hb4)
    have HO4 := hide ho4
    clear hb4 ho4
    obtain ⟨z0, z1, z2, z3⟩ := HX4.out.cells
    have g0 := frozen_of_row w4 w0.heap.size 0 _ _ HX4.out.1
    have g1 := frozen_of_row w4 w0.heap.size 1 _ _ HX4.out.1
    have g2 := frozen_of_row w4 w0.heap.size 2 _ _ HX4.out.1
    have g3 := frozen_of_row w4 w0.heap.size 3 _ _ HX4.out.1
    have HXp := hide (HX4.out.put ⟨0, 0, 0, ⟨#[]⟩⟩)
    go_wp2_with fail
    obtain ⟨d0, d1, d2, d3⟩ := HXp.out.cells
    unfold setPt at d0 d1 d2 d3
    simp only at d0 d1 d2 d3
    exact bodyPost_ret (v := .tuple #[.agg #[.int .i64 0, .int .i64 0, .int .i64 0, .string ⟨#[]⟩], .int .i64 K]) (by simp [results, Try.results16, go_sem, d0, d1, d2, d3]) rfl ⟨rfl, HW0.out.trans (HXp.out.2.mono HW0.out.size)⟩

/-- DecodePart, of both. -/
theorem dpt_both (p k g : Int) (z : List Int) (hz : z.length ≤ 1048576) : ∃ (x : PtV) (c : Int), 
    (∀ (A : Option Addr) (m c0 B : Nat) (w : World), Ints .i64 w B A m z → B ≤ w.heap.size → Calls Try.prog 16 #[.agg #[.int .i64 p, .int .i64 k, .int .i64 g], .slice A m c0] w (GivPC x c w)) ∧
    (∀ (A : Option Addr) (m c0 B : Nat) (w : World), Ints .i64 w B A m z → B ≤ w.heap.size → Calls Try.prog 19 #[.agg #[.int .i64 p, .int .i64 k, .int .i64 g], .slice A m c0] w (GivPC x c w)) := by
  rcases hb : fieldB p k g with _ | _
  · exact ⟨dtX 1 [], dtK 1 [], fun A n c0 B w hI hB => specDPt A n c0 B z w (fun w _ _ => eb_noS hb A n c0 w) hI hB (fun h => by cases h), fun A n c0 B w hI hB => implDPt A n c0 B z w (fun w _ _ => eb_noI hb A n c0 w) hI hB (fun h => by cases h)⟩
  · obtain ⟨q, mul, γ, hK, _⟩ := fieldB_open hb
    have hbt : ebK q z = 0 → (∀ x ∈ ebR q z, x = 0 ∨ x = 1) ∧ (ebR q z).length ≤ 8192 := fun h => ⟨ebR_bit q z, ebR_len q z⟩
    exact ⟨dtX (ebK q z) (ebR q z), dtK (ebK q z) (ebR q z), fun A n c0 B w hI hB => specDPt A n c0 B z w (fun w hI hB => specEb hb hK A n c0 B z w hI hB (by rw [← hI.len]; exact hz)) hI hB hbt,
      fun A n c0 B w hI hB => implDPt A n c0 B z w (fun w hI hB => implEb hb hK A n c0 B z w hI hB (by rw [← hI.len]; exact hz)) hI hB hbt⟩
end Go.Proofs.Ythbmfaogjaahoaa
