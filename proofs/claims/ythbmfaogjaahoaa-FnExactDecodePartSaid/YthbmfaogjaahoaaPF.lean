/-
  The segments of a payload's bits: what is read one behind the other.
  PayloadSegments, of both.
  Condition: as each statement says.
-/
import Derived.Test.YthbmfaogjaahoaaPA
import Derived.Test.YthbmfaogjaahoaaPC
import Derived.Test.YthbmfaogjaahoaaPD
import Derived.Test.YthbmfaogjaahoaaSqN
namespace Go.Proofs.Ythbmfaogjaahoaa
open Go Go.RowKit
set_option linter.unusedSimpArgs false
set_option linter.unusedVariables false

/-- Where the k-th segment begins; the modes, texts and the total size of what was read. -/
noncomputable def spos (zs : List Int) : Nat → Nat
  | 0 => 0
  | k + 1 => (rdE zs (spos zs k)).toNat
noncomputable def spM (zs : List Int) (k : Nat) : Int := rdM zs (spos zs k)
noncomputable def spT (zs : List Int) (k : Nat) : ByteArray := rdS zs (spos zs k)
noncomputable def stot (zs : List Int) : Nat → Nat
  | 0 => 0
  | k + 1 => stot zs k + (spT zs k).size
def sgo (zs : List Int) (p : Nat) : Prop := p + 3 ≤ zs.length ∧ numVal ((zs.drop p).take 3) ≠ 0
open Classical in
/-- How many segments are read, and the code. -/
noncomputable def sgR (zs : List Int) : Nat → Nat → Nat × Int
  | 0, k => (0, 0)
  | f + 1, k => if sgo zs (spos zs k) then (if rdB zs (spos zs k) then (if 400 < stot zs (k + 1) then (0, 3) else sgR zs f (k + 1)) else (0, 6)) else (k, 0)
noncomputable def sgF (zs : List Int) : Nat × Int := sgR zs 8193 0
theorem sg_stop {zs : List Int} {f k : Nat} (h : sgF zs = sgR zs (f + 1) k) (hn : ¬ sgo zs (spos zs k)) : sgF zs = (k, 0) := by rw [h, sgR, if_neg hn]
theorem sg_bad {zs : List Int} {f k : Nat} (h : sgF zs = sgR zs (f + 1) k) (hn : sgo zs (spos zs k)) (hb : rdB zs (spos zs k) = false) : sgF zs = (0, 6) := by
  rw [h, sgR, if_pos hn, hb]; rfl
theorem sg_long {zs : List Int} {f k : Nat} (h : sgF zs = sgR zs (f + 1) k) (hn : sgo zs (spos zs k)) (hb : rdB zs (spos zs k) = true) (hl : 400 < stot zs (k + 1)) : sgF zs = (0, 3) := by
  rw [h, sgR, if_pos hn, hb, if_pos rfl, if_pos hl]
theorem sg_next {zs : List Int} {f k : Nat} (h : sgF zs = sgR zs (f + 1) k) (hn : sgo zs (spos zs k)) (hb : rdB zs (spos zs k) = true) (hl : ¬ 400 < stot zs (k + 1)) : sgF zs = sgR zs f (k + 1) := by
  rw [h, sgR, if_pos hn, hb, if_pos rfl, if_neg hl]
/-- What a step of the reading needs. -/
theorem sg_step {zs : List Int} {k p : Nat} (hp : p = spos zs k) (hbt : ∀ x ∈ zs, x = 0 ∨ x = 1) (h : rdB zs p = true) : (1 ≤ rdM zs p ∧ rdM zs p ≤ 4) ∧ (rdS zs p).size ≤ 255 ∧ 1 ≤ (rdS zs p).size ∧
    rdE zs p = ((p + slen (rdM zs p) (rdS zs p).size : Nat) : Int) ∧ slen (rdM zs p) (rdS zs p).size ≤ 2827 ∧ p + slen (rdM zs p) (rdS zs p).size ≤ zs.length ∧ p + slen (rdM zs p) (rdS zs p).size = spos zs (k + 1) ∧ 1 ≤ slen (rdM zs p) (rdS zs p).size ∧
    spM zs k = rdM zs p ∧ spT zs k = rdS zs p ∧ stot zs (k + 1) = stot zs k + (rdS zs p).size := by
  obtain ⟨h1, h2, h3, h4, h5⟩ := rd_nums hbt h
  have hsl : 1 ≤ slen (rdM zs p) (rdS zs p).size := by
    have : slen (rdM zs p) (rdS zs p).size = 11 + twid (rdM zs p) (rdS zs p).size := rfl
    omega
  have hs1 : 1 ≤ (rdS zs p).size := by
    have hr : RdIs zs p := by
      by_cases q : RdIs zs p
      · exact q
      · rw [(rd_no q).1] at h; cases h
    obtain ⟨_, _, g3, _⟩ := rd_yes hr
    obtain ⟨_, _, _, q4, _, _⟩ := hr
    have hgn : rdN0 zs p ≤ gct (gsz (rdM0 zs p)) (rdN0 zs p) * gsz (rdM0 zs p) := by
      rcases Nat.lt_or_ge (gct (gsz (rdM0 zs p)) (rdN0 zs p) * gsz (rdM0 zs p)) (rdN0 zs p) with h | h
      · have := (gct_lt (gsz_pos (rdM0 zs p))).2 h; omega
      · exact h
    rw [g3, strOf_size, rdT_len _ _ _ _ _ (Nat.le_refl _)]; omega
  refine ⟨h1, h2, hs1, h3, h4, h5, ?_, hsl, by rw [spM, ← hp], by rw [spT, ← hp], by rw [stot, spT, ← hp]⟩
  rw [spos, ← hp, h3, Int.toNat_natCast]
theorem sg_cells {zs : List Int} {k : Nat} {m : Int} {s : ByteArray} (hm : spM zs k = m) (hs : spT zs k = s) : segV (spM zs) (spT zs) (k * 2) = .int .i64 m ∧ segV (spM zs) (spT zs) (k * 2 + 1) = .string s := by
  obtain ⟨h1, h2⟩ := segV_at (spM zs) (spT zs) k
  rw [h1, h2, hm, hs]; exact ⟨rfl, rfl⟩
def PgPost (zs : List Int) (w : World) (x : Ending) (w' : World) : Prop := NewSI (sgF zs).1 (spM zs) (spT zs) (sgF zs).2 w x w'
theorem pg_no {zs : List Int} {c : Int} (h : sgF zs = (0, c)) {w w' : World} (hb : Below w.heap.size w w') : PgPost zs w (.returned (.tuple #[.slice none 0 0, .int .i64 c])) w' := by
  unfold PgPost; rw [h]
  exact ⟨none, 0, rfl, Nat.le_refl _, by omega, OwnS.nil _ _ _, hb⟩
theorem pg_yes {zs : List Int} {k : Nat} (h : sgF zs = (k, 0)) {w w' : World} {v : Value} (ho : OwnS w' w.heap.size v k (segV (spM zs) (spT zs))) (hb : Below w.heap.size w w') : PgPost zs w (.returned (.tuple #[v, .int .i64 0])) w' := by
  unfold PgPost; rw [h]
  obtain ⟨A, c, rfl, hc1, hc2⟩ := ho.form0
  exact ⟨A, c, rfl, hc1, hc2, ho, hb⟩
/-- Between two rounds of the model. -/
def PsRel (w : World) (zs : List Int) (at' v tot : Value) (wr : World) : Prop :=
  ∃ k p t f : Nat, Hid (p = spos zs k) ∧ Hid (t = stot zs k) ∧ k ≤ p ∧ p ≤ zs.length ∧ t ≤ 400 ∧ at' = .int .i64 p ∧ tot = .int .i64 t ∧ Hid (sgF zs = sgR zs f k) ∧ zs.length < f + p ∧
    OwnS wr w.heap.size v k (segV (spM zs) (spT zs)) ∧ Below w.heap.size w wr
/-- Between two rounds of the program. -/
def PiRel (w : World) (B : Nat) (zs : List Int) (lv v tot : Value) (wr : World) : Prop :=
  ∃ (k p t f : Nat) (A : Option Addr) (n c : Nat), Hid (p = spos zs k) ∧ Hid (t = stot zs k) ∧ k ≤ p ∧ p ≤ zs.length ∧ t ≤ 400 ∧ lv = .slice A n c ∧ n + p = zs.length ∧ n ≤ c ∧ c ≤ 9223372036854775807 ∧ Hid (Ints .i64 w B A n (zs.drop p)) ∧ tot = .int .i64 t ∧
    Hid (sgF zs = sgR zs f k) ∧ zs.length < f + p ∧ OwnS wr w.heap.size v k (segV (spM zs) (spT zs)) ∧ Below w.heap.size w wr

set_option maxRecDepth 100000 in
set_option maxHeartbeats 4000000 in
theorem specPg (A : Option Addr) (n c B : Nat) (zs : List Int) (w : World) (hI : Ints .i64 w B A n zs) (hB : B ≤ w.heap.size) (hn : n ≤ 8192) (hbt : ∀ x ∈ zs, x = 0 ∨ x = 1) :
    Calls Try.prog 44 #[.slice A n c, .int .i64 0] w (PgPost zs w) := by
  have HI := hide hI
  have hl := hide hI.len
  have HBT := hide hbt
  have HO := hide (show OwnS (w.alloc (.cells #[] 107)) w.heap.size (.slice (some ⟨w.heap.size, 0, none⟩) 0 0) 0 (segV (spM zs) (spT zs)) from World.ownsRow_lit (base := w.heap.size) (size := 2) (e := 107) w #[] 0 (Nat.le_refl _) (by decide) rfl)
  have HB := hide ((Below.refl w.heap.size w).alloc (Nat.le_refl _) (.cells #[] 107))
  clear hI hbt
  go_enter Try.func44, Try.ntmps44
  go_wp2_with fail
  go_loopw [1, 6, 7] (fun at' v tot wr => PsRel w zs at' v tot wr) (fun at' _ _ _ => n + 1 - (intOf at').toNat)
  case atStart => exact ⟨0, 0, 0, 8193, rfl, rfl, Nat.le_refl _, Nat.zero_le _, by omega, rfl, rfl, rfl, by rw [hl.out]; omega, HO.out, HB.out⟩
  case round =>
    clear HO HB
    obtain ⟨k, p, t, f, hp, ht, hkp, hpl, ht4, rfl, rfl, hf, hfl, ho, hb⟩ := hrel
    have HP := hp
    have HT := ht
    have HF := hf
    have HO := hide ho
    have HB := hide hb
    obtain ⟨v, rfl⟩ : ∃ v : Value, v = u6 := ⟨_, rfl⟩
    rw [hl.out] at hpl hfl
    obtain ⟨f, rfl⟩ : ∃ f', f = f' + 1 := ⟨f - 1, by omega⟩
    clear hp ht hf ho hb
    obtain ⟨p3, hp3⟩ : ∃ p3, p + 3 = p3 := ⟨_, rfl⟩
    have hw3 : IntKind.i64.wrap ((p : Int) + 3) = (p3 : Int) := by rw [IntWalk.i64_in _ ⟨by omega, by omega⟩]; omega
    by_cases hle : p3 ≤ n
    case neg =>
      have HR := hide (sg_stop HF.out (fun h => hle (by have := h.1; rw [hl.out, ← HP.out] at this; omega)))
      go_wp2_with fail
      go_ret2
      exact pg_yes HR.out HO.out HB.out
    obtain ⟨M, hM⟩ : ∃ M, numVal ((zs.drop p).take 3) = M := ⟨_, rfl⟩
    have HN := hide (fun w' (hI' : Ints .i64 w' B A n zs) => show Calls Try.prog 43 #[.slice A n c, .int .i64 (p : Int), .int .i64 ((3 : Nat) : Int)] w' (fun e w'' => e = .returned (.int .i64 M) ∧ w' = w'') by rw [← hM]; exact specNumber A n c B p 3 zs w' hI' (by omega) (by omega) (by omega) HBT.out)
    have HM := hide hM
    clear hM
    go_wp2_with fail
    refine (HN.out _ (HI.out.below (HB.out.mono hB))).mono ?_
    rintro e _ ⟨rfl, rfl⟩
    by_cases hM0 : M = 0
    · subst hM0
      have HR := hide (sg_stop HF.out (fun h => h.2 (by rw [← HP.out]; exact HM.out)))
      go_wp2_with fail
      go_ret2
      exact pg_yes HR.out HO.out HB.out
    have HGO := hide (show sgo zs (spos zs k) from ⟨by rw [← HP.out, hl.out]; omega, by rw [← HP.out, HM.out]; exact hM0⟩)
    have HRD := hide (fun w' hI' hB' => specL9 A n c B zs p w' hI' hB' hn hpl HBT.out)
    unfold RdPost at HRD
    rcases hb : rdB zs p with _ | _
    · have HR := hide (sg_bad HF.out HGO.out (by rw [← HP.out]; exact hb))
      rw [hb] at HRD
      clear hb
      go_wp2_with fail
      refine (HRD.out _ (HI.out.below (HB.out.mono hB)) (Nat.le_trans hB HB.out.size)).mono ?_
      rintro e w1 ⟨rfl, hb1⟩
      have HB1 := hide (HB.out.trans (hb1.mono HB.out.size))
      have HB2 := hide (fun o => HB1.out.alloc HB1.out.size o)
      clear hb1
      go_wp2_with fail
      go_ret2
      exact pg_no HR.out (HB2.out _)
    · obtain ⟨s1, s2, s3, s4, s5, s6, s7, s8, s9, s10, s11⟩ := sg_step HP.out HBT.out hb
      have HL4 := hide (fun h => sg_long HF.out HGO.out (by rw [← HP.out]; exact hb) h)
      have HNX := hide (fun h => sg_next HF.out HGO.out (by rw [← HP.out]; exact hb) h)
      rw [hb] at HRD
      obtain ⟨m, hm⟩ : ∃ m, rdM zs p = m := ⟨_, rfl⟩
      obtain ⟨s, hs⟩ : ∃ s, rdS zs p = s := ⟨_, rfl⟩
      obtain ⟨q, hq⟩ : ∃ q, rdE zs p = q := ⟨_, rfl⟩
      simp only [hm, hs, hq] at s1 s2 s3 s4 s5 s6 s7 s8 s9 s10 s11 HRD
      obtain ⟨L, hL⟩ : ∃ L, slen m s.size = L := ⟨_, rfl⟩
      simp only [hL] at s4 s5 s6 s7 s8
      obtain ⟨p2, hp2⟩ : ∃ p2, p + L = p2 := ⟨_, rfl⟩
      simp only [hp2] at s4 s6 s7
      subst s4
      obtain ⟨t2, ht2⟩ : ∃ t2, t + s.size = t2 := ⟨_, rfl⟩
      have HT2 := hide (show t2 = stot zs (k + 1) by rw [s11, ← HT.out]; exact ht2.symm)
      have HP2 := hide s7
      have HC := hide (sg_cells s9 s10)
      rw [← HT2.out] at HL4 HNX
      rw [hl.out] at s6
      have hwt : IntKind.i64.wrap ((t : Int) + (s.size : Int)) = (t2 : Int) := by rw [IntWalk.i64_in _ ⟨by omega, by omega⟩]; omega
      clear hb hm hs hq hL s7 s9 s10 s11
      go_wp2_with fail
      refine (HRD.out _ (HI.out.below (HB.out.mono hB)) (Nat.le_trans hB HB.out.size)).mono ?_
      rintro e w1 ⟨rfl, hb1⟩
      have HB1 := hide (HB.out.trans (hb1.mono HB.out.size))
      have HO1 := hide (HO.out.next hb1)
      have HX1 := hide (SBox.start w1 107 m s)
      clear hb1
      obtain ⟨c0, c1⟩ := HX1.out.cells
      by_cases hl4 : 400 < t2
      · have HR := hide (HL4.out hl4)
        have HB2 := hide (fun o => HB1.out.alloc HB1.out.size o)
        go_wp2_with fail
        go_ret2
        exact pg_no HR.out (HB2.out _)
      · have HR := hide (HNX.out hl4)
        have HB2 := hide (HB1.out.alloc HB1.out.size (.cells #[.int .i64 m, .string s] 107))
        have HO2 := hide (HO1.out.next ((Below.refl w1.heap.size w1).alloc (Nat.le_refl _) (.cells #[.int .i64 m, .string s] 107)))
        obtain ⟨wa, hwa⟩ : ∃ wa, w1.alloc (.cells #[.int .i64 m, .string s] 107) = wa := ⟨_, rfl⟩
        rw [hwa] at HX1 HB2 HO2 c0 c1
        go_wp2_with (at_builtin; refine wpList_appSeg rfl wa rfl (.tmp 39) (.tmp 41) rfl rfl HO2.out _ _ HC.out rfl (by omega) HB2.out.size ?_; intro v' w' h1 h2; have HO3 := hide h1; have HB3 := hide (HB2.out.grown h2 HB2.out.size (fun g hg => ((World.ownsRow.lt HO2.out) g hg).1)); clear h1 h2)
        refine ⟨⟨k + 1, p2, t2, f, HP2, HT2, by omega, by rw [hl.out]; omega, by omega, rfl, rfl, HR, by rw [hl.out]; omega, HO3.out, HB3.out⟩, ?_⟩
        simp [intOf]; omega

set_option maxRecDepth 100000 in
set_option maxHeartbeats 4000000 in
theorem implPg (A : Option Addr) (n c B : Nat) (zs : List Int) (w : World) (hI : Ints .i64 w B A n zs) (hB : B ≤ w.heap.size) (hn : n ≤ 8192) (hc : n ≤ c) (hcc : c ≤ 9223372036854775807) (hbt : ∀ x ∈ zs, x = 0 ∨ x = 1) :
    Calls Try.prog 76 #[.slice A n c] w (PgPost zs w) := by
  have HI := hide hI
  have hl := hide hI.len
  have HBT := hide hbt
  clear hI hbt
  go_enter Try.func76, Try.ntmps76
  go_wp2_with fail
  go_loopw [0, 4, 5] (fun lv v tot wr => PiRel w B zs lv v tot wr) (fun lv _ _ _ => match lv with | .slice _ m _ => m | _ => 0)
  case atStart => exact ⟨0, 0, 0, 8193, A, n, c, rfl, rfl, Nat.le_refl _, Nat.zero_le _, by omega, rfl, by rw [hl.out]; rfl, hc, hcc, HI.out, rfl, rfl, by rw [hl.out]; omega, OwnS.nil _ _ _, Below.refl _ _⟩
  case round =>
    clear HI
    obtain ⟨k, p, t, f, A, m0, c0, hp, ht, hkp, hpl, ht4, rfl, hnp, hnc, hcc', hi, rfl, hf, hfl, ho, hb⟩ := hrel
    have HP := hp
    have HT := ht
    have HF := hf
    have HI := hi
    have HO := hide ho
    have HB := hide hb
    obtain ⟨v, rfl⟩ : ∃ v : Value, v = u4 := ⟨_, rfl⟩
    rw [hl.out] at hpl hfl hnp
    obtain ⟨f, rfl⟩ : ∃ f', f = f' + 1 := ⟨f - 1, by omega⟩
    clear hp ht hf hi ho hb
    have HBD := hide (show ∀ x ∈ zs.drop p, x = 0 ∨ x = 1 from fun x hx => HBT.out x (List.mem_of_mem_drop hx))
    obtain ⟨d1, d2, d3⟩ := dr_eq (zs := zs) (a := p) (by rw [hl.out]; exact hpl)
    have HFS := hide (fun w' hI' hB' => implFirstS rdTextOf A m0 c0 B (zs.drop p) w' hI' hB' (by omega) hnc hcc' HBD.out)
    simp only [d1, d2, d3] at HFS
    clear d1 d2 d3
    by_cases hle : 3 ≤ m0
    case neg =>
      have HR := hide (sg_stop HF.out (fun h => hle (by have := h.1; rw [hl.out, ← HP.out] at this; omega)))
      go_wp2_with fail
      go_ret2
      exact pg_yes HR.out HO.out HB.out
    obtain ⟨M, hM⟩ : ∃ M, numVal ((zs.drop p).take 3) = M := ⟨_, rfl⟩
    obtain ⟨b, off, rfl, hbb, hcl⟩ := HI.out.2 (by omega)
    have h3c : (3 : Int) ≤ (c0 : Int) := by omega
    have HN := hide (fun w' (hI' : Ints .i64 w' B (some ⟨b, off, none⟩) m0 (zs.drop p)) => show Calls Try.prog 75 #[.slice (some ⟨b, off, none⟩) 3 c0] w' (fun e w'' => e = .returned (.int .i64 M) ∧ w' = w'') by
      rw [← hM]; exact implNumberOf _ 3 c0 B ((zs.drop p).take 3) w' (ints_first hI' hle) (by omega) (fun x hx => HBD.out x (List.mem_of_mem_take hx)))
    have HM := hide hM
    clear hM hcl
    go_wp2_with fail
    refine (HN.out _ (HI.out.below (HB.out.mono hB))).mono ?_
    rintro e _ ⟨rfl, rfl⟩
    by_cases hM0 : M = 0
    · subst hM0
      have HR := hide (sg_stop HF.out (fun h => h.2 (by rw [← HP.out]; exact HM.out)))
      go_wp2_with fail
      go_ret2
      exact pg_yes HR.out HO.out HB.out
    have HGO := hide (show sgo zs (spos zs k) from ⟨by rw [← HP.out, hl.out]; omega, by rw [← HP.out, HM.out]; exact hM0⟩)
    rcases hb : rdB zs p with _ | _
    · have HR := hide (sg_bad HF.out HGO.out (by rw [← HP.out]; exact hb))
      rw [hb] at HFS
      clear hb
      go_wp2_with fail
      refine (HFS.out _ (HI.out.below (HB.out.mono hB)) (Nat.le_trans hB HB.out.size)).mono ?_
      rintro e w1 ⟨rfl, hb1⟩
      have HB1 := hide (HB.out.trans (hb1.mono HB.out.size))
      have HB2 := hide (fun o => HB1.out.alloc HB1.out.size o)
      clear hb1
      go_wp2_with fail
      go_ret2
      exact pg_no HR.out (HB2.out _)
    · obtain ⟨s1, s2, s3, s4, s5, s6, s7, s8, s9, s10, s11⟩ := sg_step HP.out HBT.out hb
      have HL4 := hide (fun h => sg_long HF.out HGO.out (by rw [← HP.out]; exact hb) h)
      have HNX := hide (fun h => sg_next HF.out HGO.out (by rw [← HP.out]; exact hb) h)
      rw [hb] at HFS
      obtain ⟨m, hm⟩ : ∃ m, rdM zs p = m := ⟨_, rfl⟩
      obtain ⟨s, hs⟩ : ∃ s, rdS zs p = s := ⟨_, rfl⟩
      simp only [hm, hs] at s1 s2 s3 s4 s5 s6 s7 s8 s9 s10 s11 HFS
      have HLN := hide (implSegLen0 m s s1 s2)
      obtain ⟨L, hL⟩ : ∃ L, slen m s.size = L := ⟨_, rfl⟩
      simp only [hL] at s4 s5 s6 s7 s8 HLN
      obtain ⟨p2, hp2⟩ : ∃ p2, p + L = p2 := ⟨_, rfl⟩
      simp only [hp2] at s4 s6 s7
      obtain ⟨t2, ht2⟩ : ∃ t2, t + s.size = t2 := ⟨_, rfl⟩
      have HT2 := hide (show t2 = stot zs (k + 1) by rw [s11, ← HT.out]; exact ht2.symm)
      have HP2 := hide s7
      have HC := hide (sg_cells s9 s10)
      rw [← HT2.out] at HL4 HNX
      rw [hl.out] at s6
      have hwt : IntKind.i64.wrap ((t : Int) + (s.size : Int)) = (t2 : Int) := by rw [IntWalk.i64_in _ ⟨by omega, by omega⟩]; omega
      have hLm : L ≤ m0 := by omega
      have hcut := cut_rest (some ⟨b, off, none⟩) m0 c0 L hLm
      obtain ⟨A2, hA2⟩ : ∃ A2, subA (some ⟨b, off, none⟩) c0 L = A2 := ⟨_, rfl⟩
      obtain ⟨m2, hm2⟩ : ∃ m2, m0 - L = m2 := ⟨_, rfl⟩
      obtain ⟨c2, hc2⟩ : ∃ c2, c0 - L = c2 := ⟨_, rfl⟩
      have HI2 := hide (show Ints .i64 w B A2 m2 (zs.drop p2) by
        have h := HI.out.tailI hnc hLm
        rw [List.drop_drop, hp2, hA2, hm2] at h; exact h)
      rw [hA2, hm2, hc2] at hcut
      clear hb hm hs hL s4 s7 s9 s10 s11 hA2
      go_wp2_with fail
      refine (HFS.out _ (HI.out.below (HB.out.mono hB)) (Nat.le_trans hB HB.out.size)).mono ?_
      rintro e w1 ⟨rfl, hb1⟩
      have HB1 := hide (HB.out.trans (hb1.mono HB.out.size))
      have HO1 := hide (HO.out.next hb1)
      have HX1 := hide (SBox.start w1 107 m s)
      clear hb1
      obtain ⟨c0', c1'⟩ := HX1.out.cells
      by_cases hl4 : 400 < t2
      · have HR := hide (HL4.out hl4)
        have HB2 := hide (fun o => HB1.out.alloc HB1.out.size o)
        go_wp2_with fail
        go_ret2
        exact pg_no HR.out (HB2.out _)
      · have HR := hide (HNX.out hl4)
        have HB2 := hide (HB1.out.alloc HB1.out.size (.cells #[.int .i64 m, .string s] 107))
        have HO2 := hide (HO1.out.next ((Below.refl w1.heap.size w1).alloc (Nat.le_refl _) (.cells #[.int .i64 m, .string s] 107)))
        obtain ⟨wa, hwa⟩ : ∃ wa, w1.alloc (.cells #[.int .i64 m, .string s] 107) = wa := ⟨_, rfl⟩
        rw [hwa] at HX1 HB2 HO2 c0' c1'
        go_wp2_with (at_builtin; refine wpList_appSeg rfl wa rfl (.tmp 31) (.tmp 33) rfl rfl HO2.out _ _ HC.out rfl (by omega) HB2.out.size ?_; intro v' w' h1 h2; have HO3 := hide h1; have HB3 := hide (HB2.out.grown h2 HB2.out.size (fun g hg => ((World.ownsRow.lt HO2.out) g hg).1)); have HX3 := hide (HX1.out.apart HO1.out h2); clear h1 h2; have e0 := cell_of_row _ w1.heap.size 0 _ _ _ HX3.out; have e1 := cell_of_row _ w1.heap.size 1 _ _ _ HX3.out; clear c0' c1')
        refine (HLN.out _).mono ?_
        rintro e w5 ⟨rfl, hb5⟩
        have HO5 := hide (HO3.out.next hb5)
        have HB5 := hide (HB3.out.trans (hb5.mono HB3.out.size))
        clear hb5 e0 e1
        go_wp2_with fail
        refine ⟨⟨k + 1, p2, t2, f, A2, m2, c2, HP2, HT2, by omega, by rw [hl.out]; omega, by omega, rfl, by rw [hl.out]; omega, by omega, by omega, HI2, rfl, HR, by rw [hl.out]; omega, HO5.out, HB5.out⟩, ?_⟩
        dsimp only; omega
end Go.Proofs.Ythbmfaogjaahoaa

namespace Go.Proofs.Ythbmfaogjaahoaa
open Go Go.RowKit
set_option linter.unusedSimpArgs false
set_option linter.unusedVariables false

theorem ebR_bit (q : Nat) (zs : List Int) : ∀ x ∈ ebR q zs, x = 0 ∨ x = 1 := by
  intro x hx
  unfold ebR at hx
  split at hx
  · unfold ebP at hx
    obtain ⟨y, _, hy⟩ := List.mem_flatMap.1 hx
    unfold bitsOf at hy
    obtain ⟨j, _, rfl⟩ := List.mem_map.1 hy
    omega
  · cases hx
theorem own_mostP {w : World} {base : Nat} {e : TypeId} {A : Option Addr} {n c : Nat} {zs : List Int} (h : Own w base e .i64 (.slice A n c) zs) : c ≤ 9223372036854775807 := by
  rcases h.2 with ⟨hv, h0⟩ | ⟨g, cap, cur, hv, hb, hg, hnc, hm, hs, ht⟩
  · simp only [Value.slice.injEq] at hv; omega
  · simp only [Value.slice.injEq] at hv
    unfold maxLen at hm
    obtain ⟨_, _, rfl⟩ := hv
    omega
/-- The code of PayloadSegments for a valid field, and how many segments there are. -/
noncomputable def pgK (q : Nat) (zs : List Int) : Int := if ebK q zs = 0 then (sgF (ebR q zs)).2 else ebK q zs
noncomputable def pgN (q : Nat) (zs : List Int) : Nat := if ebK q zs = 0 then (sgF (ebR q zs)).1 else 0
noncomputable def pgM (q : Nat) (zs : List Int) : Nat → Int := spM (ebR q zs)
noncomputable def pgT (q : Nat) (zs : List Int) : Nat → ByteArray := spT (ebR q zs)
theorem nsi_nil {c : Int} {M : Nat → Int} {T : Nat → ByteArray} {w w' : World} (hb : Below w.heap.size w w') : NewSI 0 M T c w (.returned (.tuple #[.slice none 0 0, .int .i64 c])) w' :=
  ⟨none, 0, rfl, Nat.le_refl _, by omega, OwnS.nil _ _ _, hb⟩
theorem nsi_low {n : Nat} {c : Int} {M : Nat → Int} {T : Nat → ByteArray} {w w1 w' : World} {e : Ending} (h : NewSI n M T c w1 e w') (hb : Below w.heap.size w w1) : NewSI n M T c w e w' := by
  obtain ⟨A, c', rfl, h1, h2, ho, hb'⟩ := h
  exact ⟨A, c', rfl, h1, h2, ho.low hb.size, hb.trans (hb'.mono hb.size)⟩

/-- What is read fits in a message. -/
theorem sgR_le {zs : List Int} (hbt : ∀ x ∈ zs, x = 0 ∨ x = 1) : ∀ f k, k ≤ stot zs k → stot zs k ≤ 400 → (∀ j, j < k → rdB zs (spos zs j) = true) →
    (sgR zs f k).1 ≤ stot zs (sgR zs f k).1 ∧ stot zs (sgR zs f k).1 ≤ 400 ∧ (∀ j, j < (sgR zs f k).1 → rdB zs (spos zs j) = true) := by
  intro f
  induction f with
  | zero => intro k _ _ _; exact ⟨Nat.zero_le _, Nat.zero_le _, fun j hj => absurd hj (Nat.not_lt_zero _)⟩
  | succ f ih =>
    intro k h1 h2 h3
    rw [sgR]
    split
    · split
      · rename_i hb
        split
        · exact ⟨Nat.zero_le _, Nat.zero_le _, fun j hj => absurd hj (Nat.not_lt_zero _)⟩
        · rename_i hl
          obtain ⟨_, _, s3, _, _, _, _, _, _, _, s11⟩ := sg_step rfl hbt hb
          refine ih (k + 1) (by omega) (by omega) (fun j hj => ?_)
          by_cases e : j = k
          · subst e; exact hb
          · exact h3 j (by omega)
      · exact ⟨Nat.zero_le _, Nat.zero_le _, fun j hj => absurd hj (Nat.not_lt_zero _)⟩
    · exact ⟨h1, h2, h3⟩
theorem sgF_le {zs : List Int} (hbt : ∀ x ∈ zs, x = 0 ∨ x = 1) : (sgF zs).1 ≤ stot zs (sgF zs).1 ∧ stot zs (sgF zs).1 ≤ 400 ∧ (∀ j, j < (sgF zs).1 → rdB zs (spos zs j) = true) :=
  sgR_le hbt 8193 0 (Nat.zero_le _) (by show (0 : Nat) ≤ 400; omega) (fun j hj => absurd hj (Nat.not_lt_zero _))
theorem pgN_le (q : Nat) (zs : List Int) : pgN q zs ≤ 400 := by
  have := sgF_le (ebR_bit q zs)
  unfold pgN
  split <;> omega

theorem OwnS.lt {w : World} {base n : Nat} {v : Value} {f : Nat → Value} (h : OwnS w base v n f) {g : Nat} (hg : v.ownBlock = some g) : base ≤ g ∧ g < w.heap.size := World.ownsRow.lt h g hg
theorem apart_lt {v v1 : Value} {B : Nat} (h : ∀ g, v.ownBlock = some g → g < B) (h1 : ∀ g, v1.ownBlock = some g → B ≤ g) : (v.ownBlock = none ∨ v.ownBlock ≠ v1.ownBlock) ∧ (v1.ownBlock = none ∨ v1.ownBlock ≠ v.ownBlock) := by
  constructor
  · rcases hv : v.ownBlock with _ | g
    · exact .inl rfl
    · refine .inr fun e => ?_
      have a := h g hv
      have b := h1 g e.symm
      omega
  · rcases hv : v1.ownBlock with _ | g
    · exact .inl rfl
    · refine .inr fun e => ?_
      have a := h g e.symm
      have b := h1 g hv
      omega

end Go.Proofs.Ythbmfaogjaahoaa
