/-
  The program's firstSegment, given its textOf.
  Condition: as each statement says.
-/
import Derived.Test.YthmpfnbcodolcaaRd3
import Derived.Test.YthmpfnbcodolcaaTail2
namespace Go.Proofs.Ythmpfnbcodolcaa
open Go Go.RowKit
set_option linter.unusedSimpArgs false
set_option linter.unusedVariables false

/-- Whether a text of n characters can be read, and the text. -/
def RtIs (zs : List Int) (m : Int) (n : Nat) : Prop := twid m n ≤ zs.length ∧ rdOk zs 0 m n (gct (gsz m) n)
open Classical in
noncomputable def rtB (zs : List Int) (m : Int) (n : Nat) : Bool := decide (RtIs zs m n)
noncomputable def rtS (zs : List Int) (m : Int) (n : Nat) : ByteArray := if rtB zs m n then strOf (rdT zs 0 m n (gct (gsz m) n)) else ⟨#[]⟩
/-- What is asked of textOf. -/
def TextOf : Prop := ∀ (A : Option Addr) (k c B : Nat) (zs : List Int) (m : Int) (n : Nat) (w : World), 1 ≤ m ∧ m ≤ 4 → 1 ≤ n ∧ n ≤ 255 → Ints .i64 w B A k zs → B ≤ w.heap.size → k ≤ 8192 → k ≤ c → c ≤ 9223372036854775807 → (∀ x ∈ zs, x = 0 ∨ x = 1) →
  Calls Try.prog 91 #[MV m, .slice A k c, .int .i64 n] w fun e w' => e = .returned (.tuple #[.string (rtS zs m n), .bool (rtB zs m n)]) ∧ Below w.heap.size w w'

theorem rt_gv (zs : List Int) (m : Int) (n j : Nat) : gvN (zs.drop 11) 0 m n j = gvN zs 11 m n j := by
  unfold gvN gpN; rw [List.drop_drop, Nat.zero_add]
theorem rt_rdT (zs : List Int) (m : Int) (n : Nat) : ∀ j, rdT (zs.drop 11) 0 m n j = rdT zs 11 m n j := by
  intro j
  induction j with
  | zero => rfl
  | succ j ih => rw [rdT, rdT, ih, rt_gv]
theorem rt_is {zs : List Int} {m : Int} {n : Nat} (hm0 : rdM0 zs 0 = m) (hn0 : rdN0 zs 0 = n) (hm : 1 ≤ m ∧ m ≤ 4) (hn : 1 ≤ n) (hl : 11 ≤ zs.length) : RdIs zs 0 ↔ RtIs (zs.drop 11) m n := by
  unfold RdIs RtIs
  rw [hm0, hn0]
  have hs : slen m n = 11 + twid m n := rfl
  have ho : rdOk (zs.drop 11) 0 m n (gct (gsz m) n) ↔ rdOk zs 11 m n (gct (gsz m) n) := by
    unfold rdOk
    constructor
    · intro h i hi; rw [← rt_gv]; exact h i hi
    · intro h i hi; rw [rt_gv]; exact h i hi
  rw [ho, List.length_drop]
  constructor
  · rintro ⟨_, _, _, _, h5, h6⟩; exact ⟨by omega, h6⟩
  · rintro ⟨h5, h6⟩; exact ⟨by omega, hm.1, hm.2, hn, by omega, h6⟩
/-- The two readings agree. -/
theorem rt_eq {zs : List Int} {m : Int} {n : Nat} (hm0 : rdM0 zs 0 = m) (hn0 : rdN0 zs 0 = n) (hm : 1 ≤ m ∧ m ≤ 4) (hn : 1 ≤ n) (hl : 11 ≤ zs.length) : rtB (zs.drop 11) m n = rdB zs 0 ∧ rtS (zs.drop 11) m n = rdS zs 0 ∧ (rdB zs 0 = true → rdM zs 0 = m) := by
  have h := rt_is hm0 hn0 hm hn hl
  have hb : rtB (zs.drop 11) m n = rdB zs 0 := by
    by_cases hr : RdIs zs 0
    · rw [(rd_yes hr).1]; unfold rtB; exact @decide_eq_true _ (Classical.propDecidable _) (h.1 hr)
    · rw [(rd_no hr).1]; unfold rtB; exact @decide_eq_false _ (Classical.propDecidable _) (fun q => hr (h.2 q))
  refine ⟨hb, ?_, fun e => by unfold rdM; rw [e]; exact hm0⟩
  unfold rtS rdS
  rw [hb, hm0, hn0, rt_rdT]
theorem ints_first {w : World} {B n k b off : Nat} {zs : List Int} (h : Ints .i64 w B (some ⟨b, off, none⟩) n zs) (hk : k ≤ n) : Ints .i64 w B (some ⟨b, off, none⟩) k (zs.take k) := by
  refine ⟨by rw [List.length_take, h.len]; omega, fun hp => ?_⟩
  obtain ⟨b', off', e, hb, hc⟩ := h.2 (by omega)
  refine ⟨b', off', e, hb, fun j x hx => ?_⟩
  have hj : j < k := by have := (List.getElem?_eq_some_iff.1 hx).1; rw [List.length_take] at this; omega
  rw [List.getElem?_take, if_pos hj] at hx
  exact hc j x hx

set_option maxRecDepth 100000 in
set_option maxHeartbeats 2000000 in
theorem implFirstS (hTX : TextOf) (A : Option Addr) (n c B : Nat) (zs : List Int) (w : World) (hI : Ints .i64 w B A n zs) (hB : B ≤ w.heap.size) (hn : n ≤ 8192) (hc : n ≤ c) (hcc : c ≤ 9223372036854775807) (hbt : ∀ x ∈ zs, x = 0 ∨ x = 1) :
    Calls Try.prog 56 #[.slice A n c] w fun e w' => e = .returned (.tuple #[.agg #[.int .i64 (rdM zs 0), .string (rdS zs 0)], .bool (rdB zs 0)]) ∧ Below w.heap.size w w' := by
  have HI := hide hI
  have hl := hide hI.len
  have HBT := hide hbt
  have HX := hide (SBox.start w 26 0 ⟨#[]⟩)
  obtain ⟨c0, c1⟩ := HX.out.cells
  by_cases h11 : n < 11
  · obtain ⟨r1, r2, r3, r4⟩ := rd_no (zs := zs) (a := 0) (fun h => by have := h.1; rw [hl.out] at this; omega)
    rw [r1, r2, r3]
    clear hI hbt r1 r2 r3 r4
    go_enter Try.func56, Try.ntmps56
    go_wp2_with fail
    exact bodyPost_ret (v := .tuple #[.agg #[.int .i64 0, .string ⟨#[]⟩], .bool false]) (by simp [results, Try.results56, go_sem, c0, c1]) rfl ⟨rfl, HX.out.2⟩
  obtain ⟨b, off, rfl, hbb, hcl⟩ := hI.2 (by omega)
  have hc3 : ¬ c = 3 := by omega
  have h3c : (3 : Int) ≤ (c : Int) := by omega
  have h11c : (11 : Int) ≤ (c : Int) := by omega
  have h11n : (11 : Int) ≤ (n : Int) := by omega
  have HXd := hide HX.out.drew
  have HBN := hide (fun x hx => HBT.out x (List.mem_of_mem_take (i := 3) hx))
  obtain ⟨M, hM⟩ : ∃ M, rdM0 zs 0 = M := ⟨_, rfl⟩
  obtain ⟨N, hN⟩ : ∃ N, rdN0 zs 0 = N := ⟨_, rfl⟩
  obtain ⟨u1, u2⟩ := num_nat HBT.out 0 3
  obtain ⟨u3, u4⟩ := num_nat HBT.out 3 8
  have hM' : numVal (zs.take 3) = M := hM
  have hN' : numVal ((zs.drop 3).take 8) = (N : Int) := by rw [u3, ← hN]; rfl
  have hNb : N ≤ 255 := by have h : (numVal ((zs.drop 3).take 8)).toNat = N := hN; rw [h] at u4; omega
  have HC1 := hide (fun wx (hb : Below w.heap.size w wx) => show Calls Try.prog 90 #[.slice (some ⟨b, off, none⟩) 3 c] wx (fun e w' => e = .returned (.int .i64 M) ∧ wx = w') by
    rw [← hM']; exact implNumberOf _ 3 c B (zs.take 3) wx ((ints_first HI.out (by omega)).below (hb.mono hB)) (by omega) HBN.out)
  have HC2 := hide (fun wx (hb : Below w.heap.size w wx) => show Calls Try.prog 90 #[.slice (some ⟨b, off + 3, none⟩) 8 (c - 3)] wx (fun e w' => e = .returned (.int .i64 (N : Nat)) ∧ wx = w') by
    rw [← hN']
    have h := HI.out.sub (lo := 3) (m := 8) hc (by omega)
    rw [subA, if_neg hc3, Option.map_some, addr_add] at h
    exact implNumberOf _ 8 (c - 3) B ((zs.drop 3).take 8) wx (h.below (hb.mono hB)) (by omega) (fun x hx => HBT.out x (List.mem_of_mem_drop (List.mem_of_mem_take hx))))
  have HM := hide hM
  have HN := hide hN
  clear hI hbt hcl hM hN u1 u2 u3 u4 hM' hN'
  by_cases hm : 1 ≤ M ∧ M ≤ 4
  case neg =>
    obtain ⟨r1, r2, r3, r4⟩ := rd_no (zs := zs) (a := 0) (fun h => hm (by rw [← HM.out]; exact ⟨h.2.1, h.2.2.1⟩))
    have HF := hide (fun w' (hb : Below w.heap.size w w') => show (Ending.returned (.tuple #[.agg #[.int .i64 0, .string ⟨#[]⟩], .bool false]) = .returned (.tuple #[.agg #[.int .i64 (rdM zs 0), .string (rdS zs 0)], .bool (rdB zs 0)]) ∧ Below w.heap.size w w') from ⟨by rw [r1, r2, r3], hb⟩)
    have HMO := hide (implModeOf_no M (by omega))
    clear r1 r2 r3 r4
    go_enter Try.func56, Try.ntmps56
    go_wp2_with fail
    refine tail_begin (fun _ => True) 8 (by kernel_rfl) trivial (fun hS' => ?_)
    obtain ⟨wd, hwd⟩ : ∃ wd, (w.alloc (.cells #[.int .i64 0, .string ⟨#[]⟩] 26)).drew = wd := ⟨_, rfl⟩
    rw [hwd] at HXd ⊢
    have HC1 := hide (fun (_ : World) => HC1.out wd HXd.out.2)
    have HC2 := hide (fun (_ : World) => HC2.out wd HXd.out.2)
    clear hwd c0 c1
    refine tail_take2 0 rfl (by kernel_rfl) (by kernel_rfl) (by kernel_rfl) (by decide) (fun _ _ _ h => h) (by rfl) (v := ?_) ?_ (by assumption) ?_
    rotate_left 1
    · intro w' hS'; (try dsimp only at hS'); go_simp; try with_reducible rfl
    try simp only [Act.put, List.setIfInBounds_toArray, List.set_cons_zero, List.set_cons_succ]
    refine tail_take2 1 rfl (by kernel_rfl) (by kernel_rfl) (by kernel_rfl) (by decide) (fun _ _ _ h => h) (by rfl) (v := ?_) ?_ (by assumption) ?_
    rotate_left 1
    · intro w' hS'; (try dsimp only at hS'); go_simp; try with_reducible rfl
    try simp only [Act.put, List.setIfInBounds_toArray, List.set_cons_zero, List.set_cons_succ]
    refine tail_take2 3 rfl (by kernel_rfl) (by kernel_rfl) (by kernel_rfl) (by decide) (fun _ _ _ h => h) (by rfl) (v := ?_) ?_ (by assumption) ?_
    rotate_left 1
    · intro w' hS'; (try dsimp only at hS'); go_simp; try with_reducible rfl
    try simp only [Act.put, List.setIfInBounds_toArray, List.set_cons_zero, List.set_cons_succ]
    refine tail_take2 4 rfl (by kernel_rfl) (by kernel_rfl) (by kernel_rfl) (by decide) (fun _ _ _ h => h) (by rfl) (v := ?_) ?_ (by assumption) ?_
    rotate_left 1
    · intro w' hS'; (try dsimp only at hS'); go_simp; try with_reducible rfl
    try simp only [Act.put, List.setIfInBounds_toArray, List.set_cons_zero, List.set_cons_succ]
    refine tail_call 2 rfl (by kernel_rfl) rfl (fun K hK => ?_)
    go_simp
    go_at_call 90
    refine (HC1.out wd).mono ?_
    rintro e wz ⟨rfl, hwz⟩
    rw [← hwz]
    clear hwz
    refine hK.out _ _ trivial (fun hS' => ?_)
    clear hK K
    try simp only [Act.put, List.setIfInBounds_toArray, List.set_cons_zero, List.set_cons_succ]
    refine tail_call 5 rfl (by kernel_rfl) rfl (fun K hK => ?_)
    go_simp
    go_at_call 90
    refine (HC2.out wd).mono ?_
    rintro e wz ⟨rfl, hwz⟩
    rw [← hwz]
    clear hwz
    refine hK.out _ _ trivial (fun hS' => ?_)
    clear hK K
    try simp only [Act.put, List.setIfInBounds_toArray, List.set_cons_zero, List.set_cons_succ]
    refine tail_take2 6 rfl (by kernel_rfl) (by kernel_rfl) (by kernel_rfl) (by decide) (fun _ _ _ h => h) (by rfl) (v := ?_) ?_ (by assumption) ?_
    rotate_left 1
    · intro w' hS'; (try dsimp only at hS'); go_simp; try with_reducible rfl
    try simp only [Act.put, List.setIfInBounds_toArray, List.set_cons_zero, List.set_cons_succ]
    refine tail_take2 7 rfl (by kernel_rfl) (by kernel_rfl) (by kernel_rfl) (by decide) (fun _ _ _ h => h) (by rfl) (v := ?_) ?_ (by assumption) ?_
    rotate_left 1
    · intro w' hS'; (try dsimp only at hS'); go_simp; try with_reducible rfl
    try simp only [Act.put, List.setIfInBounds_toArray, List.set_cons_zero, List.set_cons_succ]
    refine tail_end (by kernel_rfl) ?_
    obtain ⟨c0, c1⟩ := HXd.out.cells
    have f0 := frozen_of_row wd w.heap.size 0 _ _ HXd.out.1
    have f1 := frozen_of_row wd w.heap.size 1 _ _ HXd.out.1
    have HXp := hide (HXd.out.put 0 ⟨#[]⟩)
    obtain ⟨d0, d1⟩ := HXp.out.cells
    go_wp2_with fail
    refine (HMO.out _).mono ?_
    rintro e wz ⟨rfl, hwz⟩
    rw [hwz]
    clear hwz
    go_wp2_with fail
    exact bodyPost_ret (v := .tuple #[.agg #[.int .i64 0, .string ⟨#[]⟩], .bool false]) (by simp [results, Try.results56, go_sem, d0, d1]) rfl (HF.out _ HXp.out.2)
  have HMO := hide (implModeOf M hm)
  by_cases hN1 : N = 0
  case pos =>
    subst hN1
    obtain ⟨r1, r2, r3, r4⟩ := rd_no (zs := zs) (a := 0) (fun h => by have := h.2.2.2.1; rw [HN.out] at this; omega)
    have HF := hide (fun w' (hb : Below w.heap.size w w') => show (Ending.returned (.tuple #[.agg #[.int .i64 0, .string ⟨#[]⟩], .bool false]) = .returned (.tuple #[.agg #[.int .i64 (rdM zs 0), .string (rdS zs 0)], .bool (rdB zs 0)]) ∧ Below w.heap.size w w') from ⟨by rw [r1, r2, r3], hb⟩)
    clear r1 r2 r3 r4
    go_enter Try.func56, Try.ntmps56
    go_wp2_with fail
    refine tail_begin (fun _ => True) 8 (by kernel_rfl) trivial (fun hS' => ?_)
    obtain ⟨wd, hwd⟩ : ∃ wd, (w.alloc (.cells #[.int .i64 0, .string ⟨#[]⟩] 26)).drew = wd := ⟨_, rfl⟩
    rw [hwd] at HXd ⊢
    have HC1 := hide (fun (_ : World) => HC1.out wd HXd.out.2)
    have HC2 := hide (fun (_ : World) => HC2.out wd HXd.out.2)
    clear hwd c0 c1
    refine tail_take2 0 rfl (by kernel_rfl) (by kernel_rfl) (by kernel_rfl) (by decide) (fun _ _ _ h => h) (by rfl) (v := ?_) ?_ (by assumption) ?_
    rotate_left 1
    · intro w' hS'; (try dsimp only at hS'); go_simp; try with_reducible rfl
    try simp only [Act.put, List.setIfInBounds_toArray, List.set_cons_zero, List.set_cons_succ]
    refine tail_take2 1 rfl (by kernel_rfl) (by kernel_rfl) (by kernel_rfl) (by decide) (fun _ _ _ h => h) (by rfl) (v := ?_) ?_ (by assumption) ?_
    rotate_left 1
    · intro w' hS'; (try dsimp only at hS'); go_simp; try with_reducible rfl
    try simp only [Act.put, List.setIfInBounds_toArray, List.set_cons_zero, List.set_cons_succ]
    refine tail_take2 3 rfl (by kernel_rfl) (by kernel_rfl) (by kernel_rfl) (by decide) (fun _ _ _ h => h) (by rfl) (v := ?_) ?_ (by assumption) ?_
    rotate_left 1
    · intro w' hS'; (try dsimp only at hS'); go_simp; try with_reducible rfl
    try simp only [Act.put, List.setIfInBounds_toArray, List.set_cons_zero, List.set_cons_succ]
    refine tail_take2 4 rfl (by kernel_rfl) (by kernel_rfl) (by kernel_rfl) (by decide) (fun _ _ _ h => h) (by rfl) (v := ?_) ?_ (by assumption) ?_
    rotate_left 1
    · intro w' hS'; (try dsimp only at hS'); go_simp; try with_reducible rfl
    try simp only [Act.put, List.setIfInBounds_toArray, List.set_cons_zero, List.set_cons_succ]
    refine tail_call 2 rfl (by kernel_rfl) rfl (fun K hK => ?_)
    go_simp
    go_at_call 90
    refine (HC1.out wd).mono ?_
    rintro e wz ⟨rfl, hwz⟩
    rw [← hwz]
    clear hwz
    refine hK.out _ _ trivial (fun hS' => ?_)
    clear hK K
    try simp only [Act.put, List.setIfInBounds_toArray, List.set_cons_zero, List.set_cons_succ]
    refine tail_call 5 rfl (by kernel_rfl) rfl (fun K hK => ?_)
    go_simp
    go_at_call 90
    refine (HC2.out wd).mono ?_
    rintro e wz ⟨rfl, hwz⟩
    rw [← hwz]
    clear hwz
    refine hK.out _ _ trivial (fun hS' => ?_)
    clear hK K
    try simp only [Act.put, List.setIfInBounds_toArray, List.set_cons_zero, List.set_cons_succ]
    refine tail_take2 6 rfl (by kernel_rfl) (by kernel_rfl) (by kernel_rfl) (by decide) (fun _ _ _ h => h) (by rfl) (v := ?_) ?_ (by assumption) ?_
    rotate_left 1
    · intro w' hS'; (try dsimp only at hS'); go_simp; try with_reducible rfl
    try simp only [Act.put, List.setIfInBounds_toArray, List.set_cons_zero, List.set_cons_succ]
    refine tail_take2 7 rfl (by kernel_rfl) (by kernel_rfl) (by kernel_rfl) (by decide) (fun _ _ _ h => h) (by rfl) (v := ?_) ?_ (by assumption) ?_
    rotate_left 1
    · intro w' hS'; (try dsimp only at hS'); go_simp; try with_reducible rfl
    try simp only [Act.put, List.setIfInBounds_toArray, List.set_cons_zero, List.set_cons_succ]
    refine tail_end (by kernel_rfl) ?_
    obtain ⟨c0, c1⟩ := HXd.out.cells
    have f0 := frozen_of_row wd w.heap.size 0 _ _ HXd.out.1
    have f1 := frozen_of_row wd w.heap.size 1 _ _ HXd.out.1
    have HXp := hide (HXd.out.put 0 ⟨#[]⟩)
    obtain ⟨d0, d1⟩ := HXp.out.cells
    go_wp2_with fail
    refine (HMO.out _).mono ?_
    rintro e wz ⟨rfl, hwz⟩
    rw [hwz]
    clear hwz
    go_wp2_with fail
    exact bodyPost_ret (v := .tuple #[.agg #[.int .i64 0, .string ⟨#[]⟩], .bool false]) (by simp [results, Try.results56, go_sem, d0, d1]) rfl (HF.out _ HXp.out.2)
  have hN0 : ¬ (N : Int) = 0 := by omega
  have hNe : ((N : Int) == 0) = false := by simpa using hN1
  obtain ⟨r1, r2, r3⟩ := rt_eq HM.out HN.out hm (by omega) (by rw [hl.out]; omega)
  have HIR := hide (show Ints .i64 w B (if c = 11 then some ⟨b, off, none⟩ else some ⟨b, off + 11, none⟩) (n - 11) (zs.drop 11) by
    have h := HI.out.sub (lo := 11) (m := n - 11) hc (by omega)
    rw [List.take_of_length_le (by rw [List.length_drop, hl.out]; omega)] at h
    unfold subA at h
    split at h
    · rename_i e; rw [if_pos e]; exact h
    · rename_i e; rw [if_neg e]; rw [Option.map_some, addr_add] at h; exact h)
  have HTX := hide (fun wx (hb : Below w.heap.size w wx) => hTX (if c = 11 then some ⟨b, off, none⟩ else some ⟨b, off + 11, none⟩) (n - 11) (c - 11) B (zs.drop 11) M N wx hm ⟨by omega, hNb⟩ (HIR.out.below (hb.mono hB)) (Nat.le_trans hB hb.size) (by omega) (by omega) (by omega) (fun x hx => HBT.out x (List.mem_of_mem_drop hx)))
  rw [r1, r2] at HTX
  obtain ⟨S, hS⟩ : ∃ S, rdS zs 0 = S := ⟨_, rfl⟩
  rw [hS] at HTX
  rcases hbb' : rdB zs 0 with _ | _
  · rw [hbb'] at HTX
    obtain ⟨g1, g2, g3⟩ : rdM zs 0 = 0 ∧ rdS zs 0 = ⟨#[]⟩ ∧ True := by
      refine ⟨?_, ?_, trivial⟩
      · unfold rdM; rw [hbb']; rfl
      · unfold rdS; rw [hbb']; rfl
    have HF := hide (fun w' (hb : Below w.heap.size w w') => show (Ending.returned (.tuple #[.agg #[.int .i64 0, .string ⟨#[]⟩], .bool false]) = .returned (.tuple #[.agg #[.int .i64 (rdM zs 0), .string (rdS zs 0)], .bool false]) ∧ Below w.heap.size w w') from ⟨by rw [g1, g2], hb⟩)
    clear r1 r2 r3 hS hbb' g1 g2 g3
    go_enter Try.func56, Try.ntmps56
    go_wp2_with fail
    refine tail_begin (fun _ => True) 8 (by kernel_rfl) trivial (fun hS' => ?_)
    obtain ⟨wd, hwd⟩ : ∃ wd, (w.alloc (.cells #[.int .i64 0, .string ⟨#[]⟩] 26)).drew = wd := ⟨_, rfl⟩
    rw [hwd] at HXd ⊢
    have HC1 := hide (fun (_ : World) => HC1.out wd HXd.out.2)
    have HC2 := hide (fun (_ : World) => HC2.out wd HXd.out.2)
    clear hwd c0 c1
    refine tail_take2 0 rfl (by kernel_rfl) (by kernel_rfl) (by kernel_rfl) (by decide) (fun _ _ _ h => h) (by rfl) (v := ?_) ?_ (by assumption) ?_
    rotate_left 1
    · intro w' hS'; (try dsimp only at hS'); go_simp; try with_reducible rfl
    try simp only [Act.put, List.setIfInBounds_toArray, List.set_cons_zero, List.set_cons_succ]
    refine tail_take2 1 rfl (by kernel_rfl) (by kernel_rfl) (by kernel_rfl) (by decide) (fun _ _ _ h => h) (by rfl) (v := ?_) ?_ (by assumption) ?_
    rotate_left 1
    · intro w' hS'; (try dsimp only at hS'); go_simp; try with_reducible rfl
    try simp only [Act.put, List.setIfInBounds_toArray, List.set_cons_zero, List.set_cons_succ]
    refine tail_take2 3 rfl (by kernel_rfl) (by kernel_rfl) (by kernel_rfl) (by decide) (fun _ _ _ h => h) (by rfl) (v := ?_) ?_ (by assumption) ?_
    rotate_left 1
    · intro w' hS'; (try dsimp only at hS'); go_simp; try with_reducible rfl
    try simp only [Act.put, List.setIfInBounds_toArray, List.set_cons_zero, List.set_cons_succ]
    refine tail_take2 4 rfl (by kernel_rfl) (by kernel_rfl) (by kernel_rfl) (by decide) (fun _ _ _ h => h) (by rfl) (v := ?_) ?_ (by assumption) ?_
    rotate_left 1
    · intro w' hS'; (try dsimp only at hS'); go_simp; try with_reducible rfl
    try simp only [Act.put, List.setIfInBounds_toArray, List.set_cons_zero, List.set_cons_succ]
    refine tail_call 2 rfl (by kernel_rfl) rfl (fun K hK => ?_)
    go_simp
    go_at_call 90
    refine (HC1.out wd).mono ?_
    rintro e wz ⟨rfl, hwz⟩
    rw [← hwz]
    clear hwz
    refine hK.out _ _ trivial (fun hS' => ?_)
    clear hK K
    try simp only [Act.put, List.setIfInBounds_toArray, List.set_cons_zero, List.set_cons_succ]
    refine tail_call 5 rfl (by kernel_rfl) rfl (fun K hK => ?_)
    go_simp
    go_at_call 90
    refine (HC2.out wd).mono ?_
    rintro e wz ⟨rfl, hwz⟩
    rw [← hwz]
    clear hwz
    refine hK.out _ _ trivial (fun hS' => ?_)
    clear hK K
    try simp only [Act.put, List.setIfInBounds_toArray, List.set_cons_zero, List.set_cons_succ]
    refine tail_take2 6 rfl (by kernel_rfl) (by kernel_rfl) (by kernel_rfl) (by decide) (fun _ _ _ h => h) (by rfl) (v := ?_) ?_ (by assumption) ?_
    rotate_left 1
    · intro w' hS'; (try dsimp only at hS'); go_simp; try with_reducible rfl
    try simp only [Act.put, List.setIfInBounds_toArray, List.set_cons_zero, List.set_cons_succ]
    refine tail_take2 7 rfl (by kernel_rfl) (by kernel_rfl) (by kernel_rfl) (by decide) (fun _ _ _ h => h) (by rfl) (v := ?_) ?_ (by assumption) ?_
    rotate_left 1
    · intro w' hS'; (try dsimp only at hS'); go_simp; try with_reducible rfl
    try simp only [Act.put, List.setIfInBounds_toArray, List.set_cons_zero, List.set_cons_succ]
    refine tail_end (by kernel_rfl) ?_
    obtain ⟨c0, c1⟩ := HXd.out.cells
    have f0 := frozen_of_row wd w.heap.size 0 _ _ HXd.out.1
    have f1 := frozen_of_row wd w.heap.size 1 _ _ HXd.out.1
    go_wp2_with fail
    refine (HMO.out _).mono ?_
    rintro e wz ⟨rfl, hwz⟩
    rw [hwz]
    clear hwz
    go_wp2_with fail
    all_goals
      have HT2 := HTX.out wd HXd.out.2
      first
        | rw [if_pos h] at HT2
        | rw [if_neg h] at HT2
      try rw [show c - 11 = 0 by omega] at HT2
      refine HT2.mono ?_
      rintro e w5 ⟨rfl, hb5⟩
      have HX5 := hide (HXd.out.next hb5)
      clear hb5 c0 c1 f0 f1 HT2 HTX
      obtain ⟨c0, c1⟩ := HX5.out.cells
      have f0 := frozen_of_row w5 w.heap.size 0 _ _ HX5.out.1
      have f1 := frozen_of_row w5 w.heap.size 1 _ _ HX5.out.1
      have HXp := hide (HX5.out.put 0 ⟨#[]⟩)
      go_wp2_with fail
      obtain ⟨d0, d1⟩ := HXp.out.cells
      exact bodyPost_ret (v := .tuple #[.agg #[.int .i64 0, .string ⟨#[]⟩], .bool false]) (by simp [results, Try.results56, go_sem, d0, d1]) rfl (HF.out _ HXp.out.2)
  · rw [hbb'] at HTX
    have g1 := r3 hbb'
    have HF := hide (fun w' (hb : Below w.heap.size w w') => show (Ending.returned (.tuple #[.agg #[.int .i64 M, .string S], .bool true]) = .returned (.tuple #[.agg #[.int .i64 (rdM zs 0), .string (rdS zs 0)], .bool true]) ∧ Below w.heap.size w w') from ⟨by rw [g1, hS], hb⟩)
    clear r1 r2 r3 hS hbb' g1
    go_enter Try.func56, Try.ntmps56
    go_wp2_with fail
    refine tail_begin (fun _ => True) 8 (by kernel_rfl) trivial (fun hS' => ?_)
    obtain ⟨wd, hwd⟩ : ∃ wd, (w.alloc (.cells #[.int .i64 0, .string ⟨#[]⟩] 26)).drew = wd := ⟨_, rfl⟩
    rw [hwd] at HXd ⊢
    have HC1 := hide (fun (_ : World) => HC1.out wd HXd.out.2)
    have HC2 := hide (fun (_ : World) => HC2.out wd HXd.out.2)
    clear hwd c0 c1
    refine tail_take2 0 rfl (by kernel_rfl) (by kernel_rfl) (by kernel_rfl) (by decide) (fun _ _ _ h => h) (by rfl) (v := ?_) ?_ (by assumption) ?_
    rotate_left 1
    · intro w' hS'; (try dsimp only at hS'); go_simp; try with_reducible rfl
    try simp only [Act.put, List.setIfInBounds_toArray, List.set_cons_zero, List.set_cons_succ]
    refine tail_take2 1 rfl (by kernel_rfl) (by kernel_rfl) (by kernel_rfl) (by decide) (fun _ _ _ h => h) (by rfl) (v := ?_) ?_ (by assumption) ?_
    rotate_left 1
    · intro w' hS'; (try dsimp only at hS'); go_simp; try with_reducible rfl
    try simp only [Act.put, List.setIfInBounds_toArray, List.set_cons_zero, List.set_cons_succ]
    refine tail_take2 3 rfl (by kernel_rfl) (by kernel_rfl) (by kernel_rfl) (by decide) (fun _ _ _ h => h) (by rfl) (v := ?_) ?_ (by assumption) ?_
    rotate_left 1
    · intro w' hS'; (try dsimp only at hS'); go_simp; try with_reducible rfl
    try simp only [Act.put, List.setIfInBounds_toArray, List.set_cons_zero, List.set_cons_succ]
    refine tail_take2 4 rfl (by kernel_rfl) (by kernel_rfl) (by kernel_rfl) (by decide) (fun _ _ _ h => h) (by rfl) (v := ?_) ?_ (by assumption) ?_
    rotate_left 1
    · intro w' hS'; (try dsimp only at hS'); go_simp; try with_reducible rfl
    try simp only [Act.put, List.setIfInBounds_toArray, List.set_cons_zero, List.set_cons_succ]
    refine tail_call 2 rfl (by kernel_rfl) rfl (fun K hK => ?_)
    go_simp
    go_at_call 90
    refine (HC1.out wd).mono ?_
    rintro e wz ⟨rfl, hwz⟩
    rw [← hwz]
    clear hwz
    refine hK.out _ _ trivial (fun hS' => ?_)
    clear hK K
    try simp only [Act.put, List.setIfInBounds_toArray, List.set_cons_zero, List.set_cons_succ]
    refine tail_call 5 rfl (by kernel_rfl) rfl (fun K hK => ?_)
    go_simp
    go_at_call 90
    refine (HC2.out wd).mono ?_
    rintro e wz ⟨rfl, hwz⟩
    rw [← hwz]
    clear hwz
    refine hK.out _ _ trivial (fun hS' => ?_)
    clear hK K
    try simp only [Act.put, List.setIfInBounds_toArray, List.set_cons_zero, List.set_cons_succ]
    refine tail_take2 6 rfl (by kernel_rfl) (by kernel_rfl) (by kernel_rfl) (by decide) (fun _ _ _ h => h) (by rfl) (v := ?_) ?_ (by assumption) ?_
    rotate_left 1
    · intro w' hS'; (try dsimp only at hS'); go_simp; try with_reducible rfl
    try simp only [Act.put, List.setIfInBounds_toArray, List.set_cons_zero, List.set_cons_succ]
    refine tail_take2 7 rfl (by kernel_rfl) (by kernel_rfl) (by kernel_rfl) (by decide) (fun _ _ _ h => h) (by rfl) (v := ?_) ?_ (by assumption) ?_
    rotate_left 1
    · intro w' hS'; (try dsimp only at hS'); go_simp; try with_reducible rfl
    try simp only [Act.put, List.setIfInBounds_toArray, List.set_cons_zero, List.set_cons_succ]
    refine tail_end (by kernel_rfl) ?_
    obtain ⟨c0, c1⟩ := HXd.out.cells
    have f0 := frozen_of_row wd w.heap.size 0 _ _ HXd.out.1
    have f1 := frozen_of_row wd w.heap.size 1 _ _ HXd.out.1
    go_wp2_with fail
    refine (HMO.out _).mono ?_
    rintro e wz ⟨rfl, hwz⟩
    rw [hwz]
    clear hwz
    go_wp2_with fail
    all_goals
      have HT2 := HTX.out wd HXd.out.2
      first
        | rw [if_pos h] at HT2
        | rw [if_neg h] at HT2
      try rw [show c - 11 = 0 by omega] at HT2
      refine HT2.mono ?_
      rintro e w5 ⟨rfl, hb5⟩
      have HX5 := hide (HXd.out.next hb5)
      clear hb5 c0 c1 f0 f1 HT2 HTX
      obtain ⟨c0, c1⟩ := HX5.out.cells
      have f0 := frozen_of_row w5 w.heap.size 0 _ _ HX5.out.1
      have f1 := frozen_of_row w5 w.heap.size 1 _ _ HX5.out.1
      have HXp := hide (HX5.out.put M S)
      go_wp2_with fail
      obtain ⟨d0, d1⟩ := HXp.out.cells
      exact bodyPost_ret (v := .tuple #[.agg #[.int .i64 M, .string S], .bool true]) (by simp [results, Try.results56, go_sem, d0, d1]) rfl (HF.out _ HXp.out.2)
end Go.Proofs.Ythmpfnbcodolcaa
