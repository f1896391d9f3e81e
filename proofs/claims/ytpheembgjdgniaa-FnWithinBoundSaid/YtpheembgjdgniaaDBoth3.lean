/-
  What CorrectWord, IsCorrectable and DamageOf return, of the model and of the program, side by side.
  Condition: lists shorter than 2^20; the numbers are int64s.
-/
import Derived.Test.YtpheembgjdgniaaDBoth2
import Derived.Test.YtpheembgjdgniaaDSpec4
namespace Go.Proofs.Ytpheembgjdgniaa
open Go.RowKit
set_option linter.unusedSimpArgs false
set_option linter.unusedVariables false

/-- What a function leaves that returns two new lists and a code. -/
def NewIIK (r s : List Int) (cd : Int) (w : World) (x : Ending) (w' : World) : Prop :=
  ∃ A m A' m', x = .returned (.tuple #[.slice A r.length m, .slice A' s.length m', .int .i64 cd]) ∧ r.length ≤ m ∧ s.length ≤ m' ∧ Own w' w.heap.size 2 .i64 (.slice A r.length m) r ∧ Own w' w.heap.size 2 .i64 (.slice A' s.length m') s ∧
    (((Value.slice A r.length m).ownBlock = none ∨ (Value.slice A r.length m).ownBlock ≠ (Value.slice A' s.length m').ownBlock) ∧ ((Value.slice A' s.length m').ownBlock = none ∨ (Value.slice A' s.length m').ownBlock ≠ (Value.slice A r.length m).ownBlock)) ∧ Below w.heap.size w w'
theorem newIIK_of {r s : List Int} {cd : Int} {w w' : World} {v v' : Value} {base : Nat} (h : Own w' base 2 .i64 v r) (h' : Own w' base 2 .i64 v' s) (hne : v.ownBlock = none ∨ v.ownBlock ≠ v'.ownBlock) (hb : Below w.heap.size w w') (hB : w.heap.size ≤ base) : NewIIK r s cd w (.returned (.tuple #[v, v', .int .i64 cd])) w' := by
  obtain ⟨A, m, rfl, hc⟩ := h.form
  obtain ⟨A', m', rfl, hc'⟩ := h'.form
  exact ⟨A, m, A', m', rfl, hc, hc', h.low hB, h'.low hB, ⟨hne, ne_swap hne⟩, hb⟩
theorem newIIK_nil {cd : Int} {w w' : World} (hb : Below w.heap.size w w') : NewIIK [] [] cd w (.returned (.tuple #[.slice none 0 0, .slice none 0 0, .int .i64 cd])) w' :=
  newIIK_of (base := w.heap.size) (World.ownsRow_nil _ _ _ _) (World.ownsRow_nil _ _ _ _) (.inl rfl) hb (Nat.le_refl _)
section
variable {R : Fld} {γ : El R} {l c : Nat} {E : List Nat} {ws cw : List (El R)} {w w' : World} {x : Ending}
theorem coPost_yes (ho : Okw γ l c E ws cw) (h : CoPost γ l c E ws w x w') : NewIB (iv cw) true w x w' := by
  rcases h with ⟨out, h1, _, _, h4⟩ | ⟨_, h2⟩
  · rw [← h4 cw ho]; exact h1
  · exact absurd ho (h2 cw)
theorem coPost_no (ho : ∀ cw, ¬ Okw γ l c E ws cw) (h : CoPost γ l c E ws w x w') : NewIB [] false w x w' := by
  rcases h with ⟨out, _, _, h3, _⟩ | ⟨h1, _⟩
  · exact absurd h3 (ho out)
  · exact h1
theorem scPost_yes (ho : Okw γ l c E ws cw) (h : ScPost γ l c E ws w x w') : NewIIB (iv cw) (nv (difs ws cw)) true w x w' := by
  rcases h with ⟨out, h1, _, _, h4⟩ | ⟨_, _, _, h2⟩
  · rw [← h4 cw ho]; exact h1
  · exact absurd ho (h2 cw)
theorem scPost_no (ho : ∀ cw, ¬ Okw γ l c E ws cw) (h : ScPost γ l c E ws w x w') : ∃ r s, NewIIB r s false w x w' := by
  rcases h with ⟨out, _, _, h3, _⟩ | ⟨r, s, h1, _⟩
  · exact absurd h3 (ho out)
  · exact ⟨r, s, h1⟩
end

def InRel (n : Nat) (z : Int) (zs : List Int) (i : Value) : Prop := ∃ j : Nat, j ≤ n ∧ i = .int .i64 j ∧ Hid (z ∈ zs.drop j ↔ z ∈ zs)
/-- Where an element is found. -/
def FoundAt (b : Bool) (w : World) (x : Ending) (w' : World) : Prop := ∃ m : Int, x = .returned (.int .i64 m) ∧ decide (0 ≤ m) = b ∧ w = w'
set_option maxRecDepth 100000 in
set_option maxHeartbeats 2000000 in
theorem implIndex (A : Option Addr) (n c B : Nat) (zs : List Int) (z : Int) (w : World) (hI : Ints .i64 w B A n zs) (hn : n ≤ 1099511627776) :
    Calls Try.prog 79 #[.slice A n c, .int .i64 z] w (FoundAt (decide (z ∈ zs)) w) := by
  have HZ := hide hI.len
  have HI := hide hI
  clear hI
  go_enter Try.func79, Try.ntmps79
  go_wp2_with fail
  go_loop [8] (fun i => InRel n z zs i) (fun i => n - (intOf i).toNat)
  case atStart => exact ⟨0, by omega, rfl, Iff.rfl⟩
  case round =>
    obtain ⟨j, hj, rfl, HR⟩ := hrel
    by_cases hlt : j < n
    · obtain ⟨b, off, x, rfl, hb, hx, hc⟩ := HI.out.at_ hlt
      have HD := hide (drop_at hx)
      clear hx
      by_cases hxy : z = x
      · have HF := hide (show decide ((0 : Int) ≤ (j : Int)) = decide (z ∈ zs) by
          rw [Bool.eq_iff_iff, decide_eq_true_eq, decide_eq_true_eq, ← HR.out, HD.out, hxy]
          exact ⟨fun _ => List.mem_cons_self .., fun _ => by omega⟩)
        subst hxy
        go_wp2_with fail
        go_ret
        exact ⟨j, rfl, HF.out, rfl⟩
      · have HN := hide (show z ∈ zs.drop (j + 1) ↔ z ∈ zs by
          rw [← HR.out, HD.out, List.mem_cons]
          exact ⟨.inr, fun h => h.resolve_left hxy⟩)
        have e1 : (z == x) = false := by simpa using hxy
        clear hxy
        go_wp2_with fail
        go_round
        case rel => exact ⟨j + 1, by omega, by go_num, HN.out⟩
        case measure => simp [intOf]; omega
    · have HF := hide (show decide ((0 : Int) ≤ (-1 : Int)) = decide (z ∈ zs) by
        rw [Bool.eq_iff_iff, decide_eq_true_eq, decide_eq_true_eq, ← HR.out, List.drop_of_length_le (by rw [HZ.out]; omega)]
        exact ⟨fun h => by omega, fun h => absurd h List.not_mem_nil⟩)
      go_wp2_with fail
      go_ret
      exact ⟨-1, rfl, HF.out, rfl⟩
set_option maxHeartbeats 2000000 in
theorem implContains (A : Option Addr) (n c B : Nat) (zs : List Int) (z : Int) (w : World) (hI : Ints .i64 w B A n zs) (hn : n ≤ 1099511627776) :
    Calls Try.prog 43 #[.slice A n c, .int .i64 z] w fun e w' => e = .returned (.bool (decide (z ∈ zs))) ∧ w = w' := by
  have HI := hide hI
  clear hI
  go_enter Try.func43, Try.ntmps43
  go_wp2_with fail
  refine (implIndex A n c B zs z w HI.out hn).mono ?_
  rintro e w1 ⟨m, rfl, hm, rfl⟩
  have HM := hide hm
  clear hm
  go_wp2_with fail
  go_ret
  exact ⟨ret_bool HM.out.symm, rfl⟩

set_option maxRecDepth 100000 in
set_option maxHeartbeats 4000000 in
theorem cor_bad (p k g L C : Int) (z z' : List Int) (cd : Int) (hz : z.length ≤ 1048576) (hz' : z'.length ≤ 1048576) (hC : -9223372036854775808 ≤ C ∧ C ≤ 9223372036854775807) (h : xErr p k g L C z' [z] = cd) (hne : (cd != 0) = true) :
    D2 35 p k g L C z z' (NewIIK [] [] cd) ∧ D2 19 p k g L C z z' (NewIIK [] [] cd) := by
  have HE := hide h
  have HC := hide hC
  clear h hC
  refine ⟨?_, ?_⟩
  · intro A n cw A' n' cw' B w hI hJ hcap hcap' hB
    have HX0 := hide (CBox.start w p k g L C)
    have hn : n ≤ 1048576 := by rw [← hI.len]; exact hz
    have hn' : n' ≤ 1048576 := by rw [← hJ.len]; exact hz'
    have HR := hide (rws1b (c := cw) (.cells #[.int .i64 p, .int .i64 k, .int .i64 g, .int .i64 L, .int .i64 C] 27) 28 hI hB (by omega))
    have HXr := hide (HX0.out.alloc (.cells #[.slice A n cw] 28))
    have HI := hide hI
    have HJ := hide hJ
    clear hI hJ
    obtain ⟨c0, c1, c2, c3, c4⟩ := HXr.out.cells
    go_enter Try.func35, Try.ntmps35
    go_wp2_with fail
    refine (specXErr p k g L C A' n' cw' z' (some ⟨w.heap.size + 1, 0, none⟩) 1 1 B [z] _ (HJ.out.below (HXr.out.2.mono hB)) (Nat.le_trans hB (Nat.le_of_lt HXr.out.lt)) (by omega) (specWErr p k g L C HC.out _ 1 1 _ _ _ (HR.out.below ((Below.refl _ _).alloc (by rw [alloc_size, alloc_size]; exact Nat.le_refl _) _)) rfl (by rw [alloc_size, alloc_size, alloc_size]; omega) (by omega))).mono ?_
    rw [HE.out]
    rintro e w1 ⟨rfl, hb⟩
    have HX1 := hide (HXr.out.next hb)
    clear hb c0 c1 c2 c3 c4
    obtain ⟨c0, c1, c2, c3, c4⟩ := HX1.out.cells
    go_wp2_with fail
    go_ret3
    exact newIIK_nil HX1.out.2
  · intro A n cw A' n' cw' B w hI hJ hcap hcap' hB
    have HX0 := hide (CBox.start w p k g L C)
    have hn : n ≤ 1048576 := by rw [← hI.len]; exact hz
    have hn' : n' ≤ 1048576 := by rw [← hJ.len]; exact hz'
    have HR := hide (rws1b (c := cw) (.cells #[.int .i64 p, .int .i64 k, .int .i64 g, .int .i64 L, .int .i64 C] 27) 28 hI hB (by omega))
    have HXr := hide (HX0.out.alloc (.cells #[.slice A n cw] 28))
    have HI := hide hI
    have HJ := hide hJ
    clear hI hJ
    obtain ⟨c0, c1, c2, c3, c4⟩ := HXr.out.cells
    go_enter Try.func19, Try.ntmps19
    go_wp2_with fail
    refine (implIdxErr p k g L C A' n' cw' z' (some ⟨w.heap.size + 1, 0, none⟩) 1 1 B [z] _ (HJ.out.below (HXr.out.2.mono hB)) (Nat.le_trans hB (Nat.le_of_lt HXr.out.lt)) (by omega) (implWErr p k g L C _ 1 1 _ _ _ (HR.out.below ((Below.refl _ _).alloc (by rw [alloc_size, alloc_size]; exact Nat.le_refl _) _)) rfl (by rw [alloc_size, alloc_size, alloc_size]; omega) (by omega))).mono ?_
    rw [HE.out]
    rintro e w1 ⟨rfl, hb⟩
    have HX1 := hide (HXr.out.next hb)
    clear hb c0 c1 c2 c3 c4
    obtain ⟨c0, c1, c2, c3, c4⟩ := HX1.out.cells
    go_wp2_with fail
    go_ret3
    exact newIIK_nil HX1.out.2

set_option maxRecDepth 100000 in
set_option maxHeartbeats 4000000 in
theorem cor_yes {R : Fld} {γ : El R} {p k g : Int} {l c : Nat} (h : CodeIs R γ p k g l c) (ws : List (El R)) (hw : ws.length = l) (E : List Nat) (hE : Idx l E) (hz : (iv ws).length ≤ 1048576) (hz' : (nv E).length ≤ 1048576) (cz : List (El R)) (ho : Okw γ l c E ws cz) :
    D2 35 p k g l c (iv ws) (nv E) (NewIIK (iv cz) (nv (difs ws cz)) 0) ∧ D2 19 p k g l c (iv ws) (nv E) (NewIIK (iv cz) (nv (difs ws cz)) 0) := by
  have hl255 := h.l255
  have HC := hide (c_bd h)
  have HE := hide (show xErr p k g l c (nv E) [iv ws] = 0 by rw [xErr, wErr_is h (fun z hz => by rw [List.mem_singleton] at hz; exact ⟨ws, hz, hw⟩), if_pos rfl, idx_shut hE]; rfl)
  refine ⟨?_, ?_⟩
  · intro A n cw A' n' cw' B w hI hJ hcap hcap' hB
    have HX0 := hide (CBox.start w p k g l c)
    have hn : n ≤ 1048576 := by rw [← hI.len]; exact hz
    have hn' : n' ≤ 1048576 := by rw [← hJ.len]; exact hz'
    have HR := hide (rws1b (c := cw) (.cells #[.int .i64 p, .int .i64 k, .int .i64 g, .int .i64 l, .int .i64 c] 27) 28 hI hB (by omega))
    have HXr := hide (HX0.out.alloc (.cells #[.slice A n cw] 28))
    have HI := hide hI
    have HJ := hide hJ
    clear hI hJ
    obtain ⟨c0, c1, c2, c3, c4⟩ := HXr.out.cells
    have hwn : ws.length = n := by rw [← iv_len]; exact HI.out.len
    obtain rfl : n = l := by omega
    have HWN := hide hwn
    clear hwn hw
    go_enter Try.func35, Try.ntmps35
    go_wp2_with fail
    refine (specXErr p k g n c A' n' cw' (nv E) (some ⟨w.heap.size + 1, 0, none⟩) 1 1 B [(iv ws)] _ (HJ.out.below (HXr.out.2.mono hB)) (Nat.le_trans hB (Nat.le_of_lt HXr.out.lt)) (by omega) (specWErr p k g n c HC.out _ 1 1 _ _ _ (HR.out.below ((Below.refl _ _).alloc (by rw [alloc_size, alloc_size]; exact Nat.le_refl _) _)) rfl (by rw [alloc_size, alloc_size, alloc_size]; omega) (by omega))).mono ?_
    rw [HE.out]
    rintro e w1 ⟨rfl, hb⟩
    have HX1 := hide (HXr.out.next hb)
    clear hb c0 c1 c2 c3 c4
    obtain ⟨c0, c1, c2, c3, c4⟩ := HX1.out.cells
    go_wp2_with fail
    refine (specCorrect h E hE ws A A' cw n' cw' B _ (HI.out.below (HX1.out.2.mono hB)) (HJ.out.below (HX1.out.2.mono hB)) (Nat.le_trans hB (Nat.le_of_lt HX1.out.lt))).mono ?_
    intro e w2 hp
    obtain ⟨A2, m2, A3, m3, rfl, hm2, hm3, ho2, ho3, hne, hb⟩ := scPost_yes ho hp
    have HX2 := hide (HX1.out.next hb)
    have HF := hide (newIIK_of (w := w) (cd := 0) ho2 ho3 hne.1 HX2.out.2 (Nat.le_of_lt HX1.out.lt))
    clear hp ho2 ho3 hne hb hm2 hm3 c0 c1 c2 c3 c4
    go_wp2_with fail
    go_ret3
    exact HF.out
  · intro A n cw A' n' cw' B w hI hJ hcap hcap' hB
    have HX0 := hide (CBox.start w p k g l c)
    have hn : n ≤ 1048576 := by rw [← hI.len]; exact hz
    have hn' : n' ≤ 1048576 := by rw [← hJ.len]; exact hz'
    have HR := hide (rws1b (c := cw) (.cells #[.int .i64 p, .int .i64 k, .int .i64 g, .int .i64 l, .int .i64 c] 27) 28 hI hB (by omega))
    have HXr := hide (HX0.out.alloc (.cells #[.slice A n cw] 28))
    have HI := hide hI
    have HJ := hide hJ
    clear hI hJ
    obtain ⟨c0, c1, c2, c3, c4⟩ := HXr.out.cells
    have hwn : ws.length = n := by rw [← iv_len]; exact HI.out.len
    obtain rfl : n = l := by omega
    have HWN := hide hwn
    clear hwn hw
    go_enter Try.func19, Try.ntmps19
    go_wp2_with fail
    refine (implIdxErr p k g n c A' n' cw' (nv E) (some ⟨w.heap.size + 1, 0, none⟩) 1 1 B [(iv ws)] _ (HJ.out.below (HXr.out.2.mono hB)) (Nat.le_trans hB (Nat.le_of_lt HXr.out.lt)) (by omega) (implWErr p k g n c _ 1 1 _ _ _ (HR.out.below ((Below.refl _ _).alloc (by rw [alloc_size, alloc_size]; exact Nat.le_refl _) _)) rfl (by rw [alloc_size, alloc_size, alloc_size]; omega) (by omega))).mono ?_
    rw [HE.out]
    rintro e w1 ⟨rfl, hb⟩
    have HX1 := hide (HXr.out.next hb)
    clear hb c0 c1 c2 c3 c4
    obtain ⟨c0, c1, c2, c3, c4⟩ := HX1.out.cells
    go_wp2_with fail
    refine (implCorrected h E hE ws A A' cw n' cw' B _ (HI.out.below (HX1.out.2.mono hB)) (HJ.out.below (HX1.out.2.mono hB)) (Nat.le_trans hB (Nat.le_of_lt HX1.out.lt))).mono ?_
    intro e w2 hp
    obtain ⟨A2, m2, rfl, hm2, ho2, hb⟩ := coPost_yes ho hp
    have hcn := ho.1
    rw [iv_len, hcn] at ho2 hm2 ⊢
    have HX2 := hide (HX1.out.next hb)
    have HO2 := hide ho2
    clear hp hb hm2 c0 c1 c2 c3 c4
    go_wp2_with fail
    refine (implDifferences ws cz A A2 n cw m2 _ w2 ((HI.out.below (HX2.out.2.mono hB)).more (Nat.le_trans hB (Nat.le_of_lt HX2.out.lt))) ho2.intsE (Nat.le_refl _) (by omega)).mono ?_
    clear ho2
    rintro e w3 ⟨A3, m3, rfl, hm3, ho3, hb⟩
    have HX3 := hide (HX2.out.next hb)
    have HNE := hide (HO2.out.ne ho3 (Nat.le_refl _))
    have HO2b := hide (HO2.out.below hb (Nat.le_refl _))
    have HF := hide (newIIK_of (w := w) (cd := 0) (HO2b.out.low (Nat.le_of_lt HX1.out.lt)) (ho3.low (Nat.le_of_lt HX2.out.lt)) HNE.out HX3.out.2 (Nat.le_refl _))
    clear ho3 hb hm3
    go_wp2_with fail
    go_ret3
    exact HF.out

set_option maxRecDepth 100000 in
set_option maxHeartbeats 4000000 in
theorem cor_no {R : Fld} {γ : El R} {p k g : Int} {l c : Nat} (h : CodeIs R γ p k g l c) (ws : List (El R)) (hw : ws.length = l) (E : List Nat) (hE : Idx l E) (hz : (iv ws).length ≤ 1048576) (hz' : (nv E).length ≤ 1048576) (ho : ∀ cz, ¬ Okw γ l c E ws cz) :
    D2 35 p k g l c (iv ws) (nv E) (NewIIK [] [] 7) ∧ D2 19 p k g l c (iv ws) (nv E) (NewIIK [] [] 7) := by
  have hl255 := h.l255
  have HC := hide (c_bd h)
  have HE := hide (show xErr p k g l c (nv E) [iv ws] = 0 by rw [xErr, wErr_is h (fun z hz => by rw [List.mem_singleton] at hz; exact ⟨ws, hz, hw⟩), if_pos rfl, idx_shut hE]; rfl)
  refine ⟨?_, ?_⟩
  · intro A n cw A' n' cw' B w hI hJ hcap hcap' hB
    have HX0 := hide (CBox.start w p k g l c)
    have hn : n ≤ 1048576 := by rw [← hI.len]; exact hz
    have hn' : n' ≤ 1048576 := by rw [← hJ.len]; exact hz'
    have HR := hide (rws1b (c := cw) (.cells #[.int .i64 p, .int .i64 k, .int .i64 g, .int .i64 l, .int .i64 c] 27) 28 hI hB (by omega))
    have HXr := hide (HX0.out.alloc (.cells #[.slice A n cw] 28))
    have HI := hide hI
    have HJ := hide hJ
    clear hI hJ
    obtain ⟨c0, c1, c2, c3, c4⟩ := HXr.out.cells
    have hwn : ws.length = n := by rw [← iv_len]; exact HI.out.len
    obtain rfl : n = l := by omega
    have HWN := hide hwn
    clear hwn hw
    go_enter Try.func35, Try.ntmps35
    go_wp2_with fail
    refine (specXErr p k g n c A' n' cw' (nv E) (some ⟨w.heap.size + 1, 0, none⟩) 1 1 B [(iv ws)] _ (HJ.out.below (HXr.out.2.mono hB)) (Nat.le_trans hB (Nat.le_of_lt HXr.out.lt)) (by omega) (specWErr p k g n c HC.out _ 1 1 _ _ _ (HR.out.below ((Below.refl _ _).alloc (by rw [alloc_size, alloc_size]; exact Nat.le_refl _) _)) rfl (by rw [alloc_size, alloc_size, alloc_size]; omega) (by omega))).mono ?_
    rw [HE.out]
    rintro e w1 ⟨rfl, hb⟩
    have HX1 := hide (HXr.out.next hb)
    clear hb c0 c1 c2 c3 c4
    obtain ⟨c0, c1, c2, c3, c4⟩ := HX1.out.cells
    go_wp2_with fail
    refine (specCorrect h E hE ws A A' cw n' cw' B _ (HI.out.below (HX1.out.2.mono hB)) (HJ.out.below (HX1.out.2.mono hB)) (Nat.le_trans hB (Nat.le_of_lt HX1.out.lt))).mono ?_
    intro e w2 hp
    obtain ⟨r, s, A2, m2, A3, m3, rfl, hm2, hm3, ho2, ho3, hne, hb⟩ := scPost_no ho hp
    have HX2 := hide (HX1.out.next hb)
    clear hp ho2 ho3 hne hb hm2 hm3 c0 c1 c2 c3 c4
    go_wp2_with fail
    go_ret3
    exact newIIK_nil HX2.out.2
  · intro A n cw A' n' cw' B w hI hJ hcap hcap' hB
    have HX0 := hide (CBox.start w p k g l c)
    have hn : n ≤ 1048576 := by rw [← hI.len]; exact hz
    have hn' : n' ≤ 1048576 := by rw [← hJ.len]; exact hz'
    have HR := hide (rws1b (c := cw) (.cells #[.int .i64 p, .int .i64 k, .int .i64 g, .int .i64 l, .int .i64 c] 27) 28 hI hB (by omega))
    have HXr := hide (HX0.out.alloc (.cells #[.slice A n cw] 28))
    have HI := hide hI
    have HJ := hide hJ
    clear hI hJ
    obtain ⟨c0, c1, c2, c3, c4⟩ := HXr.out.cells
    have hwn : ws.length = n := by rw [← iv_len]; exact HI.out.len
    obtain rfl : n = l := by omega
    have HWN := hide hwn
    clear hwn hw
    go_enter Try.func19, Try.ntmps19
    go_wp2_with fail
    refine (implIdxErr p k g n c A' n' cw' (nv E) (some ⟨w.heap.size + 1, 0, none⟩) 1 1 B [(iv ws)] _ (HJ.out.below (HXr.out.2.mono hB)) (Nat.le_trans hB (Nat.le_of_lt HXr.out.lt)) (by omega) (implWErr p k g n c _ 1 1 _ _ _ (HR.out.below ((Below.refl _ _).alloc (by rw [alloc_size, alloc_size]; exact Nat.le_refl _) _)) rfl (by rw [alloc_size, alloc_size, alloc_size]; omega) (by omega))).mono ?_
    rw [HE.out]
    rintro e w1 ⟨rfl, hb⟩
    have HX1 := hide (HXr.out.next hb)
    clear hb c0 c1 c2 c3 c4
    obtain ⟨c0, c1, c2, c3, c4⟩ := HX1.out.cells
    go_wp2_with fail
    refine (implCorrected h E hE ws A A' cw n' cw' B _ (HI.out.below (HX1.out.2.mono hB)) (HJ.out.below (HX1.out.2.mono hB)) (Nat.le_trans hB (Nat.le_of_lt HX1.out.lt))).mono ?_
    intro e w2 hp
    obtain ⟨A2, m2, rfl, hm2, ho2, hb⟩ := coPost_no ho hp
    have HX2 := hide (HX1.out.next hb)
    clear hp ho2 hb hm2 c0 c1 c2 c3 c4
    go_wp2_with fail
    go_ret3
    exact newIIK_nil HX2.out.2

set_option maxHeartbeats 2000000 in
theorem isc_spec {p k g L C : Int} {z z' r s : List Int} {cd : Int} (h : D2 35 p k g L C z z' (NewIIK r s cd)) : D2 36 p k g L C z z' (Gives (.bool (decide (cd = 0)))) := by
  intro A n cw A' n' cw' B w hI hJ hcap hcap' hB
  have HX0 := hide (CBox.start w p k g L C)
  have HI := hide hI
  have HJ := hide hJ
  have HH := hide h
  clear hI hJ h
  have HF := hide (show (cd == 0) = decide (cd = 0) by by_cases h : cd = 0 <;> simp [h])
  obtain ⟨b, hbd⟩ : ∃ b, decide (cd = 0) = b := ⟨_, rfl⟩
  rw [hbd] at HF ⊢
  have e1 := HF.out
  obtain ⟨c0, c1, c2, c3, c4⟩ := HX0.out.cells
  clear hbd
  go_enter Try.func36, Try.ntmps36
  go_wp2_with fail
  refine (HH.out A n cw A' n' cw' B _ (HI.out.below (HX0.out.2.mono hB)) (HJ.out.below (HX0.out.2.mono hB)) hcap hcap' (Nat.le_trans hB (Nat.le_of_lt HX0.out.lt))).mono ?_
  rintro e w1 ⟨A1, m1, A2, m2, rfl, _, _, _, _, _, hb⟩
  have HX1 := hide (HX0.out.next hb)
  clear hb c0 c1 c2 c3 c4
  go_wp2_with fail
  go_ret
  exact ⟨rfl, HX1.out.2⟩
set_option maxHeartbeats 2000000 in
theorem isc_impl {p k g L C : Int} {z z' r s : List Int} {cd : Int} (h : D2 19 p k g L C z z' (NewIIK r s cd)) : D2 37 p k g L C z z' (Gives (.bool (decide (cd = 0)))) := by
  intro A n cw A' n' cw' B w hI hJ hcap hcap' hB
  have HX0 := hide (CBox.start w p k g L C)
  have HI := hide hI
  have HJ := hide hJ
  have HH := hide h
  clear hI hJ h
  have HF := hide (show (cd == 0) = decide (cd = 0) by by_cases h : cd = 0 <;> simp [h])
  obtain ⟨b, hbd⟩ : ∃ b, decide (cd = 0) = b := ⟨_, rfl⟩
  rw [hbd] at HF ⊢
  have e1 := HF.out
  obtain ⟨c0, c1, c2, c3, c4⟩ := HX0.out.cells
  clear hbd
  go_enter Try.func37, Try.ntmps37
  go_wp2_with fail
  refine (HH.out A n cw A' n' cw' B _ (HI.out.below (HX0.out.2.mono hB)) (HJ.out.below (HX0.out.2.mono hB)) hcap hcap' (Nat.le_trans hB (Nat.le_of_lt HX0.out.lt))).mono ?_
  rintro e w1 ⟨A1, m1, A2, m2, rfl, _, _, _, _, _, hb⟩
  have HX1 := hide (HX0.out.next hb)
  clear hb c0 c1 c2 c3 c4
  go_wp2_with fail
  go_ret
  exact ⟨rfl, HX1.out.2⟩

/-- A function of a code and three lists: its contract, whatever the lists' memory. -/
def D3 (f : Nat) (p k g L C : Int) (z z' z'' : List Int) (Post : World → Ending → World → Prop) : Prop :=
  ∀ (A : Option Addr) (n c : Nat) (A' : Option Addr) (n' c' : Nat) (A'' : Option Addr) (n'' c'' B : Nat) (w : World), Ints .i64 w B A n z → Ints .i64 w B A' n' z' → Ints .i64 w B A'' n'' z'' → n ≤ c → n' ≤ c' → n'' ≤ c'' → B ≤ w.heap.size → Calls Try.prog f #[.agg #[.int .i64 p, .int .i64 k, .int .i64 g, .int .i64 L, .int .i64 C], .slice A n c, .slice A' n' c', .slice A'' n'' c''] w (Post w)
set_option maxRecDepth 100000 in
set_option maxHeartbeats 4000000 in
theorem dmg_bad (p k g L C : Int) (z z' z'' : List Int) (cd : Int) (hz : z.length ≤ 1048576) (hz' : z'.length ≤ 1048576) (hz'' : z''.length ≤ 1048576) (hC : -9223372036854775808 ≤ C ∧ C ≤ 9223372036854775807) (h : xErr p k g L C z'' [z, z'] = cd) (hne : (cd != 0) = true) :
    D3 15 p k g L C z z' z'' (GivesII 0 cd) ∧ D3 14 p k g L C z z' z'' (GivesII 0 cd) := by
  have HE := hide h
  have HC := hide hC
  clear h hC
  refine ⟨?_, ?_⟩
  · intro A n cw A' n' cw' A'' n'' cw'' B w hI hJ hQ hcap hcap' hcap'' hB
    have HX0 := hide (CBox.start w p k g L C)
    have hn : n ≤ 1048576 := by rw [← hI.len]; exact hz
    have hn' : n' ≤ 1048576 := by rw [← hJ.len]; exact hz'
    have hn'' : n'' ≤ 1048576 := by rw [← hQ.len]; exact hz''
    have HR := hide (rws2b (c := cw) (c' := cw') (.cells #[.int .i64 p, .int .i64 k, .int .i64 g, .int .i64 L, .int .i64 C] 27) 28 hI hJ hB (by omega) (by omega))
    have HXr := hide (HX0.out.alloc (.cells #[.slice A n cw, .slice A' n' cw'] 28))
    have HI := hide hI
    have HJ := hide hJ
    have HQ := hide hQ
    clear hI hJ hQ
    obtain ⟨c0, c1, c2, c3, c4⟩ := HXr.out.cells
    go_enter Try.func15, Try.ntmps15
    go_wp2_with fail
    refine (specXErr p k g L C A'' n'' cw'' z'' (some ⟨w.heap.size + 1, 0, none⟩) 2 2 B [z, z'] _ (HQ.out.below (HXr.out.2.mono hB)) (Nat.le_trans hB (Nat.le_of_lt HXr.out.lt)) (by omega) (specWErr p k g L C HC.out _ 2 2 _ _ _ (HR.out.below ((Below.refl _ _).alloc (by rw [alloc_size, alloc_size]; exact Nat.le_refl _) _)) rfl (by rw [alloc_size, alloc_size, alloc_size]; omega) (by omega))).mono ?_
    rw [HE.out]
    rintro e w1 ⟨rfl, hb⟩
    have HX1 := hide (HXr.out.next hb)
    clear hb c0 c1 c2 c3 c4
    obtain ⟨c0, c1, c2, c3, c4⟩ := HX1.out.cells
    go_wp2_with fail
    go_ret2
    exact ⟨rfl, HX1.out.2⟩
  · intro A n cw A' n' cw' A'' n'' cw'' B w hI hJ hQ hcap hcap' hcap'' hB
    have HX0 := hide (CBox.start w p k g L C)
    have hn : n ≤ 1048576 := by rw [← hI.len]; exact hz
    have hn' : n' ≤ 1048576 := by rw [← hJ.len]; exact hz'
    have hn'' : n'' ≤ 1048576 := by rw [← hQ.len]; exact hz''
    have HR := hide (rws2b (c := cw) (c' := cw') (.cells #[.int .i64 p, .int .i64 k, .int .i64 g, .int .i64 L, .int .i64 C] 27) 28 hI hJ hB (by omega) (by omega))
    have HXr := hide (HX0.out.alloc (.cells #[.slice A n cw, .slice A' n' cw'] 28))
    have HI := hide hI
    have HJ := hide hJ
    have HQ := hide hQ
    clear hI hJ hQ
    obtain ⟨c0, c1, c2, c3, c4⟩ := HXr.out.cells
    go_enter Try.func14, Try.ntmps14
    go_wp2_with fail
    refine (implIdxErr p k g L C A'' n'' cw'' z'' (some ⟨w.heap.size + 1, 0, none⟩) 2 2 B [z, z'] _ (HQ.out.below (HXr.out.2.mono hB)) (Nat.le_trans hB (Nat.le_of_lt HXr.out.lt)) (by omega) (implWErr p k g L C _ 2 2 _ _ _ (HR.out.below ((Below.refl _ _).alloc (by rw [alloc_size, alloc_size]; exact Nat.le_refl _) _)) rfl (by rw [alloc_size, alloc_size, alloc_size]; omega) (by omega))).mono ?_
    rw [HE.out]
    rintro e w1 ⟨rfl, hb⟩
    have HX1 := hide (HXr.out.next hb)
    clear hb c0 c1 c2 c3 c4
    obtain ⟨c0, c1, c2, c3, c4⟩ := HX1.out.cells
    go_wp2_with fail
    go_ret2
    exact ⟨rfl, HX1.out.2⟩


section
variable {R : Fld}
theorem errs_difs {l : Nat} {E : List Nat} {ws ss : List (El R)} (h : ws.length = l) : errs l E ws ss = (difs ws ss).filter fun i => !decide (i ∈ E) := by
  unfold errs difs
  rw [List.filter_filter, h]
def DmRel (w : World) (p k g L C : Int) (N m : Nat) (A1 : Option Addr) (E D : List Nat) (d i : Value) (wr : World) : Prop :=
  ∃ j : Nat, j ≤ m ∧ i = .int .i64 j ∧ d = .int .i64 (E.length + 2 * ((D.take j).filter fun i => !decide (i ∈ E)).length : Nat) ∧ Ints .i64 wr N A1 m (nv D) ∧ CBox w wr p k g L C
def DsRel (w : World) (p k g L C : Int) (n : Nat) (E : List Nat) (ws ss : List (El R)) (d i : Value) (wr : World) : Prop :=
  ∃ j : Nat, j ≤ n ∧ i = .int .i64 j ∧ d = .int .i64 (E.length + 2 * (erN E ws ss j).length : Nat) ∧ CBox w wr p k g L C
end
set_option maxRecDepth 100000 in
set_option maxHeartbeats 4000000 in
theorem dmg_val {R : Fld} {γ : El R} {p k g : Int} {l c : Nat} (h : CodeIs R γ p k g l c) (ws ss : List (El R)) (hw : ws.length = l) (hs : ss.length = l) (E : List Nat) (hE : Idx l E) (hz : (iv ws).length ≤ 1048576) (hz' : (iv ss).length ≤ 1048576) (hz'' : (nv E).length ≤ 1048576) :
    D3 15 p k g l c (iv ws) (iv ss) (nv E) (GivesII (E.length + 2 * (errs l E ws ss).length : Nat) 0) ∧ D3 14 p k g l c (iv ws) (iv ss) (nv E) (GivesII (E.length + 2 * (errs l E ws ss).length : Nat) 0) := by
  have hl255 := h.l255
  have HC := hide (c_bd h)
  have hEl := hE.len
  have HE := hide (show xErr p k g l c (nv E) [iv ws, iv ss] = 0 by
    rw [xErr, wErr_is h (fun z hz => by
      simp only [List.mem_cons, List.not_mem_nil, or_false] at hz
      rcases hz with rfl | rfl
      · exact ⟨ws, rfl, hw⟩
      · exact ⟨ss, rfl, hs⟩), if_pos rfl, idx_shut hE]; rfl)
  refine ⟨?_, ?_⟩
  · intro A n cw A' n' cw' A'' n'' cw'' B w hI hJ hQ hcap hcap' hcap'' hB
    have HX0 := hide (CBox.start w p k g l c)
    have hn : n ≤ 1048576 := by rw [← hI.len]; exact hz
    have hn' : n' ≤ 1048576 := by rw [← hJ.len]; exact hz'
    have hn'' : n'' ≤ 1048576 := by rw [← hQ.len]; exact hz''
    have HR := hide (rws2b (c := cw) (c' := cw') (.cells #[.int .i64 p, .int .i64 k, .int .i64 g, .int .i64 l, .int .i64 c] 27) 28 hI hJ hB (by omega) (by omega))
    have HXr := hide (HX0.out.alloc (.cells #[.slice A n cw, .slice A' n' cw'] 28))
    have HI := hide hI
    have HJ := hide hJ
    have HQ := hide hQ
    clear hI hJ hQ
    obtain ⟨c0, c1, c2, c3, c4⟩ := HXr.out.cells
    have hwn : ws.length = n := by rw [← iv_len]; exact HI.out.len
    have hsn : ss.length = n' := by rw [← iv_len]; exact HJ.out.len
    have hEn : E.length = n'' := by rw [← nv_len]; exact HQ.out.len
    obtain rfl : n = l := by omega
    obtain rfl : n' = n := by omega
    have HWN := hide hwn
    have HSN := hide hsn
    have HEN := hide hEn
    have hn2 : n'' ≤ 255 := by omega
    clear hwn hsn hEn hw hs hEl
    go_enter Try.func15, Try.ntmps15
    go_wp2_with fail
    refine (specXErr p k g n' c A'' n'' cw'' (nv E) (some ⟨w.heap.size + 1, 0, none⟩) 2 2 B [(iv ws), (iv ss)] _ (HQ.out.below (HXr.out.2.mono hB)) (Nat.le_trans hB (Nat.le_of_lt HXr.out.lt)) (by omega) (specWErr p k g n' c HC.out _ 2 2 _ _ _ (HR.out.below ((Below.refl _ _).alloc (by rw [alloc_size, alloc_size]; exact Nat.le_refl _) _)) rfl (by rw [alloc_size, alloc_size, alloc_size]; omega) (by omega))).mono ?_
    rw [HE.out]
    rintro e w1 ⟨rfl, hb⟩
    have HX1 := hide (HXr.out.next hb)
    clear hb c0 c1 c2 c3 c4
    obtain ⟨c0, c1, c2, c3, c4⟩ := HX1.out.cells
    go_wp2_with fail
    go_loopw [11, 12] (fun d i wr => DsRel w p k g n' c n' E ws ss d i wr) (fun _ i _ => n' - (intOf i).toNat)
    case atStart => exact ⟨0, by omega, rfl, by rw [HEN.out]; rfl, HX1.out⟩
    case round =>
      clear HX0 HXr HX1 HR c0 c1 c2 c3 c4
      obtain ⟨j, hj, rfl, rfl, HX⟩ := hrel
      have HX := hide HX
      obtain ⟨dN, hdN⟩ : ∃ dN, E.length + 2 * (erN E ws ss j).length = dN := ⟨_, rfl⟩
      have hdb : dN ≤ 1000 := by have := erN_len E ws ss j; rw [← hdN, HEN.out]; omega
      have HDN := hide hdN
      rw [hdN]
      clear hdN
      by_cases hlt : j < n'
      · obtain ⟨b, off, x', rfl, hb, hx, hc⟩ := (HI.out.below (HX.out.2.mono hB)).at_ hlt
        obtain ⟨b', off', y', rfl, hb', hy, hc'⟩ := (HJ.out.below (HX.out.2.mono hB)).at_ hlt
        rw [iv_at (by rw [HWN.out]; exact hlt)] at hx
        rw [iv_at (by rw [HSN.out]; exact hlt)] at hy
        simp only [Option.some.injEq] at hx hy
        subst hx hy
        have hes := erN_succ E ws ss j
        obtain ⟨x, hx⟩ : ∃ x, cf ws j = x := ⟨_, rfl⟩
        obtain ⟨y, hy⟩ : ∃ y, cf ss j = y := ⟨_, rfl⟩
        rw [hx] at hc hes
        rw [hy] at hc' hes
        have HC1 := hide hc
        have HC2 := hide hc'
        have HIE := hide (HQ.out.below (HX.out.2.mono hB))
        have hxy := neq_val (x := x) (y := y)
        clear hx hy hc hc'
        by_cases he : x = y
        · have HE2 := hide (show E.length + 2 * (erN E ws ss (j + 1)).length = dN by rw [hes, if_neg (fun h => h.2 he), List.append_nil]; exact HDN.out)
          rw [decide_eq_true he] at hxy
          simp only [Bool.not_true] at hxy
          clear he hes
          go_wp2_with fail
          refine tail_begin (fun w' => w'.cell? ⟨b, off + j, none⟩ = some (.int .i64 (x.val : Int)) ∧ w'.cell? ⟨b', off' + j, none⟩ = some (.int .i64 (y.val : Int))) 15 (by kernel_rfl) ⟨HC1.out, HC2.out⟩ (fun hS' => ?_)
          refine tail_take2 0 rfl (by kernel_rfl) (by kernel_rfl) (by kernel_rfl) (by decide) (fun _ _ _ h => h) (by rfl) (v := ?_) ?_ (by assumption) ?_
          rotate_left 1
          · intro w' hS'; (try dsimp only at hS'); go_simp; try with_reducible rfl
          try simp only [Act.put, List.setIfInBounds_toArray, List.set_cons_zero, List.set_cons_succ]
          refine tail_take2 1 rfl (by kernel_rfl) (by kernel_rfl) (by kernel_rfl) (by decide) (fun _ _ _ h => h) (by rfl) (v := ?_) ?_ (by assumption) ?_
          rotate_left 1
          · intro w' hS'; (try dsimp only at hS'); go_simp; try with_reducible rfl
          try simp only [Act.put, List.setIfInBounds_toArray, List.set_cons_zero, List.set_cons_succ]
          refine tail_take2 2 rfl (by kernel_rfl) (by kernel_rfl) (by kernel_rfl) (by decide) (fun _ _ _ h => h) (by rfl) (v := ?_) ?_ (by assumption) ?_
          rotate_left 1
          · intro w' hS'; (try dsimp only at hS'); go_simp; try with_reducible rfl
          try simp only [Act.put, List.setIfInBounds_toArray, List.set_cons_zero, List.set_cons_succ]
          refine tail_take2 3 rfl (by kernel_rfl) (by kernel_rfl) (by kernel_rfl) (by decide) (fun _ _ _ h => h) (by rfl) (v := ?_) ?_ (by assumption) ?_
          rotate_left 1
          · intro w' hS'; (try dsimp only at hS'); go_simp; try with_reducible rfl
          try simp only [Act.put, List.setIfInBounds_toArray, List.set_cons_zero, List.set_cons_succ]
          refine tail_take2 4 rfl (by kernel_rfl) (by kernel_rfl) (by kernel_rfl) (by decide) (fun _ _ _ h => h) (by rfl) (v := ?_) ?_ (by assumption) ?_
          rotate_left 1
          · intro w' hS'; (try dsimp only at hS'); go_simp; try with_reducible rfl
          try simp only [Act.put, List.setIfInBounds_toArray, List.set_cons_zero, List.set_cons_succ]
          refine tail_take2 5 rfl (by kernel_rfl) (by kernel_rfl) (by kernel_rfl) (by decide) (fun _ _ _ h => h) (by rfl) (v := ?_) ?_ (by assumption) ?_
          rotate_left 1
          · intro w' hS'; (try dsimp only at hS'); go_simp; try with_reducible rfl
          try simp only [Act.put, List.setIfInBounds_toArray, List.set_cons_zero, List.set_cons_succ]
          refine tail_take2 6 rfl (by kernel_rfl) (by kernel_rfl) (by kernel_rfl) (by decide) (fun _ _ _ h => h) (by rfl) (v := ?_) ?_ (by assumption) ?_
          rotate_left 1
          · intro w' hS'; (try dsimp only at hS'); go_simp; try with_reducible rfl
          try simp only [Act.put, List.setIfInBounds_toArray, List.set_cons_zero, List.set_cons_succ]
          refine tail_take2 7 rfl (by kernel_rfl) (by kernel_rfl) (by kernel_rfl) (by decide) (fun _ _ _ h => h) (by rfl) (v := ?_) ?_ (by assumption) ?_
          rotate_left 1
          · intro w' hS'; (try dsimp only at hS'); go_simp; try with_reducible rfl
          try simp only [Act.put, List.setIfInBounds_toArray, List.set_cons_zero, List.set_cons_succ]
          refine tail_take2 8 rfl (by kernel_rfl) (by kernel_rfl) (by kernel_rfl) (by decide) (fun _ _ _ h => h) (by rfl) (v := ?_) ?_ (by assumption) ?_
          rotate_left 1
          · intro w' hS'; (try dsimp only at hS'); go_simp; try with_reducible rfl
          try simp only [Act.put, List.setIfInBounds_toArray, List.set_cons_zero, List.set_cons_succ]
          refine tail_take2 9 rfl (by kernel_rfl) (by kernel_rfl) (by kernel_rfl) (by decide) (fun _ _ _ h => h) (by rfl) (v := ?_) ?_ (by assumption) ?_
          rotate_left 1
          · intro w' hS'; (try dsimp only at hS'); go_simp; try with_reducible rfl
          try simp only [Act.put, List.setIfInBounds_toArray, List.set_cons_zero, List.set_cons_succ]
          refine tail_skip 10 rfl (by kernel_rfl) (by kernel_rfl) (by kernel_rfl) (by decide) (fun _ _ _ h => h) (by rfl) (by assumption) ?_
          try simp only [Act.put, List.setIfInBounds_toArray, List.set_cons_zero, List.set_cons_succ]
          refine tail_skip 11 rfl (by kernel_rfl) (by kernel_rfl) (by kernel_rfl) (by decide) (fun _ _ _ h => h) (by rfl) (by assumption) ?_
          try simp only [Act.put, List.setIfInBounds_toArray, List.set_cons_zero, List.set_cons_succ]
          refine tail_skip 12 rfl (by kernel_rfl) (by kernel_rfl) (by kernel_rfl) (by decide) (fun _ _ _ h => h) (by rfl) (by assumption) ?_
          try simp only [Act.put, List.setIfInBounds_toArray, List.set_cons_zero, List.set_cons_succ]
          refine tail_skip 13 rfl (by kernel_rfl) (by kernel_rfl) (by kernel_rfl) (by decide) (fun _ _ _ h => h) (by rfl) (by assumption) ?_
          try simp only [Act.put, List.setIfInBounds_toArray, List.set_cons_zero, List.set_cons_succ]
          refine tail_take2 14 rfl (by kernel_rfl) (by kernel_rfl) (by kernel_rfl) (by decide) (fun _ _ _ h => h) (by rfl) (v := ?_) ?_ (by assumption) ?_
          rotate_left 1
          · intro w' hS'; (try dsimp only at hS'); go_simp; try with_reducible rfl
          try simp only [Act.put, List.setIfInBounds_toArray, List.set_cons_zero, List.set_cons_succ]
          refine tail_end (by kernel_rfl) ?_
          go_wp2_with fail
          go_roundw
          case rel => exact ⟨j + 1, by omega, by go_num, by rw [HE2.out], HX.out.drew⟩
          case measure => simp [intOf]; omega
        · rw [decide_eq_false he] at hxy
          simp only [Bool.not_false] at hxy
          by_cases hE2 : j ∈ E
          · have HME := hide (show decide ((j : Int) ∈ nv E) = true by rw [decide_eq_true_eq, mem_nv]; exact hE2)
            have HE2 := hide (show E.length + 2 * (erN E ws ss (j + 1)).length = dN by rw [hes, if_neg (fun h => h.1 hE2), List.append_nil]; exact HDN.out)
            clear he hes hE2
            go_wp2_with fail
            refine tail_begin (fun w' => w'.cell? ⟨b, off + j, none⟩ = some (.int .i64 (x.val : Int)) ∧ w'.cell? ⟨b', off' + j, none⟩ = some (.int .i64 (y.val : Int))) 15 (by kernel_rfl) ⟨HC1.out, HC2.out⟩ (fun hS' => ?_)
            refine tail_take2 0 rfl (by kernel_rfl) (by kernel_rfl) (by kernel_rfl) (by decide) (fun _ _ _ h => h) (by rfl) (v := ?_) ?_ (by assumption) ?_
            rotate_left 1
            · intro w' hS'; (try dsimp only at hS'); go_simp; try with_reducible rfl
            try simp only [Act.put, List.setIfInBounds_toArray, List.set_cons_zero, List.set_cons_succ]
            refine tail_take2 1 rfl (by kernel_rfl) (by kernel_rfl) (by kernel_rfl) (by decide) (fun _ _ _ h => h) (by rfl) (v := ?_) ?_ (by assumption) ?_
            rotate_left 1
            · intro w' hS'; (try dsimp only at hS'); go_simp; try with_reducible rfl
            try simp only [Act.put, List.setIfInBounds_toArray, List.set_cons_zero, List.set_cons_succ]
            refine tail_take2 2 rfl (by kernel_rfl) (by kernel_rfl) (by kernel_rfl) (by decide) (fun _ _ _ h => h) (by rfl) (v := ?_) ?_ (by assumption) ?_
            rotate_left 1
            · intro w' hS'; (try dsimp only at hS'); go_simp; try with_reducible rfl
            try simp only [Act.put, List.setIfInBounds_toArray, List.set_cons_zero, List.set_cons_succ]
            refine tail_take2 3 rfl (by kernel_rfl) (by kernel_rfl) (by kernel_rfl) (by decide) (fun _ _ _ h => h) (by rfl) (v := ?_) ?_ (by assumption) ?_
            rotate_left 1
            · intro w' hS'; (try dsimp only at hS'); go_simp; try with_reducible rfl
            try simp only [Act.put, List.setIfInBounds_toArray, List.set_cons_zero, List.set_cons_succ]
            refine tail_take2 4 rfl (by kernel_rfl) (by kernel_rfl) (by kernel_rfl) (by decide) (fun _ _ _ h => h) (by rfl) (v := ?_) ?_ (by assumption) ?_
            rotate_left 1
            · intro w' hS'; (try dsimp only at hS'); go_simp; try with_reducible rfl
            try simp only [Act.put, List.setIfInBounds_toArray, List.set_cons_zero, List.set_cons_succ]
            refine tail_take2 5 rfl (by kernel_rfl) (by kernel_rfl) (by kernel_rfl) (by decide) (fun _ _ _ h => h) (by rfl) (v := ?_) ?_ (by assumption) ?_
            rotate_left 1
            · intro w' hS'; (try dsimp only at hS'); go_simp; try with_reducible rfl
            try simp only [Act.put, List.setIfInBounds_toArray, List.set_cons_zero, List.set_cons_succ]
            refine tail_take2 6 rfl (by kernel_rfl) (by kernel_rfl) (by kernel_rfl) (by decide) (fun _ _ _ h => h) (by rfl) (v := ?_) ?_ (by assumption) ?_
            rotate_left 1
            · intro w' hS'; (try dsimp only at hS'); go_simp; try with_reducible rfl
            try simp only [Act.put, List.setIfInBounds_toArray, List.set_cons_zero, List.set_cons_succ]
            refine tail_take2 7 rfl (by kernel_rfl) (by kernel_rfl) (by kernel_rfl) (by decide) (fun _ _ _ h => h) (by rfl) (v := ?_) ?_ (by assumption) ?_
            rotate_left 1
            · intro w' hS'; (try dsimp only at hS'); go_simp; try with_reducible rfl
            try simp only [Act.put, List.setIfInBounds_toArray, List.set_cons_zero, List.set_cons_succ]
            refine tail_take2 8 rfl (by kernel_rfl) (by kernel_rfl) (by kernel_rfl) (by decide) (fun _ _ _ h => h) (by rfl) (v := ?_) ?_ (by assumption) ?_
            rotate_left 1
            · intro w' hS'; (try dsimp only at hS'); go_simp; try with_reducible rfl
            try simp only [Act.put, List.setIfInBounds_toArray, List.set_cons_zero, List.set_cons_succ]
            refine tail_take2 9 rfl (by kernel_rfl) (by kernel_rfl) (by kernel_rfl) (by decide) (fun _ _ _ h => h) (by rfl) (v := ?_) ?_ (by assumption) ?_
            rotate_left 1
            · intro w' hS'; (try dsimp only at hS'); go_simp; try with_reducible rfl
            try simp only [Act.put, List.setIfInBounds_toArray, List.set_cons_zero, List.set_cons_succ]
            refine tail_take2 10 rfl (by kernel_rfl) (by kernel_rfl) (by kernel_rfl) (by decide) (fun _ _ _ h => h) (by rfl) (v := ?_) ?_ (by assumption) ?_
            rotate_left 1
            · intro w' hS'; (try dsimp only at hS'); go_simp; try with_reducible rfl
            try simp only [Act.put, List.setIfInBounds_toArray, List.set_cons_zero, List.set_cons_succ]
            refine tail_take2 11 rfl (by kernel_rfl) (by kernel_rfl) (by kernel_rfl) (by decide) (fun _ _ _ h => h) (by rfl) (v := ?_) ?_ (by assumption) ?_
            rotate_left 1
            · intro w' hS'; (try dsimp only at hS'); go_simp; try with_reducible rfl
            try simp only [Act.put, List.setIfInBounds_toArray, List.set_cons_zero, List.set_cons_succ]
            refine tail_callG 12 rfl (by kernel_rfl) (by rfl) (fun K hK => ?_)
            go_simp
            go_at_call 45; refine (specHas A'' n'' cw'' _ (nv E) (j : Int) _ HIE.out.drew (by omega)).mono ?_; rw [HME.out]; rintro e wz ⟨rfl, rfl⟩
            refine hK.out _ _ (by (try dsimp only); exact hS') (fun hS' => ?_)
            clear hK K
            try simp only [Act.put, List.setIfInBounds_toArray, List.set_cons_zero, List.set_cons_succ]
            refine tail_take2 13 rfl (by kernel_rfl) (by kernel_rfl) (by kernel_rfl) (by decide) (fun _ _ _ h => h) (by rfl) (v := ?_) ?_ (by assumption) ?_
            rotate_left 1
            · intro w' hS'; (try dsimp only at hS'); go_simp; try with_reducible rfl
            try simp only [Act.put, List.setIfInBounds_toArray, List.set_cons_zero, List.set_cons_succ]
            refine tail_take2 14 rfl (by kernel_rfl) (by kernel_rfl) (by kernel_rfl) (by decide) (fun _ _ _ h => h) (by rfl) (v := ?_) ?_ (by assumption) ?_
            rotate_left 1
            · intro w' hS'; (try dsimp only at hS'); go_simp; try with_reducible rfl
            try simp only [Act.put, List.setIfInBounds_toArray, List.set_cons_zero, List.set_cons_succ]
            refine tail_end (by kernel_rfl) ?_
            go_wp2_with fail
            go_roundw
            case rel => exact ⟨j + 1, by omega, by go_num, by rw [HE2.out], HX.out.drew⟩
            case measure => simp [intOf]; omega
          · have HME := hide (show decide ((j : Int) ∈ nv E) = false by rw [decide_eq_false_iff_not, mem_nv]; exact hE2)
            have HE2 := hide (show E.length + 2 * (erN E ws ss (j + 1)).length = dN + 2 by rw [hes, if_pos ⟨hE2, he⟩, List.length_append, ← HDN.out]; simp; omega)
            clear he hes hE2
            go_wp2_with fail
            refine tail_begin (fun w' => w'.cell? ⟨b, off + j, none⟩ = some (.int .i64 (x.val : Int)) ∧ w'.cell? ⟨b', off' + j, none⟩ = some (.int .i64 (y.val : Int))) 15 (by kernel_rfl) ⟨HC1.out, HC2.out⟩ (fun hS' => ?_)
            refine tail_take2 0 rfl (by kernel_rfl) (by kernel_rfl) (by kernel_rfl) (by decide) (fun _ _ _ h => h) (by rfl) (v := ?_) ?_ (by assumption) ?_
            rotate_left 1
            · intro w' hS'; (try dsimp only at hS'); go_simp; try with_reducible rfl
            try simp only [Act.put, List.setIfInBounds_toArray, List.set_cons_zero, List.set_cons_succ]
            refine tail_take2 1 rfl (by kernel_rfl) (by kernel_rfl) (by kernel_rfl) (by decide) (fun _ _ _ h => h) (by rfl) (v := ?_) ?_ (by assumption) ?_
            rotate_left 1
            · intro w' hS'; (try dsimp only at hS'); go_simp; try with_reducible rfl
            try simp only [Act.put, List.setIfInBounds_toArray, List.set_cons_zero, List.set_cons_succ]
            refine tail_take2 2 rfl (by kernel_rfl) (by kernel_rfl) (by kernel_rfl) (by decide) (fun _ _ _ h => h) (by rfl) (v := ?_) ?_ (by assumption) ?_
            rotate_left 1
            · intro w' hS'; (try dsimp only at hS'); go_simp; try with_reducible rfl
            try simp only [Act.put, List.setIfInBounds_toArray, List.set_cons_zero, List.set_cons_succ]
            refine tail_take2 3 rfl (by kernel_rfl) (by kernel_rfl) (by kernel_rfl) (by decide) (fun _ _ _ h => h) (by rfl) (v := ?_) ?_ (by assumption) ?_
            rotate_left 1
            · intro w' hS'; (try dsimp only at hS'); go_simp; try with_reducible rfl
            try simp only [Act.put, List.setIfInBounds_toArray, List.set_cons_zero, List.set_cons_succ]
            refine tail_take2 4 rfl (by kernel_rfl) (by kernel_rfl) (by kernel_rfl) (by decide) (fun _ _ _ h => h) (by rfl) (v := ?_) ?_ (by assumption) ?_
            rotate_left 1
            · intro w' hS'; (try dsimp only at hS'); go_simp; try with_reducible rfl
            try simp only [Act.put, List.setIfInBounds_toArray, List.set_cons_zero, List.set_cons_succ]
            refine tail_take2 5 rfl (by kernel_rfl) (by kernel_rfl) (by kernel_rfl) (by decide) (fun _ _ _ h => h) (by rfl) (v := ?_) ?_ (by assumption) ?_
            rotate_left 1
            · intro w' hS'; (try dsimp only at hS'); go_simp; try with_reducible rfl
            try simp only [Act.put, List.setIfInBounds_toArray, List.set_cons_zero, List.set_cons_succ]
            refine tail_take2 6 rfl (by kernel_rfl) (by kernel_rfl) (by kernel_rfl) (by decide) (fun _ _ _ h => h) (by rfl) (v := ?_) ?_ (by assumption) ?_
            rotate_left 1
            · intro w' hS'; (try dsimp only at hS'); go_simp; try with_reducible rfl
            try simp only [Act.put, List.setIfInBounds_toArray, List.set_cons_zero, List.set_cons_succ]
            refine tail_take2 7 rfl (by kernel_rfl) (by kernel_rfl) (by kernel_rfl) (by decide) (fun _ _ _ h => h) (by rfl) (v := ?_) ?_ (by assumption) ?_
            rotate_left 1
            · intro w' hS'; (try dsimp only at hS'); go_simp; try with_reducible rfl
            try simp only [Act.put, List.setIfInBounds_toArray, List.set_cons_zero, List.set_cons_succ]
            refine tail_take2 8 rfl (by kernel_rfl) (by kernel_rfl) (by kernel_rfl) (by decide) (fun _ _ _ h => h) (by rfl) (v := ?_) ?_ (by assumption) ?_
            rotate_left 1
            · intro w' hS'; (try dsimp only at hS'); go_simp; try with_reducible rfl
            try simp only [Act.put, List.setIfInBounds_toArray, List.set_cons_zero, List.set_cons_succ]
            refine tail_take2 9 rfl (by kernel_rfl) (by kernel_rfl) (by kernel_rfl) (by decide) (fun _ _ _ h => h) (by rfl) (v := ?_) ?_ (by assumption) ?_
            rotate_left 1
            · intro w' hS'; (try dsimp only at hS'); go_simp; try with_reducible rfl
            try simp only [Act.put, List.setIfInBounds_toArray, List.set_cons_zero, List.set_cons_succ]
            refine tail_take2 10 rfl (by kernel_rfl) (by kernel_rfl) (by kernel_rfl) (by decide) (fun _ _ _ h => h) (by rfl) (v := ?_) ?_ (by assumption) ?_
            rotate_left 1
            · intro w' hS'; (try dsimp only at hS'); go_simp; try with_reducible rfl
            try simp only [Act.put, List.setIfInBounds_toArray, List.set_cons_zero, List.set_cons_succ]
            refine tail_take2 11 rfl (by kernel_rfl) (by kernel_rfl) (by kernel_rfl) (by decide) (fun _ _ _ h => h) (by rfl) (v := ?_) ?_ (by assumption) ?_
            rotate_left 1
            · intro w' hS'; (try dsimp only at hS'); go_simp; try with_reducible rfl
            try simp only [Act.put, List.setIfInBounds_toArray, List.set_cons_zero, List.set_cons_succ]
            refine tail_callG 12 rfl (by kernel_rfl) (by rfl) (fun K hK => ?_)
            go_simp
            go_at_call 45; refine (specHas A'' n'' cw'' _ (nv E) (j : Int) _ HIE.out.drew (by omega)).mono ?_; rw [HME.out]; rintro e wz ⟨rfl, rfl⟩
            refine hK.out _ _ (by (try dsimp only); exact hS') (fun hS' => ?_)
            clear hK K
            try simp only [Act.put, List.setIfInBounds_toArray, List.set_cons_zero, List.set_cons_succ]
            refine tail_take2 13 rfl (by kernel_rfl) (by kernel_rfl) (by kernel_rfl) (by decide) (fun _ _ _ h => h) (by rfl) (v := ?_) ?_ (by assumption) ?_
            rotate_left 1
            · intro w' hS'; (try dsimp only at hS'); go_simp; try with_reducible rfl
            try simp only [Act.put, List.setIfInBounds_toArray, List.set_cons_zero, List.set_cons_succ]
            refine tail_take2 14 rfl (by kernel_rfl) (by kernel_rfl) (by kernel_rfl) (by decide) (fun _ _ _ h => h) (by rfl) (v := ?_) ?_ (by assumption) ?_
            rotate_left 1
            · intro w' hS'; (try dsimp only at hS'); go_simp; try with_reducible rfl
            try simp only [Act.put, List.setIfInBounds_toArray, List.set_cons_zero, List.set_cons_succ]
            refine tail_end (by kernel_rfl) ?_
            go_wp2_with fail
            go_roundw
            case rel => exact ⟨j + 1, by omega, by go_num, by rw [HE2.out]; congr 1, HX.out.drew⟩
            case measure => simp [intOf]; omega
      · obtain rfl : j = n' := by omega
        have HF := hide (show ((E.length + 2 * (errs j E ws ss).length : Nat) : Int) = (dN : Int) by rw [← HDN.out]; rfl)
        go_wp2_with fail
        go_ret2
        exact ⟨ret_ii HF.out rfl, HX.out.2⟩
  · intro A n cw A' n' cw' A'' n'' cw'' B w hI hJ hQ hcap hcap' hcap'' hB
    have HX0 := hide (CBox.start w p k g l c)
    have hn : n ≤ 1048576 := by rw [← hI.len]; exact hz
    have hn' : n' ≤ 1048576 := by rw [← hJ.len]; exact hz'
    have hn'' : n'' ≤ 1048576 := by rw [← hQ.len]; exact hz''
    have HR := hide (rws2b (c := cw) (c' := cw') (.cells #[.int .i64 p, .int .i64 k, .int .i64 g, .int .i64 l, .int .i64 c] 27) 28 hI hJ hB (by omega) (by omega))
    have HXr := hide (HX0.out.alloc (.cells #[.slice A n cw, .slice A' n' cw'] 28))
    have HI := hide hI
    have HJ := hide hJ
    have HQ := hide hQ
    clear hI hJ hQ
    obtain ⟨c0, c1, c2, c3, c4⟩ := HXr.out.cells
    have hwn : ws.length = n := by rw [← iv_len]; exact HI.out.len
    have hsn : ss.length = n' := by rw [← iv_len]; exact HJ.out.len
    have hEn : E.length = n'' := by rw [← nv_len]; exact HQ.out.len
    obtain rfl : n = l := by omega
    obtain rfl : n' = n := by omega
    have HWN := hide hwn
    have HSN := hide hsn
    have HEN := hide hEn
    have hn2 : n'' ≤ 255 := by omega
    clear hwn hsn hEn hw hs hEl
    go_enter Try.func14, Try.ntmps14
    go_wp2_with fail
    refine (implIdxErr p k g n' c A'' n'' cw'' (nv E) (some ⟨w.heap.size + 1, 0, none⟩) 2 2 B [(iv ws), (iv ss)] _ (HQ.out.below (HXr.out.2.mono hB)) (Nat.le_trans hB (Nat.le_of_lt HXr.out.lt)) (by omega) (implWErr p k g n' c _ 2 2 _ _ _ (HR.out.below ((Below.refl _ _).alloc (by rw [alloc_size, alloc_size]; exact Nat.le_refl _) _)) rfl (by rw [alloc_size, alloc_size, alloc_size]; omega) (by omega))).mono ?_
    rw [HE.out]
    rintro e w1 ⟨rfl, hb⟩
    have HX1 := hide (HXr.out.next hb)
    clear hb c0 c1 c2 c3 c4
    obtain ⟨c0, c1, c2, c3, c4⟩ := HX1.out.cells
    go_wp2_with fail
    refine (implDifferences ws ss A A' n' cw cw' B _ (HI.out.below (HX1.out.2.mono hB)) (HJ.out.below (HX1.out.2.mono hB)) (Nat.le_trans hB (Nat.le_of_lt HX1.out.lt)) (by omega)).mono ?_
    rintro e w2 ⟨A2, m2, rfl, hm2, ho2, hb⟩
    have HX2 := hide (HX1.out.next hb)
    obtain ⟨D, hD⟩ : ∃ D, difs ws ss = D := ⟨_, rfl⟩
    have HDD := hide hD
    obtain ⟨m, hm⟩ : ∃ m, D.length = m := ⟨_, rfl⟩
    have hmb : m ≤ 255 := by
      rw [← hm, ← hD]
      have := difN_len ws ss ws.length
      show (difN ws ss ws.length).length ≤ 255
      rw [HWN.out] at this ⊢; omega
    have HDM := hide hm
    have HJ2 := hide ho2.ints
    rw [hD, nv_len, hm] at HJ2 ⊢
    clear ho2 hb hm2 hD hm c0 c1 c2 c3 c4
    go_wp2_with fail
    go_loopw [11, 29] (fun d i wr => DmRel w p k g n' c w2.heap.size m A2 E D d i wr) (fun _ i _ => m - (intOf i).toNat)
    case atStart => exact ⟨0, by omega, rfl, by rw [HEN.out]; rfl, HJ2.out, HX2.out⟩
    case round =>
      clear HX0 HXr HX1 HX2 HJ2 HR
      obtain ⟨j, hj, rfl, rfl, HD, HX⟩ := hrel
      have HX := hide HX
      have HD := hide HD
      obtain ⟨dN, hdN⟩ : ∃ dN, E.length + 2 * ((D.take j).filter fun i => !decide (i ∈ E)).length = dN := ⟨_, rfl⟩
      have hdb : dN ≤ 1000 := by
        have h1 := List.length_filter_le (fun i => !decide (i ∈ E)) (D.take j)
        rw [List.length_take] at h1
        rw [← hdN, HEN.out]; omega
      have HDN := hide hdN
      rw [hdN]
      clear hdN
      by_cases hlt : j < m
      · obtain ⟨b, off, z', rfl, hb, hzz, hc⟩ := HD.out.at_ hlt
        obtain ⟨z, hzD, rfl⟩ := nv_get hzz
        have htk : D.take (j + 1) = D.take j ++ [z] := by rw [List.take_add_one, hzD]; rfl
        have HIE := hide (HQ.out.below (HX.out.2.mono hB))
        clear hzz hzD
        by_cases hE2 : z ∈ E
        · have HME := hide (show decide ((z : Int) ∈ nv E) = true by rw [decide_eq_true_eq, mem_nv]; exact hE2)
          have HE2 := hide (show E.length + 2 * ((D.take (j + 1)).filter fun i => !decide (i ∈ E)).length = dN by rw [htk, List.filter_append, List.filter_cons_of_neg (by simpa using hE2), List.filter_nil, List.append_nil]; exact HDN.out)
          clear hE2 htk
          go_wp2_with fail
          refine (implContains A'' n'' cw'' _ (nv E) (z : Int) wr HIE.out (by omega)).mono ?_
          rw [HME.out]
          rintro e wz ⟨rfl, rfl⟩
          go_wp2_with fail
          go_roundw
          case rel => exact ⟨j + 1, by omega, by go_num, by rw [HE2.out], HD.out, HX.out⟩
          case measure => simp [intOf]; omega
        · have HME := hide (show decide ((z : Int) ∈ nv E) = false by rw [decide_eq_false_iff_not, mem_nv]; exact hE2)
          have HE2 := hide (show E.length + 2 * ((D.take (j + 1)).filter fun i => !decide (i ∈ E)).length = dN + 2 by rw [htk, List.filter_append, List.filter_cons_of_pos (by simpa using hE2), List.filter_nil, List.length_append, ← HDN.out]; simp; omega)
          clear hE2 htk
          go_wp2_with fail
          refine (implContains A'' n'' cw'' _ (nv E) (z : Int) wr HIE.out (by omega)).mono ?_
          rw [HME.out]
          rintro e wz ⟨rfl, rfl⟩
          go_wp2_with fail
          go_roundw
          case rel => exact ⟨j + 1, by omega, by go_num, by rw [HE2.out]; congr 1, HD.out, HX.out⟩
          case measure => simp [intOf]; omega
      · obtain rfl : j = m := by omega
        have HF := hide (show ((E.length + 2 * (errs n' E ws ss).length : Nat) : Int) = (dN : Int) by
          have := HDN.out
          rw [List.take_of_length_le (by rw [HDM.out]; exact Nat.le_refl _), ← HDD.out] at this
          rw [errs_difs HWN.out, this])
        go_wp2_with fail
        go_ret2
        exact ⟨ret_ii HF.out rfl, HX.out.2⟩

end Go.Proofs.Ytpheembgjdgniaa
