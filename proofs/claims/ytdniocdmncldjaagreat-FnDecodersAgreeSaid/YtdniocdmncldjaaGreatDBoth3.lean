/-
  What CorrectWord, IsCorrectable and DamageOf return, of the model and of the program, side by side.
  Condition: lists shorter than 2^20; the numbers are int64s.
-/
import Derived.Test.YtdniocdmncldjaaGreatDBoth2
import Derived.Test.YtdniocdmncldjaaGreatDSpec4
namespace Go.Proofs.YtdniocdmncldjaaGreat
open Go.RowKit
set_option linter.unusedSimpArgs false
set_option linter.unusedVariables false

/-- What a function leaves that returns two new lists and a code. -/
def NewIIK (r s : List Int) (cd : Int) (w : World) (x : Ending) (w' : World) : Prop :=
  ∃ A m A' m', x = .returned (.tuple #[.slice A r.length m, .slice A' s.length m', .int .i64 cd]) ∧ r.length ≤ m ∧ s.length ≤ m' ∧ Own w' w.heap.size 2 .i64 (.slice A r.length m) r ∧ Own w' w.heap.size 2 .i64 (.slice A' s.length m') s ∧
    (((Value.slice A r.length m).ownBlock = none ∨ (Value.slice A r.length m).ownBlock ≠ (Value.slice A' s.length m').ownBlock) ∧ ((Value.slice A' s.length m').ownBlock = none ∨ (Value.slice A' s.length m').ownBlock ≠ (Value.slice A r.length m).ownBlock)) ∧ Below w.heap.size w w'
theorem newIIK_of {r s : List Int} {cd : Int} {w w' : World} {v v' : Value} {base : Nat} (h : Own w' base 2 .i64 v r) (h' : Own w' base 2 .i64 v' s) (hne : v.ownBlock = none ∨ v.ownBlock ≠ v'.ownBlock) (hb : Below w.heap.size w w') (hB : w.heap.size ≤ base) : NewIIK r s cd w (.returned (.tuple #[v, v', .int .i64 cd])) w' := by
  obtain ⟨A, m, rfl, hc⟩ := h.form
  obtain ⟨A', m', rfl, hc'⟩ := h'.form
  exact ⟨A, m, A', m', rfl, hc, hc', h.low hB, h'.low hB, ⟨hne, ne_swap hne⟩, hb⟩
theorem newIIK_nil {cd : Int} {w w' : World} (hb : Below w.heap.size w w') : NewIIK [] [] cd w (.returned (.tuple #[.slice none 0 0, .slice none 0 0, .int .i64 cd])) w' :=
  newIIK_of (base := w.heap.size) (World.ownsRow_nil _ _ _ _) (World.ownsRow_nil _ _ _ _) (.inl rfl) hb (Nat.le_refl _)
section
variable {R : Fld} {γ : El R} {l c : Nat} {E : List Nat} {ws cw : List (El R)} {w w' : World} {x : Ending}
theorem coPost_yes (ho : Okw γ l c E ws cw) (h : CoPost γ l c E ws w x w') : NewIB (iv cw) true w x w' := by
  rcases h with ⟨out, h1, _, _, h4⟩ | ⟨_, h2⟩
  · rw [← h4 cw ho]; exact h1
  · exact absurd ho (h2 cw)
theorem coPost_no (ho : ∀ cw, ¬ Okw γ l c E ws cw) (h : CoPost γ l c E ws w x w') : NewIB [] false w x w' := by
  rcases h with ⟨out, _, _, h3, _⟩ | ⟨h1, _⟩
  · exact absurd h3 (ho out)
  · exact h1
theorem scPost_yes (ho : Okw γ l c E ws cw) (h : ScPost γ l c E ws w x w') : NewIIB (iv cw) (nv (difs ws cw)) true w x w' := by
  rcases h with ⟨out, h1, _, _, h4⟩ | ⟨_, _, _, h2⟩
  · rw [← h4 cw ho]; exact h1
  · exact absurd ho (h2 cw)
theorem scPost_no (ho : ∀ cw, ¬ Okw γ l c E ws cw) (h : ScPost γ l c E ws w x w') : ∃ r s, NewIIB r s false w x w' := by
  rcases h with ⟨out, _, _, h3, _⟩ | ⟨r, s, h1, _⟩
  · exact absurd h3 (ho out)
  · exact ⟨r, s, h1⟩
end

def InRel (n : Nat) (z : Int) (zs : List Int) (i : Value) : Prop := ∃ j : Nat, j ≤ n ∧ i = .int .i64 j ∧ Hid (z ∈ zs.drop j ↔ z ∈ zs)
/-- Where an element is found. -/
def FoundAt (b : Bool) (w : World) (x : Ending) (w' : World) : Prop := ∃ m : Int, x = .returned (.int .i64 m) ∧ decide (0 ≤ m) = b ∧ w = w'
set_option maxRecDepth 100000 in
set_option maxHeartbeats 4000000 in
theorem cor_bad (p k g L C : Int) (z z' : List Int) (cd : Int) (hz : z.length ≤ 1048576) (hz' : z'.length ≤ 1048576) (hC : -9223372036854775808 ≤ C ∧ C ≤ 9223372036854775807) (h : xErr p k g L C z' [z] = cd) (hne : (cd != 0) = true) :
    D2 27 p k g L C z z' (NewIIK [] [] cd) ∧ D2 8 p k g L C z z' (NewIIK [] [] cd) := by
  have HE := hide h
  have HC := hide hC
  clear h hC
  refine ⟨?_, ?_⟩
  · intro A n cw A' n' cw' B w hI hJ hcap hcap' hB
    have HX0 := hide (CBox.start w p k g L C)
    have hn : n ≤ 1048576 := by rw [← hI.len]; exact hz
    have hn' : n' ≤ 1048576 := by rw [← hJ.len]; exact hz'
    have HR := hide (rws1b (c := cw) (.cells #[.int .i64 p, .int .i64 k, .int .i64 g, .int .i64 L, .int .i64 C] 27) 28 hI hB (by omega))
    have HXr := hide (HX0.out.alloc (.cells #[.slice A n cw] 28))
    have HI := hide hI
    have HJ := hide hJ
    clear hI hJ
    obtain ⟨c0, c1, c2, c3, c4⟩ := HXr.out.cells
    go_enter Tryz.func27, Tryz.ntmps27
    go_wp2_with fail
    refine (specXErr p k g L C A' n' cw' z' (some ⟨w.heap.size + 1, 0, none⟩) 1 1 B [z] _ (HJ.out.below (HXr.out.2.mono hB)) (Nat.le_trans hB (Nat.le_of_lt HXr.out.lt)) (by omega) (specWErr p k g L C HC.out _ 1 1 _ _ _ (HR.out.below ((Below.refl _ _).alloc (by rw [alloc_size, alloc_size]; exact Nat.le_refl _) _)) rfl (by rw [alloc_size, alloc_size, alloc_size]; omega) (by omega))).mono ?_
    rw [HE.out]
    rintro e w1 ⟨rfl, hb⟩
    have HX1 := hide (HXr.out.next hb)
    clear hb c0 c1 c2 c3 c4
    obtain ⟨c0, c1, c2, c3, c4⟩ := HX1.out.cells
    go_wp2_with fail
    go_ret3
    exact newIIK_nil HX1.out.2
  · intro A n cw A' n' cw' B w hI hJ hcap hcap' hB
    have HX0 := hide (CBox.start w p k g L C)
    have hn : n ≤ 1048576 := by rw [← hI.len]; exact hz
    have hn' : n' ≤ 1048576 := by rw [← hJ.len]; exact hz'
    have HR := hide (rws1b (c := cw) (.cells #[.int .i64 p, .int .i64 k, .int .i64 g, .int .i64 L, .int .i64 C] 27) 28 hI hB (by omega))
    have HXr := hide (HX0.out.alloc (.cells #[.slice A n cw] 28))
    have HI := hide hI
    have HJ := hide hJ
    clear hI hJ
    obtain ⟨c0, c1, c2, c3, c4⟩ := HXr.out.cells
    go_enter Tryz.func8, Tryz.ntmps8
    go_wp2_with fail
    refine (implIdxErr p k g L C A' n' cw' z' (some ⟨w.heap.size + 1, 0, none⟩) 1 1 B [z] _ (HJ.out.below (HXr.out.2.mono hB)) (Nat.le_trans hB (Nat.le_of_lt HXr.out.lt)) (by omega) (implWErr p k g L C _ 1 1 _ _ _ (HR.out.below ((Below.refl _ _).alloc (by rw [alloc_size, alloc_size]; exact Nat.le_refl _) _)) rfl (by rw [alloc_size, alloc_size, alloc_size]; omega) (by omega))).mono ?_
    rw [HE.out]
    rintro e w1 ⟨rfl, hb⟩
    have HX1 := hide (HXr.out.next hb)
    clear hb c0 c1 c2 c3 c4
    obtain ⟨c0, c1, c2, c3, c4⟩ := HX1.out.cells
    go_wp2_with fail
    go_ret3
    exact newIIK_nil HX1.out.2

set_option maxRecDepth 100000 in
set_option maxHeartbeats 4000000 in
theorem cor_yes {R : Fld} {γ : El R} {p k g : Int} {l c : Nat} (h : CodeIs R γ p k g l c) (ws : List (El R)) (hw : ws.length = l) (E : List Nat) (hE : Idx l E) (hz : (iv ws).length ≤ 1048576) (hz' : (nv E).length ≤ 1048576) (cz : List (El R)) (ho : Okw γ l c E ws cz) :
    D2 27 p k g l c (iv ws) (nv E) (NewIIK (iv cz) (nv (difs ws cz)) 0) ∧ D2 8 p k g l c (iv ws) (nv E) (NewIIK (iv cz) (nv (difs ws cz)) 0) := by
  have hl255 := h.l255
  have HC := hide (c_bd h)
  have HE := hide (show xErr p k g l c (nv E) [iv ws] = 0 by rw [xErr, wErr_is h (fun z hz => by rw [List.mem_singleton] at hz; exact ⟨ws, hz, hw⟩), if_pos rfl, idx_shut hE]; rfl)
  refine ⟨?_, ?_⟩
  · intro A n cw A' n' cw' B w hI hJ hcap hcap' hB
    have HX0 := hide (CBox.start w p k g l c)
    have hn : n ≤ 1048576 := by rw [← hI.len]; exact hz
    have hn' : n' ≤ 1048576 := by rw [← hJ.len]; exact hz'
    have HR := hide (rws1b (c := cw) (.cells #[.int .i64 p, .int .i64 k, .int .i64 g, .int .i64 l, .int .i64 c] 27) 28 hI hB (by omega))
    have HXr := hide (HX0.out.alloc (.cells #[.slice A n cw] 28))
    have HI := hide hI
    have HJ := hide hJ
    clear hI hJ
    obtain ⟨c0, c1, c2, c3, c4⟩ := HXr.out.cells
    have hwn : ws.length = n := by rw [← iv_len]; exact HI.out.len
    obtain rfl : n = l := by omega
    have HWN := hide hwn
    clear hwn hw
    go_enter Tryz.func27, Tryz.ntmps27
    go_wp2_with fail
    refine (specXErr p k g n c A' n' cw' (nv E) (some ⟨w.heap.size + 1, 0, none⟩) 1 1 B [(iv ws)] _ (HJ.out.below (HXr.out.2.mono hB)) (Nat.le_trans hB (Nat.le_of_lt HXr.out.lt)) (by omega) (specWErr p k g n c HC.out _ 1 1 _ _ _ (HR.out.below ((Below.refl _ _).alloc (by rw [alloc_size, alloc_size]; exact Nat.le_refl _) _)) rfl (by rw [alloc_size, alloc_size, alloc_size]; omega) (by omega))).mono ?_
    rw [HE.out]
    rintro e w1 ⟨rfl, hb⟩
    have HX1 := hide (HXr.out.next hb)
    clear hb c0 c1 c2 c3 c4
    obtain ⟨c0, c1, c2, c3, c4⟩ := HX1.out.cells
    go_wp2_with fail
    refine (specCorrect h E hE ws A A' cw n' cw' B _ (HI.out.below (HX1.out.2.mono hB)) (HJ.out.below (HX1.out.2.mono hB)) (Nat.le_trans hB (Nat.le_of_lt HX1.out.lt))).mono ?_
    intro e w2 hp
    obtain ⟨A2, m2, A3, m3, rfl, hm2, hm3, ho2, ho3, hne, hb⟩ := scPost_yes ho hp
    have HX2 := hide (HX1.out.next hb)
    have HF := hide (newIIK_of (w := w) (cd := 0) ho2 ho3 hne.1 HX2.out.2 (Nat.le_of_lt HX1.out.lt))
    clear hp ho2 ho3 hne hb hm2 hm3 c0 c1 c2 c3 c4
    go_wp2_with fail
    go_ret3
    exact HF.out
  · intro A n cw A' n' cw' B w hI hJ hcap hcap' hB
    have HX0 := hide (CBox.start w p k g l c)
    have hn : n ≤ 1048576 := by rw [← hI.len]; exact hz
    have hn' : n' ≤ 1048576 := by rw [← hJ.len]; exact hz'
    have HR := hide (rws1b (c := cw) (.cells #[.int .i64 p, .int .i64 k, .int .i64 g, .int .i64 l, .int .i64 c] 27) 28 hI hB (by omega))
    have HXr := hide (HX0.out.alloc (.cells #[.slice A n cw] 28))
    have HI := hide hI
    have HJ := hide hJ
    clear hI hJ
    obtain ⟨c0, c1, c2, c3, c4⟩ := HXr.out.cells
    have hwn : ws.length = n := by rw [← iv_len]; exact HI.out.len
    obtain rfl : n = l := by omega
    have HWN := hide hwn
    clear hwn hw
    go_enter Tryz.func8, Tryz.ntmps8
    go_wp2_with fail
    refine (implIdxErr p k g n c A' n' cw' (nv E) (some ⟨w.heap.size + 1, 0, none⟩) 1 1 B [(iv ws)] _ (HJ.out.below (HXr.out.2.mono hB)) (Nat.le_trans hB (Nat.le_of_lt HXr.out.lt)) (by omega) (implWErr p k g n c _ 1 1 _ _ _ (HR.out.below ((Below.refl _ _).alloc (by rw [alloc_size, alloc_size]; exact Nat.le_refl _) _)) rfl (by rw [alloc_size, alloc_size, alloc_size]; omega) (by omega))).mono ?_
    rw [HE.out]
    rintro e w1 ⟨rfl, hb⟩
    have HX1 := hide (HXr.out.next hb)
    clear hb c0 c1 c2 c3 c4
    obtain ⟨c0, c1, c2, c3, c4⟩ := HX1.out.cells
    go_wp2_with fail
    refine (implCorrected h E hE ws A A' cw n' cw' B _ (HI.out.below (HX1.out.2.mono hB)) (HJ.out.below (HX1.out.2.mono hB)) (Nat.le_trans hB (Nat.le_of_lt HX1.out.lt))).mono ?_
    intro e w2 hp
    obtain ⟨A2, m2, rfl, hm2, ho2, hb⟩ := coPost_yes ho hp
    have hcn := ho.1
    rw [iv_len, hcn] at ho2 hm2 ⊢
    have HX2 := hide (HX1.out.next hb)
    have HO2 := hide ho2
    clear hp hb hm2 c0 c1 c2 c3 c4
    go_wp2_with fail
    refine (implDifferences ws cz A A2 n cw m2 _ w2 ((HI.out.below (HX2.out.2.mono hB)).more (Nat.le_trans hB (Nat.le_of_lt HX2.out.lt))) ho2.intsE (Nat.le_refl _) (by omega)).mono ?_
    clear ho2
    rintro e w3 ⟨A3, m3, rfl, hm3, ho3, hb⟩
    have HX3 := hide (HX2.out.next hb)
    have HNE := hide (HO2.out.ne ho3 (Nat.le_refl _))
    have HO2b := hide (HO2.out.below hb (Nat.le_refl _))
    have HF := hide (newIIK_of (w := w) (cd := 0) (HO2b.out.low (Nat.le_of_lt HX1.out.lt)) (ho3.low (Nat.le_of_lt HX2.out.lt)) HNE.out HX3.out.2 (Nat.le_refl _))
    clear ho3 hb hm3
    go_wp2_with fail
    go_ret3
    exact HF.out

set_option maxRecDepth 100000 in
set_option maxHeartbeats 4000000 in
theorem cor_no {R : Fld} {γ : El R} {p k g : Int} {l c : Nat} (h : CodeIs R γ p k g l c) (ws : List (El R)) (hw : ws.length = l) (E : List Nat) (hE : Idx l E) (hz : (iv ws).length ≤ 1048576) (hz' : (nv E).length ≤ 1048576) (ho : ∀ cz, ¬ Okw γ l c E ws cz) :
    D2 27 p k g l c (iv ws) (nv E) (NewIIK [] [] 7) ∧ D2 8 p k g l c (iv ws) (nv E) (NewIIK [] [] 7) := by
  have hl255 := h.l255
  have HC := hide (c_bd h)
  have HE := hide (show xErr p k g l c (nv E) [iv ws] = 0 by rw [xErr, wErr_is h (fun z hz => by rw [List.mem_singleton] at hz; exact ⟨ws, hz, hw⟩), if_pos rfl, idx_shut hE]; rfl)
  refine ⟨?_, ?_⟩
  · intro A n cw A' n' cw' B w hI hJ hcap hcap' hB
    have HX0 := hide (CBox.start w p k g l c)
    have hn : n ≤ 1048576 := by rw [← hI.len]; exact hz
    have hn' : n' ≤ 1048576 := by rw [← hJ.len]; exact hz'
    have HR := hide (rws1b (c := cw) (.cells #[.int .i64 p, .int .i64 k, .int .i64 g, .int .i64 l, .int .i64 c] 27) 28 hI hB (by omega))
    have HXr := hide (HX0.out.alloc (.cells #[.slice A n cw] 28))
    have HI := hide hI
    have HJ := hide hJ
    clear hI hJ
    obtain ⟨c0, c1, c2, c3, c4⟩ := HXr.out.cells
    have hwn : ws.length = n := by rw [← iv_len]; exact HI.out.len
    obtain rfl : n = l := by omega
    have HWN := hide hwn
    clear hwn hw
    go_enter Tryz.func27, Tryz.ntmps27
    go_wp2_with fail
    refine (specXErr p k g n c A' n' cw' (nv E) (some ⟨w.heap.size + 1, 0, none⟩) 1 1 B [(iv ws)] _ (HJ.out.below (HXr.out.2.mono hB)) (Nat.le_trans hB (Nat.le_of_lt HXr.out.lt)) (by omega) (specWErr p k g n c HC.out _ 1 1 _ _ _ (HR.out.below ((Below.refl _ _).alloc (by rw [alloc_size, alloc_size]; exact Nat.le_refl _) _)) rfl (by rw [alloc_size, alloc_size, alloc_size]; omega) (by omega))).mono ?_
    rw [HE.out]
    rintro e w1 ⟨rfl, hb⟩
    have HX1 := hide (HXr.out.next hb)
    clear hb c0 c1 c2 c3 c4
    obtain ⟨c0, c1, c2, c3, c4⟩ := HX1.out.cells
    go_wp2_with fail
    refine (specCorrect h E hE ws A A' cw n' cw' B _ (HI.out.below (HX1.out.2.mono hB)) (HJ.out.below (HX1.out.2.mono hB)) (Nat.le_trans hB (Nat.le_of_lt HX1.out.lt))).mono ?_
    intro e w2 hp
    obtain ⟨r, s, A2, m2, A3, m3, rfl, hm2, hm3, ho2, ho3, hne, hb⟩ := scPost_no ho hp
    have HX2 := hide (HX1.out.next hb)
    clear hp ho2 ho3 hne hb hm2 hm3 c0 c1 c2 c3 c4
    go_wp2_with fail
    go_ret3
    exact newIIK_nil HX2.out.2
  · intro A n cw A' n' cw' B w hI hJ hcap hcap' hB
    have HX0 := hide (CBox.start w p k g l c)
    have hn : n ≤ 1048576 := by rw [← hI.len]; exact hz
    have hn' : n' ≤ 1048576 := by rw [← hJ.len]; exact hz'
    have HR := hide (rws1b (c := cw) (.cells #[.int .i64 p, .int .i64 k, .int .i64 g, .int .i64 l, .int .i64 c] 27) 28 hI hB (by omega))
    have HXr := hide (HX0.out.alloc (.cells #[.slice A n cw] 28))
    have HI := hide hI
    have HJ := hide hJ
    clear hI hJ
    obtain ⟨c0, c1, c2, c3, c4⟩ := HXr.out.cells
    have hwn : ws.length = n := by rw [← iv_len]; exact HI.out.len
    obtain rfl : n = l := by omega
    have HWN := hide hwn
    clear hwn hw
    go_enter Tryz.func8, Tryz.ntmps8
    go_wp2_with fail
    refine (implIdxErr p k g n c A' n' cw' (nv E) (some ⟨w.heap.size + 1, 0, none⟩) 1 1 B [(iv ws)] _ (HJ.out.below (HXr.out.2.mono hB)) (Nat.le_trans hB (Nat.le_of_lt HXr.out.lt)) (by omega) (implWErr p k g n c _ 1 1 _ _ _ (HR.out.below ((Below.refl _ _).alloc (by rw [alloc_size, alloc_size]; exact Nat.le_refl _) _)) rfl (by rw [alloc_size, alloc_size, alloc_size]; omega) (by omega))).mono ?_
    rw [HE.out]
    rintro e w1 ⟨rfl, hb⟩
    have HX1 := hide (HXr.out.next hb)
    clear hb c0 c1 c2 c3 c4
    obtain ⟨c0, c1, c2, c3, c4⟩ := HX1.out.cells
    go_wp2_with fail
    refine (implCorrected h E hE ws A A' cw n' cw' B _ (HI.out.below (HX1.out.2.mono hB)) (HJ.out.below (HX1.out.2.mono hB)) (Nat.le_trans hB (Nat.le_of_lt HX1.out.lt))).mono ?_
    intro e w2 hp
    obtain ⟨A2, m2, rfl, hm2, ho2, hb⟩ := coPost_no ho hp
    have HX2 := hide (HX1.out.next hb)
    clear hp ho2 hb hm2 c0 c1 c2 c3 c4
    go_wp2_with fail
    go_ret3
    exact newIIK_nil HX2.out.2

/-- A function of a code and three lists: its contract, whatever the lists' memory. -/
def D3 (f : Nat) (p k g L C : Int) (z z' z'' : List Int) (Post : World → Ending → World → Prop) : Prop :=
  ∀ (A : Option Addr) (n c : Nat) (A' : Option Addr) (n' c' : Nat) (A'' : Option Addr) (n'' c'' B : Nat) (w : World), Ints .i64 w B A n z → Ints .i64 w B A' n' z' → Ints .i64 w B A'' n'' z'' → n ≤ c → n' ≤ c' → n'' ≤ c'' → B ≤ w.heap.size → Calls Tryz.prog f #[.agg #[.int .i64 p, .int .i64 k, .int .i64 g, .int .i64 L, .int .i64 C], .slice A n c, .slice A' n' c', .slice A'' n'' c''] w (Post w)
section
variable {R : Fld}
theorem errs_difs {l : Nat} {E : List Nat} {ws ss : List (El R)} (h : ws.length = l) : errs l E ws ss = (difs ws ss).filter fun i => !decide (i ∈ E) := by
  unfold errs difs
  rw [List.filter_filter, h]
def DmRel (w : World) (p k g L C : Int) (N m : Nat) (A1 : Option Addr) (E D : List Nat) (d i : Value) (wr : World) : Prop :=
  ∃ j : Nat, j ≤ m ∧ i = .int .i64 j ∧ d = .int .i64 (E.length + 2 * ((D.take j).filter fun i => !decide (i ∈ E)).length : Nat) ∧ Ints .i64 wr N A1 m (nv D) ∧ CBox w wr p k g L C
def DsRel (w : World) (p k g L C : Int) (n : Nat) (E : List Nat) (ws ss : List (El R)) (d i : Value) (wr : World) : Prop :=
  ∃ j : Nat, j ≤ n ∧ i = .int .i64 j ∧ d = .int .i64 (E.length + 2 * (erN E ws ss j).length : Nat) ∧ CBox w wr p k g L C
end
end Go.Proofs.YtdniocdmncldjaaGreat
