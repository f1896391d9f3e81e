/-
  The code of a field and a sequence, of the program and of the model.
  The contract of the algorithm of Berlekamp and Massey, of the model.
  What SequenceLength and RecurrenceOf return, of the model (names with S) and of the program (names with I).
  Condition: as each statement says.
-/
import Derived.Test.YtdniocdmncldjaaGreatJS
import Derived.Test.YtdniocdmncldjaaGreatJK
import Derived.Test.YtdniocdmncldjaaGreatJG
import Derived.Test.YtdniocdmncldjaaGreatJL
namespace Go.Proofs.YtdniocdmncldjaaGreat
open Go.RowKit
set_option linter.unusedSimpArgs false
set_option linter.unusedVariables false

/-- The code of a field and a sequence. -/
def sqErr (p k g : Int) (z : List Int) : Int := if fieldB p k g = true then (if z.length ≤ 64 ∧ z.all (elB (sizeI p k).toNat) = true then 0 else 2) else 1
theorem sqErr_no {p k g : Int} {z : List Int} (h : fieldB p k g = false) : sqErr p k g z = 1 := by rw [sqErr, h]; rfl
theorem sqErr_is {p k g : Int} {q : Nat} {mul : Nat → Nat → Nat} {z : List Int} (h : fieldB p k g = true) (hK : Kd p k g q mul) : sqErr p k g z = if z.length ≤ 64 ∧ z.all (elB q) = true then 0 else 2 := by
  rw [sqErr, if_pos h, hK.size, Int.toNat_natCast]
/-- A code of a field and a sequence: an error, or it is a sequence. -/
theorem sqErr_cases (p k g : Int) (z : List Int) : (∃ c : Int, sqErr p k g z = c ∧ (c != 0) = true ∧ c ≠ 0) ∨ (sqErr p k g z = 0 ∧ fieldB p k g = true ∧ ∃ (R : Fld) (s : List (El R)), FldIs R p k g ∧ z = iv s ∧ s.length ≤ 64) := by
  rcases h : fieldB p k g with _ | _
  · exact .inl ⟨1, sqErr_no h, rfl, by decide⟩
  · obtain ⟨R, hR⟩ := fld_ex h
    have e := sqErr_is (z := z) h hR.kind
    by_cases hh : z.length ≤ 64 ∧ z.all (elB R.q) = true
    · rw [if_pos hh] at e
      obtain ⟨s, rfl⟩ := iv_of hh.2
      exact .inr ⟨e, rfl, R, s, hR, rfl, by rw [iv_len] at hh; exact hh.1⟩
    · rw [if_neg hh] at e
      exact .inl ⟨2, e, rfl, by decide⟩
theorem sqErr_ok {R : Fld} {p k g : Int} (h : FldIs R p k g) (hf : fieldB p k g = true) {s : List (El R)} (hs : s.length ≤ 64) : sqErr p k g (iv s) = 0 := by
  rw [sqErr_is hf h.kind, if_pos ⟨by rw [iv_len]; exact hs, iv_all s⟩]

set_option maxHeartbeats 1000000 in
theorem implSqErr (p k g : Int) (A : Option Addr) (n c B : Nat) (z : List Int) (w : World) (hI : Ints .i64 w B A n z) (hB : B ≤ w.heap.size) (hn : n ≤ 1099511627776) :
    Calls Tryz.prog 31 #[.agg #[.int .i64 p, .int .i64 k, .int .i64 g], .slice A n c] w (Gives (.int .i64 (sqErr p k g z)) w) := by
  have HX := hide (Box.start w 25 p k g)
  have hl := hI.len
  have HI := hide hI
  clear hI
  rcases h : fieldB p k g with _ | _
  · have HF := hide (sqErr_no (z := z) h)
    have HB := hide h
    clear h
    go_enter Tryz.func31, Tryz.ntmps31
    go_wp2_with fail
    refine (implValid p k g _).mono ?_
    rw [HB.out]
    rintro e w1 ⟨rfl, hb⟩
    have HX1 := hide (HX.out.next hb)
    clear hb
    go_wp2_with fail
    go_ret
    exact ⟨ret_int HF, HX1.out.2⟩
  · obtain ⟨q, mul, γ, hK, _⟩ := fieldB_open h
    have HE := hide (sqErr_is (z := z) h hK)
    have HB := hide h
    clear h
    by_cases h64 : n ≤ 64
    · have h64' : decide ((64 : Int) < (n : Int)) = false := by rw [decide_eq_false_iff_not]; omega
      have HF := hide (show sqErr p k g z = if z.all (elB q) = true then 0 else 2 by rw [HE.out]; simp [hl, h64])
      obtain ⟨b, hb⟩ : ∃ b, z.all (elB q) = b := ⟨_, rfl⟩
      rw [hb] at HF
      have HBB := hide hb
      clear hb hl
      go_enter Tryz.func31, Tryz.ntmps31
      go_wp2_with fail
      refine (implValid p k g _).mono ?_
      rw [HB.out]
      rintro e w1 ⟨rfl, hb⟩
      have HX1 := hide (HX.out.next hb)
      obtain ⟨c0, c1, c2⟩ := HX1.out.cells
      clear hb
      go_wp2_with fail
      refine (implHasAll hK A n c B z _ (HI.out.below (HX1.out.2.mono hB)) (Nat.le_trans hB (Nat.le_of_lt HX1.out.lt)) hn).mono ?_
      rw [HBB.out]
      rintro e w2 ⟨rfl, hb⟩
      have HX2 := hide (HX1.out.next hb)
      clear hb c0 c1 c2
      rcases b with _ | _
      · go_wp2_with fail
        go_ret
        exact ⟨ret_int HF.out, HX2.out.2⟩
      · go_wp2_with fail
        go_ret
        exact ⟨ret_int HF.out, HX2.out.2⟩
    · have h64' : decide ((64 : Int) < (n : Int)) = true := by rw [decide_eq_true_eq]; omega
      have HF := hide (show sqErr p k g z = 2 by rw [HE.out, if_neg]; rintro ⟨h1, _⟩; omega)
      clear hl
      go_enter Tryz.func31, Tryz.ntmps31
      go_wp2_with fail
      refine (implValid p k g _).mono ?_
      rw [HB.out]
      rintro e w1 ⟨rfl, hb⟩
      have HX1 := hide (HX.out.next hb)
      obtain ⟨c0, c1, c2⟩ := HX1.out.cells
      clear hb
      go_wp2_with fail
      go_ret
      exact ⟨ret_int HF.out, HX1.out.2⟩

end Go.Proofs.YtdniocdmncldjaaGreat

namespace Go.Proofs.YtdniocdmncldjaaGreat
open Go.RowKit
set_option linter.unusedSimpArgs false
set_option linter.unusedVariables false

section
variable {R : Fld} {p k g : Int}
/-- A polynomial times a power of x. -/
def shL (t : Nat) (ps : List (El R)) : List (El R) := List.replicate t 0 ++ ps
theorem shL_len (t : Nat) (ps : List (El R)) : (shL t ps).length = t + ps.length := by simp [shL]
theorem cf_shL (t : Nat) (ps : List (El R)) (i : Nat) : cf (shL t ps) i = if t ≤ i then cf ps (i - t) else 0 := by
  unfold cf shL
  rw [List.getD_eq_getElem?_getD, List.getElem?_append]
  split
  · rename_i h
    rw [List.length_replicate] at h
    rw [if_neg (by omega), List.getElem?_replicate, if_pos h]; rfl
  · rename_i h
    rw [List.length_replicate] at h ⊢
    rw [if_pos (by omega), List.getD_eq_getElem?_getD]
theorem iv_rep (t : Nat) : iv (List.replicate t (0 : El R)) = List.replicate t 0 := by rw [iv, List.map_replicate]; rfl
/-- How the older polynomial of the model is related to the one of the state. -/
def Mas (O b : List (El R)) (la : El R) (G : Nat) : Prop := ∀ i, cf (mulP O xP) i = la.inv * (if G ≤ i then cf b (i - G) else 0)
theorem cf_mulx (O : List (El R)) (i : Nat) : cf (mulP O xP) i = if 1 ≤ i then cf O (i - 1) else 0 := by rw [cf_mul, ps_comm, ps_x]
theorem mas_start : Mas ([1] : List (El R)) [1] 1 1 := fun i => by
  have e : (1 : El R).inv = 1 := by have := einv (e10 (R := R)); rwa [e1m] at this
  rw [cf_mulx, e, e1m]
theorem Mas.keep {O b : List (El R)} {la : El R} {G : Nat} (h : Mas O b la G) : Mas (mulP O xP) b la (G + 1) := fun i => by
  rw [cf_mulx]
  by_cases h1 : 1 ≤ i
  · rw [if_pos h1, h (i - 1)]
    by_cases h2 : G + 1 ≤ i
    · rw [if_pos h2, if_pos (by omega), show i - 1 - G = i - (G + 1) by omega]
    · rw [if_neg h2, if_neg (by omega)]
  · rw [if_neg h1, if_neg (by omega), em0]
theorem mas_grow (C : List (El R)) (d : El R) : Mas (scaP d.inv C) C d 1 := fun i => by
  rw [cf_mulx]
  split
  · rw [cf_sca]
  · rw [em0]
theorem Mas.next {C O b : List (El R)} {la d : El R} {G : Nat} (h : Mas O b la G) : addP C (trim (mulP [-(d * la.inv)] (shL G b))) = addP C (scaP (-d) (mulP O xP)) := by
  have e : cf (trim (mulP [-(d * la.inv)] (shL G b))) = cf (scaP (-d) (mulP O xP)) := by
    have e1 : cf (mulP [-(d * la.inv)] (shL G b)) = cf (scaP (-(d * la.inv)) (shL G b)) := by
      rw [← mul_num, cf_trim, cf_mul, cf_mul, ps_comm]
    rw [cf_trim, e1, cf_sca, cf_sca]
    funext i
    show -(d * la.inv) * cf (shL G b) i = -d * cf (mulP O xP) i
    rw [h i, cf_shL, enm, enm, ema]
  exact tr_ext (tr_trim _) (tr_trim _) (by rw [cf_addP, cf_addP, e])
theorem mul1_len (f : El R) (q : List (El R)) : (trim (mulP [f] q)).length ≤ q.length := by
  refine Nat.le_trans (trim_le _) ?_
  rw [mulP, tab_len]; unfold plen; split <;> simp

def MaRel (w : World) (p k g : Int) (n : Nat) (s : List (El R)) (vc vb le gp la i : Value) (wr : World) : Prop :=
  ∃ (j : Nat) (bl : List (El R)) (Ab : Option Addr) (nb cb G : Nat) (x : El R), j ≤ n ∧ i = .int .i64 j ∧ le = .int .i64 ((bm (cf s) j).L : Nat) ∧ gp = .int .i64 G ∧ la = .int .i64 (x.val : Nat) ∧ vb = .slice Ab nb cb ∧ G ≤ j + 1 ∧ nb ≤ j + 1 ∧ 0 < nb ∧ bl.length = nb ∧ x ≠ 0 ∧
    Mas (bm (cf s) j).O bl x G ∧ Own wr (w.heap.size + 1) 2 .i64 vc (iv (bm (cf s) j).C) ∧ Ints .i64 wr wr.heap.size Ab nb (iv bl) ∧ Box w wr 25 p k g
def MjRel (w wo : World) (p k g : Int) (n kk : Nat) (C s : List (El R)) (v i : Value) (wr : World) : Prop := SumRel6 w p k g n kk C s v i wr ∧ Below wo.heap.size wo wr

end
end Go.Proofs.YtdniocdmncldjaaGreat

namespace Go.Proofs.YtdniocdmncldjaaGreat
open Go.RowKit
set_option linter.unusedSimpArgs false
set_option linter.unusedVariables false

section
variable {R : Fld} {p k g : Int}
/-- The code of a recurrence. -/
def recK (n : Nat) (t : BmSt R) : Int := if n < 2 * t.L then 5 else 0
theorem recK_no {n : Nat} {t : BmSt R} (h : n < 2 * t.L) : recK n t = 5 := if_pos h
theorem recK_yes {n : Nat} {t : BmSt R} (h : ¬ n < 2 * t.L) : recK n t = 0 := if_neg h

set_option maxHeartbeats 4000000 in
theorem sl_badI (z : List Int) (hz : z.length ≤ 1048576) {cd : Int} (h : sqErr p k g z = cd) (hne : (cd != 0) = true) : C1 16 p k g z (GivesII 0 cd) := by
  intro A n c B w hI hB
  have HX := hide (Box.start w 25 p k g)
  have hn : n ≤ 1048576 := by rw [← hI.len]; exact hz
  have HE := hide h
  have HI := hide (hI.below (HX.out.2.mono hB))
  clear hI h
  obtain ⟨c0, c1, c2⟩ := HX.out.cells
  go_enter Tryz.func16, Tryz.ntmps16
  go_wp2_with fail
  refine (implSqErr p k g A n c B z _ HI.out (Nat.le_trans hB (Nat.le_of_lt HX.out.lt)) (by omega)).mono ?_
  rw [HE.out]
  rintro e w1 ⟨rfl, hb⟩
  have HX1 := hide (HX.out.next hb)
  clear hb c0 c1 c2
  go_wp2_with fail
  go_ret2
  exact ⟨rfl, HX1.out.2⟩

set_option maxHeartbeats 4000000 in
theorem rc_badI (z : List Int) (hz : z.length ≤ 1048576) {cd : Int} (h : sqErr p k g z = cd) (hne : (cd != 0) = true) : C1 15 p k g z (NewIK [] cd) := by
  intro A n c B w hI hB
  have HX := hide (Box.start w 25 p k g)
  have hn : n ≤ 1048576 := by rw [← hI.len]; exact hz
  have HE := hide h
  have HI := hide (hI.below (HX.out.2.mono hB))
  clear hI h
  obtain ⟨c0, c1, c2⟩ := HX.out.cells
  go_enter Tryz.func15, Tryz.ntmps15
  go_wp2_with fail
  refine (implSqErr p k g A n c B z _ HI.out (Nat.le_trans hB (Nat.le_of_lt HX.out.lt)) (by omega)).mono ?_
  rw [HE.out]
  rintro e w1 ⟨rfl, hb⟩
  have HX1 := hide (HX.out.next hb)
  clear hb c0 c1 c2
  go_wp2_with fail
  go_ret2
  exact newIK_nil HX1.out.2

set_option maxHeartbeats 4000000 in
theorem sl_valI (h : FldIs R p k g) (s : List (El R)) (hs : s.length ≤ 64) (hE : sqErr p k g (iv s) = 0) : C1 16 p k g (iv s) (GivesII ((bm (cf s) s.length).L : Nat) 0) := by
  intro A n c B w hI hB
  have HX := hide (Box.start w 25 p k g)
  have hsn : s.length = n := by rw [← iv_len]; exact hI.len
  have hn : n ≤ 64 := by omega
  have HE := hide hE
  rw [hsn]
  have HI := hide hI
  clear hI hE hsn
  obtain ⟨c0, c1, c2⟩ := HX.out.cells
  go_enter Tryz.func16, Tryz.ntmps16
  go_wp2_with fail
  refine (implSqErr p k g A n c B (iv s) _ (HI.out.below (HX.out.2.mono hB)) (Nat.le_trans hB (Nat.le_of_lt HX.out.lt)) (by omega)).mono ?_
  rw [HE.out]
  rintro e w1 ⟨rfl, hb⟩
  have HX1 := hide (HX.out.next hb)
  clear hb c0 c1 c2
  obtain ⟨c0, c1, c2⟩ := HX1.out.cells
  go_wp2_with fail
  refine (implShortest h s A n c B _ (HI.out.below (HX1.out.2.mono hB)) (Nat.le_trans hB (Nat.le_of_lt HX1.out.lt)) hn).mono ?_
  rintro e w2 ⟨v, rfl, ho, hb⟩
  have HX2 := hide (HX1.out.next hb)
  have HO2 := hide (ho.low (base' := w.heap.size) (Nat.le_of_lt HX1.out.lt))
  clear ho hb c0 c1 c2
  go_wp2_with fail
  go_ret2
  exact ⟨rfl, HX2.out.2⟩

set_option maxHeartbeats 4000000 in
theorem rc_valI (h : FldIs R p k g) (s : List (El R)) (hs : s.length ≤ 64) (hE : sqErr p k g (iv s) = 0) : C1 15 p k g (iv s) (NewIK (iv (recL s.length (bm (cf s) s.length))) (recK s.length (bm (cf s) s.length))) := by
  intro A n c B w hI hB
  have HX := hide (Box.start w 25 p k g)
  have hsn : s.length = n := by rw [← iv_len]; exact hI.len
  have hn : n ≤ 64 := by omega
  have HE := hide hE
  rw [hsn]
  have HI := hide hI
  clear hI hE hsn
  obtain ⟨c0, c1, c2⟩ := HX.out.cells
  go_enter Tryz.func15, Tryz.ntmps15
  go_wp2_with fail
  refine (implSqErr p k g A n c B (iv s) _ (HI.out.below (HX.out.2.mono hB)) (Nat.le_trans hB (Nat.le_of_lt HX.out.lt)) (by omega)).mono ?_
  rw [HE.out]
  rintro e w1 ⟨rfl, hb⟩
  have HX1 := hide (HX.out.next hb)
  clear hb c0 c1 c2
  obtain ⟨c0, c1, c2⟩ := HX1.out.cells
  go_wp2_with fail
  refine (implRecurrence h s A n c B _ (HI.out.below (HX1.out.2.mono hB)) (Nat.le_trans hB (Nat.le_of_lt HX1.out.lt)) hn).mono ?_
  by_cases hlt0 : n < 2 * (bm (cf s) n).L
  · have HZ := hide (recL_no hlt0)
    have HZ2 := hide (recK_no hlt0)
    rw [HZ.out.1, HZ.out.2]
    rintro e w2 ⟨A2, m2, rfl, hm2, ho, hb⟩
    have HX2 := hide (HX1.out.next hb)
    clear ho hb c0 c1 c2
    go_wp2_with fail
    go_ret2
    rw [HZ.out.1, HZ2.out]
    exact newIK_nil HX2.out.2
  · have HZ := hide (recL_yes hlt0)
    have HZ2 := hide (recK_yes hlt0)
    rw [HZ.out.1, HZ.out.2]
    rintro e w2 ⟨A2, m2, rfl, hm2, ho, hb⟩
    have HX2 := hide (HX1.out.next hb)
    have HO2 := hide (ho.low (base' := w.heap.size) (Nat.le_of_lt HX1.out.lt))
    clear ho hb c0 c1 c2
    go_wp2_with fail
    go_ret2
    rw [HZ.out.1, HZ2.out]
    exact newIK_of HO2.out HX2.out.2 (Nat.le_refl _)

theorem recL_len (s : List (El R)) (n : Nat) : (recL n (bm (cf s) n)).length ≤ n + 1 := by
  unfold recL; split
  · exact Nat.zero_le _
  · have h1 := bm_len (cf s) n
    have h2 := bm_le (cf s) n
    omega
end
end Go.Proofs.YtdniocdmncldjaaGreat
