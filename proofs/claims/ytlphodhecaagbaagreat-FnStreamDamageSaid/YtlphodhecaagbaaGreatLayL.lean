/-
  The error code of a layout and a list, and SplitStream: the model's and the program's answer.
  Condition: lists shorter than 2^40.
-/
import Derived.Test.YtlphodhecaagbaaGreatLayA
namespace Go.Proofs.YtlphodhecaagbaaGreat
open Go.RowKit
set_option linter.unusedSimpArgs false
set_option linter.unusedVariables false

/-- The code of a layout and a list that shall have M elements. -/
def lErr (p k g D K C M : Int) (zs : List Int) : Int := if layB p k g D K C = true then (if wordB (sizeI p k).toNat M zs = true then 0 else 2) else 1
theorem lErr_no {p k g D K C M : Int} {zs : List Int} (h : layB p k g D K C = false) : lErr p k g D K C M zs = 1 := by rw [lErr, h]; rfl
theorem lErr_is {p k g D K C M : Int} {zs : List Int} {q : Nat} {mul : Nat → Nat → Nat} (h : layB p k g D K C = true) (hK : Kd p k g q mul) : lErr p k g D K C M zs = if wordB q M zs = true then 0 else 2 := by
  rw [lErr, if_pos h, hK.size, Int.toNat_natCast]
theorem lErr_cases (p k g D K C M : Int) (zs : List Int) : (∃ cd : Int, lErr p k g D K C M zs = cd ∧ (cd != 0) = true) ∨
    (lErr p k g D K C M zs = 0 ∧ ∃ (R : Fld) (γ : El R) (d c m : Nat) (ws : List (El R)), D = d ∧ K = c ∧ C = m ∧ LayIs R γ p k g d c m ∧ zs = iv ws ∧ (zs.length : Int) = M) := by
  rcases h : layB p k g D K C with _ | _
  · exact .inl ⟨1, lErr_no h, rfl⟩
  · obtain ⟨R, γ, d, c, m, rfl, rfl, rfl, hI⟩ := layB_open h
    rw [lErr_is h hI.fld.kind]
    rcases hw : wordB R.q M zs with _ | _
    · exact .inl ⟨2, rfl, rfl⟩
    · right
      refine ⟨rfl, ?_⟩
      have hl : (zs.length : Int) = M := by
        rw [wordB, Bool.and_eq_true, decide_eq_true_eq] at hw
        exact hw.1
      obtain ⟨ws, rfl, hwl⟩ := word_open (R := R) (l := zs.length) (zs := zs) (by rw [← hl] at hw; exact hw)
      exact ⟨R, γ, d, c, m, ws, rfl, rfl, rfl, hI, rfl, hl⟩
/-- The length of the stream, as it is reckoned. -/
def stN (D K C : Int) : Int := IntKind.i64.wrap (D + IntKind.i64.wrap (C * K))
theorem stN_is {R : Fld} {γ : El R} {p k g : Int} {D K C : Nat} (h : LayIs R γ p k g D K C) : stN D K C = ((D + C * K : Nat) : Int) := by
  have h4 := h.tot
  have e : ((C * K : Nat) : Int) = (C : Int) * (K : Int) := Int.natCast_mul C K
  unfold stN
  rw [← e, IntWalk.i64_in ((C * K : Nat) : Int) ⟨by omega, by omega⟩, IntWalk.i64_in _ ⟨by omega, by omega⟩]
  omega

set_option maxRecDepth 100000 in
set_option maxHeartbeats 2000000 in
theorem implListErr (p k g D K C M : Int) (hD : -9223372036854775808 ≤ D ∧ D ≤ 9223372036854775807) (hC : -9223372036854775808 ≤ C ∧ C ≤ 9223372036854775807) (A : Option Addr) (n c B : Nat) (zs : List Int) (w : World) (hI : Ints .i64 w B A n zs) (hB : B ≤ w.heap.size) (hn : n ≤ 1099511627776) :
    Calls Tryz.prog 33 #[.agg #[.int .i64 p, .int .i64 k, .int .i64 g, .int .i64 D, .int .i64 K, .int .i64 C], .slice A n c, .int .i64 M] w (Gives (.int .i64 (lErr p k g D K C M zs)) w) := by
  have HX := hide (YBox.start w p k g D K C)
  obtain ⟨c0, c1, c2, c3, c4, c5⟩ := HX.out.cells
  have HV := hide (fun w' => implLayValid p k g D K C w' hC hD)
  have hl := hI.len
  have HI := hide hI
  clear hI
  rcases h : layB p k g D K C with _ | _
  · rw [h] at HV
    have HF := hide (lErr_no (M := M) (zs := zs) h)
    clear h hl
    go_enter Tryz.func33, Tryz.ntmps33
    go_wp2_with fail
    refine (HV.out _).mono ?_
    rintro x w1 ⟨rfl, hb1⟩
    have HX1 := hide (HX.out.next hb1)
    clear hb1 c0 c1 c2 c3 c4 c5 HX
    go_wp2_with fail
    go_ret
    exact ⟨ret_int HF.out, HX1.out.2⟩
  · obtain ⟨R, γ, d, c', m, rfl, rfl, rfl, hLI⟩ := layB_open h
    have HLE := hide (lErr_is (M := M) (zs := zs) h hLI.fld.kind)
    rw [h] at HV
    have HK := hide hLI.fld.kind
    clear hD hC h hLI
    by_cases hM : (n : Int) = M
    · subst hM
      have HW := hide (wordB_all (q := R.q) (L := (n : Int)) (zs := zs) (by rw [hl]))
      clear hl
      rcases hz : zs.all (elB R.q) with _ | _ <;> (
        have HZ := hide hz
        clear hz
        go_enter Tryz.func33, Tryz.ntmps33
        go_wp2_with fail
        refine (HV.out _).mono ?_
        rintro x w1 ⟨rfl, hb1⟩
        have HX1 := hide (HX.out.next hb1)
        clear hb1 c0 c1 c2 c3 c4 c5
        obtain ⟨c0, c1, c2, c3, c4, c5⟩ := HX1.out.cells
        go_wp2_with fail
        refine (implHasAll HK.out A n c B zs _ (HI.out.below (HX1.out.2.mono hB)) (Nat.le_trans hB (Nat.le_of_lt HX1.out.lt)) hn).mono ?_
        rw [HZ.out]
        rintro e w2 ⟨rfl, hb⟩
        have HX2 := hide (HX1.out.next hb)
        clear hb
        go_wp2_with fail
        go_ret
        exact ⟨ret_int (by rw [HLE.out, HW.out, HZ.out]; rfl), HX2.out.2⟩)
    · have HW := hide (wordB_len (q := R.q) (L := M) (zs := zs) (by rw [hl]; exact hM))
      have e1 : ((n : Int) != M) = true := by simpa using hM
      clear hM hl
      go_enter Tryz.func33, Tryz.ntmps33
      go_wp2_with fail
      refine (HV.out _).mono ?_
      rintro x w1 ⟨rfl, hb1⟩
      have HX1 := hide (HX.out.next hb1)
      clear hb1 c0 c1 c2 c3 c4 c5
      obtain ⟨c0, c1, c2, c3, c4, c5⟩ := HX1.out.cells
      go_wp2_with fail
      go_ret
      exact ⟨ret_int (by rw [HLE.out, HW.out]; rfl), HX1.out.2⟩

set_option maxRecDepth 100000 in
set_option maxHeartbeats 2000000 in
theorem specLCode (p k g D K C : Int) (A : Option Addr) (n c B : Nat) (zs : List Int) (w : World) (hI : Ints .i64 w B A n zs) (hB : B ≤ w.heap.size) (hn : n ≤ 1099511627776) :
    Calls Tryz.prog 50 #[.agg #[.int .i64 p, .int .i64 k, .int .i64 g, .int .i64 D, .int .i64 K, .int .i64 C], .slice A n c] w (Gives (.int .i64 (lErr p k g D K C (stN D K C) zs)) w) := by
  have HX := hide (YBox.start w p k g D K C)
  obtain ⟨c0, c1, c2, c3, c4, c5⟩ := HX.out.cells
  have HV := hide (fun w' => specIsLayout p k g D K C w')
  have HT := hide (fun w' => specTotal p k g D K C (stN D K C) rfl w')
  have hl := hI.len
  have HI := hide hI
  obtain ⟨M, hMM⟩ : ∃ M, stN D K C = M := ⟨_, rfl⟩
  rw [hMM] at HT ⊢
  clear hI hMM
  rcases h : layB p k g D K C with _ | _
  · rw [h] at HV
    have HF := hide (lErr_no (M := M) (zs := zs) h)
    clear h hl
    go_enter Tryz.func50, Tryz.ntmps50
    go_wp2_with fail
    refine (HV.out _).mono ?_
    rintro x w1 ⟨rfl, hb1⟩
    have HX1 := hide (HX.out.next hb1)
    clear hb1 c0 c1 c2 c3 c4 c5 HX
    go_wp2_with fail
    go_ret
    exact ⟨ret_int HF.out, HX1.out.2⟩
  · obtain ⟨R, γ, d, c', m, rfl, rfl, rfl, hLI⟩ := layB_open h
    have HLE := hide (lErr_is (M := M) (zs := zs) h hLI.fld.kind)
    rw [h] at HV
    have HK := hide hLI.fld.kind
    clear h hLI
    by_cases hM : (n : Int) = M
    · subst hM
      have HW := hide (wordB_all (q := R.q) (L := (n : Int)) (zs := zs) (by rw [hl]))
      clear hl
      rcases hz : zs.all (elB R.q) with _ | _ <;> (
        have HZ := hide hz
        clear hz
        go_enter Tryz.func50, Tryz.ntmps50
        go_wp2_with fail
        refine (HV.out _).mono ?_
        rintro x w1 ⟨rfl, hb1⟩
        have HX1 := hide (HX.out.next hb1)
        clear hb1 c0 c1 c2 c3 c4 c5
        obtain ⟨c0, c1, c2, c3, c4, c5⟩ := HX1.out.cells
        go_wp2_with fail
        refine (HT.out _).mono ?_
        rintro x w2 ⟨rfl, hb2⟩
        have HX2 := hide (HX1.out.next hb2)
        clear hb2 c0 c1 c2 c3 c4 c5
        obtain ⟨c0, c1, c2, c3, c4, c5⟩ := HX2.out.cells
        go_wp2_with fail
        refine (specIs HK.out A n c B zs _ (HI.out.below (HX2.out.2.mono hB)) (Nat.le_trans hB (Nat.le_of_lt HX2.out.lt)) hn).mono ?_
        rw [HZ.out]
        rintro e w3 ⟨rfl, hb⟩
        have HX3 := hide (HX2.out.next hb)
        clear hb
        go_wp2_with fail
        go_ret
        exact ⟨ret_int (by rw [HLE.out, HW.out, HZ.out]; rfl), HX3.out.2⟩)
    · have HW := hide (wordB_len (q := R.q) (L := M) (zs := zs) (by rw [hl]; exact hM))
      have e1 : ((n : Int) != M) = true := by simpa using hM
      clear hM hl
      go_enter Tryz.func50, Tryz.ntmps50
      go_wp2_with fail
      refine (HV.out _).mono ?_
      rintro x w1 ⟨rfl, hb1⟩
      have HX1 := hide (HX.out.next hb1)
      clear hb1 c0 c1 c2 c3 c4 c5
      obtain ⟨c0, c1, c2, c3, c4, c5⟩ := HX1.out.cells
      go_wp2_with fail
      refine (HT.out _).mono ?_
      rintro x w2 ⟨rfl, hb2⟩
      have HX2 := hide (HX1.out.next hb2)
      clear hb2 c0 c1 c2 c3 c4 c5
      go_wp2_with fail
      go_ret
      exact ⟨ret_int (by rw [HLE.out, HW.out]; rfl), HX2.out.2⟩

/-- A function of a layout and a list: its contract. -/
def E1 (f : Nat) (p k g D K C : Int) (z : List Int) (Post : World → Ending → World → Prop) : Prop :=
  ∀ (A : Option Addr) (n c B : Nat) (w : World), Ints .i64 w B A n z → z.length ≤ c → B ≤ w.heap.size → Calls Tryz.prog f #[.agg #[.int .i64 p, .int .i64 k, .int .i64 g, .int .i64 D, .int .i64 K, .int .i64 C], .slice A n c] w (Post w)
def NewSSK (n : Nat) (Z : Nat → List Int) (cd : Int) (w : World) (x : Ending) (w' : World) : Prop := ∃ v vs, x = .returned (.tuple #[v, .int .i64 cd]) ∧ Mat w' w.heap.size v n vs Z ∧ Below w.heap.size w w'
theorem Mat.nil (w : World) (base : Nat) (Z : Nat → List Int) : Mat w base (.slice none 0 0) 0 [] Z := ⟨World.ownsRow_nil _ _ _ _, Rowz.nil _ _ _, fun k u hu => by simp at hu⟩

end Go.Proofs.YtlphodhecaagbaaGreat
