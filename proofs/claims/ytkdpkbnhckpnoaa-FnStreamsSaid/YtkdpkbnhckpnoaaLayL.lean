/-
  The error code of a layout and a list, and SplitStream: the model's and the program's answer.
  Condition: lists shorter than 2^40.
-/
import Derived.Test.YtkdpkbnhckpnoaaLayA
namespace Go.Proofs.Ytkdpkbnhckpnoaa
open Go.RowKit
set_option linter.unusedSimpArgs false
set_option linter.unusedVariables false

/-- The code of a layout and a list that shall have M elements. -/
def lErr (p k g D K C M : Int) (zs : List Int) : Int := if layB p k g D K C = true then (if wordB (sizeI p k).toNat M zs = true then 0 else 2) else 1
theorem lErr_no {p k g D K C M : Int} {zs : List Int} (h : layB p k g D K C = false) : lErr p k g D K C M zs = 1 := by rw [lErr, h]; rfl
theorem lErr_is {p k g D K C M : Int} {zs : List Int} {q : Nat} {mul : Nat → Nat → Nat} (h : layB p k g D K C = true) (hK : Kd p k g q mul) : lErr p k g D K C M zs = if wordB q M zs = true then 0 else 2 := by
  rw [lErr, if_pos h, hK.size, Int.toNat_natCast]
theorem lErr_cases (p k g D K C M : Int) (zs : List Int) : (∃ cd : Int, lErr p k g D K C M zs = cd ∧ (cd != 0) = true) ∨
    (lErr p k g D K C M zs = 0 ∧ ∃ (R : Fld) (γ : El R) (d c m : Nat) (ws : List (El R)), D = d ∧ K = c ∧ C = m ∧ LayIs R γ p k g d c m ∧ zs = iv ws ∧ (zs.length : Int) = M) := by
  rcases h : layB p k g D K C with _ | _
  · exact .inl ⟨1, lErr_no h, rfl⟩
  · obtain ⟨R, γ, d, c, m, rfl, rfl, rfl, hI⟩ := layB_open h
    rw [lErr_is h hI.fld.kind]
    rcases hw : wordB R.q M zs with _ | _
    · exact .inl ⟨2, rfl, rfl⟩
    · right
      refine ⟨rfl, ?_⟩
      have hl : (zs.length : Int) = M := by
        rw [wordB, Bool.and_eq_true, decide_eq_true_eq] at hw
        exact hw.1
      obtain ⟨ws, rfl, hwl⟩ := word_open (R := R) (l := zs.length) (zs := zs) (by rw [← hl] at hw; exact hw)
      exact ⟨R, γ, d, c, m, ws, rfl, rfl, rfl, hI, rfl, hl⟩
/-- The length of the stream, as it is reckoned. -/
def stN (D K C : Int) : Int := IntKind.i64.wrap (D + IntKind.i64.wrap (C * K))
theorem stN_is {R : Fld} {γ : El R} {p k g : Int} {D K C : Nat} (h : LayIs R γ p k g D K C) : stN D K C = ((D + C * K : Nat) : Int) := by
  have h4 := h.tot
  have e : ((C * K : Nat) : Int) = (C : Int) * (K : Int) := Int.natCast_mul C K
  unfold stN
  rw [← e, IntWalk.i64_in ((C * K : Nat) : Int) ⟨by omega, by omega⟩, IntWalk.i64_in _ ⟨by omega, by omega⟩]
  omega

set_option maxRecDepth 100000 in
set_option maxHeartbeats 2000000 in
theorem implListErr (p k g D K C M : Int) (hD : -9223372036854775808 ≤ D ∧ D ≤ 9223372036854775807) (hC : -9223372036854775808 ≤ C ∧ C ≤ 9223372036854775807) (A : Option Addr) (n c B : Nat) (zs : List Int) (w : World) (hI : Ints .i64 w B A n zs) (hB : B ≤ w.heap.size) (hn : n ≤ 1099511627776) :
    Calls Try.prog 43 #[.agg #[.int .i64 p, .int .i64 k, .int .i64 g, .int .i64 D, .int .i64 K, .int .i64 C], .slice A n c, .int .i64 M] w (Gives (.int .i64 (lErr p k g D K C M zs)) w) := by
  have HX := hide (YBox.start w p k g D K C)
  obtain ⟨c0, c1, c2, c3, c4, c5⟩ := HX.out.cells
  have HV := hide (fun w' => implLayValid p k g D K C w' hC hD)
  have hl := hI.len
  have HI := hide hI
  clear hI
  rcases h : layB p k g D K C with _ | _
  · rw [h] at HV
    have HF := hide (lErr_no (M := M) (zs := zs) h)
    clear h hl
    go_enter Try.func43, Try.ntmps43
    go_wp2_with fail
    refine (HV.out _).mono ?_
    rintro x w1 ⟨rfl, hb1⟩
    have HX1 := hide (HX.out.next hb1)
    clear hb1 c0 c1 c2 c3 c4 c5 HX
    go_wp2_with fail
    go_ret
    exact ⟨ret_int HF.out, HX1.out.2⟩
  · obtain ⟨R, γ, d, c', m, rfl, rfl, rfl, hLI⟩ := layB_open h
    have HLE := hide (lErr_is (M := M) (zs := zs) h hLI.fld.kind)
    rw [h] at HV
    have HK := hide hLI.fld.kind
    clear hD hC h hLI
    by_cases hM : (n : Int) = M
    · subst hM
      have HW := hide (wordB_all (q := R.q) (L := (n : Int)) (zs := zs) (by rw [hl]))
      clear hl
      rcases hz : zs.all (elB R.q) with _ | _ <;> (
        have HZ := hide hz
        clear hz
        go_enter Try.func43, Try.ntmps43
        go_wp2_with fail
        refine (HV.out _).mono ?_
        rintro x w1 ⟨rfl, hb1⟩
        have HX1 := hide (HX.out.next hb1)
        clear hb1 c0 c1 c2 c3 c4 c5
        obtain ⟨c0, c1, c2, c3, c4, c5⟩ := HX1.out.cells
        go_wp2_with fail
        refine (implHasAll HK.out A n c B zs _ (HI.out.below (HX1.out.2.mono hB)) (Nat.le_trans hB (Nat.le_of_lt HX1.out.lt)) hn).mono ?_
        rw [HZ.out]
        rintro e w2 ⟨rfl, hb⟩
        have HX2 := hide (HX1.out.next hb)
        clear hb
        go_wp2_with fail
        go_ret
        exact ⟨ret_int (by rw [HLE.out, HW.out, HZ.out]; rfl), HX2.out.2⟩)
    · have HW := hide (wordB_len (q := R.q) (L := M) (zs := zs) (by rw [hl]; exact hM))
      have e1 : ((n : Int) != M) = true := by simpa using hM
      clear hM hl
      go_enter Try.func43, Try.ntmps43
      go_wp2_with fail
      refine (HV.out _).mono ?_
      rintro x w1 ⟨rfl, hb1⟩
      have HX1 := hide (HX.out.next hb1)
      clear hb1 c0 c1 c2 c3 c4 c5
      obtain ⟨c0, c1, c2, c3, c4, c5⟩ := HX1.out.cells
      go_wp2_with fail
      go_ret
      exact ⟨ret_int (by rw [HLE.out, HW.out]; rfl), HX1.out.2⟩

set_option maxRecDepth 100000 in
set_option maxHeartbeats 2000000 in
theorem specLCode (p k g D K C : Int) (A : Option Addr) (n c B : Nat) (zs : List Int) (w : World) (hI : Ints .i64 w B A n zs) (hB : B ≤ w.heap.size) (hn : n ≤ 1099511627776) :
    Calls Try.prog 60 #[.agg #[.int .i64 p, .int .i64 k, .int .i64 g, .int .i64 D, .int .i64 K, .int .i64 C], .slice A n c] w (Gives (.int .i64 (lErr p k g D K C (stN D K C) zs)) w) := by
  have HX := hide (YBox.start w p k g D K C)
  obtain ⟨c0, c1, c2, c3, c4, c5⟩ := HX.out.cells
  have HV := hide (fun w' => specIsLayout p k g D K C w')
  have HT := hide (fun w' => specTotal p k g D K C (stN D K C) rfl w')
  have hl := hI.len
  have HI := hide hI
  obtain ⟨M, hMM⟩ : ∃ M, stN D K C = M := ⟨_, rfl⟩
  rw [hMM] at HT ⊢
  clear hI hMM
  rcases h : layB p k g D K C with _ | _
  · rw [h] at HV
    have HF := hide (lErr_no (M := M) (zs := zs) h)
    clear h hl
    go_enter Try.func60, Try.ntmps60
    go_wp2_with fail
    refine (HV.out _).mono ?_
    rintro x w1 ⟨rfl, hb1⟩
    have HX1 := hide (HX.out.next hb1)
    clear hb1 c0 c1 c2 c3 c4 c5 HX
    go_wp2_with fail
    go_ret
    exact ⟨ret_int HF.out, HX1.out.2⟩
  · obtain ⟨R, γ, d, c', m, rfl, rfl, rfl, hLI⟩ := layB_open h
    have HLE := hide (lErr_is (M := M) (zs := zs) h hLI.fld.kind)
    rw [h] at HV
    have HK := hide hLI.fld.kind
    clear h hLI
    by_cases hM : (n : Int) = M
    · subst hM
      have HW := hide (wordB_all (q := R.q) (L := (n : Int)) (zs := zs) (by rw [hl]))
      clear hl
      rcases hz : zs.all (elB R.q) with _ | _ <;> (
        have HZ := hide hz
        clear hz
        go_enter Try.func60, Try.ntmps60
        go_wp2_with fail
        refine (HV.out _).mono ?_
        rintro x w1 ⟨rfl, hb1⟩
        have HX1 := hide (HX.out.next hb1)
        clear hb1 c0 c1 c2 c3 c4 c5
        obtain ⟨c0, c1, c2, c3, c4, c5⟩ := HX1.out.cells
        go_wp2_with fail
        refine (HT.out _).mono ?_
        rintro x w2 ⟨rfl, hb2⟩
        have HX2 := hide (HX1.out.next hb2)
        clear hb2 c0 c1 c2 c3 c4 c5
        obtain ⟨c0, c1, c2, c3, c4, c5⟩ := HX2.out.cells
        go_wp2_with fail
        refine (specIs HK.out A n c B zs _ (HI.out.below (HX2.out.2.mono hB)) (Nat.le_trans hB (Nat.le_of_lt HX2.out.lt)) hn).mono ?_
        rw [HZ.out]
        rintro e w3 ⟨rfl, hb⟩
        have HX3 := hide (HX2.out.next hb)
        clear hb
        go_wp2_with fail
        go_ret
        exact ⟨ret_int (by rw [HLE.out, HW.out, HZ.out]; rfl), HX3.out.2⟩)
    · have HW := hide (wordB_len (q := R.q) (L := M) (zs := zs) (by rw [hl]; exact hM))
      have e1 : ((n : Int) != M) = true := by simpa using hM
      clear hM hl
      go_enter Try.func60, Try.ntmps60
      go_wp2_with fail
      refine (HV.out _).mono ?_
      rintro x w1 ⟨rfl, hb1⟩
      have HX1 := hide (HX.out.next hb1)
      clear hb1 c0 c1 c2 c3 c4 c5
      obtain ⟨c0, c1, c2, c3, c4, c5⟩ := HX1.out.cells
      go_wp2_with fail
      refine (HT.out _).mono ?_
      rintro x w2 ⟨rfl, hb2⟩
      have HX2 := hide (HX1.out.next hb2)
      clear hb2 c0 c1 c2 c3 c4 c5
      go_wp2_with fail
      go_ret
      exact ⟨ret_int (by rw [HLE.out, HW.out]; rfl), HX2.out.2⟩

/-- A function of a layout and a list: its contract. -/
def E1 (f : Nat) (p k g D K C : Int) (z : List Int) (Post : World → Ending → World → Prop) : Prop :=
  ∀ (A : Option Addr) (n c B : Nat) (w : World), Ints .i64 w B A n z → z.length ≤ c → B ≤ w.heap.size → Calls Try.prog f #[.agg #[.int .i64 p, .int .i64 k, .int .i64 g, .int .i64 D, .int .i64 K, .int .i64 C], .slice A n c] w (Post w)
def NewSSK (n : Nat) (Z : Nat → List Int) (cd : Int) (w : World) (x : Ending) (w' : World) : Prop := ∃ v vs, x = .returned (.tuple #[v, .int .i64 cd]) ∧ Mat w' w.heap.size v n vs Z ∧ Below w.heap.size w w'
theorem Mat.nil (w : World) (base : Nat) (Z : Nat → List Int) : Mat w base (.slice none 0 0) 0 [] Z := ⟨World.ownsRow_nil _ _ _ _, Rowz.nil _ _ _, fun k u hu => by simp at hu⟩

set_option maxRecDepth 100000 in
set_option maxHeartbeats 2000000 in
theorem ssS_bad (p k g D K C : Int)  (z : List Int) (cd : Int) (hz : z.length ≤ 1048576) (h : lErr p k g D K C (stN D K C) z = cd) (hne : (cd != 0) = true) :
    E1 32 p k g D K C z (NewSSK 0 (fun _ => []) cd) := by
  intro A n c B w hI hnc hB
  have HX := hide (YBox.start w p k g D K C)
  obtain ⟨c0, c1, c2, c3, c4, c5⟩ := HX.out.cells
  have hn : n ≤ 1048576 := by rw [← hI.len]; exact hz
  have HE := hide h
  have HI := hide hI
  clear hI h
  go_enter Try.func32, Try.ntmps32
  go_wp2_with fail
  refine (specLCode p k g D K C A n c B z _ (HI.out.below (HX.out.2.mono hB)) (Nat.le_trans hB (Nat.le_of_lt HX.out.lt)) (by omega)).mono ?_
  rw [HE.out]
  rintro e w9 ⟨rfl, hb⟩
  have HX9 := hide (HX.out.next hb)
  clear hb c0 c1 c2 c3 c4 c5
  go_wp2_with fail
  go_ret2
  exact ⟨_, [], rfl, Mat.nil _ _ _, HX9.out.2⟩
set_option maxRecDepth 100000 in
set_option maxHeartbeats 2000000 in
theorem ssS_val {R : Fld} {γ : El R} {p k g : Int} {D K C : Nat} (h : LayIs R γ p k g D K C) (z : List Int) (hz : z.length ≤ 1048576) (hl : (z.length : Int) = stN D K C) (he : lErr p k g D K C (stN D K C) z = 0) :
    E1 32 p k g D K C z (NewSSK C (wrdZ D C K z) 0) := by
  intro A n c B w hI hnc hB
  have HX := hide (YBox.start w p k g D K C)
  obtain ⟨c0, c1, c2, c3, c4, c5⟩ := HX.out.cells
  have hn : n ≤ 1048576 := by rw [← hI.len]; exact hz
  have HN := hide (show n = D + C * K by rw [stN_is h] at hl; have := hI.len; omega)
  have HE := hide he
  have HI := hide hI
  have HH := hide h
  skip
  clear hI h hl he
  go_enter Try.func32, Try.ntmps32
  go_wp2_with fail
  refine (specLCode p k g D K C A n c B z _ (HI.out.below (HX.out.2.mono hB)) (Nat.le_trans hB (Nat.le_of_lt HX.out.lt)) (by omega)).mono ?_
  rw [HE.out]
  rintro e w9 ⟨rfl, hb⟩
  have HX9 := hide (HX.out.next hb)
  clear hb c0 c1 c2 c3 c4 c5
  obtain ⟨c0, c1, c2, c3, c4, c5⟩ := HX9.out.cells
  go_wp2_with fail
  refine (specWords HH.out A n c B z _ (HI.out.below (HX9.out.2.mono hB)) (Nat.le_trans hB (Nat.le_of_lt HX9.out.lt)) HN.out).mono ?_
  rintro x w5 ⟨v, vs, rfl, hm, hb5⟩
  have hlt := HX9.out.lt
  have HM := hide (hm.low (base' := w.heap.size) (by omega))
  have HX5 := hide (HX9.out.next hb5)
  clear hm hb5 c0 c1 c2 c3 c4 c5
  go_wp2_with fail
  go_ret2
  exact ⟨_, vs, rfl, HM.out, HX5.out.2⟩

set_option maxRecDepth 100000 in
set_option maxHeartbeats 2000000 in
theorem ssI_bad (p k g D K C : Int) (hD : -9223372036854775808 ≤ D ∧ D ≤ 9223372036854775807) (hC : -9223372036854775808 ≤ C ∧ C ≤ 9223372036854775807) (z : List Int) (cd : Int) (hz : z.length ≤ 1048576) (h : lErr p k g D K C (stN D K C) z = cd) (hne : (cd != 0) = true) :
    E1 18 p k g D K C z (NewSSK 0 (fun _ => []) cd) := by
  intro A n c B w hI hnc hB
  have HX := hide (YBox.start w p k g D K C)
  obtain ⟨c0, c1, c2, c3, c4, c5⟩ := HX.out.cells
  have hn : n ≤ 1048576 := by rw [← hI.len]; exact hz
  have HE := hide h
  have HI := hide hI
  clear hI h
  go_enter Try.func18, Try.ntmps18
  go_wp2_with fail
  go_region_held3 (fun w' => (w'.cell? ⟨w.heap.size, 0, none⟩ = some (.int .i64 p) ∧ w'.cell? ⟨w.heap.size, 1, none⟩ = some (.int .i64 k) ∧ w'.cell? ⟨w.heap.size, 2, none⟩ = some (.int .i64 g) ∧ w'.cell? ⟨w.heap.size, 3, none⟩ = some (.int .i64 D) ∧ w'.cell? ⟨w.heap.size, 4, none⟩ = some (.int .i64 K) ∧ w'.cell? ⟨w.heap.size, 5, none⟩ = some (.int .i64 C)))
    (first
      | exact HX.out.drew.cells
      | exact HX2.out.cells
      | exact HX9.out.cells)
    (first
      | (go_at_call 51; refine (implStreamLen p k g D K C (stN D K C) rfl _).mono ?_; rintro e w2 ⟨rfl, hb⟩; have HX2 := hide (HX.out.drew.next hb); clear hb)
      | (go_at_call 43; refine (implListErr p k g D K C (stN D K C) hD hC A n c B z _ (HI.out.below (HX2.out.2.mono hB)) (Nat.le_trans hB (Nat.le_of_lt HX2.out.lt)) (by omega)).mono ?_; rw [HE.out]; rintro e w9 ⟨rfl, hb⟩; have HX9 := hide (HX2.out.next hb); clear hb))
  clear c0 c1 c2 c3 c4 c5
  go_wp2_with fail
  go_ret2
  exact ⟨_, [], rfl, Mat.nil _ _ _, HX9.out.2⟩
set_option maxRecDepth 100000 in
set_option maxHeartbeats 2000000 in
theorem ssI_val {R : Fld} {γ : El R} {p k g : Int} {D K C : Nat} (h : LayIs R γ p k g D K C) (z : List Int) (hz : z.length ≤ 1048576) (hl : (z.length : Int) = stN D K C) (he : lErr p k g D K C (stN D K C) z = 0) :
    E1 18 p k g D K C z (NewSSK C (wrdZ D C K z) 0) := by
  intro A n c B w hI hnc hB
  have HX := hide (YBox.start w p k g D K C)
  obtain ⟨c0, c1, c2, c3, c4, c5⟩ := HX.out.cells
  have hn : n ≤ 1048576 := by rw [← hI.len]; exact hz
  have HN := hide (show n = D + C * K by rw [stN_is h] at hl; have := hI.len; omega)
  have HE := hide he
  have HI := hide hI
  have HH := hide h
  have hD : -9223372036854775808 ≤ (D : Int) ∧ (D : Int) ≤ 9223372036854775807 := by have := h.d1500; omega
  have hC : -9223372036854775808 ≤ (C : Int) ∧ (C : Int) ≤ 9223372036854775807 := by have := h.c16; omega
  clear hI h hl he
  go_enter Try.func18, Try.ntmps18
  go_wp2_with fail
  go_region_held3 (fun w' => (w'.cell? ⟨w.heap.size, 0, none⟩ = some (.int .i64 p) ∧ w'.cell? ⟨w.heap.size, 1, none⟩ = some (.int .i64 k) ∧ w'.cell? ⟨w.heap.size, 2, none⟩ = some (.int .i64 g) ∧ w'.cell? ⟨w.heap.size, 3, none⟩ = some (.int .i64 D) ∧ w'.cell? ⟨w.heap.size, 4, none⟩ = some (.int .i64 K) ∧ w'.cell? ⟨w.heap.size, 5, none⟩ = some (.int .i64 C)))
    (first
      | exact HX.out.drew.cells
      | exact HX2.out.cells
      | exact HX9.out.cells)
    (first
      | (go_at_call 51; refine (implStreamLen p k g D K C (stN D K C) rfl _).mono ?_; rintro e w2 ⟨rfl, hb⟩; have HX2 := hide (HX.out.drew.next hb); clear hb)
      | (go_at_call 43; refine (implListErr p k g D K C (stN D K C) hD hC A n c B z _ (HI.out.below (HX2.out.2.mono hB)) (Nat.le_trans hB (Nat.le_of_lt HX2.out.lt)) (by omega)).mono ?_; rw [HE.out]; rintro e w9 ⟨rfl, hb⟩; have HX9 := hide (HX2.out.next hb); clear hb))
  clear c0 c1 c2 c3 c4 c5
  obtain ⟨c0, c1, c2, c3, c4, c5⟩ := HX9.out.cells
  go_wp2_with fail
  refine (implSplit HH.out A n c B z _ (HI.out.below (HX9.out.2.mono hB)) (Nat.le_trans hB (Nat.le_of_lt HX9.out.lt)) HN.out).mono ?_
  rintro x w5 ⟨v, vs, rfl, hm, hb5⟩
  have hlt := HX9.out.lt
  have HM := hide (hm.low (base' := w.heap.size) (by omega))
  have HX5 := hide (HX9.out.next hb5)
  clear hm hb5 c0 c1 c2 c3 c4 c5
  go_wp2_with fail
  go_ret2
  exact ⟨_, vs, rfl, HM.out, HX5.out.2⟩

theorem ss_both (p k g D K C : Int) (z : List Int) (hz : z.length ≤ 1048576) (hD : -9223372036854775808 ≤ D ∧ D ≤ 9223372036854775807) (hC : -9223372036854775808 ≤ C ∧ C ≤ 9223372036854775807) :
    ∃ (n : Nat) (Z : Nat → List Int) (cd : Int), (n ≤ 16 ∧ ∀ i, (Z i).length ≤ 1600) ∧ E1 32 p k g D K C z (NewSSK n Z cd) ∧ E1 18 p k g D K C z (NewSSK n Z cd) := by
  rcases lErr_cases p k g D K C (stN D K C) z with ⟨cd, h, hne⟩ | ⟨h, R, γ, d, c, m, ws, rfl, rfl, rfl, hI, _, hl⟩
  · exact ⟨0, _, cd, ⟨by omega, fun i => Nat.zero_le _⟩, ssS_bad p k g D K C z cd hz h hne, ssI_bad p k g D K C hD hC z cd hz h hne⟩
  · refine ⟨m, _, 0, ⟨hI.c16, fun i => ?_⟩, ssS_val hI z hz hl h, ssI_val hI z hz hl h⟩
    rw [wrdZ_len]
    have h1 := lsz_le d m i
    have h2 := Nat.div_le_self d m
    have h3 := hI.d1500
    have h4 := hI.k1
    omega
end Go.Proofs.Ytkdpkbnhckpnoaa
