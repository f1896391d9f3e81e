/-
  The contract of encoded words, of the model.
  The stream of some data, as the model encodes it.
  EncodeStream: the model's and the program's answer.
  What EncodeStream answers, and what of it the other functions make.
  Condition: as each statement says.
-/
import Derived.Test.YtlphodhecaagbaaGreatCode7
import Derived.Test.YtlphodhecaagbaaGreatLayE
import Derived.Test.YtlphodhecaagbaaGreatLayA
import Derived.Test.YtlphodhecaagbaaGreatJK
import Derived.Test.YtlphodhecaagbaaGreatLayL
namespace Go.Proofs.YtlphodhecaagbaaGreat
open Go.RowKit
set_option linter.unusedSimpArgs false
set_option linter.unusedVariables false

section
variable {R : Fld} {γ : El R} {p k g : Int} {l c : Nat}
/-- A turned message with zeros ahead, of which the first elements are laid. -/
def hiF (ms : List (El R)) (n j : Nat) (i : Nat) : El R := if n - j ≤ i then cf ms (n - 1 - i) else 0
theorem hiF_zero (ms : List (El R)) (n : Nat) : tab n (hiF ms n 0) = tab n fun _ => 0 := tab_congr fun i hi => if_neg (by omega)
theorem hiF_step {ms : List (El R)} {n j : Nat} (hj : j < n) : (tab n (hiF ms n j)).set (n - 1 - j) (cf ms j) = tab n (hiF ms n (j + 1)) := by
  rw [tab_set]
  refine tab_congr fun i hi => ?_
  unfold hiF
  by_cases h : i = n - 1 - j
  · rw [if_pos h, if_pos (by omega), show n - 1 - i = j by omega]
  · rw [if_neg h]
    by_cases h2 : n - j ≤ i
    · rw [if_pos h2, if_pos (by omega)]
    · rw [if_neg h2, if_neg (by omega)]
theorem hiF_end {ms : List (El R)} {c : Nat} : trim (tab (ms.length + c) (hiF ms (ms.length + c) ms.length)) = wpoly (padW c ms) := by
  unfold wpoly
  congr 1
  refine List.ext_getElem? fun i => ?_
  rcases Nat.lt_or_ge i (ms.length + c) with hi | hi
  · rw [tab_at _ hi, List.getElem?_reverse (by rw [pad_len]; exact hi), pad_len, hiF]
    split
    · rw [padW, List.getElem?_append_left (by omega), at_cf (by omega)]
    · rw [padW, List.getElem?_append_right (by omega), tab_at _ (by omega)]
  · rw [List.getElem?_eq_none (by rw [tab_len]; exact hi), List.getElem?_eq_none (by rw [List.length_reverse, pad_len]; exact hi)]

def H1Rel (w : World) (p k g : Int) (l c n : Nat) (ms : List (El R)) (i : Value) (wr : World) : Prop :=
  ∃ j : Nat, j ≤ n ∧ i = .int .i64 j ∧ Own wr (w.heap.size + 1) 2 .i64 (.slice (some ⟨w.heap.size + 1, 0, none⟩) l l) (iv (tab l (hiF ms l j))) ∧ CBox w wr p k g l c
def H2Rel (w : World) (p k g : Int) (l c m N : Nat) (Ar : Option Addr) (ms rest : List (El R)) (v i : Value) (wr : World) : Prop :=
  ∃ (j : Nat) (kk : Int), j ≤ c ∧ Hid (kk = (c : Int) - 1 - (j : Int)) ∧ i = .int .i64 kk ∧ Own wr N 2 .i64 v (iv (ms ++ tab j fun i => -(cf rest (c - 1 - i)))) ∧ Ints .i64 wr N Ar m (iv rest) ∧ N ≤ wr.heap.size ∧ CBox w wr p k g l c

set_option maxRecDepth 100000 in
set_option maxHeartbeats 4000000 in
theorem specEncode (h : CodeIs R γ p k g l c) (ms : List (El R)) (A : Option Addr) (n cm B : Nat) (w : World) (hI : Ints .i64 w B A n (iv ms)) (hB : B ≤ w.heap.size) (hn : n + c = l) :
    Calls Tryz.prog 60 #[.agg #[.int .i64 p, .int .i64 k, .int .i64 g, .int .i64 l, .int .i64 c], .slice A n cm] w (NewE (encW γ c ms) w) := by
  have HX := hide (CBox.start w p k g l c)
  have hl255 := h.l255
  have hc64 := h.c64
  have hcl := h.cl
  have hml : ms.length = n := by rw [← iv_len]; exact hI.len
  have HML := hide hml
  have HI := hide hI
  have HZE := hide (show trim (tab l (hiF ms l n)) = wpoly (padW c ms) by rw [← hn, ← hml]; exact hiF_end)
  obtain ⟨m, hm⟩ : ∃ m, (restW γ c ms).length = m := ⟨_, rfl⟩
  have HM := hide hm
  have hmc : m ≤ c := by rw [← hm]; exact rest_le γ c ms
  have HGL := hide (gen_len γ c)
  have HWL := hide (show (wpoly (padW c ms)).length ≤ l by have h1 := wpoly_le (padW c ms); rw [pad_len] at h1; omega)
  have HRE := hide (show remP (wpoly (padW c ms)) (genP γ c) = restW γ c ms from rfl)
  clear hI hml hm
  obtain ⟨c0, c1, c2, c3, c4⟩ := HX.out.cells
  go_enter Tryz.func60, Tryz.ntmps60
  go_wp2_with (refine wpList_mkN _ rfl (.tmp 12) (.tmp 12) 28 rfl elem64 .i64 .i64 _ _ l rfl rfl rfl rfl (by omega) fun w1 h1 h2 => ?_; have HX1 := hide (HX.out.next h2); rw [alloc_size, iv_zeros (R := R)] at h1; have HO1 := hide h1; clear h1 h2)
  go_loopw [6] (fun i wr => H1Rel w p k g l c n ms i wr) (fun i _ => n - (intOf i).toNat)
  case atStart => exact ⟨0, by omega, rfl, by rw [hiF_zero]; exact HO1.out, HX1.out⟩
  case round =>
    clear HX HX1 HO1 c0 c1 c2 c3 c4
    obtain ⟨j, hj, rfl, HO, HX⟩ := hrel
    have HX := hide HX
    have HO := hide HO
    obtain ⟨c0, c1, c2, c3, c4⟩ := HX.out.cells
    by_cases hlt : j < n
    · obtain ⟨b, off, x, rfl, hb, hx, hc⟩ := (HI.out.below (HX.out.2.mono hB)).at_ hlt
      rw [iv_at (by rw [HML.out]; exact hlt)] at hx
      simp only [Option.some.injEq] at hx
      subst hx
      obtain ⟨x, hx⟩ : ∃ x, x = cf ms j := ⟨_, rfl⟩
      rw [← hx] at hc
      obtain ⟨t, ht⟩ : ∃ t, t = l - 1 - j := ⟨_, rfl⟩
      have hw0 : IntKind.i64.wrap ((l : Int) - 1) = (l : Int) - 1 := IntWalk.i64_in _ ⟨by omega, by omega⟩
      have hw1 : IntKind.i64.wrap ((l : Int) - 1 - (j : Int)) = (t : Int) := by rw [IntWalk.i64_in _ ⟨by omega, by omega⟩]; omega
      have hw2 : (l : Int) - 1 - (j : Int) = (t : Int) := by omega
      have htl : t < l := by omega
      have HT := hide (show (tab l (hiF ms l j)).set t x = tab l (hiF ms l (j + 1)) by rw [hx, ht]; exact hiF_step (by omega))
      have hfx := HO.out.frozenAt t
      obtain ⟨u, hcx⟩ : ∃ u : Int, wr.cell? ⟨w.heap.size + 1, t, none⟩ = some (.int .i64 u) := ⟨_, HO.out.cellAt (j := t) (iv_at (by rw [tab_len]; exact htl))⟩
      have HO7 := hide (HO.out.drew.stored t (x.val : Nat)).1
      rw [iv_set, HT.out] at HO7
      have HX7 := hide (HX.out.drew.set (b := w.heap.size + 1) (by omega) t (.int .i64 (x.val : Nat)))
      clear hx ht
      go_wp2_with fail
      go_region
      all_goals
        go_wp2_with fail
        go_roundw
        case rel => exact ⟨j + 1, by omega, by go_num, HO7.out, HX7.out⟩
        case measure => simp [intOf]; omega
    · obtain rfl : j = n := by omega
      have hd : decide (j < j) = false := by simp
      have hcap : l ≤ l := Nat.le_refl _
      clear hlt
      go_wp2_with fail
      go_region_held3 (fun w' => w'.cell? ⟨w.heap.size, 0, none⟩ = some (.int .i64 p) ∧ w'.cell? ⟨w.heap.size, 1, none⟩ = some (.int .i64 k) ∧ w'.cell? ⟨w.heap.size, 2, none⟩ = some (.int .i64 g) ∧ w'.cell? ⟨w.heap.size, 3, none⟩ = some (.int .i64 l) ∧ w'.cell? ⟨w.heap.size, 4, none⟩ = some (.int .i64 c))
        (first
          | exact HX.out.drew.cells
          | exact HX3.out.cells
          | exact HX4.out.cells
          | exact HX5.out.cells)
        (first
          | (go_at_call 82; refine (specTrimE (some ⟨w.heap.size + 1, 0, none⟩) l l wr.heap.size (tab l (hiF ms l j)) _ (HO.out.drew.intsE) (Nat.le_refl _) (by omega) hcap).mono ?_; rw [HZE.out]; rintro e w3 ⟨A3, c3', rfl, hc3, ho3, hb3⟩; have HX3 := hide (HX.out.drew.next hb3); have HQ3 := hide (ho3.intsE); clear ho3 hc3 hb3)
          | (go_at_call 83; refine (specGenPoly h _).mono ?_; rintro e w4 ⟨A4, c4', rfl, hc4, ho4, hb4⟩; rw [HGL.out] at ho4 ⊢; have HX4 := hide (HX3.out.next hb4); have HQ4 := hide ((HQ3.out.below hb4).more hb4.size); have HG4 := hide ho4.intsE; clear ho4 hc4 hb4)
          | (go_at_call 81; refine (specDivE h.fld (wpoly (padW c ms)) (genP γ c) A3 A4 _ c3' (c + 1) c4' w4.heap.size _ HQ4.out HG4.out (Nat.le_refl _) (by have := HWL.out; omega) (by omega) (by omega)).mono ?_; rw [HRE.out]; rintro e w5 ⟨Aq, cq, Ar, cr, rfl, hcq, hcr, hoq, hor, hne, hb5⟩; rw [HM.out] at hor ⊢; have HX5 := hide (HX4.out.next hb5); have HR5 := hide (hor.intsE); clear hoq hor hne hb5 hcr hcq))
      clear c0 c1 c2 c3 c4
      go_wp2_with fail
      refine (specOwnE A j cm B ms w5 (HI.out.below (HX5.out.2.mono hB)) (Nat.le_trans hB (Nat.le_of_lt HX5.out.lt)) (by omega)).mono ?_
      rintro e w6 ⟨A6, c6, rfl, hc6, ho6, hb6⟩
      rw [HML.out] at ho6 ⊢
      have HX6 := hide (HX5.out.next hb6)
      have HO6 := hide ho6
      have HR6 := hide (HR5.out.below hb6)
      have HNW := hide HX5.out.lt
      have HS6 := hide hb6.size
      clear ho6 hc6 hb6
      obtain ⟨c0, c1, c2, c3, c4⟩ := HX6.out.cells
      go_wp2_with fail
      clear c0 c1 c2 c3 c4
      go_loopw [9, 10] (fun v i wr => H2Rel w p k g l c m w5.heap.size Ar ms (restW γ c ms) v i wr) (fun _ i _ => (intOf i + 1).toNat)
      case atStart => exact ⟨0, (c : Int) - 1, by omega, by show (c : Int) - 1 = (c : Int) - 1 - ((0 : Nat) : Int); omega, rfl, by rw [show (tab 0 fun i => -(cf (restW γ c ms) (c - 1 - i))) = [] from rfl, List.append_nil]; exact HO6.out, HR6.out, HS6.out, HX6.out⟩
      case round =>
        clear HX HO HX3 HX4 HX5 HX6 HO6 HR6 HR5 HQ3 HQ4 HG4
        obtain ⟨v, rfl⟩ : ∃ v : Value, v = u9 := ⟨_, rfl⟩
        obtain ⟨i, kk, hi, HK, rfl, HO, HR, HWS, HX⟩ := hrel
        have HWS := hide HWS
        have HX := hide HX
        have HO := hide HO
        have HR := hide HR
        by_cases hlt : 0 ≤ kk
        · obtain ⟨t, rfl⟩ : ∃ t : Nat, kk = t := ⟨kk.toNat, by omega⟩
          have hti : t + i + 1 = c := by have := HK.out; omega
          obtain ⟨x, hx⟩ : ∃ x, x = cf (restW γ c ms) t := ⟨_, rfl⟩
          have HXE := hide hx
          have HN := hide (show iv (ms ++ tab i fun i => -(cf (restW γ c ms) (c - 1 - i))) ++ [((-x).val : Int)] = iv (ms ++ tab (i + 1) fun i => -(cf (restW γ c ms) (c - 1 - i))) by
            rw [tab_snoc, ← List.append_assoc, iv_app (ms ++ _), iv_one, hx, show c - 1 - i = t by omega])
          have hlen : (iv (ms ++ tab i fun i => -(cf (restW γ c ms) (c - 1 - i)))).length + 1 ≤ 1000 := by rw [iv_len, List.length_append, tab_len, HML.out]; omega
          have htb : t ≤ 1099511627776 := by omega
          have HVB := hide (show ∀ b, v.ownBlock = some b → w5.heap.size ≤ b from fun b hb => (HO.out.lt hb).1)
          have hNW := HNW.out
          clear hx
          go_wp2_with fail
          go_region_held3 (fun w' => w'.cell? ⟨w.heap.size, 0, none⟩ = some (.int .i64 p) ∧ w'.cell? ⟨w.heap.size, 1, none⟩ = some (.int .i64 k) ∧ w'.cell? ⟨w.heap.size, 2, none⟩ = some (.int .i64 g))
            (first
              | exact ⟨HX.out.drew.cells.1, HX.out.drew.cells.2.1, HX.out.drew.cells.2.2.1⟩
              | exact ⟨HX2.out.cells.1, HX2.out.cells.2.1, HX2.out.cells.2.2.1⟩
              | exact ⟨(HX2.out.alloc _).cells.1, (HX2.out.alloc _).cells.2.1, (HX2.out.alloc _).cells.2.2.1⟩
              | exact ⟨HX3.out.cells.1, HX3.out.cells.2.1, HX3.out.cells.2.2.1⟩)
            (first
              | (go_at_call 86; refine (specAtE Ar m cr w5.heap.size t (restW γ c ms) _ HR.out.drew htb (by omega)).mono ?_; rw [← HXE.out]; rintro e wa ⟨rfl, rfl⟩)
              | (go_at_call 85; refine (specNegE h.fld x _).mono ?_; rintro e w2 ⟨rfl, hb2⟩; have HX2 := hide (HX.out.drew.next hb2); have HO2 := hide (HO.out.drew.below hb2 (Nat.le_refl _)); have HS2 := hide hb2.size; have HR2 := hide (HR.out.drew.below (hb2.mono HWS.out)); clear hb2)
              | (refine step_appL _ (by rfl) _ _ _ (by rfl) elem64 w5.heap.size v (iv (ms ++ tab i fun i => -(cf (restW γ c ms) (c - 1 - i)))) (by rfl) (HO2.out.alloc _) (w2.heap.size + 1) (some ⟨w2.heap.size, 0, none⟩) 1 1 [((-x).val : Int)] (by rfl) (ints_one w2 2 .i64 ((-x).val : Int)) (by omega) (by rw [alloc_size]; exact Nat.le_trans HWS.out (Nat.le_trans HS2.out (Nat.le_succ _))) ?_; intro v3 w3 hown3 hgrow; rw [HN.out] at hown3; have HX3 := hide ((HX2.out.alloc _).grow hgrow (fun b hb => by have := HVB.out b hb; omega)); have HS3 := hide (show w5.heap.size ≤ w3.heap.size by have h1 := hgrow.size; rw [alloc_size] at h1; have h2 := HS2.out; have h3 := HWS.out; exact Nat.le_trans h3 (Nat.le_trans h2 (Nat.le_trans (Nat.le_succ _) h1))); have HO3 := hide hown3; have HR3 := hide ((HR2.out.below ((Below.refl w5.heap.size w2).alloc (Nat.le_trans HWS.out HS2.out) _)).grown hgrow (by rw [alloc_size]; exact Nat.le_trans HWS.out (Nat.le_trans HS2.out (Nat.le_succ _))) HVB.out); clear hown3 hgrow))
          go_wp2_with fail
          go_roundw
          case rel => exact ⟨i + 1, (t : Int) - 1, by omega, by show (t : Int) - 1 = (c : Int) - 1 - ((i + 1 : Nat) : Int); omega, rfl, HO3.out, HR3.out, HS3.out, HX3.out⟩
          case measure => simp [intOf]
        · have hic : i = c := by have := HK.out; omega
          have hd : decide (0 ≤ kk) = false := by simpa using hlt
          have HF := hide (newE_of (w := w) (ps := encW γ c ms) (by have h1 := HO.out; rw [hic] at h1; exact h1) HX.out.2 (Nat.le_of_lt HNW.out))
          clear hlt
          go_wp2_with fail
          go_ret
          exact HF.out
end
end Go.Proofs.YtlphodhecaagbaaGreat

namespace Go.Proofs.YtlphodhecaagbaaGreat
open Go.RowKit
set_option linter.unusedSimpArgs false
set_option linter.unusedVariables false

section
variable {R : Fld} {γ : El R} {p k g : Int} {D K C : Nat}
/-- The first loop: the words. -/
def B1Rel (w : World) (p k g : Int) (D K C : Nat) (γ : El R) (ds : List (El R)) (v f i : Value) (wr : World) : Prop :=
  ∃ (b : Nat) (vs : List Value), b ≤ C ∧ i = .int .i64 b ∧ f = .int .i64 (offB D C b : Nat) ∧ Mat wr (w.heap.size + 1) v b vs (fun i => iv (encB γ D C K ds i)) ∧ YBox w wr p k g D K C
/-- The first elements of the stream. -/
def strP (γ : El R) (D C K : Nat) (ds : List (El R)) (j : Nat) : List (El R) := tab j fun i => strE γ D C K ds i
theorem strP_snoc (γ : El R) (D C K : Nat) (ds : List (El R)) (j : Nat) : iv (strP γ D C K ds j) ++ [((strE γ D C K ds j).val : Int)] = iv (strP γ D C K ds (j + 1)) := by
  unfold strP; rw [tab_snoc, iv_app]; rfl
theorem strP_len (γ : El R) (D C K : Nat) (ds : List (El R)) (j : Nat) : (strP γ D C K ds j).length = j := tab_len _ _
theorem strP_all (γ : El R) (D C K : Nat) (ds : List (El R)) : strP γ D C K ds (D + C * K) = strL D C K (encB γ D C K ds) := rfl
/-- A slice of slices that shares no block with a list that began in block B1 and grew from B2 on. -/
def FarB (B1 B2 : Nat) (v : Value) (vs : List Value) : Prop := v.ownBlock ≠ some B1 ∧ (∀ (k : Nat) (u : Value), vs[k]? = some u → u.ownBlock ≠ some B1 ∧ ∀ g, u.ownBlock = some g → g < B2) ∧ ∀ g, v.ownBlock = some g → g < B2
theorem FarB.ne {B1 B2 : Nat} {v : Value} {vs : List Value} (h : FarB B1 B2 v vs) {row : Option Nat} (hr : ∀ g, row = some g → g = B1 ∨ B2 ≤ g) : v.ownBlock = none ∨ v.ownBlock ≠ row := by
  rcases hv : v.ownBlock with _ | g
  · exact .inl rfl
  · refine .inr fun e => ?_
    rcases hr g e.symm with h1 | h1
    · subst h1; exact h.1 hv
    · have := h.2.2 g hv; omega
theorem FarB.row {B1 B2 : Nat} {v : Value} {vs : List Value} (h : FarB B1 B2 v vs) {row : Option Nat} (hr : ∀ g, row = some g → g = B1 ∨ B2 ≤ g) (k : Nat) (u : Value) (hu : vs[k]? = some u) : u.ownBlock = none ∨ u.ownBlock ≠ row := by
  obtain ⟨h1, h2⟩ := h.2.1 k u hu
  rcases hv : u.ownBlock with _ | g
  · exact .inl rfl
  · refine .inr fun e => ?_
    rcases hr g e.symm with h3 | h3
    · subst h3; exact h1 hv
    · have := h2 g hv; omega
def B2Rel (w : World) (D K C N B1 B2 : Nat) (γ : El R) (ds : List (El R)) (v vo : Value) (vs os : List Value) (out i : Value) (wr : World) : Prop :=
  ∃ (j : Nat), j ≤ N ∧ i = .int .i64 j ∧ Mat wr (w.heap.size + 1) v C vs (fun i => iv (encB γ D C K ds i)) ∧ Mat wr (w.heap.size + 1) vo N os (ordZ D C) ∧ Own wr B1 2 .i64 out (iv (strP γ D C K ds j)) ∧ (∀ g, out.ownBlock = some g → g = B1 ∨ B2 ≤ g) ∧ B2 ≤ wr.heap.size ∧ Below w.heap.size w wr

set_option maxRecDepth 100000 in
set_option maxHeartbeats 4000000 in
theorem specEncodeS (h : LayIs R γ p k g D K C) (ds : List (El R)) (hd : ds.length = D) (A : Option Addr) (n c B : Nat) (w : World) (hI : Ints .i64 w B A n (iv ds)) (hB : B ≤ w.heap.size) (hnc : n ≤ c) :
    Calls Tryz.prog 32 #[.agg #[.int .i64 p, .int .i64 k, .int .i64 g, .int .i64 D, .int .i64 K, .int .i64 C], .slice A n c] w (NewE (strL D C K (encB γ D C K ds)) w) := by
  have h1 := h.c1; have h2 := h.c16; have h3 := h.cd; have h4 := h.tot; have h5 := h.k1; have h6 := h.d1500
  have hnD : n = D := by rw [← hd, ← iv_len]; exact hI.len.symm
  have HX := hide (YBox.start w p k g D K C)
  obtain ⟨c0, c1, c2, c3, c4, c5⟩ := HX.out.cells
  have HI := hide hI
  have HH := hide h
  have HD := hide hd
  have HND := hide hnD
  clear h hI hd hnD
  go_enter Tryz.func32, Tryz.ntmps32
  go_wp2_with fail
  have HX1 := hide (HX.out.alloc (.cells #[] 28))
  have HO1 := hide (show Mat ((w.alloc (.cells #[.int .i64 p, .int .i64 k, .int .i64 g, .int .i64 D, .int .i64 K, .int .i64 C] 27)).alloc (.cells #[] 28)) (w.heap.size + 1) (.slice (some ⟨w.heap.size + 1, 0, none⟩) 0 0) 0 [] (fun i => iv (encB γ D C K ds i)) from by
    have h := World.ownsRow_lit (base := w.heap.size + 1) (size := 1) (e := 28) (w.alloc (.cells #[.int .i64 p, .int .i64 k, .int .i64 g, .int .i64 D, .int .i64 K, .int .i64 C] 27)) #[] 0 (by rw [alloc_size]; omega) (by decide) rfl
    rw [alloc_size] at h
    exact ⟨h, Rowz.nil _ _ _, fun k u hu => by simp at hu⟩)
  clear HX c0 c1 c2 c3 c4 c5
  go_loopw [5, 6, 7] (fun v f i wr => B1Rel w p k g D K C γ ds v f i wr) (fun _ _ i _ => C - (intOf i).toNat)
  case atStart => exact ⟨0, [], Nat.zero_le _, rfl, by rw [offB_zero]; rfl, HO1.out, HX1.out⟩
  case round =>
    clear HX1 HO1
    obtain ⟨b, vs, hb, rfl, rfl, HM, HX⟩ := hrel
    have HM := hide HM
    have HX := hide HX
    obtain ⟨v, hv⟩ : ∃ v, v = u5 := ⟨_, rfl⟩
    subst hv
    obtain ⟨c0, c1, c2, c3, c4, c5⟩ := HX.out.cells
    by_cases hlt : b < C
    · have hcode := HH.out.code b hlt
      have hoff := offB_succ D C b
      have hofl := offB_le (D := D) (k := b + 1) h1 hlt
      have hlen := encB_len (γ := γ) (K := K) hlt HD.out
      have hdl := dat_len (D := D) hlt HD.out
      have hcl := hcode.cl
      have hc255 := hcode.l255
      have HED := hide (show encB γ D C K ds b = encW γ K (datL D C ds b) from rfl)
      have HDA := hide (show datL D C ds b = (ds.drop (offB D C b)).take (lsz D C b) from rfl)
      have HSU := hide (show offB D C (b + 1) = offB D C b + lsz D C b from hoff)
      have HSZ := hide (fun w' => specSizeZ p k g K D C b (b : Int) rfl h1 (by omega) (by omega) hlt w')
      have HBK := hide (fun w' => specBlock p k g K D C b (b : Int) rfl h1 (by omega) (by omega) hlt w')
      rw [show IntKind.i64.wrap (((lsz D C b : Nat) : Int) + (K : Int)) = ((lsz D C b + K : Nat) : Int) by rw [IntWalk.i64_in _ ⟨by omega, by omega⟩, Int.natCast_add]] at HBK
      obtain ⟨s, hs⟩ : ∃ s, lsz D C b = s := ⟨_, rfl⟩
      rw [hs] at hlen hdl hcl hc255 HDA HSU hoff hcode HSZ HBK
      have hs15 : s ≤ 1500 := by omega
      obtain ⟨L, hL⟩ : ∃ L, s + K = L := ⟨_, rfl⟩
      rw [hL] at hlen hcl hc255 hcode HBK
      have HCODE := hide hcode
      have HL := hide hL
      obtain ⟨lo, hlo⟩ : ∃ lo, offB D C b = lo := ⟨_, rfl⟩
      obtain ⟨hi, hhi⟩ : ∃ hi, lo + s = hi := ⟨_, rfl⟩
      rw [hlo] at HDA HSU hoff
      rw [hhi] at HSU hoff
      have hhD : hi ≤ D := by omega
      have hcut : ∀ w', (Instr.sliceAt 28 (.slice A n c) (some (.int .i64 (lo : Int))) (some (.int .i64 (hi : Int))) none).run Tryz.prog w' = .ok (.slice (subA A c lo) s (c - lo)) w' := fun w' => by
        have := run_cut_lh A n c lo hi (by omega) (by have := HND.out; omega) w'
        rw [show hi - lo = s by omega] at this
        exact this
      have hw1 : IntKind.i64.wrap ((lo : Int) + (s : Int)) = (hi : Int) := by rw [IntWalk.i64_in _ ⟨by omega, by omega⟩]; omega
      have HSB := hide (HI.out.sub hnc (lo := lo) (m := s) (by have := HND.out; omega))
      rw [iv_drop, iv_take, ← HDA.out] at HSB
      rw [hlo]
      have HHI := hide hhi
      clear hoff hofl hcode hs hL hhi
      go_wp2_with fail
      refine (HSZ.out _).mono ?_
      rintro e w2 ⟨rfl, hb2⟩
      have HX2 := hide (HX.out.next hb2)
      have HM2 := hide (HM.out.next hb2)
      clear hb2 c0 c1 c2 c3 c4 c5 HX HM
      obtain ⟨c0, c1, c2, c3, c4, c5⟩ := HX2.out.cells
      go_wp2_with fail
      refine tail_begin (fun w' => Cells6 w' w.heap.size p k g D K C) 12 (by kernel_rfl) ⟨c0, c1, c2, c3, c4, c5⟩ (fun hS' => ?_)
      clear c0 c1 c2 c3 c4 c5
      refine tail_take2 0 rfl (by kernel_rfl) (by kernel_rfl) (by kernel_rfl) (by decide) (fun _ _ _ h => h) (by rfl) (v := ?_) ?_ (by assumption) ?_
      rotate_left 1
      · intro w' hS'; obtain ⟨c0, c1, c2, c3, c4, c5⟩ := hS'; go_simp; try with_reducible rfl
      try simp only [Act.put, List.setIfInBounds_toArray, List.set_cons_zero, List.set_cons_succ]
      refine tail_take2 1 rfl (by kernel_rfl) (by kernel_rfl) (by kernel_rfl) (by decide) (fun _ _ _ h => h) (by rfl) (v := ?_) ?_ (by assumption) ?_
      rotate_left 1
      · intro w' hS'; obtain ⟨c0, c1, c2, c3, c4, c5⟩ := hS'; go_simp; try with_reducible rfl
      try simp only [Act.put, List.setIfInBounds_toArray, List.set_cons_zero, List.set_cons_succ]
      refine tail_take2 2 rfl (by kernel_rfl) (by kernel_rfl) (by kernel_rfl) (by decide) (fun _ _ _ h => h) (by rfl) (v := ?_) ?_ (by assumption) ?_
      rotate_left 1
      · intro w' hS'; obtain ⟨c0, c1, c2, c3, c4, c5⟩ := hS'; go_simp; try with_reducible rfl
      try simp only [Act.put, List.setIfInBounds_toArray, List.set_cons_zero, List.set_cons_succ]
      refine tail_take2 4 rfl (by kernel_rfl) (by kernel_rfl) (by kernel_rfl) (by decide) (fun _ _ _ h => h) (by rfl) (v := ?_) ?_ (by assumption) ?_
      rotate_left 1
      · intro w' hS'; obtain ⟨c0, c1, c2, c3, c4, c5⟩ := hS'; go_simp; try with_reducible rfl
      try simp only [Act.put, List.setIfInBounds_toArray, List.set_cons_zero, List.set_cons_succ]
      refine tail_take2 5 rfl (by kernel_rfl) (by kernel_rfl) (by kernel_rfl) (by decide) (fun _ _ _ h => h) (by rfl) (v := ?_) ?_ (by assumption) ?_
      rotate_left 1
      · intro w' hS'; obtain ⟨c0, c1, c2, c3, c4, c5⟩ := hS'; go_simp; try with_reducible rfl
      try simp only [Act.put, List.setIfInBounds_toArray, List.set_cons_zero, List.set_cons_succ]
      refine tail_take2 6 rfl (by kernel_rfl) (by kernel_rfl) (by kernel_rfl) (by decide) (fun _ _ _ h => h) (by rfl) (v := ?_) ?_ (by assumption) ?_
      rotate_left 1
      · intro w' hS'; obtain ⟨c0, c1, c2, c3, c4, c5⟩ := hS'; go_simp; try with_reducible rfl
      try simp only [Act.put, List.setIfInBounds_toArray, List.set_cons_zero, List.set_cons_succ]
      refine tail_take2 7 rfl (by kernel_rfl) (by kernel_rfl) (by kernel_rfl) (by decide) (fun _ _ _ h => h) (by rfl) (v := ?_) ?_ (by assumption) ?_
      rotate_left 1
      · intro w' hS'; obtain ⟨c0, c1, c2, c3, c4, c5⟩ := hS'; go_simp; try with_reducible rfl
      try simp only [Act.put, List.setIfInBounds_toArray, List.set_cons_zero, List.set_cons_succ]
      refine tail_call 3 rfl (by kernel_rfl) rfl (fun K hK => ?_)
      go_simp
      go_at_call 58; refine (HBK.out _).mono ?_; rintro e w3 ⟨rfl, hb3⟩; have HX3 := hide (HX2.out.drew.next hb3); have HM3 := hide (HM2.out.drew.next hb3); clear hb3
      refine hK.out _ _ (by (try dsimp only); exact HX3.out.cells) (fun hS' => ?_)
      clear hK K
      try simp only [Act.put, List.setIfInBounds_toArray, List.set_cons_zero, List.set_cons_succ]
      refine tail_call 8 rfl (by kernel_rfl) rfl (fun K hK => ?_)
      go_simp
      go_at_call 60; refine (specEncode HCODE.out (datL D C ds b) (subA A c lo) s (c - lo) B _ (HSB.out.below (HX3.out.2.mono hB)) (Nat.le_trans hB (Nat.le_of_lt HX3.out.lt)) HL.out).mono ?_; rw [← HED.out]; rintro e w4 ⟨A4, c4', rfl, hc4, ho4, hb4⟩; have HX4 := hide (HX3.out.next hb4); have HM4 := hide (HM3.out.next hb4); rw [hlen] at ho4; have HO4 := hide ho4; clear ho4 hb4
      refine hK.out _ _ (by (try dsimp only); exact HX4.out.cells) (fun hS' => ?_)
      clear hK K
      try simp only [Act.put, List.setIfInBounds_toArray, List.set_cons_zero, List.set_cons_succ]
      refine tail_call 9 rfl (by kernel_rfl) rfl (fun K hK => ?_)
      go_simp
      refine hK.out _ _ (by (try dsimp only); exact (HX4.out.alloc _).cells) (fun hS' => ?_)
      clear hK K
      try simp only [Act.put, List.setIfInBounds_toArray, List.set_cons_zero, List.set_cons_succ]
      have hwz : w.heap.size + 1 ≤ w3.heap.size := HX3.out.lt
      refine tail_call 10 rfl (by kernel_rfl) rfl (fun K' hK => ?_)
      refine wp_appRow w4 (.tmp 24) (.tmp 33) ?ho ?hs HM4.out (.slice A4 L c4') (iv (encB γ D C K ds b)) (World.ownsRow.mono HO4.out hwz) (fun b' hb' => ?hl) ?hx (by omega) HX4.out.lt ?hk
      case ho => rfl
      case hs => rfl
      case hx => rfl
      case hl =>
        have hb'' := (HO4.out.lt hb').1
        exact ⟨fun j t ht e => by have := (HM3.out.rows.lt ht e).2; omega, fun e => by have := (World.ownsRow.lt HM3.out.row b' e).2; omega⟩
      intro v5 w5 hm5 hg5
      have HX5 := hide (HX4.out.grow hg5 (fun b' hb' => by have := (World.ownsRow.lt HM4.out.row b' hb').1; omega))
      have HM5 := hide (hm5.congr (Y := fun i => iv (encB γ D C K ds i)) fun j hj => by
        by_cases hjb : j = b
        · subst hjb; rw [if_pos rfl]
        · rw [if_neg hjb])
      clear hm5 hg5
      refine hK.out _ _ HX5.out.cells (fun hS' => ?_)
      clear hK K'
      try simp only [Act.put, List.setIfInBounds_toArray, List.set_cons_zero, List.set_cons_succ]
      refine tail_take2 11 rfl (by kernel_rfl) (by kernel_rfl) (by kernel_rfl) (by decide) (fun _ _ _ h => h) (by rfl) (v := ?_) ?_ (by assumption) ?_
      rotate_left 1
      · intro w' hS'; obtain ⟨c0, c1, c2, c3, c4, c5⟩ := hS'; go_simp; try with_reducible rfl
      try simp only [Act.put, List.setIfInBounds_toArray, List.set_cons_zero, List.set_cons_succ]
      refine tail_end (by kernel_rfl) ?_
      go_wp2_with fail
      go_roundw
      case rel => exact ⟨b + 1, _, by omega, by go_num, by rw [HSU.out], HM5.out, HX5.out⟩
      case measure => simp [intOf]; omega
    · obtain rfl : b = C := by omega
      have HX9 := hide (HX.out.alloc (.cells #[] 2))
      have HMB := HM
      have HM9 := hide (HM.out.alloc (.cells #[] 2))
      have HO9 := hide (show Own (wr.alloc (.cells #[] 2)) wr.heap.size 2 .i64 (.slice (some ⟨wr.heap.size, 0, none⟩) 0 0) (iv (strP γ D b K ds 0)) from Own.lit0 wr _ _)
      obtain ⟨c0, c1, c2, c3, c4, c5⟩ := HX9.out.cells
      have hwr := HX.out.lt
      obtain ⟨w9, hw9⟩ : ∃ w9, w9 = wr.alloc (.cells #[] 2) := ⟨_, rfl⟩
      have hs9 : w9.heap.size = wr.heap.size + 1 := by rw [hw9, alloc_size]
      rw [← hw9] at HX9 HM9 HO9 c0 c1 c2 c3 c4 c5
      go_wp2_with fail
      rw [← hw9]
      go_wp2_with fail
      clear hw9 HX HM
      refine (specOrder p k g D K b h1 h2 h3 (by omega) h4 w9).mono ?_
      rintro e w2 ⟨vo, os, rfl, hmo, hb2⟩
      have HM2 := hide (HM9.out.next hb2)
      have HO2 := hide (HO9.out.below hb2 (Nat.le_refl _))
      have HMO := hide (hmo.low (base' := w.heap.size + 1) (by omega))
      have HBL := hide (HX9.out.2.trans (hb2.mono HX9.out.2.size))
      have HNV := hide (show FarB wr.heap.size w2.heap.size v vs from by
        refine ⟨fun e => ?_, fun k' u' hu' => ⟨fun e => ?_, fun g' e => ?_⟩, fun g' e => ?_⟩
        · have := (World.ownsRow.lt HMB.out.row _ e).2; omega
        · have := (HMB.out.rows.lt hu' e).2; omega
        · have := (HMB.out.rows.lt hu' e).2; have := hb2.size; omega
        · have := (World.ownsRow.lt HMB.out.row g' e).2; have := hb2.size; omega)
      have HNO := hide (show FarB wr.heap.size w2.heap.size vo os from by
        refine ⟨fun e => ?_, fun k' u' hu' => ⟨fun e => ?_, fun g' e => ?_⟩, fun g' e => ?_⟩
        · have := (World.ownsRow.lt hmo.row _ e).1; omega
        · have := (hmo.rows.lt hu' e).1; omega
        · have := (hmo.rows.lt hu' e).2; omega
        · have := (World.ownsRow.lt hmo.row g' e).2; omega)
      obtain ⟨N, hN⟩ : ∃ N, D + b * K = N := ⟨_, rfl⟩
      have HNN := hide hN
      rw [hN] at HMO h4
      have hN0 : 0 < N := by omega
      obtain ⟨gv, cv, rfl, hgv1, hgv2, hgv3⟩ := HM2.out.form h1
      obtain ⟨go, co, rfl, hgo1, hgo2, hgo3⟩ := HMO.out.form hN0
      have hb2s := hb2.size
      clear hmo hb2 hN c0 c1 c2 c3 c4 c5
      have hEL : ∀ j, j < b → (encB γ D b K ds j).length = lsz D b j + K := fun j hj => encB_len (γ := γ) (K := K) hj HD.out
      have HEL := hide hEL
      clear hEL
      obtain ⟨B1, hB1⟩ : ∃ B1, wr.heap.size = B1 := ⟨_, rfl⟩
      rw [hB1] at HNV HNO HO2
      go_wp2_with fail
      go_loopw [9, 11] (fun out i wr => B2Rel w D K b N B1 w2.heap.size γ ds (.slice (some ⟨gv, 0, none⟩) b cv) (.slice (some ⟨go, 0, none⟩) N co) vs os out i wr) (fun _ i _ => N - (intOf i).toNat)
      case atStart => exact ⟨0, Nat.zero_le _, rfl, HM2.out, HMO.out, HO2.out, (fun g hg => .inl (by simp only [Value.ownBlock, Option.some.injEq] at hg; omega)), Nat.le_refl _, HBL.out⟩
      case round =>
        clear HM2 HMO HO2 HBL HX9 HM9 HO9 HMB
        obtain ⟨j, hj, rfl, HM, HMO, HO, HOG, hwb, HBL⟩ := hrel
        have HM := hide HM
        have HMO := hide HMO
        have HO := hide HO
        have HOG := hide HOG
        have HBL := hide HBL
        by_cases hlt : j < N
        · have hjN : j < D + b * K := by rw [HNN.out]; exact hlt
          have hpk := pair_lt (D := D) h1 j
          have hpe := pair_elem (D := D) (K := K) h1 hjN
          have hSE : strE γ D b K ds j = cf (encB γ D b K ds (pairOf D b j).1) (pairOf D b j).2 := rfl
          obtain ⟨Ao, mo, hos, hoc, hoo, hom⟩ := HMO.out.at_ hlt
          obtain ⟨ro, mo', hA, hro1, hro2, _⟩ := hoo.some_ (show 0 < 2 by decide)
          simp only [Value.slice.injEq] at hA
          obtain ⟨rfl, _, rfl⟩ := hA
          have hmo2 : 2 ≤ mo := hom
          have d0 : wr.cell? ⟨go, j, none⟩ = some (.slice (some ⟨ro, 0, none⟩) 2 mo) := hoc
          have d1 : wr.cell? ⟨ro, 0, none⟩ = some (.int .i64 ((pairOf D b j).1 : Nat)) := hoo.cellAt (j := 0) rfl
          have d2 : wr.cell? ⟨ro, 1, none⟩ = some (.int .i64 ((pairOf D b j).2 : Nat)) := hoo.cellAt (j := 1) rfl
          obtain ⟨Ar, mr, hvs, hrc, hro, hmr⟩ := HM.out.at_ hpk
          obtain ⟨px, hpx⟩ : ∃ q, (pairOf D b j).1 = q := ⟨_, rfl⟩
          obtain ⟨py, hpy⟩ : ∃ q, (pairOf D b j).2 = q := ⟨_, rfl⟩
          rw [hpx] at hpk hpe d1 hvs hrc hro hSE hmr
          rw [hpy] at hpe d2 hSE
          have hel := HEL.out px hpk
          rw [iv_len, hel] at hvs hrc hro hmr
          obtain ⟨lr, hlr⟩ : ∃ lr, lsz D b px + K = lr := ⟨_, rfl⟩
          rw [hlr] at hvs hrc hro hmr hpe hel
          obtain ⟨rb, cr, hAr, hrb1, hrb2, _⟩ := hro.some_ (by rw [iv_len, hel]; omega)
          rw [iv_len, hel] at hAr
          simp only [Value.slice.injEq] at hAr
          obtain ⟨rfl, hAl, rfl⟩ := hAr
          have hq := hro.cellAt (iv_at (ps := encB γ D b K ds px) (i := py) (by rw [hel]; exact hpe))
          rw [← hSE] at hq
          have HS2 := hide (strP_snoc γ D b K ds j)
          obtain ⟨z, hz⟩ : ∃ z, strE γ D b K ds j = z := ⟨_, rfl⟩
          rw [hz] at hq HS2
          have n0 : u9.ownBlock ≠ some go := fun e => by
            rcases HNO.out.ne HOG.out with h | h
            · cases h
            · exact h (e.symm ▸ rfl)
          have n1 : u9.ownBlock ≠ some ro := fun e => by
            rcases HNO.out.row HOG.out j _ hos with h | h
            · cases h
            · exact h (e.symm ▸ rfl)
          have n2 : u9.ownBlock ≠ some gv := fun e => by
            rcases HNV.out.ne HOG.out with h | h
            · cases h
            · exact h (e.symm ▸ rfl)
          have n3 : u9.ownBlock ≠ some rb := fun e => by
            rcases HNV.out.row HOG.out px _ hvs with h | h
            · cases h
            · exact h (e.symm ▸ rfl)
          have l0 : go < wr.heap.size := by omega
          have l2 : gv < wr.heap.size := by omega
          have hol : (iv (strP γ D b K ds j)).length = j := by rw [iv_len, strP_len]
          clear hpx hpy hz hvs hro hel hSE hlr hoc hoo hos
          go_wp2_with fail
          refine tail_begin (fun w' => w'.cell? ⟨go, j, none⟩ = some (.slice (some ⟨ro, 0, none⟩) 2 mo) ∧ w'.cell? ⟨ro, 0, none⟩ = some (.int .i64 px) ∧ w'.cell? ⟨ro, 1, none⟩ = some (.int .i64 py) ∧ w'.cell? ⟨gv, px, none⟩ = some (.slice (some ⟨rb, 0, none⟩) lr mr) ∧ w'.cell? ⟨rb, py, none⟩ = some (.int .i64 z.val)) 21 (by kernel_rfl) ⟨d0, d1, d2, hrc, hq⟩ (fun hS' => ?_)
          clear d0 d1 d2 hrc hq
          refine tail_take2 0 rfl (by kernel_rfl) (by kernel_rfl) (by kernel_rfl) (by decide) (fun _ _ _ h => h) (by rfl) (v := ?_) ?_ (by assumption) ?_
          rotate_left 1
          · intro w' hS'; obtain ⟨q0, q1, q2, q3, q4⟩ := hS'; go_simp; try with_reducible rfl
          try simp only [Act.put, List.setIfInBounds_toArray, List.set_cons_zero, List.set_cons_succ]
          refine tail_take2 1 rfl (by kernel_rfl) (by kernel_rfl) (by kernel_rfl) (by decide) (fun _ _ _ h => h) (by rfl) (v := ?_) ?_ (by assumption) ?_
          rotate_left 1
          · intro w' hS'; obtain ⟨q0, q1, q2, q3, q4⟩ := hS'; go_simp; try with_reducible rfl
          try simp only [Act.put, List.setIfInBounds_toArray, List.set_cons_zero, List.set_cons_succ]
          refine tail_take2 2 rfl (by kernel_rfl) (by kernel_rfl) (by kernel_rfl) (by decide) (fun _ _ _ h => h) (by rfl) (v := ?_) ?_ (by assumption) ?_
          rotate_left 1
          · intro w' hS'; obtain ⟨q0, q1, q2, q3, q4⟩ := hS'; go_simp; try with_reducible rfl
          try simp only [Act.put, List.setIfInBounds_toArray, List.set_cons_zero, List.set_cons_succ]
          refine tail_take2 3 rfl (by kernel_rfl) (by kernel_rfl) (by kernel_rfl) (by decide) (fun _ _ _ h => h) (by rfl) (v := ?_) ?_ (by assumption) ?_
          rotate_left 1
          · intro w' hS'; obtain ⟨q0, q1, q2, q3, q4⟩ := hS'; go_simp; try with_reducible rfl
          try simp only [Act.put, List.setIfInBounds_toArray, List.set_cons_zero, List.set_cons_succ]
          refine tail_take2 4 rfl (by kernel_rfl) (by kernel_rfl) (by kernel_rfl) (by decide) (fun _ _ _ h => h) (by rfl) (v := ?_) ?_ (by assumption) ?_
          rotate_left 1
          · intro w' hS'; obtain ⟨q0, q1, q2, q3, q4⟩ := hS'; go_simp; try with_reducible rfl
          try simp only [Act.put, List.setIfInBounds_toArray, List.set_cons_zero, List.set_cons_succ]
          refine tail_take2 5 rfl (by kernel_rfl) (by kernel_rfl) (by kernel_rfl) (by decide) (fun _ _ _ h => h) (by rfl) (v := ?_) ?_ (by assumption) ?_
          rotate_left 1
          · intro w' hS'; obtain ⟨q0, q1, q2, q3, q4⟩ := hS'; go_simp; try with_reducible rfl
          try simp only [Act.put, List.setIfInBounds_toArray, List.set_cons_zero, List.set_cons_succ]
          refine tail_take2 6 rfl (by kernel_rfl) (by kernel_rfl) (by kernel_rfl) (by decide) (fun _ _ _ h => h) (by rfl) (v := ?_) ?_ (by assumption) ?_
          rotate_left 1
          · intro w' hS'; obtain ⟨q0, q1, q2, q3, q4⟩ := hS'; go_simp; try with_reducible rfl
          try simp only [Act.put, List.setIfInBounds_toArray, List.set_cons_zero, List.set_cons_succ]
          refine tail_take2 7 rfl (by kernel_rfl) (by kernel_rfl) (by kernel_rfl) (by decide) (fun _ _ _ h => h) (by rfl) (v := ?_) ?_ (by assumption) ?_
          rotate_left 1
          · intro w' hS'; obtain ⟨q0, q1, q2, q3, q4⟩ := hS'; go_simp; try with_reducible rfl
          try simp only [Act.put, List.setIfInBounds_toArray, List.set_cons_zero, List.set_cons_succ]
          refine tail_take2 8 rfl (by kernel_rfl) (by kernel_rfl) (by kernel_rfl) (by decide) (fun _ _ _ h => h) (by rfl) (v := ?_) ?_ (by assumption) ?_
          rotate_left 1
          · intro w' hS'; obtain ⟨q0, q1, q2, q3, q4⟩ := hS'; go_simp; try with_reducible rfl
          try simp only [Act.put, List.setIfInBounds_toArray, List.set_cons_zero, List.set_cons_succ]
          refine tail_take2 9 rfl (by kernel_rfl) (by kernel_rfl) (by kernel_rfl) (by decide) (fun _ _ _ h => h) (by rfl) (v := ?_) ?_ (by assumption) ?_
          rotate_left 1
          · intro w' hS'; obtain ⟨q0, q1, q2, q3, q4⟩ := hS'; go_simp; try with_reducible rfl
          try simp only [Act.put, List.setIfInBounds_toArray, List.set_cons_zero, List.set_cons_succ]
          refine tail_take2 10 rfl (by kernel_rfl) (by kernel_rfl) (by kernel_rfl) (by decide) (fun _ _ _ h => h) (by rfl) (v := ?_) ?_ (by assumption) ?_
          rotate_left 1
          · intro w' hS'; obtain ⟨q0, q1, q2, q3, q4⟩ := hS'; go_simp; try with_reducible rfl
          try simp only [Act.put, List.setIfInBounds_toArray, List.set_cons_zero, List.set_cons_succ]
          refine tail_take2 11 rfl (by kernel_rfl) (by kernel_rfl) (by kernel_rfl) (by decide) (fun _ _ _ h => h) (by rfl) (v := ?_) ?_ (by assumption) ?_
          rotate_left 1
          · intro w' hS'; obtain ⟨q0, q1, q2, q3, q4⟩ := hS'; go_simp; try with_reducible rfl
          try simp only [Act.put, List.setIfInBounds_toArray, List.set_cons_zero, List.set_cons_succ]
          refine tail_take2 12 rfl (by kernel_rfl) (by kernel_rfl) (by kernel_rfl) (by decide) (fun _ _ _ h => h) (by rfl) (v := ?_) ?_ (by assumption) ?_
          rotate_left 1
          · intro w' hS'; obtain ⟨q0, q1, q2, q3, q4⟩ := hS'; go_simp; try with_reducible rfl
          try simp only [Act.put, List.setIfInBounds_toArray, List.set_cons_zero, List.set_cons_succ]
          refine tail_take2 13 rfl (by kernel_rfl) (by kernel_rfl) (by kernel_rfl) (by decide) (fun _ _ _ h => h) (by rfl) (v := ?_) ?_ (by assumption) ?_
          rotate_left 1
          · intro w' hS'; obtain ⟨q0, q1, q2, q3, q4⟩ := hS'; go_simp; try with_reducible rfl
          try simp only [Act.put, List.setIfInBounds_toArray, List.set_cons_zero, List.set_cons_succ]
          refine tail_take2 14 rfl (by kernel_rfl) (by kernel_rfl) (by kernel_rfl) (by decide) (fun _ _ _ h => h) (by rfl) (v := ?_) ?_ (by assumption) ?_
          rotate_left 1
          · intro w' hS'; obtain ⟨q0, q1, q2, q3, q4⟩ := hS'; go_simp; try with_reducible rfl
          try simp only [Act.put, List.setIfInBounds_toArray, List.set_cons_zero, List.set_cons_succ]
          refine tail_take2 15 rfl (by kernel_rfl) (by kernel_rfl) (by kernel_rfl) (by decide) (fun _ _ _ h => h) (by rfl) (v := ?_) ?_ (by assumption) ?_
          rotate_left 1
          · intro w' hS'; obtain ⟨q0, q1, q2, q3, q4⟩ := hS'; go_simp; try with_reducible rfl
          try simp only [Act.put, List.setIfInBounds_toArray, List.set_cons_zero, List.set_cons_succ]
          refine tail_take2 16 rfl (by kernel_rfl) (by kernel_rfl) (by kernel_rfl) (by decide) (fun _ _ _ h => h) (by rfl) (v := ?_) ?_ (by assumption) ?_
          rotate_left 1
          · intro w' hS'; obtain ⟨q0, q1, q2, q3, q4⟩ := hS'; go_simp; try with_reducible rfl
          try simp only [Act.put, List.setIfInBounds_toArray, List.set_cons_zero, List.set_cons_succ]
          refine tail_take2 17 rfl (by kernel_rfl) (by kernel_rfl) (by kernel_rfl) (by decide) (fun _ _ _ h => h) (by rfl) (v := ?_) ?_ (by assumption) ?_
          rotate_left 1
          · intro w' hS'; obtain ⟨q0, q1, q2, q3, q4⟩ := hS'; go_simp; try with_reducible rfl
          try simp only [Act.put, List.setIfInBounds_toArray, List.set_cons_zero, List.set_cons_succ]
          refine tail_call 18 rfl (by kernel_rfl) rfl (fun K hK => ?_)
          go_simp
          obtain ⟨q0, q1, q2, q3, q4⟩ := hS'
          refine hK.out _ _ (by (try dsimp only); exact ⟨cell_up q0 _, cell_up q1 _, cell_up q2 _, cell_up q3 _, cell_up q4 _⟩) (fun hS' => ?_)
          clear hK K
          try simp only [Act.put, List.setIfInBounds_toArray, List.set_cons_zero, List.set_cons_succ]
          refine tail_call 19 rfl (by kernel_rfl) rfl (fun K' hK => ?_)
          refine wp_app1L wr.drew _ _ _ rfl elem64 B1 u9 (iv (strP γ D b K ds j)) rfl HO.out (z.val : Int) rfl (by rw [hol]; omega) (by show B1 ≤ wr.heap.size; omega) ?_
          intro b' cap w4 ho4 hg4 hl4
          have HG4 := hide (show wr.grownBy w4 u9.ownBlock from ⟨hg4.os, hg4.tape, hg4.output, hg4.size, hg4.block⟩)
          have k0 := grown_cell HG4.out (p := ⟨go, j, none⟩) l0 n0
          have k1 := grown_cell HG4.out (p := ⟨ro, 0, none⟩) hro2 n1
          have k2 := grown_cell HG4.out (p := ⟨ro, 1, none⟩) hro2 n1
          have k3 := grown_cell HG4.out (p := ⟨gv, px, none⟩) l2 n2
          have k4 := grown_cell HG4.out (p := ⟨rb, py, none⟩) hrb2 n3
          rw [HS2.out, hol] at ho4
          have HO4 := hide ho4
          have HL4 := hide hl4
          clear ho4 hg4 hl4
          refine hK.out _ _ ⟨k0.trans q0, k1.trans q1, k2.trans q2, k3.trans q3, k4.trans q4⟩ (fun hS' => ?_)
          clear hK K' k0 k1 k2 k3 k4 q0 q1 q2 q3 q4
          try simp only [Act.put, List.setIfInBounds_toArray, List.set_cons_zero, List.set_cons_succ]
          refine tail_take2 20 rfl (by kernel_rfl) (by kernel_rfl) (by kernel_rfl) (by decide) (fun _ _ _ h => h) (by rfl) (v := ?_) ?_ (by assumption) ?_
          rotate_left 1
          · intro w' hS'; obtain ⟨q0, q1, q2, q3, q4⟩ := hS'; go_simp; try with_reducible rfl
          try simp only [Act.put, List.setIfInBounds_toArray, List.set_cons_zero, List.set_cons_succ]
          refine tail_end (by kernel_rfl) ?_
          go_wp2_with fail
          go_roundw
          case rel => exact ⟨j + 1, by omega, by go_num, HM.out.grown HG4.out (HNV.out.ne HOG.out) (HNV.out.row HOG.out), HMO.out.grown HG4.out (HNO.out.ne HOG.out) (HNO.out.row HOG.out), HO4.out, (fun g hg => by
            simp only [Value.ownBlock, Option.some.injEq] at hg
            subst hg
            rcases HL4.out with h | h
            · exact HOG.out _ h
            · right; show w2.heap.size ≤ _; rw [h]; exact Nat.le_succ_of_le hwb), Nat.le_trans hwb HG4.out.size, HBL.out.grown HG4.out HBL.out.size (fun r e => by rcases HOG.out r e with h | h <;> omega)⟩
          case measure => simp [intOf]; omega
        · obtain rfl : j = N := by omega
          go_wp2_with fail
          go_ret
          have hst := HO.out
          rw [← HNN.out, strP_all] at hst
          exact newE_of hst HBL.out (by omega)
end
end Go.Proofs.YtlphodhecaagbaaGreat

namespace Go.Proofs.YtlphodhecaagbaaGreat
open Go.RowKit
set_option linter.unusedSimpArgs false
set_option linter.unusedVariables false

set_option maxRecDepth 100000 in
set_option maxHeartbeats 2000000 in
theorem esS_bad1 (p k g D K C : Int) (z : List Int) (hz : z.length ≤ 1048576) (h : layB p k g D K C = false) : E1 8 p k g D K C z (NewIK [] 1) := by
  intro A n c B w hI hnc hB
  have HX := hide (YBox.start w p k g D K C)
  obtain ⟨c0, c1, c2, c3, c4, c5⟩ := HX.out.cells
  have hn : n ≤ 1048576 := by rw [← hI.len]; exact hz
  have hzl := hI.len
  have HI := hide hI
  clear hI
  have HV := hide (fun w' => specIsLayout p k g D K C w')
  rw [h] at HV
  go_enter Tryz.func8, Tryz.ntmps8
  go_wp2_with fail
  refine (HV.out _).mono ?_
  rintro x w1 ⟨rfl, hb1⟩
  have HX1 := hide (HX.out.next hb1)
  clear hb1 c0 c1 c2 c3 c4 c5
  obtain ⟨c0, c1, c2, c3, c4, c5⟩ := HX1.out.cells
  go_wp2_with fail
  go_ret2
  exact newIK_nil HX1.out.2

set_option maxRecDepth 100000 in
set_option maxHeartbeats 2000000 in
theorem esS_bad2 {R : Fld} {γ : El R} {p k g : Int} {D K C : Nat} (h : LayIs R γ p k g D K C) (z : List Int) (hz : z.length ≤ 1048576) (hw : wordB R.q (D : Int) z = false) : E1 8 p k g D K C z (NewIK [] 2) := by
  intro A n c B w hI hnc hB
  have HX := hide (YBox.start w p k g D K C)
  obtain ⟨c0, c1, c2, c3, c4, c5⟩ := HX.out.cells
  have hn : n ≤ 1048576 := by rw [← hI.len]; exact hz
  have hzl := hI.len
  have HI := hide hI
  clear hI
  have HV := hide (fun w' => specIsLayout p k g D K C w')
  rw [layB_is h] at HV
  have HH := hide h
  have h6 := h.d1500
  clear h
  by_cases hM : (n : Int) = (D : Int)
  · have HZ := hide (show z.all (elB R.q) = false by rw [← wordB_all (L := (D : Int)) (by rw [hzl]; exact hM)]; exact hw)
    have e1 : ((n : Int) != (D : Int)) = false := by simpa using hM
    clear hw hM hzl
    go_enter Tryz.func8, Tryz.ntmps8
    go_wp2_with fail
    refine (HV.out _).mono ?_
    rintro x w1 ⟨rfl, hb1⟩
    have HX1 := hide (HX.out.next hb1)
    clear hb1 c0 c1 c2 c3 c4 c5
    obtain ⟨c0, c1, c2, c3, c4, c5⟩ := HX1.out.cells
    go_wp2_with fail
    refine (specIs HH.out.fld.kind A n c B z _ (HI.out.below (HX1.out.2.mono hB)) (Nat.le_trans hB (Nat.le_of_lt HX1.out.lt)) (by omega)).mono ?_
    rw [HZ.out]
    rintro e w2 ⟨rfl, hb⟩
    have HX2 := hide (HX1.out.next hb)
    clear hb c0 c1 c2 c3 c4 c5
    obtain ⟨c0, c1, c2, c3, c4, c5⟩ := HX2.out.cells
    go_wp2_with fail
    go_ret2
    exact newIK_nil HX2.out.2
  · have e1 : ((n : Int) != (D : Int)) = true := by simpa using hM
    clear hw hM hzl
    go_enter Tryz.func8, Tryz.ntmps8
    go_wp2_with fail
    refine (HV.out _).mono ?_
    rintro x w1 ⟨rfl, hb1⟩
    have HX1 := hide (HX.out.next hb1)
    clear hb1 c0 c1 c2 c3 c4 c5
    obtain ⟨c0, c1, c2, c3, c4, c5⟩ := HX1.out.cells
    go_wp2_with fail
    go_ret2
    exact newIK_nil HX1.out.2

set_option maxRecDepth 100000 in
set_option maxHeartbeats 2000000 in
theorem esS_val {R : Fld} {γ : El R} {p k g : Int} {D K C : Nat} (h : LayIs R γ p k g D K C) (ds : List (El R)) (hd : ds.length = D) (hz : (iv ds).length ≤ 1048576) : E1 8 p k g D K C (iv ds) (NewIK (iv (strL D C K (encB γ D C K ds))) 0) := by
  intro A n c B w hI hnc hB
  have HX := hide (YBox.start w p k g D K C)
  obtain ⟨c0, c1, c2, c3, c4, c5⟩ := HX.out.cells
  have hn : n ≤ 1048576 := by rw [← hI.len]; exact hz
  have hzl := hI.len
  have HI := hide hI
  clear hI
  have HV := hide (fun w' => specIsLayout p k g D K C w')
  rw [layB_is h] at HV
  have HH := hide h
  have HZ := hide (iv_all ds)
  have e1 : ((n : Int) != (D : Int)) = false := by rw [← hzl, iv_len, hd]; simp
  have hnc' : n ≤ c := by rw [← hzl]; exact hnc
  have h6 := h.d1500
  clear h hzl
  go_enter Tryz.func8, Tryz.ntmps8
  go_wp2_with fail
  refine (HV.out _).mono ?_
  rintro x w1 ⟨rfl, hb1⟩
  have HX1 := hide (HX.out.next hb1)
  clear hb1 c0 c1 c2 c3 c4 c5
  obtain ⟨c0, c1, c2, c3, c4, c5⟩ := HX1.out.cells
  go_wp2_with fail
  refine (specIs HH.out.fld.kind A n c B (iv ds) _ (HI.out.below (HX1.out.2.mono hB)) (Nat.le_trans hB (Nat.le_of_lt HX1.out.lt)) (by omega)).mono ?_
  rw [HZ.out]
  rintro e w2 ⟨rfl, hb⟩
  have HX2 := hide (HX1.out.next hb)
  clear hb c0 c1 c2 c3 c4 c5
  obtain ⟨c0, c1, c2, c3, c4, c5⟩ := HX2.out.cells
  go_wp2_with fail
  refine (specEncodeS HH.out ds hd A n c B _ (HI.out.below (HX2.out.2.mono hB)) (Nat.le_trans hB (Nat.le_of_lt HX2.out.lt)) hnc').mono ?_
  rintro e w4 ⟨A1, m1, rfl, hm1, ho, hb⟩
  have HX4 := hide (HX2.out.next hb)
  have HO := hide (newIK_of (c := 0) ho HX4.out.2 (Nat.le_of_lt HX2.out.lt))
  clear ho hb c0 c1 c2 c3 c4 c5
  go_wp2_with fail
  go_ret2
  exact HO.out

set_option maxRecDepth 100000 in
set_option maxHeartbeats 2000000 in
theorem esI_bad (p k g D K C : Int) (hD : -9223372036854775808 ≤ D ∧ D ≤ 9223372036854775807) (hC : -9223372036854775808 ≤ C ∧ C ≤ 9223372036854775807) (z : List Int) (cd : Int) (hz : z.length ≤ 1048576) (h : lErr p k g D K C D z = cd) (hne : (cd != 0) = true) : E1 9 p k g D K C z (NewIK [] cd) := by
  intro A n c B w hI hnc hB
  have HX := hide (YBox.start w p k g D K C)
  obtain ⟨c0, c1, c2, c3, c4, c5⟩ := HX.out.cells
  have hn : n ≤ 1048576 := by rw [← hI.len]; exact hz
  have hzl := hI.len
  have HI := hide hI
  clear hI
  have HE := hide h
  clear h
  go_enter Tryz.func9, Tryz.ntmps9
  go_wp2_with fail
  refine (implListErr p k g D K C D hD hC A n c B z _ (HI.out.below (HX.out.2.mono hB)) (Nat.le_trans hB (Nat.le_of_lt HX.out.lt)) (by omega)).mono ?_
  rw [HE.out]
  rintro e w9 ⟨rfl, hb⟩
  have HX9 := hide (HX.out.next hb)
  clear hb c0 c1 c2 c3 c4 c5
  obtain ⟨c0, c1, c2, c3, c4, c5⟩ := HX9.out.cells
  go_wp2_with fail
  go_ret2
  exact newIK_nil HX9.out.2

set_option maxRecDepth 100000 in
set_option maxHeartbeats 2000000 in
theorem esI_val {R : Fld} {γ : El R} {p k g : Int} {D K C : Nat} (h : LayIs R γ p k g D K C) (ds : List (El R)) (hd : ds.length = D) (hz : (iv ds).length ≤ 1048576) (he : lErr p k g D K C D (iv ds) = 0) : E1 9 p k g D K C (iv ds) (NewIK (iv (strL D C K (encB γ D C K ds))) 0) := by
  intro A n c B w hI hnc hB
  have HX := hide (YBox.start w p k g D K C)
  obtain ⟨c0, c1, c2, c3, c4, c5⟩ := HX.out.cells
  have hn : n ≤ 1048576 := by rw [← hI.len]; exact hz
  have hzl := hI.len
  have HI := hide hI
  clear hI
  have HE := hide he
  have HH := hide h
  have hD : -9223372036854775808 ≤ (D : Int) ∧ (D : Int) ≤ 9223372036854775807 := by have := h.d1500; omega
  have hC : -9223372036854775808 ≤ (C : Int) ∧ (C : Int) ≤ 9223372036854775807 := by have := h.c16; omega
  have hnc' : n ≤ c := by rw [← hzl]; exact hnc
  clear h he hzl
  go_enter Tryz.func9, Tryz.ntmps9
  go_wp2_with fail
  refine (implListErr p k g D K C D hD hC A n c B (iv ds) _ (HI.out.below (HX.out.2.mono hB)) (Nat.le_trans hB (Nat.le_of_lt HX.out.lt)) (by omega)).mono ?_
  rw [HE.out]
  rintro e w9 ⟨rfl, hb⟩
  have HX9 := hide (HX.out.next hb)
  clear hb c0 c1 c2 c3 c4 c5
  obtain ⟨c0, c1, c2, c3, c4, c5⟩ := HX9.out.cells
  go_wp2_with fail
  refine (implEncodedS HH.out ds hd A n c B _ (HI.out.below (HX9.out.2.mono hB)) (Nat.le_trans hB (Nat.le_of_lt HX9.out.lt)) hnc').mono ?_
  rintro e w4 ⟨A1, m1, rfl, hm1, ho, hb⟩
  have HX4 := hide (HX9.out.next hb)
  have HO := hide (newIK_of (c := 0) ho HX4.out.2 (Nat.le_of_lt HX9.out.lt))
  clear ho hb c0 c1 c2 c3 c4 c5
  go_wp2_with fail
  go_ret2
  exact HO.out

theorem es_both (p k g D K C : Int) (z : List Int) (hz : z.length ≤ 1048576) (hD : -9223372036854775808 ≤ D ∧ D ≤ 9223372036854775807) (hC : -9223372036854775808 ≤ C ∧ C ≤ 9223372036854775807) :
    ∃ (r : List Int) (cd : Int), r.length ≤ 1099511627776 ∧ E1 8 p k g D K C z (NewIK r cd) ∧ E1 9 p k g D K C z (NewIK r cd) := by
  rcases h : layB p k g D K C with _ | _
  · exact ⟨[], 1, by simp, esS_bad1 p k g D K C z hz h, esI_bad p k g D K C hD hC z 1 hz (lErr_no h) rfl⟩
  · obtain ⟨R, γ, d, c, m, rfl, rfl, rfl, hI⟩ := layB_open h
    have hE := lErr_is (M := (d : Int)) (zs := z) h hI.fld.kind
    rcases hw : wordB R.q (d : Int) z with _ | _
    · rw [hw] at hE
      exact ⟨[], 2, by simp, esS_bad2 hI z hz hw, esI_bad p k g d c m hD hC z 2 hz hE rfl⟩
    · rw [hw] at hE
      obtain ⟨ds, rfl, hd⟩ := word_open hw
      refine ⟨_, 0, ?_, esS_val hI ds hd hz, esI_val hI ds hd hz hE⟩
      rw [iv_len]
      have h4 := hI.tot
      show (tab _ _).length ≤ _
      rw [tab_len]
      omega
end Go.Proofs.YtlphodhecaagbaaGreat

namespace Go.Proofs.YtlphodhecaagbaaGreat
open Go.RowKit
set_option linter.unusedSimpArgs false
set_option linter.unusedVariables false

theorem es_key (p k g D K C : Int) (z : List Int) (hz : z.length ≤ 1048576) (hD : -9223372036854775808 ≤ D ∧ D ≤ 9223372036854775807) (hC : -9223372036854775808 ≤ C ∧ C ≤ 9223372036854775807) :
    ∃ (r : List Int) (cd : Int), r.length ≤ 1048576 ∧ E1 8 p k g D K C z (NewIK r cd) ∧ E1 9 p k g D K C z (NewIK r cd) ∧
      (cd ≠ 0 ∨ (cd = 0 ∧ ∃ (R : Fld) (γ : El R) (d c m : Nat) (ds : List (El R)), D = d ∧ K = c ∧ C = m ∧ LayIs R γ p k g d c m ∧ z = iv ds ∧ ds.length = d ∧ r = iv (strL d m c (encB γ d m c ds)))) := by
  rcases h : layB p k g D K C with _ | _
  · exact ⟨[], 1, by simp, esS_bad1 p k g D K C z hz h, esI_bad p k g D K C hD hC z 1 hz (lErr_no h) rfl, .inl (by decide)⟩
  · obtain ⟨R, γ, d, c, m, rfl, rfl, rfl, hI⟩ := layB_open h
    have hE := lErr_is (M := (d : Int)) (zs := z) h hI.fld.kind
    rcases hw : wordB R.q (d : Int) z with _ | _
    · rw [hw] at hE
      exact ⟨[], 2, by simp, esS_bad2 hI z hz hw, esI_bad p k g d c m hD hC z 2 hz hE rfl, .inl (by decide)⟩
    · rw [hw] at hE
      obtain ⟨ds, rfl, hd⟩ := word_open hw
      refine ⟨_, 0, ?_, esS_val hI ds hd hz, esI_val hI ds hd hz hE, .inr ⟨rfl, R, γ, d, c, m, ds, rfl, rfl, rfl, hI, rfl, hd, rfl⟩⟩
      rw [iv_len]
      have h4 := hI.tot
      show (tab _ _).length ≤ _
      rw [tab_len]
      omega
section
variable {R : Fld} {γ : El R} {D C K : Nat}
theorem str_lenI (γ : El R) (ds : List (El R)) : (iv (strL D C K (encB γ D C K ds))).length = D + C * K := by rw [iv_len]; exact tab_len _ _
/-- The words of the stream of some data. -/
theorem wrdZ_str {ds : List (El R)} {k : Nat} (hk : k < C) (hd : ds.length = D) : wrdZ D C K (iv (strL D C K (encB γ D C K ds))) k = iv (encB γ D C K ds k) := by
  have hl := encB_len (γ := γ) (K := K) hk hd
  apply List.ext_getElem?
  intro e
  by_cases he : e < lsz D C k + K
  · rw [iv_at (by rw [hl]; exact he)]
    unfold wrdZ
    rw [List.getElem?_map, List.getElem?_range he]
    have hs := (sidx_lt (D := D) (K := K) hk).2 he
    rw [Option.map_some, List.getD_eq_getElem?_getD, iv_at (by show sidx D C k e < (tab _ _).length; rw [tab_len]; exact hs), cf_str hk he]
    rfl
  · rw [List.getElem?_eq_none (by rw [wrdZ_len]; omega), List.getElem?_eq_none (by rw [iv_len, hl]; omega)]
/-- The data that the first blocks have. -/
theorem back_snoc {ds : List (El R)} {k : Nat} (hk : k < C) (hd : ds.length = D) : iv (ds.take (offB D C k)) ++ (iv (encB γ D C K ds k)).take (lsz D C k) = iv (ds.take (offB D C (k + 1))) := by
  have h1 : (encB γ D C K ds k).take (lsz D C k) = datL D C ds k := by
    have := enc_take γ K (datL D C ds k)
    rw [dat_len hk hd] at this
    exact this
  rw [iv_take, h1, ← iv_app, offB_succ, datL, List.take_add]
theorem back_all {ds : List (El R)} (hC : 0 < C) (hD : C ≤ D) (hd : ds.length = D) : iv (ds.take (offB D C C)) = iv ds := by
  have h1 : offB D C C = D := by
    unfold offB
    have h2 := dm D C
    have h3 := Nat.mod_lt D hC
    have h4 := Nat.mul_comm C (D / C)
    omega
  rw [h1, List.take_of_length_le (by omega)]
/-- Where an element of a word lies in the stream. -/
theorem str_at {ds : List (El R)} {k e : Nat} (hk : k < C) (he : e < lsz D C k + K) : (iv (strL D C K (encB γ D C K ds)))[sidx D C k e]? = some ((cf (encB γ D C K ds k) e).val : Int) := by
  have hs := (sidx_lt (D := D) (K := K) hk).2 he
  rw [iv_at (by show sidx D C k e < (tab _ _).length; rw [tab_len]; exact hs), cf_str hk he]
end
end Go.Proofs.YtlphodhecaagbaaGreat
