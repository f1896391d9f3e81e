/-
  The stream of some data, as the model encodes it.
  Condition: the layout is valid.
-/
import Derived.Test.YtkdpkbnhckpnoaaLayE
import Derived.Test.YtkdpkbnhckpnoaaLayA
import Derived.Test.YtkdpkbnhckpnoaaCode8
namespace Go.Proofs.Ytkdpkbnhckpnoaa
open Go.RowKit
set_option linter.unusedSimpArgs false
set_option linter.unusedVariables false

section
variable {R : Fld} {γ : El R} {p k g : Int} {D K C : Nat}
/-- The first loop: the words. -/
def B1Rel (w : World) (p k g : Int) (D K C : Nat) (γ : El R) (ds : List (El R)) (v f i : Value) (wr : World) : Prop :=
  ∃ (b : Nat) (vs : List Value), b ≤ C ∧ i = .int .i64 b ∧ f = .int .i64 (offB D C b : Nat) ∧ Mat wr (w.heap.size + 1) v b vs (fun i => iv (encB γ D C K ds i)) ∧ YBox w wr p k g D K C
/-- The first elements of the stream. -/
def strP (γ : El R) (D C K : Nat) (ds : List (El R)) (j : Nat) : List (El R) := tab j fun i => strE γ D C K ds i
theorem strP_snoc (γ : El R) (D C K : Nat) (ds : List (El R)) (j : Nat) : iv (strP γ D C K ds j) ++ [((strE γ D C K ds j).val : Int)] = iv (strP γ D C K ds (j + 1)) := by
  unfold strP; rw [tab_snoc, iv_app]; rfl
theorem strP_len (γ : El R) (D C K : Nat) (ds : List (El R)) (j : Nat) : (strP γ D C K ds j).length = j := tab_len _ _
theorem strP_all (γ : El R) (D C K : Nat) (ds : List (El R)) : strP γ D C K ds (D + C * K) = strL D C K (encB γ D C K ds) := rfl
/-- A slice of slices that shares no block with a list that began in block B1 and grew from B2 on. -/
def FarB (B1 B2 : Nat) (v : Value) (vs : List Value) : Prop := v.ownBlock ≠ some B1 ∧ (∀ (k : Nat) (u : Value), vs[k]? = some u → u.ownBlock ≠ some B1 ∧ ∀ g, u.ownBlock = some g → g < B2) ∧ ∀ g, v.ownBlock = some g → g < B2
theorem FarB.ne {B1 B2 : Nat} {v : Value} {vs : List Value} (h : FarB B1 B2 v vs) {row : Option Nat} (hr : ∀ g, row = some g → g = B1 ∨ B2 ≤ g) : v.ownBlock = none ∨ v.ownBlock ≠ row := by
  rcases hv : v.ownBlock with _ | g
  · exact .inl rfl
  · refine .inr fun e => ?_
    rcases hr g e.symm with h1 | h1
    · subst h1; exact h.1 hv
    · have := h.2.2 g hv; omega
theorem FarB.row {B1 B2 : Nat} {v : Value} {vs : List Value} (h : FarB B1 B2 v vs) {row : Option Nat} (hr : ∀ g, row = some g → g = B1 ∨ B2 ≤ g) (k : Nat) (u : Value) (hu : vs[k]? = some u) : u.ownBlock = none ∨ u.ownBlock ≠ row := by
  obtain ⟨h1, h2⟩ := h.2.1 k u hu
  rcases hv : u.ownBlock with _ | g
  · exact .inl rfl
  · refine .inr fun e => ?_
    rcases hr g e.symm with h3 | h3
    · subst h3; exact h1 hv
    · have := h2 g hv; omega
def B2Rel (w : World) (D K C N B1 B2 : Nat) (γ : El R) (ds : List (El R)) (v vo : Value) (vs os : List Value) (out i : Value) (wr : World) : Prop :=
  ∃ (j : Nat), j ≤ N ∧ i = .int .i64 j ∧ Mat wr (w.heap.size + 1) v C vs (fun i => iv (encB γ D C K ds i)) ∧ Mat wr (w.heap.size + 1) vo N os (ordZ D C) ∧ Own wr B1 2 .i64 out (iv (strP γ D C K ds j)) ∧ (∀ g, out.ownBlock = some g → g = B1 ∨ B2 ≤ g) ∧ B2 ≤ wr.heap.size ∧ Below w.heap.size w wr

set_option maxRecDepth 100000 in
set_option maxHeartbeats 4000000 in
theorem specEncodeS (h : LayIs R γ p k g D K C) (ds : List (El R)) (hd : ds.length = D) (A : Option Addr) (n c B : Nat) (w : World) (hI : Ints .i64 w B A n (iv ds)) (hB : B ≤ w.heap.size) (hnc : n ≤ c) :
    Calls Try.prog 46 #[.agg #[.int .i64 p, .int .i64 k, .int .i64 g, .int .i64 D, .int .i64 K, .int .i64 C], .slice A n c] w (NewE (strL D C K (encB γ D C K ds)) w) := by
  have h1 := h.c1; have h2 := h.c16; have h3 := h.cd; have h4 := h.tot; have h5 := h.k1; have h6 := h.d1500
  have hnD : n = D := by rw [← hd, ← iv_len]; exact hI.len.symm
  have HX := hide (YBox.start w p k g D K C)
  obtain ⟨c0, c1, c2, c3, c4, c5⟩ := HX.out.cells
  have HI := hide hI
  have HH := hide h
  have HD := hide hd
  have HND := hide hnD
  clear h hI hd hnD
  go_enter Try.func46, Try.ntmps46
  go_wp2_with fail
  have HX1 := hide (HX.out.alloc (.cells #[] 28))
  have HO1 := hide (show Mat ((w.alloc (.cells #[.int .i64 p, .int .i64 k, .int .i64 g, .int .i64 D, .int .i64 K, .int .i64 C] 27)).alloc (.cells #[] 28)) (w.heap.size + 1) (.slice (some ⟨w.heap.size + 1, 0, none⟩) 0 0) 0 [] (fun i => iv (encB γ D C K ds i)) from by
    have h := World.ownsRow_lit (base := w.heap.size + 1) (size := 1) (e := 28) (w.alloc (.cells #[.int .i64 p, .int .i64 k, .int .i64 g, .int .i64 D, .int .i64 K, .int .i64 C] 27)) #[] 0 (by rw [alloc_size]; omega) (by decide) rfl
    rw [alloc_size] at h
    exact ⟨h, Rowz.nil _ _ _, fun k u hu => by simp at hu⟩)
  clear HX c0 c1 c2 c3 c4 c5
  go_loopw [5, 6, 7] (fun v f i wr => B1Rel w p k g D K C γ ds v f i wr) (fun _ _ i _ => C - (intOf i).toNat)
  case atStart => exact ⟨0, [], Nat.zero_le _, rfl, by rw [offB_zero]; rfl, HO1.out, HX1.out⟩
  case round =>
    clear HX1 HO1
    obtain ⟨b, vs, hb, rfl, rfl, HM, HX⟩ := hrel
    have HM := hide HM
    have HX := hide HX
    obtain ⟨v, hv⟩ : ∃ v, v = u5 := ⟨_, rfl⟩
    subst hv
    obtain ⟨c0, c1, c2, c3, c4, c5⟩ := HX.out.cells
    by_cases hlt : b < C
    · have hcode := HH.out.code b hlt
      have hoff := offB_succ D C b
      have hofl := offB_le (D := D) (k := b + 1) h1 hlt
      have hlen := encB_len (γ := γ) (K := K) hlt HD.out
      have hdl := dat_len (D := D) hlt HD.out
      have hcl := hcode.cl
      have hc255 := hcode.l255
      have HED := hide (show encB γ D C K ds b = encW γ K (datL D C ds b) from rfl)
      have HDA := hide (show datL D C ds b = (ds.drop (offB D C b)).take (lsz D C b) from rfl)
      have HSU := hide (show offB D C (b + 1) = offB D C b + lsz D C b from hoff)
      have HSZ := hide (fun w' => specSizeZ p k g K D C b (b : Int) rfl h1 (by omega) (by omega) hlt w')
      have HBK := hide (fun w' => specBlock p k g K D C b (b : Int) rfl h1 (by omega) (by omega) hlt w')
      rw [show IntKind.i64.wrap (((lsz D C b : Nat) : Int) + (K : Int)) = ((lsz D C b + K : Nat) : Int) by rw [IntWalk.i64_in _ ⟨by omega, by omega⟩, Int.natCast_add]] at HBK
      obtain ⟨s, hs⟩ : ∃ s, lsz D C b = s := ⟨_, rfl⟩
      rw [hs] at hlen hdl hcl hc255 HDA HSU hoff hcode HSZ HBK
      have hs15 : s ≤ 1500 := by omega
      obtain ⟨L, hL⟩ : ∃ L, s + K = L := ⟨_, rfl⟩
      rw [hL] at hlen hcl hc255 hcode HBK
      have HCODE := hide hcode
      have HL := hide hL
      obtain ⟨lo, hlo⟩ : ∃ lo, offB D C b = lo := ⟨_, rfl⟩
      obtain ⟨hi, hhi⟩ : ∃ hi, lo + s = hi := ⟨_, rfl⟩
      rw [hlo] at HDA HSU hoff
      rw [hhi] at HSU hoff
      have hhD : hi ≤ D := by omega
      have hcut : ∀ w', (Instr.sliceAt 28 (.slice A n c) (some (.int .i64 (lo : Int))) (some (.int .i64 (hi : Int))) none).run Try.prog w' = .ok (.slice (subA A c lo) s (c - lo)) w' := fun w' => by
        have := run_cut_lh A n c lo hi (by omega) (by have := HND.out; omega) w'
        rw [show hi - lo = s by omega] at this
        exact this
      have hw1 : IntKind.i64.wrap ((lo : Int) + (s : Int)) = (hi : Int) := by rw [IntWalk.i64_in _ ⟨by omega, by omega⟩]; omega
      have HSB := hide (HI.out.sub hnc (lo := lo) (m := s) (by have := HND.out; omega))
      rw [iv_drop, iv_take, ← HDA.out] at HSB
      rw [hlo]
      have HHI := hide hhi
      clear hoff hofl hcode hs hL hhi
      go_wp2_with fail
      refine (HSZ.out _).mono ?_
      rintro e w2 ⟨rfl, hb2⟩
      have HX2 := hide (HX.out.next hb2)
      have HM2 := hide (HM.out.next hb2)
      clear hb2 c0 c1 c2 c3 c4 c5 HX HM
      obtain ⟨c0, c1, c2, c3, c4, c5⟩ := HX2.out.cells
      go_wp2_with fail
      refine tail_begin (fun w' => Cells6 w' w.heap.size p k g D K C) 12 (by kernel_rfl) ⟨c0, c1, c2, c3, c4, c5⟩ (fun hS' => ?_)
      clear c0 c1 c2 c3 c4 c5
      refine tail_take2 0 rfl (by kernel_rfl) (by kernel_rfl) (by kernel_rfl) (by decide) (fun _ _ _ h => h) (by rfl) (v := ?_) ?_ (by assumption) ?_
      rotate_left 1
      · intro w' hS'; obtain ⟨c0, c1, c2, c3, c4, c5⟩ := hS'; go_simp; try with_reducible rfl
      try simp only [Act.put, List.setIfInBounds_toArray, List.set_cons_zero, List.set_cons_succ]
      refine tail_take2 1 rfl (by kernel_rfl) (by kernel_rfl) (by kernel_rfl) (by decide) (fun _ _ _ h => h) (by rfl) (v := ?_) ?_ (by assumption) ?_
      rotate_left 1
      · intro w' hS'; obtain ⟨c0, c1, c2, c3, c4, c5⟩ := hS'; go_simp; try with_reducible rfl
      try simp only [Act.put, List.setIfInBounds_toArray, List.set_cons_zero, List.set_cons_succ]
      refine tail_take2 2 rfl (by kernel_rfl) (by kernel_rfl) (by kernel_rfl) (by decide) (fun _ _ _ h => h) (by rfl) (v := ?_) ?_ (by assumption) ?_
      rotate_left 1
      · intro w' hS'; obtain ⟨c0, c1, c2, c3, c4, c5⟩ := hS'; go_simp; try with_reducible rfl
      try simp only [Act.put, List.setIfInBounds_toArray, List.set_cons_zero, List.set_cons_succ]
      refine tail_take2 4 rfl (by kernel_rfl) (by kernel_rfl) (by kernel_rfl) (by decide) (fun _ _ _ h => h) (by rfl) (v := ?_) ?_ (by assumption) ?_
      rotate_left 1
      · intro w' hS'; obtain ⟨c0, c1, c2, c3, c4, c5⟩ := hS'; go_simp; try with_reducible rfl
      try simp only [Act.put, List.setIfInBounds_toArray, List.set_cons_zero, List.set_cons_succ]
      refine tail_take2 5 rfl (by kernel_rfl) (by kernel_rfl) (by kernel_rfl) (by decide) (fun _ _ _ h => h) (by rfl) (v := ?_) ?_ (by assumption) ?_
      rotate_left 1
      · intro w' hS'; obtain ⟨c0, c1, c2, c3, c4, c5⟩ := hS'; go_simp; try with_reducible rfl
      try simp only [Act.put, List.setIfInBounds_toArray, List.set_cons_zero, List.set_cons_succ]
      refine tail_take2 6 rfl (by kernel_rfl) (by kernel_rfl) (by kernel_rfl) (by decide) (fun _ _ _ h => h) (by rfl) (v := ?_) ?_ (by assumption) ?_
      rotate_left 1
      · intro w' hS'; obtain ⟨c0, c1, c2, c3, c4, c5⟩ := hS'; go_simp; try with_reducible rfl
      try simp only [Act.put, List.setIfInBounds_toArray, List.set_cons_zero, List.set_cons_succ]
      refine tail_take2 7 rfl (by kernel_rfl) (by kernel_rfl) (by kernel_rfl) (by decide) (fun _ _ _ h => h) (by rfl) (v := ?_) ?_ (by assumption) ?_
      rotate_left 1
      · intro w' hS'; obtain ⟨c0, c1, c2, c3, c4, c5⟩ := hS'; go_simp; try with_reducible rfl
      try simp only [Act.put, List.setIfInBounds_toArray, List.set_cons_zero, List.set_cons_succ]
      refine tail_call 3 rfl (by kernel_rfl) rfl (fun K hK => ?_)
      go_simp
      go_at_call 50; refine (HBK.out _).mono ?_; rintro e w3 ⟨rfl, hb3⟩; have HX3 := hide (HX2.out.drew.next hb3); have HM3 := hide (HM2.out.drew.next hb3); clear hb3
      refine hK.out _ _ (by (try dsimp only); exact HX3.out.cells) (fun hS' => ?_)
      clear hK K
      try simp only [Act.put, List.setIfInBounds_toArray, List.set_cons_zero, List.set_cons_succ]
      refine tail_call 8 rfl (by kernel_rfl) rfl (fun K hK => ?_)
      go_simp
      go_at_call 79; refine (specEncode HCODE.out (datL D C ds b) (subA A c lo) s (c - lo) B _ (HSB.out.below (HX3.out.2.mono hB)) (Nat.le_trans hB (Nat.le_of_lt HX3.out.lt)) HL.out).mono ?_; rw [← HED.out]; rintro e w4 ⟨A4, c4', rfl, hc4, ho4, hb4⟩; have HX4 := hide (HX3.out.next hb4); have HM4 := hide (HM3.out.next hb4); rw [hlen] at ho4; have HO4 := hide ho4; clear ho4 hb4
      refine hK.out _ _ (by (try dsimp only); exact HX4.out.cells) (fun hS' => ?_)
      clear hK K
      try simp only [Act.put, List.setIfInBounds_toArray, List.set_cons_zero, List.set_cons_succ]
      refine tail_call 9 rfl (by kernel_rfl) rfl (fun K hK => ?_)
      go_simp
      refine hK.out _ _ (by (try dsimp only); exact (HX4.out.alloc _).cells) (fun hS' => ?_)
      clear hK K
      try simp only [Act.put, List.setIfInBounds_toArray, List.set_cons_zero, List.set_cons_succ]
      have hwz : w.heap.size + 1 ≤ w3.heap.size := HX3.out.lt
      refine tail_call 10 rfl (by kernel_rfl) rfl (fun K' hK => ?_)
      refine wp_appRow w4 (.tmp 24) (.tmp 33) ?ho ?hs HM4.out (.slice A4 L c4') (iv (encB γ D C K ds b)) (World.ownsRow.mono HO4.out hwz) (fun b' hb' => ?hl) ?hx (by omega) HX4.out.lt ?hk
      case ho => rfl
      case hs => rfl
      case hx => rfl
      case hl =>
        have hb'' := (HO4.out.lt hb').1
        exact ⟨fun j t ht e => by have := (HM3.out.rows.lt ht e).2; omega, fun e => by have := (World.ownsRow.lt HM3.out.row b' e).2; omega⟩
      intro v5 w5 hm5 hg5
      have HX5 := hide (HX4.out.grow hg5 (fun b' hb' => by have := (World.ownsRow.lt HM4.out.row b' hb').1; omega))
      have HM5 := hide (hm5.congr (Y := fun i => iv (encB γ D C K ds i)) fun j hj => by
        by_cases hjb : j = b
        · subst hjb; rw [if_pos rfl]
        · rw [if_neg hjb])
      clear hm5 hg5
      refine hK.out _ _ HX5.out.cells (fun hS' => ?_)
      clear hK K'
      try simp only [Act.put, List.setIfInBounds_toArray, List.set_cons_zero, List.set_cons_succ]
      refine tail_take2 11 rfl (by kernel_rfl) (by kernel_rfl) (by kernel_rfl) (by decide) (fun _ _ _ h => h) (by rfl) (v := ?_) ?_ (by assumption) ?_
      rotate_left 1
      · intro w' hS'; obtain ⟨c0, c1, c2, c3, c4, c5⟩ := hS'; go_simp; try with_reducible rfl
      try simp only [Act.put, List.setIfInBounds_toArray, List.set_cons_zero, List.set_cons_succ]
      refine tail_end (by kernel_rfl) ?_
      go_wp2_with fail
      go_roundw
      case rel => exact ⟨b + 1, _, by omega, by go_num, by rw [HSU.out], HM5.out, HX5.out⟩
      case measure => simp [intOf]; omega
    · obtain rfl : b = C := by omega
      have HX9 := hide (HX.out.alloc (.cells #[] 2))
      have HMB := HM
      have HM9 := hide (HM.out.alloc (.cells #[] 2))
      have HO9 := hide (show Own (wr.alloc (.cells #[] 2)) wr.heap.size 2 .i64 (.slice (some ⟨wr.heap.size, 0, none⟩) 0 0) (iv (strP γ D b K ds 0)) from Own.lit0 wr _ _)
      obtain ⟨c0, c1, c2, c3, c4, c5⟩ := HX9.out.cells
      have hwr := HX.out.lt
      obtain ⟨w9, hw9⟩ : ∃ w9, w9 = wr.alloc (.cells #[] 2) := ⟨_, rfl⟩
      have hs9 : w9.heap.size = wr.heap.size + 1 := by rw [hw9, alloc_size]
      rw [← hw9] at HX9 HM9 HO9 c0 c1 c2 c3 c4 c5
      go_wp2_with fail
      rw [← hw9]
      go_wp2_with fail
      clear hw9 HX HM
      refine (specOrder p k g D K b h1 h2 h3 (by omega) h4 w9).mono ?_
      rintro e w2 ⟨vo, os, rfl, hmo, hb2⟩
      have HM2 := hide (HM9.out.next hb2)
      have HO2 := hide (HO9.out.below hb2 (Nat.le_refl _))
      have HMO := hide (hmo.low (base' := w.heap.size + 1) (by omega))
      have HBL := hide (HX9.out.2.trans (hb2.mono HX9.out.2.size))
      have HNV := hide (show FarB wr.heap.size w2.heap.size v vs from by
        refine ⟨fun e => ?_, fun k' u' hu' => ⟨fun e => ?_, fun g' e => ?_⟩, fun g' e => ?_⟩
        · have := (World.ownsRow.lt HMB.out.row _ e).2; omega
        · have := (HMB.out.rows.lt hu' e).2; omega
        · have := (HMB.out.rows.lt hu' e).2; have := hb2.size; omega
        · have := (World.ownsRow.lt HMB.out.row g' e).2; have := hb2.size; omega)
      have HNO := hide (show FarB wr.heap.size w2.heap.size vo os from by
        refine ⟨fun e => ?_, fun k' u' hu' => ⟨fun e => ?_, fun g' e => ?_⟩, fun g' e => ?_⟩
        · have := (World.ownsRow.lt hmo.row _ e).1; omega
        · have := (hmo.rows.lt hu' e).1; omega
        · have := (hmo.rows.lt hu' e).2; omega
        · have := (World.ownsRow.lt hmo.row g' e).2; omega)
      obtain ⟨N, hN⟩ : ∃ N, D + b * K = N := ⟨_, rfl⟩
      have HNN := hide hN
      rw [hN] at HMO h4
      have hN0 : 0 < N := by omega
      obtain ⟨gv, cv, rfl, hgv1, hgv2, hgv3⟩ := HM2.out.form h1
      obtain ⟨go, co, rfl, hgo1, hgo2, hgo3⟩ := HMO.out.form hN0
      have hb2s := hb2.size
      clear hmo hb2 hN c0 c1 c2 c3 c4 c5
      have hEL : ∀ j, j < b → (encB γ D b K ds j).length = lsz D b j + K := fun j hj => encB_len (γ := γ) (K := K) hj HD.out
      have HEL := hide hEL
      clear hEL
      obtain ⟨B1, hB1⟩ : ∃ B1, wr.heap.size = B1 := ⟨_, rfl⟩
      rw [hB1] at HNV HNO HO2
      go_wp2_with fail
      go_loopw [9, 11] (fun out i wr => B2Rel w D K b N B1 w2.heap.size γ ds (.slice (some ⟨gv, 0, none⟩) b cv) (.slice (some ⟨go, 0, none⟩) N co) vs os out i wr) (fun _ i _ => N - (intOf i).toNat)
      case atStart => exact ⟨0, Nat.zero_le _, rfl, HM2.out, HMO.out, HO2.out, (fun g hg => .inl (by simp only [Value.ownBlock, Option.some.injEq] at hg; omega)), Nat.le_refl _, HBL.out⟩
      case round =>
        clear HM2 HMO HO2 HBL HX9 HM9 HO9 HMB
        obtain ⟨j, hj, rfl, HM, HMO, HO, HOG, hwb, HBL⟩ := hrel
        have HM := hide HM
        have HMO := hide HMO
        have HO := hide HO
        have HOG := hide HOG
        have HBL := hide HBL
        by_cases hlt : j < N
        · have hjN : j < D + b * K := by rw [HNN.out]; exact hlt
          have hpk := pair_lt (D := D) h1 j
          have hpe := pair_elem (D := D) (K := K) h1 hjN
          have hSE : strE γ D b K ds j = cf (encB γ D b K ds (pairOf D b j).1) (pairOf D b j).2 := rfl
          obtain ⟨Ao, mo, hos, hoc, hoo, hom⟩ := HMO.out.at_ hlt
          obtain ⟨ro, mo', hA, hro1, hro2, _⟩ := hoo.some_ (show 0 < 2 by decide)
          simp only [Value.slice.injEq] at hA
          obtain ⟨rfl, _, rfl⟩ := hA
          have hmo2 : 2 ≤ mo := hom
          have d0 : wr.cell? ⟨go, j, none⟩ = some (.slice (some ⟨ro, 0, none⟩) 2 mo) := hoc
          have d1 : wr.cell? ⟨ro, 0, none⟩ = some (.int .i64 ((pairOf D b j).1 : Nat)) := hoo.cellAt (j := 0) rfl
          have d2 : wr.cell? ⟨ro, 1, none⟩ = some (.int .i64 ((pairOf D b j).2 : Nat)) := hoo.cellAt (j := 1) rfl
          obtain ⟨Ar, mr, hvs, hrc, hro, hmr⟩ := HM.out.at_ hpk
          obtain ⟨px, hpx⟩ : ∃ q, (pairOf D b j).1 = q := ⟨_, rfl⟩
          obtain ⟨py, hpy⟩ : ∃ q, (pairOf D b j).2 = q := ⟨_, rfl⟩
          rw [hpx] at hpk hpe d1 hvs hrc hro hSE hmr
          rw [hpy] at hpe d2 hSE
          have hel := HEL.out px hpk
          rw [iv_len, hel] at hvs hrc hro hmr
          obtain ⟨lr, hlr⟩ : ∃ lr, lsz D b px + K = lr := ⟨_, rfl⟩
          rw [hlr] at hvs hrc hro hmr hpe hel
          obtain ⟨rb, cr, hAr, hrb1, hrb2, _⟩ := hro.some_ (by rw [iv_len, hel]; omega)
          rw [iv_len, hel] at hAr
          simp only [Value.slice.injEq] at hAr
          obtain ⟨rfl, hAl, rfl⟩ := hAr
          have hq := hro.cellAt (iv_at (ps := encB γ D b K ds px) (i := py) (by rw [hel]; exact hpe))
          rw [← hSE] at hq
          have HS2 := hide (strP_snoc γ D b K ds j)
          obtain ⟨z, hz⟩ : ∃ z, strE γ D b K ds j = z := ⟨_, rfl⟩
          rw [hz] at hq HS2
          have n0 : u9.ownBlock ≠ some go := fun e => by
            rcases HNO.out.ne HOG.out with h | h
            · cases h
            · exact h (e.symm ▸ rfl)
          have n1 : u9.ownBlock ≠ some ro := fun e => by
            rcases HNO.out.row HOG.out j _ hos with h | h
            · cases h
            · exact h (e.symm ▸ rfl)
          have n2 : u9.ownBlock ≠ some gv := fun e => by
            rcases HNV.out.ne HOG.out with h | h
            · cases h
            · exact h (e.symm ▸ rfl)
          have n3 : u9.ownBlock ≠ some rb := fun e => by
            rcases HNV.out.row HOG.out px _ hvs with h | h
            · cases h
            · exact h (e.symm ▸ rfl)
          have l0 : go < wr.heap.size := by omega
          have l2 : gv < wr.heap.size := by omega
          have hol : (iv (strP γ D b K ds j)).length = j := by rw [iv_len, strP_len]
          clear hpx hpy hz hvs hro hel hSE hlr hoc hoo hos
          go_wp2_with fail
          refine tail_begin (fun w' => w'.cell? ⟨go, j, none⟩ = some (.slice (some ⟨ro, 0, none⟩) 2 mo) ∧ w'.cell? ⟨ro, 0, none⟩ = some (.int .i64 px) ∧ w'.cell? ⟨ro, 1, none⟩ = some (.int .i64 py) ∧ w'.cell? ⟨gv, px, none⟩ = some (.slice (some ⟨rb, 0, none⟩) lr mr) ∧ w'.cell? ⟨rb, py, none⟩ = some (.int .i64 z.val)) 21 (by kernel_rfl) ⟨d0, d1, d2, hrc, hq⟩ (fun hS' => ?_)
          clear d0 d1 d2 hrc hq
          refine tail_take2 0 rfl (by kernel_rfl) (by kernel_rfl) (by kernel_rfl) (by decide) (fun _ _ _ h => h) (by rfl) (v := ?_) ?_ (by assumption) ?_
          rotate_left 1
          · intro w' hS'; obtain ⟨q0, q1, q2, q3, q4⟩ := hS'; go_simp; try with_reducible rfl
          try simp only [Act.put, List.setIfInBounds_toArray, List.set_cons_zero, List.set_cons_succ]
          refine tail_take2 1 rfl (by kernel_rfl) (by kernel_rfl) (by kernel_rfl) (by decide) (fun _ _ _ h => h) (by rfl) (v := ?_) ?_ (by assumption) ?_
          rotate_left 1
          · intro w' hS'; obtain ⟨q0, q1, q2, q3, q4⟩ := hS'; go_simp; try with_reducible rfl
          try simp only [Act.put, List.setIfInBounds_toArray, List.set_cons_zero, List.set_cons_succ]
          refine tail_take2 2 rfl (by kernel_rfl) (by kernel_rfl) (by kernel_rfl) (by decide) (fun _ _ _ h => h) (by rfl) (v := ?_) ?_ (by assumption) ?_
          rotate_left 1
          · intro w' hS'; obtain ⟨q0, q1, q2, q3, q4⟩ := hS'; go_simp; try with_reducible rfl
          try simp only [Act.put, List.setIfInBounds_toArray, List.set_cons_zero, List.set_cons_succ]
          refine tail_take2 3 rfl (by kernel_rfl) (by kernel_rfl) (by kernel_rfl) (by decide) (fun _ _ _ h => h) (by rfl) (v := ?_) ?_ (by assumption) ?_
          rotate_left 1
          · intro w' hS'; obtain ⟨q0, q1, q2, q3, q4⟩ := hS'; go_simp; try with_reducible rfl
          try simp only [Act.put, List.setIfInBounds_toArray, List.set_cons_zero, List.set_cons_succ]
          refine tail_take2 4 rfl (by kernel_rfl) (by kernel_rfl) (by kernel_rfl) (by decide) (fun _ _ _ h => h) (by rfl) (v := ?_) ?_ (by assumption) ?_
          rotate_left 1
          · intro w' hS'; obtain ⟨q0, q1, q2, q3, q4⟩ := hS'; go_simp; try with_reducible rfl
          try simp only [Act.put, List.setIfInBounds_toArray, List.set_cons_zero, List.set_cons_succ]
          refine tail_take2 5 rfl (by kernel_rfl) (by kernel_rfl) (by kernel_rfl) (by decide) (fun _ _ _ h => h) (by rfl) (v := ?_) ?_ (by assumption) ?_
          rotate_left 1
          · intro w' hS'; obtain ⟨q0, q1, q2, q3, q4⟩ := hS'; go_simp; try with_reducible rfl
          try simp only [Act.put, List.setIfInBounds_toArray, List.set_cons_zero, List.set_cons_succ]
          refine tail_take2 6 rfl (by kernel_rfl) (by kernel_rfl) (by kernel_rfl) (by decide) (fun _ _ _ h => h) (by rfl) (v := ?_) ?_ (by assumption) ?_
          rotate_left 1
          · intro w' hS'; obtain ⟨q0, q1, q2, q3, q4⟩ := hS'; go_simp; try with_reducible rfl
          try simp only [Act.put, List.setIfInBounds_toArray, List.set_cons_zero, List.set_cons_succ]
          refine tail_take2 7 rfl (by kernel_rfl) (by kernel_rfl) (by kernel_rfl) (by decide) (fun _ _ _ h => h) (by rfl) (v := ?_) ?_ (by assumption) ?_
          rotate_left 1
          · intro w' hS'; obtain ⟨q0, q1, q2, q3, q4⟩ := hS'; go_simp; try with_reducible rfl
          try simp only [Act.put, List.setIfInBounds_toArray, List.set_cons_zero, List.set_cons_succ]
          refine tail_take2 8 rfl (by kernel_rfl) (by kernel_rfl) (by kernel_rfl) (by decide) (fun _ _ _ h => h) (by rfl) (v := ?_) ?_ (by assumption) ?_
          rotate_left 1
          · intro w' hS'; obtain ⟨q0, q1, q2, q3, q4⟩ := hS'; go_simp; try with_reducible rfl
          try simp only [Act.put, List.setIfInBounds_toArray, List.set_cons_zero, List.set_cons_succ]
          refine tail_take2 9 rfl (by kernel_rfl) (by kernel_rfl) (by kernel_rfl) (by decide) (fun _ _ _ h => h) (by rfl) (v := ?_) ?_ (by assumption) ?_
          rotate_left 1
          · intro w' hS'; obtain ⟨q0, q1, q2, q3, q4⟩ := hS'; go_simp; try with_reducible rfl
          try simp only [Act.put, List.setIfInBounds_toArray, List.set_cons_zero, List.set_cons_succ]
          refine tail_take2 10 rfl (by kernel_rfl) (by kernel_rfl) (by kernel_rfl) (by decide) (fun _ _ _ h => h) (by rfl) (v := ?_) ?_ (by assumption) ?_
          rotate_left 1
          · intro w' hS'; obtain ⟨q0, q1, q2, q3, q4⟩ := hS'; go_simp; try with_reducible rfl
          try simp only [Act.put, List.setIfInBounds_toArray, List.set_cons_zero, List.set_cons_succ]
          refine tail_take2 11 rfl (by kernel_rfl) (by kernel_rfl) (by kernel_rfl) (by decide) (fun _ _ _ h => h) (by rfl) (v := ?_) ?_ (by assumption) ?_
          rotate_left 1
          · intro w' hS'; obtain ⟨q0, q1, q2, q3, q4⟩ := hS'; go_simp; try with_reducible rfl
          try simp only [Act.put, List.setIfInBounds_toArray, List.set_cons_zero, List.set_cons_succ]
          refine tail_take2 12 rfl (by kernel_rfl) (by kernel_rfl) (by kernel_rfl) (by decide) (fun _ _ _ h => h) (by rfl) (v := ?_) ?_ (by assumption) ?_
          rotate_left 1
          · intro w' hS'; obtain ⟨q0, q1, q2, q3, q4⟩ := hS'; go_simp; try with_reducible rfl
          try simp only [Act.put, List.setIfInBounds_toArray, List.set_cons_zero, List.set_cons_succ]
          refine tail_take2 13 rfl (by kernel_rfl) (by kernel_rfl) (by kernel_rfl) (by decide) (fun _ _ _ h => h) (by rfl) (v := ?_) ?_ (by assumption) ?_
          rotate_left 1
          · intro w' hS'; obtain ⟨q0, q1, q2, q3, q4⟩ := hS'; go_simp; try with_reducible rfl
          try simp only [Act.put, List.setIfInBounds_toArray, List.set_cons_zero, List.set_cons_succ]
          refine tail_take2 14 rfl (by kernel_rfl) (by kernel_rfl) (by kernel_rfl) (by decide) (fun _ _ _ h => h) (by rfl) (v := ?_) ?_ (by assumption) ?_
          rotate_left 1
          · intro w' hS'; obtain ⟨q0, q1, q2, q3, q4⟩ := hS'; go_simp; try with_reducible rfl
          try simp only [Act.put, List.setIfInBounds_toArray, List.set_cons_zero, List.set_cons_succ]
          refine tail_take2 15 rfl (by kernel_rfl) (by kernel_rfl) (by kernel_rfl) (by decide) (fun _ _ _ h => h) (by rfl) (v := ?_) ?_ (by assumption) ?_
          rotate_left 1
          · intro w' hS'; obtain ⟨q0, q1, q2, q3, q4⟩ := hS'; go_simp; try with_reducible rfl
          try simp only [Act.put, List.setIfInBounds_toArray, List.set_cons_zero, List.set_cons_succ]
          refine tail_take2 16 rfl (by kernel_rfl) (by kernel_rfl) (by kernel_rfl) (by decide) (fun _ _ _ h => h) (by rfl) (v := ?_) ?_ (by assumption) ?_
          rotate_left 1
          · intro w' hS'; obtain ⟨q0, q1, q2, q3, q4⟩ := hS'; go_simp; try with_reducible rfl
          try simp only [Act.put, List.setIfInBounds_toArray, List.set_cons_zero, List.set_cons_succ]
          refine tail_take2 17 rfl (by kernel_rfl) (by kernel_rfl) (by kernel_rfl) (by decide) (fun _ _ _ h => h) (by rfl) (v := ?_) ?_ (by assumption) ?_
          rotate_left 1
          · intro w' hS'; obtain ⟨q0, q1, q2, q3, q4⟩ := hS'; go_simp; try with_reducible rfl
          try simp only [Act.put, List.setIfInBounds_toArray, List.set_cons_zero, List.set_cons_succ]
          refine tail_call 18 rfl (by kernel_rfl) rfl (fun K hK => ?_)
          go_simp
          obtain ⟨q0, q1, q2, q3, q4⟩ := hS'
          refine hK.out _ _ (by (try dsimp only); exact ⟨cell_up q0 _, cell_up q1 _, cell_up q2 _, cell_up q3 _, cell_up q4 _⟩) (fun hS' => ?_)
          clear hK K
          try simp only [Act.put, List.setIfInBounds_toArray, List.set_cons_zero, List.set_cons_succ]
          refine tail_call 19 rfl (by kernel_rfl) rfl (fun K' hK => ?_)
          refine wp_app1L wr.drew _ _ _ rfl elem64 B1 u9 (iv (strP γ D b K ds j)) rfl HO.out (z.val : Int) rfl (by rw [hol]; omega) (by show B1 ≤ wr.heap.size; omega) ?_
          intro b' cap w4 ho4 hg4 hl4
          have HG4 := hide (show wr.grownBy w4 u9.ownBlock from ⟨hg4.os, hg4.tape, hg4.output, hg4.size, hg4.block⟩)
          have k0 := grown_cell HG4.out (p := ⟨go, j, none⟩) l0 n0
          have k1 := grown_cell HG4.out (p := ⟨ro, 0, none⟩) hro2 n1
          have k2 := grown_cell HG4.out (p := ⟨ro, 1, none⟩) hro2 n1
          have k3 := grown_cell HG4.out (p := ⟨gv, px, none⟩) l2 n2
          have k4 := grown_cell HG4.out (p := ⟨rb, py, none⟩) hrb2 n3
          rw [HS2.out, hol] at ho4
          have HO4 := hide ho4
          have HL4 := hide hl4
          clear ho4 hg4 hl4
          refine hK.out _ _ ⟨k0.trans q0, k1.trans q1, k2.trans q2, k3.trans q3, k4.trans q4⟩ (fun hS' => ?_)
          clear hK K' k0 k1 k2 k3 k4 q0 q1 q2 q3 q4
          try simp only [Act.put, List.setIfInBounds_toArray, List.set_cons_zero, List.set_cons_succ]
          refine tail_take2 20 rfl (by kernel_rfl) (by kernel_rfl) (by kernel_rfl) (by decide) (fun _ _ _ h => h) (by rfl) (v := ?_) ?_ (by assumption) ?_
          rotate_left 1
          · intro w' hS'; obtain ⟨q0, q1, q2, q3, q4⟩ := hS'; go_simp; try with_reducible rfl
          try simp only [Act.put, List.setIfInBounds_toArray, List.set_cons_zero, List.set_cons_succ]
          refine tail_end (by kernel_rfl) ?_
          go_wp2_with fail
          go_roundw
          case rel => exact ⟨j + 1, by omega, by go_num, HM.out.grown HG4.out (HNV.out.ne HOG.out) (HNV.out.row HOG.out), HMO.out.grown HG4.out (HNO.out.ne HOG.out) (HNO.out.row HOG.out), HO4.out, (fun g hg => by
            simp only [Value.ownBlock, Option.some.injEq] at hg
            subst hg
            rcases HL4.out with h | h
            · exact HOG.out _ h
            · right; show w2.heap.size ≤ _; rw [h]; exact Nat.le_succ_of_le hwb), Nat.le_trans hwb HG4.out.size, HBL.out.grown HG4.out HBL.out.size (fun r e => by rcases HOG.out r e with h | h <;> omega)⟩
          case measure => simp [intOf]; omega
        · obtain rfl : j = N := by omega
          go_wp2_with fail
          go_ret
          have hst := HO.out
          rw [← HNN.out, strP_all] at hst
          exact newE_of hst HBL.out (by omega)
end
end Go.Proofs.Ytkdpkbnhckpnoaa
