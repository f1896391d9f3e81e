/-
  The contract of the algorithm of Euclid, of the program.
  Condition: the code is valid.
-/
import Derived.Test.YtlphodhecaagbaaGreatDImpl4
import Derived.Test.YtlphodhecaagbaaGreatTail2
import Derived.WalkMore
namespace Go.Proofs.YtlphodhecaagbaaGreat
open Go.RowKit
set_option linter.unusedSimpArgs false
set_option linter.unusedVariables false

/-- A slice in a block of its own. -/
def Box1 (w : World) (b : Nat) (A : Option Addr) (n c : Nat) : Prop := w.heap[b]? = some (.cells #[.slice A n c] 121 (0, 0))
section
variable {w w' : World} {b n c : Nat} {A : Option Addr}
theorem Box1.cell (h : Box1 w b A n c) : w.cell? ⟨b, 0, none⟩ = some (.slice A n c) := by rw [cell_of_row w b 0 _ _ _ h]; rfl
theorem Box1.frozen (h : Box1 w b A n c) : w.frozen? ⟨b, 0, none⟩ = false := by
  unfold Box1 at h
  simp [World.frozen?, h]
theorem Box1.lt (h : Box1 w b A n c) : b < w.heap.size := (Array.getElem?_eq_some_iff.1 h).1
theorem Box1.below {B : Nat} (h : Box1 w b A n c) (hb : Below B w w') (hB : b < B) : Box1 w' b A n c := by unfold Box1; rw [hb.block _ hB]; exact h
theorem Box1.next (h : Box1 w b A n c) (hb : Below w.heap.size w w') : Box1 w' b A n c := h.below hb h.lt
theorem Box1.alloc (h : Box1 w b A n c) (o : Obj) : Box1 (w.alloc o) b A n c := h.next ((Below.refl _ _).alloc (Nat.le_refl _) o)
theorem Box1.new (w : World) (A : Option Addr) (n c : Nat) : Box1 (w.alloc (.cells #[.slice A n c] 121)) w.heap.size A n c := heap_alloc_new w _
theorem Box1.set (h : Box1 w b A n c) (A' : Option Addr) (n' c' : Nat) : Box1 (w.setCell ⟨b, 0, none⟩ (.slice A' n' c')) b A' n' c' := heap_setCell_same w b 0 _ _ _ h
theorem Box1.other {b' : Nat} {u : Value} (h : Box1 w b A n c) (hne : b ≠ b') : Box1 (w.setCell ⟨b', 0, none⟩ u) b A n c := by
  unfold Box1; rw [heap_setCell_other w ⟨b', 0, none⟩ b u hne]; exact h
theorem Box1.otherA {a : Addr} {u : Value} (h : Box1 w b A n c) (hne : b ≠ a.block) : Box1 (w.setCell a u) b A n c := by
  unfold Box1; rw [heap_setCell_other w a b u hne]; exact h
theorem Box1.drew (h : Box1 w b A n c) : Box1 w.drew b A n c := h
/-- What lies in other blocks than the box stays. -/
theorem Box1.ints {A' : Option Addr} {B n' : Nat} {zs : List Int} {u : Value} (h : Box1 w b A n c) (hI : Ints .i64 w B A' n' zs) : Ints .i64 (w.setCell ⟨b, 0, none⟩ u) B A' n' zs := by
  refine ⟨hI.1, fun h0 => ?_⟩
  obtain ⟨b', off, e, hb, hc⟩ := hI.2 h0
  refine ⟨b', off, e, hb, fun j x hx => ?_⟩
  have h1 := hc j x hx
  have hne : b' ≠ b := fun e => by
    rw [e, cell_of_row w b (off + j) _ _ _ h] at h1
    rcases hj : off + j with _ | t
    · rw [hj] at h1; simp at h1
    · rw [hj] at h1; simp at h1
  rw [← h1]
  exact World.cell?_of_block (heap_setCell_other w ⟨b, 0, none⟩ b' u hne)
end

section
variable {R : Fld} {γ : El R} {p k g : Int} {l c : Nat}
/-- What stays: the code in its box, boxes and lists. -/
def Kept (w wr : World) (p k g : Int) (l c : Nat) (Bs : List (Nat × Option Addr × Nat × Nat)) (Is : List (Option Addr × Nat × List Int)) : Prop :=
  CBox w wr p k g l c ∧ (∀ t ∈ Bs, Box1 wr t.1 t.2.1 t.2.2.1 t.2.2.2) ∧ ∀ t ∈ Is, Ints .i64 wr wr.heap.size t.1 t.2.1 t.2.2
section
variable {w wr wr' : World} {Bs : List (Nat × Option Addr × Nat × Nat)} {Is : List (Option Addr × Nat × List Int)}
theorem Kept.next (h : Kept w wr p k g l c Bs Is) (hb : Below wr.heap.size wr wr') : Kept w wr' p k g l c Bs Is :=
  ⟨h.1.next hb, fun t ht => (h.2.1 t ht).next hb, fun t ht => ((h.2.2 t ht).below hb).more hb.size⟩
theorem Kept.alloc (h : Kept w wr p k g l c Bs Is) (o : Obj) : Kept w (wr.alloc o) p k g l c Bs Is := h.next ((Below.refl _ _).alloc (Nat.le_refl _) o)
theorem Kept.drew (h : Kept w wr p k g l c Bs Is) : Kept w wr.drew p k g l c Bs Is := ⟨h.1.drew, fun t ht => (h.2.1 t ht).drew, fun t ht => (h.2.2 t ht).drew⟩
theorem Kept.drewN (h : Kept w wr p k g l c Bs Is) (n : Nat) : Kept w (wr.drewN n) p k g l c Bs Is := ⟨h.1.drewN n, fun t ht => (h.2.1 t ht), fun t ht => (h.2.2 t ht).drewN n⟩
theorem Kept.box (h : Kept w wr p k g l c Bs Is) {b n m : Nat} {A : Option Addr} (ht : (b, A, n, m) ∈ Bs) : Box1 wr b A n m := h.2.1 _ ht
theorem Kept.ints (h : Kept w wr p k g l c Bs Is) {n : Nat} {A : Option Addr} {zs : List Int} (ht : (A, n, zs) ∈ Is) : Ints .i64 wr wr.heap.size A n zs := h.2.2 _ ht
theorem Kept.more (h : Kept w wr p k g l c Bs Is) {n : Nat} {A : Option Addr} {zs : List Int} (hI : Ints .i64 wr wr.heap.size A n zs) : Kept w wr p k g l c Bs ((A, n, zs) :: Is) :=
  ⟨h.1, h.2.1, fun t ht => by rcases List.mem_cons.1 ht with rfl | ht; exact hI; exact h.2.2 t ht⟩
theorem Kept.boxP (h : Kept w wr p k g l c Bs Is) {b n m : Nat} {A : Option Addr} {ps : List (El R)} (h1 : (b, A, n, m) ∈ Bs) (h2 : (A, n, iv ps) ∈ Is) (hl : ps.length = n) (hN : w.heap.size < b) : ∃ A c, Box1 wr b A n c ∧ ps.length = n ∧ Ints .i64 wr wr.heap.size A n (iv ps) ∧ w.heap.size < b :=
  ⟨A, m, h.box h1, hl, h.ints h2, hN⟩
/-- A box is written. -/
theorem Kept.put (h : Kept w wr p k g l c Bs Is) {b n m n' m' : Nat} {A A' : Option Addr} (hb : Box1 wr b A n m) (hw : w.heap.size < b) :
    Kept w (wr.setCell ⟨b, 0, none⟩ (.slice A' n' m')) p k g l c ((b, A', n', m') :: Bs.filter fun t => t.1 != b) Is := by
  have hg := set_grown wr b 0 (.slice A' n' m')
  refine ⟨h.1.set hw 0 _, fun t ht => ?_, fun t ht => ?_⟩
  · rcases List.mem_cons.1 ht with rfl | ht
    · exact hb.set A' n' m'
    · obtain ⟨h1, h2⟩ := List.mem_filter.1 ht
      exact (h.2.1 t h1).other (by simpa using h2)
  · have := hb.ints (u := .slice A' n' m') (h.2.2 t ht)
    rwa [show (wr.setCell ⟨b, 0, none⟩ (.slice A' n' m')).heap.size = wr.heap.size by simp [World.setCell]]
theorem Kept.sub (h : Kept w wr p k g l c Bs Is) {Bs' : List (Nat × Option Addr × Nat × Nat)} {Is' : List (Option Addr × Nat × List Int)} (h1 : ∀ t ∈ Bs', t ∈ Bs) (h2 : ∀ t ∈ Is', t ∈ Is) : Kept w wr p k g l c Bs' Is' :=
  ⟨h.1, fun t ht => h.2.1 t (h1 t ht), fun t ht => h.2.2 t (h2 t ht)⟩
end

/-- What the algorithm leaves: the polynomial that it ends with, with 1 as its first coefficient. -/
def ElPost (c r : Nat) (T : List (El R)) (w : World) (x : Ending) (w' : World) : Prop :=
  ∃ a b u v : List (El R), Eu c r T a b u v ∧ 2 * b.length < c + r + 2 ∧ ((cf v 0 = 0 ∧ NewIB [] false w x w') ∨ (cf v 0 ≠ 0 ∧ NewIB (iv (scaP (cf v 0).inv v)) true w x w'))

/-- A polynomial in a box. -/
def BoxP (wr : World) (N b : Nat) (ps : List (El R)) (n : Nat) : Prop := ∃ A c, Box1 wr b A n c ∧ ps.length = n ∧ Ints .i64 wr wr.heap.size A n (iv ps) ∧ N < b
/-- The four boxes, before and behind the half of a step. -/
def EuRel (w : World) (p k g : Int) (l c r : Nat) (T : List (El R)) (s t s' t' : Value) (wr : World) : Prop :=
  ∃ (d e o f : Nat) (a b u v : List (El R)) (na nb nu nv : Nat), s = .pointer (some ⟨d, 0, none⟩) ∧ t = .pointer (some ⟨e, 0, none⟩) ∧ s' = .pointer (some ⟨o, 0, none⟩) ∧ t' = .pointer (some ⟨f, 0, none⟩) ∧
    d ≠ e ∧ d ≠ o ∧ d ≠ f ∧ e ≠ o ∧ e ≠ f ∧ o ≠ f ∧ BoxP wr w.heap.size d a na ∧ BoxP wr w.heap.size e b nb ∧ BoxP wr w.heap.size o u nu ∧ BoxP wr w.heap.size f v nv ∧ CBox w wr p k g l c ∧
    (Eu c r T a b u v ∨ (Eu c r T b a v u ∧ c + r + 2 ≤ 2 * nb))
theorem BoxP.new {wr : World} {N b n c : Nat} {A : Option Addr} {ps : List (El R)} (h : Box1 wr b A n c) (hI : Ints .i64 wr wr.heap.size A n (iv ps)) (hN : N < b) : BoxP wr N b ps n := ⟨A, c, h, by rw [← iv_len]; exact hI.len, hI, hN⟩
theorem BoxP.drewN {wr : World} {N b n : Nat} {ps : List (El R)} (h : BoxP wr N b ps n) (m : Nat) : BoxP (wr.drewN m) N b ps n := by
  obtain ⟨A, c, h1, h2, h3, h4⟩ := h
  exact ⟨A, c, h1, h2, h3.drewN m, h4⟩
theorem below4 (w : World) (o1 o2 o3 o4 : Obj) : Below w.heap.size w ((((w.alloc o1).alloc o2).alloc o3).alloc o4) :=
  ((((Below.refl w.heap.size w).alloc (Nat.le_refl _) o1).alloc (by rw [alloc_size]; omega) o2).alloc (by rw [alloc_size, alloc_size]; omega) o3).alloc (by rw [alloc_size, alloc_size, alloc_size]; omega) o4
theorem xpow_set (c : Nat) : (iv (tab (c + 1) fun _ => (0 : El R))).set c 1 = iv (xpow c : List (El R)) := by
  have h := iv_set (tab (c + 1) fun _ => (0 : El R)) c 1
  rw [tab_set] at h
  exact h
def boxLen (v : Value) (wr : World) : Nat := match v with | .pointer (some p) => (match wr.cell? p with | some (.slice _ n _) => n | _ => 0) | _ => 0
def euMeas (s t : Value) (wr : World) : Nat := 2 * (boxLen s wr + boxLen t wr) + (if boxLen s wr < boxLen t wr then 1 else 0)

set_option maxRecDepth 100000 in
set_option maxHeartbeats 8000000 in
theorem implErrorLocator (h : CodeIs R γ p k g l c) (T : List (El R)) (r : Nat) (hT : Tr T) (hTc : T.length ≤ c) (hr : r ≤ c) (A : Option Addr) (n cn B : Nat) (w : World) (hI : Ints .i64 w B A n (iv T)) (hB : B ≤ w.heap.size) :
    Calls Tryz.prog 99 #[.agg #[.int .i64 p, .int .i64 k, .int .i64 g, .int .i64 l, .int .i64 c], .slice A n cn, .int .i64 r] w (ElPost c r T w) := by
  have HX := hide (CBox.start w p k g l c)
  have hc64 := h.c64
  have hc1 := h.c1
  have hTn : T.length = n := by rw [← iv_len]; exact hI.len
  have HI := hide hI
  have HTT := hide hT
  have HTN := hide hTn
  rw [hTn] at hTc

  have HX1 := hide (HX.out.alloc (.cells #[.slice A n cn] 121))
  have HK1 := hide (Box1.new (w.alloc (.cells #[.int .i64 p, .int .i64 k, .int .i64 g, .int .i64 l, .int .i64 c] 89)) A n cn)
  rw [alloc_size] at HK1
  clear hI hT hTn
  obtain ⟨c0, c1, c2, c3, c4⟩ := HX1.out.cells
  go_enter Tryz.func99, Tryz.ntmps99
  go_wp2_with fail
  go_step3
  go_wp2_with (refine wpList_mkN _ rfl (.tmp 18) (.tmp 18) 121 rfl elemP .i64 .i64 _ _ (c + 1) rfl rfl (by omega) (by omega) (by omega) fun w2 h1 h2 => ?_; have HX2 := hide (HX1.out.next h2); rw [alloc_size, alloc_size, iv_zeros (R := R)] at h1; have HO2 := hide h1; have HK2 := hide (HK1.out.next h2); have HX3 := hide (HX2.out.alloc (.cells #[.slice (some ⟨w.heap.size + 1 + 1, 0, none⟩) (c + 1) (c + 1)] 121)); have HO3 := hide (HO2.out.alloc (.cells #[.slice (some ⟨w.heap.size + 1 + 1, 0, none⟩) (c + 1) (c + 1)] 121)); have HK3 := hide (HK2.out.alloc (.cells #[.slice (some ⟨w.heap.size + 1 + 1, 0, none⟩) (c + 1) (c + 1)] 121)); have HM3 := hide (Box1.new w2 (some ⟨w.heap.size + 1 + 1, 0, none⟩) (c + 1) (c + 1)); have hcx := HO3.out.cellAt (j := c) (iv_at (by rw [tab_len]; omega)); have hfx := HO3.out.frozenAt c; obtain ⟨d0, d1, d2, d3, d4⟩ := HX3.out.cells; clear h1 h2)
  go_step3
  go_wp2_with fail
  have HOA := hide (HO3.out.stored c 1).1
  have HGA := hide (HO3.out.stored c 1).2
  rw [xpow_set] at HOA
  have HSZ := hide (show w.heap.size + 1 + 1 < w2.heap.size from (HO2.out.lt (g := w.heap.size + 1 + 1) rfl).2)
  have HXA := hide (HX3.out.grow HGA.out (fun b hb => by injection hb with hb; omega))
  have HKA := hide (HK3.out.otherA (a := ⟨w.heap.size + 1 + 1, c, none⟩) (u := .int .i64 1) (by simp only; omega))
  have HMA := hide (HM3.out.otherA (a := ⟨w.heap.size + 1 + 1, c, none⟩) (u := .int .i64 1) (by have := HSZ.out; simp only; omega))
  obtain ⟨wA, hA⟩ : ∃ wA, (w2.alloc (.cells #[.slice (some ⟨w.heap.size + 1 + 1, 0, none⟩) (c + 1) (c + 1)] 121)).setCell ⟨w.heap.size + 1 + 1, c, none⟩ (.int .i64 1) = wA := ⟨_, rfl⟩
  have hsA : wA.heap.size = w2.heap.size + 1 := by rw [← hA]; simp [World.setCell, alloc_size]
  rw [hA] at HOA HXA HKA HMA ⊢
  rw [← hsA]
  obtain ⟨d, hd⟩ : ∃ d, w2.heap.size = d := ⟨_, rfl⟩
  have hdn : w.heap.size + 1 + 1 < d := by have := HSZ.out; omega
  rw [hd] at hsA HMA ⊢
  have HB4 := hide (below4 wA (.cells #[] 2) (.cells #[.slice (some ⟨wA.heap.size, 0, none⟩) 0 0] 121) (.cells #[.int .i64 1] 2) (.cells #[.slice (some ⟨wA.heap.size + 1 + 1, 0, none⟩) 1 1] 121))
  have HU0 := hide (Box1.new (wA.alloc (.cells #[] 2)) (some ⟨wA.heap.size, 0, none⟩) 0 0)
  have HV0 := hide (Box1.new (((wA.alloc (.cells #[] 2)).alloc (.cells #[.slice (some ⟨wA.heap.size, 0, none⟩) 0 0] 121)).alloc (.cells #[.int .i64 1] 2)) (some ⟨wA.heap.size + 1 + 1, 0, none⟩) 1 1)
  have HU := hide ((HU0.out.alloc (.cells #[.int .i64 1] 2)).alloc (.cells #[.slice (some ⟨wA.heap.size + 1 + 1, 0, none⟩) 1 1] 121))
  have HV1 := hide (ints_one ((wA.alloc (.cells #[] 2)).alloc (.cells #[.slice (some ⟨wA.heap.size, 0, none⟩) 0 0] 121)) 2 .i64 1)
  rw [alloc_size] at HU
  rw [alloc_size, alloc_size, alloc_size] at HV0
  rw [alloc_size, alloc_size] at HV1
  obtain ⟨W, hW⟩ : ∃ W, (((wA.alloc (.cells #[] 2)).alloc (.cells #[.slice (some ⟨wA.heap.size, 0, none⟩) 0 0] 121)).alloc (.cells #[.int .i64 1] 2)).alloc (.cells #[.slice (some ⟨wA.heap.size + 1 + 1, 0, none⟩) 1 1] 121) = W := ⟨_, rfl⟩
  have HV2 := hide ((HV1.out.below ((Below.refl (wA.heap.size + 1 + 1 + 1) (((wA.alloc (.cells #[] 2)).alloc (.cells #[.slice (some ⟨wA.heap.size, 0, none⟩) 0 0] 121)).alloc (.cells #[.int .i64 1] 2))).alloc (by rw [alloc_size, alloc_size, alloc_size]; exact Nat.le_refl _) (.cells #[.slice (some ⟨wA.heap.size + 1 + 1, 0, none⟩) 1 1] 121))).more (B' := W.heap.size) (by rw [← hW, alloc_size, alloc_size, alloc_size, alloc_size]; exact Nat.le_succ _))
  rw [hW] at HB4 HU HV0 HV2 ⊢
  have HXW := hide (HXA.out.next HB4.out)
  have HKW := hide (HKA.out.next HB4.out)
  have HMW := hide (HMA.out.next HB4.out)
  have HOW := hide ((HOA.out.below HB4.out (Nat.le_refl _)).intsE)
  have HTW := hide ((HI.out.below (HXW.out.2.mono hB)).more (B' := W.heap.size) (Nat.le_trans hB (Nat.le_of_lt HXW.out.lt)))
  have HST := hide (Eu.start HTT.out (by rw [HTN.out]; exact hTc) hr)
  clear HX HX1 HK1 HX2 HO2 HK2 HX3 HO3 HK3 HM3 hcx hfx c0 c1 c2 c3 c4 d0 d1 d2 d3 d4 HOA HGA HXA HKA HMA HU0 HV1 hA hW HSZ
  go_loopw [9, 10, 11, 12] (fun s t s' t' wr => EuRel w p k g l c r T s t s' t' wr) (fun s t _ _ wr => euMeas s t wr)
  case atStart => exact ⟨d, w.heap.size + 1, wA.heap.size + 1, wA.heap.size + 1 + 1 + 1, _, _, _, _, c + 1, n, 0, 1, rfl, rfl, rfl, rfl, by omega, by omega, by omega, by omega, by omega, by omega, BoxP.new HMW.out HOW.out (by omega), BoxP.new HKW.out HTW.out (by omega), BoxP.new (ps := []) HU.out Ints.empty (by omega), BoxP.new (ps := [1]) HV0.out HV2.out (by omega), HXW.out, .inl HST.out⟩
  case round =>
    clear HI HB4 HU HV0 HV2 HXW HKW HMW HOW HTW HST hsA hdn hd
    obtain ⟨d, e, o, f, a, b, u, v, na, nb, nu, nw, rfl, rfl, rfl, rfl, hde, hdo, hdf, heo, hef, hof, ⟨Aa, ca, HBa, hla, HIa, hNa⟩, ⟨Ab, cb, HBb, hlb, HIb, hNb⟩, ⟨Au, cu, HBu, hlu, HIu, hNu⟩, ⟨Av, cv, HBv, hlv, HIv, hNv⟩, HX, HE⟩ := hrel
    have hbd : na ≤ 66 ∧ nb ≤ 66 ∧ nu ≤ 66 ∧ nw ≤ 66 := by
      rcases HE with h1 | ⟨h1, _⟩
      · have e1 := h1.len; have e2 := h1.ba; have e3 := h1.uv
        omega
      · have e1 := h1.len; have e2 := h1.ba; have e3 := h1.uv
        omega
    have HX := hide HX
    have HBa := hide HBa
    have HBb := hide HBb
    have HBu := hide HBu
    have HBv := hide HBv
    have HIa := hide HIa
    have HIb := hide HIb
    have HIu := hide HIu
    have HIv := hide HIv
    have HE := hide HE
    have HLa := hide hla
    have HLb := hide hlb
    have HLu := hide hlu
    have HLv := hide hlv
    obtain ⟨c0, c1, c2, c3, c4⟩ := HX.out.cells
    have kb := HBb.out.cell
    by_cases hst : 2 * nb < c + r + 2
    · have HEu := hide (show Eu c r T a b u v from HE.out.resolve_right (fun h' => by have := h'.2; omega))
      have hw1 : 0 < nw := by have := HEu.out.uv; omega
      obtain ⟨bv, ov, x, hAv, hbv, hx, hcv⟩ := HIv.out.at_ hw1
      subst hAv
      rw [iv_at (by omega)] at hx
      simp only [Option.some.injEq] at hx
      subst hx
      obtain ⟨x, hx⟩ : ∃ x, x = cf v 0 := ⟨_, rfl⟩
      rw [← hx, Nat.add_zero] at hcv
      have HXX := hide hx
      have kv := HBv.out.cell
      have z1 : decide (2 * ((nb : Int) - 1) < (c : Int) + (r : Int)) = true := by rw [decide_eq_true_eq]; omega
      clear hla hlb hlu hlv
      by_cases hx0 : x = 0
      · have HF := hide (show ∀ w', Below w.heap.size w w' → ElPost c r T w (.returned (.tuple #[.slice none 0 0, .bool false])) w' from fun w' hb => ⟨a, b, u, v, HEu.out, by rw [HLb.out]; exact hst, .inl ⟨by rw [← hx0]; exact hx.symm, newIB_nil hb⟩⟩)
        have e1 : ((x.val : Int) == 0) = true := by rw [hx0]; rfl
        clear hx hx0
        go_wp2_with fail
        go_quiet (fail)
        go_wp2_with fail
        try rw [Exit.noGoto_ret]
        go_ret2
        exact HF.out _ (HX.out.drewN _).2
      · have e1 : ((x.val : Int) == 0) = false := by have := val_ne hx0; simp; omega
        have HSC := hide (show (trim (tab nw fun i => x.inv * cf v i)) = scaP (cf v 0).inv v by rw [scaP, HLv.out, hx])
        have HF := hide (show ∀ x' w', NewIB (iv (scaP (cf v 0).inv v)) true w x' w' → ElPost c r T w x' w' from fun x' w' hn => ⟨a, b, u, v, HEu.out, by rw [HLb.out]; exact hst, .inr ⟨by rw [← hx]; exact hx0, hn⟩⟩)
        clear hx hx0
        go_wp2_with fail
        go_quiet (fail)
        go_wp2_with fail
        have HXq := hide (HX.out.drewN nq)
        have HBq := hide (show Box1 (wr.drewN nq) f (some ⟨bv, ov, none⟩) nw cv from HBv.out)
        have HIq := hide (show Ints .i64 (wr.drewN nq) (wr.drewN nq).heap.size (some ⟨bv, ov, none⟩) nw (iv v) from HIv.out.drewN nq)
        clear c0 c1 c2 c3 c4 kb kv hcv
        obtain ⟨wq, hwq⟩ : ∃ wq, wr.drewN nq = wq := ⟨_, rfl⟩
        rw [hwq] at HXq HBq HIq ⊢
        clear hwq
        go_region_held3 (fun w' => w'.cell? ⟨w.heap.size, 0, none⟩ = some (.int .i64 p) ∧ w'.cell? ⟨w.heap.size, 1, none⟩ = some (.int .i64 k) ∧ w'.cell? ⟨w.heap.size, 2, none⟩ = some (.int .i64 g) ∧ w'.cell? ⟨f, 0, none⟩ = some (.slice (some ⟨bv, ov, none⟩) nw cv))
          (first
            | exact ⟨HXq.out.drew.cells.1, HXq.out.drew.cells.2.1, HXq.out.drew.cells.2.2.1, HBq.out.drew.cell⟩
            | exact ⟨HX2.out.cells.1, HX2.out.cells.2.1, HX2.out.cells.2.2.1, HB2.out.cell⟩
            | exact ⟨HX3.out.cells.1, HX3.out.cells.2.1, HX3.out.cells.2.2.1, HB3.out.cell⟩)
          (first
            | (go_at_call 119; refine (implInvE h.fld x _).mono ?_; rintro e' w2 ⟨rfl, hb2⟩; have HX2 := hide (HXq.out.drew.next hb2); have HB2 := hide (HBq.out.drew.next hb2); have HI2 := hide ((HIq.out.drew.below hb2).more hb2.size); clear hb2)
            | (go_at_call 131; refine (implScaled h.fld x.inv v (some ⟨bv, ov, none⟩) nw cv w2.heap.size _ HI2.out (Nat.le_refl _) (by omega)).mono ?_; rw [HSC.out]; rintro e' w3 ⟨g3, m3, rfl, ho3, hg3, hb3⟩; have HX3 := hide (HX2.out.next hb3); have HB3 := hide (HB2.out.next hb3); have HO3 := hide (ho3.low (base' := w.heap.size + 1) (by have := HX2.out.lt; omega)); clear ho3 hg3 hb3))
        have HG := hide (newIB_of (w := w) (c := true) HO3.out HX3.out.2 (Nat.le_succ _))
        go_wp2_with fail
        try rw [Exit.noGoto_ret]
        go_ret2
        exact HF.out _ _ HG.out
    · have kd := HBa.out.cell
      have z1 : decide (2 * ((nb : Int) - 1) < (c : Int) + (r : Int)) = false := by rw [decide_eq_false_iff_not]; omega
      have HBBS := hide (show Kept w wr p k g l c [(d, Aa, na, ca), (e, Ab, nb, cb), (o, Au, nu, cu), (f, Av, nw, cv)] [(Aa, na, iv a), (Ab, nb, iv b), (Au, nu, iv u), (Av, nw, iv v)] from ⟨HX.out, fun t ht => by
          simp only [List.mem_cons, List.not_mem_nil, or_false] at ht
          rcases ht with rfl | rfl | rfl | rfl
          · exact HBa.out
          · exact HBb.out
          · exact HBu.out
          · exact HBv.out, fun t ht => by
          simp only [List.mem_cons, List.not_mem_nil, or_false] at ht
          rcases ht with rfl | rfl | rfl | rfl
          · exact HIa.out
          · exact HIb.out
          · exact HIu.out
          · exact HIv.out⟩)
      rcases HE.out with hfull | ⟨hhalf, hnb⟩
      · have HH := hide hfull
        have hlt : nb < na := by have := hfull.ba; omega
        have hnb0 : 0 < nb := by omega
        have z2 : decide ((na : Int) < (nb : Int)) = false := by rw [decide_eq_false_iff_not]; omega
        have HM := hide (show euMeas (.pointer (some ⟨d, 0, none⟩)) (.pointer (some ⟨e, 0, none⟩)) wr = 2 * (na + nb) by
          have : ¬ na < nb := by omega
          simp [euMeas, boxLen, kd, kb, this])
        obtain ⟨nQ, hnQ⟩ : ∃ nQ, (quoP a b).length = nQ := ⟨_, rfl⟩
        have hnQb : nQ ≤ 70 := by rw [← hnQ, quo_len (by omega)]; omega
        have HNQ := hide hnQ
        obtain ⟨nR, hnR⟩ : ∃ nR, (remP a b).length = nR := ⟨_, rfl⟩
        have hnRb : nR < nb := by rw [← hnR, ← hlb]; exact rem_len hfull.tb (by omega)
        have HNR := hide hnR
        obtain ⟨nm, hnm⟩ : ∃ nm, (mulP v (quoP a b)).length = nm := ⟨_, rfl⟩
        have hnmb : nm ≤ 200 := by rw [← hnm, mulP, tab_len]; unfold plen; split <;> omega
        have HNM := hide hnm
        have HSC := hide (show (trim (tab nm fun i => (-1) * cf (mulP v (quoP a b)) i)) = scaP (-1) (mulP v (quoP a b)) by rw [scaP, hnm])
        obtain ⟨ns, hns⟩ : ∃ ns, (scaP (-1) (mulP v (quoP a b))).length = ns := ⟨_, rfl⟩
        have hnsb : ns ≤ 200 := by rw [← hns]; have := trim_le (tab nm fun i => (-1) * cf (mulP v (quoP a b)) i); rw [HSC.out, tab_len] at this; omega
        have HNS := hide hns
        have HST := hide (hfull.step (v' := addP u (scaP (-1) (mulP v (quoP a b)))) (by omega) (tr_trim _) (by
          rw [cf_addP, cf_sca, cf_mul]
          funext i
          simp only
          rw [enm, e1m, ps_comm]))
        obtain ⟨nz, hnz⟩ : ∃ nz, (addP u (scaP (-1) (mulP v (quoP a b)))).length = nz := ⟨_, rfl⟩
        have HNZ := hide hnz
        clear hfull hla hlb hlu hlv hnQ hnR hnm hns hnz kd kb
        have kd := HBa.out.cell
        have kb := HBb.out.cell
        go_wp2_with fail
        go_quiet (fail)
        go_wp2_with fail
        have K0 := hide (HBBS.out.drewN nq)
        clear c0 c1 c2 c3 c4 kd kb
        obtain ⟨w0, hw0⟩ : ∃ w0, wr.drewN nq = w0 := ⟨_, rfl⟩
        rw [hw0] at K0 ⊢
        clear hw0
        have kd := (K0.out.box (b := d) (A := Aa) (n := na) (m := ca) (by simp)).cell
        have kb := (K0.out.box (b := e) (A := Ab) (n := nb) (m := cb) (by simp)).cell
        go_quiet (fail)
        go_wp2_with fail
        have K1 := hide (K0.out.drewN nq)
        clear kd kb K0
        obtain ⟨w1, hw1⟩ : ∃ w1, w0.drewN nq = w1 := ⟨_, rfl⟩
        rw [hw1] at K1 ⊢
        clear hw1
        go_region_held3 (fun w' => w'.cell? ⟨w.heap.size, 0, none⟩ = some (.int .i64 p) ∧ w'.cell? ⟨w.heap.size, 1, none⟩ = some (.int .i64 k) ∧ w'.cell? ⟨w.heap.size, 2, none⟩ = some (.int .i64 g) ∧ w'.cell? ⟨d, 0, none⟩ = some (.slice Aa na ca) ∧ w'.cell? ⟨e, 0, none⟩ = some (.slice Ab nb cb))
          (first
            | exact ⟨K1.out.1.drew.cells.1, K1.out.1.drew.cells.2.1, K1.out.1.drew.cells.2.2.1, (K1.out.drew.box (b := d) (by simp)).cell, (K1.out.drew.box (b := e) (by simp)).cell⟩
            | exact ⟨K2.out.1.cells.1, K2.out.1.cells.2.1, K2.out.1.cells.2.2.1, (K2.out.box (b := d) (by simp)).cell, (K2.out.box (b := e) (by simp)).cell⟩)
          ((go_at_call 89; refine (implDivided h.fld a b Aa Ab na ca nb cb _ _ (K1.out.drew.ints (by simp)) (K1.out.drew.ints (by simp)) (Nat.le_refl _) (by omega) (by omega) hnb0).mono ?_; rintro e' w2 ⟨vq, vr, rfl, hoq, hor, hne, hb2⟩; obtain ⟨Aq, cq, rfl, hcq⟩ := hoq.form; obtain ⟨Ar, cr, rfl, hcr⟩ := hor.form; rw [iv_len, HNQ.out] at hoq hcq; rw [iv_len, HNR.out] at hor hcr; have K2 := hide (((K1.out.drew.next hb2).more hor.intsE).more hoq.intsE); rw [iv_len, iv_len, HNQ.out, HNR.out]; clear hoq hor hne hb2 hcq hcr))
        have kd := (K2.out.box (b := d) (A := Aa) (n := na) (m := ca) (by simp)).cell
        have fd := (K2.out.box (b := d) (A := Aa) (n := na) (m := ca) (by simp)).frozen
        have K3 := hide (Kept.put (A' := Ar) (n' := nR) (m' := cr) K2.out (K2.out.box (b := d) (A := Aa) (n := na) (m := ca) (by simp)) hNa)
        go_wp2_with fail
        have K4 := hide (K3.out.sub (Bs' := [(d, Ar, nR, cr), (e, Ab, nb, cb), (o, Au, nu, cu), (f, Av, nw, cv)]) (Is' := [(Aq, nQ, iv (quoP a b)), (Ar, nR, iv (remP a b)), (Ab, nb, iv b), (Au, nu, iv u), (Av, nw, iv v)]) (by
          intro t ht
          simp only [List.mem_cons, List.not_mem_nil, or_false] at ht
          rcases ht with rfl | rfl | rfl | rfl
          · simp
          · simp [Ne.symm hde]
          · simp [Ne.symm hdo]
          · simp [Ne.symm hdf]) (by
          intro t ht
          simp only [List.mem_cons, List.not_mem_nil, or_false] at ht ⊢
          rcases ht with rfl | rfl | rfl | rfl | rfl <;> simp))
        clear K1 K2 K3 kd fd
        obtain ⟨w3, hw3⟩ : ∃ w3, w2.setCell ⟨d, 0, none⟩ (.slice Ar nR cr) = w3 := ⟨_, rfl⟩
        rw [hw3] at K4 ⊢
        clear hw3
        refine tail_begin (fun w' => w'.cell? ⟨w.heap.size, 0, none⟩ = some (.int .i64 p) ∧ w'.cell? ⟨w.heap.size, 1, none⟩ = some (.int .i64 k) ∧ w'.cell? ⟨w.heap.size, 2, none⟩ = some (.int .i64 g) ∧ w'.cell? ⟨o, 0, none⟩ = some (.slice Au nu cu) ∧ w'.cell? ⟨f, 0, none⟩ = some (.slice Av nw cv)) 22 (by kernel_rfl) (by exact ⟨K4.out.drew.1.cells.1, K4.out.drew.1.cells.2.1, K4.out.drew.1.cells.2.2.1, (K4.out.drew.box (b := o) (A := Au) (n := nu) (m := cu) (by simp)).cell, (K4.out.drew.box (b := f) (A := Av) (n := nw) (m := cv) (by simp)).cell⟩) (fun hS' => ?_)
        refine tail_take 0 rfl (by kernel_rfl) (by kernel_rfl) (by kernel_rfl) (by kernel_rfl) (fun _ _ _ h => h) (by rfl) (v := ?_) ?_ (by assumption) ?_
        rotate_left 1
        · intro w' hS'; (try dsimp only at hS'); go_simp; try with_reducible rfl
        try simp only [Act.put, List.setIfInBounds_toArray, List.set_cons_zero, List.set_cons_succ]
        refine tail_take 1 rfl (by kernel_rfl) (by kernel_rfl) (by kernel_rfl) (by kernel_rfl) (fun _ _ _ h => h) (by rfl) (v := ?_) ?_ (by assumption) ?_
        rotate_left 1
        · intro w' hS'; (try dsimp only at hS'); go_simp; try with_reducible rfl
        try simp only [Act.put, List.setIfInBounds_toArray, List.set_cons_zero, List.set_cons_succ]
        refine tail_take 2 rfl (by kernel_rfl) (by kernel_rfl) (by kernel_rfl) (by kernel_rfl) (fun _ _ _ h => h) (by rfl) (v := ?_) ?_ (by assumption) ?_
        rotate_left 1
        · intro w' hS'; (try dsimp only at hS'); go_simp; try with_reducible rfl
        try simp only [Act.put, List.setIfInBounds_toArray, List.set_cons_zero, List.set_cons_succ]
        refine tail_take 3 rfl (by kernel_rfl) (by kernel_rfl) (by kernel_rfl) (by kernel_rfl) (fun _ _ _ h => h) (by rfl) (v := ?_) ?_ (by assumption) ?_
        rotate_left 1
        · intro w' hS'; (try dsimp only at hS'); go_simp; try with_reducible rfl
        try simp only [Act.put, List.setIfInBounds_toArray, List.set_cons_zero, List.set_cons_succ]
        refine tail_take 4 rfl (by kernel_rfl) (by kernel_rfl) (by kernel_rfl) (by kernel_rfl) (fun _ _ _ h => h) (by rfl) (v := ?_) ?_ (by assumption) ?_
        rotate_left 1
        · intro w' hS'; (try dsimp only at hS'); go_simp; try with_reducible rfl
        try simp only [Act.put, List.setIfInBounds_toArray, List.set_cons_zero, List.set_cons_succ]
        refine tail_take 5 rfl (by kernel_rfl) (by kernel_rfl) (by kernel_rfl) (by kernel_rfl) (fun _ _ _ h => h) (by rfl) (v := ?_) ?_ (by assumption) ?_
        rotate_left 1
        · intro w' hS'; (try dsimp only at hS'); go_simp; try with_reducible rfl
        try simp only [Act.put, List.setIfInBounds_toArray, List.set_cons_zero, List.set_cons_succ]
        refine tail_take 6 rfl (by kernel_rfl) (by kernel_rfl) (by kernel_rfl) (by kernel_rfl) (fun _ _ _ h => h) (by rfl) (v := ?_) ?_ (by assumption) ?_
        rotate_left 1
        · intro w' hS'; (try dsimp only at hS'); go_simp; try with_reducible rfl
        try simp only [Act.put, List.setIfInBounds_toArray, List.set_cons_zero, List.set_cons_succ]
        refine tail_take 7 rfl (by kernel_rfl) (by kernel_rfl) (by kernel_rfl) (by kernel_rfl) (fun _ _ _ h => h) (by rfl) (v := ?_) ?_ (by assumption) ?_
        rotate_left 1
        · intro w' hS'; (try dsimp only at hS'); go_simp; try with_reducible rfl
        try simp only [Act.put, List.setIfInBounds_toArray, List.set_cons_zero, List.set_cons_succ]
        refine tail_take 8 rfl (by kernel_rfl) (by kernel_rfl) (by kernel_rfl) (by kernel_rfl) (fun _ _ _ h => h) (by rfl) (v := ?_) ?_ (by assumption) ?_
        rotate_left 1
        · intro w' hS'; (try dsimp only at hS'); go_simp; try with_reducible rfl
        try simp only [Act.put, List.setIfInBounds_toArray, List.set_cons_zero, List.set_cons_succ]
        refine tail_take 9 rfl (by kernel_rfl) (by kernel_rfl) (by kernel_rfl) (by kernel_rfl) (fun _ _ _ h => h) (by rfl) (v := ?_) ?_ (by assumption) ?_
        rotate_left 1
        · intro w' hS'; (try dsimp only at hS'); go_simp; try with_reducible rfl
        try simp only [Act.put, List.setIfInBounds_toArray, List.set_cons_zero, List.set_cons_succ]
        refine tail_take 10 rfl (by kernel_rfl) (by kernel_rfl) (by kernel_rfl) (by kernel_rfl) (fun _ _ _ h => h) (by rfl) (v := ?_) ?_ (by assumption) ?_
        rotate_left 1
        · intro w' hS'; (try dsimp only at hS'); go_simp; try with_reducible rfl
        try simp only [Act.put, List.setIfInBounds_toArray, List.set_cons_zero, List.set_cons_succ]
        refine tail_take 11 rfl (by kernel_rfl) (by kernel_rfl) (by kernel_rfl) (by kernel_rfl) (fun _ _ _ h => h) (by rfl) (v := ?_) ?_ (by assumption) ?_
        rotate_left 1
        · intro w' hS'; (try dsimp only at hS'); go_simp; try with_reducible rfl
        try simp only [Act.put, List.setIfInBounds_toArray, List.set_cons_zero, List.set_cons_succ]
        refine tail_take 13 rfl (by kernel_rfl) (by kernel_rfl) (by kernel_rfl) (by kernel_rfl) (fun _ _ _ h => h) (by rfl) (v := ?_) ?_ (by assumption) ?_
        rotate_left 1
        · intro w' hS'; (try dsimp only at hS'); go_simp; try with_reducible rfl
        try simp only [Act.put, List.setIfInBounds_toArray, List.set_cons_zero, List.set_cons_succ]
        refine tail_take 14 rfl (by kernel_rfl) (by kernel_rfl) (by kernel_rfl) (by kernel_rfl) (fun _ _ _ h => h) (by rfl) (v := ?_) ?_ (by assumption) ?_
        rotate_left 1
        · intro w' hS'; (try dsimp only at hS'); go_simp; try with_reducible rfl
        try simp only [Act.put, List.setIfInBounds_toArray, List.set_cons_zero, List.set_cons_succ]
        refine tail_take 15 rfl (by kernel_rfl) (by kernel_rfl) (by kernel_rfl) (by kernel_rfl) (fun _ _ _ h => h) (by rfl) (v := ?_) ?_ (by assumption) ?_
        rotate_left 1
        · intro w' hS'; (try dsimp only at hS'); go_simp; try with_reducible rfl
        try simp only [Act.put, List.setIfInBounds_toArray, List.set_cons_zero, List.set_cons_succ]
        refine tail_take 16 rfl (by kernel_rfl) (by kernel_rfl) (by kernel_rfl) (by kernel_rfl) (fun _ _ _ h => h) (by rfl) (v := ?_) ?_ (by assumption) ?_
        rotate_left 1
        · intro w' hS'; (try dsimp only at hS'); go_simp; try with_reducible rfl
        try simp only [Act.put, List.setIfInBounds_toArray, List.set_cons_zero, List.set_cons_succ]
        refine tail_call 12 rfl (by kernel_rfl) rfl (fun K hK => ?_)
        go_simp
        go_at_call 102; refine (implTimes h.fld v (quoP a b) Av Aq nw cv nQ cq _ _ (Kept.ints K4.out.drew (by simp)) (Kept.ints K4.out.drew (by simp)) (Nat.le_refl _) (by omega) (by omega)).mono ?_; rintro e' wT ⟨g1, m1, rfl, ho1, hg1, hb1⟩; rw [HNM.out] at ho1 ⊢; have KT := hide ((Kept.next K4.out.drew hb1).more ho1.intsE); clear ho1 hg1 hb1
        refine hK.out _ _ (by (try dsimp only); exact ⟨KT.out.1.cells.1, KT.out.1.cells.2.1, KT.out.1.cells.2.2.1, (KT.out.box (b := o) (A := Au) (n := nu) (m := cu) (by simp)).cell, (KT.out.box (b := f) (A := Av) (n := nw) (m := cv) (by simp)).cell⟩) (fun hS' => ?_)
        clear hK K
        try simp only [Act.put, List.setIfInBounds_toArray, List.set_cons_zero, List.set_cons_succ]
        refine tail_call 17 rfl (by kernel_rfl) rfl (fun K hK => ?_)
        go_simp
        go_at_call 91; refine (implNegE h.fld 1 _).mono ?_; rintro e' wN ⟨rfl, hbn⟩; have KN := hide (Kept.next KT.out hbn); clear hbn
        refine hK.out _ _ (by (try dsimp only); exact ⟨KN.out.1.cells.1, KN.out.1.cells.2.1, KN.out.1.cells.2.2.1, (KN.out.box (b := o) (A := Au) (n := nu) (m := cu) (by simp)).cell, (KN.out.box (b := f) (A := Av) (n := nw) (m := cv) (by simp)).cell⟩) (fun hS' => ?_)
        clear hK K
        try simp only [Act.put, List.setIfInBounds_toArray, List.set_cons_zero, List.set_cons_succ]
        have K6 := KN
        clear KT KN
        refine tail_call 18 rfl (by kernel_rfl) rfl (fun K hK => ?_)
        go_simp
        go_at_call 131; refine (implScaled h.fld (-1) (mulP v (quoP a b)) (some ⟨g1, 0, none⟩) nm m1 _ _ (Kept.ints K6.out (List.mem_cons_self ..)) (Nat.le_refl _) (by omega)).mono ?_; rw [HSC.out]; rintro e' wS ⟨g3, m3, rfl, ho3, hg3, hb3⟩; rw [HNS.out] at ho3 ⊢; have KS := hide ((Kept.next K6.out hb3).more ho3.intsE); clear ho3 hg3 hb3
        refine hK.out _ _ (by (try dsimp only); exact ⟨KS.out.1.cells.1, KS.out.1.cells.2.1, KS.out.1.cells.2.2.1, (KS.out.box (b := o) (A := Au) (n := nu) (m := cu) (by simp)).cell, (KS.out.box (b := f) (A := Av) (n := nw) (m := cv) (by simp)).cell⟩) (fun hS' => ?_)
        clear hK K
        try simp only [Act.put, List.setIfInBounds_toArray, List.set_cons_zero, List.set_cons_succ]
        refine tail_call 19 rfl (by kernel_rfl) rfl (fun K hK => ?_)
        go_simp
        have KB := hide (KS.out.alloc (.cells #[.slice (some ⟨g3, 0, none⟩) ns m3] 121))
        have HBC := hide (Box1.new wS (some ⟨g3, 0, none⟩) ns m3).cell
        refine hK.out _ _ (by (try dsimp only); exact ⟨KB.out.1.cells.1, KB.out.1.cells.2.1, KB.out.1.cells.2.2.1, (KB.out.box (b := o) (A := Au) (n := nu) (m := cu) (by simp)).cell, (KB.out.box (b := f) (A := Av) (n := nw) (m := cv) (by simp)).cell⟩) (fun hS' => ?_)
        clear hK K
        try simp only [Act.put, List.setIfInBounds_toArray, List.set_cons_zero, List.set_cons_succ]
        refine tail_call 20 rfl (by kernel_rfl) rfl (fun K hK => ?_)
        go_simp
        go_at_call 130; refine (implPlus h.fld u (scaP (-1) (mulP v (quoP a b))) Au (some ⟨g3, 0, none⟩) nu cu ns m3 _ wS.heap.size _ (Kept.ints KB.out (by simp)) (Kept.ints KB.out (List.mem_cons_self ..)) (by rw [alloc_size]; exact Nat.lt_succ_self _) HBC.out (Nat.le_refl _) (by omega) (by omega)).mono ?_; rintro e' wP ⟨g4, m4, rfl, ho4, hg4, hb4⟩; rw [HNZ.out] at ho4 ⊢; have KP := hide ((Kept.next KB.out hb4).more ho4.intsE); clear ho4 hg4 hb4
        refine hK.out _ _ (by (try dsimp only); exact ⟨KP.out.1.cells.1, KP.out.1.cells.2.1, KP.out.1.cells.2.2.1, (KP.out.box (b := o) (A := Au) (n := nu) (m := cu) (by simp)).cell, (KP.out.box (b := f) (A := Av) (n := nw) (m := cv) (by simp)).cell⟩) (fun hS' => ?_)
        clear hK K
        try simp only [Act.put, List.setIfInBounds_toArray, List.set_cons_zero, List.set_cons_succ]
        refine tail_take 21 rfl (by kernel_rfl) (by kernel_rfl) (by kernel_rfl) (by kernel_rfl) (fun _ _ _ h => h) (by rfl) (v := ?_) ?_ (by assumption) ?_
        rotate_left 1
        · intro w' hS'; (try dsimp only at hS'); go_simp; try with_reducible rfl
        try simp only [Act.put, List.setIfInBounds_toArray, List.set_cons_zero, List.set_cons_succ]
        have fo := (KP.out.box (b := o) (A := Au) (n := nu) (m := cu) (by simp)).frozen
        have ko := (KP.out.box (b := o) (A := Au) (n := nu) (m := cu) (by simp)).cell
        refine tail_last 22 rfl (by kernel_rfl) (by kernel_rfl) rfl rfl (fun K hK => ?_)
        go_simp
        refine hK.out _ _ ?_
        clear hK K
        try simp only [Act.put, List.setIfInBounds_toArray, List.set_cons_zero, List.set_cons_succ]
        have K9 := hide ((Kept.put (A' := some ⟨g4, 0, none⟩) (n' := nz) (m' := m4) KP.out (KP.out.box (b := o) (A := Au) (n := nu) (m := cu) (by simp)) hNu).sub (Bs' := [(d, Ar, nR, cr), (e, Ab, nb, cb), (o, some ⟨g4, 0, none⟩, nz, m4), (f, Av, nw, cv)]) (Is' := [(some ⟨g4, 0, none⟩, nz, iv (addP u (scaP (-1) (mulP v (quoP a b))))), (Ar, nR, iv (remP a b)), (Ab, nb, iv b), (Av, nw, iv v)]) (by
          intro t ht
          simp only [List.mem_cons, List.not_mem_nil, or_false] at ht
          rcases ht with rfl | rfl | rfl | rfl
          · simp [hdo]
          · simp [heo]
          · simp
          · simp [Ne.symm hof]) (by
          intro t ht
          simp only [List.mem_cons, List.not_mem_nil, or_false] at ht ⊢
          rcases ht with rfl | rfl | rfl | rfl <;> simp))
        have ld := (K9.out.box (b := d) (A := Ar) (n := nR) (m := cr) (by simp)).cell
        have lb := (K9.out.box (b := e) (A := Ab) (n := nb) (m := cb) (by simp)).cell
        clear KS KB HBC KP fo ko K6 K4
        go_wp2_with fail
        go_roundw
        case rel => exact ⟨d, e, o, f, remP a b, b, addP u (scaP (-1) (mulP v (quoP a b))), v, nR, nb, nz, nw, rfl, rfl, rfl, rfl, hde, hdo, hdf, heo, hef, hof, K9.out.boxP (A := Ar) (m := cr) (by simp) (by simp) HNR.out hNa, K9.out.boxP (A := Ab) (m := cb) (by simp) (by simp) HLb.out hNb, K9.out.boxP (A := some ⟨g4, 0, none⟩) (m := m4) (by simp) (by simp) HNZ.out hNu, K9.out.boxP (A := Av) (m := cv) (by simp) (by simp) HLv.out hNv, K9.out.1, .inr ⟨HST.out.1, by omega⟩⟩
        case measure =>
          rw [HM.out]
          simp [euMeas, boxLen, ld, lb, hnRb]
          omega
      · have HH := hide hhalf
        have hlt : na < nb := by have := hhalf.ba; omega
        have z2 : decide ((na : Int) < (nb : Int)) = true := by rw [decide_eq_true_eq]; omega
        have HM := hide (show euMeas (.pointer (some ⟨d, 0, none⟩)) (.pointer (some ⟨e, 0, none⟩)) wr = 2 * (na + nb) + 1 by simp [euMeas, boxLen, kd, kb, hlt])
        clear hhalf hla hlb hlu hlv
        go_wp2_with fail
        go_quiet (fail)
        go_wp2_with fail
        have K0 := hide (HBBS.out.drewN nq)
        clear c0 c1 c2 c3 c4 kd kb
        obtain ⟨w0, hw0⟩ : ∃ w0, wr.drewN nq = w0 := ⟨_, rfl⟩
        rw [hw0] at K0 ⊢
        clear hw0
        have kd := (K0.out.box (b := d) (A := Aa) (n := na) (m := ca) (by simp)).cell
        have kb := (K0.out.box (b := e) (A := Ab) (n := nb) (m := cb) (by simp)).cell
        go_quiet (fail)
        go_wp2_with fail
        have K1 := hide (K0.out.drewN nq)
        have ld := (K1.out.box (b := d) (A := Aa) (n := na) (m := ca) (by simp)).cell
        have lb := (K1.out.box (b := e) (A := Ab) (n := nb) (m := cb) (by simp)).cell
        go_roundw
        case rel => exact ⟨e, d, f, o, b, a, v, u, nb, na, nw, nu, rfl, rfl, rfl, rfl, Ne.symm hde, hef, heo, hdf, hdo, Ne.symm hof, K1.out.boxP (A := Ab) (m := cb) (by simp) (by simp) HLb.out hNb, K1.out.boxP (A := Aa) (m := ca) (by simp) (by simp) HLa.out hNa, K1.out.boxP (A := Av) (m := cv) (by simp) (by simp) HLv.out hNv, K1.out.boxP (A := Au) (m := cu) (by simp) (by simp) HLu.out hNu, K1.out.1, .inl HH.out⟩
        case measure =>
          rw [HM.out]
          have : ¬ nb < na := by omega
          simp [euMeas, boxLen, kd, kb, ld, lb, this]
          omega
end
end Go.Proofs.YtlphodhecaagbaaGreat
