/-
  The contract of the program's common divisor of polynomials.
  Condition: the field is valid, one polynomial is not 0, and lists are shorter than 2^39.
-/
import Derived.Test.YthafkohopkgckaaPSpec5
import Derived.Test.YthafkohopkgckaaPolyMath4
namespace Go.Proofs.Ythafkohopkgckaa
open Go.RowKit
set_option linter.unusedSimpArgs false
set_option linter.unusedVariables false

section
variable {R : Fld} {p k g : Int}
/-- Two slices that read as polynomials with the same common divisor. -/
def GcRel (w : World) (p k g : Int) (M : Nat) (ps qs : List (El R)) (u v : Value) (wr : World) : Prop :=
  ∃ (A A' : Option Addr) (n c n' c' : Nat) (pp qq : List (El R)), u = .slice A n c ∧ v = .slice A' n' c' ∧ Ints .i64 wr wr.heap.size A n (iv pp) ∧ Ints .i64 wr wr.heap.size A' n' (iv qq) ∧ Hid (Tr pp ∧ Tr qq ∧ gcdL pp qq = gcdL ps qs ∧ (0 < pp.length ∨ 0 < qq.length)) ∧ n ≤ M ∧ n' ≤ M ∧ Box w wr 25 p k g
def lenOf : Value → Nat
  | .slice _ n _ => n
  | _ => 0
theorem gc_step {ps qs pp qq : List (El R)} (h : Tr pp ∧ Tr qq ∧ gcdL pp qq = gcdL ps qs ∧ (0 < pp.length ∨ 0 < qq.length)) (h0 : 0 < qq.length) :
    Tr qq ∧ Tr (remP pp qq) ∧ gcdL qq (remP pp qq) = gcdL ps qs ∧ (0 < qq.length ∨ 0 < (remP pp qq).length) :=
  ⟨h.2.1, tr_rem h.1, by rw [← gcdL_step h.1 h.2.1 h0]; exact h.2.2.1, .inl h0⟩
theorem gc_end {ps qs pp qq : List (El R)} (h : Tr pp ∧ Tr qq ∧ gcdL pp qq = gcdL ps qs ∧ (0 < pp.length ∨ 0 < qq.length)) (h0 : qq.length = 0) :
    0 < pp.length ∧ scaP (lastE pp).inv pp = gcdM ps qs := by
  have h1 := h.2.2.1
  rw [gcdL_end h0] at h1
  exact ⟨by omega, by rw [gcdM, ← h1]⟩

set_option maxRecDepth 100000 in
set_option maxHeartbeats 4000000 in
theorem implGcdE (h : FldIs R p k g) (ps qs : List (El R)) (A A' : Option Addr) (n c m c' B : Nat) (w : World) (hI : Ints .i64 w B A n (iv ps)) (hJ : Ints .i64 w B A' m (iv qs)) (hB : B ≤ w.heap.size) (hp : Tr ps) (hq : Tr qs) (h0 : 0 < ps.length ∨ 0 < qs.length) (M : Nat) (hn : n ≤ M) (hm : m ≤ M) (hM : M ≤ 549755813888) :
    Calls Try.prog 90 #[.slice A n c, .agg #[.int .i64 p, .int .i64 k, .int .i64 g], .slice A' m c'] w (NewE (gcdM ps qs) w) := by
  have HX := hide (Box.start w 25 p k g)
  have HI := hide ((hI.below (HX.out.2.mono hB)).more (Nat.le_trans hB HX.out.2.size))
  have HJ := hide ((hJ.below (HX.out.2.mono hB)).more (Nat.le_trans hB HX.out.2.size))
  have HS := hide (show Tr ps ∧ Tr qs ∧ (0 < ps.length ∨ 0 < qs.length) from ⟨hp, hq, h0⟩)
  clear hI hJ hp hq h0
  go_enter Try.func90, Try.ntmps90
  go_wp2_with fail
  go_loopw [0, 2] (fun u v wr => GcRel w p k g M ps qs u v wr) (fun _ v _ => lenOf v)
  case atStart => exact ⟨A, A', n, c, m, c', ps, qs, rfl, rfl, HI.out, HJ.out, ⟨HS.out.1, HS.out.2.1, rfl, HS.out.2.2⟩, hn, hm, HX.out⟩
  case round =>
    clear HX HI HJ HS hn hm
    obtain ⟨A, A', n, c, m, c', pp, qq, rfl, rfl, hI, hJ, HS, hn, hm, HX⟩ := hrel
    have HX := hide HX
    have HI := hide hI
    have HJ := hide hJ
    have HPN := hide (show pp.length = n by rw [← iv_len]; exact hI.len)
    have HQM := hide (show qq.length = m by rw [← iv_len]; exact hJ.len)
    clear hI hJ
    rcases Nat.eq_zero_or_pos m with h0 | h0
    · obtain ⟨hpos, hend⟩ := gc_end HS.out (by rw [HQM.out]; exact h0)
      have HE := hide hend
      have HL := hide (lastE_is hpos)
      obtain ⟨le, hle⟩ : ∃ le, le = lastE pp := ⟨_, rfl⟩
      rw [← hle] at HL HE
      have hz : decide (0 < m) = false := by simp; omega
      clear hend hle h0
      go_wp2_with fail
      go_region_held3 (fun w' => w'.cell? ⟨w.heap.size, 0, none⟩ = some (.int .i64 p) ∧ w'.cell? ⟨w.heap.size, 1, none⟩ = some (.int .i64 k) ∧ w'.cell? ⟨w.heap.size, 2, none⟩ = some (.int .i64 g))
        (first
          | exact ⟨HX.out.drew.cells.1, HX.out.drew.cells.2.1, HX.out.drew.cells.2.2⟩
          | exact ⟨HX2.out.cells.1, HX2.out.cells.2.1, HX2.out.cells.2.2⟩
          | exact ⟨HX3.out.cells.1, HX3.out.cells.2.1, HX3.out.cells.2.2⟩)
        (first
          | (go_at_call 102; refine (implLast A n c wr.heap.size (iv pp) _ _ HI.out.drew HL.out (by omega)).mono ?_; rintro e wl ⟨rfl, rfl⟩)
          | (go_at_call 101; refine (implInvE h le _).mono ?_; rintro e w2 ⟨rfl, hb2⟩; have HX2 := hide (HX.out.drew.next hb2); have HI2 := hide ((HI.out.drew.below hb2).more hb2.size); clear hb2)
          | (go_at_call 110; refine (implScaled h le.inv pp A n c w2.heap.size _ HI2.out (Nat.le_refl _) (by omega)).mono ?_; rintro e w3 ⟨gB, c3, rfl, ho3, hg3, hb3⟩; have HX3 := hide (HX2.out.next hb3); have HO3 := hide (ho3.low (Nat.le_of_lt HX2.out.lt)); clear ho3 hb3))
      have HF := hide (newE_of (w := w) (ps := gcdM ps qs) (base := w.heap.size) (by rw [← HE.out]; unfold scaP; rw [HPN.out]; exact HO3.out) HX3.out.2 (Nat.le_refl _))
      clear HO3
      go_wp2_with fail
      go_ret
      exact HF
    · have HS2 := hide (gc_step HS.out (by rw [HQM.out]; exact h0))
      have HRL := hide (rem_len (p := pp) HS.out.2.1 (by rw [HQM.out]; exact h0))
      obtain ⟨c0, c1, c2⟩ := HX.out.cells
      go_wp2_with fail
      refine (implDivided h pp qq A A' n c m c' wr.heap.size wr HI.out HJ.out (Nat.le_refl _) (by omega) (by omega) h0).mono ?_
      rintro e w2 ⟨vq, vr, rfl, hoq, hor, hne, hb⟩
      have HX2 := hide (HX.out.next hb)
      obtain ⟨Ar, cr, rfl, hcr⟩ := hor.form
      rw [iv_len] at hor hcr hne ⊢
      have HOR := hide (hor.intsE)
      have HJ2 := hide ((HJ.out.below hb).more hb.size)
      have hlt : (remP pp qq).length < m := by have := HRL.out; rw [HQM.out] at this; exact this
      obtain ⟨rl, hrl⟩ : ∃ rl, rl = (remP pp qq).length := ⟨_, rfl⟩
      rw [← hrl] at HOR hlt ⊢
      clear hoq hor hne hb c0 c1 c2 hcr hrl
      go_wp2_with fail
      go_roundw
      case rel => exact ⟨A', Ar, m, c', rl, cr, qq, remP pp qq, rfl, rfl, HJ2.out, HOR.out, HS2, hm, by omega, HX2.out⟩
      case measure => simp only [lenOf]; omega
end
end Go.Proofs.Ythafkohopkgckaa
