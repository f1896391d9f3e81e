/-
  The walk of the law FnLayouts: it returns true, and nothing that was there before is changed.
  Condition: none.
-/
import Derived.Test.YtncgeoliboidhaaFmBoth1
import Derived.Test.YtncgeoliboidhaaFmDraw4
import Derived.Test.YtncgeoliboidhaaFmLaw
import Derived.Test.YtncgeoliboidhaaVL
import Derived.Test.YtncgeoliboidhaaLike
import Derived.Test.YtncgeoliboidhaaTail2
namespace Go.Proofs.Ytncgeoliboidhaa
open Go.RowKit
set_option linter.unusedVariables false
set_option linter.unusedSimpArgs false

theorem row6A {w : World} {b : Nat} {x0 x1 x2 x3 x4 x5 : Value} {t : TypeId} (h : w.heap[b]? = some (.cells #[x0, x1, x2, x3, x4, x5] t (0, 0))) :
    w.cell? ⟨b, 0, none⟩ = some x0 ∧ w.cell? ⟨b, 1, none⟩ = some x1 ∧ w.cell? ⟨b, 2, none⟩ = some x2 ∧ w.cell? ⟨b, 3, none⟩ = some x3 ∧ w.cell? ⟨b, 4, none⟩ = some x4 ∧ w.cell? ⟨b, 5, none⟩ = some x5 :=
  ⟨(row6F h).1, (row6F h).2.1, (row6F h).2.2.1, (row6F h).2.2.2.1, (row6F h).2.2.2.2.1, (row6F h).2.2.2.2.2.1⟩
theorem fl_fam (s : ByteArray) (κ p k g C : Int) (zs ls : List Int) (hs : s.size ≤ 9) (hz : zs.length ≤ 8) (hl : ls.length ≤ 8) : ∃ fb : Bool,
    (∀ (A : Option Addr) (n c : Nat) (A' : Option Addr) (n' c' : Nat) (w : World), Ints .i64 w w.heap.size A n zs → Ints .i64 w w.heap.size A' n' ls → Calls Try.prog 13 #[.agg #[.string s, .int .i64 κ, .int .i64 p, .int .i64 k, .int .i64 g, .slice A n c, .int .i64 C, .slice A' n' c']] w (Gives (.bool fb) w)) ∧
    (∀ (A : Option Addr) (n c : Nat) (A' : Option Addr) (n' c' : Nat) (w : World), Ints .i64 w w.heap.size A n zs → Ints .i64 w w.heap.size A' n' ls → Calls Try.prog 11 #[.agg #[.string s, .int .i64 κ, .int .i64 p, .int .i64 k, .int .i64 g, .slice A n c, .int .i64 C, .slice A' n' c']] w (Gives (.bool fb) w)) :=
  ⟨_, fun A n c A' n' c' w hI hJ => implIsFm s κ p k g A n c C A' n' c' w.heap.size zs ls w (by omega) hI hJ (Nat.le_refl _) (by rw [← hI.len]; omega) (by rw [← hJ.len]; omega),
    fun A n c A' n' c' w hI hJ => specIsFm s κ p k g A n c C A' n' c' w.heap.size zs ls w (by omega) hI hJ (Nat.le_refl _) (by rw [← hI.len]; omega) (by rw [← hJ.len]; omega)⟩
theorem fl_key (s : ByteArray) (κ p k g C : Int) (zs ls : List Int) (z lv : Int) (hs : s.size ≤ 9) (hz : zs.length ≤ 8) (hl : ls.length ≤ 8) :
    (∃ v0 v1 v2 v3 v4 v5 cd : Int, (cd != 0) = true ∧ (∀ (A : Option Addr) (n c : Nat) (A' : Option Addr) (n' c' : Nat) (w : World), Ints .i64 w w.heap.size A n zs → Ints .i64 w w.heap.size A' n' ls → Calls Try.prog 18 #[.agg #[.string s, .int .i64 κ, .int .i64 p, .int .i64 k, .int .i64 g, .slice A n c, .int .i64 C, .slice A' n' c'], .int .i64 z, .int .i64 lv] w (Gives (.tuple #[.agg #[.int .i64 v0, .int .i64 v1, .int .i64 v2, .int .i64 v3, .int .i64 v4, .int .i64 v5], .int .i64 cd]) w)) ∧ (∀ (A : Option Addr) (n c : Nat) (A' : Option Addr) (n' c' : Nat) (w : World), Ints .i64 w w.heap.size A n zs → Ints .i64 w w.heap.size A' n' ls → Calls Try.prog 17 #[.agg #[.string s, .int .i64 κ, .int .i64 p, .int .i64 k, .int .i64 g, .slice A n c, .int .i64 C, .slice A' n' c'], .int .i64 z, .int .i64 lv] w (Gives (.tuple #[.agg #[.int .i64 v0, .int .i64 v1, .int .i64 v2, .int .i64 v3, .int .i64 v4, .int .i64 v5], .int .i64 cd]) w))) ∨
    (∃ (D : Int) (kN hf : Nat) (Cn T N R W : Int), (∀ (A : Option Addr) (n c : Nat) (A' : Option Addr) (n' c' : Nat) (w : World), Ints .i64 w w.heap.size A n zs → Ints .i64 w w.heap.size A' n' ls → Calls Try.prog 18 #[.agg #[.string s, .int .i64 κ, .int .i64 p, .int .i64 k, .int .i64 g, .slice A n c, .int .i64 C, .slice A' n' c'], .int .i64 z, .int .i64 lv] w (Gives (.tuple #[.agg #[.int .i64 p, .int .i64 k, .int .i64 g, .int .i64 D, .int .i64 (kN : Nat), .int .i64 Cn], .int .i64 0]) w)) ∧ (∀ (A : Option Addr) (n c : Nat) (A' : Option Addr) (n' c' : Nat) (w : World), Ints .i64 w w.heap.size A n zs → Ints .i64 w w.heap.size A' n' ls → Calls Try.prog 17 #[.agg #[.string s, .int .i64 κ, .int .i64 p, .int .i64 k, .int .i64 g, .slice A n c, .int .i64 C, .slice A' n' c'], .int .i64 z, .int .i64 lv] w (Gives (.tuple #[.agg #[.int .i64 p, .int .i64 k, .int .i64 g, .int .i64 D, .int .i64 (kN : Nat), .int .i64 Cn], .int .i64 0]) w)) ∧
      (∀ (A : Option Addr) (n c : Nat) (A' : Option Addr) (n' c' : Nat) (w : World), Ints .i64 w w.heap.size A n zs → Ints .i64 w w.heap.size A' n' ls → Calls Try.prog 16 #[.agg #[.string s, .int .i64 κ, .int .i64 p, .int .i64 k, .int .i64 g, .slice A n c, .int .i64 C, .slice A' n' c'], .int .i64 z] w (GivesII N 0 w)) ∧ (∀ (A : Option Addr) (n c : Nat) (A' : Option Addr) (n' c' : Nat) (w : World), Ints .i64 w w.heap.size A n zs → Ints .i64 w w.heap.size A' n' ls → Calls Try.prog 21 #[.agg #[.string s, .int .i64 κ, .int .i64 p, .int .i64 k, .int .i64 g, .slice A n c, .int .i64 C, .slice A' n' c'], .int .i64 z, .int .i64 lv] w (GivesII R 0 w)) ∧ (∀ (A : Option Addr) (n c : Nat) (A' : Option Addr) (n' c' : Nat) (w : World), Ints .i64 w w.heap.size A n zs → Ints .i64 w w.heap.size A' n' ls → Calls Try.prog 25 #[.agg #[.string s, .int .i64 κ, .int .i64 p, .int .i64 k, .int .i64 g, .slice A n c, .int .i64 C, .slice A' n' c'], .int .i64 z, .int .i64 lv] w (GivesII hf 0 w)) ∧
      (∀ w : World, Calls Try.prog 28 #[.agg #[.int .i64 p, .int .i64 k, .int .i64 g]] w (Gives (.int .i64 W) w)) ∧
      (∀ w : World, Calls Try.prog 29 #[.agg #[.int .i64 p, .int .i64 k, .int .i64 g, .int .i64 D, .int .i64 (kN : Nat), .int .i64 Cn]] w (Gives (.bool true) w)) ∧
      IntKind.i64.wrap (Cn * kN) = T ∧ IntKind.i64.wrap (D + T) = N ∧ IntKind.i64.wrap (D * W) = R ∧ IntKind.i64.wrap ((kN : Int) / 2) = (hf : Int)) := by
  by_cases h0 : loCode (bytesI s) κ p k g zs C ls z lv = 0
  · refine .inr ?_
    obtain ⟨h1, h2, h3, h4⟩ := lo_zero h0
    obtain ⟨q, mul, W, D, K, Cn, hK, hW, hD, hKK, hCC, hW1, hW9, hDr, hKr, hRV⟩ := roV_good h0
    have hFI := fm_is h1
    have hq := qN_is hK
    have hbd := lay_bd h4
    have hsz : szCode (bytesI s) κ p k g zs C ls z = 0 := sz_0 h1 (decide_eq_true h2)
    have hec : ecV (bytesI s) κ p k g zs C ls z = D + Cn * K := by
      unfold ecV; rw [if_pos hsz, ← hD, ← hKK, ← hCC]; unfold lyD lyK lyC loD; rw [← Int.natCast_mul]; omega
    have her : erV (bytesI s) κ p k g zs C ls z lv = ((K.toNat / 2 : Nat) : Int) := by unfold erV; rw [if_pos h0, hKK]
    rw [hD, hKK, hCC] at h4 hbd
    obtain ⟨kN, rfl⟩ : ∃ kN : Nat, K = kN := ⟨K.toNat, by omega⟩
    have hm1 : 0 ≤ Cn * kN ∧ Cn * kN ≤ 1024 := by
      obtain ⟨cN, rfl⟩ : ∃ cN : Nat, Cn = cN := ⟨Cn.toNat, by omega⟩
      have : cN * kN ≤ 16 * 64 := Nat.mul_le_mul (by omega) (by omega)
      rw [← Int.natCast_mul]; omega
    have hm2 := mul_small hDr (Y := (W : Int)) (by omega)
    have wr : ∀ x : Int, -9000000 ≤ x → x ≤ 9000000 → IntKind.i64.wrap x = x := fun x h1 h2 => IntWalk.i64_in _ ⟨by omega, by omega⟩
    refine ⟨D, kN, kN / 2, Cn, Cn * kN, D + Cn * kN, D * W, W, ?_, ?_, ?_, ?_, ?_, ?_, ?_, wr _ (by omega) (by omega), wr _ (by omega) (by omega), wr _ (by omega) (by omega), ?_⟩
    · intro A n c A' n' c' w hI hJ
      have h := implLayOf s κ p k g A n c C A' n' c' w.heap.size zs ls z lv w (by omega) hI hJ (Nat.le_refl _) (by rw [← hI.len]; omega) (by rw [← hJ.len]; omega)
      rw [hD, hKK, hCC] at h
      exact h.mono (fun e w' h => ⟨h.1 h0, h.2.2⟩)
    · intro A n c A' n' c' w hI hJ
      have h := specLayOf s κ p k g A n c C A' n' c' w.heap.size zs ls z lv w (by omega) hI hJ (Nat.le_refl _) (by rw [← hI.len]; omega) (by rw [← hJ.len]; omega)
      rw [hD, hKK, hCC] at h
      exact h.mono (fun e w' h => ⟨h.1 h0, h.2.2⟩)
    · intro A n c A' n' c' w hI hJ
      have h := implElC s κ p k g A n c C A' n' c' w.heap.size zs ls z w (by omega) hI hJ (Nat.le_refl _) (by rw [← hI.len]; omega) (by rw [← hJ.len]; omega)
      rw [hsz, hec] at h
      exact h
    · intro A n c A' n' c' w hI hJ
      have h := implRoomOf s κ p k g A n c C A' n' c' w.heap.size zs ls z lv w (by omega) hI hJ (Nat.le_refl _) (by rw [← hI.len]; omega) (by rw [← hJ.len]; omega)
      rw [h0, hRV] at h
      exact h
    · intro A n c A' n' c' w hI hJ
      have h := implErrorRoom s κ p k g A n c C A' n' c' w.heap.size zs ls z lv w (by omega) hI hJ (Nat.le_refl _) (by rw [← hI.len]; omega) (by rw [← hJ.len]; omega)
      rw [h0, her, Int.toNat_natCast] at h
      exact h
    · intro w
      rw [← hW]
      exact implFw_yes hFI.fld hK w
    · intro w
      have h := implIsLayout p k g D kN Cn w (by omega) (by omega)
      rw [h4] at h
      exact h
    · exact wr _ (by omega) (by omega)
  · refine .inl ⟨0, 0, 0, 0, 0, 0, _, by simpa using h0, ?_, ?_⟩
    · intro A n c A' n' c' w hI hJ
      exact (implLayOf s κ p k g A n c C A' n' c' w.heap.size zs ls z lv w (by omega) hI hJ (Nat.le_refl _) (by rw [← hI.len]; omega) (by rw [← hJ.len]; omega)).mono (fun e w' h => ⟨h.2.1 h0, h.2.2⟩)
    · intro A n c A' n' c' w hI hJ
      exact (specLayOf s κ p k g A n c C A' n' c' w.heap.size zs ls z lv w (by omega) hI hJ (Nat.le_refl _) (by rw [← hI.len]; omega) (by rw [← hJ.len]; omega)).mono (fun e w' h => ⟨h.2.1 h0, h.2.2⟩)

set_option maxRecDepth 100000 in
set_option maxHeartbeats 16000000 in
theorem fnLayoutsWalk (a0 : Option Addr) (n0 c0 : Nat) (z0 : List Int) (w : World) (h0 : Came .u8 w a0 n0 c0 z0) :
    Calls Try.prog 9 #[.slice a0 n0 c0] w fun e w' => e = .returned (.bool true) ∧ Below w.heap.size w w' := by
  obtain ⟨hI, hnc, hcm, hwf⟩ := h0
  have HI := hide hI
  have HBY := hide (show ∀ b ∈ z0, 0 ≤ b ∧ b ≤ 255 from fun b hb => bd_u8 (hwf b hb))
  clear hI hwf
  unfold maxLen at hcm
  by_cases hbig : 4096 < n0
  · go_enter Try.func9, Try.ntmps9
    go_wp2_with fail
    refine (big_yes a0 n0 c0 w hbig (by omega)).mono ?_
    rintro e w ⟨rfl, rfl⟩
    go_wp2_with fail
    go_ret
    exact ⟨rfl, Below.refl _ _⟩
  have hn0 : n0 ≤ 4096 := by omega
  go_enter Try.func9, Try.ntmps9
  go_wp2_with fail
  refine (big_no a0 n0 c0 w hn0).mono ?_
  rintro e w ⟨rfl, rfl⟩
  go_wp2_with fail
  refine (drawLO a0 n0 c0 z0 w HI.out hn0 HBY.out).mono ?_
  rintro e w1 ⟨s, κ, p, k, γ, P, l, lc, C, P', l', lc', zs, ls, z, lv, rfl, hsz, hzf, hlf, hb⟩
  have HB1 := hide hb
  have HI1 := hide hzf.ints
  have HJ1 := hide hlf.ints
  have hz8 : l ≤ 8 := hzf.2.1
  have hl8 : l' ≤ 8 := hlf.2.1
  have e1 : zs.length = l := hzf.1
  have e2 : ls.length = l' := hlf.1
  clear hb hzf hlf HI HBY hcm hnc hbig hn0
  subst e1
  subst e2
  obtain ⟨fb, HFI, HFS⟩ := fl_fam s κ p k γ C zs ls hsz hz8 hl8
  have HFI := hide HFI
  have HFS := hide HFS
  have hfb : (fb != fb) = false := by simp
  obtain ⟨w2, hw2⟩ : ∃ w2, w1.alloc (.cells #[.string s, .int .i64 κ, .int .i64 p, .int .i64 k, .int .i64 γ, .slice P zs.length lc, .int .i64 C, .slice P' ls.length lc'] 31) = w2 := ⟨_, rfl⟩
  have hb2 : Below w1.heap.size w1 w2 := by rw [← hw2]; exact (Below.refl _ _).alloc (Nat.le_refl _) _
  have HF2 := hide (show w2.heap[w1.heap.size]? = some (.cells #[.string s, .int .i64 κ, .int .i64 p, .int .i64 k, .int .i64 γ, .slice P zs.length lc, .int .i64 C, .slice P' ls.length lc'] 31 (0, 0)) by rw [← hw2]; exact heap_alloc_new _ _)
  have HB2 := hide (HB1.out.trans (hb2.mono HB1.out.size))
  have HI2 := hide ((HI1.out.below hb2).more hb2.size)
  have HJ2 := hide ((HJ1.out.below hb2).more hb2.size)
  clear hb2
  rcases fl_key s κ p k γ C zs ls z lv hsz hz8 hl8 with ⟨v0, v1, v2, v3, v4, v5, cd, hcd, hli, hls⟩ | ⟨D, kN, hf, Cn, T, N, R, W, hli, hls, hec, hro, her, hfw, hil, g1, g2, g3, g4⟩
  · have HLI := hide hli
    have HLS := hide hls
    have hcc : (cd != cd) = false := by simp
    clear hli hls hsz hz8 hl8
    obtain ⟨⟨t0, t1, t2, t3, t4, t5, t6, t7⟩, _⟩ := row8 HF2.out
    go_wp2_with fail
    clear hw2 t0 t1 t2 t3 t4 t5 t6 t7
    refine (HLI.out _ _ _ _ _ _ _ HI2.out HJ2.out).mono ?_
    rintro e w3 ⟨rfl, hb⟩
    have HF3 := hide (heap_nextG HF2.out hb)
    have HB3 := hide (HB2.out.trans (hb.mono HB2.out.size))
    have HI3 := hide ((HI2.out.below hb).more hb.size)
    have HJ3 := hide ((HJ2.out.below hb).more hb.size)
    clear hb
    obtain ⟨w4, hw4⟩ : ∃ q, w3.alloc (.cells #[.int .i64 v0, .int .i64 v1, .int .i64 v2, .int .i64 v3, .int .i64 v4, .int .i64 v5] 39) = q := ⟨_, rfl⟩
    have hbz : Below w3.heap.size w3 w4 := by rw [← hw4]; exact (Below.refl _ _).alloc (Nat.le_refl _) _
    have HL4 := hide (show w4.heap[w3.heap.size]? = some (.cells #[.int .i64 v0, .int .i64 v1, .int .i64 v2, .int .i64 v3, .int .i64 v4, .int .i64 v5] 39 (0, 0)) by rw [← hw4]; exact heap_alloc_new _ _)
    have HF4 := hide (heap_nextG HF3.out hbz)
    have HB4 := hide (HB3.out.trans (hbz.mono HB3.out.size))
    have HI4 := hide ((HI3.out.below hbz).more hbz.size)
    have HJ4 := hide ((HJ3.out.below hbz).more hbz.size)
    clear hbz
    obtain ⟨⟨t0, t1, t2, t3, t4, t5, t6, t7⟩, _⟩ := row8 HF4.out
    go_wp2_with fail
    clear hw4 t0 t1 t2 t3 t4 t5 t6 t7
    refine (HLS.out _ _ _ _ _ _ _ HI4.out HJ4.out).mono ?_
    rintro e w5 ⟨rfl, hb⟩
    have HF5 := hide (heap_nextG HF4.out hb)
    have HL5 := hide (heap_nextG HL4.out hb)
    have HB5 := hide (HB4.out.trans (hb.mono HB4.out.size))
    have HI5 := hide ((HI4.out.below hb).more hb.size)
    have HJ5 := hide ((HJ4.out.below hb).more hb.size)
    clear hb
    obtain ⟨w6, hw6⟩ : ∃ q, w5.alloc (.cells #[.int .i64 v0, .int .i64 v1, .int .i64 v2, .int .i64 v3, .int .i64 v4, .int .i64 v5] 39) = q := ⟨_, rfl⟩
    have hbz : Below w5.heap.size w5 w6 := by rw [← hw6]; exact (Below.refl _ _).alloc (Nat.le_refl _) _
    have HM6 := hide (show w6.heap[w5.heap.size]? = some (.cells #[.int .i64 v0, .int .i64 v1, .int .i64 v2, .int .i64 v3, .int .i64 v4, .int .i64 v5] 39 (0, 0)) by rw [← hw6]; exact heap_alloc_new _ _)
    have HF6 := hide (heap_nextG HF5.out hbz)
    have HL6 := hide (heap_nextG HL5.out hbz)
    have HB6 := hide (HB5.out.trans (hbz.mono HB5.out.size))
    have HI6 := hide ((HI5.out.below hbz).more hbz.size)
    have HJ6 := hide ((HJ5.out.below hbz).more hbz.size)
    clear hbz
    have hbd := (Below.refl w6.heap.size w6).drew
    have HFd := hide (heap_nextG HF6.out hbd)
    have HLd := hide (heap_nextG HL6.out hbd)
    have HMd := hide (heap_nextG HM6.out hbd)
    have HBd := hide (HB6.out.trans (hbd.mono HB6.out.size))
    have HId := hide ((HI6.out.below hbd).more hbd.size)
    have HJd := hide ((HJ6.out.below hbd).more hbd.size)
    clear hbd
    obtain ⟨⟨t0, t1, t2, t3, t4, t5, t6, t7⟩, _⟩ := row8 HF6.out
    obtain ⟨y0, y1, y2, y3, y4, y5⟩ := row6A HL6.out
    obtain ⟨m0, m1, m2, m3, m4, m5⟩ := row6A HM6.out
    go_wp2_with fail
    clear hw6 y0 y1 y2 y3 y4 y5 m0 m1 m2 m3 m4 m5 t0 t1 t2 t3 t4 t5 t6 t7
    refine tail_begin (fun w' => (w'.cell? ⟨w1.heap.size, 0, none⟩ = some (.string s) ∧ w'.cell? ⟨w1.heap.size, 1, none⟩ = some (.int .i64 κ) ∧ w'.cell? ⟨w1.heap.size, 2, none⟩ = some (.int .i64 p) ∧ w'.cell? ⟨w1.heap.size, 3, none⟩ = some (.int .i64 k) ∧ w'.cell? ⟨w1.heap.size, 4, none⟩ = some (.int .i64 γ) ∧ w'.cell? ⟨w1.heap.size, 5, none⟩ = some (.slice P zs.length lc) ∧ w'.cell? ⟨w1.heap.size, 6, none⟩ = some (.int .i64 C) ∧ w'.cell? ⟨w1.heap.size, 7, none⟩ = some (.slice P' ls.length lc')) ∧ (w'.cell? ⟨w3.heap.size, 0, none⟩ = some (.int .i64 v0) ∧ w'.cell? ⟨w3.heap.size, 1, none⟩ = some (.int .i64 v1) ∧ w'.cell? ⟨w3.heap.size, 2, none⟩ = some (.int .i64 v2) ∧ w'.cell? ⟨w3.heap.size, 3, none⟩ = some (.int .i64 v3) ∧ w'.cell? ⟨w3.heap.size, 4, none⟩ = some (.int .i64 v4) ∧ w'.cell? ⟨w3.heap.size, 5, none⟩ = some (.int .i64 v5)) ∧ (w'.cell? ⟨w5.heap.size, 0, none⟩ = some (.int .i64 v0) ∧ w'.cell? ⟨w5.heap.size, 1, none⟩ = some (.int .i64 v1) ∧ w'.cell? ⟨w5.heap.size, 2, none⟩ = some (.int .i64 v2) ∧ w'.cell? ⟨w5.heap.size, 3, none⟩ = some (.int .i64 v3) ∧ w'.cell? ⟨w5.heap.size, 4, none⟩ = some (.int .i64 v4) ∧ w'.cell? ⟨w5.heap.size, 5, none⟩ = some (.int .i64 v5))) 15 (by kernel_rfl) ⟨(row8 HFd.out).1, row6A HLd.out, row6A HMd.out⟩ (fun hS' => ?_)
    obtain ⟨wd, hwd⟩ : ∃ q, w6.drew = q := ⟨_, rfl⟩
    rw [hwd] at hS' HFd HLd HMd HBd HId HJd ⊢
    clear hwd
    refine tail_take2 0 rfl (by kernel_rfl) (by kernel_rfl) (by kernel_rfl) (by decide) (fun _ _ _ h => h) (by rfl) (v := ?_) ?_ (by assumption) ?_
    rotate_left 1
    · intro w' hS'; obtain ⟨⟨d0, d1, d2, d3, d4, d5, d6, d7⟩, ⟨y0, y1, y2, y3, y4, y5⟩, m0, m1, m2, m3, m4, m5⟩ := hS'; go_simp; try with_reducible rfl
    try simp only [Act.put, List.setIfInBounds_toArray, List.set_cons_zero, List.set_cons_succ]
    refine tail_take2 1 rfl (by kernel_rfl) (by kernel_rfl) (by kernel_rfl) (by decide) (fun _ _ _ h => h) (by rfl) (v := ?_) ?_ (by assumption) ?_
    rotate_left 1
    · intro w' hS'; obtain ⟨⟨d0, d1, d2, d3, d4, d5, d6, d7⟩, ⟨y0, y1, y2, y3, y4, y5⟩, m0, m1, m2, m3, m4, m5⟩ := hS'; go_simp; try with_reducible rfl
    try simp only [Act.put, List.setIfInBounds_toArray, List.set_cons_zero, List.set_cons_succ]
    refine tail_take2 2 rfl (by kernel_rfl) (by kernel_rfl) (by kernel_rfl) (by decide) (fun _ _ _ h => h) (by rfl) (v := ?_) ?_ (by assumption) ?_
    rotate_left 1
    · intro w' hS'; obtain ⟨⟨d0, d1, d2, d3, d4, d5, d6, d7⟩, ⟨y0, y1, y2, y3, y4, y5⟩, m0, m1, m2, m3, m4, m5⟩ := hS'; go_simp; try with_reducible rfl
    try simp only [Act.put, List.setIfInBounds_toArray, List.set_cons_zero, List.set_cons_succ]
    refine tail_take2 3 rfl (by kernel_rfl) (by kernel_rfl) (by kernel_rfl) (by decide) (fun _ _ _ h => h) (by rfl) (v := ?_) ?_ (by assumption) ?_
    rotate_left 1
    · intro w' hS'; obtain ⟨⟨d0, d1, d2, d3, d4, d5, d6, d7⟩, ⟨y0, y1, y2, y3, y4, y5⟩, m0, m1, m2, m3, m4, m5⟩ := hS'; go_simp; try with_reducible rfl
    try simp only [Act.put, List.setIfInBounds_toArray, List.set_cons_zero, List.set_cons_succ]
    refine tail_take2 4 rfl (by kernel_rfl) (by kernel_rfl) (by kernel_rfl) (by decide) (fun _ _ _ h => h) (by rfl) (v := ?_) ?_ (by assumption) ?_
    rotate_left 1
    · intro w' hS'; obtain ⟨⟨d0, d1, d2, d3, d4, d5, d6, d7⟩, ⟨y0, y1, y2, y3, y4, y5⟩, m0, m1, m2, m3, m4, m5⟩ := hS'; go_simp; try with_reducible rfl
    try simp only [Act.put, List.setIfInBounds_toArray, List.set_cons_zero, List.set_cons_succ]
    refine tail_take2 5 rfl (by kernel_rfl) (by kernel_rfl) (by kernel_rfl) (by decide) (fun _ _ _ h => h) (by rfl) (v := ?_) ?_ (by assumption) ?_
    rotate_left 1
    · intro w' hS'; obtain ⟨⟨d0, d1, d2, d3, d4, d5, d6, d7⟩, ⟨y0, y1, y2, y3, y4, y5⟩, m0, m1, m2, m3, m4, m5⟩ := hS'; go_simp; try with_reducible rfl
    try simp only [Act.put, List.setIfInBounds_toArray, List.set_cons_zero, List.set_cons_succ]
    refine tail_take2 6 rfl (by kernel_rfl) (by kernel_rfl) (by kernel_rfl) (by decide) (fun _ _ _ h => h) (by rfl) (v := ?_) ?_ (by assumption) ?_
    rotate_left 1
    · intro w' hS'; obtain ⟨⟨d0, d1, d2, d3, d4, d5, d6, d7⟩, ⟨y0, y1, y2, y3, y4, y5⟩, m0, m1, m2, m3, m4, m5⟩ := hS'; go_simp; try with_reducible rfl
    try simp only [Act.put, List.setIfInBounds_toArray, List.set_cons_zero, List.set_cons_succ]
    refine tail_take2 7 rfl (by kernel_rfl) (by kernel_rfl) (by kernel_rfl) (by decide) (fun _ _ _ h => h) (by rfl) (v := ?_) ?_ (by assumption) ?_
    rotate_left 1
    · intro w' hS'; obtain ⟨⟨d0, d1, d2, d3, d4, d5, d6, d7⟩, ⟨y0, y1, y2, y3, y4, y5⟩, m0, m1, m2, m3, m4, m5⟩ := hS'; go_simp; try with_reducible rfl
    try simp only [Act.put, List.setIfInBounds_toArray, List.set_cons_zero, List.set_cons_succ]
    refine tail_take2 8 rfl (by kernel_rfl) (by kernel_rfl) (by kernel_rfl) (by decide) (fun _ _ _ h => h) (by rfl) (v := ?_) ?_ (by assumption) ?_
    rotate_left 1
    · intro w' hS'; obtain ⟨⟨d0, d1, d2, d3, d4, d5, d6, d7⟩, ⟨y0, y1, y2, y3, y4, y5⟩, m0, m1, m2, m3, m4, m5⟩ := hS'; go_simp; try with_reducible rfl
    try simp only [Act.put, List.setIfInBounds_toArray, List.set_cons_zero, List.set_cons_succ]
    refine tail_take2 9 rfl (by kernel_rfl) (by kernel_rfl) (by kernel_rfl) (by decide) (fun _ _ _ h => h) (by rfl) (v := ?_) ?_ (by assumption) ?_
    rotate_left 1
    · intro w' hS'; obtain ⟨⟨d0, d1, d2, d3, d4, d5, d6, d7⟩, ⟨y0, y1, y2, y3, y4, y5⟩, m0, m1, m2, m3, m4, m5⟩ := hS'; go_simp; try with_reducible rfl
    try simp only [Act.put, List.setIfInBounds_toArray, List.set_cons_zero, List.set_cons_succ]
    refine tail_take2 11 rfl (by kernel_rfl) (by kernel_rfl) (by kernel_rfl) (by decide) (fun _ _ _ h => h) (by rfl) (v := ?_) ?_ (by assumption) ?_
    rotate_left 1
    · intro w' hS'; obtain ⟨⟨d0, d1, d2, d3, d4, d5, d6, d7⟩, ⟨y0, y1, y2, y3, y4, y5⟩, m0, m1, m2, m3, m4, m5⟩ := hS'; go_simp; try with_reducible rfl
    try simp only [Act.put, List.setIfInBounds_toArray, List.set_cons_zero, List.set_cons_succ]
    refine tail_callG 10 rfl (by kernel_rfl) (by rfl) (fun K hK => ?_)
    go_simp
    go_at_call 13; refine (HFI.out _ _ _ _ _ _ _ HId.out HJd.out).mono ?_; rintro e we ⟨rfl, hb⟩; have HFe := hide (heap_nextG HFd.out hb); have HLe := hide (heap_nextG HLd.out hb); have HMe := hide (heap_nextG HMd.out hb); have HBe := hide (HBd.out.trans (hb.mono HBd.out.size)); have HIe := hide ((HId.out.below hb).more hb.size); have HJe := hide ((HJd.out.below hb).more hb.size); clear hb
    refine hK.out _ _ (by (try dsimp only); exact ⟨(row8 HFe.out).1, row6A HLe.out, row6A HMe.out⟩) (fun hS' => ?_)
    clear hK K
    try simp only [Act.put, List.setIfInBounds_toArray, List.set_cons_zero, List.set_cons_succ]
    refine tail_callG 12 rfl (by kernel_rfl) (by rfl) (fun K hK => ?_)
    go_simp
    go_at_call 11; refine (HFS.out _ _ _ _ _ _ _ HIe.out HJe.out).mono ?_; rintro e wf ⟨rfl, hb⟩; have HFf := hide (heap_nextG HFe.out hb); have HLf := hide (heap_nextG HLe.out hb); have HMf := hide (heap_nextG HMe.out hb); have HBf := hide (HBe.out.trans (hb.mono HBe.out.size)); have HIf := hide ((HIe.out.below hb).more hb.size); have HJf := hide ((HJe.out.below hb).more hb.size); clear hb
    refine hK.out _ _ (by (try dsimp only); exact ⟨(row8 HFf.out).1, row6A HLf.out, row6A HMf.out⟩) (fun hS' => ?_)
    clear hK K
    try simp only [Act.put, List.setIfInBounds_toArray, List.set_cons_zero, List.set_cons_succ]
    refine tail_take2 13 rfl (by kernel_rfl) (by kernel_rfl) (by kernel_rfl) (by decide) (fun _ _ _ h => h) (by rfl) (v := ?_) ?_ (by assumption) ?_
    rotate_left 1
    · intro w' hS'; obtain ⟨⟨d0, d1, d2, d3, d4, d5, d6, d7⟩, ⟨y0, y1, y2, y3, y4, y5⟩, m0, m1, m2, m3, m4, m5⟩ := hS'; go_simp; try with_reducible rfl
    try simp only [Act.put, List.setIfInBounds_toArray, List.set_cons_zero, List.set_cons_succ]
    refine tail_take2 14 rfl (by kernel_rfl) (by kernel_rfl) (by kernel_rfl) (by decide) (fun _ _ _ h => h) (by rfl) (v := ?_) ?_ (by assumption) ?_
    rotate_left 1
    · intro w' hS'; obtain ⟨⟨d0, d1, d2, d3, d4, d5, d6, d7⟩, ⟨y0, y1, y2, y3, y4, y5⟩, m0, m1, m2, m3, m4, m5⟩ := hS'; go_simp; try with_reducible rfl
    try simp only [Act.put, List.setIfInBounds_toArray, List.set_cons_zero, List.set_cons_succ]
    refine tail_end (by kernel_rfl) ?_
    clear hS'
    go_wp2_with fail
    go_ret
    exact ⟨rfl, HBf.out⟩
  · have HLI := hide hli
    have HLS := hide hls
    have HEC := hide hec
    have HRO := hide hro
    have HER := hide her
    have HFW := hide hfw
    have HIL := hide hil
    clear hli hls hec hro her hfw hil hsz hz8 hl8
    obtain ⟨⟨t0, t1, t2, t3, t4, t5, t6, t7⟩, _⟩ := row8 HF2.out
    go_wp2_with fail
    clear hw2 t0 t1 t2 t3 t4 t5 t6 t7
    refine (HLI.out _ _ _ _ _ _ _ HI2.out HJ2.out).mono ?_
    rintro e w3 ⟨rfl, hb⟩
    have HF3 := hide (heap_nextG HF2.out hb)
    have HB3 := hide (HB2.out.trans (hb.mono HB2.out.size))
    have HI3 := hide ((HI2.out.below hb).more hb.size)
    have HJ3 := hide ((HJ2.out.below hb).more hb.size)
    clear hb
    obtain ⟨w4, hw4⟩ : ∃ q, w3.alloc (.cells #[.int .i64 p, .int .i64 k, .int .i64 γ, .int .i64 D, .int .i64 (kN : Nat), .int .i64 Cn] 39) = q := ⟨_, rfl⟩
    have hbz : Below w3.heap.size w3 w4 := by rw [← hw4]; exact (Below.refl _ _).alloc (Nat.le_refl _) _
    have HL4 := hide (show w4.heap[w3.heap.size]? = some (.cells #[.int .i64 p, .int .i64 k, .int .i64 γ, .int .i64 D, .int .i64 (kN : Nat), .int .i64 Cn] 39 (0, 0)) by rw [← hw4]; exact heap_alloc_new _ _)
    have HF4 := hide (heap_nextG HF3.out hbz)
    have HB4 := hide (HB3.out.trans (hbz.mono HB3.out.size))
    have HI4 := hide ((HI3.out.below hbz).more hbz.size)
    have HJ4 := hide ((HJ3.out.below hbz).more hbz.size)
    clear hbz
    obtain ⟨⟨t0, t1, t2, t3, t4, t5, t6, t7⟩, _⟩ := row8 HF4.out
    go_wp2_with fail
    clear hw4 t0 t1 t2 t3 t4 t5 t6 t7
    refine (HLS.out _ _ _ _ _ _ _ HI4.out HJ4.out).mono ?_
    rintro e w5 ⟨rfl, hb⟩
    have HF5 := hide (heap_nextG HF4.out hb)
    have HL5 := hide (heap_nextG HL4.out hb)
    have HB5 := hide (HB4.out.trans (hb.mono HB4.out.size))
    have HI5 := hide ((HI4.out.below hb).more hb.size)
    have HJ5 := hide ((HJ4.out.below hb).more hb.size)
    clear hb
    obtain ⟨w6, hw6⟩ : ∃ q, w5.alloc (.cells #[.int .i64 p, .int .i64 k, .int .i64 γ, .int .i64 D, .int .i64 (kN : Nat), .int .i64 Cn] 39) = q := ⟨_, rfl⟩
    have hbz : Below w5.heap.size w5 w6 := by rw [← hw6]; exact (Below.refl _ _).alloc (Nat.le_refl _) _
    have HM6 := hide (show w6.heap[w5.heap.size]? = some (.cells #[.int .i64 p, .int .i64 k, .int .i64 γ, .int .i64 D, .int .i64 (kN : Nat), .int .i64 Cn] 39 (0, 0)) by rw [← hw6]; exact heap_alloc_new _ _)
    have HF6 := hide (heap_nextG HF5.out hbz)
    have HL6 := hide (heap_nextG HL5.out hbz)
    have HB6 := hide (HB5.out.trans (hbz.mono HB5.out.size))
    have HI6 := hide ((HI5.out.below hbz).more hbz.size)
    have HJ6 := hide ((HJ5.out.below hbz).more hbz.size)
    clear hbz
    have hbd := (Below.refl w6.heap.size w6).drew
    have HFd := hide (heap_nextG HF6.out hbd)
    have HLd := hide (heap_nextG HL6.out hbd)
    have HMd := hide (heap_nextG HM6.out hbd)
    have HBd := hide (HB6.out.trans (hbd.mono HB6.out.size))
    have HId := hide ((HI6.out.below hbd).more hbd.size)
    have HJd := hide ((HJ6.out.below hbd).more hbd.size)
    clear hbd
    obtain ⟨⟨t0, t1, t2, t3, t4, t5, t6, t7⟩, _⟩ := row8 HF6.out
    obtain ⟨y0, y1, y2, y3, y4, y5⟩ := row6A HL6.out
    obtain ⟨m0, m1, m2, m3, m4, m5⟩ := row6A HM6.out
    go_wp2_with fail
    clear hw6 y0 y1 y2 y3 y4 y5 m0 m1 m2 m3 m4 m5 t0 t1 t2 t3 t4 t5 t6 t7
    refine tail_begin (fun w' => (w'.cell? ⟨w1.heap.size, 0, none⟩ = some (.string s) ∧ w'.cell? ⟨w1.heap.size, 1, none⟩ = some (.int .i64 κ) ∧ w'.cell? ⟨w1.heap.size, 2, none⟩ = some (.int .i64 p) ∧ w'.cell? ⟨w1.heap.size, 3, none⟩ = some (.int .i64 k) ∧ w'.cell? ⟨w1.heap.size, 4, none⟩ = some (.int .i64 γ) ∧ w'.cell? ⟨w1.heap.size, 5, none⟩ = some (.slice P zs.length lc) ∧ w'.cell? ⟨w1.heap.size, 6, none⟩ = some (.int .i64 C) ∧ w'.cell? ⟨w1.heap.size, 7, none⟩ = some (.slice P' ls.length lc')) ∧ (w'.cell? ⟨w3.heap.size, 0, none⟩ = some (.int .i64 p) ∧ w'.cell? ⟨w3.heap.size, 1, none⟩ = some (.int .i64 k) ∧ w'.cell? ⟨w3.heap.size, 2, none⟩ = some (.int .i64 γ) ∧ w'.cell? ⟨w3.heap.size, 3, none⟩ = some (.int .i64 D) ∧ w'.cell? ⟨w3.heap.size, 4, none⟩ = some (.int .i64 (kN : Nat)) ∧ w'.cell? ⟨w3.heap.size, 5, none⟩ = some (.int .i64 Cn)) ∧ (w'.cell? ⟨w5.heap.size, 0, none⟩ = some (.int .i64 p) ∧ w'.cell? ⟨w5.heap.size, 1, none⟩ = some (.int .i64 k) ∧ w'.cell? ⟨w5.heap.size, 2, none⟩ = some (.int .i64 γ) ∧ w'.cell? ⟨w5.heap.size, 3, none⟩ = some (.int .i64 D) ∧ w'.cell? ⟨w5.heap.size, 4, none⟩ = some (.int .i64 (kN : Nat)) ∧ w'.cell? ⟨w5.heap.size, 5, none⟩ = some (.int .i64 Cn))) 15 (by kernel_rfl) ⟨(row8 HFd.out).1, row6A HLd.out, row6A HMd.out⟩ (fun hS' => ?_)
    obtain ⟨wd, hwd⟩ : ∃ q, w6.drew = q := ⟨_, rfl⟩
    rw [hwd] at hS' HFd HLd HMd HBd HId HJd ⊢
    clear hwd
    refine tail_take2 0 rfl (by kernel_rfl) (by kernel_rfl) (by kernel_rfl) (by decide) (fun _ _ _ h => h) (by rfl) (v := ?_) ?_ (by assumption) ?_
    rotate_left 1
    · intro w' hS'; obtain ⟨⟨d0, d1, d2, d3, d4, d5, d6, d7⟩, ⟨y0, y1, y2, y3, y4, y5⟩, m0, m1, m2, m3, m4, m5⟩ := hS'; go_simp; try with_reducible rfl
    try simp only [Act.put, List.setIfInBounds_toArray, List.set_cons_zero, List.set_cons_succ]
    refine tail_take2 1 rfl (by kernel_rfl) (by kernel_rfl) (by kernel_rfl) (by decide) (fun _ _ _ h => h) (by rfl) (v := ?_) ?_ (by assumption) ?_
    rotate_left 1
    · intro w' hS'; obtain ⟨⟨d0, d1, d2, d3, d4, d5, d6, d7⟩, ⟨y0, y1, y2, y3, y4, y5⟩, m0, m1, m2, m3, m4, m5⟩ := hS'; go_simp; try with_reducible rfl
    try simp only [Act.put, List.setIfInBounds_toArray, List.set_cons_zero, List.set_cons_succ]
    refine tail_take2 2 rfl (by kernel_rfl) (by kernel_rfl) (by kernel_rfl) (by decide) (fun _ _ _ h => h) (by rfl) (v := ?_) ?_ (by assumption) ?_
    rotate_left 1
    · intro w' hS'; obtain ⟨⟨d0, d1, d2, d3, d4, d5, d6, d7⟩, ⟨y0, y1, y2, y3, y4, y5⟩, m0, m1, m2, m3, m4, m5⟩ := hS'; go_simp; try with_reducible rfl
    try simp only [Act.put, List.setIfInBounds_toArray, List.set_cons_zero, List.set_cons_succ]
    refine tail_take2 3 rfl (by kernel_rfl) (by kernel_rfl) (by kernel_rfl) (by decide) (fun _ _ _ h => h) (by rfl) (v := ?_) ?_ (by assumption) ?_
    rotate_left 1
    · intro w' hS'; obtain ⟨⟨d0, d1, d2, d3, d4, d5, d6, d7⟩, ⟨y0, y1, y2, y3, y4, y5⟩, m0, m1, m2, m3, m4, m5⟩ := hS'; go_simp; try with_reducible rfl
    try simp only [Act.put, List.setIfInBounds_toArray, List.set_cons_zero, List.set_cons_succ]
    refine tail_take2 4 rfl (by kernel_rfl) (by kernel_rfl) (by kernel_rfl) (by decide) (fun _ _ _ h => h) (by rfl) (v := ?_) ?_ (by assumption) ?_
    rotate_left 1
    · intro w' hS'; obtain ⟨⟨d0, d1, d2, d3, d4, d5, d6, d7⟩, ⟨y0, y1, y2, y3, y4, y5⟩, m0, m1, m2, m3, m4, m5⟩ := hS'; go_simp; try with_reducible rfl
    try simp only [Act.put, List.setIfInBounds_toArray, List.set_cons_zero, List.set_cons_succ]
    refine tail_take2 5 rfl (by kernel_rfl) (by kernel_rfl) (by kernel_rfl) (by decide) (fun _ _ _ h => h) (by rfl) (v := ?_) ?_ (by assumption) ?_
    rotate_left 1
    · intro w' hS'; obtain ⟨⟨d0, d1, d2, d3, d4, d5, d6, d7⟩, ⟨y0, y1, y2, y3, y4, y5⟩, m0, m1, m2, m3, m4, m5⟩ := hS'; go_simp; try with_reducible rfl
    try simp only [Act.put, List.setIfInBounds_toArray, List.set_cons_zero, List.set_cons_succ]
    refine tail_take2 6 rfl (by kernel_rfl) (by kernel_rfl) (by kernel_rfl) (by decide) (fun _ _ _ h => h) (by rfl) (v := ?_) ?_ (by assumption) ?_
    rotate_left 1
    · intro w' hS'; obtain ⟨⟨d0, d1, d2, d3, d4, d5, d6, d7⟩, ⟨y0, y1, y2, y3, y4, y5⟩, m0, m1, m2, m3, m4, m5⟩ := hS'; go_simp; try with_reducible rfl
    try simp only [Act.put, List.setIfInBounds_toArray, List.set_cons_zero, List.set_cons_succ]
    refine tail_take2 7 rfl (by kernel_rfl) (by kernel_rfl) (by kernel_rfl) (by decide) (fun _ _ _ h => h) (by rfl) (v := ?_) ?_ (by assumption) ?_
    rotate_left 1
    · intro w' hS'; obtain ⟨⟨d0, d1, d2, d3, d4, d5, d6, d7⟩, ⟨y0, y1, y2, y3, y4, y5⟩, m0, m1, m2, m3, m4, m5⟩ := hS'; go_simp; try with_reducible rfl
    try simp only [Act.put, List.setIfInBounds_toArray, List.set_cons_zero, List.set_cons_succ]
    refine tail_take2 8 rfl (by kernel_rfl) (by kernel_rfl) (by kernel_rfl) (by decide) (fun _ _ _ h => h) (by rfl) (v := ?_) ?_ (by assumption) ?_
    rotate_left 1
    · intro w' hS'; obtain ⟨⟨d0, d1, d2, d3, d4, d5, d6, d7⟩, ⟨y0, y1, y2, y3, y4, y5⟩, m0, m1, m2, m3, m4, m5⟩ := hS'; go_simp; try with_reducible rfl
    try simp only [Act.put, List.setIfInBounds_toArray, List.set_cons_zero, List.set_cons_succ]
    refine tail_take2 9 rfl (by kernel_rfl) (by kernel_rfl) (by kernel_rfl) (by decide) (fun _ _ _ h => h) (by rfl) (v := ?_) ?_ (by assumption) ?_
    rotate_left 1
    · intro w' hS'; obtain ⟨⟨d0, d1, d2, d3, d4, d5, d6, d7⟩, ⟨y0, y1, y2, y3, y4, y5⟩, m0, m1, m2, m3, m4, m5⟩ := hS'; go_simp; try with_reducible rfl
    try simp only [Act.put, List.setIfInBounds_toArray, List.set_cons_zero, List.set_cons_succ]
    refine tail_take2 11 rfl (by kernel_rfl) (by kernel_rfl) (by kernel_rfl) (by decide) (fun _ _ _ h => h) (by rfl) (v := ?_) ?_ (by assumption) ?_
    rotate_left 1
    · intro w' hS'; obtain ⟨⟨d0, d1, d2, d3, d4, d5, d6, d7⟩, ⟨y0, y1, y2, y3, y4, y5⟩, m0, m1, m2, m3, m4, m5⟩ := hS'; go_simp; try with_reducible rfl
    try simp only [Act.put, List.setIfInBounds_toArray, List.set_cons_zero, List.set_cons_succ]
    refine tail_callG 10 rfl (by kernel_rfl) (by rfl) (fun K hK => ?_)
    go_simp
    go_at_call 13; refine (HFI.out _ _ _ _ _ _ _ HId.out HJd.out).mono ?_; rintro e we ⟨rfl, hb⟩; have HFe := hide (heap_nextG HFd.out hb); have HLe := hide (heap_nextG HLd.out hb); have HMe := hide (heap_nextG HMd.out hb); have HBe := hide (HBd.out.trans (hb.mono HBd.out.size)); have HIe := hide ((HId.out.below hb).more hb.size); have HJe := hide ((HJd.out.below hb).more hb.size); clear hb
    refine hK.out _ _ (by (try dsimp only); exact ⟨(row8 HFe.out).1, row6A HLe.out, row6A HMe.out⟩) (fun hS' => ?_)
    clear hK K
    try simp only [Act.put, List.setIfInBounds_toArray, List.set_cons_zero, List.set_cons_succ]
    refine tail_callG 12 rfl (by kernel_rfl) (by rfl) (fun K hK => ?_)
    go_simp
    go_at_call 11; refine (HFS.out _ _ _ _ _ _ _ HIe.out HJe.out).mono ?_; rintro e wf ⟨rfl, hb⟩; have HFf := hide (heap_nextG HFe.out hb); have HLf := hide (heap_nextG HLe.out hb); have HMf := hide (heap_nextG HMe.out hb); have HBf := hide (HBe.out.trans (hb.mono HBe.out.size)); have HIf := hide ((HIe.out.below hb).more hb.size); have HJf := hide ((HJe.out.below hb).more hb.size); clear hb
    refine hK.out _ _ (by (try dsimp only); exact ⟨(row8 HFf.out).1, row6A HLf.out, row6A HMf.out⟩) (fun hS' => ?_)
    clear hK K
    try simp only [Act.put, List.setIfInBounds_toArray, List.set_cons_zero, List.set_cons_succ]
    refine tail_take2 13 rfl (by kernel_rfl) (by kernel_rfl) (by kernel_rfl) (by decide) (fun _ _ _ h => h) (by rfl) (v := ?_) ?_ (by assumption) ?_
    rotate_left 1
    · intro w' hS'; obtain ⟨⟨d0, d1, d2, d3, d4, d5, d6, d7⟩, ⟨y0, y1, y2, y3, y4, y5⟩, m0, m1, m2, m3, m4, m5⟩ := hS'; go_simp; try with_reducible rfl
    try simp only [Act.put, List.setIfInBounds_toArray, List.set_cons_zero, List.set_cons_succ]
    refine tail_take2 14 rfl (by kernel_rfl) (by kernel_rfl) (by kernel_rfl) (by decide) (fun _ _ _ h => h) (by rfl) (v := ?_) ?_ (by assumption) ?_
    rotate_left 1
    · intro w' hS'; obtain ⟨⟨d0, d1, d2, d3, d4, d5, d6, d7⟩, ⟨y0, y1, y2, y3, y4, y5⟩, m0, m1, m2, m3, m4, m5⟩ := hS'; go_simp; try with_reducible rfl
    try simp only [Act.put, List.setIfInBounds_toArray, List.set_cons_zero, List.set_cons_succ]
    refine tail_end (by kernel_rfl) ?_
    clear hS'
    obtain ⟨⟨t0, t1, t2, t3, t4, t5, t6, t7⟩, _⟩ := row8 HFf.out
    go_wp2_with fail
    clear t0 t1 t2 t3 t4 t5 t6 t7
    refine (HEC.out _ _ _ _ _ _ _ HIf.out HJf.out).mono ?_
    rintro e wg ⟨rfl, hb⟩
    have HFg := hide (heap_nextG HFf.out hb)
    have HLg := hide (heap_nextG HLf.out hb)
    have HBg := hide (HBf.out.trans (hb.mono HBf.out.size))
    have HIg := hide ((HIf.out.below hb).more hb.size)
    have HJg := hide ((HJf.out.below hb).more hb.size)
    clear hb
    obtain ⟨⟨t0, t1, t2, t3, t4, t5, t6, t7⟩, _⟩ := row8 HFg.out
    go_wp2_with fail
    clear t0 t1 t2 t3 t4 t5 t6 t7
    refine (HRO.out _ _ _ _ _ _ _ HIg.out HJg.out).mono ?_
    rintro e wh ⟨rfl, hb⟩
    have HFh := hide (heap_nextG HFg.out hb)
    have HLh := hide (heap_nextG HLg.out hb)
    have HBh := hide (HBg.out.trans (hb.mono HBg.out.size))
    have HIh := hide ((HIg.out.below hb).more hb.size)
    have HJh := hide ((HJg.out.below hb).more hb.size)
    clear hb
    obtain ⟨⟨t0, t1, t2, t3, t4, t5, t6, t7⟩, _⟩ := row8 HFh.out
    go_wp2_with fail
    clear t0 t1 t2 t3 t4 t5 t6 t7
    refine (HER.out _ _ _ _ _ _ _ HIh.out HJh.out).mono ?_
    rintro e wi ⟨rfl, hb⟩
    have HFi := hide (heap_nextG HFh.out hb)
    have HLi := hide (heap_nextG HLh.out hb)
    have HBi := hide (HBh.out.trans (hb.mono HBh.out.size))
    have HIi := hide ((HIh.out.below hb).more hb.size)
    have HJi := hide ((HJh.out.below hb).more hb.size)
    clear hb
    have hbd := (Below.refl wi.heap.size wi).drew
    have HFx := hide (heap_nextG HFi.out hbd)
    have HLx := hide (heap_nextG HLi.out hbd)
    have HBx := hide (HBi.out.trans (hbd.mono HBi.out.size))
    have HIx := hide ((HIi.out.below hbd).more hbd.size)
    have HJx := hide ((HJi.out.below hbd).more hbd.size)
    clear hbd
    obtain ⟨⟨t0, t1, t2, t3, t4, t5, t6, t7⟩, _⟩ := row8 HFi.out
    obtain ⟨y0, y1, y2, y3, y4, y5⟩ := row6A HLi.out
    go_wp2_with fail
    clear y0 y1 y2 y3 y4 y5 t0 t1 t2 t3 t4 t5 t6 t7
    refine tail_begin (fun w' => (w'.cell? ⟨w1.heap.size, 0, none⟩ = some (.string s) ∧ w'.cell? ⟨w1.heap.size, 1, none⟩ = some (.int .i64 κ) ∧ w'.cell? ⟨w1.heap.size, 2, none⟩ = some (.int .i64 p) ∧ w'.cell? ⟨w1.heap.size, 3, none⟩ = some (.int .i64 k) ∧ w'.cell? ⟨w1.heap.size, 4, none⟩ = some (.int .i64 γ) ∧ w'.cell? ⟨w1.heap.size, 5, none⟩ = some (.slice P zs.length lc) ∧ w'.cell? ⟨w1.heap.size, 6, none⟩ = some (.int .i64 C) ∧ w'.cell? ⟨w1.heap.size, 7, none⟩ = some (.slice P' ls.length lc')) ∧ (w'.cell? ⟨w3.heap.size, 0, none⟩ = some (.int .i64 p) ∧ w'.cell? ⟨w3.heap.size, 1, none⟩ = some (.int .i64 k) ∧ w'.cell? ⟨w3.heap.size, 2, none⟩ = some (.int .i64 γ) ∧ w'.cell? ⟨w3.heap.size, 3, none⟩ = some (.int .i64 D) ∧ w'.cell? ⟨w3.heap.size, 4, none⟩ = some (.int .i64 (kN : Nat)) ∧ w'.cell? ⟨w3.heap.size, 5, none⟩ = some (.int .i64 Cn))) 44 (by kernel_rfl) ⟨(row8 HFx.out).1, row6A HLx.out⟩ (fun hS' => ?_)
    obtain ⟨wx, hwx⟩ : ∃ q, wi.drew = q := ⟨_, rfl⟩
    rw [hwx] at hS' HFx HLx HBx HIx HJx ⊢
    clear hwx
    refine tail_take2 0 rfl (by kernel_rfl) (by kernel_rfl) (by kernel_rfl) (by decide) (fun _ _ _ h => h) (by rfl) (v := ?_) ?_ (by assumption) ?_
    rotate_left 1
    · intro w' hS'; obtain ⟨⟨d0, d1, d2, d3, d4, d5, d6, d7⟩, y0, y1, y2, y3, y4, y5⟩ := hS'; go_simp; try with_reducible rfl
    try simp only [Act.put, List.setIfInBounds_toArray, List.set_cons_zero, List.set_cons_succ]
    refine tail_take2 1 rfl (by kernel_rfl) (by kernel_rfl) (by kernel_rfl) (by decide) (fun _ _ _ h => h) (by rfl) (v := ?_) ?_ (by assumption) ?_
    rotate_left 1
    · intro w' hS'; obtain ⟨⟨d0, d1, d2, d3, d4, d5, d6, d7⟩, y0, y1, y2, y3, y4, y5⟩ := hS'; go_simp; try with_reducible rfl
    try simp only [Act.put, List.setIfInBounds_toArray, List.set_cons_zero, List.set_cons_succ]
    refine tail_take2 2 rfl (by kernel_rfl) (by kernel_rfl) (by kernel_rfl) (by decide) (fun _ _ _ h => h) (by rfl) (v := ?_) ?_ (by assumption) ?_
    rotate_left 1
    · intro w' hS'; obtain ⟨⟨d0, d1, d2, d3, d4, d5, d6, d7⟩, y0, y1, y2, y3, y4, y5⟩ := hS'; go_simp; try with_reducible rfl
    try simp only [Act.put, List.setIfInBounds_toArray, List.set_cons_zero, List.set_cons_succ]
    refine tail_take2 3 rfl (by kernel_rfl) (by kernel_rfl) (by kernel_rfl) (by decide) (fun _ _ _ h => h) (by rfl) (v := ?_) ?_ (by assumption) ?_
    rotate_left 1
    · intro w' hS'; obtain ⟨⟨d0, d1, d2, d3, d4, d5, d6, d7⟩, y0, y1, y2, y3, y4, y5⟩ := hS'; go_simp; try with_reducible rfl
    try simp only [Act.put, List.setIfInBounds_toArray, List.set_cons_zero, List.set_cons_succ]
    refine tail_take2 4 rfl (by kernel_rfl) (by kernel_rfl) (by kernel_rfl) (by decide) (fun _ _ _ h => h) (by rfl) (v := ?_) ?_ (by assumption) ?_
    rotate_left 1
    · intro w' hS'; obtain ⟨⟨d0, d1, d2, d3, d4, d5, d6, d7⟩, y0, y1, y2, y3, y4, y5⟩ := hS'; go_simp; try with_reducible rfl
    try simp only [Act.put, List.setIfInBounds_toArray, List.set_cons_zero, List.set_cons_succ]
    refine tail_take2 5 rfl (by kernel_rfl) (by kernel_rfl) (by kernel_rfl) (by decide) (fun _ _ _ h => h) (by rfl) (v := ?_) ?_ (by assumption) ?_
    rotate_left 1
    · intro w' hS'; obtain ⟨⟨d0, d1, d2, d3, d4, d5, d6, d7⟩, y0, y1, y2, y3, y4, y5⟩ := hS'; go_simp; try with_reducible rfl
    try simp only [Act.put, List.setIfInBounds_toArray, List.set_cons_zero, List.set_cons_succ]
    refine tail_take2 6 rfl (by kernel_rfl) (by kernel_rfl) (by kernel_rfl) (by decide) (fun _ _ _ h => h) (by rfl) (v := ?_) ?_ (by assumption) ?_
    rotate_left 1
    · intro w' hS'; obtain ⟨⟨d0, d1, d2, d3, d4, d5, d6, d7⟩, y0, y1, y2, y3, y4, y5⟩ := hS'; go_simp; try with_reducible rfl
    try simp only [Act.put, List.setIfInBounds_toArray, List.set_cons_zero, List.set_cons_succ]
    refine tail_take2 7 rfl (by kernel_rfl) (by kernel_rfl) (by kernel_rfl) (by decide) (fun _ _ _ h => h) (by rfl) (v := ?_) ?_ (by assumption) ?_
    rotate_left 1
    · intro w' hS'; obtain ⟨⟨d0, d1, d2, d3, d4, d5, d6, d7⟩, y0, y1, y2, y3, y4, y5⟩ := hS'; go_simp; try with_reducible rfl
    try simp only [Act.put, List.setIfInBounds_toArray, List.set_cons_zero, List.set_cons_succ]
    refine tail_take2 8 rfl (by kernel_rfl) (by kernel_rfl) (by kernel_rfl) (by decide) (fun _ _ _ h => h) (by rfl) (v := ?_) ?_ (by assumption) ?_
    rotate_left 1
    · intro w' hS'; obtain ⟨⟨d0, d1, d2, d3, d4, d5, d6, d7⟩, y0, y1, y2, y3, y4, y5⟩ := hS'; go_simp; try with_reducible rfl
    try simp only [Act.put, List.setIfInBounds_toArray, List.set_cons_zero, List.set_cons_succ]
    refine tail_take2 9 rfl (by kernel_rfl) (by kernel_rfl) (by kernel_rfl) (by decide) (fun _ _ _ h => h) (by rfl) (v := ?_) ?_ (by assumption) ?_
    rotate_left 1
    · intro w' hS'; obtain ⟨⟨d0, d1, d2, d3, d4, d5, d6, d7⟩, y0, y1, y2, y3, y4, y5⟩ := hS'; go_simp; try with_reducible rfl
    try simp only [Act.put, List.setIfInBounds_toArray, List.set_cons_zero, List.set_cons_succ]
    refine tail_take2 10 rfl (by kernel_rfl) (by kernel_rfl) (by kernel_rfl) (by decide) (fun _ _ _ h => h) (by rfl) (v := ?_) ?_ (by assumption) ?_
    rotate_left 1
    · intro w' hS'; obtain ⟨⟨d0, d1, d2, d3, d4, d5, d6, d7⟩, y0, y1, y2, y3, y4, y5⟩ := hS'; go_simp; try with_reducible rfl
    try simp only [Act.put, List.setIfInBounds_toArray, List.set_cons_zero, List.set_cons_succ]
    refine tail_take2 11 rfl (by kernel_rfl) (by kernel_rfl) (by kernel_rfl) (by decide) (fun _ _ _ h => h) (by rfl) (v := ?_) ?_ (by assumption) ?_
    rotate_left 1
    · intro w' hS'; obtain ⟨⟨d0, d1, d2, d3, d4, d5, d6, d7⟩, y0, y1, y2, y3, y4, y5⟩ := hS'; go_simp; try with_reducible rfl
    try simp only [Act.put, List.setIfInBounds_toArray, List.set_cons_zero, List.set_cons_succ]
    refine tail_take2 12 rfl (by kernel_rfl) (by kernel_rfl) (by kernel_rfl) (by decide) (fun _ _ _ h => h) (by rfl) (v := ?_) ?_ (by assumption) ?_
    rotate_left 1
    · intro w' hS'; obtain ⟨⟨d0, d1, d2, d3, d4, d5, d6, d7⟩, y0, y1, y2, y3, y4, y5⟩ := hS'; go_simp; try with_reducible rfl
    try simp only [Act.put, List.setIfInBounds_toArray, List.set_cons_zero, List.set_cons_succ]
    refine tail_take2 13 rfl (by kernel_rfl) (by kernel_rfl) (by kernel_rfl) (by decide) (fun _ _ _ h => h) (by rfl) (v := ?_) ?_ (by assumption) ?_
    rotate_left 1
    · intro w' hS'; obtain ⟨⟨d0, d1, d2, d3, d4, d5, d6, d7⟩, y0, y1, y2, y3, y4, y5⟩ := hS'; go_simp; try with_reducible rfl
    try simp only [Act.put, List.setIfInBounds_toArray, List.set_cons_zero, List.set_cons_succ]
    refine tail_take2 14 rfl (by kernel_rfl) (by kernel_rfl) (by kernel_rfl) (by decide) (fun _ _ _ h => h) (by rfl) (v := ?_) ?_ (by assumption) ?_
    rotate_left 1
    · intro w' hS'; obtain ⟨⟨d0, d1, d2, d3, d4, d5, d6, d7⟩, y0, y1, y2, y3, y4, y5⟩ := hS'; go_simp; try with_reducible rfl
    try simp only [Act.put, List.setIfInBounds_toArray, List.set_cons_zero, List.set_cons_succ]
    refine tail_take2 15 rfl (by kernel_rfl) (by kernel_rfl) (by kernel_rfl) (by decide) (fun _ _ _ h => h) (by rfl) (v := ?_) ?_ (by assumption) ?_
    rotate_left 1
    · intro w' hS'; obtain ⟨⟨d0, d1, d2, d3, d4, d5, d6, d7⟩, y0, y1, y2, y3, y4, y5⟩ := hS'; go_simp; try with_reducible rfl
    try simp only [Act.put, List.setIfInBounds_toArray, List.set_cons_zero, List.set_cons_succ]
    refine tail_take2 16 rfl (by kernel_rfl) (by kernel_rfl) (by kernel_rfl) (by decide) (fun _ _ _ h => h) (by rfl) (v := ?_) ?_ (by assumption) ?_
    rotate_left 1
    · intro w' hS'; obtain ⟨⟨d0, d1, d2, d3, d4, d5, d6, d7⟩, y0, y1, y2, y3, y4, y5⟩ := hS'; go_simp; try with_reducible rfl
    try simp only [Act.put, List.setIfInBounds_toArray, List.set_cons_zero, List.set_cons_succ]
    refine tail_take2 17 rfl (by kernel_rfl) (by kernel_rfl) (by kernel_rfl) (by decide) (fun _ _ _ h => h) (by rfl) (v := ?_) ?_ (by assumption) ?_
    rotate_left 1
    · intro w' hS'; obtain ⟨⟨d0, d1, d2, d3, d4, d5, d6, d7⟩, y0, y1, y2, y3, y4, y5⟩ := hS'; go_simp; try with_reducible rfl
    try simp only [Act.put, List.setIfInBounds_toArray, List.set_cons_zero, List.set_cons_succ]
    refine tail_take2 18 rfl (by kernel_rfl) (by kernel_rfl) (by kernel_rfl) (by decide) (fun _ _ _ h => h) (by rfl) (v := ?_) ?_ (by assumption) ?_
    rotate_left 1
    · intro w' hS'; obtain ⟨⟨d0, d1, d2, d3, d4, d5, d6, d7⟩, y0, y1, y2, y3, y4, y5⟩ := hS'; go_simp; try with_reducible rfl
    try simp only [Act.put, List.setIfInBounds_toArray, List.set_cons_zero, List.set_cons_succ]
    refine tail_take2 19 rfl (by kernel_rfl) (by kernel_rfl) (by kernel_rfl) (by decide) (fun _ _ _ h => h) (by rfl) (v := ?_) ?_ (by assumption) ?_
    rotate_left 1
    · intro w' hS'; obtain ⟨⟨d0, d1, d2, d3, d4, d5, d6, d7⟩, y0, y1, y2, y3, y4, y5⟩ := hS'; go_simp; try with_reducible rfl
    try simp only [Act.put, List.setIfInBounds_toArray, List.set_cons_zero, List.set_cons_succ]
    refine tail_take2 20 rfl (by kernel_rfl) (by kernel_rfl) (by kernel_rfl) (by decide) (fun _ _ _ h => h) (by rfl) (v := ?_) ?_ (by assumption) ?_
    rotate_left 1
    · intro w' hS'; obtain ⟨⟨d0, d1, d2, d3, d4, d5, d6, d7⟩, y0, y1, y2, y3, y4, y5⟩ := hS'; go_simp; try with_reducible rfl
    try simp only [Act.put, List.setIfInBounds_toArray, List.set_cons_zero, List.set_cons_succ]
    refine tail_take2 21 rfl (by kernel_rfl) (by kernel_rfl) (by kernel_rfl) (by decide) (fun _ _ _ h => h) (by rfl) (v := ?_) ?_ (by assumption) ?_
    rotate_left 1
    · intro w' hS'; obtain ⟨⟨d0, d1, d2, d3, d4, d5, d6, d7⟩, y0, y1, y2, y3, y4, y5⟩ := hS'; go_simp; try with_reducible rfl
    try simp only [Act.put, List.setIfInBounds_toArray, List.set_cons_zero, List.set_cons_succ]
    refine tail_take2 22 rfl (by kernel_rfl) (by kernel_rfl) (by kernel_rfl) (by decide) (fun _ _ _ h => h) (by rfl) (v := ?_) ?_ (by assumption) ?_
    rotate_left 1
    · intro w' hS'; obtain ⟨⟨d0, d1, d2, d3, d4, d5, d6, d7⟩, y0, y1, y2, y3, y4, y5⟩ := hS'; go_simp; try with_reducible rfl
    try simp only [Act.put, List.setIfInBounds_toArray, List.set_cons_zero, List.set_cons_succ]
    refine tail_take2 23 rfl (by kernel_rfl) (by kernel_rfl) (by kernel_rfl) (by decide) (fun _ _ _ h => h) (by rfl) (v := ?_) ?_ (by assumption) ?_
    rotate_left 1
    · intro w' hS'; obtain ⟨⟨d0, d1, d2, d3, d4, d5, d6, d7⟩, y0, y1, y2, y3, y4, y5⟩ := hS'; go_simp; try with_reducible rfl
    try simp only [Act.put, List.setIfInBounds_toArray, List.set_cons_zero, List.set_cons_succ]
    refine tail_take2 24 rfl (by kernel_rfl) (by kernel_rfl) (by kernel_rfl) (by decide) (fun _ _ _ h => h) (by rfl) (v := ?_) ?_ (by assumption) ?_
    rotate_left 1
    · intro w' hS'; obtain ⟨⟨d0, d1, d2, d3, d4, d5, d6, d7⟩, y0, y1, y2, y3, y4, y5⟩ := hS'; go_simp; try with_reducible rfl
    try simp only [Act.put, List.setIfInBounds_toArray, List.set_cons_zero, List.set_cons_succ]
    refine tail_take2 25 rfl (by kernel_rfl) (by kernel_rfl) (by kernel_rfl) (by decide) (fun _ _ _ h => h) (by rfl) (v := ?_) ?_ (by assumption) ?_
    rotate_left 1
    · intro w' hS'; obtain ⟨⟨d0, d1, d2, d3, d4, d5, d6, d7⟩, y0, y1, y2, y3, y4, y5⟩ := hS'; go_simp; try with_reducible rfl
    try simp only [Act.put, List.setIfInBounds_toArray, List.set_cons_zero, List.set_cons_succ]
    refine tail_take2 26 rfl (by kernel_rfl) (by kernel_rfl) (by kernel_rfl) (by decide) (fun _ _ _ h => h) (by rfl) (v := ?_) ?_ (by assumption) ?_
    rotate_left 1
    · intro w' hS'; obtain ⟨⟨d0, d1, d2, d3, d4, d5, d6, d7⟩, y0, y1, y2, y3, y4, y5⟩ := hS'; go_simp; try with_reducible rfl
    try simp only [Act.put, List.setIfInBounds_toArray, List.set_cons_zero, List.set_cons_succ]
    refine tail_take2 27 rfl (by kernel_rfl) (by kernel_rfl) (by kernel_rfl) (by decide) (fun _ _ _ h => h) (by rfl) (v := ?_) ?_ (by assumption) ?_
    rotate_left 1
    · intro w' hS'; obtain ⟨⟨d0, d1, d2, d3, d4, d5, d6, d7⟩, y0, y1, y2, y3, y4, y5⟩ := hS'; go_simp; try with_reducible rfl
    try simp only [Act.put, List.setIfInBounds_toArray, List.set_cons_zero, List.set_cons_succ]
    refine tail_callG 28 rfl (by kernel_rfl) (by rfl) (fun K hK => ?_)
    go_simp
    go_at_call 28; refine (HFW.out _).mono ?_; rintro e wu ⟨rfl, hb⟩; have HFu := hide (heap_nextG HFx.out hb); have HLu := hide (heap_nextG HLx.out hb); have HBu := hide (HBx.out.trans (hb.mono HBx.out.size)); have HIu := hide ((HIx.out.below hb).more hb.size); have HJu := hide ((HJx.out.below hb).more hb.size); clear hb
    refine hK.out _ _ (by (try dsimp only); exact ⟨(row8 HFu.out).1, row6A HLu.out⟩) (fun hS' => ?_)
    clear hK K
    try simp only [Act.put, List.setIfInBounds_toArray, List.set_cons_zero, List.set_cons_succ]
    refine tail_take2 29 rfl (by kernel_rfl) (by kernel_rfl) (by kernel_rfl) (by decide) (fun _ _ _ h => h) (by rfl) (v := ?_) ?_ (by assumption) ?_
    rotate_left 1
    · intro w' hS'; obtain ⟨⟨d0, d1, d2, d3, d4, d5, d6, d7⟩, y0, y1, y2, y3, y4, y5⟩ := hS'; go_simp; try with_reducible rfl
    try simp only [Act.put, List.setIfInBounds_toArray, List.set_cons_zero, List.set_cons_succ]
    refine tail_take2 30 rfl (by kernel_rfl) (by kernel_rfl) (by kernel_rfl) (by decide) (fun _ _ _ h => h) (by rfl) (v := ?_) ?_ (by assumption) ?_
    rotate_left 1
    · intro w' hS'; obtain ⟨⟨d0, d1, d2, d3, d4, d5, d6, d7⟩, y0, y1, y2, y3, y4, y5⟩ := hS'; go_simp; try with_reducible rfl
    try simp only [Act.put, List.setIfInBounds_toArray, List.set_cons_zero, List.set_cons_succ]
    refine tail_take2 31 rfl (by kernel_rfl) (by kernel_rfl) (by kernel_rfl) (by decide) (fun _ _ _ h => h) (by rfl) (v := ?_) ?_ (by assumption) ?_
    rotate_left 1
    · intro w' hS'; obtain ⟨⟨d0, d1, d2, d3, d4, d5, d6, d7⟩, y0, y1, y2, y3, y4, y5⟩ := hS'; go_simp; try with_reducible rfl
    try simp only [Act.put, List.setIfInBounds_toArray, List.set_cons_zero, List.set_cons_succ]
    refine tail_take2 32 rfl (by kernel_rfl) (by kernel_rfl) (by kernel_rfl) (by decide) (fun _ _ _ h => h) (by rfl) (v := ?_) ?_ (by assumption) ?_
    rotate_left 1
    · intro w' hS'; obtain ⟨⟨d0, d1, d2, d3, d4, d5, d6, d7⟩, y0, y1, y2, y3, y4, y5⟩ := hS'; go_simp; try with_reducible rfl
    try simp only [Act.put, List.setIfInBounds_toArray, List.set_cons_zero, List.set_cons_succ]
    refine tail_take2 33 rfl (by kernel_rfl) (by kernel_rfl) (by kernel_rfl) (by decide) (fun _ _ _ h => h) (by rfl) (v := ?_) ?_ (by assumption) ?_
    rotate_left 1
    · intro w' hS'; obtain ⟨⟨d0, d1, d2, d3, d4, d5, d6, d7⟩, y0, y1, y2, y3, y4, y5⟩ := hS'; go_simp; try with_reducible rfl
    try simp only [Act.put, List.setIfInBounds_toArray, List.set_cons_zero, List.set_cons_succ]
    refine tail_take2 34 rfl (by kernel_rfl) (by kernel_rfl) (by kernel_rfl) (by decide) (fun _ _ _ h => h) (by rfl) (v := ?_) ?_ (by assumption) ?_
    rotate_left 1
    · intro w' hS'; obtain ⟨⟨d0, d1, d2, d3, d4, d5, d6, d7⟩, y0, y1, y2, y3, y4, y5⟩ := hS'; go_simp; try with_reducible rfl
    try simp only [Act.put, List.setIfInBounds_toArray, List.set_cons_zero, List.set_cons_succ]
    refine tail_take2 35 rfl (by kernel_rfl) (by kernel_rfl) (by kernel_rfl) (by decide) (fun _ _ _ h => h) (by rfl) (v := ?_) ?_ (by assumption) ?_
    rotate_left 1
    · intro w' hS'; obtain ⟨⟨d0, d1, d2, d3, d4, d5, d6, d7⟩, y0, y1, y2, y3, y4, y5⟩ := hS'; go_simp; try with_reducible rfl
    try simp only [Act.put, List.setIfInBounds_toArray, List.set_cons_zero, List.set_cons_succ]
    refine tail_take2 36 rfl (by kernel_rfl) (by kernel_rfl) (by kernel_rfl) (by decide) (fun _ _ _ h => h) (by rfl) (v := ?_) ?_ (by assumption) ?_
    rotate_left 1
    · intro w' hS'; obtain ⟨⟨d0, d1, d2, d3, d4, d5, d6, d7⟩, y0, y1, y2, y3, y4, y5⟩ := hS'; go_simp; try with_reducible rfl
    try simp only [Act.put, List.setIfInBounds_toArray, List.set_cons_zero, List.set_cons_succ]
    refine tail_take2 37 rfl (by kernel_rfl) (by kernel_rfl) (by kernel_rfl) (by decide) (fun _ _ _ h => h) (by rfl) (v := ?_) ?_ (by assumption) ?_
    rotate_left 1
    · intro w' hS'; obtain ⟨⟨d0, d1, d2, d3, d4, d5, d6, d7⟩, y0, y1, y2, y3, y4, y5⟩ := hS'; go_simp; try with_reducible rfl
    try simp only [Act.put, List.setIfInBounds_toArray, List.set_cons_zero, List.set_cons_succ]
    refine tail_take2 38 rfl (by kernel_rfl) (by kernel_rfl) (by kernel_rfl) (by decide) (fun _ _ _ h => h) (by rfl) (v := ?_) ?_ (by assumption) ?_
    rotate_left 1
    · intro w' hS'; obtain ⟨⟨d0, d1, d2, d3, d4, d5, d6, d7⟩, y0, y1, y2, y3, y4, y5⟩ := hS'; go_simp; try with_reducible rfl
    try simp only [Act.put, List.setIfInBounds_toArray, List.set_cons_zero, List.set_cons_succ]
    refine tail_take2 39 rfl (by kernel_rfl) (by kernel_rfl) (by kernel_rfl) (by decide) (fun _ _ _ h => h) (by rfl) (v := ?_) ?_ (by assumption) ?_
    rotate_left 1
    · intro w' hS'; obtain ⟨⟨d0, d1, d2, d3, d4, d5, d6, d7⟩, y0, y1, y2, y3, y4, y5⟩ := hS'; go_simp; try with_reducible rfl
    try simp only [Act.put, List.setIfInBounds_toArray, List.set_cons_zero, List.set_cons_succ]
    refine tail_take2 40 rfl (by kernel_rfl) (by kernel_rfl) (by kernel_rfl) (by decide) (fun _ _ _ h => h) (by rfl) (v := ?_) ?_ (by assumption) ?_
    rotate_left 1
    · intro w' hS'; obtain ⟨⟨d0, d1, d2, d3, d4, d5, d6, d7⟩, y0, y1, y2, y3, y4, y5⟩ := hS'; go_simp; try with_reducible rfl
    try simp only [Act.put, List.setIfInBounds_toArray, List.set_cons_zero, List.set_cons_succ]
    refine tail_callG 41 rfl (by kernel_rfl) (by rfl) (fun K hK => ?_)
    go_simp
    go_at_call 29; refine (HIL.out _).mono ?_; rintro e wv ⟨rfl, hb⟩; have HFv := hide (heap_nextG HFu.out hb); have HLv := hide (heap_nextG HLu.out hb); have HBv := hide (HBu.out.trans (hb.mono HBu.out.size)); have HIv := hide ((HIu.out.below hb).more hb.size); have HJv := hide ((HJu.out.below hb).more hb.size); clear hb
    refine hK.out _ _ (by (try dsimp only); exact ⟨(row8 HFv.out).1, row6A HLv.out⟩) (fun hS' => ?_)
    clear hK K
    try simp only [Act.put, List.setIfInBounds_toArray, List.set_cons_zero, List.set_cons_succ]
    refine tail_take2 42 rfl (by kernel_rfl) (by kernel_rfl) (by kernel_rfl) (by decide) (fun _ _ _ h => h) (by rfl) (v := ?_) ?_ (by assumption) ?_
    rotate_left 1
    · intro w' hS'; obtain ⟨⟨d0, d1, d2, d3, d4, d5, d6, d7⟩, y0, y1, y2, y3, y4, y5⟩ := hS'; go_simp; try with_reducible rfl
    try simp only [Act.put, List.setIfInBounds_toArray, List.set_cons_zero, List.set_cons_succ]
    refine tail_take2 43 rfl (by kernel_rfl) (by kernel_rfl) (by kernel_rfl) (by decide) (fun _ _ _ h => h) (by rfl) (v := ?_) ?_ (by assumption) ?_
    rotate_left 1
    · intro w' hS'; obtain ⟨⟨d0, d1, d2, d3, d4, d5, d6, d7⟩, y0, y1, y2, y3, y4, y5⟩ := hS'; go_simp; try with_reducible rfl
    try simp only [Act.put, List.setIfInBounds_toArray, List.set_cons_zero, List.set_cons_succ]
    refine tail_end (by kernel_rfl) ?_
    go_wp2_with fail
    go_ret
    exact ⟨rfl, HBv.out⟩
end Go.Proofs.Ytncgeoliboidhaa
