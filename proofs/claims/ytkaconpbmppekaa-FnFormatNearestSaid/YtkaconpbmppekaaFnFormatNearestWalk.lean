/-
  The walk of the law FnFormatNearest: it returns true, and nothing that was there before is changed.
  Condition: none.
-/
import Derived.Test.YtkaconpbmppekaaWdNear
import Derived.Test.YtkaconpbmppekaaWdDraw5
import Derived.Test.YtkaconpbmppekaaDice
import Derived.Test.YtkaconpbmppekaaLike
import Derived.Test.YtkaconpbmppekaaLawKit
import Derived.Test.YtkaconpbmppekaaShell
namespace Go.Proofs.Ytkaconpbmppekaa
open Go.RowKit
set_option linter.unusedVariables false
set_option linter.unusedSimpArgs false

theorem wbd_u8n {n : Int} (h : (Lit.int .u8 n).wf = true) : 0 ≤ n ∧ n ≤ 255 := by
  simp [Lit.wf, IntKind.min, IntKind.max, IntKind.signed, IntKind.bits] at h
  omega
theorem two_pow_n {D : Nat} (h : D ≤ 8) : ∃ N : Nat, N = 2 ^ D ∧ 1 ≤ N ∧ N ≤ 256 ∧ wrap64 (2 ^ D) = (N : Int) ∧ IntKind.u64.wrap (D : Int) = (D : Int) ∧ IntKind.i64.wrap (2 ^ D) = (N : Int) := by
  obtain ⟨pw, hpw, he, hp1, hp2⟩ := pow_fits D (by omega)
  have h256 : 2 ^ D ≤ 256 := (Nat.pow_le_pow_right (n := 2) (by decide) h : 2 ^ D ≤ 2 ^ 8)
  have hc : (2 : Int) ^ D = ((2 ^ D : Nat) : Int) := by push_cast; rfl
  refine ⟨2 ^ D, rfl, Nat.two_pow_pos D, h256, by rw [hpw, he, hc], by rw [IntKind.wrap_u64]; omega, ?_⟩
  rw [hc]
  generalize 2 ^ D = N at h256
  exact IntWalk.i64_in _ ⟨by omega, by omega⟩

set_option maxRecDepth 100000 in
set_option maxHeartbeats 500000 in
theorem fnFormatNearestWalk (a0 : Option Addr) (n0 c0 : Nat) (z0 : List Int) (w : World) (h0 : Came .u8 w a0 n0 c0 z0) :
    Calls Try.prog 4 #[.slice a0 n0 c0] w fun e w' => e = .returned (.bool true) ∧ Below w.heap.size w w' := by
  obtain ⟨hI, hnc, hcm, hwf⟩ := h0
  have HI := hide hI
  have HBY := hide (show ∀ b ∈ z0, 0 ≤ b ∧ b ≤ 255 from fun b hb => wbd_u8n (hwf b hb))
  clear hI hwf
  unfold maxLen at hcm
  by_cases hbig : 4096 < n0
  · go_enter Try.func4, Try.ntmps4
    go_wp2_with fail
    refine (big_yes a0 n0 c0 w hbig (by omega)).mono ?_
    rintro e w ⟨rfl, rfl⟩
    go_wp2_with fail
    go_ret
    exact ⟨rfl, Below.refl _ _⟩
  have hn0 : n0 ≤ 4096 := by omega
  go_enter Try.func4, Try.ntmps4
  go_wp2_with fail
  refine (big_no a0 n0 c0 w hn0).mono ?_
  rintro e w ⟨rfl, rfl⟩
  go_wp2_with fail
  refine (drawNearestFormat a0 n0 c0 z0 w HI hn0 HBY).mono ?_
  rintro e w1 ⟨d, l, p, za, A1, c1, rfl, hl, hla, hca, hia, hb⟩
  have HB1 := hide hb
  have HIA := hide hia
  have HX1 := hide (Box.start w1 25 d l p)
  clear hb hia
  obtain ⟨b0, b1, b2⟩ := HX1.out.cells
  obtain ⟨v, m, k, hS, hM, hC⟩ := nfk_both d l p za (by omega) (by omega)
  have HS := hide hS
  have HM := hide hM
  have HC := hide hC
  clear hS hM hC
  have hcc : (k != k) = false := by simp
  have hvv : (v != v) = false := by simp
  have hmm : (m != m) = false := by simp
  go_wp2_with fail
  refine (HM.out A1 _ c1 w1.heap.size _ (HIA.out.below ((Below.refl _ _).alloc (Nat.le_refl _) _)) HX1.out.2.size).mono ?_
  rintro e w2 ⟨rfl, hb⟩
  have HX2 := hide (HX1.out.next hb)
  clear hb b0 b1 b2
  obtain ⟨b0, b1, b2⟩ := HX2.out.cells
  go_wp2_with fail
  refine (HS.out A1 _ c1 w1.heap.size _ (HIA.out.below HX2.out.2) HX2.out.2.size).mono ?_
  rintro e w3 ⟨rfl, hb⟩
  have HX3 := hide (HX2.out.next hb)
  clear hb b0 b1 b2
  obtain ⟨b0, b1, b2⟩ := HX3.out.cells
  rcases HC.out with hk | hk | ⟨hk1, hk2, D, L, P, K, rfl, rfl, rfl, hf⟩
  · subst hk
    go_wp2_with fail
    go_ret
    exact ⟨rfl, HB1.out.trans (HX3.out.2.mono HB1.out.size)⟩
  · subst hk
    go_wp2_with fail
    go_ret
    exact ⟨rfl, HB1.out.trans (HX3.out.2.mono HB1.out.size)⟩
  · have e1 : (k == 1) = false := by simpa using hk1
    have e2 : (k == 2) = false := by simpa using hk2
    clear hk1 hk2
    obtain ⟨mn, hmn⟩ : ∃ mn, minD D L P K = mn := ⟨_, rfl⟩
    have hm1 := minD_pos hf
    have hm2 := minD_le D L P K
    rw [hmn] at hm1 hm2
    have HFD := hide (show ∀ w', Calls Try.prog 29 #[.agg #[.int .i64 D, .int .i64 L, .int .i64 P]] w' (GivesII (mn : Nat) 0 w') from fun w' => by have := specFd_ok hf w'; rw [hmn] at this; exact this)
    have HMN := hide hmn
    have HF := hide hf
    have hL := hf.l24
    have hD8 := hf.d8
    clear hmn hf HM HS HC HIA HX1 HX2
    go_wp2_with fail
    refine (HFD.out _).mono ?_
    rintro e w8 ⟨rfl, hb⟩
    have HX8 := hide (HX3.out.next hb)
    clear hb b0 b1 b2 HX3 HFD
    obtain ⟨b0, b1, b2⟩ := HX8.out.cells
    obtain ⟨N, hN, h1, h2, h3, h4, h5⟩ := two_pow_n hD8
    have H1 := hide h3
    have H2 := hide h1
    have H3 := hide h2
    have H4 := hide h4
    have H5 := hide h5
    clear h1 h2 h3 h4 h5
    have HN := hide hN
    have HB8 := hide (HB1.out.trans (HX8.out.2.mono HB1.out.size))
    have hw18 : w1.heap.size < w8.heap.size := HX8.out.lt
    clear hcc hvv hmm hN hla hca
    go_wp2_with fail
    refine tail_begin (fun w' => w'.cell? ⟨w1.heap.size, 0, none⟩ = some (.int .i64 D) ∧ w'.cell? ⟨w1.heap.size, 1, none⟩ = some (.int .i64 L) ∧ w'.cell? ⟨w1.heap.size, 2, none⟩ = some (.int .i64 P)) 8 (by kernel_rfl) HX8.out.drew.cells (fun hS' => ?_)
    clear b0 b1 b2
    have hpw := H1.out
    have hp1 := H2.out
    have hp2 := H3.out
    have hcv := H4.out
    refine tail_take2 0 rfl (by kernel_rfl) (by kernel_rfl) (by kernel_rfl) (by decide) (fun _ _ _ h => h) (by rfl) (v := ?_) ?_ (by assumption) ?_
    rotate_left 1
    · intro w' hS'; obtain ⟨b0, b1, b2⟩ := hS'; go_simp; try with_reducible rfl
    try simp only [Act.put, List.setIfInBounds_toArray, List.set_cons_zero, List.set_cons_succ]
    refine tail_take2 2 rfl (by kernel_rfl) (by kernel_rfl) (by kernel_rfl) (by decide) (fun _ _ _ h => h) (by rfl) (v := ?_) ?_ (by assumption) ?_
    rotate_left 1
    · intro w' hS'; obtain ⟨b0, b1, b2⟩ := hS'; go_simp; try with_reducible rfl
    try simp only [Act.put, List.setIfInBounds_toArray, List.set_cons_zero, List.set_cons_succ]
    refine tail_take2 3 rfl (by kernel_rfl) (by kernel_rfl) (by kernel_rfl) (by decide) (fun _ _ _ h => h) (by rfl) (v := ?_) ?_ (by assumption) ?_
    rotate_left 1
    · intro w' hS'; obtain ⟨b0, b1, b2⟩ := hS'; go_simp; try with_reducible rfl
    try simp only [Act.put, List.setIfInBounds_toArray, List.set_cons_zero, List.set_cons_succ]
    refine tail_take2 4 rfl (by kernel_rfl) (by kernel_rfl) (by kernel_rfl) (by decide) (fun _ _ _ h => h) (by rfl) (v := ?_) ?_ (by assumption) ?_
    rotate_left 1
    · intro w' hS'; obtain ⟨b0, b1, b2⟩ := hS'; go_simp; try with_reducible rfl
    try simp only [Act.put, List.setIfInBounds_toArray, List.set_cons_zero, List.set_cons_succ]
    refine tail_take2 5 rfl (by kernel_rfl) (by kernel_rfl) (by kernel_rfl) (by decide) (fun _ _ _ h => h) (by rfl) (v := ?_) ?_ (by assumption) ?_
    rotate_left 1
    · intro w' hS'; obtain ⟨b0, b1, b2⟩ := hS'; go_simp; try with_reducible rfl
    try simp only [Act.put, List.setIfInBounds_toArray, List.set_cons_zero, List.set_cons_succ]
    refine tail_call 1 rfl (by kernel_rfl) rfl (fun K' hK => ?_)
    go_simp
    go_at_call 21; refine (roll_any a0 n0 c0 z0 803 _ ((HI.out.below HB8.out.drew).more HB8.out.drew.size) hn0 HBY.out).mono ?_; rintro e w9 ⟨rfl, hs, hb⟩; have HX9 := hide (HX8.out.drew.next hb); have HB9 := hide (HB8.out.drew.trans (hb.mono HB8.out.drew.size)); have hb9 : w8.heap.size ≤ w9.heap.size := hb.size; have HD9 := hide hs; clear hs hb
    refine hK.out _ _ (by (try dsimp only); exact HX9.out.cells) (fun hS' => ?_)
    clear hK K'
    try simp only [Act.put, List.setIfInBounds_toArray, List.set_cons_zero, List.set_cons_succ]
    refine tail_call 6 rfl (by kernel_rfl) rfl (fun K' hK => ?_)
    go_simp
    go_at_call 22; refine (below_any _ _ a0 n0 c0 z0 (IntKind.i64.wrap (2 ^ D)) _ HD9.out (by rw [H5.out]; have := H2.out; omega) (by rw [H5.out]; have := H3.out; omega)).mono ?_; rintro e wA ⟨y, rfl, hy, hs, hg⟩; rw [H5.out] at hy; have hAs : w9.heap.size ≤ wA.heap.size := hg.size; have HXA := hide (HX9.out.grow' hg (fun b e => by cases e; exact hw18)); have HBA := hide (HB9.out.grown hg HB9.out.size (fun b e => by cases e; exact HB8.out.size)); clear hs hg
    refine hK.out _ _ (by (try dsimp only); exact HXA.out.cells) (fun hS' => ?_)
    clear hK K'
    try simp only [Act.put, List.setIfInBounds_toArray, List.set_cons_zero, List.set_cons_succ]
    refine tail_take2 7 rfl (by kernel_rfl) (by kernel_rfl) (by kernel_rfl) (by decide) (fun _ _ _ h => h) (by rfl) (v := ?_) ?_ (by assumption) ?_
    rotate_left 1
    · intro w' hS'; obtain ⟨b0, b1, b2⟩ := hS'; go_simp; try with_reducible rfl
    try simp only [Act.put, List.setIfInBounds_toArray, List.set_cons_zero, List.set_cons_succ]
    refine tail_end (by kernel_rfl) ?_
    obtain ⟨b0, b1, b2⟩ := HXA.out.cells
    clear H1 H2 H3 H4 H5 hpw hcv HX8 HX9 HB8 HB9 HD9 hS'
    have hyN : y < N := by omega
    have hy2 : y < 2 ^ D := by rw [← HN.out]; exact hyN
    obtain ⟨W, hW⟩ : ∃ W, wdL D L P K y = W := ⟨_, rfl⟩
    have hWL : W.length = L := by rw [← hW]; exact wdL_len _ _ _ _ _
    have HWB := hide (show ∀ z ∈ W, z = 0 ∨ z = 1 by rw [← hW]; exact wdL_bit _ _ _ _ _)
    have HWy := hide (show ∀ w', Calls Try.prog 15 #[.agg #[.int .i64 D, .int .i64 L, .int .i64 P], .int .i64 (y : Nat)] w' (NewInts2 2 .i64 W 0 w') from fun w' => by rw [← hW]; exact specFw_ok HF.out y hy2 w')
    have HNF := hide (show ∀ t, 2 * t < mn → V1 27 D L P (flipW t W) (GivesIII (y : Nat) (t : Nat) 0) from fun t ht => by rw [← hW]; exact (flip_key HF.out hy2 (by rw [HMN.out]; exact ht)).1)
    have HFS := hide (show ∀ t, 2 * t < mn → V2 30 D L P (flipW t W) (flipW t W) (GivesII (y : Nat) 0) from fun t ht => by rw [← hW]; exact (flip_key HF.out hy2 (by rw [HMN.out]; exact ht)).2)
    have hL1 : 1 ≤ L := by omega
    clear hW hy2 hyN HF HMN HN hy hp1 hp2
    have hwA1 : w1.heap.size < wA.heap.size := HXA.out.lt
    go_wp2_with fail
    refine (HWy.out _).mono ?_
    rintro e wB ⟨Ab, cb, rfl, hcb, hob, hb⟩
    have HXB := hide (HXA.out.next hb)
    have HBB := hide (HBA.out.trans (hb.mono HBA.out.size))
    rw [hWL] at hcb hob ⊢
    obtain ⟨gb, cb', hvv, hgb1, hgb2, hgb3⟩ := hob.some_ (by omega)
    injection hvv with hA2 hl2 hm2'
    subst hA2
    have HOB := hide hob
    have HWL := hide hWL
    clear hob hb b0 b1 b2 hl2 hm2' hgb3 hWL HXA HBA HWy
    go_wp2_with fail
    go_loopw [16] (fun i wr => ∃ t : Nat, i = .int .i64 t ∧ 2 * t < mn ∧ Hid (Own wr wA.heap.size 2 .i64 (.slice (some ⟨gb, 0, none⟩) L cb) (flipW t W) ∧ Box w1 wr 25 D L P ∧ Below w.heap.size w wr)) (fun i _ => mn - (match i with | Value.int _ z => z.toNat | _ => 0))
    case atStart => exact ⟨0, rfl, by omega, hide ⟨HOB.out, HXB.out, HBB.out⟩⟩
    case round =>
      clear HXB HBB HOB
      obtain ⟨t, rfl, ht, HR⟩ := hrel
      have ht24 : t ≤ 24 := by omega
      by_cases htn : 2 * (t + 1) < mn
      · have hd1 : decide (2 * ((t : Int) + 1) < (mn : Int)) = true := decide_eq_true (by omega)
        have htL : t < L := by omega
        have hti : (t : Int) < (L : Int) := by omega
        obtain ⟨x, hx⟩ : ∃ x, W[t]? = some x := ⟨W[t]'(by have := HWL.out; omega), List.getElem?_eq_getElem _⟩
        have hx2 := hx
        rw [← flip_at t W] at hx2
        have hcx := HR.out.1.cellAt hx2
        have hfx := HR.out.1.frozenAt t
        have hxb : 0 ≤ x ∧ x ≤ 1 := by rcases HWB.out x (List.mem_of_getElem? hx) with rfl | rfl <;> decide
        have HR2 := hide (show Own (wr.setCell ⟨gb, t, none⟩ (.int .i64 (1 - x))) wA.heap.size 2 .i64 (.slice (some ⟨gb, 0, none⟩) L cb) (flipW (t + 1) W) ∧ Box w1 (wr.setCell ⟨gb, t, none⟩ (.int .i64 (1 - x))) 25 D L P ∧ Below w.heap.size w (wr.setCell ⟨gb, t, none⟩ (.int .i64 (1 - x))) from by
          have h1 := HR.out.1.stored t (1 - x)
          rw [flip_set t W x hx] at h1
          exact ⟨h1.1, HR.out.2.1.grow' h1.2 (fun b e => by injection e; omega), HR.out.2.2.grown h1.2 HR.out.2.2.size (fun b e => by injection e; have := HB1.out.size; omega)⟩)
        clear hx hx2
        go_wp2_with fail
        go_roundw
        case rel => exact ⟨t + 1, rfl, by omega, HR2⟩
        case measure => show mn - ((t : Int) + 1).toNat < mn - (t : Int).toNat; omega
      · have hd1 : decide (2 * ((t : Int) + 1) < (mn : Int)) = false := decide_eq_false (by omega)
        have hq : ((mn : Int) - 1).tdiv 2 = (t : Int) := by rw [Int.tdiv_eq_ediv_of_nonneg (by omega)]; omega
        have hwt : wrap64 (t : Int) = (t : Int) := by unfold wrap64; omega
        have HX5 := hide HR.out.2.1
        obtain ⟨b0, b1, b2⟩ := HX5.out.cells
        have HIW := hide (show Ints .i64 wr wr.heap.size (some ⟨gb, 0, none⟩) L (flipW t W) by have h := HR.out.1.ints; rw [flip_len, HWL.out] at h; exact h)
        have HB5 := hide HR.out.2.2
        have HN5 := hide (HNF.out t ht)
        have HS5 := hide (HFS.out t ht)
        have HQ := hide hq
        have HW := hide hwt
        clear HR htn hq hwt
        go_wp2_with fail
        refine (HN5.out (some ⟨gb, 0, none⟩) _ cb wr.heap.size _ HIW.out (Nat.le_refl _)).mono ?_
        rintro e w6 ⟨rfl, hb⟩
        have HX6 := hide (HX5.out.next hb)
        have HI6 := hide (HIW.out.below hb)
        have hs6 := hb.size
        have HB6 := hide (HB5.out.trans (hb.mono HB5.out.size))
        clear hb b0 b1 b2
        obtain ⟨b0, b1, b2⟩ := HX6.out.cells
        go_wp2_with fail
        refine (HS5.out (some ⟨gb, 0, none⟩) _ cb (some ⟨gb, 0, none⟩) _ cb wr.heap.size _ HI6.out HI6.out hs6).mono ?_
        rintro e w7 ⟨rfl, hb⟩
        have HB7 := hide (HB6.out.trans (hb.mono HB6.out.size))
        clear hb b0 b1 b2
        have e5 : ((y : Int) == (y : Int)) = true := by simp
        have e6 : (y == y) = true := by simp
        have e7 : ((t : Int) == (t : Int)) = true := by simp
        have e8 : (t == t) = true := by simp
        have hq := HQ.out
        go_wp2_with fail
        go_ret
        exact ⟨rfl, HB7.out⟩
end Go.Proofs.Ytkaconpbmppekaa
