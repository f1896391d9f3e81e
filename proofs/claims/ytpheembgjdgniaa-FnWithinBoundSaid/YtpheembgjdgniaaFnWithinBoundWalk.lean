/-
  The walk of the law FnWithinBound: it returns true, and nothing that was there before is changed.
  Condition: none.
-/
import Derived.Test.YtpheembgjdgniaaJE
import Derived.Test.YtpheembgjdgniaaJH
import Derived.Test.YtpheembgjdgniaaDValD
import Derived.Test.YtpheembgjdgniaaDHas
import Derived.Test.YtpheembgjdgniaaDDraw5
import Derived.Test.YtpheembgjdgniaaCLaw
import Derived.Test.YtpheembgjdgniaaJG
namespace Go.Proofs.Ytpheembgjdgniaa
open Go.RowKit
set_option linter.unusedVariables false
set_option linter.unusedSimpArgs false

def WbRel {R : Fld} (w1 : World) (p k γ : Int) (l c B0 gW cw : Nat) (A2 A3 : Option Addr) (ss : List (El R)) (E : List Nat) (lf i : Value) (wr : World) : Prop :=
  ∃ (j : Nat) (x : Int) (H : List (El R)), j ≤ l ∧ i = .int .i64 j ∧ lf = .int .i64 x ∧ -1000 ≤ x ∧ x ≤ 1000 ∧ Hid (H.length = l) ∧ Hid (x + 2 * ((errs l E H ss).length : Int) ≤ (c : Int) - (E.length : Int) ∧ (E.length ≤ c → 0 ≤ x)) ∧
    Own wr B0 2 .i64 (.slice (some ⟨gW, 0, none⟩) l cw) (iv H) ∧ Ints .i64 wr B0 A2 l (iv ss) ∧ Ints .i64 wr B0 A3 E.length (nv E) ∧ CBox w1 wr p k γ l c ∧ B0 ≤ wr.heap.size

set_option maxRecDepth 100000 in
set_option maxHeartbeats 8000000 in
theorem fnWithinBoundWalk (a0 : Option Addr) (n0 c0 : Nat) (z0 : List Int) (w : World) (h0 : Came .u8 w a0 n0 c0 z0) :
    Calls Try.prog 3 #[.slice a0 n0 c0] w fun e w' => e = .returned (.bool true) ∧ Below w.heap.size w w' := by
  obtain ⟨hI, hnc, hcm, hwf⟩ := h0
  have HI := hide hI
  have HBY := hide (show ∀ b ∈ z0, 0 ≤ b ∧ b ≤ 255 from fun b hb => bd_u8 (hwf b hb))
  clear hI hwf
  unfold maxLen at hcm
  by_cases hbig : 4096 < n0
  · go_enter Try.func3, Try.ntmps3
    go_wp2_with fail
    refine (big_yes a0 n0 c0 w hbig (by omega)).mono ?_
    rintro e w ⟨rfl, rfl⟩
    go_wp2_with fail
    go_ret
    exact ⟨rfl, Below.refl _ _⟩
  have hn0 : n0 ≤ 4096 := by omega
  go_enter Try.func3, Try.ntmps3
  go_wp2_with fail
  refine (big_no a0 n0 c0 w hn0).mono ?_
  rintro e w ⟨rfl, rfl⟩
  go_wp2_with fail
  refine (drawDmg a0 n0 c0 z0 w HI hn0 HBY).mono ?_
  rintro e w1 ⟨p, k, γ, L, C, z1, A1, c1, z2, A2, c2, z3, A3, c3, rfl, hL0, hL1, hC0, hC1, hl1, hl2, hl3, hn1, hn2, hn3, hI1, hI2, hI3, hb⟩
  have HB1 := hide hb
  have HX1 := hide (CBox.start w1 p k γ L C)
  have hCb : -9223372036854775808 ≤ C ∧ C ≤ 9223372036854775807 := by omega
  have I1_1 := hide ((hI1.below HX1.out.2).more HX1.out.2.size)
  have I2_1 := hide ((hI2.below HX1.out.2).more HX1.out.2.size)
  have I3_1 := hide ((hI3.below HX1.out.2).more HX1.out.2.size)
  have I0_1 := hide (((HI.out.below hb).more hb.size).below HX1.out.2 |>.more HX1.out.2.size)
  clear hI1 hI2 hI3 hb HI
  obtain ⟨b0, b1, b2, b3, b4⟩ := HX1.out.cells
  clear I0_1
  obtain ⟨v, cd, hS, hM, hC⟩ := dmg_key p k γ L C z1 z2 z3 (by omega) (by omega) (by omega) hCb
  have HS := hide hS
  have HM := hide hM
  have HC := hide hC
  clear hS hM hC
  have hcc : (cd != cd) = false := by simp
  have hvv : (v != v) = false := by simp
  go_wp2_with fail
  refine (HM.out A1 _ c1 A2 _ c2 A3 _ c3 _ _ I1_1.out I2_1.out I3_1.out hn1 hn2 hn3 (Nat.le_refl _)).mono ?_
  rintro e w2 ⟨rfl, hb⟩
  have HX2 := hide (HX1.out.next hb)
  have I1_2 := hide ((I1_1.out.below hb).more hb.size)
  have I2_2 := hide ((I2_1.out.below hb).more hb.size)
  have I3_2 := hide ((I3_1.out.below hb).more hb.size)
  clear I1_1
  clear I2_1
  clear I3_1
  clear hb b0 b1 b2 b3 b4
  obtain ⟨b0, b1, b2, b3, b4⟩ := HX2.out.cells
  go_wp2_with fail
  refine (HS.out A1 _ c1 A2 _ c2 A3 _ c3 _ _ I1_2.out I2_2.out I3_2.out hn1 hn2 hn3 (Nat.le_refl _)).mono ?_
  rintro e w3 ⟨rfl, hb⟩
  have HX3 := hide (HX2.out.next hb)
  have I1_3 := hide ((I1_2.out.below hb).more hb.size)
  have I2_3 := hide ((I2_2.out.below hb).more hb.size)
  have I3_3 := hide ((I3_2.out.below hb).more hb.size)
  clear I1_2
  clear I2_2
  clear I3_2
  clear hb b0 b1 b2 b3 b4
  obtain ⟨b0, b1, b2, b3, b4⟩ := HX3.out.cells
  clear I1_3
  rcases HC.out with hcd | ⟨hcd, b, hB, hbb⟩
  · have e1 : (cd != 0) = true := by simpa using hcd
    clear hcd
    go_wp2_with fail
    go_ret
    exact ⟨rfl, HB1.out.trans (HX3.out.2.mono HB1.out.size)⟩
  · subst hcd
    have HB := hide hB
    have HBB := hide hbb
    clear hB hbb
    go_wp2_with fail
    refine (HB.out A2 _ c2 _ _ I2_3.out hn2 (Nat.le_refl _)).mono ?_
    rintro e w4 ⟨rfl, hb⟩
    have HX4 := hide (HX3.out.next hb)
    have I2_4 := hide ((I2_3.out.below hb).more hb.size)
    have I3_4 := hide ((I3_3.out.below hb).more hb.size)
    clear I2_3
    clear I3_3
    clear hb b0 b1 b2 b3 b4
    obtain ⟨b0, b1, b2, b3, b4⟩ := HX4.out.cells
    rcases HBB.out with hbf | ⟨hbt, R, γ', l, c, E, ss, hLe, hCe, hc, hze, hze', hE, hsl, hcw⟩
    · subst hbf
      go_wp2_with fail
      go_ret
      exact ⟨rfl, HB1.out.trans (HX4.out.2.mono HB1.out.size)⟩
    · subst hbt hLe hCe hze hze'
      have hcl := hc.cl
      have hl255 := hc.l255
      have hc64 := hc.c64
      have hEl := hE.len
      have h2 : (iv ss).length = l := by rw [iv_len]; exact hsl
      have h3 : (nv E).length = E.length := nv_len E
      rw [h2] at I2_4 hn2 ⊢
      rw [h3] at I3_4 hn3 ⊢
      have HIL := hide h2
      have HE := hide hE
      have HSL := hide hsl
      have HCW := hide hcw
      have HN2 := hide hn2
      have HN3 := hide hn3
      have hlb : l ≤ 400 := by omega
      have heb : E.length ≤ 400 := by omega
      clear hcc hvv HS HM HC HB HBB hl1 hl2 hl3 h2 h3 hE hsl hcw
      go_wp2_with (at_builtin; refine wpList_appL _ rfl _ _ _ rfl elem64 w4.heap.size _ [] rfl (Own.lit0 w4 _ _) w4.heap.size A2 l c2 (iv ss) rfl (I2_4.out.below ((Below.refl _ _).alloc (Nat.le_refl _) _)) (by simp; omega) (by simp) ?_; intro v2 w9 hown hgr; have hb := ((Below.refl w4.heap.size w4).alloc (Nat.le_refl _) _).grown hgr (by simp) (fun g hg => ((Own.lit0 w4 2 .i64).lt hg).1); have HX9 := hide (HX4.out.next hb); obtain ⟨d0, d1, d2, d3, d4⟩ := HX9.out.cells)
      have HO9 := hide (show Own w9 w4.heap.size 2 .i64 v2 (iv ss) by simpa using hown)
      have I2_9 := hide (I2_4.out.below hb)
      have I3_9 := hide (I3_4.out.below hb)
      have HBS := hide hb.size
      have HBX := hide HX4.out.lt
      clear hb hown hgr b0 b1 b2 b3 b4 d0 d1 d2 d3 d4 I2_4 I3_4
      obtain ⟨gW, cw, rfl, hg1, hg2, hcw⟩ := HO9.out.some_ (by rw [HIL.out]; omega)
      rw [HIL.out] at HO9 hcw ⊢
      have HG1 := hide hg1
      have HCC := hide hcw
      have hgw : w1.heap.size < gW := Nat.lt_of_lt_of_le HBX.out hg1
      generalize w4.heap.size = B0 at HO9 I2_9 I3_9 HBS HG1
      clear hg1 hg2 hcw HBX HX1 HX2 HX3 HX4
      obtain ⟨b0, b1, b2, b3, b4⟩ := HX9.out.cells
      go_loopw [12, 13] (fun x i wr => WbRel w1 p k γ l c B0 gW cw A2 A3 ss E x i wr) (fun _ i _ => l - (intOf i).toNat)
      case atStart => exact ⟨0, (c : Int) - (E.length : Int), ss, Nat.zero_le _, rfl, rfl, by omega, by omega, HSL, hide ⟨by rw [errs_self]; omega, fun h => by omega⟩, HO9.out, I2_9.out, I3_9.out, HX9.out, HBS.out⟩
      case round =>
        clear b0 b1 b2 b3 b4 HO9 I2_9 I3_9 HX9 HBS
        obtain ⟨j, x, H, hj, rfl, rfl, hx0, hx1, hHL, hHD, hO, hI2, hI3, hX, hB⟩ := hrel
        have HO := hide hO
        have HI2 := hide hI2
        have HI3 := hide hI3
        have HX := hide hX
        have HBZ := hide hB
        have HHL := hide hHL.out
        have HHD := hide hHD.out
        clear hO hI2 hI3 hX hB hHL hHD
        obtain ⟨b0, b1, b2, b3, b4⟩ := HX.out.cells
        by_cases hlt : j < l
        · have hti : (j : Int) < (l : Int) := by omega
          go_wp2_with fail
          refine (lawHas A3 E.length c3 _ (nv E) (j : Int) _ HI3.out (by omega)).mono ?_
          by_cases hin : (j : Int) ∈ nv E
          · rw [decide_eq_true hin]
            have hjE : j ∈ E := by
              obtain ⟨y, hy, hyj⟩ := List.mem_map.1 hin
              have : y = j := by omega
              rw [← this]; exact hy
            have HLE := hide (errs_set0 l E H ss j 0 hjE)
            rintro e w5 ⟨rfl, rfl⟩
            have hfx := HO.out.frozenAt j
            obtain ⟨u, hcx⟩ : ∃ u : Int, wr.cell? ⟨gW, j, none⟩ = some (.int .i64 u) := ⟨_, HO.out.cellAt (j := j) (List.getElem?_eq_getElem (by rw [iv_len, HHL.out]; exact hlt))⟩
            have HOd := hide (HO.out.stored j (((0 : El R).val : Nat) : Int)).1
            rw [iv_set] at HOd
            have HGd := hide (HO.out.stored j (((0 : El R).val : Nat) : Int)).2
            have HLd := hide (show (H.set j 0).length = l by rw [List.length_set]; exact HHL.out)
            clear hin hjE
            go_wp2_with fail
            go_roundw
            case rel => exact ⟨j + 1, x, H.set j 0, hlt, by go_num, rfl, hx0, hx1, HLd, hide ⟨by have := HHD.out.1; have := HLE.out; omega, HHD.out.2⟩, HOd.out, ints_over HI2.out HGd.out HG1.out HBZ.out, ints_over HI3.out HGd.out HG1.out HBZ.out, HX.out.grow HGd.out (fun b hb => by injection hb with hb; omega), Nat.le_trans HBZ.out HGd.out.size⟩
            case measure => simp [intOf]; omega
          · rw [decide_eq_false hin]
            rintro e w5 ⟨rfl, rfl⟩
            clear hin
            by_cases hx2 : 2 ≤ x
            · obtain ⟨X, hX⟩ : ∃ X, X = cf H j := ⟨_, rfl⟩
              have HCX := hide (HO.out.cellAt (j := j) (x := (X.val : Int)) (by rw [hX]; exact iv_at (by rw [HHL.out]; exact hlt)))
              obtain ⟨Y, hY⟩ := el_next X
              have HFS := hide (show fsize p k γ = R.q by rw [fsize, if_pos hc.ok, hc.fld.kind.size])
              have hq3 := hc.fld.kind.big
              have hXq := X.lt
              have hw1 : IntKind.i64.wrap ((X.val : Int) + 1) = (X.val : Int) + 1 := IntWalk.i64_in _ ⟨by omega, by omega⟩
              have hqn : R.q ≠ 0 := by omega
              have HLE := hide (errs_set l E H ss j Y)
              have HBW := hide (show gW < wr.heap.size from (HO.out.lt rfl).2)
              clear hX hXq b0 b1 b2 b3 b4
              go_wp2_with fail
              refine tail_begin (fun w' => w'.cell? ⟨w1.heap.size, 0, none⟩ = some (.int .i64 p) ∧ w'.cell? ⟨w1.heap.size, 1, none⟩ = some (.int .i64 k) ∧ w'.cell? ⟨w1.heap.size, 2, none⟩ = some (.int .i64 γ) ∧ w'.cell? ⟨gW, j, none⟩ = some (.int .i64 (X.val : Int))) 12 (by kernel_rfl) ⟨HX.out.drew.cells.1, HX.out.drew.cells.2.1, HX.out.drew.cells.2.2.1, HCX.out⟩ (fun hS' => ?_)
              refine tail_take 0 rfl (by kernel_rfl) (by kernel_rfl) (by kernel_rfl) (by kernel_rfl) (fun _ _ _ h => h) (by rfl) (v := ?_) ?_ (by assumption) ?_
              rotate_left 1
              · intro w' hS'; (try dsimp only at hS'); go_simp; try with_reducible rfl
              try simp only [Act.put, List.setIfInBounds_toArray, List.set_cons_zero, List.set_cons_succ]
              refine tail_take 1 rfl (by kernel_rfl) (by kernel_rfl) (by kernel_rfl) (by kernel_rfl) (fun _ _ _ h => h) (by rfl) (v := ?_) ?_ (by assumption) ?_
              rotate_left 1
              · intro w' hS'; (try dsimp only at hS'); go_simp; try with_reducible rfl
              try simp only [Act.put, List.setIfInBounds_toArray, List.set_cons_zero, List.set_cons_succ]
              refine tail_take 2 rfl (by kernel_rfl) (by kernel_rfl) (by kernel_rfl) (by kernel_rfl) (fun _ _ _ h => h) (by rfl) (v := ?_) ?_ (by assumption) ?_
              rotate_left 1
              · intro w' hS'; (try dsimp only at hS'); go_simp; try with_reducible rfl
              try simp only [Act.put, List.setIfInBounds_toArray, List.set_cons_zero, List.set_cons_succ]
              refine tail_take 3 rfl (by kernel_rfl) (by kernel_rfl) (by kernel_rfl) (by kernel_rfl) (fun _ _ _ h => h) (by rfl) (v := ?_) ?_ (by assumption) ?_
              rotate_left 1
              · intro w' hS'; (try dsimp only at hS'); go_simp; try with_reducible rfl
              try simp only [Act.put, List.setIfInBounds_toArray, List.set_cons_zero, List.set_cons_succ]
              refine tail_take 4 rfl (by kernel_rfl) (by kernel_rfl) (by kernel_rfl) (by kernel_rfl) (fun _ _ _ h => h) (by rfl) (v := ?_) ?_ (by assumption) ?_
              rotate_left 1
              · intro w' hS'; (try dsimp only at hS'); go_simp; try with_reducible rfl
              try simp only [Act.put, List.setIfInBounds_toArray, List.set_cons_zero, List.set_cons_succ]
              refine tail_take 5 rfl (by kernel_rfl) (by kernel_rfl) (by kernel_rfl) (by kernel_rfl) (fun _ _ _ h => h) (by rfl) (v := ?_) ?_ (by assumption) ?_
              rotate_left 1
              · intro w' hS'; (try dsimp only at hS'); go_simp; try with_reducible rfl
              try simp only [Act.put, List.setIfInBounds_toArray, List.set_cons_zero, List.set_cons_succ]
              refine tail_take 6 rfl (by kernel_rfl) (by kernel_rfl) (by kernel_rfl) (by kernel_rfl) (fun _ _ _ h => h) (by rfl) (v := ?_) ?_ (by assumption) ?_
              rotate_left 1
              · intro w' hS'; (try dsimp only at hS'); go_simp; try with_reducible rfl
              try simp only [Act.put, List.setIfInBounds_toArray, List.set_cons_zero, List.set_cons_succ]
              refine tail_take 7 rfl (by kernel_rfl) (by kernel_rfl) (by kernel_rfl) (by kernel_rfl) (fun _ _ _ h => h) (by rfl) (v := ?_) ?_ (by assumption) ?_
              rotate_left 1
              · intro w' hS'; (try dsimp only at hS'); go_simp; try with_reducible rfl
              try simp only [Act.put, List.setIfInBounds_toArray, List.set_cons_zero, List.set_cons_succ]
              refine tail_take 8 rfl (by kernel_rfl) (by kernel_rfl) (by kernel_rfl) (by kernel_rfl) (fun _ _ _ h => h) (by rfl) (v := ?_) ?_ (by assumption) ?_
              rotate_left 1
              · intro w' hS'; (try dsimp only at hS'); go_simp; try with_reducible rfl
              try simp only [Act.put, List.setIfInBounds_toArray, List.set_cons_zero, List.set_cons_succ]
              refine tail_call 9 rfl (by kernel_rfl) rfl (fun K hK => ?_)
              go_simp
              go_at_call 18; refine (specFieldSize p k γ _).mono ?_; rw [HFS.out]; rintro e w6 ⟨rfl, hb⟩; have HX6 := hide (HX.out.drew.next hb); have HO6 := hide (HO.out.drew.below hb (Nat.le_refl _)); have HI2_6 := hide (HI2.out.drew.below (hb.mono HBZ.out)); have HI3_6 := hide (HI3.out.drew.below (hb.mono HBZ.out)); have HB6 := hide (Nat.le_trans HBZ.out hb.size); have HCX6 := hide ((hb.cell (p := ⟨gW, j, none⟩) HBW.out).trans HCX.out); clear hb
              refine hK.out _ _ (by (try dsimp only); exact ⟨HX6.out.cells.1, HX6.out.cells.2.1, HX6.out.cells.2.2.1, HCX6.out⟩) (fun hS' => ?_)
              clear hK K
              try simp only [Act.put, List.setIfInBounds_toArray, List.set_cons_zero, List.set_cons_succ]
              refine tail_take 10 rfl (by kernel_rfl) (by kernel_rfl) (by kernel_rfl) (by kernel_rfl) (fun _ _ _ h => h) (by rfl) (v := ?_) ?_ (by assumption) ?_
              rotate_left 1
              · intro w' hS'; (try dsimp only at hS'); go_simp; try with_reducible rfl
              try simp only [Act.put, List.setIfInBounds_toArray, List.set_cons_zero, List.set_cons_succ]
              refine tail_take 11 rfl (by kernel_rfl) (by kernel_rfl) (by kernel_rfl) (by kernel_rfl) (fun _ _ _ h => h) (by rfl) (v := ?_) ?_ (by assumption) ?_
              rotate_left 1
              · intro w' hS'; (try dsimp only at hS'); go_simp; try with_reducible rfl
              try simp only [Act.put, List.setIfInBounds_toArray, List.set_cons_zero, List.set_cons_succ]
              have hcx6 := HCX6.out
              have hfx6 := HO6.out.frozenAt j
              refine tail_last 12 rfl (by kernel_rfl) (by kernel_rfl) rfl rfl (fun K hK => ?_)
              go_simp
              refine hK.out _ _ ?_
              clear hK K
              try simp only [Act.put, List.setIfInBounds_toArray, List.set_cons_zero, List.set_cons_succ]
              have HO7 := hide (HO6.out.stored j (Y.val : Int)).1
              rw [iv_set] at HO7
              have HG7 := hide (HO6.out.stored j (Y.val : Int)).2
              have HLd := hide (show (H.set j Y).length = l by rw [List.length_set]; exact HHL.out)
              clear hcx6 hfx6
              have HX7 := hide (HX6.out.grow HG7.out (fun b hb => by injection hb with hb; omega))
              have HI2_7 := hide (ints_over HI2_6.out HG7.out HG1.out HB6.out)
              have HI3_7 := hide (ints_over HI3_6.out HG7.out HG1.out HB6.out)
              have HB7 := hide (Nat.le_trans HB6.out HG7.out.size)
              generalize w6.setCell ⟨gW, j, none⟩ (.int .i64 (Y.val : Int)) = w7 at HO7 HX7 HI2_7 HI3_7 HB7 ⊢
              go_wp2_with fail
              go_roundw
              case rel => exact ⟨j + 1, x - 2, H.set j Y, hlt, by go_num, rfl, by omega, by omega, HLd, hide ⟨by have := HHD.out.1; have := HLE.out; omega, fun h => by omega⟩, HO7.out, HI2_7.out, HI3_7.out, HX7.out, HB7.out⟩
              case measure => simp [intOf]; omega
            · have hx2' : decide (2 ≤ x) = false := by simpa using hx2
              clear hx2
              go_wp2_with fail
              go_roundw
              case rel => exact ⟨j + 1, x, H, hlt, by go_num, rfl, hx0, hx1, HHL, HHD, HO.out, HI2.out, HI3.out, HX.out, HBZ.out⟩
              case measure => simp [intOf]; omega
        · have hd : decide (j < l) = false := by simpa using hlt
          obtain ⟨r, s, cd, hr, hK, hR⟩ := hurt_key hc E HE.out ss HSL.out HCW.out H HHL.out (fun h => by have h1 := HHD.out.1; have h2 := HHD.out.2 h; omega)
          have HK := hide hK
          have HR := hide hR
          have HIH := hide (show Ints .i64 wr wr.heap.size (some ⟨gW, 0, none⟩) l (iv H) by have h := HO.out.ints; rwa [show (iv H).length = l by rw [iv_len]; exact HHL.out] at h)
          clear hlt hK hR
          go_wp2_with fail
          refine (HK.out (some ⟨gW, 0, none⟩) l cw A3 E.length c3 wr.heap.size wr HIH.out (HI3.out.more HBZ.out) HCC.out HN3.out (Nat.le_refl _)).mono ?_
          rintro e w8 ⟨Ag, cg, Ah, ch, rfl, hcg, hch, hog, hoh, hne, hb⟩
          have HX8 := hide (HX.out.next hb)
          have Ig_8 := hide hog.ints
          have I2_8 := hide ((HI2.out.below (hb.mono HBZ.out)).more (Nat.le_trans HBZ.out hb.size))
          clear hb hog hoh hne hcg hch b0 b1 b2 b3 b4
          obtain ⟨b0, b1, b2, b3, b4⟩ := HX8.out.cells
          rcases HR.out with ⟨hlc, hcd⟩ | ⟨hlc, hcd, hre⟩
          · subst hcd
            have hgt : (c : Int) < (E.length : Int) := by omega
            go_wp2_with fail
            go_ret
            exact ⟨rfl, HB1.out.trans (HX8.out.2.mono HB1.out.size)⟩
          · subst hcd hre
            have hgt : decide ((c : Int) < (E.length : Int)) = false := by rw [decide_eq_false_iff_not]; omega
            have hgt' : decide (c < E.length) = false := by rw [decide_eq_false_iff_not]; omega
            clear hlc
            go_wp2_with fail
            refine (likeSame Ag _ cg _ A2 _ c2 _ (iv ss) _ Ig_8.out I2_8.out (by rw [HIL.out]; omega)).mono ?_
            rintro e w10 ⟨rfl, hb⟩
            have HX10 := hide (HX8.out.next hb)
            clear hb b0 b1 b2 b3 b4
            obtain ⟨b0, b1, b2, b3, b4⟩ := HX10.out.cells
            go_wp2_with fail
            go_ret
            exact ⟨rfl, HB1.out.trans (HX10.out.2.mono HB1.out.size)⟩
end Go.Proofs.Ytpheembgjdgniaa
