/-
  The contract of the algorithm of Berlekamp and Massey, of the model.
  Condition: the field is valid; the sequence has at most 64 elements.
-/
import Derived.Test.YtdniocdmncldjaaRErr
import Derived.Test.YtdniocdmncldjaaJG
import Derived.Test.YtdniocdmncldjaaJK
namespace Go.Proofs.Ytdniocdmncldjaa
open Go.RowKit
set_option linter.unusedSimpArgs false
set_option linter.unusedVariables false

section
variable {R : Fld} {p k g : Int}
/-- A polynomial times a power of x. -/
def shL (t : Nat) (ps : List (El R)) : List (El R) := List.replicate t 0 ++ ps
theorem shL_len (t : Nat) (ps : List (El R)) : (shL t ps).length = t + ps.length := by simp [shL]
theorem cf_shL (t : Nat) (ps : List (El R)) (i : Nat) : cf (shL t ps) i = if t ≤ i then cf ps (i - t) else 0 := by
  unfold cf shL
  rw [List.getD_eq_getElem?_getD, List.getElem?_append]
  split
  · rename_i h
    rw [List.length_replicate] at h
    rw [if_neg (by omega), List.getElem?_replicate, if_pos h]; rfl
  · rename_i h
    rw [List.length_replicate] at h ⊢
    rw [if_pos (by omega), List.getD_eq_getElem?_getD]
theorem iv_rep (t : Nat) : iv (List.replicate t (0 : El R)) = List.replicate t 0 := by rw [iv, List.map_replicate]; rfl
set_option maxHeartbeats 1000000 in
theorem specShiftE (A : Option Addr) (n c B t : Nat) (ps : List (El R)) (w : World) (hI : Ints .i64 w B A n (iv ps)) (hB : B ≤ w.heap.size) (hn : n ≤ 1048576) (hn0 : 0 < n) (ht : t ≤ 1048576) :
    Calls Try.prog 71 #[.slice A n c, .int .i64 t] w (NewE (shL t ps) w) := by
  have HI := hide hI
  have e1 : ((n : Int) == 0) = false := by simp; omega
  clear hI
  go_enter Try.func71, Try.ntmps71
  go_wp2_with (first
    | (refine wpList_mkN _ rfl (.tmp 9) (.tmp 9) 26 rfl elem64 .i64 .i64 _ _ t rfl rfl rfl rfl (by omega) fun w1 h1 h2 => ?_; have HO1 := hide h1; have HB1 := hide h2; clear h1 h2)
    | (at_builtin; refine wpList_appL _ rfl _ _ _ rfl elem64 w.heap.size _ (List.replicate t 0) rfl HO1.out B A n c (iv ps) rfl (HI.out.below (HB1.out.mono hB)) (by simp; omega) HB1.out.size ?_; intro v2 w2 hown hgr; have HO2 := hide hown; have HG2 := hide hgr; clear hown hgr))
  have HOF := hide (show Own w2 w.heap.size 2 .i64 v2 (iv (shL t ps)) by have := HO2.out; rw [shL, iv, List.map_append, List.map_replicate]; exact this)
  have HBl := hide (HB1.out.grown HG2.out HB1.out.size (fun g hg => (HO1.out.lt hg).1))
  go_wp2_with fail
  go_ret
  exact newE_of HOF.out HBl.out (Nat.le_refl _)

/-- How the older polynomial of the model is related to the one of the state. -/
def Mas (O b : List (El R)) (la : El R) (G : Nat) : Prop := ∀ i, cf (mulP O xP) i = la.inv * (if G ≤ i then cf b (i - G) else 0)
theorem cf_mulx (O : List (El R)) (i : Nat) : cf (mulP O xP) i = if 1 ≤ i then cf O (i - 1) else 0 := by rw [cf_mul, ps_comm, ps_x]
theorem mas_start : Mas ([1] : List (El R)) [1] 1 1 := fun i => by
  have e : (1 : El R).inv = 1 := by have := einv (e10 (R := R)); rwa [e1m] at this
  rw [cf_mulx, e, e1m]
theorem Mas.keep {O b : List (El R)} {la : El R} {G : Nat} (h : Mas O b la G) : Mas (mulP O xP) b la (G + 1) := fun i => by
  rw [cf_mulx]
  by_cases h1 : 1 ≤ i
  · rw [if_pos h1, h (i - 1)]
    by_cases h2 : G + 1 ≤ i
    · rw [if_pos h2, if_pos (by omega), show i - 1 - G = i - (G + 1) by omega]
    · rw [if_neg h2, if_neg (by omega)]
  · rw [if_neg h1, if_neg (by omega), em0]
theorem mas_grow (C : List (El R)) (d : El R) : Mas (scaP d.inv C) C d 1 := fun i => by
  rw [cf_mulx]
  split
  · rw [cf_sca]
  · rw [em0]
theorem Mas.next {C O b : List (El R)} {la d : El R} {G : Nat} (h : Mas O b la G) : addP C (trim (mulP [-(d * la.inv)] (shL G b))) = addP C (scaP (-d) (mulP O xP)) := by
  have e : cf (trim (mulP [-(d * la.inv)] (shL G b))) = cf (scaP (-d) (mulP O xP)) := by
    have e1 : cf (mulP [-(d * la.inv)] (shL G b)) = cf (scaP (-(d * la.inv)) (shL G b)) := by
      rw [← mul_num, cf_trim, cf_mul, cf_mul, ps_comm]
    rw [cf_trim, e1, cf_sca, cf_sca]
    funext i
    show -(d * la.inv) * cf (shL G b) i = -d * cf (mulP O xP) i
    rw [h i, cf_shL, enm, enm, ema]
  exact tr_ext (tr_trim _) (tr_trim _) (by rw [cf_addP, cf_addP, e])
theorem mul1_len (f : El R) (q : List (El R)) : (trim (mulP [f] q)).length ≤ q.length := by
  refine Nat.le_trans (trim_le _) ?_
  rw [mulP, tab_len]; unfold plen; split <;> simp

def MaRel (w : World) (p k g : Int) (n : Nat) (s : List (El R)) (vc vb le gp la i : Value) (wr : World) : Prop :=
  ∃ (j : Nat) (bl : List (El R)) (Ab : Option Addr) (nb cb G : Nat) (x : El R), j ≤ n ∧ i = .int .i64 j ∧ le = .int .i64 ((bm (cf s) j).L : Nat) ∧ gp = .int .i64 G ∧ la = .int .i64 (x.val : Nat) ∧ vb = .slice Ab nb cb ∧ G ≤ j + 1 ∧ nb ≤ j + 1 ∧ 0 < nb ∧ bl.length = nb ∧ x ≠ 0 ∧
    Mas (bm (cf s) j).O bl x G ∧ Own wr (w.heap.size + 1) 2 .i64 vc (iv (bm (cf s) j).C) ∧ Ints .i64 wr wr.heap.size Ab nb (iv bl) ∧ Box w wr 25 p k g
def MjRel (w wo : World) (p k g : Int) (n kk : Nat) (C s : List (El R)) (v i : Value) (wr : World) : Prop := SumRel6 w p k g n kk C s v i wr ∧ Below wo.heap.size wo wr

set_option maxRecDepth 100000 in
set_option maxHeartbeats 16000000 in
theorem specMassey (h : FldIs R p k g) (s : List (El R)) (A : Option Addr) (n c B : Nat) (w : World) (hI : Ints .i64 w B A n (iv s)) (hB : B ≤ w.heap.size) (hn : n ≤ 64) :
    Calls Try.prog 45 #[.agg #[.int .i64 p, .int .i64 k, .int .i64 g], .slice A n c] w
      (fun e w' => ∃ v, e = .returned (.tuple #[v, .int .i64 ((bm (cf s) n).L : Nat)]) ∧ Own w' w.heap.size 2 .i64 v (iv (bm (cf s) n).C) ∧ Below w.heap.size w w') := by
  have HX := hide (Box.start w 25 p k g)
  have hsn : s.length = n := by rw [← iv_len]; exact hI.len
  have HI := hide hI
  have HSN := hide hsn
  clear hI hsn
  have HXa := hide ((HX.out.alloc (.cells #[.int .i64 1] 2)).alloc (.cells #[.int .i64 1] 2))
  have hL1 := own_lit1R (w.alloc (.cells #[.int .i64 p, .int .i64 k, .int .i64 g] 25)) 2 .i64 1
  have hL2 := ints_one ((w.alloc (.cells #[.int .i64 p, .int .i64 k, .int .i64 g] 25)).alloc (.cells #[.int .i64 1] 2)) 2 .i64 1
  have HL1 := hide (hL1.alloc (.cells #[.int .i64 1] 2))
  have HL2 := hide hL2
  rw [alloc_size] at HL1
  rw [alloc_size, alloc_size] at HL2
  clear hL1 hL2
  go_enter Try.func45, Try.ntmps45
  go_wp2_with fail
  obtain ⟨W0, hW0⟩ : ∃ W0, ((w.alloc (.cells #[.int .i64 p, .int .i64 k, .int .i64 g] 25)).alloc (.cells #[.int .i64 1] 2)).alloc (.cells #[.int .i64 1] 2) = W0 := ⟨_, rfl⟩
  have HS0 := hide (show W0.heap.size = w.heap.size + 1 + 1 + 1 by rw [← hW0, alloc_size, alloc_size, alloc_size])
  rw [hW0] at HXa HL1 HL2 ⊢
  clear hW0 HX
  go_loopw [6, 7, 8, 9, 10, 11] (fun vc vb le gp la i wr => MaRel w p k g n s vc vb le gp la i wr) (fun _ _ _ _ _ i _ => n - (intOf i).toNat)
  case atStart => exact ⟨0, [1], _, 1, 1, 1, 1, Nat.zero_le _, rfl, rfl, rfl, rfl, rfl, by omega, by omega, by omega, rfl, e10, mas_start, HL1.out, by rw [HS0.out]; exact HL2.out, HXa.out⟩
  case round =>
    clear HL1 HL2 HXa HS0
    obtain ⟨vS, rfl⟩ : ∃ v : Value, v = u6 := ⟨_, rfl⟩
    obtain ⟨wo, rfl⟩ : ∃ wo : World, wo = wr := ⟨_, rfl⟩
    obtain ⟨kk, bl, Ab, nb, cb, G, la, hj, rfl, rfl, rfl, rfl, rfl, hG, hnb, hnb0, hbl, hla, hM, HO, HP, HX⟩ := hrel
    have HO := hide HO
    have HP := hide HP
    have HX := hide HX
    have HM := hide hM
    have HLA := hide hla
    have HBL := hide hbl
    clear hM hla hbl
    have b1 := bm_len (cf s) kk
    have b3 := bm_le (cf s) kk
    have b4 := bm_pos (cf s) kk
    have HN := hide (show bm (cf s) (kk + 1) = bmNext (cf s) kk (bm (cf s) kk) from rfl)
    by_cases hlt : kk < n
    · rcases hb : bm (cf s) kk with ⟨C, O, L⟩
      rw [hb] at HO HM b1 b3 b4 HN
      dsimp only at HO HM b1 b3 b4 ⊢
      obtain ⟨Ac, cc, rfl, hcc⟩ := HO.out.form
      obtain ⟨nc, hnc⟩ : ∃ n, C.length = n := ⟨_, rfl⟩
      rw [iv_len, hnc] at HO hcc ⊢
      rw [hnc] at b1 b4
      obtain ⟨d, hd⟩ : ∃ d, ps (cf C) (cf s) kk = d := ⟨_, rfl⟩
      have HNC := hide hnc
      have HD := hide hd
      clear hb hnc hd hcc
      go_wp2_with fail
      go_loopw [12, 13] (fun v i wr => MjRel w wo p k g nc kk C s v i wr) (fun _ i _ => nc - (intOf i).toNat)
      case atStart => exact ⟨⟨0, 0, Nat.zero_le _, Nat.zero_le _, rfl, rfl, rfl, HX.out⟩, Below.refl _ _⟩
      case round =>
        obtain ⟨⟨j, y, hj', hjk, rfl, rfl, HY, HXr⟩, HBr⟩ := hrel
        have HXr := hide HXr
        have HBr := hide HBr
        by_cases hlc : j < nc
        · have hlk : j ≤ kk := by omega
          obtain ⟨t, ht⟩ : ∃ t, t = kk - j := ⟨_, rfl⟩
          have htm : t < n := by omega
          obtain ⟨b, off, x, rfl, hb, hx, hc⟩ := ((HO.out.intsE).below HBr.out).at_ hlc
          obtain ⟨b', off', x', rfl, hb', hx', hc'⟩ := (HI.out.below (HXr.out.2.mono hB)).at_ htm
          rw [iv_at (by rw [HNC.out]; exact hlc)] at hx
          rw [iv_at (by rw [HSN.out]; exact htm)] at hx'
          simp only [Option.some.injEq] at hx hx'
          subst hx
          subst hx'
          have hw1 : IntKind.i64.wrap ((kk : Int) - (j : Int)) = (t : Int) := by rw [IntWalk.i64_in _ ⟨by omega, by omega⟩]; omega
          obtain ⟨u, hu⟩ : ∃ u, u = cf C j := ⟨_, rfl⟩
          obtain ⟨z, hz⟩ : ∃ z, z = cf s t := ⟨_, rfl⟩
          rw [← hu] at hc
          rw [← hz] at hc'
          have HNX := hide (show y + u * z = pS C s kk (j + 1) by rw [pS_succ, ← HY.out, hu, hz, ht])
          have hbl : b < wr.heap.size := Nat.lt_of_lt_of_le hb HBr.out.size
          have hbl' : b' < wr.heap.size := Nat.lt_of_lt_of_le hb' (Nat.le_trans hB (Nat.le_of_lt HXr.out.lt))
          have HC := hide hc
          have HE := hide hc'
          clear hu hz ht hc hc'
          go_wp2_with fail
          go_region_held3 (fun w' => w'.cell? ⟨w.heap.size, 0, none⟩ = some (.int .i64 p) ∧ w'.cell? ⟨w.heap.size, 1, none⟩ = some (.int .i64 k) ∧ w'.cell? ⟨w.heap.size, 2, none⟩ = some (.int .i64 g) ∧ w'.cell? ⟨b, off + j, none⟩ = some (.int .i64 (u.val : Int)) ∧ w'.cell? ⟨b', off' + t, none⟩ = some (.int .i64 (z.val : Int)))
            (first
              | exact ⟨HXr.out.drew.cells.1, HXr.out.drew.cells.2.1, HXr.out.drew.cells.2.2, HC.out, HE.out⟩
              | exact ⟨HX2.out.cells.1, HX2.out.cells.2.1, HX2.out.cells.2.2, HC2.out, HE2.out⟩
              | exact ⟨HX3.out.cells.1, HX3.out.cells.2.1, HX3.out.cells.2.2, HC3.out, HE3.out⟩)
            (first
              | (go_at_call 65; refine (specMulE h u z _).mono ?_; rintro e w2 ⟨rfl, hb2⟩; have HX2 := hide (HXr.out.drew.next hb2); have HB2 := hide (HBr.out.drew.trans (hb2.mono HBr.out.size)); have HC2 := hide ((hb2.cell (p := ⟨b, off + j, none⟩) hbl).trans HC.out); have HE2 := hide ((hb2.cell (p := ⟨b', off' + t, none⟩) hbl').trans HE.out); have hbl2 : b < w2.heap.size := Nat.lt_of_lt_of_le hbl hb2.size; have hbl2' : b' < w2.heap.size := Nat.lt_of_lt_of_le hbl' hb2.size; clear hb2)
              | (go_at_call 64; refine (specAddE h y (u * z) _).mono ?_; rintro e w3 ⟨rfl, hb3⟩; have HX3 := hide (HX2.out.next hb3); have HB3 := hide (HB2.out.trans (hb3.mono HB2.out.size)); have HC3 := hide ((hb3.cell (p := ⟨b, off + j, none⟩) hbl2).trans HC2.out); have HE3 := hide ((hb3.cell (p := ⟨b', off' + t, none⟩) hbl2').trans HE2.out); clear hb3))
          go_wp2_with fail
          go_roundw
          case rel => exact ⟨⟨j + 1, y + u * z, by omega, by omega, by go_num, rfl, HNX, HX3.out⟩, HB3.out⟩
          case measure => simp [intOf]; omega
        · obtain rfl : j = nc := by omega
          have hyd : y = d := by rw [HY.out, pS_all (by rw [HNC.out]; exact Nat.le_refl _) hjk, HD.out]
          subst hyd
          have HO1 := hide (HO.out.below HBr.out (Nat.le_refl _))
          have HP1 := hide ((HP.out.below HBr.out).more HBr.out.size)
          clear HY HO HP HX HBr
          by_cases hd0 : y = 0
          · have e3 : ((y.val : Int) == 0) = true := by rw [hd0]; rfl
            have HF := hide (show bmNext (cf s) kk ⟨C, O, L⟩ = ⟨C, mulP O xP, L⟩ by unfold bmNext; rw [if_pos (by rw [HD.out]; exact hd0)])
            rw [HF.out] at HN
            clear hd0
            go_wp2_with fail
            go_roundw
            case rel => exact ⟨kk + 1, bl, Ab, nb, cb, G + 1, la, by omega, by go_num, by rw [HN.out], by go_num, rfl, rfl, by omega, by omega, hnb0, HBL.out, HLA.out, by rw [HN.out]; exact HM.out.keep, by rw [HN.out]; exact HO1.out, HP1.out, HXr.out⟩
            case measure => simp [intOf]; omega
          · have e3 : ((y.val : Int) == 0) = false := by have := val_ne hd0; simp; omega
            have HD0 := hide hd0
            clear hd0
            go_wp2_with fail
            go_region_held3 (fun w' => w'.cell? ⟨w.heap.size, 0, none⟩ = some (.int .i64 p) ∧ w'.cell? ⟨w.heap.size, 1, none⟩ = some (.int .i64 k) ∧ w'.cell? ⟨w.heap.size, 2, none⟩ = some (.int .i64 g))
              (first
                | exact HXr.out.drew.cells
                | exact HX2.out.cells
                | exact HX3.out.cells
                | exact HX4.out.cells)
              (first
                | (go_at_call 68; refine (specInvE h la _).mono ?_; rintro e w2 ⟨rfl, hb2⟩; have HX2 := hide (HXr.out.drew.next hb2); have HO2 := hide (HO1.out.drew.below hb2 (Nat.le_refl _)); have HP2 := hide ((HP1.out.drew.below hb2).more hb2.size); clear hb2)
                | (go_at_call 65; refine (specMulE h y la.inv _).mono ?_; rintro e w3 ⟨rfl, hb3⟩; have HX3 := hide (HX2.out.next hb3); have HO3 := hide (HO2.out.below hb3 (Nat.le_refl _)); have HP3 := hide ((HP2.out.below hb3).more hb3.size); clear hb3)
                | (go_at_call 40; refine (specNegE h (y * la.inv) _).mono ?_; rintro e w4 ⟨rfl, hb4⟩; have HX4 := hide (HX3.out.next hb4); have HO4 := hide (HO3.out.below hb4 (Nat.le_refl _)); have HP4 := hide ((HP3.out.below hb4).more hb4.size); clear hb4))
            go_wp2_with fail
            have HNX := hide (HM.out.next (C := C) (d := y))
            obtain ⟨f, hf⟩ : ∃ f, -(y * la.inv) = f := ⟨_, rfl⟩
            rw [hf] at HNX ⊢
            clear hf HX2 HX3 HO2 HO3 HP2 HP3 HXr HO1 HP1
            obtain ⟨ns, hns⟩ : ∃ n, (shL G bl).length = n := ⟨_, rfl⟩
            have hnsb : ns ≤ 200 := by rw [← hns, shL_len, HBL.out]; omega
            have HNS := hide hns
            obtain ⟨nm, hnm⟩ : ∃ n, (trim (mulP [f] (shL G bl))).length = n := ⟨_, rfl⟩
            have hnmb : nm ≤ 200 := by rw [← hnm]; have := mul1_len f (shL G bl); omega
            have HNM := hide hnm
            obtain ⟨nx, hnx⟩ : ∃ n, (addP C (trim (mulP [f] (shL G bl)))).length = n := ⟨_, rfl⟩
            have HNN := hide hnx
            clear hns hnm hnx
            refine tail_begin (fun w' => w'.cell? ⟨w.heap.size, 0, none⟩ = some (.int .i64 p) ∧ w'.cell? ⟨w.heap.size, 1, none⟩ = some (.int .i64 k) ∧ w'.cell? ⟨w.heap.size, 2, none⟩ = some (.int .i64 g)) 11 (by kernel_rfl) (by exact HX4.out.drew.cells) (fun hS' => ?_)
            refine tail_take2 0 rfl (by kernel_rfl) (by kernel_rfl) (by kernel_rfl) (by decide) (fun _ _ _ h => h) (by rfl) (v := ?_) ?_ (by assumption) ?_
            rotate_left 1
            · intro w' hS'; (try dsimp only at hS'); go_simp; try with_reducible rfl
            try simp only [Act.put, List.setIfInBounds_toArray, List.set_cons_zero, List.set_cons_succ]
            refine tail_take2 1 rfl (by kernel_rfl) (by kernel_rfl) (by kernel_rfl) (by decide) (fun _ _ _ h => h) (by rfl) (v := ?_) ?_ (by assumption) ?_
            rotate_left 1
            · intro w' hS'; (try dsimp only at hS'); go_simp; try with_reducible rfl
            try simp only [Act.put, List.setIfInBounds_toArray, List.set_cons_zero, List.set_cons_succ]
            refine tail_take2 2 rfl (by kernel_rfl) (by kernel_rfl) (by kernel_rfl) (by decide) (fun _ _ _ h => h) (by rfl) (v := ?_) ?_ (by assumption) ?_
            rotate_left 1
            · intro w' hS'; (try dsimp only at hS'); go_simp; try with_reducible rfl
            try simp only [Act.put, List.setIfInBounds_toArray, List.set_cons_zero, List.set_cons_succ]
            refine tail_take2 3 rfl (by kernel_rfl) (by kernel_rfl) (by kernel_rfl) (by decide) (fun _ _ _ h => h) (by rfl) (v := ?_) ?_ (by assumption) ?_
            rotate_left 1
            · intro w' hS'; (try dsimp only at hS'); go_simp; try with_reducible rfl
            try simp only [Act.put, List.setIfInBounds_toArray, List.set_cons_zero, List.set_cons_succ]
            refine tail_take2 5 rfl (by kernel_rfl) (by kernel_rfl) (by kernel_rfl) (by decide) (fun _ _ _ h => h) (by rfl) (v := ?_) ?_ (by assumption) ?_
            rotate_left 1
            · intro w' hS'; (try dsimp only at hS'); go_simp; try with_reducible rfl
            try simp only [Act.put, List.setIfInBounds_toArray, List.set_cons_zero, List.set_cons_succ]
            refine tail_take2 6 rfl (by kernel_rfl) (by kernel_rfl) (by kernel_rfl) (by decide) (fun _ _ _ h => h) (by rfl) (v := ?_) ?_ (by assumption) ?_
            rotate_left 1
            · intro w' hS'; (try dsimp only at hS'); go_simp; try with_reducible rfl
            try simp only [Act.put, List.setIfInBounds_toArray, List.set_cons_zero, List.set_cons_succ]
            refine tail_two 4 7 rfl rfl (by kernel_rfl) rfl rfl (fun K hK => ?_) (fun K hK => ?_)
            · go_simp
              have HXb := hide (HX4.out.drew.alloc (.cells #[.int .i64 (f.val : Int)] 2))
              have HCb := hide (HO4.out.drew.alloc (.cells #[.int .i64 (f.val : Int)] 2))
              have HPb := hide ((HP4.out.drew.below ((Below.refl w4.heap.size w4.drew).alloc (Nat.le_refl _) (.cells #[.int .i64 (f.val : Int)] 2))).more (B' := (w4.drew.alloc (.cells #[.int .i64 (f.val : Int)] 2)).heap.size) (by rw [alloc_size]; exact Nat.le_succ _))
              have HFb := hide ((ints_one w4.drew 2 .i64 (f.val : Int)).more (B' := (w4.drew.alloc (.cells #[.int .i64 (f.val : Int)] 2)).heap.size) (by rw [alloc_size]; exact Nat.le_refl _))
              refine hK.out _ _ (by (try dsimp only); exact HXb.out.cells) (fun hS' => ?_)
              clear hK K
              try simp only [Act.put, List.setIfInBounds_toArray, List.set_cons_zero, List.set_cons_succ]
              refine tail_call 7 rfl (by kernel_rfl) rfl (fun K hK => ?_)
              go_simp
              go_at_call 71; refine (specShiftE Ab nb cb _ G bl _ HPb.out (Nat.le_refl _) (by omega) hnb0 (by omega)).mono ?_; rintro e' w5 ⟨A5, m5, rfl, hm5, ho5, hb5⟩; rw [HNS.out] at ho5 ⊢; have HX5 := hide (HXb.out.next hb5); have HC5 := hide (HCb.out.below hb5 (Nat.le_refl _)); have HP5 := hide ((HPb.out.below hb5).more hb5.size); have HF5 := hide ((HFb.out.below hb5).more hb5.size); have HS5 := hide ho5.intsE; clear ho5 hm5 hb5
              refine hK.out _ _ (by (try dsimp only); exact HX5.out.cells) (fun hS' => ?_)
              clear hK K
              try simp only [Act.put, List.setIfInBounds_toArray, List.set_cons_zero, List.set_cons_succ]
              refine tail_call 8 rfl (by kernel_rfl) rfl (fun K hK => ?_)
              go_simp
              go_at_call 70; refine (specMulE' h [f] (shL G bl) (some ⟨w4.heap.size, 0, none⟩) A5 1 1 ns m5 _ _ HF5.out HS5.out (Nat.le_refl _) (by omega) (by omega)).mono ?_; rintro e' w6 ⟨A6, m6, rfl, hm6, ho6, hb6⟩; rw [HNM.out] at ho6 ⊢; have HX6 := hide (HX5.out.next hb6); have HC6 := hide (HC5.out.below hb6 (Nat.le_refl _)); have HP6 := hide ((HP5.out.below hb6).more hb6.size); have HS6 := hide ho6.intsE; clear ho6 hm6 hb6
              refine hK.out _ _ (by (try dsimp only); exact HX6.out.cells) (fun hS' => ?_)
              clear hK K
              try simp only [Act.put, List.setIfInBounds_toArray, List.set_cons_zero, List.set_cons_succ]
              refine tail_call 9 rfl (by kernel_rfl) rfl (fun K hK => ?_)
              go_simp
              go_at_call 69; refine (specAddE' h C (trim (mulP [f] (shL G bl))) Ac A6 j cc nm m6 _ _ HC6.out.intsE HS6.out (Nat.le_refl _) (by omega) (by omega)).mono ?_; rintro e' w7 ⟨A7, m7, rfl, hm7, ho7, hb7⟩; rw [HNN.out] at ho7 ⊢; have HX7 := hide (HX6.out.next hb7); have HC7 := hide (HC6.out.below hb7 (Nat.le_refl _)); have HP7 := hide ((HP6.out.below hb7).more hb7.size); have HO7 := hide (ho7.low (base' := w.heap.size + 1) HX6.out.lt); clear ho7 hm7 hb7
              refine hK.out _ _ (by (try dsimp only); exact HX7.out.cells) (fun hS' => ?_)
              clear hK K
              try simp only [Act.put, List.setIfInBounds_toArray, List.set_cons_zero, List.set_cons_succ]
              refine tail_take2 10 rfl (by kernel_rfl) (by kernel_rfl) (by kernel_rfl) (by decide) (fun _ _ _ h => h) (by rfl) (v := ?_) ?_ (by assumption) ?_
              rotate_left 1
              · intro w' hS'; (try dsimp only at hS'); go_simp; try with_reducible rfl
              try simp only [Act.put, List.setIfInBounds_toArray, List.set_cons_zero, List.set_cons_succ]
              refine tail_end (by kernel_rfl) ?_
              clear hS'
              rw [HNX.out] at HO7
              by_cases hlt2 : 2 * L < kk + 1
              · have z1 : decide (2 * (L : Int) ≤ (kk : Int)) = true := by rw [decide_eq_true_eq]; omega
                have HF := hide (show bmNext (cf s) kk ⟨C, O, L⟩ = ⟨addP C (scaP (-y) (mulP O xP)), scaP y.inv C, kk + 1 - L⟩ by unfold bmNext; rw [if_neg (by rw [HD.out]; exact HD0.out), if_pos hlt2, HD.out])
                obtain ⟨L', hL'⟩ : ∃ L', kk + 1 - L = L' := ⟨_, rfl⟩
                rw [hL'] at HF
                rw [HF.out] at HN
                have hw1 : IntKind.i64.wrap ((kk : Int) + 1 - (L : Int)) = (L' : Int) := by rw [IntWalk.i64_in _ ⟨by omega, by omega⟩]; omega
                have hw2 : (kk : Int) + 1 - (L : Int) = (L' : Int) := by omega
                go_wp2_with fail
                go_roundw
                case rel => exact ⟨kk + 1, C, Ac, j, cc, 1, y, by omega, by go_num, by rw [HN.out]; (try rw [hw2]), rfl, rfl, rfl, by omega, by omega, b4, HNC.out, HD0.out, by rw [HN.out]; exact mas_grow C y, by rw [HN.out]; exact HO7.out, HC7.out.intsE, HX7.out⟩
                case measure => simp [intOf]; omega
              · have z1 : decide (2 * (L : Int) ≤ (kk : Int)) = false := by rw [decide_eq_false_iff_not]; omega
                have HF := hide (show bmNext (cf s) kk ⟨C, O, L⟩ = ⟨addP C (scaP (-y) (mulP O xP)), mulP O xP, L⟩ by unfold bmNext; rw [if_neg (by rw [HD.out]; exact HD0.out), if_neg hlt2, HD.out])
                rw [HF.out] at HN
                go_wp2_with fail
                go_roundw
                case rel => exact ⟨kk + 1, bl, Ab, nb, cb, G + 1, la, by omega, by go_num, by rw [HN.out], by go_num, rfl, rfl, by omega, by omega, hnb0, HBL.out, HLA.out, by rw [HN.out]; exact HM.out.keep, by rw [HN.out]; exact HO7.out, HP7.out, HX7.out⟩
                case measure => simp [intOf]; omega
            · go_simp
              go_at_call 71; refine (specShiftE Ab nb cb _ G bl _ HP4.out.drew (Nat.le_refl _) (by omega) hnb0 (by omega)).mono ?_; rintro e' w5 ⟨A5, m5, rfl, hm5, ho5, hb5⟩; rw [HNS.out] at ho5 ⊢; have HXa := hide (HX4.out.drew.next hb5); have HCa := hide (HO4.out.drew.below hb5 (Nat.le_refl _)); have HPa := hide ((HP4.out.drew.below hb5).more hb5.size); have HSa := hide ho5; clear ho5 hm5 hb5
              refine hK.out _ _ (by (try dsimp only); exact HXa.out.cells) (fun hS' => ?_)
              clear hK K
              try simp only [Act.put, List.setIfInBounds_toArray, List.set_cons_zero, List.set_cons_succ]
              refine tail_call 4 rfl (by kernel_rfl) rfl (fun K hK => ?_)
              go_simp
              have HX5 := hide (HXa.out.alloc (.cells #[.int .i64 (f.val : Int)] 2))
              have HC5 := hide (HCa.out.alloc (.cells #[.int .i64 (f.val : Int)] 2))
              have HS5 := hide (HSa.out.alloc (.cells #[.int .i64 (f.val : Int)] 2)).intsE
              have HP5 := hide ((HPa.out.below ((Below.refl w5.heap.size w5).alloc (Nat.le_refl _) (.cells #[.int .i64 (f.val : Int)] 2))).more (B' := (w5.alloc (.cells #[.int .i64 (f.val : Int)] 2)).heap.size) (by rw [alloc_size]; exact Nat.le_succ _))
              have HF5 := hide ((ints_one w5 2 .i64 (f.val : Int)).more (B' := (w5.alloc (.cells #[.int .i64 (f.val : Int)] 2)).heap.size) (by rw [alloc_size]; exact Nat.le_refl _))
              refine hK.out _ _ (by (try dsimp only); exact HX5.out.cells) (fun hS' => ?_)
              clear hK K
              try simp only [Act.put, List.setIfInBounds_toArray, List.set_cons_zero, List.set_cons_succ]
              refine tail_call 8 rfl (by kernel_rfl) rfl (fun K hK => ?_)
              go_simp
              go_at_call 70; refine (specMulE' h [f] (shL G bl) (some ⟨w5.heap.size, 0, none⟩) A5 1 1 ns m5 _ _ HF5.out HS5.out (Nat.le_refl _) (by omega) (by omega)).mono ?_; rintro e' w6 ⟨A6, m6, rfl, hm6, ho6, hb6⟩; rw [HNM.out] at ho6 ⊢; have HX6 := hide (HX5.out.next hb6); have HC6 := hide (HC5.out.below hb6 (Nat.le_refl _)); have HP6 := hide ((HP5.out.below hb6).more hb6.size); have HS6 := hide ho6.intsE; clear ho6 hm6 hb6
              refine hK.out _ _ (by (try dsimp only); exact HX6.out.cells) (fun hS' => ?_)
              clear hK K
              try simp only [Act.put, List.setIfInBounds_toArray, List.set_cons_zero, List.set_cons_succ]
              refine tail_call 9 rfl (by kernel_rfl) rfl (fun K hK => ?_)
              go_simp
              go_at_call 69; refine (specAddE' h C (trim (mulP [f] (shL G bl))) Ac A6 j cc nm m6 _ _ HC6.out.intsE HS6.out (Nat.le_refl _) (by omega) (by omega)).mono ?_; rintro e' w7 ⟨A7, m7, rfl, hm7, ho7, hb7⟩; rw [HNN.out] at ho7 ⊢; have HX7 := hide (HX6.out.next hb7); have HC7 := hide (HC6.out.below hb7 (Nat.le_refl _)); have HP7 := hide ((HP6.out.below hb7).more hb7.size); have HO7 := hide (ho7.low (base' := w.heap.size + 1) HX6.out.lt); clear ho7 hm7 hb7
              refine hK.out _ _ (by (try dsimp only); exact HX7.out.cells) (fun hS' => ?_)
              clear hK K
              try simp only [Act.put, List.setIfInBounds_toArray, List.set_cons_zero, List.set_cons_succ]
              refine tail_take2 10 rfl (by kernel_rfl) (by kernel_rfl) (by kernel_rfl) (by decide) (fun _ _ _ h => h) (by rfl) (v := ?_) ?_ (by assumption) ?_
              rotate_left 1
              · intro w' hS'; (try dsimp only at hS'); go_simp; try with_reducible rfl
              try simp only [Act.put, List.setIfInBounds_toArray, List.set_cons_zero, List.set_cons_succ]
              refine tail_end (by kernel_rfl) ?_
              clear hS'
              rw [HNX.out] at HO7
              by_cases hlt2 : 2 * L < kk + 1
              · have z1 : decide (2 * (L : Int) ≤ (kk : Int)) = true := by rw [decide_eq_true_eq]; omega
                have HF := hide (show bmNext (cf s) kk ⟨C, O, L⟩ = ⟨addP C (scaP (-y) (mulP O xP)), scaP y.inv C, kk + 1 - L⟩ by unfold bmNext; rw [if_neg (by rw [HD.out]; exact HD0.out), if_pos hlt2, HD.out])
                obtain ⟨L', hL'⟩ : ∃ L', kk + 1 - L = L' := ⟨_, rfl⟩
                rw [hL'] at HF
                rw [HF.out] at HN
                have hw1 : IntKind.i64.wrap ((kk : Int) + 1 - (L : Int)) = (L' : Int) := by rw [IntWalk.i64_in _ ⟨by omega, by omega⟩]; omega
                have hw2 : (kk : Int) + 1 - (L : Int) = (L' : Int) := by omega
                go_wp2_with fail
                go_roundw
                case rel => exact ⟨kk + 1, C, Ac, j, cc, 1, y, by omega, by go_num, by rw [HN.out]; (try rw [hw2]), rfl, rfl, rfl, by omega, by omega, b4, HNC.out, HD0.out, by rw [HN.out]; exact mas_grow C y, by rw [HN.out]; exact HO7.out, HC7.out.intsE, HX7.out⟩
                case measure => simp [intOf]; omega
              · have z1 : decide (2 * (L : Int) ≤ (kk : Int)) = false := by rw [decide_eq_false_iff_not]; omega
                have HF := hide (show bmNext (cf s) kk ⟨C, O, L⟩ = ⟨addP C (scaP (-y) (mulP O xP)), mulP O xP, L⟩ by unfold bmNext; rw [if_neg (by rw [HD.out]; exact HD0.out), if_neg hlt2, HD.out])
                rw [HF.out] at HN
                go_wp2_with fail
                go_roundw
                case rel => exact ⟨kk + 1, bl, Ab, nb, cb, G + 1, la, by omega, by go_num, by rw [HN.out], by go_num, rfl, rfl, by omega, by omega, hnb0, HBL.out, HLA.out, by rw [HN.out]; exact HM.out.keep, by rw [HN.out]; exact HO7.out, HP7.out, HX7.out⟩
                case measure => simp [intOf]; omega
    · obtain rfl : kk = n := by omega
      go_wp2_with fail
      go_ret2
      exact ⟨_, rfl, HO.out.low (by omega), HX.out.2⟩
end
end Go.Proofs.Ytdniocdmncldjaa
