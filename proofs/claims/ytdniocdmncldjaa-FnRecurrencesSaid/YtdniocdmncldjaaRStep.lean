/-
  The contract of one call of the function that takes a sequence, one element at a time, of the program.
  Condition: the field is valid; the sequence has at most 64 elements.
-/
import Derived.Test.YtdniocdmncldjaaRReg
namespace Go.Proofs.Ytdniocdmncldjaa
open Go.RowKit
set_option linter.unusedSimpArgs false
set_option linter.unusedVariables false

section
variable {R : Fld} {p k g : Int}
theorem sum_take (C s : List (El R)) (j : Nat) : ps (cf C) (cf (s.take (j + 1))) j = ps (cf C) (cf s) j :=
  ps_local (fun _ _ => rfl) fun i hi => by rw [cf_take, if_pos (by omega)]
theorem iv_push {s : List (El R)} {j : Nat} {x : El R} (hx : s[j]? = some x) : iv (s.take j) ++ [(x.val : Int)] = iv (s.take (j + 1)) := by
  rw [List.take_add_one, hx]; simp [iv]

set_option maxRecDepth 100000 in
set_option maxHeartbeats 8000000 in
theorem implRegStep (h : FldIs R p k g) (w0 : World) (bt bl bc bo : Nat) (s : List (El R)) (j : Nat) (x : El R) (hx : s[j]? = some x) (hs : s.length ≤ 64) (vt vC vO : Value) (w : World)
    (hR : Reg w0 w p k g bt bl bc bo (iv (s.take j)) (bm (cf s) j).C (bm (cf s) j).O (bm (cf s) j).L vt vC vO) :
    Calls Try.prog 95 #[.int .i64 x.val, .pointer (some ⟨bt, 0, none⟩), .pointer (some ⟨bo, 0, none⟩), .pointer (some ⟨w0.heap.size, 0, none⟩), .pointer (some ⟨bc, 0, none⟩), .pointer (some ⟨bl, 0, none⟩)] w
      (fun e w' => ∃ vt' vC' vO', e = .returned (.tuple #[vC', .int .i64 ((bm (cf s) (j + 1)).L : Nat)]) ∧ Reg w0 w' p k g bt bl bc bo (iv (s.take (j + 1))) (bm (cf s) (j + 1)).C (bm (cf s) (j + 1)).O (bm (cf s) (j + 1)).L vt' vC' vO') := by
  have hjl : j < s.length := (List.getElem?_eq_some_iff.1 hx).1
  have b1 := bm_len (cf s) j
  have b2 := bm_olen (cf s) j
  have b3 := bm_le (cf s) j
  have b4 := bm_pos (cf s) j
  have hN : bm (cf s) (j + 1) = bmNext (cf s) j (bm (cf s) j) := rfl
  rcases hb : bm (cf s) j with ⟨C, O, L⟩
  rw [hb] at hR b1 b2 b3 b4 hN
  dsimp only at hR b1 b2 b3 b4
  rw [hN]
  have hT := iv_push hx
  have hTl : (iv (s.take j)).length = j := by rw [iv_len, List.length_take]; omega
  have hTl1 : (s.take (j + 1)).length = j + 1 := by rw [List.length_take]; omega
  obtain ⟨AO, cO, hO, hcO⟩ := hR.oO.form
  obtain ⟨AC, cC, hC, hcC⟩ := hR.oC.form
  rw [iv_len] at hO hC hcO hcC
  obtain ⟨nO, hnO⟩ : ∃ n, O.length = n := ⟨_, rfl⟩
  obtain ⟨nC, hnC⟩ : ∃ n, C.length = n := ⟨_, rfl⟩
  obtain ⟨d, hd⟩ : ∃ d, ps (cf C) (cf s) j = d := ⟨_, rfl⟩
  have HNO := hide hnO
  have HNC := hide hnC
  rw [hnO] at hO b2
  rw [hnC] at hC b1 b4
  subst hO hC
  have HR := hide hR
  have HT := hide hT
  have HTL := hide hTl
  have HTL1 := hide hTl1
  have HD := hide hd
  have HDS := hide (show ps (cf C) (cf (s.take (j + 1))) j = d by rw [sum_take, hd])
  have HB := hide hb
  have k0 := hR.ht.cell
  have hb0 : w0.heap.size + 1 ≤ w.heap.size := hR.fx.lt
  have hlen : ((iv (s.take j)).length + 1) * 8 ≤ 140737488355328 := by rw [hTl]; omega
  clear hR hT hTl hTl1 hd hb hN hnO hnC hx hcO hcC
  obtain ⟨T, hTT⟩ : ∃ T, iv (s.take j) = T := ⟨_, rfl⟩
  rw [hTT] at HR HT HTL hlen
  clear hTT
  go_enter Try.func95, Try.ntmps95
  go_wp2_with (at_builtin; refine wpList_app1M w rfl _ _ _ rfl elem64 (w0.heap.size + 1) vt _ rfl HR.out.oT (x.val : Int) rfl hlen hb0 ?_; intro b cap w1 hown hgrow hloc; rw [HT.out, HTL.out] at hown; rw [HTL.out]; obtain ⟨hbt, hR1⟩ := HR.out.push hown hgrow hloc; have HR1 := hide hR1; have k1 := hbt.cell; have f1 := hbt.frozen; obtain ⟨e0, e1, e2⟩ := HR1.out.cells; have k2 := HR1.out.ho.cell; clear hown hgrow hloc hbt hR1 k0)
  obtain ⟨W1, hW1⟩ : ∃ W, w1.setCell ⟨bt, 0, none⟩ (.slice (some ⟨b, 0, none⟩) (j + 1) cap) = W := ⟨_, rfl⟩
  have hs1 : W1.heap.size = w1.heap.size := by rw [← hW1]; simp [World.setCell]
  rw [hW1] at HR1 ⊢
  rw [← hs1]
  clear e0 e1 e2 k1 k2 f1 hW1 hs1 HR
  have HR2 := hide (HR1.out.alloc (.cells #[.int .i64 0, .int .i64 1] 2))
  obtain ⟨n3, hn3⟩ : ∃ n, (mulP O xP).length = n := ⟨_, rfl⟩
  have hn3b : n3 ≤ 70 := by rw [← hn3, mulP, tab_len]; unfold plen; rw [HNO.out, show (xP : List (El R)).length = 2 from rfl]; split <;> omega
  have HN3 := hide hn3
  clear hn3
  have hx2 : iv (xP : List (El R)) = [0, 1] := rfl
  have h2 := ints_two W1 2 .i64 0 1
  rw [← hx2] at h2
  have HX2 := hide (h2.more (B' := (W1.alloc (.cells #[.int .i64 0, .int .i64 1] 2)).heap.size) (by rw [alloc_size]; exact Nat.le_refl _))
  clear h2 hx2
  refine (implTimes h O xP AO (some ⟨W1.heap.size, 0, none⟩) nO cO 2 2 _ _ HR2.out.oO.intsE HX2.out (Nat.le_refl _) (by omega) (by omega)).mono ?_
  rintro e w3 ⟨g3, m3, rfl, ho3, hg3, hb3⟩
  rw [HN3.out] at ho3 ⊢
  have HR3 := hide (HR2.out.next hb3)
  have hle2 : w0.heap.size + 1 ≤ (W1.alloc (.cells #[.int .i64 0, .int .i64 1] 2)).heap.size := HR2.out.fx.lt
  have HR4 := hide (HR3.out.putO (ho3.low hle2) (HR2.out.oT.ne ho3 (Nat.le_refl _)))
  have k3 := HR3.out.ho.cell
  have f3 := HR3.out.ho.frozen
  obtain ⟨e0, e1, e2⟩ := HR4.out.cells
  have k4 := HR4.out.hc.cell
  have k5 := HR4.out.ht.cell
  clear ho3 hg3 hb3 hle2 HX2
  go_wp2_with fail
  obtain ⟨W4, hW4⟩ : ∃ W, w3.setCell ⟨bo, 0, none⟩ (.slice (some ⟨g3, 0, none⟩) n3 m3) = W := ⟨_, rfl⟩
  rw [hW4] at HR4 ⊢
  clear e0 e1 e2 k3 f3 k4 k5 hW4 HR1 HR2 HR3
  refine (implSumAt h C (s.take (j + 1)) j AC (some ⟨b, 0, none⟩) nC cC (j + 1) cap _ W4 HR4.out.oC.intsE HR4.out.oT.intsE (Nat.le_refl _) (by omega) (by omega) (by omega)).mono ?_
  rw [HDS.out]
  rintro e w5 ⟨rfl, hb5⟩
  have HR5 := hide (HR4.out.next hb5)
  clear hb5 HR4
  have k6 := HR5.out.hc.cell
  have k7 := HR5.out.hl.cell
  by_cases hd0 : d = 0
  · have e3 : ((d.val : Int) == 0) = true := by rw [hd0]; rfl
    have HF := hide (show bmNext (cf s) j ⟨C, O, L⟩ = ⟨C, mulP O xP, L⟩ by unfold bmNext; rw [if_pos (by rw [HD.out]; exact hd0)])
    clear hd0
    go_wp2_with fail
    go_quiet (fail)
    go_wp2_with fail
    go_ret2
    rw [HF.out]
    exact ⟨_, _, _, rfl, HR5.out.drewN _⟩
  · have e3 : ((d.val : Int) == 0) = false := by have := val_ne hd0; simp; omega
    have HD0 := hide hd0
    obtain ⟨n6, hn6⟩ : ∃ n, (scaP (-d) (mulP O xP)).length = n := ⟨_, rfl⟩
    have HSC := hide (show (trim (tab n3 fun i => (-d) * cf (mulP O xP) i)) = scaP (-d) (mulP O xP) by rw [scaP, HN3.out])
    have hn6b : n6 ≤ 70 := by rw [← hn6, ← HSC.out]; have := trim_le (tab n3 fun i => (-d) * cf (mulP O xP) i); rw [tab_len] at this; omega
    have HN6 := hide hn6
    obtain ⟨n7, hn7⟩ : ∃ n, (addP C (scaP (-d) (mulP O xP))).length = n := ⟨_, rfl⟩
    have HN7 := hide hn7
    clear hn6 hn7 hd0
    go_wp2_with fail
    clear k6 k7
    refine tail_begin (fun w' => w'.cell? ⟨w0.heap.size, 0, none⟩ = some (.int .i64 p) ∧ w'.cell? ⟨w0.heap.size, 1, none⟩ = some (.int .i64 k) ∧ w'.cell? ⟨w0.heap.size, 2, none⟩ = some (.int .i64 g) ∧ w'.cell? ⟨bo, 0, none⟩ = some (.slice (some ⟨g3, 0, none⟩) n3 m3)) 10 (by kernel_rfl) (by exact ⟨HR5.out.drew.cells.1, HR5.out.drew.cells.2.1, HR5.out.drew.cells.2.2, HR5.out.drew.ho.cell⟩) (fun hS' => ?_)
    refine tail_take 0 rfl (by kernel_rfl) (by kernel_rfl) (by kernel_rfl) (by kernel_rfl) (fun _ _ _ h => h) (by rfl) (v := ?_) ?_ (by assumption) ?_
    rotate_left 1
    · intro w' hS'; (try dsimp only at hS'); go_simp; try with_reducible rfl
    try simp only [Act.put, List.setIfInBounds_toArray, List.set_cons_zero, List.set_cons_succ]
    refine tail_take 1 rfl (by kernel_rfl) (by kernel_rfl) (by kernel_rfl) (by kernel_rfl) (fun _ _ _ h => h) (by rfl) (v := ?_) ?_ (by assumption) ?_
    rotate_left 1
    · intro w' hS'; (try dsimp only at hS'); go_simp; try with_reducible rfl
    try simp only [Act.put, List.setIfInBounds_toArray, List.set_cons_zero, List.set_cons_succ]
    refine tail_take 2 rfl (by kernel_rfl) (by kernel_rfl) (by kernel_rfl) (by kernel_rfl) (fun _ _ _ h => h) (by rfl) (v := ?_) ?_ (by assumption) ?_
    rotate_left 1
    · intro w' hS'; (try dsimp only at hS'); go_simp; try with_reducible rfl
    try simp only [Act.put, List.setIfInBounds_toArray, List.set_cons_zero, List.set_cons_succ]
    refine tail_take 3 rfl (by kernel_rfl) (by kernel_rfl) (by kernel_rfl) (by kernel_rfl) (fun _ _ _ h => h) (by rfl) (v := ?_) ?_ (by assumption) ?_
    rotate_left 1
    · intro w' hS'; (try dsimp only at hS'); go_simp; try with_reducible rfl
    try simp only [Act.put, List.setIfInBounds_toArray, List.set_cons_zero, List.set_cons_succ]
    refine tail_take 4 rfl (by kernel_rfl) (by kernel_rfl) (by kernel_rfl) (by kernel_rfl) (fun _ _ _ h => h) (by rfl) (v := ?_) ?_ (by assumption) ?_
    rotate_left 1
    · intro w' hS'; (try dsimp only at hS'); go_simp; try with_reducible rfl
    try simp only [Act.put, List.setIfInBounds_toArray, List.set_cons_zero, List.set_cons_succ]
    refine tail_take 5 rfl (by kernel_rfl) (by kernel_rfl) (by kernel_rfl) (by kernel_rfl) (fun _ _ _ h => h) (by rfl) (v := ?_) ?_ (by assumption) ?_
    rotate_left 1
    · intro w' hS'; (try dsimp only at hS'); go_simp; try with_reducible rfl
    try simp only [Act.put, List.setIfInBounds_toArray, List.set_cons_zero, List.set_cons_succ]
    refine tail_call 6 rfl (by kernel_rfl) rfl (fun K hK => ?_)
    go_simp
    go_at_call 53; refine (implNegE h d _).mono ?_; rintro e' w6 ⟨rfl, hb6⟩; have HR6 := hide (HR5.out.drew.next hb6); clear hb6
    refine hK.out _ _ (by (try dsimp only); exact ⟨HR6.out.cells.1, HR6.out.cells.2.1, HR6.out.cells.2.2, HR6.out.ho.cell⟩) (fun hS' => ?_)
    clear hK K
    try simp only [Act.put, List.setIfInBounds_toArray, List.set_cons_zero, List.set_cons_succ]
    refine tail_call 7 rfl (by kernel_rfl) rfl (fun K hK => ?_)
    go_simp
    go_at_call 97; refine (implScaled h (-d) (mulP O xP) (some ⟨g3, 0, none⟩) n3 m3 _ _ HR6.out.oO.intsE (Nat.le_refl _) (by omega)).mono ?_; rw [HSC.out]; rintro e' w7 ⟨g7, m7, rfl, ho7, hg7, hb7⟩; rw [HN6.out] at ho7 ⊢; have HR7 := hide (HR6.out.next hb7); have HO7 := hide ho7.intsE; clear ho7 hg7 hb7
    refine hK.out _ _ (by (try dsimp only); exact ⟨HR7.out.cells.1, HR7.out.cells.2.1, HR7.out.cells.2.2, HR7.out.ho.cell⟩) (fun hS' => ?_)
    clear hK K
    try simp only [Act.put, List.setIfInBounds_toArray, List.set_cons_zero, List.set_cons_succ]
    have HR8 := hide (HR7.out.alloc (.cells #[.slice (some ⟨g7, 0, none⟩) n6 m7] 59))
    have HB8 := hide (BoxV.new w7 (.slice (some ⟨g7, 0, none⟩) n6 m7) 59)
    have HO8 := hide ((HO7.out.below ((Below.refl w7.heap.size w7).alloc (Nat.le_refl _) (.cells #[.slice (some ⟨g7, 0, none⟩) n6 m7] 59))).more (B' := (w7.alloc (.cells #[.slice (some ⟨g7, 0, none⟩) n6 m7] 59)).heap.size) (by rw [alloc_size]; exact Nat.le_succ _))
    refine tail_call 8 rfl (by kernel_rfl) rfl (fun K hK => ?_)
    go_simp
    refine hK.out _ _ (by (try dsimp only); exact ⟨HR8.out.cells.1, HR8.out.cells.2.1, HR8.out.cells.2.2, HR8.out.ho.cell⟩) (fun hS' => ?_)
    clear hK K
    try simp only [Act.put, List.setIfInBounds_toArray, List.set_cons_zero, List.set_cons_succ]
    refine tail_call 9 rfl (by kernel_rfl) rfl (fun K hK => ?_)
    go_simp
    go_at_call 96; refine (implPlus h C (scaP (-d) (mulP O xP)) AC (some ⟨g7, 0, none⟩) nC cC n6 m7 _ w7.heap.size _ HR8.out.oC.intsE HO8.out (by rw [alloc_size]; exact Nat.lt_succ_self _) HB8.out.cell (Nat.le_refl _) (by omega) (by omega)).mono ?_; rintro e' w9 ⟨g9, m9, rfl, ho9, hg9, hb9⟩; rw [HN7.out] at ho9 ⊢; have HR9 := hide (HR8.out.next hb9); have HRA := hide (HR9.out.putC (ho9.low HR8.out.fx.lt) (HR8.out.oT.ne ho9 (Nat.le_refl _))); clear ho9 hg9 hb9
    refine hK.out _ _ (by (try dsimp only); exact ⟨HR9.out.cells.1, HR9.out.cells.2.1, HR9.out.cells.2.2, HR9.out.ho.cell⟩) (fun hS' => ?_)
    clear hK K
    try simp only [Act.put, List.setIfInBounds_toArray, List.set_cons_zero, List.set_cons_succ]
    have k9 := HR9.out.hc.cell
    have f9 := HR9.out.hc.frozen
    refine tail_last 10 rfl (by kernel_rfl) (by kernel_rfl) rfl rfl (fun K hK => ?_)
    go_simp
    refine hK.out _ _ ?_
    clear hK K
    try simp only [Act.put, List.setIfInBounds_toArray, List.set_cons_zero, List.set_cons_succ]
    obtain ⟨W9, hW9⟩ : ∃ W, w9.setCell ⟨bc, 0, none⟩ (.slice (some ⟨g9, 0, none⟩) n7 m9) = W := ⟨_, rfl⟩
    have HOC := hide (HR9.out.oC.putBox HR9.out.hc (by decide) (.slice (some ⟨g9, 0, none⟩) n7 m9))
    rw [hW9] at HRA HOC ⊢
    clear hW9 k9 f9 HR9 HR8 HO8 HB8 HO7 HR7 HR6 hS'
    clear HR5
    have k6 := HRA.out.hl.cell
    have k7 := HRA.out.ht.cell
    by_cases hlt : 2 * L < j + 1
    · have z1 : decide (2 * (L : Int) < (j : Int) + 1) = true := by rw [decide_eq_true_eq]; omega
      have HF := hide (show bmNext (cf s) j ⟨C, O, L⟩ = ⟨addP C (scaP (-d) (mulP O xP)), scaP d.inv C, j + 1 - L⟩ by unfold bmNext; rw [if_neg (by rw [HD.out]; exact HD0.out), if_pos hlt, HD.out])
      obtain ⟨L', hL'⟩ : ∃ L', j + 1 - L = L' := ⟨_, rfl⟩
      rw [hL'] at HF
      have hw1 : IntKind.i64.wrap ((j : Int) + 1 - (L : Int)) = (L' : Int) := by rw [IntWalk.i64_in _ ⟨by omega, by omega⟩]; omega
      have hw2 : (j : Int) + 1 - (L : Int) = (L' : Int) := by omega
      obtain ⟨n8, hn8⟩ : ∃ n, (scaP d.inv C).length = n := ⟨_, rfl⟩
      have HSD := hide (show (trim (tab nC fun i => d.inv * cf C i)) = scaP d.inv C by rw [scaP, HNC.out])
      have HN8 := hide hn8
      clear hn8
      go_wp2_with fail
      clear k6 k7
      refine tail_begin (fun w' => w'.cell? ⟨w0.heap.size, 0, none⟩ = some (.int .i64 p) ∧ w'.cell? ⟨w0.heap.size, 1, none⟩ = some (.int .i64 k) ∧ w'.cell? ⟨w0.heap.size, 2, none⟩ = some (.int .i64 g)) 6 (by kernel_rfl) (by exact HRA.out.drew.cells) (fun hS' => ?_)
      refine tail_take 0 rfl (by kernel_rfl) (by kernel_rfl) (by kernel_rfl) (by kernel_rfl) (fun _ _ _ h => h) (by rfl) (v := ?_) ?_ (by assumption) ?_
      rotate_left 1
      · intro w' hS'; (try dsimp only at hS'); go_simp; try with_reducible rfl
      try simp only [Act.put, List.setIfInBounds_toArray, List.set_cons_zero, List.set_cons_succ]
      refine tail_take 1 rfl (by kernel_rfl) (by kernel_rfl) (by kernel_rfl) (by kernel_rfl) (fun _ _ _ h => h) (by rfl) (v := ?_) ?_ (by assumption) ?_
      rotate_left 1
      · intro w' hS'; (try dsimp only at hS'); go_simp; try with_reducible rfl
      try simp only [Act.put, List.setIfInBounds_toArray, List.set_cons_zero, List.set_cons_succ]
      refine tail_take 2 rfl (by kernel_rfl) (by kernel_rfl) (by kernel_rfl) (by kernel_rfl) (fun _ _ _ h => h) (by rfl) (v := ?_) ?_ (by assumption) ?_
      rotate_left 1
      · intro w' hS'; (try dsimp only at hS'); go_simp; try with_reducible rfl
      try simp only [Act.put, List.setIfInBounds_toArray, List.set_cons_zero, List.set_cons_succ]
      refine tail_take 3 rfl (by kernel_rfl) (by kernel_rfl) (by kernel_rfl) (by kernel_rfl) (fun _ _ _ h => h) (by rfl) (v := ?_) ?_ (by assumption) ?_
      rotate_left 1
      · intro w' hS'; (try dsimp only at hS'); go_simp; try with_reducible rfl
      try simp only [Act.put, List.setIfInBounds_toArray, List.set_cons_zero, List.set_cons_succ]
      refine tail_call 4 rfl (by kernel_rfl) rfl (fun K hK => ?_)
      go_simp
      go_at_call 98; refine (implInvE h d _).mono ?_; rintro e' wA ⟨rfl, hbA⟩; have HRB := hide (HRA.out.drew.next hbA); have HOB := hide (HOC.out.drew.below hbA (Nat.le_refl _)); clear hbA
      refine hK.out _ _ (by (try dsimp only); exact HRB.out.cells) (fun hS' => ?_)
      clear hK K
      try simp only [Act.put, List.setIfInBounds_toArray, List.set_cons_zero, List.set_cons_succ]
      refine tail_call 5 rfl (by kernel_rfl) rfl (fun K hK => ?_)
      go_simp
      go_at_call 97; refine (implScaled h d.inv C AC nC cC _ _ HOB.out.intsE (Nat.le_refl _) (by omega)).mono ?_; rw [HSD.out]; rintro e' wC ⟨gC, mC, rfl, hoC, hgC, hbC⟩; rw [HN8.out] at hoC ⊢; have HRC := hide (HRB.out.next hbC); have HRD := hide (HRC.out.putO (hoC.low HRB.out.fx.lt) (HRB.out.oT.ne hoC (Nat.le_refl _))); clear hoC hgC hbC
      refine hK.out _ _ (by (try dsimp only); exact HRC.out.cells) (fun hS' => ?_)
      clear hK K
      try simp only [Act.put, List.setIfInBounds_toArray, List.set_cons_zero, List.set_cons_succ]
      have k9 := HRC.out.ho.cell
      have f9 := HRC.out.ho.frozen
      refine tail_last 6 rfl (by kernel_rfl) (by kernel_rfl) rfl rfl (fun K hK => ?_)
      go_simp
      refine hK.out _ _ ?_
      clear hK K
      try simp only [Act.put, List.setIfInBounds_toArray, List.set_cons_zero, List.set_cons_succ]
      obtain ⟨WD, hWD⟩ : ∃ W, wC.setCell ⟨bo, 0, none⟩ (.slice (some ⟨gC, 0, none⟩) n8 mC) = W := ⟨_, rfl⟩
      rw [hWD] at HRD ⊢
      clear hWD k9 f9 HRC HRB HRA HOC HOB hS'
      have k6 := HRD.out.ht.cell
      have k7 := HRD.out.hl.cell
      have f7 := HRD.out.hl.frozen
      have HRE := hide (HRD.out.putL L')
      have k8 := HRE.out.hc.cell
      have k9 := HRE.out.hl.cell
      go_wp2_with fail
      go_quiet (fail)
      go_wp2_with fail
      go_ret2
      rw [HF.out]
      exact ⟨_, _, _, rfl, HRE.out.drewN _⟩
    · have z1 : decide (2 * (L : Int) < (j : Int) + 1) = false := by rw [decide_eq_false_iff_not]; omega
      have k8 := HRA.out.hc.cell
      have HF := hide (show bmNext (cf s) j ⟨C, O, L⟩ = ⟨addP C (scaP (-d) (mulP O xP)), mulP O xP, L⟩ by unfold bmNext; rw [if_neg (by rw [HD.out]; exact HD0.out), if_neg hlt, HD.out])
      go_wp2_with fail
      go_quiet (fail)
      go_wp2_with fail
      go_ret2
      rw [HF.out]
      exact ⟨_, _, _, rfl, HRA.out.drewN _⟩
end
end Go.Proofs.Ytdniocdmncldjaa
