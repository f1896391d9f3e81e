/-
  FormatShare of the model, and of both.
  Condition: the lists are shorter than 2^40.
-/
import Derived.Test.YtkaconpbmppekaaWdA
namespace Go.Proofs.Ytkaconpbmppekaa
open Go.RowKit
set_option linter.unusedSimpArgs false
set_option linter.unusedVariables false

set_option maxRecDepth 100000 in
set_option maxHeartbeats 4000000 in
theorem specFs_bad (d l p : Int) (hl : -9223372036854775808 ≤ l) (h : fcB d l p = false) (A : Option Addr) (n c : Nat) (A' : Option Addr) (n' c' : Nat) (w : World) :
    Calls Try.prog 32 #[.agg #[.int .i64 d, .int .i64 l, .int .i64 p], .slice A n c, .slice A' n' c'] w (GivesII 0 1 w) := by
  have HX := hide (Box.start w 25 d l p)
  have HV := hide (fun w' => specFcIs d l p hl w')
  rw [h] at HV
  clear h
  go_enter Try.func32, Try.ntmps32
  go_wp2_with fail
  refine (HV.out _).mono ?_
  rintro e w1 ⟨rfl, hb⟩
  have HX1 := hide (HX.out.next hb)
  clear hb
  go_wp2_with fail
  go_ret2
  exact ⟨rfl, HX1.out.2⟩
set_option maxRecDepth 100000 in
set_option maxHeartbeats 4000000 in
theorem specFs_out1 {D L P K : Nat} (h : FcIs D L P K) (A : Option Addr) (n c : Nat) (A' : Option Addr) (n' c' B : Nat) (zs zs' : List Int) (w : World) (hI : Ints .i64 w B A n zs) (hI' : Ints .i64 w B A' n' zs') (hB : B ≤ w.heap.size) (hn : n ≤ 1099511627776) (hn' : n' ≤ 1099511627776) (ho : okL L zs = false) :
    Calls Try.prog 32 #[.agg #[.int .i64 D, .int .i64 L, .int .i64 P], .slice A n c, .slice A' n' c'] w (GivesII 0 2 w) := by
  have HX := hide (Box.start w 25 D L P)
  have HV := hide (fun w' => specFcIs D L P (by omega) w')
  rw [fcB_of h] at HV
  have HI := hide hI
  have HI' := hide hI'
  have HO := hide ho
  clear h hI hI' ho
  go_enter Try.func32, Try.ntmps32
  go_wp2_with fail
  refine (HV.out _).mono ?_
  rintro e w1 ⟨rfl, hb⟩
  have HX1 := hide (HX.out.next hb)
  obtain ⟨c0, c1, c2⟩ := HX1.out.cells
  clear hb
  go_wp2_with fail
  refine (specList D L P A n c w1.heap.size zs w1 ((HI.out.below (HX1.out.2.mono hB)).more (Nat.le_trans hB HX1.out.2.size)) (Nat.le_refl _) hn L rfl).mono ?_
  rw [HO.out]
  rintro e w2 ⟨rfl, hb⟩
  have HX2 := hide (HX1.out.next hb)
  clear hb c0 c1 c2
  go_wp2_with fail
  go_ret2
  exact ⟨rfl, HX2.out.2⟩
set_option maxRecDepth 100000 in
set_option maxHeartbeats 4000000 in
theorem specFs_out2 {D L P K : Nat} (h : FcIs D L P K) (A : Option Addr) (n c : Nat) (A' : Option Addr) (n' c' B : Nat) (zs zs' : List Int) (w : World) (hI : Ints .i64 w B A n zs) (hI' : Ints .i64 w B A' n' zs') (hB : B ≤ w.heap.size) (hn : n ≤ 1099511627776) (hn' : n' ≤ 1099511627776) (ho : okL L zs = true) (ho' : okL L zs' = false) :
    Calls Try.prog 32 #[.agg #[.int .i64 D, .int .i64 L, .int .i64 P], .slice A n c, .slice A' n' c'] w (GivesII 0 2 w) := by
  have HX := hide (Box.start w 25 D L P)
  have HV := hide (fun w' => specFcIs D L P (by omega) w')
  rw [fcB_of h] at HV
  have HI := hide hI
  have HI' := hide hI'
  have HO := hide ho
  have HO' := hide ho'
  clear h hI hI' ho ho'
  go_enter Try.func32, Try.ntmps32
  go_wp2_with fail
  refine (HV.out _).mono ?_
  rintro e w1 ⟨rfl, hb⟩
  have HX1 := hide (HX.out.next hb)
  obtain ⟨c0, c1, c2⟩ := HX1.out.cells
  clear hb
  go_wp2_with fail
  refine (specList D L P A n c w1.heap.size zs w1 ((HI.out.below (HX1.out.2.mono hB)).more (Nat.le_trans hB HX1.out.2.size)) (Nat.le_refl _) hn L rfl).mono ?_
  rw [HO.out]
  rintro e w2 ⟨rfl, hb⟩
  have HX2 := hide (HX1.out.next hb)
  clear hb c0 c1 c2
  obtain ⟨c0, c1, c2⟩ := HX2.out.cells
  go_wp2_with fail
  refine (specList D L P A' n' c' w2.heap.size zs' w2 ((HI'.out.below (HX2.out.2.mono hB)).more (Nat.le_trans hB HX2.out.2.size)) (Nat.le_refl _) hn' L rfl).mono ?_
  rw [HO'.out]
  rintro e w3 ⟨rfl, hb⟩
  have HX3 := hide (HX2.out.next hb)
  clear hb c0 c1 c2
  go_wp2_with fail
  go_ret2
  exact ⟨rfl, HX3.out.2⟩
set_option maxRecDepth 100000 in
set_option maxHeartbeats 16000000 in
theorem specFs_ok {D L P K : Nat} (h : FcIs D L P K) (A : Option Addr) (c : Nat) (A' : Option Addr) (c' B : Nat) (zs zs' : List Int) (w : World) (hI : Ints .i64 w B A L zs) (hI' : Ints .i64 w B A' L zs') (hB : B ≤ w.heap.size) (ho : okL L zs = true) (ho' : okL L zs' = true) :
    Calls Try.prog 32 #[.agg #[.int .i64 D, .int .i64 L, .int .i64 P], .slice A L c, .slice A' L c'] w
      (GivesII (shV (nearF D L P K zs).1 (dmgF D L P K zs) (nearF D L P K zs').1 (dmgF D L P K zs') (minD D L P K) : Nat) (shC (dmgF D L P K zs) (dmgF D L P K zs') (minD D L P K)) w) := by
  have HX := hide (Box.start w 25 D L P)
  have HV := hide (fun w' => specFcIs D L P (by omega) w')
  rw [fcB_of h] at HV
  have HF := hide h
  have HI := hide hI
  have HI' := hide hI'
  have HO := hide ho
  have HO' := hide ho'
  have hL24 := h.l24
  have hn : L ≤ 1099511627776 := by omega
  have hn' : L ≤ 1099511627776 := by omega
  have hmd := minD_le D L P K
  have hnl := near_le (D := D) (P := P) (K := K) hI.len
  have hnl' := near_le (D := D) (P := P) (K := K) hI'.len
  have hul := unk_le zs
  have hul' := unk_le zs'
  rw [hI.len] at hul
  rw [hI'.len] at hul'
  obtain ⟨x, hx⟩ : ∃ x, (nearF D L P K zs).1 = x := ⟨_, rfl⟩
  obtain ⟨y, hy⟩ : ∃ y, (nearF D L P K zs).2 = y := ⟨_, rfl⟩
  obtain ⟨u, hu⟩ : ∃ u, unkL zs = u := ⟨_, rfl⟩
  obtain ⟨x', hx'⟩ : ∃ x, (nearF D L P K zs').1 = x := ⟨_, rfl⟩
  obtain ⟨y', hy'⟩ : ∃ y, (nearF D L P K zs').2 = y := ⟨_, rfl⟩
  obtain ⟨u', hu'⟩ : ∃ u, unkL zs' = u := ⟨_, rfl⟩
  have hd : dmgF D L P K zs = 2 * y + u := by rw [dmgF, hy, hu]
  have hd' : dmgF D L P K zs' = 2 * y' + u' := by rw [dmgF, hy', hu']
  have HN := hide (fun (w' : World) (hI' : Ints .i64 w' w'.heap.size A L zs) => specNearest HF.out A c w'.heap.size zs w' hI' (Nat.le_refl _))
  have HN' := hide (fun (w' : World) (hI' : Ints .i64 w' w'.heap.size A' L zs') => specNearest HF.out A' c' w'.heap.size zs' w' hI' (Nat.le_refl _))
  rw [hx, hy, hu, hd] at HN
  rw [hx', hy', hu', hd'] at HN'
  rw [hx, hx', hd, hd']
  rw [hy] at hnl
  rw [hy'] at hnl'
  rw [hu] at hul
  rw [hu'] at hul'
  obtain ⟨mn, hmn⟩ : ∃ mn, minD D L P K = mn := ⟨_, rfl⟩
  rw [hmn] at HN HN' hmd ⊢
  have hy24 : y ≤ 24 := by omega
  have hy24' : y' ≤ 24 := by omega
  have hu24 : u ≤ 24 := by omega
  have hu24' : u' ≤ 24 := by omega
  obtain ⟨dm, hdm⟩ : ∃ dm, 2 * y + u = dm := ⟨_, rfl⟩
  obtain ⟨dm', hdm'⟩ : ∃ dm, 2 * y' + u' = dm := ⟨_, rfl⟩
  have hi : 2 * (y : Int) + (u : Int) = (dm : Int) := by omega
  have hi' : 2 * (y' : Int) + (u' : Int) = (dm' : Int) := by omega
  rw [hdm] at HN ⊢
  rw [hdm'] at HN' ⊢
  have hdb : dm ≤ 100 := by omega
  have hdb' : dm' ≤ 100 := by omega
  clear h hI hI' ho ho' hx hy hu hx' hy' hu' hd hd' hmn hnl hnl' hul hul' hdm hdm'
  rcases (show (dm < mn ∧ dm' < mn ∧ dm' < dm) ∨ (dm < mn ∧ dm' < mn ∧ ¬ dm' < dm) ∨ (dm < mn ∧ ¬ dm' < mn) ∨ (¬ dm < mn ∧ dm' < mn) ∨ (¬ dm < mn ∧ ¬ dm' < mn) by omega) with ⟨h1, h2, h3⟩ | ⟨h1, h2, h3⟩ | ⟨h1, h2⟩ | ⟨h1, h2⟩ | ⟨h1, h2⟩
  · rw [decide_eq_true (by omega : dm < mn)] at HN
    rw [decide_eq_true (by omega : dm' < mn)] at HN'
    have HSV := hide (show shV x dm x' dm' mn = x' by unfold shV; (repeat' split) <;> omega)
    have HSC := hide (show shC dm dm' mn = 0 by unfold shC; (repeat' split) <;> omega)
    have hlt : decide ((dm' : Int) < (dm : Int)) = true := by simp; omega
    have hlt2 : decide (dm' < dm) = true := by simp; omega
    clear h1 h2 h3
    go_enter Try.func32, Try.ntmps32
    go_wp2_with fail
    refine (HV.out _).mono ?_
    rintro e w1 ⟨rfl, hb⟩
    have HX1 := hide (HX.out.next hb)
    obtain ⟨c0, c1, c2⟩ := HX1.out.cells
    clear hb
    go_wp2_with fail
    refine (specList D L P A L c w1.heap.size zs w1 ((HI.out.below (HX1.out.2.mono hB)).more (Nat.le_trans hB HX1.out.2.size)) (Nat.le_refl _) hn L rfl).mono ?_
    rw [HO.out]
    rintro e w2 ⟨rfl, hb⟩
    have HX2 := hide (HX1.out.next hb)
    clear hb c0 c1 c2
    obtain ⟨c0, c1, c2⟩ := HX2.out.cells
    go_wp2_with fail
    refine (specList D L P A' L c' w2.heap.size zs' w2 ((HI'.out.below (HX2.out.2.mono hB)).more (Nat.le_trans hB HX2.out.2.size)) (Nat.le_refl _) hn' L rfl).mono ?_
    rw [HO'.out]
    rintro e w3 ⟨rfl, hb⟩
    have HX3 := hide (HX2.out.next hb)
    clear hb c0 c1 c2
    obtain ⟨c0, c1, c2⟩ := HX3.out.cells
    go_wp2_with fail
    refine (HN.out _ ((HI.out.below (HX3.out.2.mono hB)).more (Nat.le_trans hB HX3.out.2.size))).mono ?_
    rintro e w4 ⟨rfl, hb⟩
    have HX4 := hide (HX3.out.next hb)
    clear hb c0 c1 c2
    obtain ⟨c0, c1, c2⟩ := HX4.out.cells
    unfold LRes
    go_wp2_with fail
    refine (HN'.out _ ((HI'.out.below (HX4.out.2.mono hB)).more (Nat.le_trans hB HX4.out.2.size))).mono ?_
    rintro e w5 ⟨rfl, hb⟩
    have HX5 := hide (HX4.out.next hb)
    clear hb c0 c1 c2
    unfold LRes
    go_wp2_with fail
    go_ret2
    exact ⟨by rw [HSV.out, HSC.out]; rfl, HX5.out.2⟩
  · rw [decide_eq_true (by omega : dm < mn)] at HN
    rw [decide_eq_true (by omega : dm' < mn)] at HN'
    have HSV := hide (show shV x dm x' dm' mn = x by unfold shV; (repeat' split) <;> omega)
    have HSC := hide (show shC dm dm' mn = 0 by unfold shC; (repeat' split) <;> omega)
    have hlt : decide ((dm' : Int) < (dm : Int)) = false := by simp; omega
    have hlt2 : decide (dm' < dm) = false := by simp; omega
    clear h1 h2 h3
    go_enter Try.func32, Try.ntmps32
    go_wp2_with fail
    refine (HV.out _).mono ?_
    rintro e w1 ⟨rfl, hb⟩
    have HX1 := hide (HX.out.next hb)
    obtain ⟨c0, c1, c2⟩ := HX1.out.cells
    clear hb
    go_wp2_with fail
    refine (specList D L P A L c w1.heap.size zs w1 ((HI.out.below (HX1.out.2.mono hB)).more (Nat.le_trans hB HX1.out.2.size)) (Nat.le_refl _) hn L rfl).mono ?_
    rw [HO.out]
    rintro e w2 ⟨rfl, hb⟩
    have HX2 := hide (HX1.out.next hb)
    clear hb c0 c1 c2
    obtain ⟨c0, c1, c2⟩ := HX2.out.cells
    go_wp2_with fail
    refine (specList D L P A' L c' w2.heap.size zs' w2 ((HI'.out.below (HX2.out.2.mono hB)).more (Nat.le_trans hB HX2.out.2.size)) (Nat.le_refl _) hn' L rfl).mono ?_
    rw [HO'.out]
    rintro e w3 ⟨rfl, hb⟩
    have HX3 := hide (HX2.out.next hb)
    clear hb c0 c1 c2
    obtain ⟨c0, c1, c2⟩ := HX3.out.cells
    go_wp2_with fail
    refine (HN.out _ ((HI.out.below (HX3.out.2.mono hB)).more (Nat.le_trans hB HX3.out.2.size))).mono ?_
    rintro e w4 ⟨rfl, hb⟩
    have HX4 := hide (HX3.out.next hb)
    clear hb c0 c1 c2
    obtain ⟨c0, c1, c2⟩ := HX4.out.cells
    unfold LRes
    go_wp2_with fail
    refine (HN'.out _ ((HI'.out.below (HX4.out.2.mono hB)).more (Nat.le_trans hB HX4.out.2.size))).mono ?_
    rintro e w5 ⟨rfl, hb⟩
    have HX5 := hide (HX4.out.next hb)
    clear hb c0 c1 c2
    unfold LRes
    go_wp2_with fail
    go_ret2
    exact ⟨by rw [HSV.out, HSC.out]; rfl, HX5.out.2⟩
  · rw [decide_eq_true (by omega : dm < mn)] at HN
    rw [decide_eq_false (by omega : ¬ dm' < mn)] at HN'
    have HSV := hide (show shV x dm x' dm' mn = x by unfold shV; (repeat' split) <;> omega)
    have HSC := hide (show shC dm dm' mn = 0 by unfold shC; (repeat' split) <;> omega)
    have hlt : decide ((dm' : Int) < (dm : Int)) = false := by simp; omega
    have hlt2 : decide (dm' < dm) = false := by simp; omega
    clear h1 h2
    go_enter Try.func32, Try.ntmps32
    go_wp2_with fail
    refine (HV.out _).mono ?_
    rintro e w1 ⟨rfl, hb⟩
    have HX1 := hide (HX.out.next hb)
    obtain ⟨c0, c1, c2⟩ := HX1.out.cells
    clear hb
    go_wp2_with fail
    refine (specList D L P A L c w1.heap.size zs w1 ((HI.out.below (HX1.out.2.mono hB)).more (Nat.le_trans hB HX1.out.2.size)) (Nat.le_refl _) hn L rfl).mono ?_
    rw [HO.out]
    rintro e w2 ⟨rfl, hb⟩
    have HX2 := hide (HX1.out.next hb)
    clear hb c0 c1 c2
    obtain ⟨c0, c1, c2⟩ := HX2.out.cells
    go_wp2_with fail
    refine (specList D L P A' L c' w2.heap.size zs' w2 ((HI'.out.below (HX2.out.2.mono hB)).more (Nat.le_trans hB HX2.out.2.size)) (Nat.le_refl _) hn' L rfl).mono ?_
    rw [HO'.out]
    rintro e w3 ⟨rfl, hb⟩
    have HX3 := hide (HX2.out.next hb)
    clear hb c0 c1 c2
    obtain ⟨c0, c1, c2⟩ := HX3.out.cells
    go_wp2_with fail
    refine (HN.out _ ((HI.out.below (HX3.out.2.mono hB)).more (Nat.le_trans hB HX3.out.2.size))).mono ?_
    rintro e w4 ⟨rfl, hb⟩
    have HX4 := hide (HX3.out.next hb)
    clear hb c0 c1 c2
    obtain ⟨c0, c1, c2⟩ := HX4.out.cells
    unfold LRes
    go_wp2_with fail
    refine (HN'.out _ ((HI'.out.below (HX4.out.2.mono hB)).more (Nat.le_trans hB HX4.out.2.size))).mono ?_
    rintro e w5 ⟨rfl, hb⟩
    have HX5 := hide (HX4.out.next hb)
    clear hb c0 c1 c2
    unfold LRes
    go_wp2_with fail
    go_ret2
    exact ⟨by rw [HSV.out, HSC.out]; rfl, HX5.out.2⟩
  · rw [decide_eq_false (by omega : ¬ dm < mn)] at HN
    rw [decide_eq_true (by omega : dm' < mn)] at HN'
    have HSV := hide (show shV x dm x' dm' mn = x' by unfold shV; (repeat' split) <;> omega)
    have HSC := hide (show shC dm dm' mn = 0 by unfold shC; (repeat' split) <;> omega)
    have hlt : decide ((dm' : Int) < (dm : Int)) = true := by simp; omega
    have hlt2 : decide (dm' < dm) = true := by simp; omega
    clear h1 h2
    go_enter Try.func32, Try.ntmps32
    go_wp2_with fail
    refine (HV.out _).mono ?_
    rintro e w1 ⟨rfl, hb⟩
    have HX1 := hide (HX.out.next hb)
    obtain ⟨c0, c1, c2⟩ := HX1.out.cells
    clear hb
    go_wp2_with fail
    refine (specList D L P A L c w1.heap.size zs w1 ((HI.out.below (HX1.out.2.mono hB)).more (Nat.le_trans hB HX1.out.2.size)) (Nat.le_refl _) hn L rfl).mono ?_
    rw [HO.out]
    rintro e w2 ⟨rfl, hb⟩
    have HX2 := hide (HX1.out.next hb)
    clear hb c0 c1 c2
    obtain ⟨c0, c1, c2⟩ := HX2.out.cells
    go_wp2_with fail
    refine (specList D L P A' L c' w2.heap.size zs' w2 ((HI'.out.below (HX2.out.2.mono hB)).more (Nat.le_trans hB HX2.out.2.size)) (Nat.le_refl _) hn' L rfl).mono ?_
    rw [HO'.out]
    rintro e w3 ⟨rfl, hb⟩
    have HX3 := hide (HX2.out.next hb)
    clear hb c0 c1 c2
    obtain ⟨c0, c1, c2⟩ := HX3.out.cells
    go_wp2_with fail
    refine (HN.out _ ((HI.out.below (HX3.out.2.mono hB)).more (Nat.le_trans hB HX3.out.2.size))).mono ?_
    rintro e w4 ⟨rfl, hb⟩
    have HX4 := hide (HX3.out.next hb)
    clear hb c0 c1 c2
    obtain ⟨c0, c1, c2⟩ := HX4.out.cells
    unfold LRes
    go_wp2_with fail
    refine (HN'.out _ ((HI'.out.below (HX4.out.2.mono hB)).more (Nat.le_trans hB HX4.out.2.size))).mono ?_
    rintro e w5 ⟨rfl, hb⟩
    have HX5 := hide (HX4.out.next hb)
    clear hb c0 c1 c2
    unfold LRes
    go_wp2_with fail
    go_ret2
    exact ⟨by rw [HSV.out, HSC.out]; rfl, HX5.out.2⟩
  · rw [decide_eq_false (by omega : ¬ dm < mn)] at HN
    rw [decide_eq_false (by omega : ¬ dm' < mn)] at HN'
    have HSV := hide (show shV x dm x' dm' mn = 0 by unfold shV; (repeat' split) <;> omega)
    have HSC := hide (show shC dm dm' mn = 7 by unfold shC; (repeat' split) <;> omega)
    clear h1 h2
    go_enter Try.func32, Try.ntmps32
    go_wp2_with fail
    refine (HV.out _).mono ?_
    rintro e w1 ⟨rfl, hb⟩
    have HX1 := hide (HX.out.next hb)
    obtain ⟨c0, c1, c2⟩ := HX1.out.cells
    clear hb
    go_wp2_with fail
    refine (specList D L P A L c w1.heap.size zs w1 ((HI.out.below (HX1.out.2.mono hB)).more (Nat.le_trans hB HX1.out.2.size)) (Nat.le_refl _) hn L rfl).mono ?_
    rw [HO.out]
    rintro e w2 ⟨rfl, hb⟩
    have HX2 := hide (HX1.out.next hb)
    clear hb c0 c1 c2
    obtain ⟨c0, c1, c2⟩ := HX2.out.cells
    go_wp2_with fail
    refine (specList D L P A' L c' w2.heap.size zs' w2 ((HI'.out.below (HX2.out.2.mono hB)).more (Nat.le_trans hB HX2.out.2.size)) (Nat.le_refl _) hn' L rfl).mono ?_
    rw [HO'.out]
    rintro e w3 ⟨rfl, hb⟩
    have HX3 := hide (HX2.out.next hb)
    clear hb c0 c1 c2
    obtain ⟨c0, c1, c2⟩ := HX3.out.cells
    go_wp2_with fail
    refine (HN.out _ ((HI.out.below (HX3.out.2.mono hB)).more (Nat.le_trans hB HX3.out.2.size))).mono ?_
    rintro e w4 ⟨rfl, hb⟩
    have HX4 := hide (HX3.out.next hb)
    clear hb c0 c1 c2
    obtain ⟨c0, c1, c2⟩ := HX4.out.cells
    unfold LRes
    go_wp2_with fail
    refine (HN'.out _ ((HI'.out.below (HX4.out.2.mono hB)).more (Nat.le_trans hB HX4.out.2.size))).mono ?_
    rintro e w5 ⟨rfl, hb⟩
    have HX5 := hide (HX4.out.next hb)
    clear hb c0 c1 c2
    unfold LRes
    go_wp2_with fail
    go_ret2
    exact ⟨by rw [HSV.out, HSC.out]; rfl, HX5.out.2⟩

theorem fs_both (d l p : Int) (zs zs' : List Int) (hz : zs.length ≤ 1048576) (hz' : zs'.length ≤ 1048576) (hl : -9223372036854775808 ≤ l ∧ l ≤ 9223372036854775807) :
    ∃ a k : Int, V2 32 d l p zs zs' (GivesII a k) ∧ V2 30 d l p zs zs' (GivesII a k) := by
  rcases fs_cases d l p zs zs' with h | ⟨D, L, P, K, rfl, rfl, rfl, hf, ho⟩ | ⟨D, L, P, K, rfl, rfl, rfl, hf, hzl, ht, ho, hzl', ht', ho'⟩
  · exact ⟨0, 1, fun A n c A' n' c' B w hI hI' hB => specFs_bad d l p hl.1 h A n c A' n' c' w, fun A n c A' n' c' B w hI hI' hB => implFs_bad d l p h A n c A' n' c' w⟩
  · refine ⟨0, 2, fun A n c A' n' c' B w hI hI' hB => ?_, fun A n c A' n' c' B w hI hI' hB => implFs_out hf A n c A' n' c' B zs zs' w hI hI' hB (by have := hI.len; omega) (by have := hI'.len; omega) ho⟩
    rcases h1 : okL L zs with _ | _
    · exact specFs_out1 hf A n c A' n' c' B zs zs' w hI hI' hB (by have := hI.len; omega) (by have := hI'.len; omega) h1
    · rw [h1, Bool.true_and] at ho
      exact specFs_out2 hf A n c A' n' c' B zs zs' w hI hI' hB (by have := hI.len; omega) (by have := hI'.len; omega) h1 ho
  · refine ⟨(shV (nearF D L P K zs).1 (dmgF D L P K zs) (nearF D L P K zs').1 (dmgF D L P K zs') (minD D L P K) : Nat), shC (dmgF D L P K zs) (dmgF D L P K zs') (minD D L P K), fun A n c A' n' c' B w hI hI' hB => ?_, fun A n c A' n' c' B w hI hI' hB => ?_⟩
    · obtain rfl : n = L := by rw [← hzl]; exact hI.len.symm
      obtain rfl : n' = n := by rw [← hzl']; exact hI'.len.symm
      exact specFs_ok hf A c A' c' B zs zs' w hI hI' hB ho ho'
    · obtain rfl : n = L := by rw [← hzl]; exact hI.len.symm
      obtain rfl : n' = n := by rw [← hzl']; exact hI'.len.symm
      exact implFs_ok hf A c A' c' B zs zs' w hI hI' hB ho ht ho' ht'
end Go.Proofs.Ytkaconpbmppekaa
