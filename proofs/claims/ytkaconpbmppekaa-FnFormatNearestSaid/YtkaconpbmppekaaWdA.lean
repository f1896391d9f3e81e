/-
  FormatShare of the program and of the model.
  Condition: the lists are shorter than 2^40.
-/
import Derived.Test.YtkaconpbmppekaaWd9
namespace Go.Proofs.Ytkaconpbmppekaa
open Go.RowKit
set_option linter.unusedSimpArgs false
set_option linter.unusedVariables false

/-- Two lists in a slice of lists, made just now. -/
theorem lst_two {w : World} {B n c n' c' : Nat} {A A' : Option Addr} {zs zs' : List Int} (hI : Ints .i64 w B A n zs) (hI' : Ints .i64 w B A' n' zs') (hB : B ≤ w.heap.size) (hn : n ≤ 1099511627776) (hn' : n' ≤ 1099511627776) (t : TypeId) :
    Lst (w.alloc (.cells #[.slice A n c, .slice A' n' c'] t)) B w.heap.size (fun i => if i = 0 then A else A') (fun i => if i = 0 then n else n') (fun i => if i = 0 then c else c') (fun i => if i = 0 then zs else zs') 2 := by
  intro i hi
  rcases (show i = 0 ∨ i = 1 by omega) with rfl | rfl
  · exact ⟨cell_of_row _ w.heap.size 0 _ _ _ (heap_alloc_new w _), hI.below ((Below.refl B w).alloc hB _), hn⟩
  · exact ⟨cell_of_row _ w.heap.size 1 _ _ _ (heap_alloc_new w _), hI'.below ((Below.refl B w).alloc hB _), hn'⟩
def Z2 (zs zs' : List Int) (i : Nat) : List Int := if i = 0 then zs else zs'
theorem lstR_two {L : Nat} {zs zs' : List Int} : ((okL L zs && okL L zs') = true → lstR L (fun i => if i = 0 then zs else zs') 2 = 0) ∧ ((okL L zs && okL L zs') = false → lstR L (fun i => if i = 0 then zs else zs') 2 = 2) := by
  refine ⟨fun h => lstR_yes fun i hi => ?_, fun h => ?_⟩
  · rw [Bool.and_eq_true] at h
    rcases (show i = 0 ∨ i = 1 by omega) with rfl | rfl
    · exact h.1
    · exact h.2
  · rw [Bool.and_eq_false_iff] at h
    rcases h with h | h
    · exact lstR_no (i := 0) (by omega) h
    · exact lstR_no (i := 1) (by omega) h
/-- The cases of a format code and two lists. -/
theorem fs_cases (d l p : Int) (zs zs' : List Int) : fcB d l p = false ∨ (∃ D L P K : Nat, d = D ∧ l = L ∧ p = P ∧ FcIs D L P K ∧ (okL L zs && okL L zs') = false) ∨
    (∃ D L P K : Nat, d = D ∧ l = L ∧ p = P ∧ FcIs D L P K ∧ zs.length = L ∧ zs.all isTri = true ∧ okL L zs = true ∧ zs'.length = L ∧ zs'.all isTri = true ∧ okL L zs' = true) := by
  rcases h : fcB d l p with _ | _
  · exact .inl rfl
  · obtain ⟨D, L, P, K, rfl, rfl, rfl, hf⟩ := fcB_open h
    rcases ho : (okL L zs && okL L zs') with _ | _
    · exact .inr (.inl ⟨D, L, P, K, rfl, rfl, rfl, hf, ho⟩)
    · rw [Bool.and_eq_true] at ho
      obtain ⟨h1, h2⟩ := ho
      have e1 := h1
      have e2 := h2
      unfold okL at e1 e2
      rw [Bool.and_eq_true, decide_eq_true_eq] at e1 e2
      exact .inr (.inr ⟨D, L, P, K, rfl, rfl, rfl, hf, e1.2, e1.1, h1, e2.2, e2.1, h2⟩)
/-- What FormatShare answers: of two readings. -/
def shV (x1 d1 x2 d2 m : Nat) : Nat := if d2 < d1 then (if d2 < m then x2 else 0) else (if d1 < m then x1 else 0)
def shC (d1 d2 m : Nat) : Int := if d2 < d1 then (if d2 < m then 0 else 7) else (if d1 < m then 0 else 7)

theorem Box.set3 {w wr : World} {t : TypeId} {p k g : Int} (h : Box w wr t p k g) (p' k' g' : Int) :
    Box w (((wr.setCell ⟨w.heap.size, 0, none⟩ (.int .i64 p')).setCell ⟨w.heap.size, 1, none⟩ (.int .i64 k')).setCell ⟨w.heap.size, 2, none⟩ (.int .i64 g')) t p' k' g' ∧
      wr.grownBy (((wr.setCell ⟨w.heap.size, 0, none⟩ (.int .i64 p')).setCell ⟨w.heap.size, 1, none⟩ (.int .i64 k')).setCell ⟨w.heap.size, 2, none⟩ (.int .i64 g')) (some w.heap.size) := by
  have h0 : (wr.setCell ⟨w.heap.size, 0, none⟩ (.int .i64 p')).heap[w.heap.size]? = some (.cells #[.int .i64 p', .int .i64 k, .int .i64 g] t (0, 0)) := heap_setCell_same _ w.heap.size 0 _ _ _ h.1
  have h1 : ((wr.setCell ⟨w.heap.size, 0, none⟩ (.int .i64 p')).setCell ⟨w.heap.size, 1, none⟩ (.int .i64 k')).heap[w.heap.size]? = some (.cells #[.int .i64 p', .int .i64 k', .int .i64 g] t (0, 0)) := heap_setCell_same _ w.heap.size 1 _ _ _ h0
  have h2 : (((wr.setCell ⟨w.heap.size, 0, none⟩ (.int .i64 p')).setCell ⟨w.heap.size, 1, none⟩ (.int .i64 k')).setCell ⟨w.heap.size, 2, none⟩ (.int .i64 g')).heap[w.heap.size]? = some (.cells #[.int .i64 p', .int .i64 k', .int .i64 g'] t (0, 0)) := heap_setCell_same _ w.heap.size 2 _ _ _ h1
  refine ⟨⟨h2, ((h.2.setCell (p := ⟨w.heap.size, 0, none⟩) (Nat.le_refl _) _).setCell (p := ⟨w.heap.size, 1, none⟩) (Nat.le_refl _) _).setCell (p := ⟨w.heap.size, 2, none⟩) (Nat.le_refl _) _⟩, ⟨rfl, rfl, rfl, by simp, fun i _ hne => ?_⟩⟩
  rw [Below.heap_setCell _ ⟨w.heap.size, 2, none⟩ _ i (fun e => hne (by simp [e])), Below.heap_setCell _ ⟨w.heap.size, 1, none⟩ _ i (fun e => hne (by simp [e])), Below.heap_setCell _ ⟨w.heap.size, 0, none⟩ _ i (fun e => hne (by simp [e]))]

set_option maxRecDepth 100000 in
set_option maxHeartbeats 4000000 in
theorem implFs_bad (d l p : Int) (h : fcB d l p = false) (A : Option Addr) (n c : Nat) (A' : Option Addr) (n' c' : Nat) (w : World) :
    Calls Try.prog 30 #[.agg #[.int .i64 d, .int .i64 l, .int .i64 p], .slice A n c, .slice A' n' c'] w (GivesII 0 1 w) := by
  have HX := hide (Box.start w 25 d l p)
  have HX0 := hide (HX.out.alloc (.cells #[.slice A n c, .slice A' n' c'] 28))
  have HE := hide (fun A' c' w' => implListErr_bad d l p h A' 2 c' w')
  clear h
  go_enter Try.func30, Try.ntmps30
  go_wp2_with fail
  refine (HE.out _ _ _).mono ?_
  rintro e w1 ⟨rfl, hb⟩
  have HX1 := hide (HX0.out.next hb)
  clear hb
  go_wp2_with fail
  go_ret2
  exact ⟨rfl, HX1.out.2⟩
set_option maxRecDepth 100000 in
set_option maxHeartbeats 4000000 in
theorem implFs_out {D L P K : Nat} (h : FcIs D L P K) (A : Option Addr) (n c : Nat) (A' : Option Addr) (n' c' B : Nat) (zs zs' : List Int) (w : World) (hI : Ints .i64 w B A n zs) (hI' : Ints .i64 w B A' n' zs') (hB : B ≤ w.heap.size) (hn : n ≤ 1099511627776) (hn' : n' ≤ 1099511627776) (ho : (okL L zs && okL L zs') = false) :
    Calls Try.prog 30 #[.agg #[.int .i64 D, .int .i64 L, .int .i64 P], .slice A n c, .slice A' n' c'] w (GivesII 0 2 w) := by
  have HX := hide (Box.start w 25 D L P)
  have HX0 := hide (HX.out.alloc (.cells #[.slice A n c, .slice A' n' c'] 28))
  have hs : (w.alloc (.cells #[.int .i64 D, .int .i64 L, .int .i64 P] 25)).heap.size = w.heap.size + 1 := alloc_size _ _
  have HLS := hide (lst_two (c := c) (c' := c') (hI.below ((Below.refl B w).alloc hB (.cells #[.int .i64 D, .int .i64 L, .int .i64 P] 25))) (hI'.below ((Below.refl B w).alloc hB (.cells #[.int .i64 D, .int .i64 L, .int .i64 P] 25))) (by rw [hs]; omega) hn hn' 28)
  rw [hs] at HLS
  have HR := hide (lstR_two.2 ho)
  have HE := hide (fun cc w' hL hg hw => implListErr h B (w.heap.size + 1) 2 cc (fun i => if i = 0 then A else A') (fun i => if i = 0 then n else n') (fun i => if i = 0 then c else c') (fun i => if i = 0 then zs else zs') w' hL hg hw (by omega))
  clear h hI hI' ho hs
  go_enter Try.func30, Try.ntmps30
  go_wp2_with fail
  refine (HE.out _ _ HLS.out (by simp only [alloc_size]; omega) (by simp only [alloc_size]; omega)).mono ?_
  rw [HR.out]
  rintro e w1 ⟨rfl, hb⟩
  have HX1 := hide (HX0.out.next hb)
  clear hb
  go_wp2_with fail
  go_ret2
  exact ⟨rfl, HX1.out.2⟩
set_option maxRecDepth 100000 in
set_option maxHeartbeats 8000000 in
theorem implFs_ok {D L P K : Nat} (h : FcIs D L P K) (A : Option Addr) (c : Nat) (A' : Option Addr) (c' B : Nat) (zs zs' : List Int) (w : World) (hI : Ints .i64 w B A L zs) (hI' : Ints .i64 w B A' L zs') (hB : B ≤ w.heap.size) (ho : okL L zs = true) (ht : zs.all isTri = true) (ho' : okL L zs' = true) (ht' : zs'.all isTri = true) :
    Calls Try.prog 30 #[.agg #[.int .i64 D, .int .i64 L, .int .i64 P], .slice A L c, .slice A' L c'] w
      (GivesII (shV (nearF D L P K zs).1 (dmgF D L P K zs) (nearF D L P K zs').1 (dmgF D L P K zs') (minD D L P K) : Nat) (shC (dmgF D L P K zs) (dmgF D L P K zs') (minD D L P K)) w) := by
  have HX := hide (Box.start w 25 D L P)
  have HX0 := hide (HX.out.alloc (.cells #[.slice A L c, .slice A' L c'] 28))
  have hL24 := h.l24
  have hs : (w.alloc (.cells #[.int .i64 D, .int .i64 L, .int .i64 P] 25)).heap.size = w.heap.size + 1 := alloc_size _ _
  have HLS := hide (lst_two (c := c) (c' := c') (hI.below ((Below.refl B w).alloc hB (.cells #[.int .i64 D, .int .i64 L, .int .i64 P] 25))) (hI'.below ((Below.refl B w).alloc hB (.cells #[.int .i64 D, .int .i64 L, .int .i64 P] 25))) (by rw [hs]; omega) (show L ≤ 1099511627776 by omega) (show L ≤ 1099511627776 by omega) 28)
  rw [hs] at HLS
  have HR := hide (lstR_two.1 (show (okL L zs && okL L zs') = true by rw [ho, ho']; rfl))
  have HE := hide (fun cc w' hL hg hw => implListErr h B (w.heap.size + 1) 2 cc (fun i => if i = 0 then A else A') (fun i => if i = 0 then L else L) (fun i => if i = 0 then c else c') (fun i => if i = 0 then zs else zs') w' hL hg hw (by omega))
  have HI := hide hI
  have HI' := hide hI'
  have HRD := hide (fun (w' : World) (hI' : Ints .i64 w' w'.heap.size A L zs) => implRead h A c w'.heap.size zs w' hI' (Nat.le_refl _) ht)
  have HRE := hide (fun (w' : World) (hI' : Ints .i64 w' w'.heap.size A' L zs') => implRead h A' c' w'.heap.size zs' w' hI' (Nat.le_refl _) ht')
  have HMI := hide (fun w' => implMin h w')
  have hmd := minD_le D L P K
  have hn1 := near_le (D := D) (P := P) (K := K) hI.len
  have hn2 := near_le (D := D) (P := P) (K := K) hI'.len
  have hu1 : dmgF D L P K zs ≤ 3 * L := by have := unk_le zs; rw [hI.len] at this; unfold dmgF; omega
  have hu2 : dmgF D L P K zs' ≤ 3 * L := by have := unk_le zs'; rw [hI'.len] at this; unfold dmgF; omega
  obtain ⟨x, hx⟩ : ∃ x, (nearF D L P K zs).1 = x := ⟨_, rfl⟩
  obtain ⟨y, hy⟩ : ∃ y, (nearF D L P K zs).2 = y := ⟨_, rfl⟩
  obtain ⟨dm, hdm⟩ : ∃ dm, dmgF D L P K zs = dm := ⟨_, rfl⟩
  obtain ⟨x', hx'⟩ : ∃ x, (nearF D L P K zs').1 = x := ⟨_, rfl⟩
  obtain ⟨y', hy'⟩ : ∃ y, (nearF D L P K zs').2 = y := ⟨_, rfl⟩
  obtain ⟨dm', hdm'⟩ : ∃ dm, dmgF D L P K zs' = dm := ⟨_, rfl⟩
  obtain ⟨mn, hmn⟩ : ∃ mn, minD D L P K = mn := ⟨_, rfl⟩
  rw [hx, hy, hdm] at HRD
  rw [hx', hy', hdm'] at HRE
  rw [hmn] at HMI hmd
  rw [hdm] at hu1
  rw [hdm'] at hu2
  rw [hx, hdm, hmn, hx', hdm']
  clear h hI hI' ho ht ho' ht' hs hx hy hdm hmn hx' hy' hdm' hn1 hn2
  go_enter Try.func30, Try.ntmps30
  go_wp2_with fail
  refine (HE.out _ _ HLS.out (by simp only [alloc_size]; omega) (by simp only [alloc_size]; omega)).mono ?_
  rw [HR.out]
  rintro e w1 ⟨rfl, hb⟩
  have HX1 := hide (HX0.out.next hb)
  obtain ⟨c0, c1, c2⟩ := HX1.out.cells
  clear hb
  go_wp2_with fail
  refine (HRD.out _ ((HI.out.below (HX1.out.2.mono hB)).more (Nat.le_trans hB HX1.out.2.size))).mono ?_
  unfold ReadV
  rintro e w2 ⟨rfl, hb⟩
  have HX2 := hide ((HX1.out.next hb).alloc (.cells #[.int .i64 x, .int .i64 y, .int .i64 dm] 77))
  have HQ2 := hide (Box.start w2 77 x y dm)
  have hww2 : w.heap.size < w2.heap.size := (HX1.out.next hb).lt
  clear hb c0 c1 c2
  obtain ⟨c0, c1, c2⟩ := HX2.out.cells
  have hB2 : B ≤ (w2.alloc (.cells #[.int .i64 x, .int .i64 y, .int .i64 dm] 77)).heap.size := Nat.le_trans hB HX2.out.2.size
  go_wp2_with fail
  refine (HRE.out _ ((HI'.out.below (HX2.out.2.mono hB)).more hB2)).mono ?_
  unfold ReadV
  rintro e w3 ⟨rfl, hb⟩
  have HX3 := hide ((HX2.out.next hb).alloc (.cells #[.int .i64 x', .int .i64 y', .int .i64 dm'] 77))
  have HQ3 := hide ((HQ2.out.next hb).alloc (.cells #[.int .i64 x', .int .i64 y', .int .i64 dm'] 77))
  have HP3 := hide (Box.start w3 77 x' y' dm')
  have hw23 : w2.heap.size < w3.heap.size := (HQ2.out.next hb).lt
  have HXb := hide (HX2.out.next hb)
  have HQb := hide (HQ2.out.next hb)
  clear hb c0 c1 c2
  obtain ⟨c0, c1, c2⟩ := HX3.out.cells
  obtain ⟨q0, q1, q2⟩ := HQ3.out.cells
  obtain ⟨p0, p1, p2⟩ := HP3.out.cells
  by_cases hlt : dm' < dm
  · have hlt2 : (dm' : Int) < (dm : Int) := by omega
    have HSV := hide (show shV x dm x' dm' mn = if dm' < mn then x' else 0 by rw [shV, if_pos hlt])
    have HSC := hide (show shC dm dm' mn = if dm' < mn then 0 else 7 by rw [shC, if_pos hlt])
    obtain ⟨r0, r1, r2⟩ := HQb.out.cells
    have f0 := frozen_of_row _ w2.heap.size 0 _ _ HQb.out.1
    have f1 := frozen_of_row _ w2.heap.size 1 _ _ HQb.out.1
    have f2 := frozen_of_row _ w2.heap.size 2 _ _ HQb.out.1
    obtain ⟨hbx, hgr⟩ := HQb.out.set3 x' y' dm'
    have HQ4 := hide (hbx.alloc (.cells #[.int .i64 x', .int .i64 y', .int .i64 dm'] 77))
    have HX4 := hide ((HXb.out.grow' hgr (fun b e => by cases e; exact hww2)).alloc (.cells #[.int .i64 x', .int .i64 y', .int .i64 dm'] 77))
    clear hlt hbx hgr
    rcases (show dm' < mn ∨ ¬ dm' < mn by omega) with hm | hm
    · rw [if_pos hm] at HSV HSC
      have hge : decide ((mn : Int) ≤ (dm' : Int)) = false := by simp; omega
      have hge2 : decide (mn ≤ dm') = false := by simp; omega
      clear hm
      go_wp2_with fail
      go_region_held3 (fun w' => w'.cell? ⟨w.heap.size, 0, none⟩ = some (.int .i64 D) ∧ w'.cell? ⟨w.heap.size, 1, none⟩ = some (.int .i64 L) ∧ w'.cell? ⟨w.heap.size, 2, none⟩ = some (.int .i64 P) ∧ w'.cell? ⟨w2.heap.size, 2, none⟩ = some (.int .i64 dm'))
        (first
          | exact ⟨HX4.out.drew.cells.1, HX4.out.drew.cells.2.1, HX4.out.drew.cells.2.2, HQ4.out.drew.cells.2.2⟩
          | exact ⟨HX5.out.cells.1, HX5.out.cells.2.1, HX5.out.cells.2.2, HQ5.out.cells.2.2⟩)
        (first
          | (go_at_call 53; refine (HMI.out _).mono ?_; rintro e w5 ⟨rfl, hb⟩; have HX5 := hide (HX4.out.drew.next hb); have HQ5 := hide (HQ4.out.drew.next hb); clear hb))
      obtain ⟨s0, s1, s2⟩ := HQ5.out.cells
      go_wp2_with fail
      go_ret2
      exact ⟨by rw [HSV.out, HSC.out]; rfl, HX5.out.2⟩
    · rw [if_neg hm] at HSV HSC
      have hge : decide ((mn : Int) ≤ (dm' : Int)) = true := by simp; omega
      have hge2 : decide (mn ≤ dm') = true := by simp; omega
      clear hm
      go_wp2_with fail
      go_region_held3 (fun w' => w'.cell? ⟨w.heap.size, 0, none⟩ = some (.int .i64 D) ∧ w'.cell? ⟨w.heap.size, 1, none⟩ = some (.int .i64 L) ∧ w'.cell? ⟨w.heap.size, 2, none⟩ = some (.int .i64 P) ∧ w'.cell? ⟨w2.heap.size, 2, none⟩ = some (.int .i64 dm'))
        (first
          | exact ⟨HX4.out.drew.cells.1, HX4.out.drew.cells.2.1, HX4.out.drew.cells.2.2, HQ4.out.drew.cells.2.2⟩
          | exact ⟨HX5.out.cells.1, HX5.out.cells.2.1, HX5.out.cells.2.2, HQ5.out.cells.2.2⟩)
        (first
          | (go_at_call 53; refine (HMI.out _).mono ?_; rintro e w5 ⟨rfl, hb⟩; have HX5 := hide (HX4.out.drew.next hb); have HQ5 := hide (HQ4.out.drew.next hb); clear hb))
      go_wp2_with fail
      go_ret2
      exact ⟨by rw [HSV.out, HSC.out]; rfl, HX5.out.2⟩
  · have hlt2 : decide ((dm' : Int) < (dm : Int)) = false := by simp; omega
    have hlt3 : decide (dm' < dm) = false := by simp; omega
    have HSV := hide (show shV x dm x' dm' mn = if dm < mn then x else 0 by rw [shV, if_neg hlt])
    have HSC := hide (show shC dm dm' mn = if dm < mn then 0 else 7 by rw [shC, if_neg hlt])
    clear hlt
    rcases (show dm < mn ∨ ¬ dm < mn by omega) with hm | hm
    · rw [if_pos hm] at HSV HSC
      have hge : decide ((mn : Int) ≤ (dm : Int)) = false := by simp; omega
      have hge2 : decide (mn ≤ dm) = false := by simp; omega
      clear hm
      go_wp2_with fail
      go_region_held3 (fun w' => w'.cell? ⟨w.heap.size, 0, none⟩ = some (.int .i64 D) ∧ w'.cell? ⟨w.heap.size, 1, none⟩ = some (.int .i64 L) ∧ w'.cell? ⟨w.heap.size, 2, none⟩ = some (.int .i64 P) ∧ w'.cell? ⟨w2.heap.size, 2, none⟩ = some (.int .i64 dm))
        (first
          | exact ⟨HX3.out.drew.cells.1, HX3.out.drew.cells.2.1, HX3.out.drew.cells.2.2, HQ3.out.drew.cells.2.2⟩
          | exact ⟨HX5.out.cells.1, HX5.out.cells.2.1, HX5.out.cells.2.2, HQ5.out.cells.2.2⟩)
        (first
          | (go_at_call 53; refine (HMI.out _).mono ?_; rintro e w5 ⟨rfl, hb⟩; have HX5 := hide (HX3.out.drew.next hb); have HQ5 := hide (HQ3.out.drew.next hb); clear hb))
      obtain ⟨s0, s1, s2⟩ := HQ5.out.cells
      go_wp2_with fail
      go_ret2
      exact ⟨by rw [HSV.out, HSC.out]; rfl, HX5.out.2⟩
    · rw [if_neg hm] at HSV HSC
      have hge : decide ((mn : Int) ≤ (dm : Int)) = true := by simp; omega
      have hge2 : decide (mn ≤ dm) = true := by simp; omega
      clear hm
      go_wp2_with fail
      go_region_held3 (fun w' => w'.cell? ⟨w.heap.size, 0, none⟩ = some (.int .i64 D) ∧ w'.cell? ⟨w.heap.size, 1, none⟩ = some (.int .i64 L) ∧ w'.cell? ⟨w.heap.size, 2, none⟩ = some (.int .i64 P) ∧ w'.cell? ⟨w2.heap.size, 2, none⟩ = some (.int .i64 dm))
        (first
          | exact ⟨HX3.out.drew.cells.1, HX3.out.drew.cells.2.1, HX3.out.drew.cells.2.2, HQ3.out.drew.cells.2.2⟩
          | exact ⟨HX5.out.cells.1, HX5.out.cells.2.1, HX5.out.cells.2.2, HQ5.out.cells.2.2⟩)
        (first
          | (go_at_call 53; refine (HMI.out _).mono ?_; rintro e w5 ⟨rfl, hb⟩; have HX5 := hide (HX3.out.drew.next hb); have HQ5 := hide (HQ3.out.drew.next hb); clear hb))
      go_wp2_with fail
      go_ret2
      exact ⟨by rw [HSV.out, HSC.out]; rfl, HX5.out.2⟩
end Go.Proofs.Ytkaconpbmppekaa
