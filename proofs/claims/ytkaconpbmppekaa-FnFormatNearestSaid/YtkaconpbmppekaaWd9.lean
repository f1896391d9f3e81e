/-
  NearestFormat of the program, and of both.
  Condition: the list is shorter than 2^40.
-/
import Derived.Test.YtkaconpbmppekaaWdR
namespace Go.Proofs.Ytkaconpbmppekaa
open Go.RowKit
set_option linter.unusedSimpArgs false
set_option linter.unusedVariables false

/-- One list in a slice of lists, made just now. -/
theorem lst_one {w : World} {B n c : Nat} {A : Option Addr} {zs : List Int} (hI : Ints .i64 w B A n zs) (hB : B ≤ w.heap.size) (hn : n ≤ 1099511627776) (t : TypeId) :
    Lst (w.alloc (.cells #[.slice A n c] t)) B w.heap.size (fun _ => A) (fun _ => n) (fun _ => c) (fun _ => zs) 1 := by
  intro i hi
  obtain rfl : i = 0 := by omega
  exact ⟨cell_of_row _ w.heap.size 0 _ _ _ (heap_alloc_new w _), hI.below ((Below.refl B w).alloc hB _), hn⟩
theorem lstR_one {L : Nat} {zs : List Int} : (okL L zs = true → lstR L (fun _ => zs) 1 = 0) ∧ (okL L zs = false → lstR L (fun _ => zs) 1 = 2) :=
  ⟨fun h => lstR_yes fun i hi => h, fun h => lstR_no (i := 0) (by omega) h⟩

set_option maxRecDepth 100000 in
set_option maxHeartbeats 4000000 in
theorem implNf_bad (d l p : Int) (h : fcB d l p = false) (A : Option Addr) (n c : Nat) (w : World) :
    Calls Try.prog 27 #[.agg #[.int .i64 d, .int .i64 l, .int .i64 p], .slice A n c] w (GivesIII 0 0 1 w) := by
  have HX := hide (Box.start w 25 d l p)
  have HX0 := hide (HX.out.alloc (.cells #[.slice A n c] 28))
  have HE := hide (fun A' c' w' => implListErr_bad d l p h A' 1 c' w')
  clear h
  go_enter Try.func27, Try.ntmps27
  go_wp2_with fail
  refine (HE.out _ _ _).mono ?_
  rintro e w1 ⟨rfl, hb⟩
  have HX1 := hide (HX0.out.next hb)
  clear hb
  go_wp2_with fail
  go_ret3
  exact ⟨rfl, HX1.out.2⟩
set_option maxRecDepth 100000 in
set_option maxHeartbeats 4000000 in
theorem implNf_out {D L P K : Nat} (h : FcIs D L P K) (A : Option Addr) (n c B : Nat) (zs : List Int) (w : World) (hI : Ints .i64 w B A n zs) (hB : B ≤ w.heap.size) (hn : n ≤ 1099511627776) (ho : okL L zs = false) :
    Calls Try.prog 27 #[.agg #[.int .i64 D, .int .i64 L, .int .i64 P], .slice A n c] w (GivesIII 0 0 2 w) := by
  have HX := hide (Box.start w 25 D L P)
  have HX0 := hide (HX.out.alloc (.cells #[.slice A n c] 28))
  have hs : (w.alloc (.cells #[.int .i64 D, .int .i64 L, .int .i64 P] 25)).heap.size = w.heap.size + 1 := alloc_size _ _
  have HLS := hide (lst_one (c := c) (hI.below ((Below.refl B w).alloc hB (.cells #[.int .i64 D, .int .i64 L, .int .i64 P] 25))) (by rw [hs]; omega) hn 28)
  rw [hs] at HLS
  have HR := hide (lstR_one.2 ho)
  have HE := hide (fun cc w' hL hg hw => implListErr h B (w.heap.size + 1) 1 cc (fun _ => A) (fun _ => n) (fun _ => c) (fun _ => zs) w' hL hg hw (by omega))
  clear h hI ho hs
  go_enter Try.func27, Try.ntmps27
  go_wp2_with fail
  refine (HE.out _ _ HLS.out (by simp only [alloc_size]; omega) (by simp only [alloc_size]; omega)).mono ?_
  rw [HR.out]
  rintro e w1 ⟨rfl, hb⟩
  have HX1 := hide (HX0.out.next hb)
  clear hb
  go_wp2_with fail
  go_ret3
  exact ⟨rfl, HX1.out.2⟩
set_option maxRecDepth 100000 in
set_option maxHeartbeats 8000000 in
theorem implNf_ok {D L P K : Nat} (h : FcIs D L P K) (A : Option Addr) (c B : Nat) (zs : List Int) (w : World) (hI : Ints .i64 w B A L zs) (hB : B ≤ w.heap.size) (ho : okL L zs = true) (ht : zs.all isTri = true) :
    Calls Try.prog 27 #[.agg #[.int .i64 D, .int .i64 L, .int .i64 P], .slice A L c] w (if dmgF D L P K zs < minD D L P K then GivesIII (nearF D L P K zs).1 (nearF D L P K zs).2 0 w else GivesIII 0 0 7 w) := by
  have HX := hide (Box.start w 25 D L P)
  have HX0 := hide (HX.out.alloc (.cells #[.slice A L c] 28))
  have hL24 := h.l24
  have hs : (w.alloc (.cells #[.int .i64 D, .int .i64 L, .int .i64 P] 25)).heap.size = w.heap.size + 1 := alloc_size _ _
  have HLS := hide (lst_one (c := c) (hI.below ((Below.refl B w).alloc hB (.cells #[.int .i64 D, .int .i64 L, .int .i64 P] 25))) (by rw [hs]; omega) (by omega) 28)
  rw [hs] at HLS
  have HR := hide (lstR_one.1 ho)
  have HE := hide (fun cc w' hL hg hw => implListErr h B (w.heap.size + 1) 1 cc (fun _ => A) (fun _ => L) (fun _ => c) (fun _ => zs) w' hL hg hw (by omega))
  have HI := hide hI
  have HRD := hide (fun (w' : World) (hI' : Ints .i64 w' w'.heap.size A L zs) => implRead h A c w'.heap.size zs w' hI' (Nat.le_refl _) ht)
  have HMI := hide (fun w' => implMin h w')
  have hnl := near_le (D := D) (P := P) (K := K) hI.len
  have hmd := minD_le D L P K
  obtain ⟨x, hx⟩ : ∃ x, (nearF D L P K zs).1 = x := ⟨_, rfl⟩
  obtain ⟨y, hy⟩ : ∃ y, (nearF D L P K zs).2 = y := ⟨_, rfl⟩
  obtain ⟨dm, hdm⟩ : ∃ dm, dmgF D L P K zs = dm := ⟨_, rfl⟩
  obtain ⟨mn, hmn⟩ : ∃ mn, minD D L P K = mn := ⟨_, rfl⟩
  rw [hx, hy, hdm] at HRD
  rw [hmn] at HMI hmd
  rw [hx, hy, hdm, hmn]
  clear h hI ho ht hs hx hy hdm hmn hnl
  by_cases hlt : dm < mn
  · rw [if_pos hlt]
    have hge : decide ((mn : Int) ≤ (dm : Int)) = false := by simp; omega
    have hge2 : decide (mn ≤ dm) = false := by simp; omega
    clear hlt
    go_enter Try.func27, Try.ntmps27
    go_wp2_with fail
    refine (HE.out _ _ HLS.out (by simp only [alloc_size]; omega) (by simp only [alloc_size]; omega)).mono ?_
    rw [HR.out]
    rintro e w1 ⟨rfl, hb⟩
    have HX1 := hide (HX0.out.next hb)
    obtain ⟨c0, c1, c2⟩ := HX1.out.cells
    clear hb
    go_wp2_with fail
    refine (HRD.out _ ((HI.out.below (HX1.out.2.mono hB)).more (Nat.le_trans hB HX1.out.2.size))).mono ?_
    unfold ReadV
    rintro e w2 ⟨rfl, hb⟩
    have HX2 := hide ((HX1.out.next hb).alloc (.cells #[.int .i64 x, .int .i64 y, .int .i64 dm] 77))
    have HQ := hide (Box.start w2 77 x y dm)
    clear hb c0 c1 c2
    obtain ⟨c0, c1, c2⟩ := HX2.out.cells
    obtain ⟨q0, q1, q2⟩ := HQ.out.cells
    go_wp2_with fail
    go_region_held3 (fun w' => w'.cell? ⟨w.heap.size, 0, none⟩ = some (.int .i64 D) ∧ w'.cell? ⟨w.heap.size, 1, none⟩ = some (.int .i64 L) ∧ w'.cell? ⟨w.heap.size, 2, none⟩ = some (.int .i64 P) ∧ w'.cell? ⟨w2.heap.size, 2, none⟩ = some (.int .i64 dm))
      (first
        | exact ⟨c0, c1, c2, q2⟩
        | exact ⟨HX3.out.cells.1, HX3.out.cells.2.1, HX3.out.cells.2.2, HQ3.out.cells.2.2⟩)
      (first
        | (go_at_call 53; refine (HMI.out _).mono ?_; rintro e w3 ⟨rfl, hb⟩; have HX3 := hide (HX2.out.drew.next hb); have HQ3 := hide (HQ.out.drew.next hb); clear hb))
    clear c0 c1 c2 q0 q1 q2
    obtain ⟨q0, q1, q2⟩ := HQ3.out.cells
    go_wp2_with fail
    go_quiet (fail)
    go_wp2_with fail
    go_ret3
    exact ⟨rfl, (HX3.out.drewN _).2⟩
  · rw [if_neg hlt]
    have hge : decide ((mn : Int) ≤ (dm : Int)) = true := by simp; omega
    have hge2 : decide (mn ≤ dm) = true := by simp; omega
    clear hlt
    go_enter Try.func27, Try.ntmps27
    go_wp2_with fail
    refine (HE.out _ _ HLS.out (by simp only [alloc_size]; omega) (by simp only [alloc_size]; omega)).mono ?_
    rw [HR.out]
    rintro e w1 ⟨rfl, hb⟩
    have HX1 := hide (HX0.out.next hb)
    obtain ⟨c0, c1, c2⟩ := HX1.out.cells
    clear hb
    go_wp2_with fail
    refine (HRD.out _ ((HI.out.below (HX1.out.2.mono hB)).more (Nat.le_trans hB HX1.out.2.size))).mono ?_
    unfold ReadV
    rintro e w2 ⟨rfl, hb⟩
    have HX2 := hide ((HX1.out.next hb).alloc (.cells #[.int .i64 x, .int .i64 y, .int .i64 dm] 77))
    have HQ := hide (Box.start w2 77 x y dm)
    clear hb c0 c1 c2
    obtain ⟨c0, c1, c2⟩ := HX2.out.cells
    obtain ⟨q0, q1, q2⟩ := HQ.out.cells
    go_wp2_with fail
    go_region_held3 (fun w' => w'.cell? ⟨w.heap.size, 0, none⟩ = some (.int .i64 D) ∧ w'.cell? ⟨w.heap.size, 1, none⟩ = some (.int .i64 L) ∧ w'.cell? ⟨w.heap.size, 2, none⟩ = some (.int .i64 P) ∧ w'.cell? ⟨w2.heap.size, 2, none⟩ = some (.int .i64 dm))
      (first
        | exact ⟨c0, c1, c2, q2⟩
        | exact ⟨HX3.out.cells.1, HX3.out.cells.2.1, HX3.out.cells.2.2, HQ3.out.cells.2.2⟩)
      (first
        | (go_at_call 53; refine (HMI.out _).mono ?_; rintro e w3 ⟨rfl, hb⟩; have HX3 := hide (HX2.out.drew.next hb); have HQ3 := hide (HQ.out.drew.next hb); clear hb))
    clear c0 c1 c2 q0 q1 q2
    go_wp2_with fail
    go_ret3
    exact ⟨rfl, HX3.out.2⟩

theorem nf_both (d l p : Int) (zs : List Int) (hz : zs.length ≤ 1048576) (hl : -9223372036854775808 ≤ l ∧ l ≤ 9223372036854775807) :
    ∃ a b k : Int, V1 28 d l p zs (GivesIII a b k) ∧ V1 27 d l p zs (GivesIII a b k) := by
  rcases nf_cases d l p zs with h | ⟨D, L, P, K, rfl, rfl, rfl, hf, ho⟩ | ⟨D, L, P, K, rfl, rfl, rfl, hf, hzl, ht, ho⟩
  · exact ⟨0, 0, 1, fun A n c B w hI hB => specNf_bad d l p hl.1 h A n c w, fun A n c B w hI hB => implNf_bad d l p h A n c w⟩
  · exact ⟨0, 0, 2, fun A n c B w hI hB => specNf_out hf A n c B zs w hI hB (by have := hI.len; omega) ho, fun A n c B w hI hB => implNf_out hf A n c B zs w hI hB (by have := hI.len; omega) ho⟩
  · by_cases hlt : dmgF D L P K zs < minD D L P K
    · refine ⟨(nearF D L P K zs).1, (nearF D L P K zs).2, 0, fun A n c B w hI hB => ?_, fun A n c B w hI hB => ?_⟩
      · obtain rfl : n = L := by rw [← hzl]; exact hI.len.symm
        have := specNf_ok hf A c B zs w hI hB ho
        rwa [if_pos hlt] at this
      · obtain rfl : n = L := by rw [← hzl]; exact hI.len.symm
        have := implNf_ok hf A c B zs w hI hB ho ht
        rwa [if_pos hlt] at this
    · refine ⟨0, 0, 7, fun A n c B w hI hB => ?_, fun A n c B w hI hB => ?_⟩
      · obtain rfl : n = L := by rw [← hzl]; exact hI.len.symm
        have := specNf_ok hf A c B zs w hI hB ho
        rwa [if_neg hlt] at this
      · obtain rfl : n = L := by rw [← hzl]; exact hI.len.symm
        have := implNf_ok hf A c B zs w hI hB ho ht
        rwa [if_neg hlt] at this
end Go.Proofs.Ytkaconpbmppekaa
