/-
  ElementCount, RoomOf, ErrorRoom and LayoutOf: the model and the program.
  Condition: as each statement says.
-/
import Derived.Test.YtncgeoliboidhaaGreatVM
namespace Go.Proofs.YtncgeoliboidhaaGreat
open Go.RowKit
set_option linter.unusedSimpArgs false
set_option linter.unusedVariables false

def ecV (bs : List Int) (κ p k g : Int) (zs : List Int) (C : Int) (ls : List Int) (z : Int) : Int := if szCode bs κ p k g zs C ls z = 0 then (lyE κ p k C z : Nat) else 0
theorem ec_bad {bs : List Int} {κ p k g : Int} {zs : List Int} {C : Int} {ls : List Int} {z : Int} (h : szCode bs κ p k g zs C ls z ≠ 0) : ecV bs κ p k g zs C ls z = 0 := by unfold ecV; rw [if_neg h]
def roV (bs : List Int) (κ p k g : Int) (zs : List Int) (C : Int) (ls : List Int) (z lv : Int) : Int := if loCode bs κ p k g zs C ls z lv = 0 then lyD κ p k C z ls lv * (wdt (qN p k) : Nat) else 0
def erV (bs : List Int) (κ p k g : Int) (zs : List Int) (C : Int) (ls : List Int) (z lv : Int) : Int := if loCode bs κ p k g zs C ls z lv = 0 then (((lyK κ p k C z ls lv).toNat / 2 : Nat) : Int) else 0
theorem roV_bad {bs : List Int} {κ p k g : Int} {zs : List Int} {C : Int} {ls : List Int} {z lv : Int} (h : loCode bs κ p k g zs C ls z lv ≠ 0) : roV bs κ p k g zs C ls z lv = 0 := by unfold roV; rw [if_neg h]
theorem erV_bad {bs : List Int} {κ p k g : Int} {zs : List Int} {C : Int} {ls : List Int} {z lv : Int} (h : loCode bs κ p k g zs C ls z lv ≠ 0) : erV bs κ p k g zs C ls z lv = 0 := by unfold erV; rw [if_neg h]
theorem lo_zero {bs : List Int} {κ p k g : Int} {zs : List Int} {C : Int} {ls : List Int} {z lv : Int} (h : loCode bs κ p k g zs C ls z lv = 0) :
    fmB bs κ p k g zs C ls = true ∧ z ∈ zs ∧ idxOk ls lv = true ∧ layB p k g (lyD κ p k C z ls lv) (lyK κ p k C z ls lv) (lyC κ p k C z) = true := by
  unfold loCode at h
  rcases h1 : fmB bs κ p k g zs C ls with _ | _
  · rw [if_pos h1] at h; cases h
  rcases h2 : (decide (z ∈ zs) && idxOk ls lv) with _ | _
  · rw [if_neg (by rw [h1]; decide), if_pos h2] at h; cases h
  rcases h3 : layB p k g (lyD κ p k C z ls lv) (lyK κ p k C z ls lv) (lyC κ p k C z) with _ | _
  · rw [if_neg (by rw [h1]; decide), if_neg (by rw [h2]; decide), if_pos h3] at h; cases h
  rw [Bool.and_eq_true, decide_eq_true_eq] at h2
  exact ⟨rfl, h2.1, h2.2, rfl⟩
theorem lay_bd {p k g D K C : Int} (h : layB p k g D K C = true) : 1 ≤ D ∧ D ≤ 1500 ∧ 1 ≤ K ∧ K ≤ 64 ∧ 1 ≤ C ∧ C ≤ 16 := by
  rw [layB, Bool.and_eq_true, decide_eq_true_eq] at h
  omega
theorem lo_nice {bs : List Int} {κ p k g : Int} {zs : List Int} {C : Int} {ls : List Int} {z lv : Int} (h : loCode bs κ p k g zs C ls z lv = 0) :
    ∃ (q : Nat) (mul : Nat → Nat → Nat) (W : Nat) (D K Cn : Int), Kd p k g q mul ∧ wdt q = W ∧ lyD κ p k C z ls lv = D ∧ lyK κ p k C z ls lv = K ∧ lyC κ p k C z = Cn ∧ 1 ≤ W ∧ W ≤ 9 ∧ (1 ≤ D ∧ D ≤ 1500) ∧ (1 ≤ K ∧ K ≤ 64) ∧ qN p k = q := by
  obtain ⟨h1, h2, h3, h4⟩ := lo_zero h
  have hFI := fm_is h1
  obtain ⟨q, mul, _, hK, _⟩ := fieldB_open hFI.fld
  obtain ⟨w1, w9, _, _⟩ := wdt_is hK.big.1 hK.big.2
  have hb := lay_bd h4
  exact ⟨q, mul, _, _, _, _, hK, rfl, rfl, rfl, rfl, w1, w9, ⟨hb.1, hb.2.1⟩, ⟨hb.2.2.1, hb.2.2.2.1⟩, qN_is hK⟩
theorem roV_good {bs : List Int} {κ p k g : Int} {zs : List Int} {C : Int} {ls : List Int} {z lv : Int} (h : loCode bs κ p k g zs C ls z lv = 0) :
    ∃ (q : Nat) (mul : Nat → Nat → Nat) (W : Nat) (D K Cn : Int), Kd p k g q mul ∧ wdt q = W ∧ lyD κ p k C z ls lv = D ∧ lyK κ p k C z ls lv = K ∧ lyC κ p k C z = Cn ∧ 1 ≤ W ∧ W ≤ 9 ∧ (1 ≤ D ∧ D ≤ 1500) ∧ (1 ≤ K ∧ K ≤ 64) ∧ roV bs κ p k g zs C ls z lv = D * (W : Nat) := by
  obtain ⟨q, mul, W, D, K, Cn, a1, a2, a3, a4, a5, a6, a7, a8, a9, a10⟩ := lo_nice h
  exact ⟨q, mul, W, D, K, Cn, a1, a2, a3, a4, a5, a6, a7, a8, a9, by unfold roV; rw [if_pos h, a3, a10, a2]⟩
theorem erV_good {bs : List Int} {κ p k g : Int} {zs : List Int} {C : Int} {ls : List Int} {z lv : Int} (h : loCode bs κ p k g zs C ls z lv = 0) :
    ∃ (q : Nat) (mul : Nat → Nat → Nat) (W : Nat) (D K Cn : Int), Kd p k g q mul ∧ wdt q = W ∧ lyD κ p k C z ls lv = D ∧ lyK κ p k C z ls lv = K ∧ lyC κ p k C z = Cn ∧ 1 ≤ W ∧ W ≤ 9 ∧ (1 ≤ D ∧ D ≤ 1500) ∧ (1 ≤ K ∧ K ≤ 64) ∧ erV bs κ p k g zs C ls z lv = ((K.toNat / 2 : Nat) : Int) := by
  obtain ⟨q, mul, W, D, K, Cn, a1, a2, a3, a4, a5, a6, a7, a8, a9, a10⟩ := lo_nice h
  exact ⟨q, mul, W, D, K, Cn, a1, a2, a3, a4, a5, a6, a7, a8, a9, by unfold erV; rw [if_pos h, a4]⟩
theorem mul_small {D Y : Int} (hD : 1 ≤ D ∧ D ≤ 1500) (hY : 1 ≤ Y ∧ Y ≤ 9) : -1000000 ≤ D * Y ∧ D * Y ≤ 1000000 := by
  obtain ⟨a, rfl⟩ : ∃ a : Nat, D = a := ⟨D.toNat, by omega⟩
  obtain ⟨b, rfl⟩ : ∃ b : Nat, Y = b := ⟨Y.toNat, by omega⟩
  have h : a * b ≤ 1500 * 9 := Nat.mul_le_mul (by omega) (by omega)
  rw [← Int.natCast_mul]
  omega

-- BOTH
theorem bothFLayoutOf (s : ByteArray) (κ p k g C : Int) (zs ls : List Int) (z lv : Int) (hs : s.size ≤ 1099511627776) (hz : zs.length ≤ 1048576) (hl : ls.length ≤ 1048576) : ∃ (v0 v1 v2 v3 v4 v5 cd : Int),
    (∀ (A : Option Addr) (n c : Nat) (A' : Option Addr) (n' c' : Nat) (w : World), Ints .i64 w w.heap.size A n zs → Ints .i64 w w.heap.size A' n' ls → Calls Tryz.prog 28 #[.agg #[.string s, .int .i64 κ, .int .i64 p, .int .i64 k, .int .i64 g, .slice A n c, .int .i64 C, .slice A' n' c'], .int .i64 z, .int .i64 lv] w (Gives (.tuple #[.agg #[.int .i64 v0, .int .i64 v1, .int .i64 v2, .int .i64 v3, .int .i64 v4, .int .i64 v5], .int .i64 cd]) w)) ∧
    (∀ (A : Option Addr) (n c : Nat) (A' : Option Addr) (n' c' : Nat) (w : World), Ints .i64 w w.heap.size A n zs → Ints .i64 w w.heap.size A' n' ls → Calls Tryz.prog 10 #[.agg #[.string s, .int .i64 κ, .int .i64 p, .int .i64 k, .int .i64 g, .slice A n c, .int .i64 C, .slice A' n' c'], .int .i64 z, .int .i64 lv] w (Gives (.tuple #[.agg #[.int .i64 v0, .int .i64 v1, .int .i64 v2, .int .i64 v3, .int .i64 v4, .int .i64 v5], .int .i64 cd]) w)) := by
  by_cases h : loCode (bytesI s) κ p k g zs C ls z lv = 0
  · refine ⟨p, k, g, lyD κ p k C z ls lv, lyK κ p k C z ls lv, lyC κ p k C z, 0, fun A n c A' n' c' w hI hJ => ?_, fun A n c A' n' c' w hI hJ => ?_⟩
    · exact (specLayOf s κ p k g A n c C A' n' c' w.heap.size zs ls z lv w hs hI hJ (Nat.le_refl _) (by rw [← hI.len]; omega) (by rw [← hJ.len]; omega)).mono fun x w' hg => ⟨hg.1 h, hg.2.2⟩
    · exact (implLayOf s κ p k g A n c C A' n' c' w.heap.size zs ls z lv w hs hI hJ (Nat.le_refl _) (by rw [← hI.len]; omega) (by rw [← hJ.len]; omega)).mono fun x w' hg => ⟨hg.1 h, hg.2.2⟩
  · refine ⟨0, 0, 0, 0, 0, 0, loCode (bytesI s) κ p k g zs C ls z lv, fun A n c A' n' c' w hI hJ => ?_, fun A n c A' n' c' w hI hJ => ?_⟩
    · exact (specLayOf s κ p k g A n c C A' n' c' w.heap.size zs ls z lv w hs hI hJ (Nat.le_refl _) (by rw [← hI.len]; omega) (by rw [← hJ.len]; omega)).mono fun x w' hg => ⟨hg.2.1 h, hg.2.2⟩
    · exact (implLayOf s κ p k g A n c C A' n' c' w.heap.size zs ls z lv w hs hI hJ (Nat.le_refl _) (by rw [← hI.len]; omega) (by rw [← hJ.len]; omega)).mono fun x w' hg => ⟨hg.2.1 h, hg.2.2⟩
end Go.Proofs.YtncgeoliboidhaaGreat
