/-
  The narrowest mode of a text: the program and the model.
  Condition: the text is shorter than 2^40.
-/
import Derived.Test.YtdccofbfdlebgaaSg5
namespace Go.Proofs.Ytdccofbfdlebgaa
open Go.RowKit
set_option linter.unusedSimpArgs false
set_option linter.unusedVariables false

/-- The three modes that are looked at lie in a block. -/
def NRow (w wr : World) : Prop := wr.heap[w.heap.size]? = some (.cells #[.int .i64 1, .int .i64 3, .int .i64 2] 2 (0, 0)) ∧ Below w.heap.size w wr
theorem NRow.cells {w wr : World} (h : NRow w wr) : wr.cell? ⟨w.heap.size, 0, none⟩ = some (.int .i64 1) ∧ wr.cell? ⟨w.heap.size, 1, none⟩ = some (.int .i64 3) ∧ wr.cell? ⟨w.heap.size, 2, none⟩ = some (.int .i64 2) := cells3 h.1
theorem NRow.next {w wr wr' : World} (h : NRow w wr) (hb : Below wr.heap.size wr wr') : NRow w wr' := by
  have hlt := (Array.getElem?_eq_some_iff.1 h.1).1
  exact ⟨by rw [hb.block _ hlt]; exact h.1, h.2.trans (hb.mono (Nat.le_of_lt hlt))⟩
/-- What the rounds have found. -/
def narAt (bs : List Int) (k : Nat) : Prop := (1 ≤ k → allV 1 bs = false) ∧ (2 ≤ k → allV 3 bs = false) ∧ (3 ≤ k → allV 2 bs = false)

set_option maxRecDepth 100000 in
set_option maxHeartbeats 2000000 in
theorem implNarrow (s : ByteArray) (hs : s.size ≤ 1099511627776) (w : World) :
    Calls Try.prog 76 #[.string s] w (Gives (.int .i64 (narrow (bytesI s))) w) := by
  go_enter Try.func76, Try.ntmps76
  go_wp2_with fail
  obtain ⟨w0, hw0⟩ : ∃ w0, w0 = w.alloc (.cells #[.int .i64 1, .int .i64 3, .int .i64 2] 2) := ⟨_, rfl⟩
  rw [← hw0]
  have HR0 := hide (show NRow w w0 by rw [hw0]; exact ⟨heap_alloc_new w _, (Below.refl _ _).alloc (Nat.le_refl _) _⟩)
  clear hw0
  go_loopw [9] (fun i wr => ∃ k : Nat, k ≤ 3 ∧ i = .int .i64 k ∧ NRow w wr ∧ Hid (narAt (bytesI s) k)) (fun i _ => 3 - (intOf i).toNat)
  case atStart => exact ⟨0, by omega, rfl, HR0.out, ⟨(fun h => absurd h (by omega)), (fun h => absurd h (by omega)), (fun h => absurd h (by omega))⟩⟩
  case round =>
    clear HR0
    obtain ⟨k, hk, rfl, hr, hp⟩ := hrel
    have HR := hide hr
    clear hr
    obtain ⟨c0, c1, c2⟩ := HR.out.cells
    have h4 : k = 0 ∨ k = 1 ∨ k = 2 ∨ k = 3 := by omega
    rcases h4 with rfl | rfl | rfl | rfl
    · go_wp2_with fail
      refine (implModeOf 1 (by omega) _).mono ?_
      rintro e _ ⟨rfl, rfl⟩
      obtain ⟨M, hM⟩ : ∃ M, MV 1 = M := ⟨_, rfl⟩
      have HH := hide (implHas 1 (by omega) s hs)
      rw [hM] at HH ⊢
      clear hM
      go_wp2_with fail
      refine (HH.out _).mono ?_
      rintro e w1 ⟨rfl, hb1⟩
      have HR1 := hide (HR.out.next hb1)
      clear hb1 c0 c1 c2
      rcases hv : allV 1 (bytesI s) with _ | _
      · have HF := hide hv
        clear hv
        go_wp2_with fail
        go_roundw
        case rel => exact ⟨1, by omega, by go_num, HR1.out, ⟨(fun _ => HF.out), (fun h => absurd h (by omega)), (fun h => absurd h (by omega))⟩⟩
        case measure => simp [intOf]
      · have HE := hide (show narrow (bytesI s) = 1 by simp [narrow, hv ])
        clear hv
        go_wp2_with fail
        go_ret
        exact ⟨ret_int HE.out, HR1.out.2⟩
    · go_wp2_with fail
      refine (implModeOf 3 (by omega) _).mono ?_
      rintro e _ ⟨rfl, rfl⟩
      obtain ⟨M, hM⟩ : ∃ M, MV 3 = M := ⟨_, rfl⟩
      have HH := hide (implHas 3 (by omega) s hs)
      rw [hM] at HH ⊢
      clear hM
      go_wp2_with fail
      refine (HH.out _).mono ?_
      rintro e w1 ⟨rfl, hb1⟩
      have HR1 := hide (HR.out.next hb1)
      clear hb1 c0 c1 c2
      rcases hv : allV 3 (bytesI s) with _ | _
      · have HF := hide hv
        clear hv
        go_wp2_with fail
        go_roundw
        case rel => exact ⟨2, by omega, by go_num, HR1.out, ⟨(fun _ => hp.out.1 (by omega)), (fun _ => HF.out), (fun h => absurd h (by omega))⟩⟩
        case measure => simp [intOf]
      · have HE := hide (show narrow (bytesI s) = 3 by simp [narrow, hv, hp.out.1 (by omega)])
        clear hv
        go_wp2_with fail
        go_ret
        exact ⟨ret_int HE.out, HR1.out.2⟩
    · go_wp2_with fail
      refine (implModeOf 2 (by omega) _).mono ?_
      rintro e _ ⟨rfl, rfl⟩
      obtain ⟨M, hM⟩ : ∃ M, MV 2 = M := ⟨_, rfl⟩
      have HH := hide (implHas 2 (by omega) s hs)
      rw [hM] at HH ⊢
      clear hM
      go_wp2_with fail
      refine (HH.out _).mono ?_
      rintro e w1 ⟨rfl, hb1⟩
      have HR1 := hide (HR.out.next hb1)
      clear hb1 c0 c1 c2
      rcases hv : allV 2 (bytesI s) with _ | _
      · have HF := hide hv
        clear hv
        go_wp2_with fail
        go_roundw
        case rel => exact ⟨3, by omega, by go_num, HR1.out, ⟨(fun _ => hp.out.1 (by omega)), (fun _ => hp.out.2.1 (by omega)), (fun _ => HF.out)⟩⟩
        case measure => simp [intOf]
      · have HE := hide (show narrow (bytesI s) = 2 by simp [narrow, hv, hp.out.1 (by omega), hp.out.2.1 (by omega)])
        clear hv
        go_wp2_with fail
        go_ret
        exact ⟨ret_int HE.out, HR1.out.2⟩
    · have HE := hide (show narrow (bytesI s) = 4 by simp [narrow, hp.out.1 (by omega), hp.out.2.1 (by omega), hp.out.2.2 (by omega)])
      go_wp2_with fail
      go_ret
      exact ⟨ret_int HE.out, HR.out.2⟩

set_option maxRecDepth 100000 in
set_option maxHeartbeats 2000000 in
theorem specNarrow (s : ByteArray) (hs : s.size ≤ 1099511627776) (w : World) :
    Calls Try.prog 74 #[.string s] w (Gives (.int .i64 (narrow (bytesI s))) w) := by
  go_enter Try.func74, Try.ntmps74
  go_wp2_with fail
  obtain ⟨w0, hw0⟩ : ∃ w0, w0 = w.alloc (.cells #[.int .i64 1, .int .i64 3, .int .i64 2] 2) := ⟨_, rfl⟩
  rw [← hw0]
  have HR0 := hide (show NRow w w0 by rw [hw0]; exact ⟨heap_alloc_new w _, (Below.refl _ _).alloc (Nat.le_refl _) _⟩)
  clear hw0
  go_loopw [7] (fun i wr => ∃ k : Nat, k ≤ 3 ∧ i = .int .i64 k ∧ NRow w wr ∧ Hid (narAt (bytesI s) k)) (fun i _ => 3 - (intOf i).toNat)
  case atStart => exact ⟨0, by omega, rfl, HR0.out, ⟨(fun h => absurd h (by omega)), (fun h => absurd h (by omega)), (fun h => absurd h (by omega))⟩⟩
  case round =>
    clear HR0
    obtain ⟨k, hk, rfl, hr, hp⟩ := hrel
    have HR := hide hr
    clear hr
    obtain ⟨c0, c1, c2⟩ := HR.out.cells
    have h4 : k = 0 ∨ k = 1 ∨ k = 2 ∨ k = 3 := by omega
    rcases h4 with rfl | rfl | rfl | rfl
    · go_wp2_with fail
      refine (specAll 1 s hs _).mono ?_
      rintro e w1 ⟨rfl, hw1⟩
      have HR1 := hide (show NRow w w1 by rw [hw1]; exact HR.out)
      clear hw1 c0 c1 c2
      rcases hv : allV 1 (bytesI s) with _ | _
      · have HF := hide hv
        clear hv
        go_wp2_with fail
        go_roundw
        case rel => exact ⟨1, by omega, by go_num, HR1.out, ⟨(fun _ => HF.out), (fun h => absurd h (by omega)), (fun h => absurd h (by omega))⟩⟩
        case measure => simp [intOf]
      · have HE := hide (show narrow (bytesI s) = 1 by simp [narrow, hv ])
        clear hv
        go_wp2_with fail
        go_ret
        exact ⟨ret_int HE.out, HR1.out.2⟩
    · go_wp2_with fail
      refine (specAll 3 s hs _).mono ?_
      rintro e w1 ⟨rfl, hw1⟩
      have HR1 := hide (show NRow w w1 by rw [hw1]; exact HR.out)
      clear hw1 c0 c1 c2
      rcases hv : allV 3 (bytesI s) with _ | _
      · have HF := hide hv
        clear hv
        go_wp2_with fail
        go_roundw
        case rel => exact ⟨2, by omega, by go_num, HR1.out, ⟨(fun _ => hp.out.1 (by omega)), (fun _ => HF.out), (fun h => absurd h (by omega))⟩⟩
        case measure => simp [intOf]
      · have HE := hide (show narrow (bytesI s) = 3 by simp [narrow, hv, hp.out.1 (by omega)])
        clear hv
        go_wp2_with fail
        go_ret
        exact ⟨ret_int HE.out, HR1.out.2⟩
    · go_wp2_with fail
      refine (specAll 2 s hs _).mono ?_
      rintro e w1 ⟨rfl, hw1⟩
      have HR1 := hide (show NRow w w1 by rw [hw1]; exact HR.out)
      clear hw1 c0 c1 c2
      rcases hv : allV 2 (bytesI s) with _ | _
      · have HF := hide hv
        clear hv
        go_wp2_with fail
        go_roundw
        case rel => exact ⟨3, by omega, by go_num, HR1.out, ⟨(fun _ => hp.out.1 (by omega)), (fun _ => hp.out.2.1 (by omega)), (fun _ => HF.out)⟩⟩
        case measure => simp [intOf]
      · have HE := hide (show narrow (bytesI s) = 2 by simp [narrow, hv, hp.out.1 (by omega), hp.out.2.1 (by omega)])
        clear hv
        go_wp2_with fail
        go_ret
        exact ⟨ret_int HE.out, HR1.out.2⟩
    · have HE := hide (show narrow (bytesI s) = 4 by simp [narrow, hp.out.1 (by omega), hp.out.2.1 (by omega), hp.out.2.2 (by omega)])
      go_wp2_with fail
      go_ret
      exact ⟨ret_int HE.out, HR.out.2⟩
end Go.Proofs.Ytdccofbfdlebgaa
