/-
  The modes as the program keeps them, values behind an interface: which one a number names, and their methods.
  Condition: as each statement says.
-/
import Derived.Test.YthbmfaogjaahoaaProg
import Derived.Test.YthbmfaogjaahoaaSgMath
import Derived.Test.YthbmfaogjaahoaaBox
import Derived.Test.YthbmfaogjaahoaaSpecIn
import Derived.Laws.RangeString
import Derived.LoopTactic
import Derived.Deep.QuietTactic
import Derived.BigQuiet
namespace Go.Proofs.Ythbmfaogjaahoaa
open Go.RowKit
set_option linter.unusedSimpArgs false
set_option linter.unusedVariables false

def stD : ByteArray := { data := #[48, 49, 50, 51, 52, 53, 54, 55, 56, 57] }
def stT : ByteArray := { data := #[48, 49, 50, 51, 52, 53, 54, 55, 56, 57, 65, 66, 67, 68, 69, 70, 71, 72, 73, 74, 75, 76, 77, 78, 79, 80, 81, 82, 83, 84, 85, 86, 87, 88, 89, 90, 32, 33, 35, 38, 40, 41, 43, 45, 47] }
def stL : ByteArray := { data := #[97, 98, 99, 100, 101, 102, 103, 104, 105, 106, 107, 108, 109, 110, 111, 112, 113, 114, 115, 116, 117, 118, 119, 120, 121, 122, 32, 10, 44, 46, 39, 63] }
/-- The characters of a mode as a string. -/
def stS (m : Int) : ByteArray := if m = 1 then stD else if m = 2 then stT else if m = 3 then stL else ByteArray.empty
theorem stS_chars {m : Int} (hm : m = 1 ∨ m = 2 ∨ m = 3) : bytesI (stS m) = chL m := by rcases hm with rfl | rfl | rfl <;> decide
theorem stS_size {m : Int} (hm : m = 1 ∨ m = 2 ∨ m = 3) : (stS m).size = gbase m := by rw [← bytesI_len, stS_chars hm, ch_len hm]
/-- A mode as the program keeps it. -/
def AV (m : Int) : Value := .agg #[.string (stS m), .int .i64 (gsz m : Nat)]
def MV (m : Int) : Value := if m = 4 then .iface 172 (.agg #[]) else .iface 170 (AV m)
theorem MV_a {m : Int} (hm : m = 1 ∨ m = 2 ∨ m = 3) : MV m = .iface 170 (.agg #[.string (stS m), .int .i64 (gsz m : Nat)]) := by rw [MV, if_neg (by omega)]; rfl
theorem MV_b : MV 4 = .iface 172 (.agg #[]) := rfl

theorem implModeOf (m : Int) (hm : 1 ≤ m ∧ m ≤ 4) (w : World) :
    Calls Try.prog 113 #[.int .i64 m] w fun e w' => e = .returned (.tuple #[MV m, .bool true]) ∧ w' = w := by
  have hh : m = 1 ∨ m = 2 ∨ m = 3 ∨ m = 4 := by omega
  rcases hh with rfl | rfl | rfl | rfl
  all_goals
    go_enter Try.func113, Try.ntmps113
    go_wp2_with fail
    go_ret2
    exact ⟨rfl, rfl⟩
theorem implModeOf_no (m : Int) (hm : m < 1 ∨ 4 < m) (w : World) :
    Calls Try.prog 113 #[.int .i64 m] w fun e w' => e = .returned (.tuple #[.nilIface, .bool false]) ∧ w' = w := by
  have h1 : (m == 1) = false := by simpa using (by omega : m ≠ 1)
  have h2 : (m == 2) = false := by simpa using (by omega : m ≠ 2)
  have h3 : (m == 3) = false := by simpa using (by omega : m ≠ 3)
  have h4 : (m == 4) = false := by simpa using (by omega : m ≠ 4)
  clear hm
  go_enter Try.func113, Try.ntmps113
  go_wp2_with fail
  go_ret2
  exact ⟨rfl, rfl⟩

theorem implCountB (w : World) :
    Calls Try.prog 154 #[.agg #[]] w (Gives (.int .i64 256) w) := by
  go_enter Try.func154, Try.ntmps154
  go_wp2_with fail
  go_ret
  exact ⟨rfl, (Below.refl _ _).alloc (Nat.le_refl _) _⟩
theorem ascii_next (s : ByteArray) (hs : ∀ x ∈ bytesI s, 0 ≤ x ∧ x ≤ 127) {pos : Nat} (h : pos < s.size) : (s[pos]'h).toNat < 128 ∧ ∃ x : Int, (bytesI s)[pos]? = some x ∧ ((s[pos]'h).toNat : Int) = x := by
  obtain ⟨y, h1, h2, _, _⟩ := byteAt s h
  have := hs y (List.mem_of_getElem? h2)
  exact ⟨by omega, y, h2, h1⟩

set_option maxRecDepth 100000 in
set_option maxHeartbeats 1000000 in
theorem implValueA (s : ByteArray) (z b : Int) (hs : ∀ x ∈ bytesI s, 0 ≤ x ∧ x ≤ 127) (hsz : s.size ≤ 256) (w : World) :
    Calls Try.prog 152 #[.agg #[.string s, .int .i64 z], .int .i64 b] w (Gives (.int .i64 (posOf (bytesI s) b 0)) w) := by
  have HS := hide hs
  clear hs
  go_enter Try.func152, Try.ntmps152
  go_wp2_with fail
  obtain ⟨w0, hw0⟩ : ∃ w0, w0 = w.alloc (.cells #[.string s, .int .i64 z] 170) := ⟨_, rfl⟩
  rw [← hw0]
  have HB0 := hide (show Below w.heap.size w w0 by rw [hw0]; exact (Below.refl _ _).alloc (Nat.le_refl _) _)
  have hz0 := hide (show w.heap.size ≤ w0.heap.size by rw [hw0, alloc_size]; omega)
  have hwn : w0.heap.size = w.heap.size + 1 := by rw [hw0, alloc_size]
  clear hw0
  go_loopw [5] (fun u wr => ∃ k : Nat, wr = w0.iter s k ∧ Hid (posOf ((bytesI s).drop k) b k = posOf (bytesI s) b 0)) (fun _ wr => s.size - wr.iterPos w0.heap.size)
  case atStart => exact ⟨0, rfl, rfl⟩
  case round =>
    obtain ⟨k, rfl, hp⟩ := hrel
    by_cases hlt : k < s.size
    · obtain ⟨ha, y, hy2, hy⟩ := ascii_next s HS.out hlt
      have hnx : ∀ ty, (Instr.next (.pointer (some ⟨w.heap.size + 1, 0, none⟩)) true ty).run Try.prog (w0.iter s k) = .ok (.tuple #[.bool true, .int .i64 k, .int .i32 y]) (w0.iter s (k + 1)) := fun ty => by rw [← hy, ← hwn]; exact run_next_ascii w0 s k ty hlt ha
      have hST := pos_step (b := b) hy2
      have hyr := HS.out y (List.mem_of_getElem? hy2)
      clear ha hy hy2
      by_cases hyb : y = b
      · rw [if_pos hyb] at hST
        have HE := hide (hp.out.symm.trans hST)
        have e5 : (y == b) = true := by simpa using hyb
        clear hST hyb hp
        go_wp2_with fail
        go_ret
        exact ⟨ret_int HE.out, HB0.out.trans (((Below.refl _ _).alloc (Nat.le_refl _) _).mono hz0.out)⟩
      · rw [if_neg hyb] at hST
        have HE := hide (hST.symm.trans hp.out)
        have e5 : (y == b) = false := by simpa using hyb
        clear hST hyb hp
        go_wp2_with fail
        go_roundw
        case rel => exact ⟨k + 1, rfl, HE⟩
        case measure => simp; omega
    · have HE := hide (hp.out.symm.trans (pos_end (by rw [bytesI_len]; omega)))
      have hnx : ∀ ty, (Instr.next (.pointer (some ⟨w.heap.size + 1, 0, none⟩)) true ty).run Try.prog (w0.iter s k) = .ok (.tuple #[.bool false]) (w0.iter s k) := fun ty => by rw [← hwn]; exact run_next_end w0 s k ty hlt
      clear hp
      go_wp2_with fail
      go_ret
      exact ⟨ret_int HE.out, HB0.out.trans (((Below.refl _ _).alloc (Nat.le_refl _) _).mono hz0.out)⟩
end Go.Proofs.Ythbmfaogjaahoaa
