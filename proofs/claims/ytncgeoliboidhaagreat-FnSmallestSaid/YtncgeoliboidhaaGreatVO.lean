/-
  The modes as the program keeps them, values behind an interface: which one a number names, and their methods.
  The model's functions of segments: the characters and values of the modes, which segments are valid, the widths and lengths.
  Calls of a mode's methods through the interface: the values of bytes, and whether all bytes of a text have one.
  Whether all bytes of a text have a value in a mode.
  Which segments are valid: the program and the model; the narrowest mode of a text.
  How many characters a mode with an alphabet has; the sizes of groups, by the modes' methods.
  Widths of groups and texts as the program reckons them: the number of different groups, the bits that it wants, the bits of a text.
  Condition: as each statement says.
-/
import Derived.Test.YtncgeoliboidhaaGreatProg
import Derived.Test.YtncgeoliboidhaaGreatVN
import Derived.Test.YtncgeoliboidhaaGreatVA
import Derived.Test.YtncgeoliboidhaaGreatVC
import Derived.Laws.RangeString
import Derived.LoopTactic
import Derived.Deep.QuietTactic
import Derived.BigQuiet
import Derived.Deep.RegionHeld3
namespace Go.Proofs.YtncgeoliboidhaaGreat
open Go.RowKit
set_option linter.unusedSimpArgs false
set_option linter.unusedVariables false

def stD : ByteArray := { data := #[48, 49, 50, 51, 52, 53, 54, 55, 56, 57] }
def stT : ByteArray := { data := #[48, 49, 50, 51, 52, 53, 54, 55, 56, 57, 65, 66, 67, 68, 69, 70, 71, 72, 73, 74, 75, 76, 77, 78, 79, 80, 81, 82, 83, 84, 85, 86, 87, 88, 89, 90, 32, 33, 35, 38, 40, 41, 43, 45, 47] }
def stL : ByteArray := { data := #[97, 98, 99, 100, 101, 102, 103, 104, 105, 106, 107, 108, 109, 110, 111, 112, 113, 114, 115, 116, 117, 118, 119, 120, 121, 122, 32, 10, 44, 46, 39, 63] }
/-- The characters of a mode as a string. -/
def stS (m : Int) : ByteArray := if m = 1 then stD else if m = 2 then stT else if m = 3 then stL else ByteArray.empty
theorem stS_chars {m : Int} (hm : m = 1 ∨ m = 2 ∨ m = 3) : bytesI (stS m) = chL m := by rcases hm with rfl | rfl | rfl <;> decide
theorem stS_size {m : Int} (hm : m = 1 ∨ m = 2 ∨ m = 3) : (stS m).size = gbase m := by rw [← bytesI_len, stS_chars hm, ch_len hm]
/-- A mode as the program keeps it. -/
def AV (m : Int) : Value := .agg #[.string (stS m), .int .i64 (gsz m : Nat)]
def MV (m : Int) : Value := if m = 4 then .iface 187 (.agg #[]) else .iface 185 (AV m)
theorem MV_a {m : Int} (hm : m = 1 ∨ m = 2 ∨ m = 3) : MV m = .iface 185 (.agg #[.string (stS m), .int .i64 (gsz m : Nat)]) := by rw [MV, if_neg (by omega)]; rfl
theorem MV_b : MV 4 = .iface 187 (.agg #[]) := rfl

theorem implModeOf (m : Int) (hm : 1 ≤ m ∧ m ≤ 4) (w : World) :
    Calls Tryz.prog 141 #[.int .i64 m] w fun e w' => e = .returned (.tuple #[MV m, .bool true]) ∧ w' = w := by
  have hh : m = 1 ∨ m = 2 ∨ m = 3 ∨ m = 4 := by omega
  rcases hh with rfl | rfl | rfl | rfl
  all_goals
    go_enter Tryz.func141, Tryz.ntmps141
    go_wp2_with fail
    go_ret2
    exact ⟨rfl, rfl⟩
theorem implModeOf_no (m : Int) (hm : m < 1 ∨ 4 < m) (w : World) :
    Calls Tryz.prog 141 #[.int .i64 m] w fun e w' => e = .returned (.tuple #[.nilIface, .bool false]) ∧ w' = w := by
  have h1 : (m == 1) = false := by simpa using (by omega : m ≠ 1)
  have h2 : (m == 2) = false := by simpa using (by omega : m ≠ 2)
  have h3 : (m == 3) = false := by simpa using (by omega : m ≠ 3)
  have h4 : (m == 4) = false := by simpa using (by omega : m ≠ 4)
  clear hm
  go_enter Tryz.func141, Tryz.ntmps141
  go_wp2_with fail
  go_ret2
  exact ⟨rfl, rfl⟩

theorem implCountB (w : World) :
    Calls Tryz.prog 184 #[.agg #[]] w (Gives (.int .i64 256) w) := by
  go_enter Tryz.func184, Tryz.ntmps184
  go_wp2_with fail
  go_ret
  exact ⟨rfl, (Below.refl _ _).alloc (Nat.le_refl _) _⟩
theorem ascii_next (s : ByteArray) (hs : ∀ x ∈ bytesI s, 0 ≤ x ∧ x ≤ 127) {pos : Nat} (h : pos < s.size) : (s[pos]'h).toNat < 128 ∧ ∃ x : Int, (bytesI s)[pos]? = some x ∧ ((s[pos]'h).toNat : Int) = x := by
  obtain ⟨y, h1, h2, _, _⟩ := byteAt s h
  have := hs y (List.mem_of_getElem? h2)
  exact ⟨by omega, y, h2, h1⟩

set_option maxRecDepth 100000 in
set_option maxHeartbeats 1000000 in
theorem implValueA (s : ByteArray) (z b : Int) (hs : ∀ x ∈ bytesI s, 0 ≤ x ∧ x ≤ 127) (hsz : s.size ≤ 256) (w : World) :
    Calls Tryz.prog 182 #[.agg #[.string s, .int .i64 z], .int .i64 b] w (Gives (.int .i64 (posOf (bytesI s) b 0)) w) := by
  have HS := hide hs
  clear hs
  go_enter Tryz.func182, Tryz.ntmps182
  go_wp2_with fail
  obtain ⟨w0, hw0⟩ : ∃ w0, w0 = w.alloc (.cells #[.string s, .int .i64 z] 185) := ⟨_, rfl⟩
  rw [← hw0]
  have HB0 := hide (show Below w.heap.size w w0 by rw [hw0]; exact (Below.refl _ _).alloc (Nat.le_refl _) _)
  have hz0 := hide (show w.heap.size ≤ w0.heap.size by rw [hw0, alloc_size]; omega)
  have hwn : w0.heap.size = w.heap.size + 1 := by rw [hw0, alloc_size]
  clear hw0
  go_loopw [5] (fun u wr => ∃ k : Nat, wr = w0.iter s k ∧ Hid (posOf ((bytesI s).drop k) b k = posOf (bytesI s) b 0)) (fun _ wr => s.size - wr.iterPos w0.heap.size)
  case atStart => exact ⟨0, rfl, rfl⟩
  case round =>
    obtain ⟨k, rfl, hp⟩ := hrel
    by_cases hlt : k < s.size
    · obtain ⟨ha, y, hy2, hy⟩ := ascii_next s HS.out hlt
      have hnx : ∀ ty, (Instr.next (.pointer (some ⟨w.heap.size + 1, 0, none⟩)) true ty).run Tryz.prog (w0.iter s k) = .ok (.tuple #[.bool true, .int .i64 k, .int .i32 y]) (w0.iter s (k + 1)) := fun ty => by rw [← hy, ← hwn]; exact run_next_ascii w0 s k ty hlt ha
      have hST := pos_step (b := b) hy2
      have hyr := HS.out y (List.mem_of_getElem? hy2)
      clear ha hy hy2
      by_cases hyb : y = b
      · rw [if_pos hyb] at hST
        have HE := hide (hp.out.symm.trans hST)
        have e5 : (y == b) = true := by simpa using hyb
        clear hST hyb hp
        go_wp2_with fail
        go_ret
        exact ⟨ret_int HE.out, HB0.out.trans (((Below.refl _ _).alloc (Nat.le_refl _) _).mono hz0.out)⟩
      · rw [if_neg hyb] at hST
        have HE := hide (hST.symm.trans hp.out)
        have e5 : (y == b) = false := by simpa using hyb
        clear hST hyb hp
        go_wp2_with fail
        go_roundw
        case rel => exact ⟨k + 1, rfl, HE⟩
        case measure => simp; omega
    · have HE := hide (hp.out.symm.trans (pos_end (by rw [bytesI_len]; omega)))
      have hnx : ∀ ty, (Instr.next (.pointer (some ⟨w.heap.size + 1, 0, none⟩)) true ty).run Tryz.prog (w0.iter s k) = .ok (.tuple #[.bool false]) (w0.iter s k) := fun ty => by rw [← hwn]; exact run_next_end w0 s k ty hlt
      clear hp
      go_wp2_with fail
      go_ret
      exact ⟨ret_int HE.out, HB0.out.trans (((Below.refl _ _).alloc (Nat.le_refl _) _).mono hz0.out)⟩
end Go.Proofs.YtncgeoliboidhaaGreat

namespace Go.Proofs.YtncgeoliboidhaaGreat
open Go.RowKit
set_option linter.unusedSimpArgs false
set_option linter.unusedVariables false

theorem specSet (m : Int) (w : World) : Calls Tryz.prog 104 #[.int .i64 m] w fun e w' => e = .returned (.string (stS m)) ∧ w' = w := by
  by_cases h1 : m = 1
  · subst h1
    go_enter Tryz.func104, Tryz.ntmps104
    go_wp2_with fail
    go_ret
    exact ⟨rfl, rfl⟩
  · by_cases h2 : m = 2
    · subst h2
      go_enter Tryz.func104, Tryz.ntmps104
      go_wp2_with fail
      go_ret
      exact ⟨rfl, rfl⟩
    · by_cases h3 : m = 3
      · subst h3
        go_enter Tryz.func104, Tryz.ntmps104
        go_wp2_with fail
        go_ret
        exact ⟨rfl, rfl⟩
      · have e1 : (m == 1) = false := by simpa using h1
        have e2 : (m == 2) = false := by simpa using h2
        have e3 : (m == 3) = false := by simpa using h3
        have hs : stS m = { data := #[] } := by unfold stS; rw [if_neg h1, if_neg h2, if_neg h3]; rfl
        have HS := hide hs
        clear h1 h2 h3 hs
        go_enter Tryz.func104, Tryz.ntmps104
        go_wp2_with fail
        go_ret
        exact ⟨by rw [HS.out]; rfl, rfl⟩

set_option maxRecDepth 100000 in
set_option maxHeartbeats 1000000 in
theorem specValue (m b : Int) (w : World) :
    Calls Tryz.prog 137 #[.int .i64 m, .int .i64 b] w fun e w' => e = .returned (.int .i64 (cval m b)) ∧ w' = w := by
  by_cases hb : b < 0 ∨ 255 < b
  · have HV := hide (cval_out hb m)
    go_enter Tryz.func137, Tryz.ntmps137
    go_wp2_with fail
    refine (specIn_no b 0 255 _ hb).mono ?_
    rintro e _ ⟨rfl, rfl⟩
    clear hb
    go_wp2_with fail
    go_ret
    exact ⟨ret_int HV.out, rfl⟩
  · by_cases hm : m < 1 ∨ 4 < m
    · have HV := hide (cval_mode hm b)
      go_enter Tryz.func137, Tryz.ntmps137
      go_wp2_with fail
      refine (specIn_yes b 0 255 _ (by omega) (by omega)).mono ?_
      rintro e _ ⟨rfl, rfl⟩
      go_wp2_with fail
      refine (specIn_no m 1 4 _ hm).mono ?_
      rintro e _ ⟨rfl, rfl⟩
      clear hb hm
      go_wp2_with fail
      go_ret
      exact ⟨ret_int HV.out, rfl⟩
    · by_cases h4 : m = 4
      · subst h4
        have HV := hide (cval_byte (b := b) (by omega) (by omega))
        go_enter Tryz.func137, Tryz.ntmps137
        go_wp2_with fail
        refine (specIn_yes b 0 255 _ (by omega) (by omega)).mono ?_
        rintro e _ ⟨rfl, rfl⟩
        go_wp2_with fail
        refine (specIn_yes 4 1 4 _ (by omega) (by omega)).mono ?_
        rintro e _ ⟨rfl, rfl⟩
        clear hb hm
        go_wp2_with fail
        go_ret
        exact ⟨ret_int HV.out, rfl⟩
      · have hm3 : m = 1 ∨ m = 2 ∨ m = 3 := by omega
        have HV := hide (cval_pos (b := b) hm3)
        have HL := hide (stS_chars hm3)
        have hsz := stS_size hm3
        have hg : gbase m ≤ 256 := by rcases hm3 with rfl | rfl | rfl <;> decide
        rw [← hsz] at hg
        have e4 : (m == 4) = false := by simpa using h4
        go_enter Tryz.func137, Tryz.ntmps137
        go_wp2_with fail
        refine (specIn_yes b 0 255 _ (by omega) (by omega)).mono ?_
        rintro e _ ⟨rfl, rfl⟩
        go_wp2_with fail
        refine (specIn_yes m 1 4 _ (by omega) (by omega)).mono ?_
        rintro e _ ⟨rfl, rfl⟩
        clear hb hm h4 hm3 hsz
        go_wp2_with fail
        refine (specSet m _).mono ?_
        rintro e _ ⟨rfl, rfl⟩
        obtain ⟨s, hs⟩ : ∃ s, stS m = s := ⟨_, rfl⟩
        rw [hs] at HL hg ⊢
        clear e4 hs
        go_wp2_with fail
        go_loop [6] (fun i => ∃ k : Nat, k ≤ s.size ∧ i = .int .i64 k ∧ Hid (posOf ((bytesI s).drop k) b k = cval m b)) (fun i => s.size - (intOf i).toNat)
        case atStart => exact ⟨0, by omega, rfl, by rw [HV.out, ← HL.out]; rfl⟩
        case round =>
          obtain ⟨k, hk, rfl, hp⟩ := hrel
          by_cases hlt : k < s.size
          · obtain ⟨y, hy, hy2, hy0, hy1⟩ := byteAt s hlt
            have HY := hide hy2
            have hST := pos_step (b := b) hy2
            clear hy2
            by_cases hyb : y = b
            · rw [if_pos hyb] at hST
              have HE := hide (hp.out.symm.trans hST)
              have e5 : (y == b) = true := by simpa using hyb
              clear hST hyb hp
              go_wp2_with fail
              go_ret
              exact ⟨ret_int HE.out, rfl⟩
            · rw [if_neg hyb] at hST
              have HE := hide (hST.symm.trans hp.out)
              have e5 : (y == b) = false := by simpa using hyb
              clear hST hyb hp
              go_wp2_with fail
              go_round
              case rel => exact ⟨k + 1, by omega, by go_num, HE⟩
              case measure => simp [intOf]; omega
          · have HE := hide (hp.out.symm.trans (pos_end (by rw [bytesI_len]; omega)))
            clear hp
            go_wp2_with fail
            go_ret
            exact ⟨ret_int HE.out, rfl⟩

end Go.Proofs.YtncgeoliboidhaaGreat

namespace Go.Proofs.YtncgeoliboidhaaGreat
open Go.RowKit
set_option linter.unusedSimpArgs false
set_option linter.unusedVariables false

set_option maxRecDepth 100000 in
set_option maxHeartbeats 1000000 in
theorem implValueB (b : Int) (w : World) :
    Calls Tryz.prog 186 #[.agg #[], .int .i64 b] w (Gives (.int .i64 (cval 4 b)) w) := by
  by_cases hb : b < 0
  · have HV := hide (cval_out (.inl hb) 4)
    go_enter Tryz.func186, Tryz.ntmps186
    go_wp2_with fail
    go_ret
    exact ⟨ret_int HV.out, (Below.refl _ _).alloc (Nat.le_refl _) _⟩
  · by_cases hb2 : 256 ≤ b
    · have HV := hide (cval_out (b := b) (.inr (by omega)) 4)
      go_enter Tryz.func186, Tryz.ntmps186
      go_wp2_with fail
      obtain ⟨w0, hw0⟩ : ∃ w0, w0 = w.alloc (.cells #[] 187) := ⟨_, rfl⟩
      rw [← hw0]
      have HB0 := hide (show Below w.heap.size w w0 by rw [hw0]; exact (Below.refl _ _).alloc (Nat.le_refl _) _)
      clear hw0
      refine (implCountB w0).mono ?_
      rintro e w1 ⟨rfl, hb1⟩
      have HB1 := hide (HB0.out.trans (hb1.mono HB0.out.size))
      clear hb1
      go_wp2_with fail
      go_ret
      exact ⟨ret_int HV.out, HB1.out⟩
    · have HV := hide (cval_byte (b := b) (by omega) (by omega))
      go_enter Tryz.func186, Tryz.ntmps186
      go_wp2_with fail
      obtain ⟨w0, hw0⟩ : ∃ w0, w0 = w.alloc (.cells #[] 187) := ⟨_, rfl⟩
      rw [← hw0]
      have HB0 := hide (show Below w.heap.size w w0 by rw [hw0]; exact (Below.refl _ _).alloc (Nat.le_refl _) _)
      clear hw0
      refine (implCountB w0).mono ?_
      rintro e w1 ⟨rfl, hb1⟩
      have HB1 := hide (HB0.out.trans (hb1.mono HB0.out.size))
      clear hb1
      go_wp2_with fail
      go_ret
      exact ⟨ret_int HV.out, HB1.out⟩

theorem mdV_a (s : ByteArray) (z : Int) (w : World) : (method 147 185 (.agg #[.string s, .int .i64 z]) "loop.example/g00879/impl.value").run Tryz.prog w = .ok (182, .agg #[.string s, .int .i64 z]) w := by kernel_rfl
theorem mdV_b (w : World) : (method 147 187 (.agg #[]) "loop.example/g00879/impl.value").run Tryz.prog w = .ok (186, .agg #[]) w := by kernel_rfl

end Go.Proofs.YtncgeoliboidhaaGreat

namespace Go.Proofs.YtncgeoliboidhaaGreat
open Go.RowKit
set_option linter.unusedSimpArgs false
set_option linter.unusedVariables false

theorem mdW_a (s : ByteArray) (z : Int) (n : Nat) (w : World) : (method (n + 1) 185 (.agg #[.string s, .int .i64 z]) "loop.example/g00879/impl.value").run Tryz.prog w = .ok (182, .agg #[.string s, .int .i64 z]) w := by kernel_rfl
theorem mdW_b (n : Nat) (w : World) : (method (n + 1) 187 (.agg #[]) "loop.example/g00879/impl.value").run Tryz.prog w = .ok (186, .agg #[]) w := by kernel_rfl
theorem naV_a (s : ByteArray) (z : Int) (n : Nat) (w : World) : (nilAhead (n + 1) 185 (.agg #[.string s, .int .i64 z]) "loop.example/g00879/impl.value").run Tryz.prog w = .ok (some false) w := by kernel_rfl
theorem naV_b (n : Nat) (w : World) : (nilAhead (n + 1) 187 (.agg #[]) "loop.example/g00879/impl.value").run Tryz.prog w = .ok (some false) w := by kernel_rfl

set_option maxRecDepth 100000 in
set_option maxHeartbeats 2000000 in
theorem implHasA (m : Int) (a : ByteArray) (z : Int) (hm : m = 1 ∨ m = 2 ∨ m = 3) (ha : bytesI a = chL m) (hasz : a.size ≤ 256) (s : ByteArray) (hs : s.size ≤ 1099511627776) (w : World) :
    Calls Tryz.prog 146 #[.iface 185 (.agg #[.string a, .int .i64 z]), .string s] w (Gives (.bool (allV m (bytesI s))) w) := by
  have HV := hide (fun b : Int => cval_pos (b := b) hm)
  have HLT := hide (show ∀ x ∈ bytesI a, 0 ≤ x ∧ x ≤ 127 by rw [ha]; exact ch_lt m)
  have HA := hide ha
  have hmd := mdW_a
  have hna := naV_a
  clear hm ha
  go_enter Tryz.func146, Tryz.ntmps146
  go_wp2_with fail
  go_loopw [5, 8] (fun _ i wr => ∃ k : Nat, k ≤ s.size ∧ i = .int .i64 k ∧ Below w.heap.size w wr ∧ Hid (((bytesI s).take k).all (fun b => decide (0 ≤ cval m b)) = true)) (fun _ i _ => s.size - (intOf i).toNat)
  case atStart => exact ⟨0, by omega, rfl, Below.refl _ _, by simp [Hid]⟩
  case round =>
    obtain ⟨k, hk, rfl, hbr, hp⟩ := hrel
    have HBr := hide hbr
    clear hbr
    by_cases hlt : k < s.size
    · obtain ⟨y, hy, hy2, hy0, hy1⟩ := byteAt s hlt
      have HY := hide hy2
      clear hy2
      have hwy : IntKind.i64.wrap y = y := IntWalk.i64_in _ ⟨by omega, by omega⟩
      go_wp2_with fail
      go_region_held3 (fun _ => True)
        (first
          | trivial
          | exact trivial)
        (first
          | (go_at_call 182; refine (implValueA a z y HLT.out hasz _).mono ?_; rw [HA.out, ← HV.out y]; rintro e w1 ⟨rfl, hb1⟩; have HB1 := hide (HBr.out.drew.trans (hb1.mono HBr.out.drew.size)); clear hb1))
      all_goals
        have hvc := cval_cases m y
        obtain ⟨v, hv⟩ : ∃ v, cval m y = v := ⟨_, rfl⟩
        rw [hv] at hvc ⊢
        have HVV := hide hv
        clear hv
        by_cases hneg : v = -1
        · have HE := hide (all_no (m := m) HY.out (by rw [HVV.out]; omega))
          have e1 : (v == -1) = true := by simpa using hneg
          clear hp hneg hvc
          go_wp2_with fail
          go_ret
          exact ⟨ret_bool HE.out, HB1.out⟩
        · have HE := hide (all_take_snoc hp.out HY.out (by simp only [HVV.out]; exact decide_eq_true (by omega)))
          have e1 : (v == -1) = false := by simpa using hneg
          clear hp hneg hvc
          go_wp2_with fail
          go_roundw
          case rel => exact ⟨k + 1, by omega, by go_num, HB1.out, HE⟩
          case measure => simp [intOf]; omega
    · have HE := hide (all_yes (m := m) (bytesI_len s) (by rw [show s.size = k by omega]; exact hp.out))
      clear hp
      go_wp2_with fail
      go_ret
      exact ⟨ret_bool HE.out, HBr.out⟩

set_option maxRecDepth 100000 in
set_option maxHeartbeats 2000000 in
theorem implHasB (s : ByteArray) (hs : s.size ≤ 1099511627776) (w : World) :
    Calls Tryz.prog 146 #[.iface 187 (.agg #[]), .string s] w (Gives (.bool (allV 4 (bytesI s))) w) := by
  have hmd := mdW_b
  have hna := naV_b
  go_enter Tryz.func146, Tryz.ntmps146
  go_wp2_with fail
  go_loopw [5, 8] (fun _ i wr => ∃ k : Nat, k ≤ s.size ∧ i = .int .i64 k ∧ Below w.heap.size w wr ∧ Hid (((bytesI s).take k).all (fun b => decide (0 ≤ cval 4 b)) = true)) (fun _ i _ => s.size - (intOf i).toNat)
  case atStart => exact ⟨0, by omega, rfl, Below.refl _ _, by simp [Hid]⟩
  case round =>
    obtain ⟨k, hk, rfl, hbr, hp⟩ := hrel
    have HBr := hide hbr
    clear hbr
    by_cases hlt : k < s.size
    · obtain ⟨y, hy, hy2, hy0, hy1⟩ := byteAt s hlt
      have HY := hide hy2
      clear hy2
      have hwy : IntKind.i64.wrap y = y := IntWalk.i64_in _ ⟨by omega, by omega⟩
      go_wp2_with fail
      go_region_held3 (fun _ => True)
        (first
          | trivial
          | exact trivial)
        (first
          | (go_at_call 186; refine (implValueB y _).mono ?_; skip; rintro e w1 ⟨rfl, hb1⟩; have HB1 := hide (HBr.out.drew.trans (hb1.mono HBr.out.drew.size)); clear hb1))
      all_goals
        have hvc := cval_cases 4 y
        obtain ⟨v, hv⟩ : ∃ v, cval 4 y = v := ⟨_, rfl⟩
        rw [hv] at hvc ⊢
        have HVV := hide hv
        clear hv
        by_cases hneg : v = -1
        · have HE := hide (all_no (m := 4) HY.out (by rw [HVV.out]; omega))
          have e1 : (v == -1) = true := by simpa using hneg
          clear hp hneg hvc
          go_wp2_with fail
          go_ret
          exact ⟨ret_bool HE.out, HB1.out⟩
        · have HE := hide (all_take_snoc hp.out HY.out (by simp only [HVV.out]; exact decide_eq_true (by omega)))
          have e1 : (v == -1) = false := by simpa using hneg
          clear hp hneg hvc
          go_wp2_with fail
          go_roundw
          case rel => exact ⟨k + 1, by omega, by go_num, HB1.out, HE⟩
          case measure => simp [intOf]; omega
    · have HE := hide (all_yes (m := 4) (bytesI_len s) (by rw [show s.size = k by omega]; exact hp.out))
      clear hp
      go_wp2_with fail
      go_ret
      exact ⟨ret_bool HE.out, HBr.out⟩

theorem implHas (m : Int) (hm : 1 ≤ m ∧ m ≤ 4) (s : ByteArray) (hs : s.size ≤ 1099511627776) (w : World) :
    Calls Tryz.prog 146 #[MV m, .string s] w (Gives (.bool (allV m (bytesI s))) w) := by
  by_cases h4 : m = 4
  · subst h4; rw [MV_b]; exact implHasB s hs w
  · have hm3 : m = 1 ∨ m = 2 ∨ m = 3 := by omega
    rw [MV_a hm3]
    refine implHasA m _ _ hm3 (stS_chars hm3) ?_ s hs w
    rw [stS_size hm3]; rcases hm3 with rfl | rfl | rfl <;> decide
end Go.Proofs.YtncgeoliboidhaaGreat

namespace Go.Proofs.YtncgeoliboidhaaGreat
open Go.RowKit
set_option linter.unusedSimpArgs false
set_option linter.unusedVariables false

/-- A segment that a call was given lies in the first block that it made, and nothing before it has changed. -/
def SBox (w wr : World) (t : TypeId) (m : Int) (s : ByteArray) : Prop := wr.heap[w.heap.size]? = some (.cells #[.int .i64 m, .string s] t (0, 0)) ∧ Below w.heap.size w wr
section
variable {w wr wr' : World} {t : TypeId} {m : Int} {s : ByteArray}
theorem SBox.start (w : World) (t : TypeId) (m : Int) (s : ByteArray) : SBox w (w.alloc (.cells #[.int .i64 m, .string s] t)) t m s := ⟨heap_alloc_new w _, (Below.refl _ _).alloc (Nat.le_refl _) _⟩
theorem SBox.lt (h : SBox w wr t m s) : w.heap.size < wr.heap.size := (Array.getElem?_eq_some_iff.1 h.1).1
theorem SBox.next (h : SBox w wr t m s) (hb : Below wr.heap.size wr wr') : SBox w wr' t m s :=
  ⟨by rw [hb.block _ h.lt]; exact h.1, h.2.trans (hb.mono (Nat.le_of_lt h.lt))⟩
theorem SBox.alloc (h : SBox w wr t m s) (o : Obj) : SBox w (wr.alloc o) t m s := h.next ((Below.refl _ _).alloc (Nat.le_refl _) o)
theorem SBox.drew (h : SBox w wr t m s) : SBox w wr.drew t m s := ⟨h.1, h.2.drew⟩
theorem SBox.cells (h : SBox w wr t m s) : wr.cell? ⟨w.heap.size, 0, none⟩ = some (.int .i64 m) ∧ wr.cell? ⟨w.heap.size, 1, none⟩ = some (.string s) :=
  ⟨cell_of_row wr w.heap.size 0 _ _ _ h.1, cell_of_row wr w.heap.size 1 _ _ _ h.1⟩
theorem SBox.grow' {row : Option Nat} (h : SBox w wr t m s) (hg : wr.grownBy wr' row) (hr : ∀ b, row = some b → w.heap.size < b) : SBox w wr' t m s :=
  ⟨by rw [hg.block _ h.lt (by intro e; have := hr _ e.symm; omega)]; exact h.1, h.2.grown hg (Nat.le_of_lt h.lt) (fun r hr' => by have := hr r hr'; omega)⟩
end

theorem seg_mode {m : Int} (h : m < 1 ∨ 4 < m) (bs : List Int) : segB m bs = false := by simp [segB, inR_no h]
theorem seg_short {bs : List Int} (h : bs.length < 1 ∨ 255 < bs.length) (m : Int) : segB m bs = false := by
  rw [segB, inR_no (x := (bs.length : Int)) (by omega)]; simp
theorem seg_is {m : Int} {bs : List Int} (hm : 1 ≤ m ∧ m ≤ 4) (hl : 1 ≤ bs.length ∧ bs.length ≤ 255) : segB m bs = allV m bs := by
  rw [segB, inR_yes hm.1 hm.2, inR_yes (by omega) (by omega)]; rfl
theorem seg_ok {m : Int} {bs : List Int} (h : segB m bs = true) : (1 ≤ m ∧ m ≤ 4) ∧ (1 ≤ bs.length ∧ bs.length ≤ 255) ∧ allV m bs = true := by
  by_cases hm : 1 ≤ m ∧ m ≤ 4
  · by_cases hl : 1 ≤ bs.length ∧ bs.length ≤ 255
    · exact ⟨hm, hl, by rw [← seg_is hm hl]; exact h⟩
    · rw [seg_short (by omega)] at h; cases h
  · rw [seg_mode (by omega)] at h; cases h

set_option maxRecDepth 100000 in
set_option maxHeartbeats 1000000 in
theorem implSegValid (m : Int) (s : ByteArray) (hs : s.size ≤ 1099511627776) (w : World) :
    Calls Tryz.prog 132 #[.agg #[.int .i64 m, .string s]] w (Gives (.bool (segB m (bytesI s))) w) := by
  have HX := hide (SBox.start w 120 m s)
  obtain ⟨c0, c1⟩ := HX.out.cells
  have hlen := bytesI_len s
  by_cases hm : m < 1 ∨ 4 < m
  · have HE := hide (seg_mode hm (bytesI s))
    go_enter Tryz.func132, Tryz.ntmps132
    go_wp2_with fail
    refine (implModeOf_no m hm _).mono ?_
    rintro e _ ⟨rfl, rfl⟩
    clear hm hlen
    go_wp2_with fail
    go_ret
    exact ⟨ret_bool HE.out, HX.out.2⟩
  · have HM := hide (implModeOf m (by omega))
    by_cases hl : s.size < 1
    · have HE := hide (seg_short (bs := bytesI s) (.inl (by omega)) m)
      go_enter Tryz.func132, Tryz.ntmps132
      go_wp2_with fail
      refine (HM.out _).mono ?_
      rintro e _ ⟨rfl, rfl⟩
      clear hm hlen
      obtain ⟨M, hM⟩ : ∃ M, MV m = M := ⟨_, rfl⟩
      rw [hM]
      clear hM
      go_wp2_with fail
      go_ret
      exact ⟨ret_bool HE.out, HX.out.2⟩
    · by_cases hl2 : 255 < s.size
      · have HE := hide (seg_short (bs := bytesI s) (.inr (by omega)) m)
        go_enter Tryz.func132, Tryz.ntmps132
        go_wp2_with fail
        refine (HM.out _).mono ?_
        rintro e _ ⟨rfl, rfl⟩
        clear hm hlen
        obtain ⟨M, hM⟩ : ∃ M, MV m = M := ⟨_, rfl⟩
        rw [hM]
        clear hM
        go_wp2_with fail
        go_ret
        exact ⟨ret_bool HE.out, HX.out.2⟩
      · have HE := hide (seg_is (m := m) (bs := bytesI s) (by omega) (by omega))
        have HH := hide (implHas m (by omega) s hs)
        go_enter Tryz.func132, Tryz.ntmps132
        go_wp2_with fail
        refine (HM.out _).mono ?_
        rintro e _ ⟨rfl, rfl⟩
        clear hm hlen HM
        obtain ⟨M, hM⟩ : ∃ M, MV m = M := ⟨_, rfl⟩
        rw [hM] at HH ⊢
        clear hM
        go_wp2_with fail
        refine (HH.out _).mono ?_
        rintro e w1 ⟨rfl, hb1⟩
        have HX1 := hide (HX.out.next hb1)
        clear hb1 c0 c1
        go_wp2_with fail
        go_ret
        exact ⟨ret_bool HE.out, HX1.out.2⟩

/-- The narrowest mode. -/
def narrow (bs : List Int) : Int := if allV 1 bs then 1 else if allV 3 bs then 3 else if allV 2 bs then 2 else 4
end Go.Proofs.YtncgeoliboidhaaGreat

namespace Go.Proofs.YtncgeoliboidhaaGreat
open Go.RowKit
set_option linter.unusedSimpArgs false
set_option linter.unusedVariables false

theorem implCountA (s : ByteArray) (z : Int) (w : World) :
    Calls Tryz.prog 180 #[.agg #[.string s, .int .i64 z]] w (Gives (.int .i64 (s.size : Nat)) w) := by
  go_enter Tryz.func180, Tryz.ntmps180
  go_wp2_with fail
  go_ret
  exact ⟨rfl, (Below.refl _ _).alloc (Nat.le_refl _) _⟩
theorem implSizeA (s : ByteArray) (z : Int) (w : World) :
    Calls Tryz.prog 181 #[.agg #[.string s, .int .i64 z]] w (Gives (.int .i64 z) w) := by
  go_enter Tryz.func181, Tryz.ntmps181
  go_wp2_with fail
  go_ret
  exact ⟨rfl, (Below.refl _ _).alloc (Nat.le_refl _) _⟩
theorem implSizeB (w : World) :
    Calls Tryz.prog 185 #[.agg #[]] w (Gives (.int .i64 1) w) := by
  go_enter Tryz.func185, Tryz.ntmps185
  go_wp2_with fail
  go_ret
  exact ⟨rfl, (Below.refl _ _).alloc (Nat.le_refl _) _⟩

end Go.Proofs.YtncgeoliboidhaaGreat

namespace Go.Proofs.YtncgeoliboidhaaGreat
open Go.RowKit
set_option linter.unusedSimpArgs false
set_option linter.unusedVariables false

theorem lim_bd {q k : Nat} (hq : q ≤ 256) (hk : k ≤ 3) : q ^ k ≤ 16777216 := by
  have h1 : q ^ k ≤ 256 ^ k := Nat.pow_le_pow_left hq k
  have h2 : 256 ^ k ≤ 256 ^ 3 := Nat.pow_le_pow_right (by omega) hk
  have h3 : 256 ^ 3 = 16777216 := by decide
  omega
theorem mdC_a (s : ByteArray) (z : Int) (n : Nat) (w : World) : (method (n + 1) 185 (.agg #[.string s, .int .i64 z]) "loop.example/g00879/impl.characterCount").run Tryz.prog w = .ok (180, .agg #[.string s, .int .i64 z]) w := by kernel_rfl
theorem mdC_b (n : Nat) (w : World) : (method (n + 1) 187 (.agg #[]) "loop.example/g00879/impl.characterCount").run Tryz.prog w = .ok (184, .agg #[]) w := by kernel_rfl
theorem mdG_a (s : ByteArray) (z : Int) (n : Nat) (w : World) : (method (n + 1) 185 (.agg #[.string s, .int .i64 z]) "loop.example/g00879/impl.groupSize").run Tryz.prog w = .ok (181, .agg #[.string s, .int .i64 z]) w := by kernel_rfl
theorem mdG_b (n : Nat) (w : World) : (method (n + 1) 187 (.agg #[]) "loop.example/g00879/impl.groupSize").run Tryz.prog w = .ok (185, .agg #[]) w := by kernel_rfl

set_option maxRecDepth 100000 in
set_option maxHeartbeats 2000000 in
theorem implLimA (a : ByteArray) (z : Int) (hasz : a.size ≤ 256) (c : Nat) (hc : c ≤ 3) (w : World) :
    Calls Tryz.prog 153 #[.iface 185 (.agg #[.string a, .int .i64 z]), .int .i64 c] w (Gives (.int .i64 ((a.size ^ c : Nat) : Int)) w) := by
  have hmd := mdC_a
  go_enter Tryz.func153, Tryz.ntmps153
  go_wp2_with fail
  go_loopw [5, 7] (fun p i wr => ∃ k q : Nat, k ≤ c ∧ i = .int .i64 k ∧ p = .int .i64 q ∧ Hid (a.size ^ k = q) ∧ Below w.heap.size w wr) (fun _ i _ => c - (intOf i).toNat)
  case atStart => exact ⟨0, 1, by omega, rfl, rfl, rfl, Below.refl _ _⟩
  case round =>
    obtain ⟨k, q, hk, rfl, rfl, hq, hbr⟩ := hrel
    have HBr := hide hbr
    clear hbr
    by_cases hlt : k < c
    · have hb := lim_bd hasz (show k + 1 ≤ 3 by omega)
      have HQ := hide (show a.size ^ (k + 1) = q * a.size by rw [Nat.pow_succ, hq.out])
      rw [HQ.out] at hb
      have hwm : IntKind.i64.wrap ((q : Int) * ((a.size : Nat) : Int)) = ((q * a.size : Nat) : Int) := by
        have h0 : ((q : Int) * ((a.size : Nat) : Int)) = ((q * a.size : Nat) : Int) := by rw [Int.natCast_mul]
        rw [h0]; exact IntWalk.i64_in _ ⟨by omega, by omega⟩
      clear hq hb
      obtain ⟨r, hr⟩ : ∃ r, q * a.size = r := ⟨_, rfl⟩
      rw [hr] at hwm HQ
      clear hr
      go_wp2_with fail
      refine (implCountA a z _).mono ?_
      rintro e w1 ⟨rfl, hb1⟩
      have HB1 := hide (HBr.out.trans (hb1.mono HBr.out.size))
      clear hb1
      go_wp2_with fail
      go_roundw
      case rel => exact ⟨k + 1, r, by omega, by go_num, rfl, HQ, HB1.out⟩
      case measure => simp [intOf]; omega
    · have hkc : k = c := by omega
      subst hkc
      go_wp2_with fail
      go_ret
      exact ⟨ret_int (by rw [hq.out]), HBr.out⟩

set_option maxRecDepth 100000 in
set_option maxHeartbeats 2000000 in
theorem implLimB (c : Nat) (hc : c ≤ 3) (w : World) :
    Calls Tryz.prog 153 #[.iface 187 (.agg #[]), .int .i64 c] w (Gives (.int .i64 ((256 ^ c : Nat) : Int)) w) := by
  have hmd := mdC_b
  go_enter Tryz.func153, Tryz.ntmps153
  go_wp2_with fail
  go_loopw [5, 7] (fun p i wr => ∃ k q : Nat, k ≤ c ∧ i = .int .i64 k ∧ p = .int .i64 q ∧ Hid (256 ^ k = q) ∧ Below w.heap.size w wr) (fun _ i _ => c - (intOf i).toNat)
  case atStart => exact ⟨0, 1, by omega, rfl, rfl, rfl, Below.refl _ _⟩
  case round =>
    obtain ⟨k, q, hk, rfl, rfl, hq, hbr⟩ := hrel
    have HBr := hide hbr
    clear hbr
    by_cases hlt : k < c
    · have hb := lim_bd (Nat.le_refl 256) (show k + 1 ≤ 3 by omega)
      have HQ := hide (show 256 ^ (k + 1) = q * 256 by rw [Nat.pow_succ, hq.out])
      rw [HQ.out] at hb
      have hwm : IntKind.i64.wrap ((q : Int) * 256) = ((q * 256 : Nat) : Int) := by
        have h0 : ((q : Int) * 256) = ((q * 256 : Nat) : Int) := by rw [Int.natCast_mul]; rfl
        rw [h0]; exact IntWalk.i64_in _ ⟨by omega, by omega⟩
      clear hq hb
      obtain ⟨r, hr⟩ : ∃ r, q * 256 = r := ⟨_, rfl⟩
      rw [hr] at hwm HQ
      clear hr
      go_wp2_with fail
      refine (implCountB _).mono ?_
      rintro e w1 ⟨rfl, hb1⟩
      have HB1 := hide (HBr.out.trans (hb1.mono HBr.out.size))
      clear hb1
      go_wp2_with fail
      go_roundw
      case rel => exact ⟨k + 1, r, by omega, by go_num, rfl, HQ, HB1.out⟩
      case measure => simp [intOf]; omega
    · have hkc : k = c := by omega
      subst hkc
      go_wp2_with fail
      go_ret
      exact ⟨ret_int (by rw [hq.out]), HBr.out⟩

theorem implLim (m : Int) (hm : 1 ≤ m ∧ m ≤ 4) (c : Nat) (hc : c ≤ 3) (w : World) :
    Calls Tryz.prog 153 #[MV m, .int .i64 c] w (Gives (.int .i64 (glim m c : Nat)) w) := by
  by_cases h4 : m = 4
  · subst h4; rw [MV_b]; exact implLimB c hc w
  · have hm3 : m = 1 ∨ m = 2 ∨ m = 3 := by omega
    have h := implLimA (stS m) (gsz m : Nat) (by rw [stS_size hm3]; rcases hm3 with rfl | rfl | rfl <;> decide) c hc w
    rw [MV_a hm3, glim, ← stS_size hm3]; exact h

set_option maxRecDepth 100000 in
set_option maxHeartbeats 4000000 in
theorem implLen64 (v r : Int) (h : (v, r) ∈ [(0, 0), (9, 4), (99, 7), (999, 10), (44, 6), (2024, 11), (31, 5), ((255 : Int), (8 : Int))]) (w : World) :
    Calls Tryz.prog 81 #[.int .u64 v] w fun e w' => e = .returned (.int .i64 r) ∧ w' = w := by
  simp only [List.mem_cons, Prod.mk.injEq, List.mem_nil_iff, or_false] at h
  rcases h with ⟨rfl, rfl⟩ | ⟨rfl, rfl⟩ | ⟨rfl, rfl⟩ | ⟨rfl, rfl⟩ | ⟨rfl, rfl⟩ | ⟨rfl, rfl⟩ | ⟨rfl, rfl⟩ | ⟨rfl, rfl⟩
  all_goals
    go_enter Tryz.func81, Tryz.ntmps81
    go_wp2_with fail
    go_ret
    exact ⟨by kernel_rfl, rfl⟩

/-- Whether a group may have so many bytes. -/
theorem wid_lim {m : Int} (hm : 1 ≤ m ∧ m ≤ 4) {c : Nat} (hc : c ≤ gsz m) : (((glim m c : Nat) : Int) - 1, ((wid m c : Nat) : Int)) ∈ [(0, 0), (9, 4), (99, 7), (999, 10), (44, 6), (2024, 11), (31, 5), ((255 : Int), (8 : Int))] := by
  have hh : m = 1 ∨ m = 2 ∨ m = 3 ∨ m = 4 := by omega
  rcases hh with rfl | rfl | rfl | rfl
  · have h3 : c ≤ 3 := hc
    have : c = 0 ∨ c = 1 ∨ c = 2 ∨ c = 3 := by omega
    rcases this with rfl | rfl | rfl | rfl <;> decide
  · have h3 : c ≤ 2 := hc
    have : c = 0 ∨ c = 1 ∨ c = 2 := by omega
    rcases this with rfl | rfl | rfl <;> decide
  · have h3 : c ≤ 1 := hc
    have : c = 0 ∨ c = 1 := by omega
    rcases this with rfl | rfl <;> decide
  · have h3 : c ≤ 1 := hc
    have : c = 0 ∨ c = 1 := by omega
    rcases this with rfl | rfl <;> decide

set_option maxRecDepth 100000 in
set_option maxHeartbeats 1000000 in
theorem implGroupWidth (m : Int) (hm : 1 ≤ m ∧ m ≤ 4) (c : Nat) (hc : c ≤ gsz m) (w : World) :
    Calls Tryz.prog 150 #[MV m, .int .i64 c] w (Gives (.int .i64 (wid m c : Nat)) w) := by
  have hg3 := gsz_le m
  have HL := hide (implLim m hm c (by omega))
  have HW := hide (wid_lim hm hc)
  have hl2 : glim m c ≤ 16777216 := lim_bd (by unfold gbase; split <;> (try split) <;> (try split) <;> omega) (by omega)
  have hl1 : 1 ≤ glim m c := Nat.pos_of_ne_zero (by unfold glim gbase; intro h; have := Nat.pow_eq_zero.1 h; split at this <;> (try split at this) <;> (try split at this) <;> omega)
  obtain ⟨M, hM⟩ : ∃ M, MV m = M := ⟨_, rfl⟩
  obtain ⟨L, hL⟩ : ∃ L, glim m c = L := ⟨_, rfl⟩
  obtain ⟨W, hW⟩ : ∃ W, wid m c = W := ⟨_, rfl⟩
  rw [hM, hL] at HL
  rw [hL, hW] at HW
  rw [hL] at hl1 hl2
  rw [hM, hW]
  clear hM hL hW hc hm hg3
  have hw1 : IntKind.i64.wrap ((L : Int) - 1) = (L : Int) - 1 := IntWalk.i64_in _ ⟨by omega, by omega⟩
  have hw2 : IntKind.u64.wrap ((L : Int) - 1) = (L : Int) - 1 := by rw [IntKind.wrap_u64]; omega
  go_enter Tryz.func150, Tryz.ntmps150
  go_wp2_with fail
  refine (HL.out w).mono ?_
  rintro e w1 ⟨rfl, hb1⟩
  have HB1 := hide hb1
  clear hb1
  go_wp2_with fail
  refine (implLen64 _ _ HW.out _).mono ?_
  rintro e _ ⟨rfl, rfl⟩
  go_wp2_with fail
  go_ret
  exact ⟨rfl, HB1.out⟩
end Go.Proofs.YtncgeoliboidhaaGreat
