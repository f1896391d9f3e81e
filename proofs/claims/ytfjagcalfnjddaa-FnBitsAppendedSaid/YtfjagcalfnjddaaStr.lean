/-
  The contracts of BitsOfString and StringOfBits, of the program and of the model.
  Condition: the slices and strings are shorter than 2^40.
-/
import Derived.Test.YtfjagcalfnjddaaNumber
namespace Go.Proofs.Ytfjagcalfnjddaa
open Go.RowKit

theorem info8 : (Try.prog.info? 5).map (fun i => (i.zero, i.size, i.bytes)) = some (some (.int .u8 0), 1, 1) := by kernel_rfl
theorem elem8 : IsElem Try.prog 22 5 .u8 1 := ⟨Try.underlying22, info8, by omega⟩

def StrRel (n : Nat) (zs : List Int) (base : Nat) (f : List Int → List Int) (w : World) (v i : Value) (wr : World) : Prop :=
  ∃ k : Nat, k ≤ n ∧ i = .int .i64 k ∧ Own wr base 2 .i64 v (f (zs.take k)) ∧ Below base w wr

def bosCode (s : ByteArray) : Int := if s.size ≤ 1024 then 0 else 3
def bosOf (s : ByteArray) : List Int := if s.size ≤ 1024 then strBits (bytesI s) else []

set_option maxHeartbeats 400000 in
theorem implBitsOf (s : ByteArray) (w : World) (hs : s.size ≤ 1099511627776) :
    Calls Try.prog 28 #[.string s] w (NewInts2 2 .i64 (bosOf s) (bosCode s) w) := by
  by_cases hbig : 1024 < s.size
  · rw [bosOf, bosCode, if_neg (by omega), if_neg (by omega)]
    go_enter Try.func28, Try.ntmps28
    go_wp2_with fail
    go_ret2
    exact new2_nil _ _ _ _
  · rw [bosOf, bosCode, if_pos (by omega), if_pos (by omega)]
    go_enter Try.func28, Try.ntmps28
    go_wp2_with (at_make; refine wpList_mk0 _ rfl _ _ _ rfl elem64 .i64 .i64 _ (s.size * 8) rfl rfl (by omega) (by omega) ?_; intro w1 hown hbel; have HO := hide hown; have HBl := hide hbel; clear hown hbel)
    go_loopw [4, 15] (fun u i wr => StrRel s.size (bytesI s) w.heap.size strBits w u i wr) (fun _ i _ => s.size - (intOf i).toNat)
    case atStart => exact ⟨0, by omega, rfl, HO, HBl⟩
    case round =>
      clear HO HBl w1
      obtain ⟨u, rfl⟩ : ∃ u : Value, u = u4 := ⟨_, rfl⟩
      obtain ⟨k, hk, rfl, hOwn, hBl⟩ := hrel
      have HO := hide hOwn
      have HBl := hide hBl
      clear hOwn hBl
      by_cases hlt : k < s.size
      · obtain ⟨y, hy, hat, hy0, hy1⟩ := byteAt s hlt
        have HT := hide hat
        clear hat
        go_wp2_with fail
        refine (implAppendNumber u w.heap.size 8 _ y wr HO HBl.out.size (by rw [strBits_len, List.length_take]; omega) (by omega) hy0 (by omega)).mono ?_
        rintro e w2 ⟨v2, rfl, hown, hbel⟩
        have HO2 := hide hown
        have HB2 := hide hbel
        clear hown hbel
        go_wp2_with fail
        go_roundw
        case rel =>
          refine ⟨k + 1, by omega, by go_num, ?_, HBl.out.trans HB2⟩
          rw [take_snocI HT, strBits_snoc]
          exact HO2
        case measure => simp [intOf]; omega
      · go_wp2_with fail
        go_ret2
        have h := HO.out
        rw [List.take_of_length_le (by rw [bytesI_len]; omega)] at h
        obtain ⟨A3, c3, rfl, hc3⟩ := h.form
        exact ⟨A3, c3, rfl, hc3, h, HBl⟩

def StrRel2 (zs : List Int) (base : Nat) (k : Nat) (y : Int) (w : World) (v i : Value) (wr : World) : Prop :=
  ∃ j : Nat, j ≤ 8 ∧ i = .int .i64 (7 - (j : Int)) ∧ Own wr base 2 .i64 v (strBits (zs.take k) ++ (bitsOf y 8).take j) ∧ Below base w wr

set_option maxHeartbeats 1000000 in
theorem specBitsL (s : ByteArray) (w : World) (hs : s.size ≤ 1024) :
    Calls Try.prog 51 #[.string s] w (Longer 2 .i64 w.heap.size (strBits (bytesI s)) w) := by
  go_enter Try.func51, Try.ntmps51
  go_wp2
  go_loopw [3, 4] (fun u i wr => StrRel s.size (bytesI s) w.heap.size strBits w u i wr) (fun _ i _ => s.size - (intOf i).toNat)
  case atStart => exact ⟨0, by omega, rfl, Own.lit0 w _ _, (Below.refl _ _).alloc (Nat.le_refl _) _⟩
  case round =>
    obtain ⟨wo, rfl⟩ : ∃ wo : World, wo = wr := ⟨_, rfl⟩
    obtain ⟨u, rfl⟩ : ∃ u : Value, u = u3 := ⟨_, rfl⟩
    obtain ⟨k, hk, rfl, hOwn, hBl⟩ := hrel
    have HO := hide hOwn
    have HBl := hide hBl
    clear hOwn hBl
    by_cases hlt : k < s.size
    · obtain ⟨y, hy, hat, hy0, hy1⟩ := byteAt s hlt
      have HT := hide hat
      have HY := hide hy
      clear hat hy
      go_wp2
      go_loopw [3, 5] (fun u i wr => StrRel2 (bytesI s) w.heap.size k y w u i wr) (fun _ i _ => (intOf i + 1).toNat)
      case atStart => exact ⟨0, by omega, rfl, by simpa using HO.out, HBl⟩
      case round =>
        clear HO HBl
        obtain ⟨u, rfl⟩ : ∃ u : Value, u = u3 := ⟨_, rfl⟩
        obtain ⟨j, hj, rfl, hOwn, hBl⟩ := hrel
        have HO := hide hOwn
        have HBl := hide hBl
        clear hOwn hBl
        by_cases hj8 : j < 8
        · have s0 : 0 ≤ 7 - (j : Int) := by omega
          have s1 : 7 - (j : Int) < 64 := by omega
          have HS := hide (bitsOf_at y hj8)
          have hq0 : 0 ≤ y / 2 ^ (7 - j) := Int.ediv_nonneg hy0 (Int.le_of_lt (Int.pow_pos (by decide)))
          have hq1 : y / 2 ^ (7 - j) ≤ 255 := Int.le_trans (Int.ediv_le_self _ hy0) hy1
          have hbit : bits .and .u8 (y / 2 ^ (7 - j)) 1 = y / 2 ^ (7 - j) % 2 := and1u8 _ hq0 hq1
          have hz0 : 0 ≤ y / 2 ^ (7 - j) % 2 := by omega
          have hz1 : y / 2 ^ (7 - j) % 2 ≤ 1 := by omega
          have HS' : Hid ((bitsOf y 8)[j]? = some (y / 2 ^ (7 - j) % 2)) := HS.out
          clear HS hq0 hq1
          generalize y / 2 ^ (7 - j) % 2 = z at hbit HS' hz0 hz1
          have hy := HY.out
          have hbz : w.heap.size ≤ wr.heap.size := HBl.out.size
          have hlen : (strBits ((bytesI s).take k) ++ (bitsOf y 8).take j).length + 1 ≤ 100000 := by rw [List.length_append, strBits_len, List.length_take, List.length_take, bitsOf_len]; omega
          go_wp2_with (at_builtin; refine wpList_app1 wr rfl _ _ _ rfl elem64 w.heap.size u _ rfl HO.out z rfl (by omega) hbz ?_; intro v' w1 hown1 hgrow)
          have HO1 := hide hown1
          have HG1 := hide hgrow
          clear hown1 hgrow hbit hy
          go_wp2
          go_roundw
          case rel =>
            refine ⟨j + 1, by omega, by go_num, ?_, HBl.out.grown HG1 hbz (fun g hg => (HO.out.lt hg).1)⟩
            have h := HO1.out
            rw [List.append_assoc, ← take_snocI HS'] at h
            exact h
          case measure => simp [intOf]; omega
        · go_wp2
          go_roundw
          case rel =>
            refine ⟨k + 1, by omega, by go_num, ?_, HBl⟩
            have h := HO.out
            rw [List.take_of_length_le (l := bitsOf y 8) (by rw [bitsOf_len]; omega)] at h
            rw [take_snocI HT, strBits_snoc]
            exact h
          case measure => simp [intOf]; omega
    · go_wp2
      go_ret
      have h := HO.out
      rw [List.take_of_length_le (by rw [bytesI_len]; omega)] at h
      exact ⟨_, rfl, h, HBl⟩

set_option maxHeartbeats 400000 in
theorem specBitsOf (s : ByteArray) (w : World) (hs : s.size ≤ 1099511627776) :
    Calls Try.prog 39 #[.string s] w (NewInts2 2 .i64 (bosOf s) (bosCode s) w) := by
  by_cases hbig : 1024 < s.size
  · rw [bosOf, bosCode, if_neg (by omega), if_neg (by omega)]
    go_enter Try.func39, Try.ntmps39
    go_wp2_with fail
    go_ret2
    exact new2_nil _ _ _ _
  · rw [bosOf, bosCode, if_pos (by omega), if_pos (by omega)]
    go_enter Try.func39, Try.ntmps39
    go_wp2_with fail
    refine (specBitsL s w (by omega)).mono ?_
    rintro e w2 ⟨v2, rfl, hown, hbel⟩
    have HO2 := hide hown
    have HB2 := hide hbel
    clear hown hbel
    go_wp2_with fail
    go_ret2
    obtain ⟨A3, c3, rfl, hc3⟩ := HO2.out.form
    exact ⟨A3, c3, rfl, hc3, HO2, HB2⟩
end Go.Proofs.Ytfjagcalfnjddaa
