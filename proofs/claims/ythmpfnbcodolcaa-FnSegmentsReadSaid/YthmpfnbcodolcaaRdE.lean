/-
  The program's characters: what a mode gives for a value.
  Condition: the value is below the number of characters.
-/
import Derived.Test.YthmpfnbcodolcaaSg1
import Derived.Test.YthmpfnbcodolcaaSgSz
import Derived.Test.YthmpfnbcodolcaaBox
namespace Go.Proofs.Ythmpfnbcodolcaa
open Go.RowKit
set_option linter.unusedSimpArgs false
set_option linter.unusedVariables false

theorem mdK_a (s : ByteArray) (z : Int) (n : Nat) (w : World) : (method (n + 1) 141 (.agg #[.string s, .int .i64 z]) "loop.example/g00879/impl.character").run Try.prog w = .ok (151, .agg #[.string s, .int .i64 z]) w := by kernel_rfl
theorem mdK_b (n : Nat) (w : World) : (method (n + 1) 143 (.agg #[]) "loop.example/g00879/impl.character").run Try.prog w = .ok (155, .agg #[]) w := by kernel_rfl
theorem naK_a (s : ByteArray) (z : Int) (n : Nat) (w : World) : (nilAhead (n + 1) 141 (.agg #[.string s, .int .i64 z]) "loop.example/g00879/impl.character").run Try.prog w = .ok (some false) w := by kernel_rfl
theorem naK_b (n : Nat) (w : World) : (nilAhead (n + 1) 143 (.agg #[]) "loop.example/g00879/impl.character").run Try.prog w = .ok (some false) w := by kernel_rfl

set_option maxRecDepth 100000 in
set_option maxHeartbeats 1000000 in
theorem implCharA (m : Int) (hm : m = 1 ∨ m = 2 ∨ m = 3) (s : ByteArray) (z : Int) (hs : bytesI s = chL m) (x : Nat) (hx : x < gbase m) (w : World) :
    Calls Try.prog 151 #[.agg #[.string s, .int .i64 z], .int .i64 x] w (Gives (.int .u8 (chr m (x : Int))) w) := by
  have hsz : s.size = gbase m := by rw [← bytesI_len, hs, ch_len hm]
  have hxs : x < s.size := by rw [hsz]; exact hx
  obtain ⟨q, hq, hq2, hq0, hq1⟩ := byteAt s hxs
  have HC := hide (show chr m (x : Int) = q by
    rw [chr, if_neg (by omega), List.getD_eq_getElem?_getD, Int.toNat_natCast, ← hs, hq2]; rfl)
  rw [HC.out]
  have hxI : (x : Int) < (s.size : Int) := by omega
  clear hq2 hm hs hx HC hsz
  go_enter Try.func151, Try.ntmps151
  go_wp2_with fail
  go_ret
  exact ⟨rfl, (Below.refl _ _).alloc (Nat.le_refl _) _⟩
set_option maxRecDepth 100000 in
set_option maxHeartbeats 1000000 in
theorem implCharB (x : Nat) (hx : x < 256) (w : World) :
    Calls Try.prog 155 #[.agg #[], .int .i64 x] w (Gives (.int .u8 (chr 4 (x : Int))) w) := by
  have hw : IntKind.u8.wrap (x : Int) = (x : Int) := by rw [IntKind.wrap_u8]; omega
  have HC := hide (show chr 4 (x : Int) = (x : Int) from rfl)
  rw [HC.out]
  clear HC
  go_enter Try.func155, Try.ntmps155
  go_wp2_with fail
  go_ret
  exact ⟨rfl, (Below.refl _ _).alloc (Nat.le_refl _) _⟩
end Go.Proofs.Ythmpfnbcodolcaa
