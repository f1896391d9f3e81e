/-
  The model's draw of a message of parts in several modes: anything may come, within bounds.
  Condition: as each statement says.
-/
import Derived.Test.YthbmfaogjaahoaaSgDraw
import Derived.Test.YthbmfaogjaahoaaLawKit
namespace Go.Proofs.Ythbmfaogjaahoaa
open Go.RowKit
set_option linter.unusedSimpArgs false
set_option linter.unusedVariables false

/-- What a draw of a message leaves. -/
def DrawnM (g Bc : Nat) (A : Option Addr) (n c : Nat) (code : List Int) (w : World) (x : Ending) (w' : World) : Prop :=
  ∃ s : ByteArray, x = .returned (.string s) ∧ s.size ≤ 4004 ∧ Src w' g Bc A n c code ∧ w.grownBy w' (some g)
def SwRel (g Bc : Nat) (A : Option Addr) (n c : Nat) (code : List Int) (w : World) (v i : Value) (wr : World) : Prop :=
  ∃ (s : ByteArray) (t : Int), v = .string s ∧ i = .int .i64 t ∧ 0 ≤ t ∧ t ≤ 3 ∧ (s.size : Int) ≤ 1001 * (3 - t) ∧ Src wr g Bc A n c code ∧ w.grownBy wr (some g)
def SevRel (v : Value) (w wr : World) : Prop := ∃ s : ByteArray, v = .string s ∧ s.size ≤ 260 ∧ wr = w

set_option maxRecDepth 100000 in
set_option maxHeartbeats 2000000 in
theorem drawMsg (g Bc : Nat) (A : Option Addr) (n c : Nat) (code : List Int) (w : World) (hS : Src w g Bc A n c code) :
    Calls Try.prog 67 #[.pointer (some ⟨g, 0, none⟩)] w (DrawnM g Bc A n c code w) := by
  have HS := hide hS
  have hg := hS.lt
  clear hS
  go_enter Try.func67, Try.ntmps67
  go_wp2_with fail
  refine (next_any g Bc A n c code 4 _ HS.out (by omega)).mono ?_
  rintro e w1 ⟨y, rfl, hy0, hy1, hs1, hg1⟩
  have HS1 := hide hs1
  have HG1 := hide hg1
  clear hs1 hg1
  go_wp2_with fail
  go_loopw [3, 4] (fun v i wr => SwRel g Bc A n c code w v i wr) (fun _ i _ => (intOf i).toNat)
  case atStart => exact ⟨⟨#[]⟩, y, rfl, rfl, hy0, by omega, by show ((0 : Nat) : Int) ≤ _; omega, HS1.out, HG1.out⟩
  case round =>
    clear HS1 HG1
    obtain ⟨s, t, hv, rfl, ht0, ht3, hz, hs, hgr⟩ := hrel
    subst hv
    have HSr := hide hs
    have HG := hide hgr
    clear hs hgr
    by_cases hpos : 0 < t
    · go_wp2_with fail
      refine (next_any g Bc A n c code 4 wr HSr.out (by omega)).mono ?_
      rintro e w2 ⟨x, rfl, hx0, hx1, hs2, hg2⟩
      have HS2 := hide hs2
      have HG2 := hide (grown_trans HG.out hg2)
      have hwx : IntKind.i64.wrap (1 + x) = 1 + x := IntWalk.i64_in _ ⟨by omega, by omega⟩
      clear hs2 hg2
      go_wp2_with fail
      refine (drawText g Bc A n c code (1 + x) 10 w2 HS2.out (by omega) (by omega) (by omega)).mono ?_
      rintro e w3 ⟨q, rfl, hq, hs3, hg3⟩
      have HS3 := hide hs3
      have HG3 := hide (grown_trans HG2.out hg3)
      have HSZ := hide (show (((s ++ q).size : Nat) : Int) ≤ 1001 * (3 - (t - 1)) by rw [ByteArray.size_append]; omega)
      have hwt : IntKind.i64.wrap (t - 1) = t - 1 := IntWalk.i64_in _ ⟨by omega, by omega⟩
      clear hs3 hg3
      go_wp2_with fail
      go_roundw
      case rel => exact ⟨s ++ q, t - 1, rfl, rfl, by omega, by omega, HSZ.out, HS3.out, HG3.out⟩
      case measure => simp [intOf]; omega
    · obtain rfl : t = 0 := by omega
      go_wp2_with fail
      refine (next_any g Bc A n c code 60 wr HSr.out (by omega)).mono ?_
      rintro e w2 ⟨x, rfl, hx0, hx1, hs2, hg2⟩
      have HS2 := hide hs2
      have HG2 := hide (grown_trans HG.out hg2)
      clear hs2 hg2
      by_cases e0 : x = 0
      · have ez : (x == 0) = true := by simpa using e0
        clear e0
        go_wp2_with fail
        refine (next_any g Bc A n c code 2 w2 HS2.out (by omega)).mono ?_
        rintro e w3 ⟨z, rfl, hz0, hz1, hs3, hg3⟩
        obtain ⟨z, rfl⟩ : ∃ q : Nat, z = q := ⟨z.toNat, by omega⟩
        have HS3 := hide hs3
        have HG3 := hide (grown_trans HG2.out hg3)
        have hwz : IntKind.i64.wrap (400 + (z : Int)) = ((400 + z : Nat) : Int) := by rw [IntWalk.i64_in _ ⟨by omega, by omega⟩]; omega
        obtain ⟨N, hN⟩ : ∃ N, 400 + z = N := ⟨_, rfl⟩
        rw [hN] at hwz
        have hN4 : N ≤ 402 := by omega
        clear hs3 hg3 hN
        go_wp2_with (at_make; go_loud (refine wpList_mkN _ rfl _ _ _ rfl elem8 .i64 .i64 _ _ N rfl rfl rfl rfl (by omega) ?_; intro w4 hown hbel; have HO4 := hide hown; have HB4 := hide hbel; have hconv := run_str w4 elem8 Try.underlying5 Try.underlying9 N (hown.ints' (by simp)); clear hown hbel))
        go_ret
        exact ⟨strOf (List.replicate N 0), rfl, by rw [strOf_size]; simp; omega, HS3.out.below HB4.out HS3.out.lt, grown_below HG3.out (HB4.out.mono (Nat.le_trans HG3.out.size (Nat.le_refl _)))⟩
      · have ez : (x == 0) = false := by simpa using e0
        by_cases e1 : x = 1
        · have ey : (x == 1) = true := by simpa using e1
          clear e0 e1
          go_wp2_with fail
          go_loopw [3] (fun v wr' => SevRel v w2 wr') (fun v _ => 260 - (match v with | .string s => s.size | _ => 0))
          case atStart => exact ⟨⟨#[]⟩, rfl, by show 0 ≤ _; omega, rfl⟩
          case round =>
            obtain ⟨q, hv, hq, rfl⟩ := hrel
            subst hv
            by_cases hlt : q.size < 260
            · have HSQ := hide (show (q ++ ⟨#[55]⟩ : ByteArray).size = q.size + 1 by rw [ByteArray.size_append]; rfl)
              go_wp2_with fail
              go_roundw
              case rel => exact ⟨_, rfl, by rw [HSQ.out]; omega, rfl⟩
              case measure => show 260 - (q ++ ⟨#[55]⟩ : ByteArray).size < 260 - q.size; rw [HSQ.out]; omega
            · go_wp2_with fail
              go_ret
              exact ⟨q, rfl, by omega, HS2.out, HG2.out⟩
        · have ey : (x == 1) = false := by simpa using e1
          clear e0 e1
          go_wp2_with fail
          go_ret
          exact ⟨s, rfl, by omega, HS2.out, HG2.out⟩
end Go.Proofs.Ythbmfaogjaahoaa
