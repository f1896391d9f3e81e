/-
  The contracts of the model's draws of bit lists and strings: any list or string may come, within bounds, in new memory.
  Condition: the code has at most 4096 bytes.
-/
import Derived.Test.YthmpfnbcodolcaaDraw
import Derived.Test.YthmpfnbcodolcaaStr
namespace Go.Proofs.Ythmpfnbcodolcaa
open Go.RowKit

/-- What a draw of a list leaves. -/
def DrawnL (g Bc : Nat) (A : Option Addr) (n c : Nat) (code : List Int) (w : World) (x : Ending) (w' : World) : Prop :=
  ∃ (zs : List Int) (v : Value), x = .returned v ∧ zs.length ≤ 10000 ∧ (∀ y ∈ zs, -1 ≤ y ∧ y ≤ 2) ∧ Own w' w.heap.size 2 .i64 v zs ∧ Src w' g Bc A n c code ∧ w.grownBy w' (some g)

set_option maxHeartbeats 1000000 in
theorem drawBits (g Bc : Nat) (A : Option Addr) (n c : Nat) (code : List Int) (most : Int) (w : World) (hS : Src w g Bc A n c code) (hm0 : 0 ≤ most) (hm1 : most ≤ 1000) :
    Calls Try.prog 45 #[.pointer (some ⟨g, 0, none⟩), .int .i64 most] w (DrawnL g Bc A n c code w) := by
  have HS := hide hS
  have hg := hS.lt
  clear hS
  go_enter Try.func45, Try.ntmps45
  go_wp2_with fail
  refine (next_any g Bc A n c code _ _ (HS.out.still (World.grownBy_alloc w _ none) (by simp)) (by omega)).mono ?_
  rintro e w1 ⟨y, rfl, hy0, hy1, hs1, hg1⟩
  have HS1 := hide hs1
  have HG1 := hide (grown_trans (World.grownBy_alloc w _ (some g)) hg1)
  have HO1 := hide ((Own.lit0 w 2 .i64).grown hg1 (own_src (w := w) (Own.lit0 w 2 .i64) hg))
  clear hs1 hg1
  go_wp2_with fail
  go_loopw [5, 6] (fun v i wr => DrawRel g Bc A n c code 2 .i64 1001 0 1 w v i wr) (fun _ i _ => (intOf i).toNat)
  case atStart => exact ⟨[], y, rfl, hy0, by simp; omega, by simp, HO1, HS1, HG1⟩
  case round =>
    clear HO1 HS1 HG1
    obtain ⟨v, rfl⟩ : ∃ v : Value, v = u5 := ⟨_, rfl⟩
    obtain ⟨zs, t, rfl, ht0, ht1, hzs, hOwn, hSrc, hgr⟩ := hrel
    have HZ := hide hzs
    have HO := hide hOwn
    have HSr := hide hSrc
    have HG := hide hgr
    clear hzs hOwn hSrc hgr
    have hbz : w.heap.size ≤ wr.heap.size := HG.out.size
    by_cases hpos : 0 < t
    · go_wp2_with fail
      refine (next_any g Bc A n c code 2 wr HSr (by omega)).mono ?_
      rintro e w2 ⟨x, rfl, hx0, hx1, hs2, hg2⟩
      have HS2 := hide hs2
      have HG2 := hide hg2
      have HO2 := hide (HO.out.grown hg2 (own_src HO.out hg))
      have hbz2 : w.heap.size ≤ w2.heap.size := Nat.le_trans hbz hg2.size
      clear hs2 hg2
      go_wp2_with (at_builtin; refine wpList_app1 w2 rfl _ _ _ rfl elem64 w.heap.size v _ rfl HO2.out x rfl (by omega) hbz2 ?_; intro v3 w3 hown3 hgr3)
      have HO3 := hide hown3
      have HG3 := hide (grown_more (grown_trans HG.out HG2.out) hgr3 (fun r hr => (HO2.out.lt hr).1))
      have HS3 := hide (HS2.out.still hgr3 (fun r hr => by have := (HO2.out.lt hr).1; omega))
      clear hown3 hgr3
      go_wp2_with fail
      go_roundw
      case rel =>
        refine ⟨zs ++ [x], t - 1, by go_num, by omega, by simp; omega, ?_, HO3, HS3, HG3⟩
        intro q hq
        rcases List.mem_append.1 hq with h | h
        · exact HZ.out q h
        · simp at h; subst h; omega
      case measure => simp [intOf]; omega
    · clear hy0 hy1
      go_wp2_with fail
      refine (next_any g Bc A n c code 40 wr HSr (by omega)).mono ?_
      rintro e w2 ⟨x, rfl, hx0, hx1, hs2, hg2⟩
      have HS2 := hide hs2
      have HG2 := hide (grown_trans HG.out hg2)
      have HO2 := hide (HO.out.grown hg2 (own_src HO.out hg))
      have hbz2 : w.heap.size ≤ w2.heap.size := Nat.le_trans hbz hg2.size
      clear hs2 hg2
      have HZ2 := hide (show ∀ y ∈ zs, -1 ≤ y ∧ y ≤ 2 from fun q hq => by have := HZ.out q hq; omega)
      by_cases h0 : x = 0
      · subst h0
        go_wp2_with fail
        refine (next_any g Bc A n c code 2 _ (HS2.out.still (World.grownBy_alloc w2 _ none) (by simp)) (by omega)).mono ?_
        rintro e w3 ⟨x, rfl, hx0, hx1, hs3, hg3⟩
        have k0 : w3.cell? ⟨w2.heap.size, 0, none⟩ = some (.int .i64 2) := by
          rw [grown_cell hg3 (by simp) (fun h => by simp at h; omega), World.cell?_alloc_at _ _ _ _ rfl]; rfl
        have k1 : w3.cell? ⟨w2.heap.size, 1, none⟩ = some (.int .i64 (-1)) := by
          rw [grown_cell hg3 (by simp) (fun h => by simp at h; omega), World.cell?_alloc_at _ _ _ _ rfl]; rfl
        have HS3 := hide hs3
        have HO3 := hide ((HO2.out.alloc _).grown hg3 (own_src HO2.out hg))
        have HG3 := hide (grown_trans (grown_trans HG2.out (World.grownBy_alloc w2 _ _)) hg3)
        have hbz3 : w.heap.size ≤ w3.heap.size := HG3.out.size
        clear hs3 hg3
        rcases (show x = 0 ∨ x = 1 by omega) with rfl | rfl
        · go_wp2_with (at_builtin; refine wpList_app1 w3 rfl _ _ _ rfl elem64 w.heap.size v _ rfl HO3.out 2 rfl (by omega) hbz3 ?_; intro v4 w4 hown4 hgr4)
          have HG4 := hide (grown_more HG3.out hgr4 (fun r hr => (HO3.out.lt hr).1))
          have HS4 := hide (HS3.out.still hgr4 (fun r hr => by have := (HO3.out.lt hr).1; omega))
          have HO4 := hide hown4
          clear hown4 hgr4
          go_wp2_with fail
          go_ret
          refine ⟨zs ++ [2], _, rfl, by simp; omega, ?_, HO4, HS4, HG4⟩
          intro q hq
          rcases List.mem_append.1 hq with h | h
          · exact HZ2.out q h
          · simp at h; subst h; omega
        · go_wp2_with (at_builtin; refine wpList_app1 w3 rfl _ _ _ rfl elem64 w.heap.size v _ rfl HO3.out (-1) rfl (by omega) hbz3 ?_; intro v4 w4 hown4 hgr4)
          have HG4 := hide (grown_more HG3.out hgr4 (fun r hr => (HO3.out.lt hr).1))
          have HS4 := hide (HS3.out.still hgr4 (fun r hr => by have := (HO3.out.lt hr).1; omega))
          have HO4 := hide hown4
          clear hown4 hgr4
          go_wp2_with fail
          go_ret
          refine ⟨zs ++ [-1], _, rfl, by simp; omega, ?_, HO4, HS4, HG4⟩
          intro q hq
          rcases List.mem_append.1 hq with h | h
          · exact HZ2.out q h
          · simp at h; subst h; omega
      · by_cases h1 : x = 1
        · subst h1
          go_wp2_with fail
          refine (next_any g Bc A n c code 3 w2 HS2 (by omega)).mono ?_
          rintro e w3 ⟨x, rfl, hx0, hx1, hs3, hg3⟩
          obtain ⟨q, rfl⟩ : ∃ q : Nat, x = q := ⟨x.toNat, by omega⟩
          have HS3 := hide hs3
          have HG3 := hide (grown_trans HG2.out hg3)
          have hbz3 : w.heap.size ≤ w3.heap.size := HG3.out.size
          clear hs3 hg3
          go_wp2_with (at_make; refine wpList_mkN w3 rfl _ _ _ rfl elem64 .i64 .i64 _ _ (8191 + q) rfl rfl (by omega) (by omega) (by omega) ?_; intro w4 hown4 hbel4; have HO4 := hide hown4; have HB4 := hide hbel4; clear hown4 hbel4)
          go_ret
          refine ⟨List.replicate (8191 + q) 0, _, rfl, by simp; omega, ?_, HO4.out.base_le hbz3, HS3.out.below HB4 HS3.out.lt, grown_below HG3.out (HB4.out.mono hbz3)⟩
          intro r hr
          have := List.eq_of_mem_replicate hr
          omega
        · have e0 : (x == 0) = false := by simpa using h0
          have e1 : (x == 1) = false := by simpa using h1
          go_wp2_with fail
          go_ret
          exact ⟨zs, v, rfl, by omega, HZ2, HO2, HS2, HG2⟩

/-- What a draw of a string leaves. -/
def DrawnS (g Bc : Nat) (A : Option Addr) (n c : Nat) (code : List Int) (w : World) (x : Ending) (w' : World) : Prop :=
  ∃ s : ByteArray, x = .returned (.string s) ∧ s.size ≤ 1001 ∧ Src w' g Bc A n c code ∧ w.grownBy w' (some g)

end Go.Proofs.Ythmpfnbcodolcaa
