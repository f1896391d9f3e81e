/-
  The contracts of the draws of codes: what is drawn lies in bounds; only the source's own block changes.
  Condition: the code has at most 4096 bytes.
-/
import Derived.Test.YtpheembgjdgniaaCDraw1
namespace Go.Proofs.Ytpheembgjdgniaa
open Go.RowKit
set_option linter.unusedVariables false
set_option linter.unusedSimpArgs false

/-- A block that holds a code. -/
def Row5 (w : World) (N : Nat) (p k γ L C : Int) : Prop := w.heap[N]? = some (.cells #[.int .i64 p, .int .i64 k, .int .i64 γ, .int .i64 L, .int .i64 C] 27 (0, 0))
section
variable {w w' : World} {N : Nat} {p k γ L C : Int}
theorem Row5.lt (h : Row5 w N p k γ L C) : N < w.heap.size := (Array.getElem?_eq_some_iff.1 h).1
theorem Row5.src {g : Nat} (h : Row5 w N p k γ L C) (hg : w.grownBy w' (some g)) (hne : g ≠ N) : Row5 w' N p k γ L C := row_grown h hg hne
theorem Row5.below (h : Row5 w N p k γ L C) (hb : Below w.heap.size w w') : Row5 w' N p k γ L C := heap_below h hb
theorem Row5.alloc (h : Row5 w N p k γ L C) (o : Obj) : Row5 (w.alloc o) N p k γ L C := row_up h o
theorem Row5.own {row : Option Nat} (h : Row5 w N p k γ L C) (hg : w.grownBy w' row) (hr : ∀ b, row = some b → N < b) : Row5 w' N p k γ L C := by
  unfold Row5; rw [hg.block N h.lt (fun e => by have := hr _ e.symm; omega)]; exact h
theorem Row5.start (w : World) (p k γ L C : Int) : Row5 (w.alloc (.cells #[.int .i64 p, .int .i64 k, .int .i64 γ, .int .i64 L, .int .i64 C] 27)) w.heap.size p k γ L C := heap_alloc_new w _
theorem Row5.drew (h : Row5 w N p k γ L C) : Row5 w.drew N p k γ L C := h
end
theorem grown_sets {a w : World} {row : Option Nat} (h : a.grownBy w row) (N : Nat) (hN : a.heap.size ≤ N) (x0 x1 x2 x3 x4 : Value) :
    a.grownBy (((((w.setCell ⟨N, 0, none⟩ x0).setCell ⟨N, 1, none⟩ x1).setCell ⟨N, 2, none⟩ x2).setCell ⟨N, 3, none⟩ x3).setCell ⟨N, 4, none⟩ x4) row :=
  grown_set2 (grown_set2 (grown_set2 (grown_set2 (grown_set2 h N 0 _ hN) N 1 _ hN) N 2 _ hN) N 3 _ hN) N 4 _ hN
theorem src_sets {w : World} {g Bc N : Nat} {A : Option Addr} {n c : Nat} {code : List Int} (h : Src w g Bc A n c code) (hN : g < N) (x0 x1 x2 x3 x4 : Value) :
    Src (((((w.setCell ⟨N, 0, none⟩ x0).setCell ⟨N, 1, none⟩ x1).setCell ⟨N, 2, none⟩ x2).setCell ⟨N, 3, none⟩ x3).setCell ⟨N, 4, none⟩ x4) g Bc A n c code :=
  set1_src (set1_src (set1_src (set1_src (set1_src h hN 0 _) hN 1 _) hN 2 _) hN 3 _) hN 4 _

/-- What a draw of a code leaves; v tells whether its field is valid. -/
def DrawnC (v : Bool) (g Bc : Nat) (A : Option Addr) (n c : Nat) (code : List Int) (w : World) (x : Ending) (w' : World) : Prop :=
  ∃ p k γ L C : Int, x = .returned (.agg #[.int .i64 p, .int .i64 k, .int .i64 γ, .int .i64 L, .int .i64 C]) ∧ (v = true → fieldB p k γ = true ∧ 2 ≤ L ∧ 1 ≤ C) ∧ 0 ≤ L ∧ L ≤ 3000 ∧ 0 ≤ C ∧ C ≤ 3000 ∧ Src w' g Bc A n c code ∧ w.grownBy w' (some g)

/-- A field that lies in a block, and whether it is small. -/
def fsz (wr : World) (N : Nat) : Nat := match wr.heap[N]? with
  | some (Obj.cells cs _ _) => (match cs[0]?, cs[1]? with | some (Value.int _ p), some (Value.int _ k) => if sizeI p k < 5 then 1 else 0 | _, _ => 0)
  | _ => 0
theorem fsz_is {wr : World} {N : Nat} {p k γ : Int} {t : TypeId} {fr : Nat × Nat} (h : wr.heap[N]? = some (.cells #[.int .i64 p, .int .i64 k, .int .i64 γ] t fr)) : fsz wr N = if sizeI p k < 5 then 1 else 0 := by
  unfold fsz; rw [h]; rfl
theorem Src.drew' {w : World} {g Bc : Nat} {A : Option Addr} {n c : Nat} {code : List Int} (h : Src w g Bc A n c code) : Src w.drew g Bc A n c code := h
theorem grown_drew {a w : World} {row : Option Nat} (h : a.grownBy w row) : a.grownBy w.drew row := ⟨h.os, h.tape, h.output, h.size, h.block⟩
def LdRel (w : World) (g Bc : Nat) (A : Option Addr) (n c : Nat) (code : List Int) (N : Nat) (u : Value) (wr : World) : Prop :=
  ∃ (p k γ : Int) (q : Nat) (mul : Nat → Nat → Nat), wr.heap[N]? = some (.cells #[.int .i64 p, .int .i64 k, .int .i64 γ] 25 (0, 0)) ∧ Hid (fieldB p k γ = true ∧ Kd p k γ q mul ∧ q ≤ 256) ∧ Src wr g Bc A n c code ∧ Row5 wr w.heap.size 0 0 0 0 0 ∧ w.grownBy wr (some g)

set_option maxRecDepth 100000 in
set_option maxHeartbeats 4000000 in
theorem drawCodeV (g Bc : Nat) (A : Option Addr) (n c : Nat) (code : List Int) (w : World) (hS : Src w g Bc A n c code) :
    Calls Try.prog 92 #[.pointer (some ⟨g, 0, none⟩)] w (DrawnC true g Bc A n c code w) := by
  have hgl := hS.lt
  have HS := hide ((hS.still (World.grownBy_alloc w (.cells #[.int .i64 0, .int .i64 0, .int .i64 0, .int .i64 0, .int .i64 0] 27) none) (by simp)))
  have HZ := hide (Row5.start w 0 0 0 0 0)
  clear hS
  go_enter Try.func92, Try.ntmps92
  go_wp2_with fail
  refine (drawFieldV g Bc A n c code _ HS.out).mono ?_
  rintro e w1 ⟨p, k, γ, q, mul, rfl, hf, hK, hq, hs, hg⟩
  have HS1 := hide (hs.still (World.grownBy_alloc w1 (.cells #[.int .i64 p, .int .i64 k, .int .i64 γ] 25) none) (by simp))
  have HZ1 := hide ((HZ.out.src hg (by omega)).alloc (.cells #[.int .i64 p, .int .i64 k, .int .i64 γ] 25))
  have HG1 := hide (grown_alloc (grown_trans (World.grownBy_alloc w _ (some g)) hg) (.cells #[.int .i64 p, .int .i64 k, .int .i64 γ] 25))
  have HF1 := hide (heap_alloc_new w1 (.cells #[.int .i64 p, .int .i64 k, .int .i64 γ] 25 (0, 0)))
  have hl1 : w.heap.size < w1.heap.size := (HZ.out.src hg (by omega)).lt
  have HQ1 := hide (And.intro hf (And.intro hK hq))
  clear hs hg hf hK hq
  go_wp2_with fail
  obtain ⟨N, hN⟩ : ∃ N, N = w1.heap.size := ⟨_, rfl⟩
  rw [← hN] at HF1
  have hwN : w.heap.size < N := by omega
  have hgN : g < N := by omega
  go_loopw [8] (fun u wr => LdRel w g Bc A n c code N u wr) (fun _ wr => fsz wr N)
  case atStart => exact ⟨p, k, γ, q, mul, HF1.out, HQ1.out, HS1.out, HZ1.out, HG1.out⟩
  case round =>
    clear HF1 HQ1 HS1 HZ1 HG1 HS HZ
    obtain ⟨p, k, γ, q, mul, HF, HQ, HS, HZ, HG⟩ := hrel
    have HF := hide HF
    have HS := hide HS
    have HZ := hide HZ
    have HG := hide HG
    rw [← hN]
    clear hN
    obtain ⟨c0, c1, c2⟩ := cells3 HF.out
    have HM := hide (fsz_is HF.out)
    rw [HQ.out.2.1.size] at HM
    have hq3 := HQ.out.2.1.big.1
    have hq256 := HQ.out.2.2
    by_cases hlt : (q : Int) < 5
    · have HM1 := hide (show fsz wr N = 1 by rw [HM.out, if_pos hlt])
      go_wp2_with fail
      refine (specSize HQ.out.2.1 _).mono ?_
      rintro e w2 ⟨rfl, hb⟩
      have HF2 := hide (heap_below HF.out hb)
      have HS2 := hide (HS.out.below hb HS.out.lt)
      have HZ2 := hide (HZ.out.below hb)
      have HG2 := hide (grown_below HG.out hb HG.out.size)
      clear hb c0 c1 c2
      go_wp2_with fail
      refine (specFieldOf 7 _).mono ?_
      rintro e w3 ⟨rfl, hb⟩
      have HF3 := hide (heap_below HF2.out hb)
      have HS3 := hide (HS2.out.below hb HS2.out.lt)
      have HZ3 := hide (HZ2.out.below hb)
      have HG3 := hide (grown_below HG2.out hb HG2.out.size)
      obtain ⟨hfz, hfs⟩ := fo_size (s := 7) (by simp [Size12])
      obtain ⟨q', mul', hK', hq'⟩ := size_kd hfz hfs
      have HQ3 := hide (And.intro hfz (And.intro hK' (show q' ≤ 256 by omega)))
      have HQ7 := hide hq'
      clear hb hfz hfs hK' hq'
      generalize foP 7 = p' at HQ3
      generalize foK 7 = k' at HQ3
      generalize foG 7 = γ' at HQ3
      generalize foC 7 = cc
      obtain ⟨c0, c1, c2⟩ := cells3 HF3.out
      have e0 : w3.frozen? ⟨N, 0, none⟩ = false := frozen_of_row w3 _ 0 _ _ HF3.out
      have e1 : w3.frozen? ⟨N, 1, none⟩ = false := frozen_of_row w3 _ 1 _ _ HF3.out
      have e2 : w3.frozen? ⟨N, 2, none⟩ = false := frozen_of_row w3 _ 2 _ _ HF3.out
      have HF4 := hide (show (((w3.setCell ⟨N, 0, none⟩ (.int .i64 p')).setCell ⟨N, 1, none⟩ (.int .i64 k')).setCell ⟨N, 2, none⟩ (.int .i64 γ')).heap[N]? = some (.cells #[.int .i64 p', .int .i64 k', .int .i64 γ'] 25 (0, 0)) from heap_setCell_same _ N 2 _ _ _ (heap_setCell_same _ N 1 _ _ _ (heap_setCell_same w3 N 0 _ _ _ HF3.out)))
      have HM4 := hide (fsz_is (p := p') (k := k') (γ := γ') HF4.out)
      rw [HQ3.out.2.1.size, ← HQ7.out, if_neg (by omega)] at HM4
      have HZ4 := hide (show Row5 (((w3.setCell ⟨N, 0, none⟩ (.int .i64 p')).setCell ⟨N, 1, none⟩ (.int .i64 k')).setCell ⟨N, 2, none⟩ (.int .i64 γ')) w.heap.size 0 0 0 0 0 from
        HZ3.out.own (grown_set (grown_set (grown_set (World.grownBy.refl _ _) 0 _) 1 _) 2 _) (fun b hb => by injection hb with hb; omega))
      go_wp2_with fail
      go_roundw
      case rel => exact ⟨p', k', γ', q', mul', HF4.out, HQ3, set3_src HS3.out hgN _ _ _, HZ4.out, set3_grown HG3.out N (Nat.le_of_lt hwN) _ _ _⟩
      case measure =>
        show fsz _ _ < fsz _ _
        rw [HM1.out, HM4.out]; exact Nat.zero_lt_one
    · have hd : decide ((q : Int) < 5) = false := by simpa using hlt
      go_wp2_with fail
      refine (specSize HQ.out.2.1 _).mono ?_
      rintro e w2 ⟨rfl, hb⟩
      have HF2 := hide (heap_below HF.out hb)
      have HS2 := hide (HS.out.below hb HS.out.lt)
      have HZ2 := hide (HZ.out.below hb)
      have HG2 := hide (grown_below HG.out hb HG.out.size)
      clear hb c0 c1 c2
      obtain ⟨c0, c1, c2⟩ := cells3 HF2.out
      go_wp2_with fail
      refine (specSize HQ.out.2.1 _).mono ?_
      rintro e w3 ⟨rfl, hb⟩
      have HF3 := hide (heap_below HF2.out hb)
      have HS3 := hide (HS2.out.below hb HS2.out.lt)
      have HZ3 := hide (HZ2.out.below hb)
      have HG3 := hide (grown_below HG2.out hb HG2.out.size)
      clear hb c0 c1 c2 hlt
      go_wp2_with fail
      refine (next_any g Bc A n c code (min 14 ((q : Int) - 3)) _ HS3.out (by omega)).mono ?_
      rintro e w4 ⟨y, rfl, hy0, hy1, hs, hg⟩
      have hy13 : y ≤ 13 := by omega
      have HF4 := hide (row_grown HF3.out hg (by omega))
      have HS4 := hide hs
      have HZ4 := hide (HZ3.out.src hg (by omega))
      have HG4 := hide (grown_trans HG3.out hg)
      clear hs hg hy1
      obtain ⟨c0, c1, c2⟩ := cells3 HF4.out
      have hw1 : IntKind.i64.wrap (2 + y - 1) = y + 1 := by rw [IntWalk.i64_in _ ⟨by omega, by omega⟩]; omega
      go_wp2_with fail
      go_region_with (go_at_call 55; refine (next_any g Bc A n c code (y + 1) _ HS4.out.drew' (by omega)).mono ?_; rintro e w5 ⟨z, rfl, hz0, hz1, hs, hg⟩; have hz14 : z ≤ 14 := (by omega); have hw2 : IntKind.i64.wrap (1 + z) = 1 + z := IntWalk.i64_in _ ⟨by omega, by omega⟩; have HS5 := hide hs; have HZ5 := hide (HZ4.out.drew.src hg (by omega)); have HG5 := hide (grown_trans (grown_drew HG4.out) hg); obtain ⟨d0, d1, d2⟩ := cells3 (row_grown (w := w4.drew) HF4.out hg (by omega)); obtain ⟨z0, z1, z2, z3, z4, f0, f1, f2, f3, f4⟩ := row5 HZ5.out; clear hs hg)
      all_goals
        go_wp2_with fail
        refine bodyPost_ret (v := .agg #[.int .i64 p, .int .i64 k, .int .i64 γ, .int .i64 (2 + y), .int .i64 (1 + z)]) (by simp [results, Try.results92, go_sem, z0, z1, z2, z3, z4]) rfl ⟨p, k, γ, _, _, rfl, fun _ => ⟨HQ.out.1, by omega, by omega⟩, by omega, by omega, by omega, by omega, src_sets HS5.out hgl _ _ _ _ _, grown_sets HG5.out _ (Nat.le_refl _) _ _ _ _ _⟩
end Go.Proofs.Ytpheembgjdgniaa
