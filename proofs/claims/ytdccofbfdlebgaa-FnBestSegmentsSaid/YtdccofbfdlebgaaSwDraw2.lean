/-
  The model's draw of a message and a list of segments: anything may come, within bounds.
  Condition: the code has at most 4096 bytes.
-/
import Derived.Test.YtdccofbfdlebgaaSwDraw
import Derived.Test.YtdccofbfdlebgaaWm1
import Derived.Test.YtdccofbfdlebgaaDpC
namespace Go.Proofs.Ytdccofbfdlebgaa
open Go Go.RowKit
set_option linter.unusedSimpArgs false
set_option linter.unusedVariables false

/-- A list of segments of a draw's own. -/
def Sgs (w : World) (b0 : Nat) (A : Option Addr) (n c : Nat) (W : World) : Prop :=
  ∃ (M : Nat → Int) (T : Nat → ByteArray), (∀ j, j < n → (T j).size ≤ 255) ∧ OwnS W b0 (.slice A n c) n (segV M T)
def DrawnSg (w : World) (x : Ending) (w' : World) : Prop :=
  ∃ (s : ByteArray) (A : Option Addr) (n c : Nat) (M : Nat → Int) (T : Nat → ByteArray), x = .returned (.tuple #[.string s, .slice A n c]) ∧ s.size ≤ 5000 ∧ n ≤ 400 ∧ (∀ j, j < n → (T j).size ≤ 255) ∧ Segs w' w'.heap.size A n M T ∧ Below w.heap.size w w'
theorem bs_size (s : ByteArray) : ∀ j, j < bsN s → (sgT s j).size ≤ 255 := by
  intro j hj
  unfold bsN at hj
  split at hj
  · exact (sgT_size s hj).2
  · omega
theorem own_srcS {w wr : World} {g b n : Nat} {v : Value} {f : Nat → Value} (hO : OwnS wr b v n f) (hg : g < b) : v.ownBlock = none ∨ v.ownBlock ≠ some g := by
  rcases hv : v.ownBlock with _ | r
  · exact .inl rfl
  · exact .inr (fun h => by have := (World.ownsRow.lt hO r hv).1; injection h; omega)
theorem drawn_sg {w W : World} {b0 : Nat} {A : Option Addr} {n c : Nat} {M : Nat → Int} {T : Nat → ByteArray} {s : ByteArray} (hs : s.size ≤ 5000) (hn : n ≤ 400) (hT : ∀ j, j < n → (T j).size ≤ 255) (ho : OwnS W b0 (.slice A n c) n (segV M T)) (hb : Below w.heap.size w W) : DrawnSg w (.returned (.tuple #[.string s, .slice A n c])) W :=
  ⟨s, A, n, c, M, T, rfl, hs, hn, hT, ho.segs, hb⟩

set_option maxRecDepth 100000 in
set_option maxHeartbeats 2000000 in
theorem drawIsg (A : Option Addr) (n c : Nat) (code : List Int) (w : World) (hI : Ints .u8 w w.heap.size A n code) (hn : n ≤ 4096) (hby : ∀ b ∈ code, 0 ≤ b ∧ b ≤ 255) :
    Calls Try.prog 53 #[.slice A n c] w (DrawnSg w) := by
  have HI := hide hI
  have HBY := hide hby
  clear hI hby
  go_enter Try.func53, Try.ntmps53
  go_wp2_with fail
  refine (from_any A n c code w HI.out hn HBY.out).mono ?_
  rintro e w1 ⟨rfl, hs1, hb1⟩
  have HD1 := hide (show Dn w A n c code w1 from ⟨hs1, hb1⟩)
  clear hs1 hb1
  go_wp2_with fail
  refine (drawMsg _ _ A n c code w1 HD1.out.1).mono ?_
  rintro e w2 ⟨s, rfl, hs, hs2, hg2⟩
  have HD2 := hide (show Dn w A n c code w2 from ⟨hs2, dn_below HD1.out hg2⟩)
  clear hs2 hg2
  go_wp2_with fail
  refine (specBs s (by omega) w2).mono ?_
  rintro e w3 ⟨A3, c3, rfl, hc3, hc3', ho3, hb3⟩
  have hlt2 : w.heap.size < w2.heap.size := HD2.out.1.lt
  have HD3 := hide (show Dn w A n c code w3 from ⟨HD2.out.1.below hb3 hlt2, HD2.out.2.trans (hb3.mono HD2.out.2.size)⟩)
  have HO3 := hide ho3
  have HTS := hide (bs_size s)
  have hN := bsN_le s
  obtain ⟨N, hNe⟩ : ∃ N, bsN s = N := ⟨_, rfl⟩
  obtain ⟨M, hM⟩ : ∃ M, sgM s = M := ⟨_, rfl⟩
  obtain ⟨T, hT⟩ : ∃ T, sgT s = T := ⟨_, rfl⟩
  rw [hNe, hM, hT] at HO3
  rw [hNe, hT] at HTS
  rw [hNe] at hN hc3 ⊢
  clear ho3 hb3 hNe hM hT
  go_wp2_with fail
  refine (next_any _ _ A n c code 3 w3 HD3.out.1 (by omega)).mono ?_
  rintro e w4 ⟨x, rfl, hx0, hx1, hs4, hg4⟩
  have HD4 := hide (show Dn w A n c code w4 from ⟨hs4, dn_below HD3.out hg4⟩)
  have HO4 := hide (HO3.out.grown hg4 (own_srcS (w := w) HO3.out hlt2))
  clear hs4 hg4 HO3
  by_cases hc : x = 0 ∧ 0 < N
  · obtain ⟨rfl, hN0⟩ := hc
    have ez : ((0 : Int) == 0) = true := rfl
    obtain ⟨g3, c3', hA3, hg3, hg3', hc3x⟩ := HO4.out.form hN0
    simp only [Value.slice.injEq] at hA3
    obtain ⟨rfl, _, rfl⟩ := hA3
    go_wp2_with fail
    refine (next_any _ _ A n c code 4 w4 HD4.out.1 (by omega)).mono ?_
    rintro e w5 ⟨y, rfl, hy0, hy1, hs5, hg5⟩
    have HD5 := hide (show Dn w A n c code w5 from ⟨hs5, dn_below HD4.out hg5⟩)
    have HO5 := hide (HO4.out.grown hg5 (own_srcS (w := w) HO4.out hlt2))
    have e0 := HO5.out.cell (i := 0) (by omega)
    have f0 := HO5.out.frozen 0
    have hwy : IntKind.i64.wrap (1 + y) = 1 + y := IntWalk.i64_in _ ⟨by omega, by omega⟩
    obtain ⟨p1, p2⟩ := HO5.out.put 0 (.int .i64 (1 + y))
    have HO6 := hide (p1.congr (f' := segV (fun j => if j = 0 then 1 + y else M j) T) (fun i hi => by
      unfold segV
      by_cases h0 : i = 0
      · subst h0; rfl
      · rw [if_neg h0]
        by_cases h2 : i % 2 = 0
        · rw [if_pos h2, if_pos h2]; show Value.int .i64 (if i / 2 = 0 then 1 + y else M (i / 2)) = _; rw [if_neg (by omega)]
        · rw [if_neg h2, if_neg h2]))
    have HD6 := hide (show Dn w A n c code (w5.setCell ⟨g3, 0, none⟩ (.int .i64 (1 + y))) from ⟨HD5.out.1.still p2 (fun r hr => by cases hr; omega), HD5.out.2.grown p2 HD5.out.2.size (fun r hr => by cases hr; omega)⟩)
    clear hs5 hg5 p1 p2 HO4 HD4
    go_wp2_with fail
    refine (next_any _ _ A n c code 8 _ HD6.out.1 (by omega)).mono ?_
    rintro e w7 ⟨z, rfl, hz0, hz1, hs7, hg7⟩
    have HD7 := hide (show Dn w A n c code w7 from ⟨hs7, dn_below HD6.out hg7⟩)
    have HO7 := hide (HO6.out.grown hg7 (own_srcS (w := w) HO6.out hlt2))
    clear hs7 hg7
    by_cases ez8 : z = 0
    · have ezz : (z == 0) = true := by simpa using ez8
      have HSX := hide (show (s ++ ⟨#[120]⟩ : ByteArray).size ≤ 5000 by rw [ByteArray.size_append]; show s.size + 1 ≤ _; omega)
      clear ez8
      go_wp2_with fail
      go_ret2
      exact drawn_sg HSX.out hN HTS.out HO7.out HD7.out.2
    · have ezz : (z == 0) = false := by simpa using ez8
      clear ez8
      go_wp2_with fail
      go_ret2
      exact drawn_sg (by omega) hN HTS.out HO7.out HD7.out.2
  · have hc' : (x == 0) = false ∨ ((x == 0) = true ∧ N = 0) := by
      by_cases h : x = 0
      · exact .inr ⟨by simpa using h, by omega⟩
      · exact .inl (by simpa using h)
    clear hc
    rcases hc' with ez | ⟨ez, rfl⟩
    · go_wp2_with fail
      refine (next_any _ _ A n c code 8 w4 HD4.out.1 (by omega)).mono ?_
      rintro e w7 ⟨z, rfl, hz0, hz1, hs7, hg7⟩
      have HD7 := hide (show Dn w A n c code w7 from ⟨hs7, dn_below HD4.out hg7⟩)
      have HO7 := hide (HO4.out.grown hg7 (own_srcS (w := w) HO4.out hlt2))
      clear hs7 hg7
      by_cases ez8 : z = 0
      · have ezz : (z == 0) = true := by simpa using ez8
        have HSX := hide (show (s ++ ⟨#[120]⟩ : ByteArray).size ≤ 5000 by rw [ByteArray.size_append]; show s.size + 1 ≤ _; omega)
        clear ez8
        go_wp2_with fail
        go_ret2
        exact drawn_sg HSX.out hN HTS.out HO7.out HD7.out.2
      · have ezz : (z == 0) = false := by simpa using ez8
        clear ez8
        go_wp2_with fail
        go_ret2
        exact drawn_sg (by omega) hN HTS.out HO7.out HD7.out.2
    · go_wp2_with fail
      refine (next_any _ _ A n c code 8 w4 HD4.out.1 (by omega)).mono ?_
      rintro e w7 ⟨z, rfl, hz0, hz1, hs7, hg7⟩
      have HD7 := hide (show Dn w A n c code w7 from ⟨hs7, dn_below HD4.out hg7⟩)
      have HO7 := hide (HO4.out.grown hg7 (own_srcS (w := w) HO4.out hlt2))
      clear hs7 hg7
      by_cases ez8 : z = 0
      · have ezz : (z == 0) = true := by simpa using ez8
        have HSX := hide (show (s ++ ⟨#[120]⟩ : ByteArray).size ≤ 5000 by rw [ByteArray.size_append]; show s.size + 1 ≤ _; omega)
        clear ez8
        go_wp2_with fail
        go_ret2
        exact drawn_sg HSX.out hN HTS.out HO7.out HD7.out.2
      · have ezz : (z == 0) = false := by simpa using ez8
        clear ez8
        go_wp2_with fail
        go_ret2
        exact drawn_sg (by omega) hN HTS.out HO7.out HD7.out.2
end Go.Proofs.Ytdccofbfdlebgaa
