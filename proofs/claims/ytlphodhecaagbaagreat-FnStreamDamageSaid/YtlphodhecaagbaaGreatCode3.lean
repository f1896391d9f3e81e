/-
  The contracts of copies, of turned lists, of the roots of a code, its generator polynomial and the polynomials of words, of the program.
  Condition: the code is valid.
-/
import Derived.Test.YtlphodhecaagbaaGreatCode2
import Derived.Lib.SliceRun
namespace Go.Proofs.YtlphodhecaagbaaGreat
open Go.RowKit
set_option linter.unusedSimpArgs false
set_option linter.unusedVariables false

/-- A new list, and where it lies if it is not empty. -/
theorem NewInts.nilI (w : World) : NewInts 2 .i64 [] w (.returned (.slice none 0 0)) w := ⟨none, 0, rfl, Nat.le_refl _, World.ownsRow_nil _ _ _ _, Below.refl _ _⟩

theorem nil_eq : ∀ (w : World) (a : Option Addr) (n c n' c' : Nat), (binOp .eql 28 (.slice a n c) (.slice none n' c')).run Tryz.prog w = .ok (.bool a.isNone) w :=
  fun w a n c n' c' => Lib.run_eql_slice_nil w _ _ a n c n' c' Tryz.underlying28

set_option maxRecDepth 100000 in
set_option maxHeartbeats 1000000 in
theorem implClone (A : Option Addr) (n c B : Nat) (zs : List Int) (w : World) (hI : Ints .i64 w B A n zs) (hB : B ≤ w.heap.size) (hn : n ≤ 1099511627776) :
    Calls Tryz.prog 104 #[.slice A n c] w (NewInts 2 .i64 zs w) := by
  have hl := hI.len
  rcases A with _ | ad
  · have h0 : n = 0 := by
      rcases Nat.eq_zero_or_pos n with h | h
      · exact h
      · obtain ⟨b, off, e, _⟩ := hI.2 h
        cases e
    subst h0
    obtain rfl := List.eq_nil_of_length_eq_zero hl
    clear hI hl
    have q22 := nil_eq
    go_enter Tryz.func104, Tryz.ntmps104
    go_wp2_with fail
    go_ret
    exact NewInts.nilI w
  · have HI := hide hI
    have HL := hide hl
    clear hI hl
    have q22 := nil_eq
    go_enter Tryz.func104, Tryz.ntmps104
    go_wp2_with (at_builtin; refine wpList_appL _ rfl _ _ _ rfl elem64 w.heap.size _ [] rfl (Own.lit0 w _ _) B (some ad) n c zs rfl (HI.out.below ((Below.refl B w).alloc hB _)) (by simp; omega) (by simp) ?_; intro v2 w2 hown hgr)
    have HO := hide (show Own w2 w.heap.size 2 .i64 v2 zs by simpa using hown)
    have HBl := hide (((Below.refl w.heap.size w).alloc (Nat.le_refl _) _).grown hgr (by simp) (fun g hg => ((Own.lit0 w 2 .i64).lt hg).1))
    clear hown hgr
    go_wp2_with fail
    go_ret
    obtain ⟨A1, c1, rfl, hc⟩ := HO.out.form
    exact ⟨A1, c1, rfl, hc, HO.out, HBl.out⟩

section
variable {R : Fld}
/-- A list whose first k and last k elements have changed places. -/
def rev1 (n k : Nat) (f : Nat → El R) (i : Nat) : El R := if i < k ∨ n - k ≤ i then f (n - 1 - i) else f i
theorem rev1_zero (n : Nat) (f : Nat → El R) : tab n (rev1 n 0 f) = tab n f := tab_congr fun i hi => if_neg (by omega)
theorem rev1_end {n k : Nat} (f : Nat → El R) (h : n ≤ k + k + 1) : tab n (rev1 n k f) = (tab n f).reverse := by
  rw [tab_rev]
  refine tab_congr fun i hi => ?_
  unfold rev1
  split
  · rfl
  · rw [show n - 1 - i = i by omega]
theorem rev1_step {n k j : Nat} (f : Nat → El R) (hj : j = n - 1 - k) (h : k < j) : ((tab n (rev1 n k f)).set k (f j)).set j (f k) = tab n (rev1 n (k + 1) f) := by
  rw [tab_set, tab_set]
  refine tab_congr fun i hi => ?_
  unfold rev1
  by_cases h1 : i = j
  · rw [if_pos h1, if_pos (by omega), show n - 1 - i = k by omega]
  · rw [if_neg h1]
    by_cases h2 : i = k
    · rw [if_pos h2, if_pos (by omega), show n - 1 - i = j by omega]
    · rw [if_neg h2]
      by_cases h3 : i < k ∨ n - k ≤ i
      · rw [if_pos h3, if_pos (by omega)]
      · rw [if_neg h3, if_neg (by omega)]
theorem rev1_at {n k j : Nat} (f : Nat → El R) (h1 : k ≤ j) (h2 : j < n - k) : (tab n (rev1 n k f))[j]? = some (f j) := by
  rw [tab_at _ (by omega), rev1, if_neg (by omega)]

/-- What is left when a list has been turned in its place. -/
def Turned (base n c gB : Nat) (ps : List (El R)) (w : World) (x : Ending) (w' : World) : Prop :=
  x = .returned (.tuple #[]) ∧ Own w' base 2 .i64 (.slice (some ⟨gB, 0, none⟩) n c) (iv ps) ∧ w.grownBy w' (some gB)
def RvRel (w : World) (base n c gB : Nat) (f : Nat → El R) (u v : Value) (wr : World) : Prop :=
  ∃ (i : Nat) (jj : Int), u = .int .i64 i ∧ v = .int .i64 jj ∧ jj = (n : Int) - 1 - (i : Int) ∧ i ≤ n ∧ Own wr base 2 .i64 (.slice (some ⟨gB, 0, none⟩) n c) (iv (tab n (rev1 n i f))) ∧ w.grownBy wr (some gB)

set_option maxHeartbeats 2000000 in
theorem implReverse (n c gB base : Nat) (f : Nat → El R) (w : World) (hO : Own w base 2 .i64 (.slice (some ⟨gB, 0, none⟩) n c) (iv (tab n f))) (hn : n ≤ 1099511627776) :
    Calls Tryz.prog 117 #[.slice (some ⟨gB, 0, none⟩) n c] w (Turned base n c gB (tab n f).reverse w) := by
  have HO := hide hO
  clear hO
  go_enter Tryz.func117, Tryz.ntmps117
  go_wp2_with fail
  go_loopw [2, 3] (fun u v wr => RvRel w base n c gB f u v wr) (fun u v _ => (intOf v - intOf u + 1).toNat)
  case atStart => exact ⟨0, (n : Int) - 1, rfl, rfl, by omega, by omega, by rw [rev1_zero]; exact HO.out, World.grownBy.refl _ _⟩
  case round =>
    clear HO
    obtain ⟨i, jj, rfl, rfl, hjj, hi, HO, HG⟩ := hrel
    have HO := hide HO
    have HG := hide HG
    by_cases hlt : (i : Int) < jj
    · obtain ⟨j, rfl⟩ : ∃ j : Nat, jj = j := ⟨jj.toNat, by omega⟩
      have hj : j = n - 1 - i := by omega
      have hij : i < j := by omega
      have hjn : j < n := by omega
      have hin : i < n := by omega
      obtain ⟨x, hx⟩ : ∃ x, x = f i := ⟨_, rfl⟩
      obtain ⟨y, hy⟩ : ∃ y, y = f j := ⟨_, rfl⟩
      have hcx := HO.out.cellAt (j := i) (x := (x.val : Int)) (by rw [iv, List.getElem?_map, rev1_at f (Nat.le_refl _) (by omega), hx]; rfl)
      have hcy := HO.out.cellAt (j := j) (x := (y.val : Int)) (by rw [iv, List.getElem?_map, rev1_at f (by omega) (by omega), hy]; rfl)
      have hfx := HO.out.frozenAt i
      have hfy := HO.out.frozenAt j
      have HS := hide (show ((tab n (rev1 n i f)).set i y).set j x = tab n (rev1 n (i + 1) f) by rw [hx, hy]; exact rev1_step f hj hij)
      have HJ := hide hj
      have hne : i ≠ j := by omega
      clear hx hy hj hjj
      go_wp2_with fail
      go_region
      all_goals
        have HO2 := hide (HO.out.drew.stored i (y.val : Int)).1
        have HO3 := hide (HO2.out.stored j (x.val : Int)).1
        rw [iv_set, iv_set, HS.out] at HO3
        go_wp2_with fail
        go_roundw
        case rel => exact ⟨i + 1, (j : Int) - 1, by go_num, rfl, by have := HJ.out; omega, by omega, HO3.out, grown_set' (grown_set' (grown_drewN HG.out 1) i _) j _⟩
        case measure => simp [intOf]; omega
    · have hd : decide ((i : Int) < jj) = false := by simpa using hlt
      have HF := hide (rev1_end (n := n) (k := i) f (by omega))
      clear hlt hjj
      go_wp2_with fail
      go_end0
      exact ⟨rfl, by rw [← HF.out]; exact HO.out, HG.out⟩
end
end Go.Proofs.YtlphodhecaagbaaGreat
