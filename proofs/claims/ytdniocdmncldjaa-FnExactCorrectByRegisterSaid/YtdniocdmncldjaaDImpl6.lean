/-
  The contracts of differences of words and of corrected words, of the program.
  Condition: the code is valid.
-/
import Derived.Test.YtdniocdmncldjaaDImpl5
import Derived.Test.YtdniocdmncldjaaJP
namespace Go.Proofs.Ytdniocdmncldjaa
open Go.RowKit
set_option linter.unusedSimpArgs false
set_option linter.unusedVariables false

section
variable {R : Fld} {γ : El R} {p k g : Int} {l c : Nat}
/-- The indices below n at which two words differ. -/
def difN (a b : List (El R)) (n : Nat) : List Nat := (List.range n).filter fun i => !decide (cf a i = cf b i)
theorem difN_succ (a b : List (El R)) (n : Nat) : difN a b (n + 1) = difN a b n ++ (if cf a n = cf b n then [] else [n]) := by
  unfold difN
  rw [List.range_succ, List.filter_append]
  congr 1
  by_cases h : cf a n = cf b n
  · rw [if_pos h]; simp [h]
  · rw [if_neg h]; simp [h]
theorem difN_len (a b : List (El R)) (n : Nat) : (difN a b n).length ≤ n := by
  have := List.length_filter_le (fun i => !decide (cf a i = cf b i)) (List.range n)
  rw [List.length_range] at this; exact this
def DfRel (w : World) (n : Nat) (a b : List (El R)) (v i : Value) (wr : World) : Prop :=
  ∃ j : Nat, j ≤ n ∧ i = .int .i64 j ∧ Own wr w.heap.size 2 .i64 v (nv (difN a b j)) ∧ Below w.heap.size w wr
theorem neq_val {x y : El R} : ((x.val : Int) != (y.val : Int)) = !decide (x = y) := by
  by_cases h : x = y
  · subst h; simp
  · have : x.val ≠ y.val := fun e => h (El.eq e)
    simp [h]; omega

set_option maxRecDepth 100000 in
set_option maxHeartbeats 2000000 in
theorem implDifferences (a b : List (El R)) (A A' : Option Addr) (n cn cm B : Nat) (w : World) (hI : Ints .i64 w B A n (iv a)) (hJ : Ints .i64 w B A' n (iv b)) (hB : B ≤ w.heap.size) (hn : n ≤ 100000) :
    Calls Try.prog 54 #[.slice A n cn, .slice A' n cm] w (NewInts 2 .i64 (nv (difs a b)) w) := by
  have han : a.length = n := by rw [← iv_len]; exact hI.len
  have hbn : b.length = n := by rw [← iv_len]; exact hJ.len
  have HI := hide hI
  have HJ := hide hJ
  have HAN := hide han
  have HBN := hide hbn
  clear hI hJ han hbn
  go_enter Try.func54, Try.ntmps54
  go_wp2_with fail
  go_loopw [5, 10] (fun v i wr => DfRel w n a b v i wr) (fun _ i _ => n - (intOf i).toNat)
  case atStart => exact ⟨0, by omega, rfl, World.ownsRow_nil _ _ _ _, Below.refl _ _⟩
  case round =>
    obtain ⟨v, rfl⟩ : ∃ v : Value, v = u5 := ⟨_, rfl⟩
    obtain ⟨j, hj, rfl, HO, HBl⟩ := hrel
    have HO := hide HO
    have HBl := hide HBl
    by_cases hlt : j < n
    · obtain ⟨b1, o1, x, rfl, hb1, hx, hc1⟩ := (HI.out.below (HBl.out.mono hB)).at_ hlt
      obtain ⟨b2, o2, y, rfl, hb2, hy, hc2⟩ := (HJ.out.below (HBl.out.mono hB)).at_ hlt
      rw [iv_at (by rw [HAN.out]; exact hlt)] at hx
      rw [iv_at (by rw [HBN.out]; exact hlt)] at hy
      simp only [Option.some.injEq] at hx hy
      subst hx hy
      have hsu := difN_succ a b j
      obtain ⟨x, hx⟩ : ∃ x, x = cf a j := ⟨_, rfl⟩
      obtain ⟨y, hy⟩ : ∃ y, y = cf b j := ⟨_, rfl⟩
      rw [← hx] at hc1 hsu
      rw [← hy] at hc2 hsu
      have HSU := hide hsu
      have hxy := neq_val (x := x) (y := y)
      have hbz : w.heap.size ≤ wr.heap.size := HBl.out.size
      have HVB := hide (show ∀ b, v.ownBlock = some b → w.heap.size ≤ b from fun b hb => (HO.out.lt hb).1)
      have hlen : (nv (difN a b j)).length + 1 ≤ 200000 := by rw [nv_len]; have := difN_len a b j; omega
      clear hx hy hsu
      by_cases h : x = y
      · have HZ := hide (show difN a b (j + 1) = difN a b j by rw [HSU.out, if_pos h, List.append_nil])
        have HO2 := hide HO.out
        rw [← HZ.out] at HO2
        rw [h] at hc1
        clear h hxy HSU
        go_wp2_with fail
        go_roundw
        case rel => exact ⟨j + 1, by omega, by go_num, HO2.out, HBl.out⟩
        case measure => simp [intOf]; omega
      · have HZ := hide (show difN a b (j + 1) = difN a b j ++ [j] by rw [HSU.out, if_neg h])
        rw [decide_eq_false h] at hxy
        simp only [Bool.not_false] at hxy
        have hxe : ((x.val : Int) == (y.val : Int)) = false := by simpa using hxy
        clear h HSU
        go_wp2_with (at_builtin; refine wpList_app1 wr rfl _ _ _ rfl elem64 w.heap.size v _ rfl HO.out (j : Int) rfl (by omega) hbz ?_; intro v3 w3 hown hgrow)
        have HO3 := hide (show Own w3 w.heap.size 2 .i64 v3 (nv (difN a b (j + 1))) by rw [HZ.out, nv_app]; exact hown)
        have HB3 := hide (HBl.out.grown hgrow hbz HVB.out)
        clear hown hgrow
        go_wp2_with fail
        go_roundw
        case rel => exact ⟨j + 1, by omega, by go_num, HO3.out, HB3.out⟩
        case measure => simp [intOf]; omega
    · obtain rfl : j = n := by omega
      have HZ := hide (show difN a b j = difs a b by rw [difN, difs, HAN.out])
      have HO2 := hide HO.out
      rw [HZ.out] at HO2
      obtain ⟨A1, c1, rfl, hc⟩ := HO2.out.form
      have HE := hide (show NewInts 2 .i64 (nv (difs a b)) w (.returned (.slice A1 (nv (difs a b)).length c1)) wr from ⟨A1, c1, rfl, hc, HO2.out, HBl.out⟩)
      go_wp2_with fail
      go_ret
      exact HE.out

/-- The word with what has been corrected of it. -/
def coF (ws : List (El R)) (f : Nat → El R) (J : List Nat) (i : Nat) : El R := if i ∈ J then cf ws i + -(f i) else cf ws i
theorem coF_nil (ws : List (El R)) (f : Nat → El R) {n : Nat} (h : ws.length = n) : tab n (coF ws f []) = ws := by
  refine Eq.trans (tab_congr fun i _ => if_neg List.not_mem_nil) ?_
  rw [← h]; exact tab_cf ws
theorem coF_step {ws : List (El R)} {f : Nat → El R} {J : List Nat} {n k z : Nat} (hz : J[k]? = some z) : (tab n (coF ws f (J.take k))).set z (cf ws z + -(f z)) = tab n (coF ws f (J.take (k + 1))) := by
  rw [tab_set]
  refine tab_congr fun i hi => ?_
  rw [List.take_add_one, hz, Option.toList_some]
  unfold coF
  by_cases h : i = z
  · subst h
    rw [if_pos rfl, if_pos (by simp)]
  · rw [if_neg h]
    by_cases h2 : i ∈ J.take k
    · rw [if_pos h2, if_pos (List.mem_append_left _ h2)]
    · rw [if_neg h2, if_neg (fun h' => by
        rcases List.mem_append.1 h' with h' | h'
        · exact h2 h'
        · exact h (List.mem_singleton.1 h'))]
theorem coF_end (num : Nat → El R) (ws : List (El R)) (J : List Nat) (h : ws.length = l) : tab l (coF ws (fvI num γ l c (synW γ c ws) J) J) = corW num γ l c ws J := by
  rw [corW, subW, h]
  refine tab_congr fun i hi => ?_
  rw [cf_spread hi]
  unfold coF
  split
  · rfl
  · rw [en0, ea0]
theorem coF_at {ws : List (El R)} {f : Nat → El R} {J : List Nat} {n k z : Nat} (hd : J.Nodup) (hz : J[k]? = some z) (hn : z < n) : (tab n (coF ws f (J.take k)))[z]? = some (cf ws z) := by
  rw [tab_at _ hn, coF, if_neg]
  intro h
  obtain ⟨i, hi⟩ := List.getElem?_of_mem h
  rw [List.getElem?_take] at hi
  by_cases hik : i < k
  · rw [if_pos hik] at hi
    obtain ⟨h1, e1⟩ := List.getElem?_eq_some_iff.1 hi
    obtain ⟨h2, e2⟩ := List.getElem?_eq_some_iff.1 hz
    exact List.pairwise_iff_getElem.1 hd i k h1 h2 hik (e1.trans e2.symm)
  · rw [if_neg hik] at hi; cases hi

/-- What a corrected word leaves. -/
def CoPost (γ : El R) (l c : Nat) (E : List Nat) (ws : List (El R)) (w : World) (x : Ending) (w' : World) : Prop :=
  (∃ out : List (El R), NewIB (iv out) true w x w' ∧ out.length = l ∧ Okw γ l c E ws out ∧ ∀ cw, Okw γ l c E ws cw → out = cw) ∨ (NewIB [] false w x w' ∧ ∀ cw, ¬ Okw γ l c E ws cw)
def CoRel (w : World) (p k g : Int) (l c m gW : Nat) (A12 A13 : Option Addr) (J : List Nat) (ws V : List (El R)) (f : Nat → El R) (cW : Nat) (i : Value) (wr : World) : Prop :=
  ∃ j : Nat, j ≤ m ∧ i = .int .i64 j ∧ Own wr (w.heap.size + 1) 2 .i64 (.slice (some ⟨gW, 0, none⟩) l cW) (iv (tab l (coF ws f (J.take j)))) ∧ Ints .i64 wr gW A12 m (nv J) ∧ Ints .i64 wr gW A13 m (iv V) ∧ gW < wr.heap.size ∧ CBox w wr p k g l c

theorem elPost_one {r : Nat} {T : List (El R)} {w w' : World} {x : Ending} (h : ElPost c r T w x w') : ∃ (a b u v q : List (El R)) (d : Bool), Eu c r T a b u v ∧ 2 * b.length < c + r + 2 ∧
    ((d = false ∧ cf v 0 = 0) ∨ (d = true ∧ cf v 0 ≠ 0 ∧ q = scaP (cf v 0).inv v)) ∧ NewIB (iv q) d w x w' := by
  obtain ⟨a, b, u, v, h1, h2, ⟨h3, h4⟩ | ⟨h3, h4⟩⟩ := h
  · exact ⟨a, b, u, v, [], false, h1, h2, .inl ⟨rfl, h3⟩, h4⟩
  · exact ⟨a, b, u, v, _, true, h1, h2, .inr ⟨rfl, h3, rfl⟩, h4⟩

end
end Go.Proofs.Ytdniocdmncldjaa
