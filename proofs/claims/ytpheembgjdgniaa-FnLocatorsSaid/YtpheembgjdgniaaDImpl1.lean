/-
  Lists of indices; the contracts of valid indices, of locators and of locator polynomials, of the program.
  Condition: the code is valid.
-/
import Derived.Test.YtpheembgjdgniaaCode5
import Derived.Test.YtpheembgjdgniaaDWord
import Derived.Test.YtpheembgjdgniaaJK
namespace Go.Proofs.Ytpheembgjdgniaa
open Go.RowKit
set_option linter.unusedSimpArgs false
set_option linter.unusedVariables false

/-- Natural numbers as the numbers of a list. -/
def nv (J : List Nat) : List Int := J.map fun (i : Nat) => (i : Int)
theorem nv_len (J : List Nat) : (nv J).length = J.length := List.length_map ..
theorem nv_at {J : List Nat} {j z : Nat} (h : J[j]? = some z) : (nv J)[j]? = some (z : Int) := by rw [nv, List.getElem?_map, h]; rfl
theorem nv_get {J : List Nat} {j : Nat} {x : Int} (h : (nv J)[j]? = some x) : ∃ z : Nat, J[j]? = some z ∧ x = z := by
  rw [nv, List.getElem?_map] at h
  obtain ⟨z, hz, rfl⟩ := Option.map_eq_some_iff.1 h
  exact ⟨z, hz, rfl⟩
theorem nv_app (J K : List Nat) : nv (J ++ K) = nv J ++ nv K := List.map_append
/-- Strictly increasing from a number on, below L. -/
def idxF (L : Int) : Int → List Int → Bool
  | _, [] => true
  | lo, z :: zs => decide (lo ≤ z ∧ z < L) && idxF L (z + 1) zs
/-- A valid list of indices, by its numbers. -/
def idxB (L : Int) (zs : List Int) : Bool := idxF L 0 zs
theorem idxF_yes {L lo z : Int} {zs : List Int} (h1 : lo ≤ z) (h2 : z < L) : idxF L lo (z :: zs) = idxF L (z + 1) zs := by
  rw [idxF, decide_eq_true ⟨h1, h2⟩]; rfl
theorem idxF_no {L lo z : Int} {zs : List Int} (h : z < lo ∨ L ≤ z) : idxF L lo (z :: zs) = false := by
  rw [idxF, decide_eq_false (by omega)]; rfl
theorem idxF_open {L : Int} : ∀ {zs : List Int} {lo : Int}, 0 ≤ lo → idxF L lo zs = true → ∃ J : List Nat, zs = nv J ∧ J.Pairwise (· < ·) ∧ ∀ i ∈ J, lo ≤ i ∧ (i : Int) < L
  | [], lo, _, _ => ⟨[], rfl, List.Pairwise.nil, fun i h => absurd h List.not_mem_nil⟩
  | z :: zs, lo, h0, h => by
    rw [idxF, Bool.and_eq_true, decide_eq_true_eq] at h
    obtain ⟨J, rfl, h2, h3⟩ := idxF_open (lo := z + 1) (by omega) h.2
    refine ⟨z.toNat :: J, ?_, List.pairwise_cons.2 ⟨fun i hi => ?_, h2⟩, fun i hi => ?_⟩
    · show z :: nv J = (z.toNat : Int) :: nv J
      congr 1; omega
    · have := (h3 i hi).1; omega
    · rcases List.mem_cons.1 hi with rfl | hi
      · omega
      · have := h3 i hi; omega
theorem idx_open {l : Nat} {zs : List Int} (h : idxB l zs = true) : ∃ J : List Nat, zs = nv J ∧ Idx l J := by
  obtain ⟨J, h1, h2, h3⟩ := idxF_open (Int.le_refl 0) h
  exact ⟨J, h1, h2, fun i hi => by have := (h3 i hi).2; omega⟩
theorem idxF_shut {l : Nat} : ∀ {J : List Nat} {lo : Int}, J.Pairwise (· < ·) → (∀ i ∈ J, lo ≤ i ∧ i < l) → idxF l lo (nv J) = true
  | [], _, _, _ => rfl
  | z :: J, lo, h, h' => by
    obtain ⟨h1, h2⟩ := List.pairwise_cons.1 h
    have hz := h' z (List.mem_cons_self ..)
    show idxF l lo ((z : Int) :: nv J) = true
    rw [idxF_yes hz.1 (by omega)]
    exact idxF_shut h2 fun i hi => by have := h1 i hi; have := h' i (List.mem_cons_of_mem _ hi); omega
theorem idx_shut {l : Nat} {J : List Nat} (h : Idx l J) : idxB l (nv J) = true := idxF_shut h.1 fun i hi => by have := h.2 i hi; omega
theorem drop_at {zs : List Int} {j : Nat} {x : Int} (h : zs[j]? = some x) : zs.drop j = x :: zs.drop (j + 1) := by
  obtain ⟨hj, e⟩ := List.getElem?_eq_some_iff.1 h
  rw [List.drop_eq_getElem_cons hj, e]

def HiRel (w : World) (p k g : Int) (L C : Int) (n : Nat) (zs : List Int) (v i : Value) (wr : World) : Prop :=
  ∃ (j : Nat) (lo : Int), j ≤ n ∧ 0 ≤ lo ∧ lo ≤ 1000000 ∧ i = .int .i64 j ∧ v = .int .i64 lo ∧ Hid (idxF L lo (zs.drop j) = idxB L zs) ∧ CBox w wr p k g L C

set_option maxRecDepth 100000 in
set_option maxHeartbeats 2000000 in
theorem implHasIndices (p k g : Int) (L C : Int) (hL : L ≤ 1000) (A : Option Addr) (n c B : Nat) (zs : List Int) (w : World) (hI : Ints .i64 w B A n zs) (hB : B ≤ w.heap.size) (hn : n ≤ 1099511627776) :
    Calls Try.prog 61 #[.agg #[.int .i64 p, .int .i64 k, .int .i64 g, .int .i64 L, .int .i64 C], .slice A n c] w (Gives (.bool (idxB L zs)) w) := by
  have HX := hide (CBox.start w p k g L C)
  have HZL := hide hI.len
  have HI := hide hI
  clear hI
  go_enter Try.func61, Try.ntmps61
  go_wp2_with fail
  go_loopw [5, 10] (fun v i wr => HiRel w p k g L C n zs v i wr) (fun _ i _ => n - (intOf i).toNat)
  case atStart => exact ⟨0, 0, by omega, by omega, by omega, rfl, rfl, rfl, HX⟩
  case round =>
    clear HX
    obtain ⟨j, lo, hj, hlo, hlo2, rfl, rfl, HR, HX⟩ := hrel
    have HX := hide HX
    obtain ⟨c0, c1, c2, c3, c4⟩ := HX.out.cells
    by_cases hlt : j < n
    · obtain ⟨b, off, z, rfl, hb, hz, hc⟩ := (HI.out.below (HX.out.2.mono hB)).at_ hlt
      have HD := hide (drop_at hz)
      clear hz
      rcases (show decide (z < lo) = true ∨ (decide (z < lo) = false ∧ decide (L ≤ z) = true) ∨ (decide (z < lo) = false ∧ decide (L ≤ z) = false) by
        simp only [decide_eq_false_iff_not, decide_eq_true_eq]; omega) with z1 | ⟨z1, z2⟩ | ⟨z1, z2⟩
      · have HF := hide (show idxB L zs = false by
          rw [← HR.out, HD.out, idxF_no (.inl (of_decide_eq_true z1))])
        go_wp2_with fail
        go_ret
        exact ⟨ret_bool HF, HX.out.2⟩
      · have HF := hide (show idxB L zs = false by
          rw [← HR.out, HD.out, idxF_no (.inr (of_decide_eq_true z2))])
        go_wp2_with fail
        go_ret
        exact ⟨ret_bool HF, HX.out.2⟩
      · have hz1 := of_decide_eq_false z1
        have hz2 := of_decide_eq_false z2
        have HN := hide (show idxF L (z + 1) (zs.drop (j + 1)) = idxB L zs by
          rw [← HR.out, HD.out, idxF_yes (by omega) (by omega)])
        have hzb : 0 ≤ z ∧ z ≤ 1000 := by omega
        clear hz1 hz2
        go_wp2_with fail
        go_roundw
        case rel => exact ⟨j + 1, z + 1, by omega, by omega, by omega, by go_num, rfl, HN, HX⟩
        case measure => simp [intOf]; omega
    · have HF := hide (show idxB L zs = true by
        rw [← HR.out, List.drop_of_length_le (by rw [HZL.out]; omega)]; rfl)
      go_wp2_with fail
      go_ret
      exact ⟨ret_bool HF, HX.out.2⟩

section
variable {R : Fld}
set_option maxHeartbeats 2000000 in
theorem implReverse2 (n c gB base : Nat) (f : Nat → El R) (w : World) (hO : Own w base 2 .i64 (.slice (some ⟨gB, 0, none⟩) n c) (iv (tab n f))) (hn : n ≤ 1099511627776) :
    Calls Try.prog 135 #[.slice (some ⟨gB, 0, none⟩) n c] w (Turned base n c gB (tab n f).reverse w) := by
  have HO := hide hO
  clear hO
  go_enter Try.func135, Try.ntmps135
  go_wp2_with fail
  go_loopw [2, 3] (fun u v wr => RvRel w base n c gB f u v wr) (fun u v _ => (intOf v - intOf u + 1).toNat)
  case atStart => exact ⟨0, (n : Int) - 1, rfl, rfl, by omega, by omega, by rw [rev1_zero]; exact HO.out, World.grownBy.refl _ _⟩
  case round =>
    clear HO
    obtain ⟨i, jj, rfl, rfl, hjj, hi, HO, HG⟩ := hrel
    have HO := hide HO
    have HG := hide HG
    by_cases hlt : (i : Int) < jj
    · obtain ⟨j, rfl⟩ : ∃ j : Nat, jj = j := ⟨jj.toNat, by omega⟩
      have hj : j = n - 1 - i := by omega
      have hij : i < j := by omega
      have hjn : j < n := by omega
      have hin : i < n := by omega
      obtain ⟨x, hx⟩ : ∃ x, x = f i := ⟨_, rfl⟩
      obtain ⟨y, hy⟩ : ∃ y, y = f j := ⟨_, rfl⟩
      have hcx := HO.out.cellAt (j := i) (x := (x.val : Int)) (by rw [iv, List.getElem?_map, rev1_at f (Nat.le_refl _) (by omega), hx]; rfl)
      have hcy := HO.out.cellAt (j := j) (x := (y.val : Int)) (by rw [iv, List.getElem?_map, rev1_at f (by omega) (by omega), hy]; rfl)
      have hfx := HO.out.frozenAt i
      have hfy := HO.out.frozenAt j
      have HS := hide (show ((tab n (rev1 n i f)).set i y).set j x = tab n (rev1 n (i + 1) f) by rw [hx, hy]; exact rev1_step f hj hij)
      have HJ := hide hj
      have hne : i ≠ j := by omega
      clear hx hy hj hjj
      go_wp2_with fail
      go_region
      all_goals
        have HO2 := hide (HO.out.drew.stored i (y.val : Int)).1
        have HO3 := hide (HO2.out.stored j (x.val : Int)).1
        rw [iv_set, iv_set, HS.out] at HO3
        go_wp2_with fail
        go_roundw
        case rel => exact ⟨i + 1, (j : Int) - 1, by go_num, rfl, by have := HJ.out; omega, by omega, HO3.out, grown_set' (grown_set' (grown_drewN HG.out 1) i _) j _⟩
        case measure => simp [intOf]; omega
    · have hd : decide ((i : Int) < jj) = false := by simpa using hlt
      have HF := hide (rev1_end (n := n) (k := i) f (by omega))
      clear hlt hjj
      go_wp2_with fail
      go_end0
      exact ⟨rfl, by rw [← HF.out]; exact HO.out, HG.out⟩

/-- The locators, and their inverses. -/
def locT (γ : El R) (l : Nat) : List (El R) := tab l (lcE γ l)
def invT (γ : El R) (l : Nat) : List (El R) := tab l fun i => (lcE γ l i).inv
theorem locT_len (γ : El R) (l : Nat) : (locT γ l).length = l := tab_len _ _
theorem invT_len (γ : El R) (l : Nat) : (invT γ l).length = l := tab_len _ _
theorem locT_at {γ : El R} {l i : Nat} (h : i < l) : cf (locT γ l) i = lcE γ l i := by rw [locT, cf_tab, if_pos h]
theorem invT_at {γ : El R} {l i : Nat} (h : i < l) : cf (invT γ l) i = (lcE γ l i).inv := by rw [invT, cf_tab, if_pos h]
theorem locT_rev (γ : El R) (l : Nat) : (tab l fun j => epw γ j).reverse = locT γ l := by rw [tab_rev]; rfl

theorem run_slice_tab0 (b c : Nat) (hc : c ≤ 1000) (w : World) :
    (Instr.sliceAt 122 (.pointer (some ⟨b, 0, none⟩)) none (some (.int .i64 (c : Int))) none).run Try.prog w = .ok (.slice (some ⟨b, 0, none⟩) c 1021) w := by
  have ht : Try.prog.underlying 122 = some (.array (Try.prog.arrayLen 122) (Try.prog.elem 122)) := by kernel_rfl
  have hl : Try.prog.arrayLen 122 = 1021 := by kernel_rfl
  have hs : (sizeOf (Try.prog.elem 122)).run Try.prog w = .ok 1 w := by kernel_rfl
  rw [run_sliceAt_array_h w _ ⟨b, 0, none⟩ ht .i64 (c : Int) (by omega) (by rw [hl]; omega), hs, hl]
  simp only [Result.andThen_ok, slicedAt]
  rw [Int.toNat_natCast, if_neg (by omega)]
  rfl
end
end Go.Proofs.Ytpheembgjdgniaa
