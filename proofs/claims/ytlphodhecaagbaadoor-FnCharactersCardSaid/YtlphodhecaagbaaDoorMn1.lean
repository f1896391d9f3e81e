/-
  The names of the modes: what the program's table holds, and ModeName of the program and of the model.
  Condition: the table reads as the row lays it.
-/
import Derived.Test.YtlphodhecaagbaaDoorRows
import Derived.Test.YtlphodhecaagbaaDoorWords
import Derived.Test.YtlphodhecaagbaaDoorSpecIn
import Derived.OpenShut
import Derived.LaidLaws
import Derived.LaidHandle
import Derived.Lib.LaidU8
import Derived.MakeChecks
namespace Go.Proofs.YtlphodhecaagbaaDoor
open Go Go.RowKit
set_option linter.unusedSimpArgs false
set_option linter.unusedVariables false

def nm0 : ByteArray := { data := #[101, 110, 100] }
def nm1 : ByteArray := { data := #[100, 105, 103, 105, 116, 115] }
def nm2 : ByteArray := { data := #[108, 101, 116, 116, 101, 114, 115] }
def nm3 : ByteArray := { data := #[108, 111, 119, 101, 114] }
def nm4 : ByteArray := { data := #[98, 121, 116, 101, 115] }
def nm5 : ByteArray := { data := #[97, 112, 112, 101, 110, 100] }
def namesL : List ByteArray := [nm0, nm1, nm2, nm3, nm4, nm5]
def laidN : List (String × DataW Unit) := [("loop.example/g00879/impl.modeNames", Rows.laid_loop_example_g00879_impl_modeNames)]
/-- The table's cells. -/
def NamesAt (W : World) : Prop := ∀ (j : Nat) (b : ByteArray), namesL[j]? = some b → W.cell? ⟨0, j, none⟩ = some (.string b)

theorem bytes_ext {a b : ByteArray} (h : a.data.toList = b.data.toList) : a = b := by
  cases a; cases b
  simp only [ByteArray.mk.injEq]
  exact Array.toList_inj.1 h

set_option maxRecDepth 100000 in
theorem names_of {W : World} (h : laidMetH Tryd.prog laidN W) : NamesAt W := by
  rw [MakeChecks.laidMetH_plain _ _ _ (by kernel_rfl)] at h
  obtain ⟨g, t, cs, fuel, p, hg, ht, hv, hd⟩ := Lib.laidMet.reads h (n := "loop.example/g00879/impl.modeNames") (d := Rows.laid_loop_example_g00879_impl_modeNames) (.head _)
  have hg' : Tryd.prog.globalNamed "loop.example/g00879/impl.modeNames" = some 0 := by kernel_rfl
  obtain rfl := Option.some.inj (hg'.symm.trans hg)
  have ht' : (Tryd.prog.globals[(0 : Nat)]?).map (·.type) = some 44 := by kernel_rfl
  obtain rfl := Option.some.inj (ht'.symm.trans ht)
  obtain ⟨xs, m1, rfl, hx, hlen, hn, hel⟩ := DataW.trod_array Tryd.underlying44 hd
  have c1 : Tryd.prog.cellsOf 9 = 1 := by kernel_rfl
  simp only [Prod.mk.injEq, Rows.laid_loop_example_g00879_impl_modeNames, DataW.agg.injEq] at hx
  intro j b hb
  have hj : j < 6 := (List.getElem?_eq_some_iff.1 hb).1
  have h1 := hel j hj
  rw [c1, Nat.mul_one] at h1
  obtain ⟨x, hxj⟩ : ∃ x, xs[j]? = some x := ⟨xs[j]'(by omega), List.getElem?_eq_getElem _⟩
  rw [hxj] at h1
  obtain ⟨s, e1, e2, _⟩ := DataW.trod_string Tryd.underlying9 h1
  have hc := World.var?_cell hg' hv j
  have hcj : cs[j]? = some (.string s) := by
    have h2 : cs.toList[j]? = some (.string s) := by
      have h3 : (cs.toList.drop j).head? = some (.string s) := by
        have := congrArg List.head? e1
        simpa [List.head?_take] using this
      rw [List.head?_drop] at h3; exact h3
    simpa using h2
  rw [hc, hcj]
  have hd1 : (xs.map (·.1))[j]? = some (.lit (.string s.data.toList)) := by rw [List.getElem?_map, hxj, e2]; rfl
  rw [← hx.1] at hd1
  have hs : s = b := by
    have h6 : j = 0 ∨ j = 1 ∨ j = 2 ∨ j = 3 ∨ j = 4 ∨ j = 5 := by omega
    rcases h6 with rfl | rfl | rfl | rfl | rfl | rfl <;>
      (simp only [namesL, List.getElem?_cons_zero, List.getElem?_cons_succ, Option.some.injEq, DataW.lit.injEq, Lit.string.injEq] at hb hd1; subst hb; exact bytes_ext (by rw [← hd1]; rfl))
  rw [hs]

/-- The name of a mode. -/
def nameOf (m : Int) : ByteArray := if m < 0 then ByteArray.empty else namesL.getD m.toNat ByteArray.empty

set_option maxRecDepth 100000 in
set_option maxHeartbeats 1000000 in
theorem implModeName (m : Int) (w : World) (hN : NamesAt w) : Calls Tryd.prog 9 #[.int .i64 m] w fun e w' => e = .returned (.string (nameOf m)) ∧ w' = w := by
  by_cases hlo : m < 0
  · have HE := hide (show nameOf m = ByteArray.empty by rw [nameOf, if_pos hlo])
    clear hN
    go_enter Tryd.func9, Tryd.ntmps9
    go_wp2_with fail
    go_ret
    exact ⟨by rw [HE.out]; rfl, rfl⟩
  · by_cases hhi : 6 ≤ m
    · have HE := hide (show nameOf m = ByteArray.empty by
        rw [nameOf, if_neg hlo, List.getD_eq_getElem?_getD, List.getElem?_eq_none (by show 6 ≤ m.toNat; omega)]; rfl)
      clear hN
      go_enter Tryd.func9, Tryd.ntmps9
      go_wp2_with fail
      go_ret
      exact ⟨by rw [HE.out]; rfl, rfl⟩
    · have h6 : m = 0 ∨ m = 1 ∨ m = 2 ∨ m = 3 ∨ m = 4 ∨ m = 5 := by omega
      have e0 := hN 0 nm0 rfl
      have e1 := hN 1 nm1 rfl
      have e2 := hN 2 nm2 rfl
      have e3 := hN 3 nm3 rfl
      have e4 := hN 4 nm4 rfl
      have e5 := hN 5 nm5 rfl
      clear hN hlo hhi
      rcases h6 with rfl | rfl | rfl | rfl | rfl | rfl
      all_goals
        go_enter Tryd.func9, Tryd.ntmps9
        go_wp2_with fail
        go_ret
        exact ⟨rfl, rfl⟩

set_option maxRecDepth 100000 in
set_option maxHeartbeats 1000000 in
theorem specModeName (m : Int) (w : World) : Calls Tryd.prog 10 #[.int .i64 m] w (Gives (.string (nameOf m)) w) := by
  by_cases hlo : m < 0 ∨ 5 < m
  · have HE := hide (show nameOf m = ByteArray.empty by
      by_cases h : m < 0
      · rw [nameOf, if_pos h]
      · rw [nameOf, if_neg h, List.getD_eq_getElem?_getD, List.getElem?_eq_none (by show 6 ≤ m.toNat; omega)]; rfl)
    go_enter Tryd.func10, Tryd.ntmps10
    go_wp2_with fail
    refine (specIn_no m 0 5 _ hlo).mono ?_
    rintro e _ ⟨rfl, rfl⟩
    clear hlo
    go_wp2_with fail
    go_ret
    exact ⟨by rw [HE.out]; rfl, Below.refl _ _⟩
  · have h6 : m = 0 ∨ m = 1 ∨ m = 2 ∨ m = 3 ∨ m = 4 ∨ m = 5 := by omega
    clear hlo
    rcases h6 with rfl | rfl | rfl | rfl | rfl | rfl
    all_goals
      go_enter Tryd.func10, Tryd.ntmps10
      go_wp2_with fail
      refine (specIn_yes _ 0 5 _ (by omega) (by omega)).mono ?_
      rintro e _ ⟨rfl, rfl⟩
      go_wp2_with fail
      go_ret
      exact ⟨rfl, (Below.refl _ _).alloc (Nat.le_refl _) _⟩
end Go.Proofs.YtlphodhecaagbaaDoor
