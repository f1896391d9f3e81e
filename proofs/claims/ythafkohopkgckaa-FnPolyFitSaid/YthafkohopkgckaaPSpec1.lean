/-
  The contracts of the model's functions that tell whether lists are polynomials, and of its small functions on lists.
  Condition: lists shorter than 2^40, which every list of a run is.
-/
import Derived.Test.YthafkohopkgckaaPoly5
import Derived.Test.YthafkohopkgckaaPolyMath4
namespace Go.Proofs.Ythafkohopkgckaa
open Go.RowKit
set_option linter.unusedSimpArgs false

set_option maxHeartbeats 1000000 in
theorem specL3Is {p k g : Int} {q : Nat} {mul : Nat → Nat → Nat} (hK : Kd p k g q mul) (A : Option Addr) (n c B : Nat) (zs : List Int) (w : World) (hI : Ints .i64 w B A n zs) (hB : B ≤ w.heap.size) (hn : n ≤ 1099511627776) :
    Calls Try.prog 89 #[.agg #[.int .i64 p, .int .i64 k, .int .i64 g], .slice A n c] w (Gives (.bool (polyB q zs)) w) := by
  have HX := hide (Box.start w 25 p k g)
  have HI := hide hI
  have hl := hide hI.len
  clear hI
  by_cases h512 : n ≤ 512
  · have hIa := hide (((HI.out.below ((Below.refl _ _).alloc hB (.cells #[.int .i64 p, .int .i64 k, .int .i64 g] 25)))))
    have h512' : decide ((512 : Int) < (n : Int)) = false := by simp; omega
    rcases ha : zs.all (elB q) with _ | _
    · have HF := hide (show polyB q zs = false by rw [polyB, ha]; simp)
      go_enter Try.func89, Try.ntmps89
      go_wp2_with fail
      refine (specIs hK A n c B zs _ hIa.out (by rw [alloc_size]; omega) hn).mono ?_
      rw [ha]
      rintro e w1 ⟨rfl, hb⟩
      have HX1 := hide (HX.out.next hb)
      clear hb
      go_wp2_with fail
      go_ret
      exact ⟨ret_bool HF, HX1.out.2⟩
    · by_cases h0 : n = 0
      · subst h0
        have HF := hide (show polyB q zs = true by
          have := List.eq_nil_of_length_eq_zero hl.out
          subst this; rfl)
        go_enter Try.func89, Try.ntmps89
        go_wp2_with fail
        refine (specIs hK A 0 c B zs _ hIa.out (by rw [alloc_size]; omega) hn).mono ?_
        rw [ha]
        rintro e w1 ⟨rfl, hb⟩
        have HX1 := hide (HX.out.next hb)
        clear hb
        go_wp2_with fail
        go_ret
        exact ⟨ret_bool HF, HX1.out.2⟩
      · obtain ⟨m, hm⟩ : ∃ m, n = m + 1 := ⟨n - 1, by omega⟩
        have HM := hide hm
        have hmn : m < n := by omega
        have hw1 : IntKind.i64.wrap ((n : Int) - 1) = (m : Int) := by rw [IntWalk.i64_in _ ⟨by omega, by omega⟩]; omega
        have h0' : ((n : Int) == 0) = false := by simp; omega
        clear hm
        go_enter Try.func89, Try.ntmps89
        go_wp2_with fail
        refine (specIs hK A n c B zs _ hIa.out (by rw [alloc_size]; omega) hn).mono ?_
        rw [ha]
        rintro e w1 ⟨rfl, hb⟩
        have HX1 := hide (HX.out.next hb)
        clear hb
        obtain ⟨b, off, x, rfl, hb, hx, hc⟩ := (HI.out.below (HX1.out.2.mono hB)).at_ (j := m) (by omega)
        have HF := hide (show polyB q zs = (x != 0) by
          have e : zs.getLast? = some x := by rw [List.getLast?_eq_getElem?, hl.out, show n - 1 = m by have := HM.out; omega]; exact hx
          rw [polyB, ha, e, hl.out, show decide (n ≤ 512) = true by simpa using h512, Bool.eq_iff_iff]; simp)
        clear hx h0
        go_wp2_with fail
        go_ret
        exact ⟨ret_bool HF, HX1.out.2⟩
  · have HF := hide (show polyB q zs = false by rw [polyB, show decide (zs.length ≤ 512) = false by rw [hl.out]; simpa using h512]; rfl)
    have h512' : decide ((512 : Int) < (n : Int)) = true := by simp; omega
    go_enter Try.func89, Try.ntmps89
    go_wp2_with fail
    go_ret
    exact ⟨ret_bool HF, HX.out.2⟩

def PcRel (w : World) (p k g : Int) (q n : Nat) (L : List (Option Addr × Nat × Nat × List Int)) (i : Value) (wr : World) : Prop :=
  ∃ j : Nat, j ≤ n ∧ i = .int .i64 j ∧ Hid (∀ e ∈ L.take j, polyB q e.2.2.2 = true) ∧ Box w wr 25 p k g

set_option maxHeartbeats 1000000 in
theorem specPErr (p k g : Int) (b n c B : Nat) (L : List (Option Addr × Nat × Nat × List Int)) (w : World) (hR : Rws w B b L) (hL : L.length = n) (hB : B ≤ w.heap.size) (hn : n ≤ 100) :
    Calls Try.prog 70 #[.agg #[.int .i64 p, .int .i64 k, .int .i64 g], .slice (some ⟨b, 0, none⟩) n c] w (Gives (.int .i64 (pErr p k g (lists L))) w) := by
  have HX := hide (Box.start w 25 p k g)
  have HR := hide hR
  clear hR
  rcases h : fieldB p k g with _ | _
  · have HF := hide (pErr_no (L := lists L) h)
    have HB := hide h
    clear h
    go_enter Try.func70, Try.ntmps70
    go_wp2_with fail
    refine (specIsField p k g _).mono ?_
    rw [HB.out]
    rintro e w1 ⟨rfl, hb⟩
    have HX1 := hide (HX.out.next hb)
    clear hb
    go_wp2_with fail
    go_ret
    exact ⟨ret_int HF, HX1.out.2⟩
  · obtain ⟨q, mul, γ, hK, _⟩ := fieldB_open h
    have HB := hide h
    clear h
    go_enter Try.func70, Try.ntmps70
    go_wp2_with fail
    refine (specIsField p k g _).mono ?_
    rw [HB.out]
    rintro e w1 ⟨rfl, hb⟩
    have HX1 := hide (HX.out.next hb)
    clear hb
    go_wp2_with fail
    go_loopw [5] (fun i wr => PcRel w p k g q n L i wr) (fun i _ => n - (intOf i).toNat)
    case atStart => exact ⟨0, by omega, rfl, by simp [Hid], HX1⟩
    case round =>
      clear HX1
      obtain ⟨j, hj, rfl, HA, HX⟩ := hrel
      have HX := hide HX
      obtain ⟨c0, c1, c2⟩ := HX.out.cells
      by_cases hlt : j < n
      · obtain ⟨⟨A, m, cc, zs⟩, he⟩ : ∃ e, L[j]? = some e := ⟨_, List.getElem?_eq_getElem (by omega)⟩
        obtain ⟨hc, hI, hm⟩ := (HR.out.below (HX.out.2.mono hB)).2 j _ he
        simp only at hc hI hm
        have HI := hide hI
        have HE := hide he
        have HC := hide hc
        have hbl : b < wr.heap.size := Nat.lt_of_lt_of_le HR.out.1 (Nat.le_trans hB (Nat.le_of_lt HX.out.lt))
        clear hI he
        rcases hp : polyB q zs with _ | _
        · have HF := hide (pErr_bad (L := lists L) hK (List.mem_map.2 ⟨_, List.mem_of_getElem? HE.out, rfl⟩) hp)
          go_wp2_with fail
          go_region_held3 (fun w' => w'.cell? ⟨w.heap.size, 0, none⟩ = some (.int .i64 p) ∧ w'.cell? ⟨w.heap.size, 1, none⟩ = some (.int .i64 k) ∧ w'.cell? ⟨w.heap.size, 2, none⟩ = some (.int .i64 g) ∧ w'.cell? ⟨b, j, none⟩ = some (.slice A m cc))
            (first
              | exact ⟨HX.out.drew.cells.1, HX.out.drew.cells.2.1, HX.out.drew.cells.2.2, HC.out⟩
              | exact ⟨HX2.out.cells.1, HX2.out.cells.2.1, HX2.out.cells.2.2, HC2.out⟩)
            ((go_at_call 89; refine (specL3Is hK A m cc B zs _ HI.out.drew (Nat.le_trans hB (Nat.le_of_lt HX.out.lt)) hm).mono ?_; rw [hp]; rintro e w2 ⟨rfl, hb2⟩; have HX2 := hide (HX.out.drew.next hb2); have HC2 := hide ((hb2.cell (p := ⟨b, j, none⟩) hbl).trans HC.out); clear hb2))
          go_wp2_with fail
          go_ret
          exact ⟨ret_int HF, HX2.out.2⟩
        · have HN := hide (show ∀ e ∈ L.take (j + 1), polyB q e.2.2.2 = true by
            intro e hm
            rw [List.take_add_one, HE.out] at hm
            simp only [Option.toList_some, List.mem_append, List.mem_singleton] at hm
            rcases hm with hm | rfl
            · exact HA.out e hm
            · exact hp)
          go_wp2_with fail
          go_region_held3 (fun w' => w'.cell? ⟨w.heap.size, 0, none⟩ = some (.int .i64 p) ∧ w'.cell? ⟨w.heap.size, 1, none⟩ = some (.int .i64 k) ∧ w'.cell? ⟨w.heap.size, 2, none⟩ = some (.int .i64 g) ∧ w'.cell? ⟨b, j, none⟩ = some (.slice A m cc))
            (first
              | exact ⟨HX.out.drew.cells.1, HX.out.drew.cells.2.1, HX.out.drew.cells.2.2, HC.out⟩
              | exact ⟨HX2.out.cells.1, HX2.out.cells.2.1, HX2.out.cells.2.2, HC2.out⟩)
            ((go_at_call 89; refine (specL3Is hK A m cc B zs _ HI.out.drew (Nat.le_trans hB (Nat.le_of_lt HX.out.lt)) hm).mono ?_; rw [hp]; rintro e w2 ⟨rfl, hb2⟩; have HX2 := hide (HX.out.drew.next hb2); have HC2 := hide ((hb2.cell (p := ⟨b, j, none⟩) hbl).trans HC.out); clear hb2))
          go_wp2_with fail
          go_roundw
          case rel => exact ⟨j + 1, by omega, by go_num, HN, HX2⟩
          case measure => simp [intOf]; omega
      · have HF := hide (show pErr p k g (lists L) = 0 from pErr_ok HB.out hK (by
          intro zs hz
          obtain ⟨e, he, rfl⟩ := List.mem_map.1 hz
          exact HA.out e (by rw [List.take_of_length_le (by omega)]; exact he)))
        go_wp2_with fail
        go_ret
        exact ⟨ret_int HF, HX.out.2⟩
end Go.Proofs.Ythafkohopkgckaa
