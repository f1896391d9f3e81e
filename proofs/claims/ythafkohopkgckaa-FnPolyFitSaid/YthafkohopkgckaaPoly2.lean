/-
  The contracts of the program's functions that tell whether lists are polynomials, of the last coefficient and of the value.
  Condition: lists shorter than 2^40, which every list of a run is.
-/
import Derived.Test.YthafkohopkgckaaPoly1
namespace Go.Proofs.Ythafkohopkgckaa
open Go.RowKit
set_option linter.unusedSimpArgs false

/-- Whether a list is a polynomial over a field with q elements. -/
def polyB (q : Nat) (zs : List Int) : Bool := decide (zs.length ≤ 512) && (zs.all (elB q) && decide (zs.getLast? ≠ some 0))
/-- The code of a field and some lists. -/
def pErr (p k g : Int) (L : List (List Int)) : Int := if fieldB p k g = true ∧ ∀ zs ∈ L, polyB (sizeI p k).toNat zs = true then 0 else 1

def AllRel (w : World) (p k g : Int) (q n : Nat) (zs : List Int) (i : Value) (wr : World) : Prop :=
  ∃ j : Nat, j ≤ n ∧ i = .int .i64 j ∧ Hid ((zs.take j).all (elB q) = true) ∧ Box w wr 25 p k g

set_option maxHeartbeats 1000000 in
theorem implHasAll {p k g : Int} {q : Nat} {mul : Nat → Nat → Nat} (hK : Kd p k g q mul) (A : Option Addr) (n c B : Nat) (zs : List Int) (w : World) (hI : Ints .i64 w B A n zs) (hB : B ≤ w.heap.size) (hn : n ≤ 1099511627776) :
    Calls Try.prog 80 #[.agg #[.int .i64 p, .int .i64 k, .int .i64 g], .slice A n c] w (Gives (.bool (zs.all (elB q))) w) := by
  have HX := hide (Box.start w 25 p k g)
  have HI := hide hI
  have hl := hide hI.len
  clear hI
  go_enter Try.func80, Try.ntmps80
  go_wp2_with fail
  go_loopw [9] (fun i wr => AllRel w p k g q n zs i wr) (fun i _ => n - (intOf i).toNat)
  case atStart => exact ⟨0, by omega, rfl, by simp [Hid], HX⟩
  case round =>
    clear HX
    obtain ⟨j, hj, rfl, HA, HX⟩ := hrel
    have HX := hide HX
    obtain ⟨c0, c1, c2⟩ := HX.out.cells
    by_cases hlt : j < n
    · obtain ⟨b, off, x, rfl, hb, hx, hc⟩ := (HI.out.below (HX.out.2.mono hB)).at_ hlt
      have hx' := hide hx
      clear hx
      rcases he : elB q x with _ | _
      · have HF := hide (all_no hx' he)
        have he' : decide (0 ≤ x ∧ x < (q : Int)) = false := he
        go_wp2_with fail
        refine (implHas hK x _).mono ?_
        rw [he']
        clear he he'
        rintro e w2 ⟨rfl, hb2⟩
        have HX2 := hide (HX.out.next hb2)
        clear hb2
        go_wp2_with fail
        go_ret
        exact ⟨ret_bool HF, HX2.out.2⟩
      · have HN := hide (all_snoc HA.out hx' he)
        have he' : decide (0 ≤ x ∧ x < (q : Int)) = true := he
        go_wp2_with fail
        refine (implHas hK x _).mono ?_
        rw [he']
        clear he he'
        rintro e w2 ⟨rfl, hb2⟩
        have HX2 := hide (HX.out.next hb2)
        clear hb2
        go_wp2_with fail
        go_roundw
        case rel => exact ⟨j + 1, by omega, by go_num, HN, HX2⟩
        case measure => simp [intOf]; omega
    · have HF := hide (show zs.all (elB q) = true by
        have h1 := HA.out
        rwa [List.take_of_length_le (by rw [hl.out]; omega)] at h1)
      go_wp2_with fail
      go_ret
      exact ⟨ret_bool HF, HX.out.2⟩

theorem implLast (A : Option Addr) (n c B : Nat) (zs : List Int) (x : Int) (w : World) (hI : Ints .i64 w B A n zs) (hx : zs.getLast? = some x) (hn : n ≤ 1099511627776) :
    Calls Try.prog 102 #[.slice A n c] w fun e w' => e = .returned (.int .i64 x) ∧ w = w' := by
  have hl := hI.len
  have hp : 0 < n := by
    rcases zs with _ | ⟨z, zs⟩
    · cases hx
    · simp at hl; omega
  obtain ⟨m, rfl⟩ : ∃ m, n = m + 1 := ⟨n - 1, by omega⟩
  obtain ⟨b, off, y, rfl, hb, hy, hc⟩ := hI.at_ (j := m) (by omega)
  have e : y = x := by
    rw [List.getLast?_eq_getElem?, hl, show m + 1 - 1 = m by omega, hy] at hx
    simpa using hx
  subst e
  have hw1 : ((m + 1 : Nat) : Int) - 1 = (m : Int) := by omega
  clear hI hx hy hl
  go_enter Try.func102, Try.ntmps102
  go_wp2
  go_ret
  exact ⟨rfl, rfl⟩

theorem getLast_ex {zs : List Int} {n : Nat} (hl : zs.length = n) (hp : 0 < n) : ∃ x, zs.getLast? = some x := by
  rcases zs with _ | ⟨z, zs⟩
  · simp at hl; omega
  · exact ⟨_, List.getLast?_cons⟩

set_option maxHeartbeats 1000000 in
theorem implIsOver {p k g : Int} {q : Nat} {mul : Nat → Nat → Nat} (hK : Kd p k g q mul) (A : Option Addr) (n c B : Nat) (zs : List Int) (w : World) (hI : Ints .i64 w B A n zs) (hB : B ≤ w.heap.size) (hn : n ≤ 1099511627776) :
    Calls Try.prog 99 #[.slice A n c, .agg #[.int .i64 p, .int .i64 k, .int .i64 g]] w (Gives (.bool (polyB q zs)) w) := by
  have HX := hide (Box.start w 25 p k g)
  have HI := hide hI
  have hl := hide hI.len
  clear hI
  by_cases h512 : n ≤ 512
  · have hIa := hide (((HI.out.below ((Below.refl _ _).alloc hB (.cells #[.int .i64 p, .int .i64 k, .int .i64 g] 25)))))
    rcases ha : zs.all (elB q) with _ | _
    · have HF := hide (show polyB q zs = false by rw [polyB, ha]; simp)
      have h512' : decide ((512 : Int) < (n : Int)) = false := by simp; omega
      go_enter Try.func99, Try.ntmps99
      go_wp2_with fail
      refine (implHasAll hK A n c B zs _ hIa.out (by rw [alloc_size]; omega) hn).mono ?_
      rw [ha]
      rintro e w1 ⟨rfl, hb⟩
      have HX1 := hide (HX.out.next hb)
      clear hb
      go_wp2_with fail
      go_ret
      exact ⟨ret_bool HF, HX1.out.2⟩
    · by_cases h0 : n = 0
      · subst h0
        have HF := hide (show polyB q zs = true by
          have := List.eq_nil_of_length_eq_zero hl.out
          subst this; rfl)
        go_enter Try.func99, Try.ntmps99
        go_wp2_with fail
        refine (implHasAll hK A 0 c B zs _ hIa.out (by rw [alloc_size]; omega) hn).mono ?_
        rw [ha]
        rintro e w1 ⟨rfl, hb⟩
        have HX1 := hide (HX.out.next hb)
        clear hb
        go_wp2_with fail
        go_ret
        exact ⟨ret_bool HF, HX1.out.2⟩
      · obtain ⟨x, hx⟩ := getLast_ex hl.out (by omega)
        have HF := hide (show polyB q zs = (x != 0) by
          rw [polyB, ha, hx, hl.out, show decide (n ≤ 512) = true by simpa using h512, Bool.eq_iff_iff]; simp)
        have HXX := hide hx
        have h0' : ((n : Int) == 0) = false := by simp; omega
        clear hx
        go_enter Try.func99, Try.ntmps99
        go_wp2_with fail
        refine (implHasAll hK A n c B zs _ hIa.out (by rw [alloc_size]; omega) hn).mono ?_
        rw [ha]
        rintro e w1 ⟨rfl, hb⟩
        have HX1 := hide (HX.out.next hb)
        have HI1 := hide (HI.out.below (HX1.out.2.mono hB))
        clear hb
        go_wp2_with fail
        refine (implLast A n c B zs x _ HI1.out HXX.out hn).mono ?_
        rintro e w2 ⟨rfl, rfl⟩
        go_wp2_with fail
        go_ret
        exact ⟨ret_bool HF, HX1.out.2⟩
  · have HF := hide (show polyB q zs = false by rw [polyB, show decide (zs.length ≤ 512) = false by rw [hl.out]; simpa using h512]; rfl)
    have h512' : decide ((512 : Int) < (n : Int)) = true := by simp; omega
    go_enter Try.func99, Try.ntmps99
    go_wp2_with fail
    go_ret
    exact ⟨ret_bool HF, HX.out.2⟩

/-- A slice of slices of integers: it lies in the block b below B, what it holds too. -/
def Rws (w : World) (B b : Nat) (L : List (Option Addr × Nat × Nat × List Int)) : Prop :=
  b < B ∧ ∀ i e, L[i]? = some e → w.cell? ⟨b, i, none⟩ = some (.slice e.1 e.2.1 e.2.2.1) ∧ Ints .i64 w B e.1 e.2.1 e.2.2.2 ∧ e.2.1 ≤ 1099511627776
theorem Rws.below {w w' : World} {B b : Nat} {L : List (Option Addr × Nat × Nat × List Int)} (h : Rws w B b L) (hb : Below B w w') : Rws w' B b L :=
  ⟨h.1, fun i e he => ⟨(hb.cell (p := ⟨b, i, none⟩) h.1).trans (h.2 i e he).1, (h.2 i e he).2.1.below hb, (h.2 i e he).2.2⟩⟩
def lists (L : List (Option Addr × Nat × Nat × List Int)) : List (List Int) := L.map fun e => e.2.2.2

def PeRel (w : World) (p k g : Int) (q n : Nat) (L : List (Option Addr × Nat × Nat × List Int)) (i : Value) (wr : World) : Prop :=
  ∃ j : Nat, j ≤ n ∧ i = .int .i64 j ∧ Hid (∀ e ∈ L.take j, polyB q e.2.2.2 = true) ∧ Box w wr 25 p k g

theorem pErr_no {p k g : Int} {L : List (List Int)} (h : fieldB p k g = false) : pErr p k g L = 1 := by rw [pErr, if_neg]; rw [h]; simp
theorem pErr_bad {p k g : Int} {q : Nat} {mul : Nat → Nat → Nat} {L : List (List Int)} {zs : List Int} (hK : Kd p k g q mul) (hz : zs ∈ L) (hp : polyB q zs = false) : pErr p k g L = 1 := by
  rw [pErr, if_neg]
  rintro ⟨_, h⟩
  have := h zs hz
  rw [hK.size, Int.toNat_natCast, hp] at this
  cases this
theorem pErr_ok {p k g : Int} {q : Nat} {mul : Nat → Nat → Nat} {L : List (List Int)} (hf : fieldB p k g = true) (hK : Kd p k g q mul) (h : ∀ zs ∈ L, polyB q zs = true) : pErr p k g L = 0 := by
  rw [pErr, if_pos]
  rw [hK.size, Int.toNat_natCast]
  exact ⟨hf, h⟩

set_option maxHeartbeats 1000000 in
theorem implPErr (p k g : Int) (b n c B : Nat) (L : List (Option Addr × Nat × Nat × List Int)) (w : World) (hR : Rws w B b L) (hL : L.length = n) (hB : B ≤ w.heap.size) (hn : n ≤ 100) :
    Calls Try.prog 67 #[.agg #[.int .i64 p, .int .i64 k, .int .i64 g], .slice (some ⟨b, 0, none⟩) n c] w (Gives (.int .i64 (pErr p k g (lists L))) w) := by
  have HX := hide (Box.start w 25 p k g)
  have HR := hide hR
  clear hR
  rcases h : fieldB p k g with _ | _
  · have HF := hide (pErr_no (L := lists L) h)
    have HB := hide h
    clear h
    go_enter Try.func67, Try.ntmps67
    go_wp2_with fail
    refine (implValid p k g _).mono ?_
    rw [HB.out]
    rintro e w1 ⟨rfl, hb⟩
    have HX1 := hide (HX.out.next hb)
    clear hb
    go_wp2_with fail
    go_ret
    exact ⟨ret_int HF, HX1.out.2⟩
  · obtain ⟨q, mul, γ, hK, _⟩ := fieldB_open h
    have HB := hide h
    clear h
    go_enter Try.func67, Try.ntmps67
    go_wp2_with fail
    refine (implValid p k g _).mono ?_
    rw [HB.out]
    rintro e w1 ⟨rfl, hb⟩
    have HX1 := hide (HX.out.next hb)
    clear hb
    go_wp2_with fail
    go_loopw [12] (fun i wr => PeRel w p k g q n L i wr) (fun i _ => n - (intOf i).toNat)
    case atStart => exact ⟨0, by omega, rfl, by simp [Hid], HX1⟩
    case round =>
      clear HX1
      obtain ⟨j, hj, rfl, HA, HX⟩ := hrel
      have HX := hide HX
      obtain ⟨c0, c1, c2⟩ := HX.out.cells
      by_cases hlt : j < n
      · obtain ⟨⟨A, m, cc, zs⟩, he⟩ : ∃ e, L[j]? = some e := ⟨_, List.getElem?_eq_getElem (by omega)⟩
        obtain ⟨hc, hI, hm⟩ := (HR.out.below (HX.out.2.mono hB)).2 j _ he
        simp only at hc hI hm
        have HI := hide hI
        have HE := hide he
        clear hI he
        rcases hp : polyB q zs with _ | _
        · have HF := hide (pErr_bad (L := lists L) hK (List.mem_map.2 ⟨_, List.mem_of_getElem? HE.out, rfl⟩) hp)
          go_wp2_with fail
          refine (implIsOver hK A m cc B zs _ HI.out (Nat.le_trans hB (Nat.le_of_lt HX.out.lt)) hm).mono ?_
          rw [hp]
          rintro e w2 ⟨rfl, hb2⟩
          have HX2 := hide (HX.out.next hb2)
          clear hb2
          go_wp2_with fail
          go_ret
          exact ⟨ret_int HF, HX2.out.2⟩
        · have HN := hide (show ∀ e ∈ L.take (j + 1), polyB q e.2.2.2 = true by
            intro e hm
            rw [List.take_add_one, HE.out] at hm
            simp only [Option.toList_some, List.mem_append, List.mem_singleton] at hm
            rcases hm with hm | rfl
            · exact HA.out e hm
            · exact hp)
          go_wp2_with fail
          refine (implIsOver hK A m cc B zs _ HI.out (Nat.le_trans hB (Nat.le_of_lt HX.out.lt)) hm).mono ?_
          rw [hp]
          rintro e w2 ⟨rfl, hb2⟩
          have HX2 := hide (HX.out.next hb2)
          clear hb2
          go_wp2_with fail
          go_roundw
          case rel => exact ⟨j + 1, by omega, by go_num, HN, HX2⟩
          case measure => simp [intOf]; omega
      · have HF := hide (show pErr p k g (lists L) = 0 from pErr_ok HB.out hK (by
          intro zs hz
          obtain ⟨e, he, rfl⟩ := List.mem_map.1 hz
          exact HA.out e (by rw [List.take_of_length_le (by omega)]; exact he)))
        go_wp2_with fail
        go_ret
        exact ⟨ret_int HF, HX.out.2⟩
end Go.Proofs.Ythafkohopkgckaa
