/-
  What every proof of this seat's rows shares: two closed facts on the program, and what the row tells of a slice of integers that came in.
  The contracts of the laws' own helpers likeInts and big.
  What FieldOf finds, told by numbers.
  What the laws of fields with a code share: the test of the code's size, a draw of a number, what FieldOf finds.
  The contract of the program's FieldOf.
  The contract of the model's FieldOf.
  The draws of fields: what is drawn is some field; only the source's own block changes.
  The model's draws of texts, of a mode and a byte, and of a text for NarrowestMode: anything may come, within bounds.
  The model's draw of a message of parts in several modes: anything may come, within bounds.
  What the walks of the exact laws of fields share: the field that a law is given is handed on as it is.
  Condition: as each statement says.
-/
import Derived.Test.YthmpfnbcodolcaaRows
import Derived.Test.YthmpfnbcodolcaaWords
import Derived.ProofKit
import Derived.OpenShut
import Derived.ShutString
import Derived.ChangeOld
import Derived.Test.YthmpfnbcodolcaaMarks
import Derived.Test.YthmpfnbcodolcaaFErr
import Derived.Test.YthmpfnbcodolcaaDraw
import Derived.Test.YthmpfnbcodolcaaFImpl4
import Derived.Test.YthmpfnbcodolcaaFSpec2
import Derived.Test.YthmpfnbcodolcaaFSpec3
import Derived.Test.YthmpfnbcodolcaaDrawK
import Derived.Test.YthmpfnbcodolcaaBox
import Derived.Test.YthmpfnbcodolcaaSg2
import Derived.Test.YthmpfnbcodolcaaTail2
import Derived.Test.YthmpfnbcodolcaaLawKit
import Derived.Test.YthmpfnbcodolcaaProg
namespace Go.Proofs.Ythmpfnbcodolcaa
open Go.ChangeShapes Go.WideShapes Go.ChangeAt Go.RowKit
theorem ownK : ownKnob Try.prog.godebug = none := by kernel_rfl
theorem laidOutK : laidOutB Try.prog = true := by kernel_rfl

/-- A slice of integers that came in reads as zs, all of which fit their kind. -/
def Came (k : IntKind) (w : World) (A : Option Addr) (n c : Nat) (zs : List Int) : Prop :=
  Ints k w w.heap.size A n zs ∧ n ≤ c ∧ c ≤ maxLen ∧ ∀ x ∈ zs, (Lit.int k x).wf = true

theorem came_of {H : Type} {enc : TypeId × Value → H} {P : Program} {W : World} {base : Nat} {sp : Nat → Bool} {held : Bool} {t e : TypeId} {k : IntKind} {A : Option Addr} {n c : Nat} {d : DataW H} {ps : List MemPlace}
    (ht : P.underlying t = some (.slice e)) (he : P.underlying e = some (.int k)) (hc : P.cellsOf e = 1) (h : DataW.Trod enc P W base sp held t (.slice A n c) d ps) : ∃ zs, Came k W A n c zs := by
  obtain ⟨fuel, hf⟩ := h
  rcases open_ints ht he hc hf with ⟨hcs, _⟩ | ⟨a, len, cap, zs, hcs, _, hl, hm, hz, _, hcell, hwz⟩
  · simp [Value.cells] at hcs
    obtain ⟨rfl, rfl, rfl⟩ := hcs
    exact ⟨[], Ints.empty, by omega, by unfold maxLen; omega, by simp⟩
  · simp [Value.cells] at hcs
    obtain ⟨rfl, rfl, rfl⟩ := hcs
    have hlz : n ≤ zs.length := by rw [hz]; split <;> omega
    refine ⟨zs.take n, ⟨by rw [List.length_take]; omega, fun hn => ?_⟩, hl, hm, fun x hx => hwz x (List.mem_of_mem_take hx)⟩
    obtain ⟨b, off, spot⟩ := a
    have hc0 := hcell 0 (by omega)
    have hspot : spot = none := by simpa [Addr.add] using World.cell?_spot hc0
    subst hspot
    refine ⟨b, off, rfl, World.block_lt_of_cell? W _ (by simpa [Addr.add] using hc0), fun j x hx => ?_⟩
    have hj : j < zs.length := by
      have := (List.getElem?_eq_some_iff.1 hx).1
      rw [List.length_take] at this; omega
    have hjn : j < n := by
      have := (List.getElem?_eq_some_iff.1 hx).1
      rw [List.length_take] at this; omega
    have h1 := hcell j hj
    rw [List.getElem?_take, if_pos hjn] at hx
    rw [List.getD_eq_getElem?_getD, hx] at h1
    rw [show (⟨b, off, none⟩ : Addr).add j = ⟨b, off + j, none⟩ by unfold Addr.add; split <;> simp_all] at h1
    exact h1
end Go.Proofs.Ythmpfnbcodolcaa

namespace Go.Proofs.Ythmpfnbcodolcaa
open Go.RowKit

set_option maxHeartbeats 400000 in
theorem likeInts (A : Option Addr) (n c B : Nat) (za : List Int) (A' : Option Addr) (n' c' B' : Nat) (zb : List Int) (w : World) (hI : Ints .i64 w B A n za) (hJ : Ints .i64 w B' A' n' zb) (hn : n ≤ 1099511627776) (hn' : n' ≤ 1099511627776) :
    Calls Try.prog 16 #[.slice A n c, .slice A' n' c'] w (Tells (.bool (sameI za zb)) w) := by
  have hl := hide hI.len
  have hl' := hide hJ.len
  have HI := hide hI
  have HJ := hide hJ
  clear hI hJ
  by_cases hne : n = n'
  · subst hne
    go_enter Try.func16, Try.ntmps16
    go_wp2
    go_loopw [5] (fun i wr => EqRel n za zb w i wr) (fun i _ => n - (intOf i).toNat)
    case atStart => exact ⟨0, by omega, rfl, by simp, 0, rfl⟩
    case round =>
      obtain ⟨k, hk, rfl, htake, m, rfl⟩ := hrel
      have HT := hide htake
      clear htake
      by_cases hlt : k < n
      · obtain ⟨b, off, x, rfl, hb, hx, hc⟩ := HI.out.at_ hlt
        obtain ⟨b', off', y, rfl, hb', hy, hc'⟩ := HJ.out.at_ hlt
        have HX := hide hx
        have HY := hide hy
        clear hx hy
        have z1 : (k : Int) < (n : Int) := by omega
        have z0 : (0 : Int) ≤ (k : Int) := by omega
        by_cases hxy : x = y
        · subst hxy
          go_wp2
          go_quiet (fail)
          go_wp2
          go_roundw
          case rel => exact ⟨k + 1, by omega, by go_num, take_same HT HX HY, _, rfl⟩
          case measure => simp [intOf]; omega
        · have HN := hide (sameI_at HX HY hxy)
          have e0 : (x != y) = true := by simpa using hxy
          go_wp2
          go_quiet (fail)
          go_wp2
          go_ret
          exact ⟨ret_bool HN, _, World.drewN_drewN _ _ _⟩
      · have HH := hide (sameI_yes hl hl' (show za.take n = zb.take n by rw [show n = k by omega]; exact HT))
        go_wp2
        go_ret
        exact ⟨ret_bool HH, m, rfl⟩
  · have HN := hide (sameI_len (a := za) (b := zb) (by rw [hl.out, hl'.out]; exact hne))
    have e0 : ((n : Int) != (n' : Int)) = true := by simp; omega
    go_enter Try.func16, Try.ntmps16
    go_wp2
    go_ret
    exact ⟨ret_bool HN, 0, rfl⟩


theorem likeSame (A : Option Addr) (n c B : Nat) (A' : Option Addr) (n' c' B' : Nat) (zs : List Int) (w : World) (hI : Ints .i64 w B A n zs) (hJ : Ints .i64 w B' A' n' zs) (hn : zs.length ≤ 1099511627776) :
    Calls Try.prog 16 #[.slice A n c, .slice A' n' c'] w (Gives (.bool true) w) :=
  (likeInts A n c B zs A' n' c' B' zs w hI hJ (by rw [← hI.len]; exact hn) (by rw [← hJ.len]; exact hn)).mono fun _ _ ⟨he, m, hw⟩ => ⟨by rw [he, sameI_refl], by rw [hw]; exact below_drewN (Below.refl _ _) m⟩

theorem big_yes (A : Option Addr) (n c : Nat) (w : World) (hn : 4096 < n) (hm : n ≤ 9223372036854775807) :
    Calls Try.prog 12 #[.slice A n c] w fun e w' => e = .returned (.bool true) ∧ w = w' := by
  go_enter Try.func12, Try.ntmps12
  go_wp2
  go_ret
  exact ⟨ret_bool (by simp; omega), rfl⟩
theorem big_no (A : Option Addr) (n c : Nat) (w : World) (hn : n ≤ 4096) :
    Calls Try.prog 12 #[.slice A n c] w fun e w' => e = .returned (.bool false) ∧ w = w' := by
  go_enter Try.func12, Try.ntmps12
  go_wp2
  go_ret
  exact ⟨ret_bool (by simp; omega), rfl⟩
end Go.Proofs.Ythmpfnbcodolcaa

namespace Go.Proofs.Ythmpfnbcodolcaa
open Go.RowKit

/-- The least polynomial of a degree that makes a field, or 0. -/
def powG (K : Nat) : Nat := ((List.range (2 ^ (K + 1))).find? (fun G : Nat => decide (2 ^ K ≤ G) && fieldB 2 K G)).getD 0
theorem powG_at {K G : Nat} (h1 : 2 ^ K ≤ G) (h2 : G < 2 ^ (K + 1)) (hG : fieldB 2 K G = true) (hb : ∀ j : Nat, j < G → 2 ^ K ≤ j → fieldB 2 K j = false) : powG K = G := by
  rw [powG, find_at h2 (by simp [h1, hG])]
  · rfl
  · intro j hj
    by_cases h : 2 ^ K ≤ j
    · simp [hb j hj h]
    · simp [h]
theorem powG_none {K : Nat} (hb : ∀ j : Nat, j < 2 ^ (K + 1) → 2 ^ K ≤ j → fieldB 2 K j = false) : powG K = 0 := by
  rw [powG, List.find?_eq_none.2]
  · rfl
  · intro j hj
    by_cases h : 2 ^ K ≤ j
    · simp [hb j (List.mem_range.1 hj) h]
    · simp [h]
theorem powG_spec {K : Nat} (h : powG K ≠ 0) : 2 ^ K ≤ powG K ∧ powG K < 2 ^ (K + 1) ∧ fieldB 2 K (powG K) = true ∧ ∀ j : Nat, j < powG K → 2 ^ K ≤ j → fieldB 2 K j = false := by
  rcases hf : (List.range (2 ^ (K + 1))).find? (fun G : Nat => decide (2 ^ K ≤ G) && fieldB 2 K G) with _ | i
  · exact absurd (by rw [powG, hf]; rfl) h
  · have hl : powG K = i := by rw [powG, hf]; rfl
    rw [hl]
    rw [List.find?_range_eq_some] at hf
    obtain ⟨h1, h2, h3⟩ := hf
    simp only [Bool.and_eq_true, decide_eq_true_eq] at h1
    refine ⟨h1.1, by simpa using h2, h1.2, fun j hj h1j => ?_⟩
    have := h3 j hj
    simpa [h1j] using this

/-- What is found of a degree, and with what code. -/
def lowP (K : Nat) : Int := if powG K = 0 then 0 else 2
def lowK (K : Nat) : Int := if powG K = 0 then 0 else K
def lowC (K : Nat) : Int := if powG K = 0 then 4 else 0
def isPow (s : Int) : Option Nat := (List.range 9).find? (fun K => decide (3 ≤ K) && decide (s = 2 ^ K))
theorem isPow_at {s : Int} {K : Nat} (h3 : 3 ≤ K) (h8 : K ≤ 8) (h : s = 2 ^ K) : isPow s = some K := by
  rw [isPow, find_at (i := K) (by omega) (by simp [h3, h])]
  intro j hj
  simp only [Bool.and_eq_false_iff, decide_eq_false_iff_not]
  right
  rw [h]
  intro he
  have h1 : ((2 ^ K : Nat) : Int) = ((2 ^ j : Nat) : Int) := by push_cast; exact he
  have h2 : 2 ^ j < 2 ^ K := Nat.pow_lt_pow_right (by decide) hj
  omega
theorem isPow_no {s : Int} (h : ∀ K : Nat, 3 ≤ K → K ≤ 8 → s ≠ 2 ^ K) : isPow s = none := by
  rw [isPow, List.find?_eq_none]
  intro K hK
  have := List.mem_range.1 hK
  simp only [Bool.and_eq_true, decide_eq_true_eq, not_and]
  exact fun h3 => h K h3 (by omega)
/-- The four numbers that FieldOf returns. -/
def foP (s : Int) : Int := if k1B s 1 = true then s else match isPow s with | none => 0 | some K => lowP K
def foK (s : Int) : Int := if k1B s 1 = true then 1 else match isPow s with | none => 0 | some K => lowK K
def foG (s : Int) : Int := if k1B s 1 = true then (least s.toNat (mul1 s.toNat) : Nat) else match isPow s with | none => 0 | some K => (powG K : Nat)
def foC (s : Int) : Int := if k1B s 1 = true then 0 else match isPow s with | none => 4 | some K => lowC K
theorem fo_1 {P : Nat} (h : k1B P 1 = true) : foP P = P ∧ foK P = 1 ∧ foG P = (least P (mul1 P) : Nat) ∧ foC P = 0 := by
  simp only [foP, foK, foG, foC, h, if_true, Int.toNat_natCast]
  exact ⟨trivial, trivial, trivial, trivial⟩
theorem fo_2 {s : Int} {K : Nat} (h : k1B s 1 = false) (hK : isPow s = some K) : foP s = lowP K ∧ foK s = lowK K ∧ foG s = (powG K : Nat) ∧ foC s = lowC K := by
  simp only [foP, foK, foG, foC, h, hK]
  exact ⟨rfl, rfl, rfl, rfl⟩
theorem fo_0 {s : Int} (h : k1B s 1 = false) (hK : isPow s = none) : foP s = 0 ∧ foK s = 0 ∧ foG s = 0 ∧ foC s = 4 := by
  simp only [foP, foK, foG, foC, h, hK]
  exact ⟨rfl, rfl, rfl, rfl⟩

/-- What a function leaves that returns a field and a code. -/
def GivesF (p k g c : Int) (w : World) (x : Ending) (w' : World) : Prop := x = .returned (.tuple #[.agg #[.int .i64 p, .int .i64 k, .int .i64 g], .int .i64 c]) ∧ Below w.heap.size w w'
theorem ret_f {p k g c p' k' g' c' : Int} (h1 : p' = p) (h2 : k' = k) (h3 : g' = g) (h4 : c' = c) : Ending.returned (.tuple #[.agg #[.int .i64 p, .int .i64 k, .int .i64 g], .int .i64 c]) = .returned (.tuple #[.agg #[.int .i64 p', .int .i64 k', .int .i64 g'], .int .i64 c']) := by
  rw [h1, h2, h3, h4]
theorem Box.frozen {w wr : World} {t : TypeId} {p k g : Int} (h : Box w wr t p k g) : wr.frozen? ⟨w.heap.size, 0, none⟩ = false ∧ wr.frozen? ⟨w.heap.size, 1, none⟩ = false ∧ wr.frozen? ⟨w.heap.size, 2, none⟩ = false :=
  ⟨frozen_of_row wr _ 0 _ _ h.1, frozen_of_row wr _ 1 _ _ h.1, frozen_of_row wr _ 2 _ _ h.1⟩
end Go.Proofs.Ythmpfnbcodolcaa

namespace Go.Proofs.Ythmpfnbcodolcaa
open Go.RowKit
set_option linter.unusedVariables false

theorem bd_u8 {n : Int} (h : (Lit.int .u8 n).wf = true) : 0 ≤ n ∧ n ≤ 255 := by
  simp [Lit.wf, IntKind.min, IntKind.max, IntKind.signed, IntKind.bits] at h
  omega
theorem below_src {w w1 w2 : World} (h : Below w.heap.size w w1) (hg : w1.grownBy w2 (some w.heap.size)) : Below w.heap.size w w2 :=
  h.grown hg h.size (fun k hk => by injection hk; omega)

theorem fo_cases (s : Int) : (foC s = 4 ∧ foP s = 0 ∧ foK s = 0 ∧ foG s = 0) ∨
    (foC s = 0 ∧ fieldB (foP s) (foK s) (foG s) = true ∧ fsize (foP s) (foK s) (foG s) = s ∧ fieldB (foP s) (foK s) (foG s - 1) = false ∧ 1 ≤ foG s ∧ foG s ≤ 2000) := by
  rcases h1 : k1B s 1 with _ | _
  · rcases hp : isPow s with _ | K
    · have h := fo_0 h1 hp
      exact .inl ⟨h.2.2.2, h.1, h.2.1, h.2.2.1⟩
    · have h := fo_2 h1 hp
      by_cases hG : powG K = 0
      · simp only [lowP, lowK, lowC, hG, if_true] at h
        exact .inl ⟨h.2.2.2, h.1, h.2.1, h.2.2.1⟩
      · have hK : 3 ≤ K ∧ K ≤ 8 ∧ s = 2 ^ K := by
          rw [isPow, List.find?_range_eq_some] at hp
          obtain ⟨h2, h3, _⟩ := hp
          simp only [Bool.and_eq_true, decide_eq_true_eq] at h2
          have := List.mem_range.1 h3
          exact ⟨h2.1, by omega, h2.2⟩
        obtain ⟨h3, h8, hs⟩ := hK
        obtain ⟨g1, g2, g3, g4⟩ := powG_spec hG
        have hsm := pow_small h3 h8
        simp only [lowP, lowK, lowC, hG, if_false] at h
        obtain ⟨e1, e2, e3, e4⟩ := h
        rw [e1, e2, e3, e4]
        have hp2 : 2 ^ (K + 1) = 2 * 2 ^ K := by rw [Nat.pow_succ]; omega
        refine .inr ⟨rfl, g3, ?_, ?_, by omega, by omega⟩
        · rw [fsize, if_pos g3, sizeI, if_pos rfl, Int.toNat_natCast, hs]
        · obtain ⟨j, hj⟩ : ∃ j : Nat, powG K = j + 1 := ⟨powG K - 1, by omega⟩
          rw [hj, show ((j + 1 : Nat) : Int) - 1 = (j : Int) by omega]
          rcases Nat.lt_or_ge j (2 ^ K) with h5 | h5
          · refine fieldB_0 ?_ ?_
            · rw [k1B, Bool.and_eq_false_iff]; left; simp
            · rw [k2B, decide_eq_false_iff_not, Int.toNat_natCast]
              intro hh
              have h6 : ((2 ^ K : Nat) : Int) ≤ (j : Int) := by push_cast; exact hh.2.2.2.1
              omega
          · exact g4 j (by omega) h5
  · obtain ⟨P, rfl, _, h3, h4, hp⟩ := k1_open h1
    obtain ⟨e1, e2, e3, e4⟩ := fo_1 h1
    obtain ⟨l1, l2, l3, _⟩ := least_spec (prime_gen h3 h4 hp)
    rw [e1, e2, e3, e4]
    have hF : fieldB P 1 (least P (mul1 P) : Nat) = true := by rw [fieldB_1 h3 h4 hp]; simp
    refine .inr ⟨rfl, hF, ?_, ?_, by omega, by omega⟩
    · rw [fsize, if_pos hF, sizeI, if_neg (by omega)]
    · rw [fieldB_1 h3 h4 hp, decide_eq_false_iff_not]; omega

def DrawnN (w : World) (x : Ending) (w' : World) : Prop := ∃ z : Int, x = .returned (.int .i64 z) ∧ Below w.heap.size w w'

end Go.Proofs.Ythmpfnbcodolcaa

namespace Go.Proofs.Ythmpfnbcodolcaa
open Go.RowKit
set_option linter.unusedSimpArgs false
set_option linter.unusedVariables false

def LowGRel (w : World) (K : Nat) (i : Value) (wr : World) : Prop :=
  ∃ G : Nat, 2 ^ K ≤ G ∧ G ≤ 2 ^ (K + 1) ∧ i = .int .i64 G ∧ Hid (∀ j : Nat, j < G → 2 ^ K ≤ j → fieldB 2 K j = false) ∧ Box w wr 38 0 0 0

theorem pow_c {K : Nat} (h3 : 3 ≤ K) (h8 : K ≤ 8) : ∃ c : Int, wrap64 (2 ^ K) = c ∧ c = 2 ^ K := by
  obtain ⟨c, h1, _, h2, _⟩ := (show ∃ c : Int, wrap64 (2 ^ K) = c ∧ True ∧ c = 2 ^ K ∧ True from by
    obtain ⟨pw, hpw, he, _, _⟩ := pow_fits K (by omega)
    exact ⟨pw, hpw, trivial, he, trivial⟩)
  exact ⟨c, h1, h2⟩

def OfRel (s : Int) (i : Value) : Prop := ∃ j : Nat, 3 ≤ j ∧ j ≤ 9 ∧ i = .int .i64 j ∧ Hid (∀ K : Nat, 3 ≤ K → K < j → s ≠ 2 ^ K)

end Go.Proofs.Ythmpfnbcodolcaa

namespace Go.Proofs.Ythmpfnbcodolcaa
open Go.RowKit
set_option linter.unusedSimpArgs false
set_option linter.unusedVariables false

theorem pow_nat {K : Nat} (h3 : 3 ≤ K) (h8 : K ≤ 8) : ∃ c : Nat, 2 ^ K = c ∧ 2 ^ (K + 1) = 2 * c ∧ 8 ≤ c ∧ c ≤ 256 ∧ wrap64 (2 ^ K) = (c : Int) := by
  obtain ⟨c, h1, _, h2, h4, h5⟩ := shl_two h3 h8
  have := pow_small h3 h8
  exact ⟨2 ^ K, rfl, by rw [Nat.pow_succ]; omega, this.1, this.2, by rw [h1, h2, Int.natCast_pow]; rfl⟩
theorem fo_00 {s : Int} (h : k1B s 1 = false) (hK : ∀ K : Nat, 3 ≤ K → K ≤ 8 → s ≠ 2 ^ K ∨ powG K = 0) : foP s = 0 ∧ foK s = 0 ∧ foG s = 0 ∧ foC s = 4 := by
  by_cases hh : ∃ K : Nat, 3 ≤ K ∧ K ≤ 8 ∧ s = 2 ^ K
  · obtain ⟨K, h3, h8, he⟩ := hh
    have hp : powG K = 0 := (hK K h3 h8).resolve_left (fun h => h he)
    have := fo_2 h (isPow_at h3 h8 he)
    simp only [lowP, lowK, lowC, hp, if_true] at this
    exact this
  · exact fo_0 h (isPow_no (fun K h3 h8 he => hh ⟨K, h3, h8, he⟩))
def OfRel2 (w : World) (s : Int) (i : Value) (wr : World) : Prop := ∃ j : Nat, 3 ≤ j ∧ j ≤ 9 ∧ i = .int .i64 j ∧ Hid (∀ K : Nat, 3 ≤ K → K < j → s ≠ 2 ^ K ∨ powG K = 0) ∧ Box w wr 38 0 0 0
def FirstRel (w : World) (P : Nat) (i : Value) (wr : World) : Prop := ∃ a : Nat, 1 ≤ a ∧ a ≤ P ∧ i = .int .i64 a ∧ Hid (∀ j, j < a → 1 ≤ j → gen P (mul1 P) j = false) ∧ Box w wr 38 0 0 0

set_option maxHeartbeats 4000000 in
theorem specFieldOf (s : Int) (w : World) :
    Calls Try.prog 129 #[.int .i64 s] w (GivesF (foP s) (foK s) (foG s) (foC s) w) := by
  have HX0 := hide (Box.start w 38 0 0 0)
  rcases hin : inR s 3 1021 with _ | _
  · have HIN := hide hin
    have H1 := hide (show k1B s 1 = false by
      simp only [inR, decide_eq_false_iff_not] at hin
      rw [k1B, Bool.and_eq_false_iff]; left; simp; omega)
    clear hin
    go_enter Try.func129, Try.ntmps129
    go_wp2_with fail
    refine (specIn_is s 3 1021 false _ HIN).mono ?_
    rintro e w1 ⟨rfl, rfl⟩
    go_wp2_with fail
    go_loopw [6] (fun i wr => OfRel2 w s i wr) (fun i _ => 9 - (intOf i).toNat)
    case atStart => exact ⟨3, by omega, by omega, rfl, fun K h1 h2 => by omega, HX0⟩
    case round =>
      clear HX0
      obtain ⟨wo, rfl⟩ : ∃ wo : World, wo = wr := ⟨_, rfl⟩
      obtain ⟨j, h3, h9, rfl, HN, HX⟩ := hrel
      have HX := hide HX
      by_cases h8 : j ≤ 8
      · obtain ⟨c, hcp, hcc, hc8, hc9, hw1⟩ := pow_nat h3 h8
        have z8 : (j : Int) ≤ 8 := by omega
        have HC := hide hcp
        have HCC := hide hcc
        clear hcp hcc
        by_cases hs : s = (c : Int)
        · subst hs
          have HP := hide (isPow_at (s := (c : Int)) h3 h8 (by rw [← HC.out, Int.natCast_pow]; rfl))
          go_wp2_with fail
          simp only [hw1, bne_self_eq_false]
          go_loopw [7] (fun i wr => LowGRel w j i wr) (fun i _ => 2 * c - (intOf i).toNat)
          case atStart => exact ⟨c, by rw [HC.out]; exact Nat.le_refl _, by rw [HCC.out]; omega, rfl, fun j h1 h2 => by rw [HC.out] at h2; omega, HX⟩
          case round =>
            clear HX
            obtain ⟨G, hG1, hG2, rfl, HE, HX⟩ := hrel
            have HX := hide HX
            rw [HC.out] at hG1
            rw [HCC.out] at hG2
            by_cases hlt : G < 2 * c
            · rcases hf : fieldB 2 j G with _ | _
              · have HF := hide hf
                go_wp2_with fail
                refine (specIsField 2 j G _).mono ?_
                rw [HF.out]
                rintro e w2 ⟨rfl, hb⟩
                have HX2 := hide ((HX.out.alloc (.cells #[.int .i64 2, .int .i64 (j : Int), .int .i64 (G : Int)] 38)).next hb)
                clear hb
                go_wp2_with fail
                go_roundw
                case rel => exact ⟨G + 1, by rw [HC.out]; omega, by rw [HCC.out]; omega, by go_num, fun j' hj h1 => by
                  rcases Nat.lt_or_ge j' G with h4 | h4
                  · exact HE.out j' h4 h1
                  · rw [show j' = G by omega]; exact HF, HX2⟩
                case measure => simp [intOf]; omega
              · have HF := hide hf
                have HPG := hide (powG_at (by rw [HC.out]; exact hG1) (by rw [HCC.out]; exact hlt) hf HE)
                have hp0 : powG j ≠ 0 := by rw [HPG.out]; omega
                have HL := hide (show lowP j = 2 ∧ lowK j = j ∧ lowC j = 0 by simp only [lowP, lowK, lowC, if_neg hp0]; exact ⟨trivial, trivial, trivial⟩)
                have HFO := hide (fo_2 H1.out HP.out)
                clear hp0 hf
                go_wp2_with fail
                refine (specIsField 2 j G _).mono ?_
                rw [HF.out]
                rintro e w2 ⟨rfl, hb⟩
                have HX2 := hide ((HX.out.alloc (.cells #[.int .i64 2, .int .i64 (j : Int), .int .i64 (G : Int)] 38)).next hb)
                have HY2 := hide ((Box.start wr 38 2 j G).next hb)
                obtain ⟨c0, c1, c2⟩ := HX2.out.cells
                obtain ⟨f0, f1, f2⟩ := HX2.out.frozen
                obtain ⟨d0, d1, d2⟩ := HY2.out.cells
                clear hb
                go_wp2_with fail
                refine bodyPost_ret (v := .tuple #[.agg #[.int .i64 2, .int .i64 (j : Int), .int .i64 (G : Int)], .int .i64 0]) (by simp [results, Try.results129, go_sem, c0, c1, c2]) rfl ⟨ret_f (HFO.out.1.trans HL.out.1) (HFO.out.2.1.trans HL.out.2.1) (HFO.out.2.2.1.trans (by rw [HPG.out])) (HFO.out.2.2.2.trans HL.out.2.2), ?_⟩
                exact ((HX2.out.2.setCell (Nat.le_refl _) _).setCell (Nat.le_refl _) _).setCell (Nat.le_refl _) _
            · have HPG := hide (powG_none (K := j) (fun j' hj h1 => HE.out j' (by rw [HCC.out] at hj; omega) h1))
              go_wp2_with fail
              go_roundw
              case rel => exact ⟨j + 1, by omega, by omega, by go_num, fun K h1 h2 => by
                rcases Nat.lt_or_ge K j with h4 | h4
                · exact HN.out K h1 h4
                · rw [show K = j by omega]; exact .inr HPG, HX⟩
              case measure => simp [intOf]; omega
        · have hs' : (s != (c : Int)) = true := by simpa using hs
          have HS := hide hs
          clear hs
          go_wp2_with fail
          go_roundw
          case rel => exact ⟨j + 1, by omega, by omega, by go_num, fun K h1 h2 => by
            rcases Nat.lt_or_ge K j with h4 | h4
            · exact HN.out K h1 h4
            · rw [show K = j by omega]; exact .inl (fun e => HS.out (by rw [e, ← HC.out, Int.natCast_pow]; rfl)), HX⟩
          case measure => simp [intOf]; omega
      · have d8 : decide ((j : Int) ≤ 8) = false := by simp; omega
        have HF := hide (fo_00 H1.out (fun K h1 h2 => HN.out K h1 (by omega)))
        obtain ⟨c0, c1, c2⟩ := HX.out.cells
        obtain ⟨f0, f1, f2⟩ := HX.out.frozen
        go_wp2_with fail
        refine bodyPost_ret (v := .tuple #[.agg #[.int .i64 0, .int .i64 0, .int .i64 0], .int .i64 4]) (by simp [results, Try.results129, go_sem, c0, c1, c2]) rfl ⟨ret_f HF.out.1 HF.out.2.1 HF.out.2.2.1 HF.out.2.2.2, ?_⟩
        exact ((HX.out.2.setCell (Nat.le_refl _) _).setCell (Nat.le_refl _) _).setCell (Nat.le_refl _) _
  · have HIN := hide hin
    obtain ⟨P, rfl⟩ : ∃ P : Nat, s = P := ⟨s.toNat, by simp only [inR, decide_eq_true_eq] at hin; omega⟩
    have h3P : 3 ≤ P := by simp only [inR, decide_eq_true_eq] at hin; omega
    have h4P : P ≤ 1021 := by simp only [inR, decide_eq_true_eq] at hin; omega
    clear hin
    rcases hpr : primeB P with _ | _
    · have HPR := hide hpr
      have H1 := hide (show k1B P 1 = false by rw [k1B, Bool.and_eq_false_iff, Int.toNat_natCast]; right; exact hpr)
      clear hpr
      generalize hsP : (P : Int) = s at H1 HIN ⊢
      go_enter Try.func129, Try.ntmps129
      go_wp2_with fail
      refine (specIn_is s 3 1021 true _ HIN).mono ?_
      rintro e w1 ⟨rfl, rfl⟩
      go_wp2_with fail
      rw [← hsP]
      refine (specPrime P (by omega) h4P _).mono ?_
      rw [HPR.out]
      rintro e w1 ⟨rfl, rfl⟩
      rw [hsP]
      clear hsP h3P h4P HPR HIN
      go_wp2_with fail
      go_loopw [6] (fun i wr => OfRel2 w s i wr) (fun i _ => 9 - (intOf i).toNat)
      case atStart => exact ⟨3, by omega, by omega, rfl, fun K h1 h2 => by omega, HX0⟩
      case round =>
        clear HX0
        obtain ⟨wo, rfl⟩ : ∃ wo : World, wo = wr := ⟨_, rfl⟩
        obtain ⟨j, h3, h9, rfl, HN, HX⟩ := hrel
        have HX := hide HX
        by_cases h8 : j ≤ 8
        · obtain ⟨c, hcp, hcc, hc8, hc9, hw1⟩ := pow_nat h3 h8
          have z8 : (j : Int) ≤ 8 := by omega
          have HC := hide hcp
          have HCC := hide hcc
          clear hcp hcc
          by_cases hs : s = (c : Int)
          · subst hs
            have HP := hide (isPow_at (s := (c : Int)) h3 h8 (by rw [← HC.out, Int.natCast_pow]; rfl))
            go_wp2_with fail
            simp only [hw1, bne_self_eq_false]
            go_loopw [7] (fun i wr => LowGRel w j i wr) (fun i _ => 2 * c - (intOf i).toNat)
            case atStart => exact ⟨c, by rw [HC.out]; exact Nat.le_refl _, by rw [HCC.out]; omega, rfl, fun j h1 h2 => by rw [HC.out] at h2; omega, HX⟩
            case round =>
              clear HX
              obtain ⟨G, hG1, hG2, rfl, HE, HX⟩ := hrel
              have HX := hide HX
              rw [HC.out] at hG1
              rw [HCC.out] at hG2
              by_cases hlt : G < 2 * c
              · rcases hf : fieldB 2 j G with _ | _
                · have HF := hide hf
                  go_wp2_with fail
                  refine (specIsField 2 j G _).mono ?_
                  rw [HF.out]
                  rintro e w2 ⟨rfl, hb⟩
                  have HX2 := hide ((HX.out.alloc (.cells #[.int .i64 2, .int .i64 (j : Int), .int .i64 (G : Int)] 38)).next hb)
                  clear hb
                  go_wp2_with fail
                  go_roundw
                  case rel => exact ⟨G + 1, by rw [HC.out]; omega, by rw [HCC.out]; omega, by go_num, fun j' hj h1 => by
                    rcases Nat.lt_or_ge j' G with h4 | h4
                    · exact HE.out j' h4 h1
                    · rw [show j' = G by omega]; exact HF, HX2⟩
                  case measure => simp [intOf]; omega
                · have HF := hide hf
                  have HPG := hide (powG_at (by rw [HC.out]; exact hG1) (by rw [HCC.out]; exact hlt) hf HE)
                  have hp0 : powG j ≠ 0 := by rw [HPG.out]; omega
                  have HL := hide (show lowP j = 2 ∧ lowK j = j ∧ lowC j = 0 by simp only [lowP, lowK, lowC, if_neg hp0]; exact ⟨trivial, trivial, trivial⟩)
                  have HFO := hide (fo_2 H1.out HP.out)
                  clear hp0 hf
                  go_wp2_with fail
                  refine (specIsField 2 j G _).mono ?_
                  rw [HF.out]
                  rintro e w2 ⟨rfl, hb⟩
                  have HX2 := hide ((HX.out.alloc (.cells #[.int .i64 2, .int .i64 (j : Int), .int .i64 (G : Int)] 38)).next hb)
                  have HY2 := hide ((Box.start wr 38 2 j G).next hb)
                  obtain ⟨c0, c1, c2⟩ := HX2.out.cells
                  obtain ⟨f0, f1, f2⟩ := HX2.out.frozen
                  obtain ⟨d0, d1, d2⟩ := HY2.out.cells
                  clear hb
                  go_wp2_with fail
                  refine bodyPost_ret (v := .tuple #[.agg #[.int .i64 2, .int .i64 (j : Int), .int .i64 (G : Int)], .int .i64 0]) (by simp [results, Try.results129, go_sem, c0, c1, c2]) rfl ⟨ret_f (HFO.out.1.trans HL.out.1) (HFO.out.2.1.trans HL.out.2.1) (HFO.out.2.2.1.trans (by rw [HPG.out])) (HFO.out.2.2.2.trans HL.out.2.2), ?_⟩
                  exact ((HX2.out.2.setCell (Nat.le_refl _) _).setCell (Nat.le_refl _) _).setCell (Nat.le_refl _) _
              · have HPG := hide (powG_none (K := j) (fun j' hj h1 => HE.out j' (by rw [HCC.out] at hj; omega) h1))
                go_wp2_with fail
                go_roundw
                case rel => exact ⟨j + 1, by omega, by omega, by go_num, fun K h1 h2 => by
                  rcases Nat.lt_or_ge K j with h4 | h4
                  · exact HN.out K h1 h4
                  · rw [show K = j by omega]; exact .inr HPG, HX⟩
                case measure => simp [intOf]; omega
          · have hs' : (s != (c : Int)) = true := by simpa using hs
            have HS := hide hs
            clear hs
            go_wp2_with fail
            go_roundw
            case rel => exact ⟨j + 1, by omega, by omega, by go_num, fun K h1 h2 => by
              rcases Nat.lt_or_ge K j with h4 | h4
              · exact HN.out K h1 h4
              · rw [show K = j by omega]; exact .inl (fun e => HS.out (by rw [e, ← HC.out, Int.natCast_pow]; rfl)), HX⟩
            case measure => simp [intOf]; omega
        · have d8 : decide ((j : Int) ≤ 8) = false := by simp; omega
          have HF := hide (fo_00 H1.out (fun K h1 h2 => HN.out K h1 (by omega)))
          obtain ⟨c0, c1, c2⟩ := HX.out.cells
          obtain ⟨f0, f1, f2⟩ := HX.out.frozen
          go_wp2_with fail
          refine bodyPost_ret (v := .tuple #[.agg #[.int .i64 0, .int .i64 0, .int .i64 0], .int .i64 4]) (by simp [results, Try.results129, go_sem, c0, c1, c2]) rfl ⟨ret_f HF.out.1 HF.out.2.1 HF.out.2.2.1 HF.out.2.2.2, ?_⟩
          exact ((HX.out.2.setCell (Nat.le_refl _) _).setCell (Nat.le_refl _) _).setCell (Nat.le_refl _) _
    · have HPR := hide hpr
      have H1 := hide (k1_is h3P h4P hpr)
      have HL := hide (least_spec (prime_gen h3P h4P hpr))
      have HFO := hide (fo_1 (k1_is h3P h4P hpr))
      clear hpr
      go_enter Try.func129, Try.ntmps129
      go_wp2_with fail
      refine (specIn_is P 3 1021 true _ HIN).mono ?_
      rintro e w1 ⟨rfl, rfl⟩
      go_wp2_with fail
      refine (specPrime P (by omega) h4P _).mono ?_
      rw [HPR.out]
      rintro e w1 ⟨rfl, rfl⟩
      go_wp2_with fail
      go_loopw [4] (fun i wr => FirstRel w P i wr) (fun i _ => P - (intOf i).toNat)
      case atStart => exact ⟨1, by omega, by omega, rfl, fun j h1 h2 => by omega, HX0⟩
      case round =>
        clear HX0
        obtain ⟨a, h1, ha, rfl, HE, HX⟩ := hrel
        have HX := hide HX
        by_cases hlt : a < P
        · rcases hg : gen P (mul1 P) a with _ | _
          · have HG := hide hg
            clear hg
            go_wp2_with fail
            refine (specRuns (Kd.one P a h3P h4P) a hlt _).mono ?_
            rw [HG.out]
            rintro e w2 ⟨rfl, hb⟩
            have HX2 := hide ((HX.out.alloc (.cells #[.int .i64 (P : Int), .int .i64 1, .int .i64 (a : Int)] 38)).next hb)
            clear hb
            go_wp2_with fail
            go_roundw
            case rel => exact ⟨a + 1, by omega, by omega, by go_num, fun j hj h1 => by
              rcases Nat.lt_or_ge j a with h4 | h4
              · exact HE.out j h4 h1
              · rw [show j = a by omega]; exact HG, HX2⟩
            case measure => simp [intOf]; omega
          · have HG := hide hg
            have HA := hide (show ((least P (mul1 P) : Nat) : Int) = (a : Int) by rw [least_at hlt h1 hg HE])
            clear hg
            go_wp2_with fail
            refine (specRuns (Kd.one P a h3P h4P) a hlt _).mono ?_
            rw [HG.out]
            rintro e w2 ⟨rfl, hb⟩
            have HX2 := hide ((HX.out.alloc (.cells #[.int .i64 (P : Int), .int .i64 1, .int .i64 (a : Int)] 38)).next hb)
            have HY2 := hide ((Box.start wr 38 P 1 a).next hb)
            obtain ⟨c0, c1, c2⟩ := HX2.out.cells
            obtain ⟨f0, f1, f2⟩ := HX2.out.frozen
            obtain ⟨d0, d1, d2⟩ := HY2.out.cells
            clear hb
            go_wp2_with fail
            refine bodyPost_ret (v := .tuple #[.agg #[.int .i64 P, .int .i64 1, .int .i64 (a : Int)], .int .i64 0]) (by simp [results, Try.results129, go_sem, c0, c1, c2]) rfl ⟨ret_f HFO.out.1 HFO.out.2.1 (HFO.out.2.2.1.trans HA.out) HFO.out.2.2.2, ?_⟩
            exact ((HX2.out.2.setCell (Nat.le_refl _) _).setCell (Nat.le_refl _) _).setCell (Nat.le_refl _) _
        · exfalso
          have h5 := HE.out (least P (mul1 P)) (by have := HL.out.2.1; omega) HL.out.1
          rw [HL.out.2.2.1] at h5
          cases h5
end Go.Proofs.Ythmpfnbcodolcaa

namespace Go.Proofs.Ythmpfnbcodolcaa
open Go.RowKit
set_option linter.unusedVariables false
set_option linter.unusedSimpArgs false

theorem heap_belowF {w w' : World} {i : Nat} {o : Obj} (h : w.heap[i]? = some o) (hb : Below w.heap.size w w') : w'.heap[i]? = some o := by
  rw [hb.block i (Array.getElem?_eq_some_iff.1 h).1]; exact h
theorem grown_belowF {a w w' : World} {row : Option Nat} {B : Nat} (h : a.grownBy w row) (hb : Below B w w') (hB : a.heap.size ≤ B) : a.grownBy w' row :=
  ⟨hb.os.trans h.os, hb.tape.trans h.tape, hb.output.trans h.output, Nat.le_trans h.size hb.size, fun i hi hne => (hb.block i (by omega)).trans (h.block i hi hne)⟩
theorem grown_alloc {a w : World} {row : Option Nat} (h : a.grownBy w row) (o : Obj) : a.grownBy (w.alloc o) row := grown_trans h (World.grownBy_alloc w o row)
theorem grown_set2 {a w : World} {row : Option Nat} (h : a.grownBy w row) (b o : Nat) (v : Value) (hb : a.heap.size ≤ b) : a.grownBy (w.setCell ⟨b, o, none⟩ v) row :=
  ⟨h.os, h.tape, h.output, by have := h.size; simp [World.setCell]; exact this, fun i hi hne => (Below.heap_setCell w ⟨b, o, none⟩ v i (by simp; omega)).trans (h.block i hi hne)⟩

theorem set3_src {w : World} {g Bc N : Nat} {A : Option Addr} {n c : Nat} {code : List Int} (h : Src w g Bc A n c code) (hN : g < N) (a b d : Value) :
    Src (((w.setCell ⟨N, 0, none⟩ a).setCell ⟨N, 1, none⟩ b).setCell ⟨N, 2, none⟩ d) g Bc A n c code :=
  h.still (row := some N) (grown_set (grown_set (grown_set (World.grownBy.refl _ _) 0 _) 1 _) 2 _) (fun r hr => by injection hr; omega)
theorem set3_grown {a w : World} {row : Option Nat} (h : a.grownBy w row) (N : Nat) (hN : a.heap.size ≤ N) (x y z : Value) :
    a.grownBy (((w.setCell ⟨N, 0, none⟩ x).setCell ⟨N, 1, none⟩ y).setCell ⟨N, 2, none⟩ z) row :=
  grown_set2 (grown_set2 (grown_set2 h N 0 x hN) N 1 y hN) N 2 z hN

theorem set1_src {w : World} {g Bc N : Nat} {A : Option Addr} {n c : Nat} {code : List Int} (h : Src w g Bc A n c code) (hN : g < N) (o : Nat) (a : Value) : Src (w.setCell ⟨N, o, none⟩ a) g Bc A n c code :=
  h.still (row := some N) (grown_set (World.grownBy.refl _ _) o _) (fun r hr => by injection hr; omega)
theorem row_alloc {w : World} {N : Nat} {o : Obj} (h : w.heap[N]? = some o) (o' : Obj) : (w.alloc o').heap[N]? = some o := heap_belowF h ((Below.refl _ _).alloc (Nat.le_refl _) o')
theorem row_grown {w w' : World} {N g : Nat} {o : Obj} (h : w.heap[N]? = some o) (hg : w.grownBy w' (some g)) (hne : g ≠ N) : w'.heap[N]? = some o := by
  rw [hg.block N (Array.getElem?_eq_some_iff.1 h).1 (fun e => hne (by injection e with e; exact e.symm))]; exact h

/-- What a draw of a field leaves. -/
def DrawnF (g Bc : Nat) (A : Option Addr) (n c : Nat) (code : List Int) (w : World) (x : Ending) (w' : World) : Prop :=
  ∃ p k γ : Int, x = .returned (.agg #[.int .i64 p, .int .i64 k, .int .i64 γ]) ∧ Src w' g Bc A n c code ∧ w.grownBy w' (some g)
/-- The block of a result that is still 0. -/
def Zero3 (w : World) (N : Nat) : Prop := w.heap[N]? = some (.cells #[.int .i64 0, .int .i64 0, .int .i64 0] 38 (0, 0))
theorem Zero3.cells {w : World} {N : Nat} (h : Zero3 w N) : w.cell? ⟨N, 0, none⟩ = some (.int .i64 0) ∧ w.cell? ⟨N, 1, none⟩ = some (.int .i64 0) ∧ w.cell? ⟨N, 2, none⟩ = some (.int .i64 0) := cells3 h
theorem Zero3.frozen {w : World} {N : Nat} (h : Zero3 w N) : w.frozen? ⟨N, 0, none⟩ = false ∧ w.frozen? ⟨N, 1, none⟩ = false ∧ w.frozen? ⟨N, 2, none⟩ = false :=
  ⟨frozen_of_row w _ 0 _ _ h, frozen_of_row w _ 1 _ _ h, frozen_of_row w _ 2 _ _ h⟩
theorem Zero3.lt {w : World} {N : Nat} (h : Zero3 w N) : N < w.heap.size := (Array.getElem?_eq_some_iff.1 h).1
theorem Zero3.grown {w w' : World} {N g : Nat} (h : Zero3 w N) (hg : w.grownBy w' (some g)) (hne : g ≠ N) : Zero3 w' N := by
  unfold Zero3; rw [hg.block N h.lt (fun e => hne (by injection e with e; exact e.symm))]; exact h
theorem Zero3.below {w w' : World} {N : Nat} (h : Zero3 w N) (hb : Below w.heap.size w w') : Zero3 w' N := heap_belowF h hb
theorem Zero3.alloc {w : World} {N : Nat} (h : Zero3 w N) (o : Obj) : Zero3 (w.alloc o) N := h.below ((Below.refl _ _).alloc (Nat.le_refl _) o)
theorem Zero3.start (w : World) : Zero3 (w.alloc (.cells #[.int .i64 0, .int .i64 0, .int .i64 0] 38)) w.heap.size := heap_alloc_new w _

set_option maxHeartbeats 1000000 in
theorem drawField (g Bc : Nat) (A : Option Addr) (n c : Nat) (code : List Int) (w : World) (hS : Src w g Bc A n c code) :
    Calls Try.prog 116 #[.pointer (some ⟨g, 0, none⟩)] w (DrawnF g Bc A n c code w) := by
  have hgl := hS.lt
  have HS := hide ((hS.still (World.grownBy_alloc w (.cells #[.int .i64 0, .int .i64 0, .int .i64 0] 38) none) (by simp)))
  have HZ := hide (Zero3.start w)
  clear hS
  go_enter Try.func116, Try.ntmps116
  go_wp2_with fail
  refine (next_any g Bc A n c code 12 _ (HS.out.still (World.grownBy_alloc _ _ none) (by simp)) (by omega)).mono ?_
  rintro e w1 ⟨r, rfl, hr0, hr1, hs, hg⟩
  obtain ⟨r, rfl⟩ : ∃ m : Nat, r = m := ⟨r.toNat, by omega⟩
  obtain ⟨z, hz⟩ : ∃ z, w1.cell? ⟨w.heap.size + 1, r, none⟩ = some (.int .i64 z) := by
    rw [grown_cell hg (by simp) (fun h => by simp at h; omega), World.cell?_alloc_at _ _ _ _ (by rw [alloc_size])]
    rcases (show r = 0 ∨ r = 1 ∨ r = 2 ∨ r = 3 ∨ r = 4 ∨ r = 5 ∨ r = 6 ∨ r = 7 ∨ r = 8 ∨ r = 9 ∨ r = 10 ∨ r = 11 by omega) with rfl | rfl | rfl | rfl | rfl | rfl | rfl | rfl | rfl | rfl | rfl | rfl <;> exact ⟨_, rfl⟩
  have HS1 := hide hs
  have HZ1 := hide ((HZ.out.alloc _).grown hg (by omega))
  have HG1 := hide (grown_trans (grown_alloc (World.grownBy_alloc w _ (some g)) _) hg)
  clear hs hg
  go_wp2_with fail
  refine (specFieldOf z _).mono ?_
  rintro e w2 ⟨rfl, hb⟩
  have HS2 := hide (HS1.out.below hb HS1.out.lt)
  have HZ2 := hide (HZ1.out.below hb)
  have HG2 := hide (grown_belowF HG1.out hb HG1.out.size)
  clear hb hz
  generalize foP z = p
  generalize foK z = k
  generalize foG z = γ
  have hzl := HZ2.out.lt
  obtain ⟨c0, c1, c2⟩ := HZ2.out.cells
  obtain ⟨f0, f1, f2⟩ := HZ2.out.frozen
  go_wp2_with fail
  refine bodyPost_ret (v := .agg #[.int .i64 p, .int .i64 k, .int .i64 γ]) (by simp [results, Try.results116, go_sem, c0, c1, c2, hzl]) rfl ⟨p, k, γ, rfl, ?_, ?_⟩
  · exact (set3_src HS2.out hgl _ _ _).still (World.grownBy_alloc _ _ none) (by simp)
  · exact grown_alloc (set3_grown HG2.out _ (Nat.le_refl _) _ _ _) _

set_option maxHeartbeats 2000000 in
theorem drawAny (g Bc : Nat) (A : Option Addr) (n c : Nat) (code : List Int) (w : World) (hS : Src w g Bc A n c code) :
    Calls Try.prog 94 #[.pointer (some ⟨g, 0, none⟩)] w (DrawnF g Bc A n c code w) := by
  have hgl := hS.lt
  have HS := hide ((hS.still (World.grownBy_alloc w (.cells #[.int .i64 0, .int .i64 0, .int .i64 0] 38) none) (by simp)))
  have HZ := hide (Zero3.start w)
  clear hS
  go_enter Try.func94, Try.ntmps94
  go_wp2_with fail
  refine (drawField g Bc A n c code _ HS.out).mono ?_
  rintro e w1 ⟨p, k, γ, rfl, hs, hg⟩
  have HS1 := hide (hs.still (World.grownBy_alloc w1 (.cells #[.int .i64 p, .int .i64 k, .int .i64 γ] 38) none) (by simp))
  have HZ1 := hide ((HZ.out.grown hg (by omega)).alloc (.cells #[.int .i64 p, .int .i64 k, .int .i64 γ] 38))
  have HG1 := hide (grown_alloc (grown_trans (World.grownBy_alloc w _ (some g)) hg) (.cells #[.int .i64 p, .int .i64 k, .int .i64 γ] 38))
  have hl1 : w.heap.size < w1.heap.size := (HZ.out.grown hg (by omega)).lt
  clear hs hg
  go_wp2_with fail
  refine (next_any g Bc A n c code 20 _ HS1.out (by omega)).mono ?_
  rintro e w2 ⟨y, rfl, hy0, hy1, hs, hg⟩
  have HS2 := hide hs
  have HZ2 := hide (HZ1.out.grown hg (by omega))
  have HG2 := hide (grown_trans HG1.out hg)
  have HF2 := hide (show w2.heap[w1.heap.size]? = some (.cells #[.int .i64 p, .int .i64 k, .int .i64 γ] 38 (0, 0)) by
    rw [hg.block _ (by rw [alloc_size]; omega) (fun e => by injection e; omega)]; exact heap_alloc_new w1 _)
  clear hs hg
  obtain ⟨c0, c1, c2⟩ := HZ2.out.cells
  obtain ⟨f0, f1, f2⟩ := HZ2.out.frozen
  obtain ⟨d0, d1, d2⟩ := cells3 HF2.out
  have e0 : w2.frozen? ⟨w1.heap.size, 0, none⟩ = false := frozen_of_row w2 _ 0 _ _ HF2.out
  have e1 : w2.frozen? ⟨w1.heap.size, 1, none⟩ = false := frozen_of_row w2 _ 1 _ _ HF2.out
  have e2 : w2.frozen? ⟨w1.heap.size, 2, none⟩ = false := frozen_of_row w2 _ 2 _ _ HF2.out
  have hl2 : w1.heap.size < w2.heap.size := (Array.getElem?_eq_some_iff.1 HF2.out).1
  by_cases hz0 : y = 0
  · subst hz0
    go_wp2_with fail
    refine bodyPost_ret (v := .agg #[.int .i64 p, .int .i64 k, .int .i64 (wrap64 (γ + 1))]) (by simp [results, Try.results94, go_sem, c0, c1, c2, hl1]) rfl ⟨p, k, _, rfl, ?_, ?_⟩
    · exact set3_src (set1_src HS2.out (by omega) 2 _) hgl _ _ _
    · exact set3_grown (grown_set2 HG2.out _ 2 _ (by omega)) _ (Nat.le_refl _) _ _ _
  by_cases hz1 : y = 1
  · subst hz1
    go_wp2_with fail
    refine (next_any g Bc A n c code 4 _ (HS2.out.still (World.grownBy_alloc w2 _ none) (by simp)) (by omega)).mono ?_
    rintro e w3 ⟨r, rfl, hr0, hr1, hs, hg⟩
    obtain ⟨r, rfl⟩ : ∃ m : Nat, r = m := ⟨r.toNat, by omega⟩
    obtain ⟨z, hz⟩ : ∃ z, w3.cell? ⟨w2.heap.size, r, none⟩ = some (.int .i64 z) := by
      rw [grown_cell hg (by simp) (fun h => by simp at h; omega), World.cell?_alloc_at _ _ _ _ rfl]
      rcases (show r = 0 ∨ r = 1 ∨ r = 2 ∨ r = 3 by omega) with rfl | rfl | rfl | rfl <;> exact ⟨_, rfl⟩
    have HS3 := hide hs
    have HZ3 := hide ((HZ2.out.alloc _).grown hg (by omega))
    have HG3 := hide (grown_trans (grown_alloc HG2.out _) hg)
    have HF3 := hide (row_grown (row_alloc HF2.out _) hg (by omega))
    clear hs hg c0 c1 c2 f0 f1 f2 d0 d1 d2 e0 e1 e2
    obtain ⟨c0, c1, c2⟩ := HZ3.out.cells
    obtain ⟨f0, f1, f2⟩ := HZ3.out.frozen
    obtain ⟨d0, d1, d2⟩ := cells3 HF3.out
    have e0 : w3.frozen? ⟨w1.heap.size, 1, none⟩ = false := frozen_of_row w3 _ 1 _ _ HF3.out
    go_wp2_with fail
    refine bodyPost_ret (v := .agg #[.int .i64 p, .int .i64 z, .int .i64 γ]) (by simp [results, Try.results94, go_sem, c0, c1, c2, hl1]) rfl ⟨p, z, γ, rfl, ?_, ?_⟩
    · exact set3_src (set1_src HS3.out (by omega) 1 _) hgl _ _ _
    · exact set3_grown (grown_set2 HG3.out _ 1 _ (by omega)) _ (Nat.le_refl _) _ _ _
  by_cases hz2 : y = 2
  · subst hz2
    go_wp2_with fail
    refine (next_any g Bc A n c code 6 _ (HS2.out.still (World.grownBy_alloc w2 _ none) (by simp)) (by omega)).mono ?_
    rintro e w3 ⟨r, rfl, hr0, hr1, hs, hg⟩
    obtain ⟨r, rfl⟩ : ∃ m : Nat, r = m := ⟨r.toNat, by omega⟩
    obtain ⟨z, hz⟩ : ∃ z, w3.cell? ⟨w2.heap.size, r, none⟩ = some (.int .i64 z) := by
      rw [grown_cell hg (by simp) (fun h => by simp at h; omega), World.cell?_alloc_at _ _ _ _ rfl]
      rcases (show r = 0 ∨ r = 1 ∨ r = 2 ∨ r = 3 ∨ r = 4 ∨ r = 5 by omega) with rfl | rfl | rfl | rfl | rfl | rfl <;> exact ⟨_, rfl⟩
    have HS3 := hide hs
    have HZ3 := hide ((HZ2.out.alloc _).grown hg (by omega))
    have HG3 := hide (grown_trans (grown_alloc HG2.out _) hg)
    have HF3 := hide (row_grown (row_alloc HF2.out _) hg (by omega))
    clear hs hg c0 c1 c2 f0 f1 f2 d0 d1 d2 e0 e1 e2
    obtain ⟨c0, c1, c2⟩ := HZ3.out.cells
    obtain ⟨f0, f1, f2⟩ := HZ3.out.frozen
    obtain ⟨d0, d1, d2⟩ := cells3 HF3.out
    have e0 : w3.frozen? ⟨w1.heap.size, 0, none⟩ = false := frozen_of_row w3 _ 0 _ _ HF3.out
    go_wp2_with fail
    refine bodyPost_ret (v := .agg #[.int .i64 z, .int .i64 k, .int .i64 γ]) (by simp [results, Try.results94, go_sem, c0, c1, c2, hl1]) rfl ⟨z, k, γ, rfl, ?_, ?_⟩
    · exact set3_src (set1_src HS3.out (by omega) 0 _) hgl _ _ _
    · exact set3_grown (grown_set2 HG3.out _ 0 _ (by omega)) _ (Nat.le_refl _) _ _ _
  by_cases hz3 : y = 3
  · subst hz3
    go_wp2_with fail
    refine (next_any g Bc A n c code 4 _ (HS2.out.still (World.grownBy_alloc w2 _ none) (by simp)) (by omega)).mono ?_
    rintro e w3 ⟨r, rfl, hr0, hr1, hs, hg⟩
    obtain ⟨r, rfl⟩ : ∃ m : Nat, r = m := ⟨r.toNat, by omega⟩
    obtain ⟨x0, x1, x2, hx0, hx1, hx2⟩ : ∃ x0 x1 x2, w3.cell? ⟨w2.heap.size, r * 3, none⟩ = some (.int .i64 x0) ∧ w3.cell? ⟨w2.heap.size, r * 3 + 1, none⟩ = some (.int .i64 x1) ∧ w3.cell? ⟨w2.heap.size, r * 3 + 2, none⟩ = some (.int .i64 x2) := by
      rw [grown_cell hg (by simp) (fun h => by simp at h; omega), grown_cell hg (by simp) (fun h => by simp at h; omega), grown_cell hg (by simp) (fun h => by simp at h; omega), World.cell?_alloc_at _ _ _ _ rfl, World.cell?_alloc_at _ _ _ _ rfl, World.cell?_alloc_at _ _ _ _ rfl]
      rcases (show r = 0 ∨ r = 1 ∨ r = 2 ∨ r = 3 by omega) with rfl | rfl | rfl | rfl <;> exact ⟨_, _, _, rfl, rfl, rfl⟩
    have HS3 := hide hs
    have HZ3 := hide ((HZ2.out.alloc _).grown hg (by omega))
    have HG3 := hide (grown_trans (grown_alloc HG2.out _) hg)
    clear hs hg c0 c1 c2 f0 f1 f2 d0 d1 d2 e0 e1 e2
    obtain ⟨c0, c1, c2⟩ := HZ3.out.cells
    obtain ⟨f0, f1, f2⟩ := HZ3.out.frozen
    go_wp2_with fail
    refine bodyPost_ret (v := .agg #[.int .i64 x0, .int .i64 x1, .int .i64 x2]) (by simp [results, Try.results94, go_sem, c0, c1, c2, hl1]) rfl ⟨x0, x1, x2, rfl, ?_, ?_⟩
    · exact set3_src HS3.out hgl _ _ _
    · exact set3_grown HG3.out _ (Nat.le_refl _) _ _ _
  · have b0 : (y == 0) = false := by simpa using hz0
    have b1 : (y == 1) = false := by simpa using hz1
    have b2 : (y == 2) = false := by simpa using hz2
    have b3 : (y == 3) = false := by simpa using hz3
    clear hz0 hz1 hz2 hz3
    go_wp2_with fail
    refine bodyPost_ret (v := .agg #[.int .i64 p, .int .i64 k, .int .i64 γ]) (by simp [results, Try.results94, go_sem, c0, c1, c2, hl1]) rfl ⟨p, k, γ, rfl, ?_, ?_⟩
    · exact set3_src HS2.out hgl _ _ _
    · exact set3_grown HG2.out _ (Nat.le_refl _) _ _ _

end Go.Proofs.Ythmpfnbcodolcaa

namespace Go.Proofs.Ythmpfnbcodolcaa
open Go.RowKit
set_option linter.unusedSimpArgs false
set_option linter.unusedVariables false

/-- What a draw of a text leaves. -/
def DrawnT (g Bc : Nat) (A : Option Addr) (n c : Nat) (code : List Int) (w : World) (x : Ending) (w' : World) : Prop :=
  ∃ s : ByteArray, x = .returned (.string s) ∧ s.size ≤ 1001 ∧ Src w' g Bc A n c code ∧ w.grownBy w' (some g)

set_option maxRecDepth 100000 in
set_option maxHeartbeats 2000000 in
theorem drawText (g Bc : Nat) (A : Option Addr) (n c : Nat) (code : List Int) (mode most : Int) (w : World) (hS : Src w g Bc A n c code) (hmo : 1 ≤ mode ∧ mode ≤ 4) (hm0 : 0 ≤ most) (hm1 : most ≤ 1000) :
    Calls Try.prog 80 #[.pointer (some ⟨g, 0, none⟩), .int .i64 mode, .int .i64 most] w (DrawnT g Bc A n c code w) := by
  have HS := hide hS
  have hg := hS.lt
  clear hS
  go_enter Try.func80, Try.ntmps80
  go_wp2_with fail
  refine (next_any g Bc A n c code _ _ (HS.out.still (World.grownBy_alloc w _ none) (by simp)) (by omega)).mono ?_
  rintro e w1 ⟨y, rfl, hy0, hy1, hs1, hg1⟩
  have HS1 := hide hs1
  have HG1 := hide (grown_trans (World.grownBy_alloc w _ (some g)) hg1)
  have HO1 := hide ((Own.lit0 w 5 .u8).grown hg1 (own_src (w := w) (Own.lit0 w 5 .u8) hg))
  clear hs1 hg1
  go_wp2_with fail
  go_loopw [7, 8] (fun v i wr => DrawRel g Bc A n c code 5 .u8 1001 0 255 w v i wr) (fun _ i _ => (intOf i).toNat)
  case atStart => exact ⟨[], y, rfl, hy0, by simp; omega, by simp, HO1, HS1, HG1⟩
  case round =>
    clear HO1 HS1 HG1
    obtain ⟨v, hvv⟩ : ∃ v : Value, v = u7 := ⟨_, rfl⟩
    subst hvv
    obtain ⟨zs, t, rfl, ht0, ht1, hzs, hOwn, hSrc, hgr⟩ := hrel
    have HZ := hide hzs
    have HO := hide hOwn
    have HSr := hide hSrc
    have HG := hide hgr
    clear hzs hOwn hSrc hgr
    have hbz : w.heap.size ≤ wr.heap.size := HG.out.size
    by_cases hpos : 0 < t
    · by_cases h4 : mode = 4
      · have e4 : (mode == 4) = true := by simpa using h4
        clear h4
        go_wp2_with fail
        refine (next_any g Bc A n c code 256 wr HSr (by omega)).mono ?_
        rintro e w2 ⟨x, rfl, hx0, hx1, hs2, hg2⟩
        have HS2 := hide hs2
        have HG2 := hide hg2
        have HO2 := hide (HO.out.grown hg2 (own_src HO.out hg))
        have hbz2 : w.heap.size ≤ w2.heap.size := Nat.le_trans hbz hg2.size
        have hx2 : x ≤ 255 := by omega
        have hwx : IntKind.u8.wrap x = x := by rw [IntKind.wrap_u8]; omega
        clear hs2 hg2
        go_wp2_with (at_builtin; refine wpList_app1 w2 rfl _ _ _ rfl elem8 w.heap.size v _ rfl HO2.out x rfl (by omega) hbz2 ?_; intro v3 w3 hown3 hgr3)
        have HO3 := hide hown3
        have HG3 := hide (grown_more (grown_trans HG.out HG2.out) hgr3 (fun r hr => (HO2.out.lt hr).1))
        have HS3 := hide (HS2.out.still hgr3 (fun r hr => by have := (HO2.out.lt hr).1; omega))
        clear hown3 hgr3
        go_wp2_with fail
        go_roundw
        case rel =>
          refine ⟨zs ++ [x], t - 1, by go_num, by omega, by simp; omega, ?_, HO3, HS3, HG3⟩
          intro q hq
          rcases List.mem_append.1 hq with h | h
          · exact HZ.out q h
          · simp at h; subst h; omega
        case measure => simp [intOf]; omega
      · have e4 : (mode == 4) = false := by simpa using h4
        have hm3 : mode = 1 ∨ mode = 2 ∨ mode = 3 := by omega
        have hgs := stS_size hm3
        have hgl : 10 ≤ gbase mode ∧ gbase mode ≤ 45 := by rcases hm3 with rfl | rfl | rfl <;> decide
        have HSET := hide (specSet mode)
        obtain ⟨st, hst⟩ : ∃ st, stS mode = st := ⟨_, rfl⟩
        rw [hst] at hgs HSET
        rw [← hgs] at hgl
        clear hgs hst hm3 h4
        go_wp2_with fail
        refine (HSET.out _).mono ?_
        rintro e wz ⟨rfl, hwz⟩
        rw [hwz]
        clear hwz
        go_wp2_with fail
        refine (next_any g Bc A n c code (st.size : Nat) wr HSr (by omega)).mono ?_
        rintro e w2 ⟨x, rfl, hx0, hx1, hs2, hg2⟩
        obtain ⟨x, rfl⟩ : ∃ q : Nat, x = q := ⟨x.toNat, by omega⟩
        have HS2 := hide hs2
        have HG2 := hide hg2
        have HO2 := hide (HO.out.grown hg2 (own_src HO.out hg))
        have hbz2 : w.heap.size ≤ w2.heap.size := Nat.le_trans hbz hg2.size
        have hx2 : x < st.size := by omega
        obtain ⟨q, hq, _, hq0, hq1⟩ := byteAt st hx2
        clear hs2 hg2 hx1
        go_wp2_with (at_builtin; refine wpList_app1 w2 rfl _ _ _ rfl elem8 w.heap.size v _ rfl HO2.out q rfl (by omega) hbz2 ?_; intro v3 w3 hown3 hgr3)
        have HO3 := hide hown3
        have HG3 := hide (grown_more (grown_trans HG.out HG2.out) hgr3 (fun r hr => (HO2.out.lt hr).1))
        have HS3 := hide (HS2.out.still hgr3 (fun r hr => by have := (HO2.out.lt hr).1; omega))
        clear hown3 hgr3
        go_wp2_with fail
        go_roundw
        case rel =>
          refine ⟨zs ++ [q], t - 1, by go_num, by omega, by simp; omega, ?_, HO3, HS3, HG3⟩
          intro q' hq'
          rcases List.mem_append.1 hq' with h | h
          · exact HZ.out q' h
          · simp at h; subst h; omega
        case measure => simp [intOf]; omega
    · obtain ⟨A1, c1, rfl, hc1⟩ := HO.out.form
      have hconv := run_str wr elem8 Try.underlying5 Try.underlying9 c1 HO.out.ints
      clear hc1
      go_wp2_with fail
      go_ret
      exact ⟨strOf zs, rfl, by rw [strOf_size]; omega, HSr, HG⟩

/-- In a draw that has made its source in the first new block. -/
def Dn (w : World) (A : Option Addr) (n c : Nat) (code : List Int) (W : World) : Prop := Src W w.heap.size w.heap.size A n c code ∧ Below w.heap.size w W
theorem dn_below {w : World} {A : Option Addr} {n c : Nat} {code : List Int} {W W' : World} (h : Dn w A n c code W) (hg : W.grownBy W' (some w.heap.size)) : Below w.heap.size w W' :=
  h.2.grown hg h.2.size (fun r hr => by cases hr; exact Nat.le_refl _)
theorem dn_alloc {w : World} {A : Option Addr} {n c : Nat} {code : List Int} {W : World} (h : Dn w A n c code W) (o : Obj) : Dn w A n c code (W.alloc o) :=
  ⟨h.1.still (World.grownBy_alloc W o none) (by simp), h.2.alloc h.2.size o⟩
theorem dn_drew {w : World} {A : Option Addr} {n c : Nat} {code : List Int} {W : World} (h : Dn w A n c code W) : Dn w A n c code W.drew := ⟨h.1, h.2.drew⟩
theorem four_cells {W : World} {b : Nat} (h : W.heap[b]? = some (.cells #[.int .i64 (-1), .int .i64 0, .int .i64 255, .int .i64 256] 2 (0, 0))) (y : Nat) (hy : y < 4) : ∃ v : Int, W.cell? ⟨b, y, none⟩ = some (.int .i64 v) ∧ -1 ≤ v ∧ v ≤ 256 := by
  have h4 : y = 0 ∨ y = 1 ∨ y = 2 ∨ y = 3 := by omega
  rcases h4 with rfl | rfl | rfl | rfl
  · exact ⟨-1, cell_of_row W b 0 _ _ _ h, by omega, by omega⟩
  · exact ⟨0, cell_of_row W b 1 _ _ _ h, by omega, by omega⟩
  · exact ⟨255, cell_of_row W b 2 _ _ _ h, by omega, by omega⟩
  · exact ⟨256, cell_of_row W b 3 _ _ _ h, by omega, by omega⟩

end Go.Proofs.Ythmpfnbcodolcaa

namespace Go.Proofs.Ythmpfnbcodolcaa
open Go.RowKit
set_option linter.unusedSimpArgs false
set_option linter.unusedVariables false

/-- What a draw of a message leaves. -/
def DrawnM (g Bc : Nat) (A : Option Addr) (n c : Nat) (code : List Int) (w : World) (x : Ending) (w' : World) : Prop :=
  ∃ s : ByteArray, x = .returned (.string s) ∧ s.size ≤ 4004 ∧ Src w' g Bc A n c code ∧ w.grownBy w' (some g)
def SwRel (g Bc : Nat) (A : Option Addr) (n c : Nat) (code : List Int) (w : World) (v i : Value) (wr : World) : Prop :=
  ∃ (s : ByteArray) (t : Int), v = .string s ∧ i = .int .i64 t ∧ 0 ≤ t ∧ t ≤ 3 ∧ (s.size : Int) ≤ 1001 * (3 - t) ∧ Src wr g Bc A n c code ∧ w.grownBy wr (some g)
def SevRel (v : Value) (w wr : World) : Prop := ∃ s : ByteArray, v = .string s ∧ s.size ≤ 260 ∧ wr = w

set_option maxRecDepth 100000 in
set_option maxHeartbeats 2000000 in
theorem drawMsg (g Bc : Nat) (A : Option Addr) (n c : Nat) (code : List Int) (w : World) (hS : Src w g Bc A n c code) :
    Calls Try.prog 95 #[.pointer (some ⟨g, 0, none⟩)] w (DrawnM g Bc A n c code w) := by
  have HS := hide hS
  have hg := hS.lt
  clear hS
  go_enter Try.func95, Try.ntmps95
  go_wp2_with fail
  refine (next_any g Bc A n c code 4 _ HS.out (by omega)).mono ?_
  rintro e w1 ⟨y, rfl, hy0, hy1, hs1, hg1⟩
  have HS1 := hide hs1
  have HG1 := hide hg1
  clear hs1 hg1
  go_wp2_with fail
  go_loopw [3, 4] (fun v i wr => SwRel g Bc A n c code w v i wr) (fun _ i _ => (intOf i).toNat)
  case atStart => exact ⟨⟨#[]⟩, y, rfl, rfl, hy0, by omega, by show ((0 : Nat) : Int) ≤ _; omega, HS1.out, HG1.out⟩
  case round =>
    clear HS1 HG1
    obtain ⟨s, t, hv, rfl, ht0, ht3, hz, hs, hgr⟩ := hrel
    subst hv
    have HSr := hide hs
    have HG := hide hgr
    clear hs hgr
    by_cases hpos : 0 < t
    · go_wp2_with fail
      refine (next_any g Bc A n c code 4 wr HSr.out (by omega)).mono ?_
      rintro e w2 ⟨x, rfl, hx0, hx1, hs2, hg2⟩
      have HS2 := hide hs2
      have HG2 := hide (grown_trans HG.out hg2)
      have hwx : IntKind.i64.wrap (1 + x) = 1 + x := IntWalk.i64_in _ ⟨by omega, by omega⟩
      clear hs2 hg2
      go_wp2_with fail
      refine (drawText g Bc A n c code (1 + x) 10 w2 HS2.out (by omega) (by omega) (by omega)).mono ?_
      rintro e w3 ⟨q, rfl, hq, hs3, hg3⟩
      have HS3 := hide hs3
      have HG3 := hide (grown_trans HG2.out hg3)
      have HSZ := hide (show (((s ++ q).size : Nat) : Int) ≤ 1001 * (3 - (t - 1)) by rw [ByteArray.size_append]; omega)
      have hwt : IntKind.i64.wrap (t - 1) = t - 1 := IntWalk.i64_in _ ⟨by omega, by omega⟩
      clear hs3 hg3
      go_wp2_with fail
      go_roundw
      case rel => exact ⟨s ++ q, t - 1, rfl, rfl, by omega, by omega, HSZ.out, HS3.out, HG3.out⟩
      case measure => simp [intOf]; omega
    · obtain rfl : t = 0 := by omega
      go_wp2_with fail
      refine (next_any g Bc A n c code 60 wr HSr.out (by omega)).mono ?_
      rintro e w2 ⟨x, rfl, hx0, hx1, hs2, hg2⟩
      have HS2 := hide hs2
      have HG2 := hide (grown_trans HG.out hg2)
      clear hs2 hg2
      by_cases e0 : x = 0
      · have ez : (x == 0) = true := by simpa using e0
        clear e0
        go_wp2_with fail
        refine (next_any g Bc A n c code 2 w2 HS2.out (by omega)).mono ?_
        rintro e w3 ⟨z, rfl, hz0, hz1, hs3, hg3⟩
        obtain ⟨z, rfl⟩ : ∃ q : Nat, z = q := ⟨z.toNat, by omega⟩
        have HS3 := hide hs3
        have HG3 := hide (grown_trans HG2.out hg3)
        have hwz : IntKind.i64.wrap (400 + (z : Int)) = ((400 + z : Nat) : Int) := by rw [IntWalk.i64_in _ ⟨by omega, by omega⟩]; omega
        obtain ⟨N, hN⟩ : ∃ N, 400 + z = N := ⟨_, rfl⟩
        rw [hN] at hwz
        have hN4 : N ≤ 402 := by omega
        clear hs3 hg3 hN
        go_wp2_with (at_make; go_loud (refine wpList_mkN _ rfl _ _ _ rfl elem8 .i64 .i64 _ _ N rfl rfl rfl rfl (by omega) ?_; intro w4 hown hbel; have HO4 := hide hown; have HB4 := hide hbel; have hconv := run_str w4 elem8 Try.underlying5 Try.underlying9 N (hown.ints' (by simp)); clear hown hbel))
        go_ret
        exact ⟨strOf (List.replicate N 0), rfl, by rw [strOf_size]; simp; omega, HS3.out.below HB4.out HS3.out.lt, grown_below HG3.out (HB4.out.mono (Nat.le_trans HG3.out.size (Nat.le_refl _)))⟩
      · have ez : (x == 0) = false := by simpa using e0
        by_cases e1 : x = 1
        · have ey : (x == 1) = true := by simpa using e1
          clear e0 e1
          go_wp2_with fail
          go_loopw [3] (fun v wr' => SevRel v w2 wr') (fun v _ => 260 - (match v with | .string s => s.size | _ => 0))
          case atStart => exact ⟨⟨#[]⟩, rfl, by show 0 ≤ _; omega, rfl⟩
          case round =>
            obtain ⟨q, hv, hq, rfl⟩ := hrel
            subst hv
            by_cases hlt : q.size < 260
            · have HSQ := hide (show (q ++ ⟨#[55]⟩ : ByteArray).size = q.size + 1 by rw [ByteArray.size_append]; rfl)
              go_wp2_with fail
              go_roundw
              case rel => exact ⟨_, rfl, by rw [HSQ.out]; omega, rfl⟩
              case measure => show 260 - (q ++ ⟨#[55]⟩ : ByteArray).size < 260 - q.size; rw [HSQ.out]; omega
            · go_wp2_with fail
              go_ret
              exact ⟨q, rfl, by omega, HS2.out, HG2.out⟩
        · have ey : (x == 1) = false := by simpa using e1
          clear e0 e1
          go_wp2_with fail
          go_ret
          exact ⟨s, rfl, by omega, HS2.out, HG2.out⟩
end Go.Proofs.Ythmpfnbcodolcaa

namespace Go.Proofs.Ythmpfnbcodolcaa
open Go.RowKit

set_option maxHeartbeats 400000 in
theorem toField (p k g : Int) (w : World) :
    Calls Try.prog 32 #[.agg #[.int .i64 p, .int .i64 k, .int .i64 g]] w (Gives (.agg #[.int .i64 p, .int .i64 k, .int .i64 g]) w) := by
  go_enter Try.func32, Try.ntmps32
  go_wp2_with fail
  refine bodyPost_ret (v := .agg #[.int .i64 p, .int .i64 k, .int .i64 g]) (by simp [results, Try.results32, go_sem]) rfl ⟨rfl, ?_⟩
  exact ((((Below.refl _ _).alloc (Nat.le_refl _) _).alloc (by rw [alloc_size]; omega) _).alloc (by rw [alloc_size, alloc_size]; omega) _)
end Go.Proofs.Ythmpfnbcodolcaa
