/-
  What every proof of this seat's rows shares: two closed facts on the program, and what the row tells of a slice of integers that came in.
  A field that came in as an argument of a law: three integers, opened and shut.
  What the walks of the exact laws of fields share: the field that a law is given is handed on as it is.
  What the walks of the exact laws share: equal slices are told as equal; marks are written and found again.
  The contracts of the laws' own helpers likeInts and big.
  Condition: as each statement says.
-/
import Derived.Test.YtlphodhecaagbaaGreatRows
import Derived.Test.YtlphodhecaagbaaGreatJA
import Derived.ProofKit
import Derived.OpenShut
import Derived.ShutString
import Derived.ChangeOld
import Derived.Lib.SmallJoins
import Derived.Test.YtlphodhecaagbaaGreatProg
import Derived.Test.YtlphodhecaagbaaGreatJF
namespace Go.Proofs.YtlphodhecaagbaaGreat
open Go.ChangeShapes Go.WideShapes Go.ChangeAt Go.RowKit
theorem ownK : ownKnob Tryz.prog.godebug = none := by kernel_rfl
theorem laidOutK : laidOutB Tryz.prog = true := by kernel_rfl

/-- A slice of integers that came in reads as zs, all of which fit their kind. -/
def Came (k : IntKind) (w : World) (A : Option Addr) (n c : Nat) (zs : List Int) : Prop :=
  Ints k w w.heap.size A n zs ∧ n ≤ c ∧ c ≤ maxLen ∧ ∀ x ∈ zs, (Lit.int k x).wf = true

theorem came_of {H : Type} {enc : TypeId × Value → H} {P : Program} {W : World} {base : Nat} {sp : Nat → Bool} {held : Bool} {t e : TypeId} {k : IntKind} {A : Option Addr} {n c : Nat} {d : DataW H} {ps : List MemPlace}
    (ht : P.underlying t = some (.slice e)) (he : P.underlying e = some (.int k)) (hc : P.cellsOf e = 1) (h : DataW.Trod enc P W base sp held t (.slice A n c) d ps) : ∃ zs, Came k W A n c zs := by
  obtain ⟨fuel, hf⟩ := h
  rcases open_ints ht he hc hf with ⟨hcs, _⟩ | ⟨a, len, cap, zs, hcs, _, hl, hm, hz, _, hcell, hwz⟩
  · simp [Value.cells] at hcs
    obtain ⟨rfl, rfl, rfl⟩ := hcs
    exact ⟨[], Ints.empty, by omega, by unfold maxLen; omega, by simp⟩
  · simp [Value.cells] at hcs
    obtain ⟨rfl, rfl, rfl⟩ := hcs
    have hlz : n ≤ zs.length := by rw [hz]; split <;> omega
    refine ⟨zs.take n, ⟨by rw [List.length_take]; omega, fun hn => ?_⟩, hl, hm, fun x hx => hwz x (List.mem_of_mem_take hx)⟩
    obtain ⟨b, off, spot⟩ := a
    have hc0 := hcell 0 (by omega)
    have hspot : spot = none := by simpa [Addr.add] using World.cell?_spot hc0
    subst hspot
    refine ⟨b, off, rfl, World.block_lt_of_cell? W _ (by simpa [Addr.add] using hc0), fun j x hx => ?_⟩
    have hj : j < zs.length := by
      have := (List.getElem?_eq_some_iff.1 hx).1
      rw [List.length_take] at this; omega
    have hjn : j < n := by
      have := (List.getElem?_eq_some_iff.1 hx).1
      rw [List.length_take] at this; omega
    have h1 := hcell j hj
    rw [List.getElem?_take, if_pos hjn] at hx
    rw [List.getD_eq_getElem?_getD, hx] at h1
    rw [show (⟨b, off, none⟩ : Addr).add j = ⟨b, off + j, none⟩ by unfold Addr.add; split <;> simp_all] at h1
    exact h1
end Go.Proofs.YtlphodhecaagbaaGreat

namespace Go.Proofs.YtlphodhecaagbaaGreat
open Go.ChangeShapes Go.WideShapes Go.ChangeAt Go.RowKit Go.Joins

set_option maxRecDepth 8000 in
theorem openField {H : Type} {enc : TypeId × Value → H} {W : World} {base b0 : Nat} {sp : Nat → Bool} {held : Bool} {r : Reach} {v : Value} {d : DataW H} {ps : List MemPlace}
    (hv : Value.okWide Tryz.prog W r b0 48 v) (h : DataW.Trod enc Tryz.prog W base sp held 48 v d ps) :
    ∃ x y z : Int, v = .agg #[.int .i64 x, .int .i64 y, .int .i64 z] ∧ d = .agg [.lit (.int .i64 x), .lit (.int .i64 y), .lit (.int .i64 z)] ∧ ps = [] ∧ (Lit.int .i64 x).wf = true ∧ (Lit.int .i64 y).wf = true ∧ (Lit.int .i64 z).wf = true := by
  obtain ⟨v0, v1, v2, y0, y1, y2, n, rfl, rfl, rfl, t0, t1, t2⟩ := open_agg3 Tryz.underlying48 (by kernel_rfl) (by kernel_rfl) hv h
  obtain ⟨x, hx, hy, wx⟩ := DataW.trod_int Tryz.underlying2 t0
  obtain ⟨y, hx1, hy1, wy⟩ := DataW.trod_int Tryz.underlying2 t1
  obtain ⟨z, hx2, hy2, wz⟩ := DataW.trod_int Tryz.underlying2 t2
  simp only [List.cons.injEq, and_true] at hx hx1 hx2
  subst hx hx1 hx2 hy hy1 hy2
  exact ⟨x, y, z, rfl, rfl, rfl, wx, wy, wz⟩
set_option maxRecDepth 8000 in
theorem shutField {H : Type} {enc : TypeId × Value → H} {W : World} {base : Nat} {sp : Nat → Bool} {held : Bool} {x y z : Int} (wx : (Lit.int .i64 x).wf = true) (wy : (Lit.int .i64 y).wf = true) (wz : (Lit.int .i64 z).wf = true) :
    DataW.Trod enc Tryz.prog W base sp held 48 (.agg #[.int .i64 x, .int .i64 y, .int .i64 z]) (.agg [.lit (.int .i64 x), .lit (.int .i64 y), .lit (.int .i64 z)]) [] := by
  simpa using shut_agg3 (enc := enc) (w := W) (base := base) (spare := sp) (held := held) (y0 := (.lit (.int .i64 x), [])) (y1 := (.lit (.int .i64 y), [])) (y2 := (.lit (.int .i64 z), [])) Tryz.underlying48 (by kernel_rfl) (by kernel_rfl)
    ⟨1, by simp [DataW.trod, Tryz.underlying2, wx]⟩ ⟨1, by simp [DataW.trod, Tryz.underlying2, wy]⟩ ⟨1, by simp [DataW.trod, Tryz.underlying2, wz]⟩
end Go.Proofs.YtlphodhecaagbaaGreat

namespace Go.Proofs.YtlphodhecaagbaaGreat
open Go.RowKit

set_option maxHeartbeats 400000 in
theorem toField (p k g : Int) (w : World) :
    Calls Tryz.prog 52 #[.agg #[.int .i64 p, .int .i64 k, .int .i64 g]] w (Gives (.agg #[.int .i64 p, .int .i64 k, .int .i64 g]) w) := by
  go_enter Tryz.func52, Tryz.ntmps52
  go_wp2_with fail
  refine bodyPost_ret (v := .agg #[.int .i64 p, .int .i64 k, .int .i64 g]) (by simp [results, Tryz.results52, go_sem]) rfl ⟨rfl, ?_⟩
  exact ((((Below.refl _ _).alloc (Nat.le_refl _) _).alloc (by rw [alloc_size]; omega) _).alloc (by rw [alloc_size, alloc_size]; omega) _)
end Go.Proofs.YtlphodhecaagbaaGreat

namespace Go.Proofs.YtlphodhecaagbaaGreat
open Go.RowKit

theorem bd_i64 {n : Int} (h : (Lit.int .i64 n).wf = true) : -9223372036854775808 ≤ n ∧ n ≤ 9223372036854775807 := by
  simp [Lit.wf, IntKind.min, IntKind.max, IntKind.signed, IntKind.bits] at h
  omega
theorem Own.cap {w : World} {base n c : Nat} {e : TypeId} {k : IntKind} {A : Option Addr} {zs : List Int} (h : Own w base e k (.slice A n c) zs) : c ≤ 9223372036854775807 := by
  rcases h.2 with ⟨h1, _⟩ | ⟨g, cap, cur, hv, _, _, _, hm, _⟩
  · simp only [Value.slice.injEq] at h1; omega
  · simp only [Value.slice.injEq] at hv; unfold maxLen at hm; omega
theorem Own.ints' {w : World} {base n c : Nat} {e : TypeId} {k : IntKind} {A : Option Addr} {zs : List Int} (h : Own w base e k (.slice A n c) zs) (hl : zs.length = n) : Ints k w w.heap.size A n zs := by
  subst hl; exact h.ints

theorem eqSame (A : Option Addr) (n c B : Nat) (A' : Option Addr) (n' c' B' : Nat) (zs : List Int) (w : World) (hI : Ints .i64 w B A n zs) (hJ : Ints .i64 w B' A' n' zs) (hn : zs.length ≤ 1099511627776) :
    Calls Tryz.prog 24 #[.slice A n c, .slice A' n' c'] w (Gives (.bool true) w) :=
  (eqInts A n c B zs A' n' c' B' zs w hI hJ (by rw [← hI.len]; exact hn) (by rw [← hJ.len]; exact hn)).mono fun _ _ ⟨he, m, hw⟩ => ⟨by rw [he, sameI_refl], by rw [hw]; exact below_drewN (Below.refl _ _) m⟩

theorem markInts' (A : Option Addr) (n c base : Nat) (k : Int) (k0 : Nat) (zs : List Int) (w : World) (hO : Own w base 2 .i64 (.slice A n c) zs) (hn : zs.length ≤ 1099511627776) (hk0 : k0 ≤ 1099511627776) (hk : k = (k0 : Int)) :
    Calls Tryz.prog 25 #[.slice A n c, .int .i64 k] w fun x w' => x = .returned (.int .i64 (k + (n : Int))) ∧ Own w' base 2 .i64 (.slice A n c) (marks k0 n) ∧ w.grownBy w' (Value.slice A n c).ownBlock := by
  subst hk
  exact markInts A n c base k0 zs w hO (by rw [hO.len]; exact hn) hk0

theorem heldInts' (A : Option Addr) (n c B : Nat) (k : Int) (k0 : Nat) (w : World) (hI : Ints .i64 w B A n (marks k0 n)) (hn : n ≤ 1099511627776) (hk0 : k0 ≤ 1099511627776) (hk : k = (k0 : Int)) :
    Calls Tryz.prog 26 #[.slice A n c, .int .i64 k] w fun e w' => e = .returned (.int .i64 (k + (n : Int))) ∧ w = w' := by
  subst hk
  exact heldInts A n c B k0 w hI hn hk0
end Go.Proofs.YtlphodhecaagbaaGreat

namespace Go.Proofs.YtlphodhecaagbaaGreat
open Go.RowKit

set_option maxHeartbeats 400000 in
theorem likeInts (A : Option Addr) (n c B : Nat) (za : List Int) (A' : Option Addr) (n' c' B' : Nat) (zb : List Int) (w : World) (hI : Ints .i64 w B A n za) (hJ : Ints .i64 w B' A' n' zb) (hn : n ≤ 1099511627776) (hn' : n' ≤ 1099511627776) :
    Calls Tryz.prog 16 #[.slice A n c, .slice A' n' c'] w (Tells (.bool (sameI za zb)) w) := by
  have hl := hide hI.len
  have hl' := hide hJ.len
  have HI := hide hI
  have HJ := hide hJ
  clear hI hJ
  by_cases hne : n = n'
  · subst hne
    go_enter Tryz.func16, Tryz.ntmps16
    go_wp2
    go_loopw [5] (fun i wr => EqRel n za zb w i wr) (fun i _ => n - (intOf i).toNat)
    case atStart => exact ⟨0, by omega, rfl, by simp, 0, rfl⟩
    case round =>
      obtain ⟨k, hk, rfl, htake, m, rfl⟩ := hrel
      have HT := hide htake
      clear htake
      by_cases hlt : k < n
      · obtain ⟨b, off, x, rfl, hb, hx, hc⟩ := HI.out.at_ hlt
        obtain ⟨b', off', y, rfl, hb', hy, hc'⟩ := HJ.out.at_ hlt
        have HX := hide hx
        have HY := hide hy
        clear hx hy
        have z1 : (k : Int) < (n : Int) := by omega
        have z0 : (0 : Int) ≤ (k : Int) := by omega
        by_cases hxy : x = y
        · subst hxy
          go_wp2
          go_quiet (fail)
          go_wp2
          go_roundw
          case rel => exact ⟨k + 1, by omega, by go_num, take_same HT HX HY, _, rfl⟩
          case measure => simp [intOf]; omega
        · have HN := hide (sameI_at HX HY hxy)
          have e0 : (x != y) = true := by simpa using hxy
          go_wp2
          go_quiet (fail)
          go_wp2
          go_ret
          exact ⟨ret_bool HN, _, World.drewN_drewN _ _ _⟩
      · have HH := hide (sameI_yes hl hl' (show za.take n = zb.take n by rw [show n = k by omega]; exact HT))
        go_wp2
        go_ret
        exact ⟨ret_bool HH, m, rfl⟩
  · have HN := hide (sameI_len (a := za) (b := zb) (by rw [hl.out, hl'.out]; exact hne))
    have e0 : ((n : Int) != (n' : Int)) = true := by simp; omega
    go_enter Tryz.func16, Tryz.ntmps16
    go_wp2
    go_ret
    exact ⟨ret_bool HN, 0, rfl⟩


theorem likeSame (A : Option Addr) (n c B : Nat) (A' : Option Addr) (n' c' B' : Nat) (zs : List Int) (w : World) (hI : Ints .i64 w B A n zs) (hJ : Ints .i64 w B' A' n' zs) (hn : zs.length ≤ 1099511627776) :
    Calls Tryz.prog 16 #[.slice A n c, .slice A' n' c'] w (Gives (.bool true) w) :=
  (likeInts A n c B zs A' n' c' B' zs w hI hJ (by rw [← hI.len]; exact hn) (by rw [← hJ.len]; exact hn)).mono fun _ _ ⟨he, m, hw⟩ => ⟨by rw [he, sameI_refl], by rw [hw]; exact below_drewN (Below.refl _ _) m⟩

theorem big_yes (A : Option Addr) (n c : Nat) (w : World) (hn : 4096 < n) (hm : n ≤ 9223372036854775807) :
    Calls Tryz.prog 6 #[.slice A n c] w fun e w' => e = .returned (.bool true) ∧ w = w' := by
  go_enter Tryz.func6, Tryz.ntmps6
  go_wp2
  go_ret
  exact ⟨ret_bool (by simp; omega), rfl⟩
theorem big_no (A : Option Addr) (n c : Nat) (w : World) (hn : n ≤ 4096) :
    Calls Tryz.prog 6 #[.slice A n c] w fun e w' => e = .returned (.bool false) ∧ w = w' := by
  go_enter Tryz.func6, Tryz.ntmps6
  go_wp2
  go_ret
  exact ⟨ret_bool (by simp; omega), rfl⟩
end Go.Proofs.YtlphodhecaagbaaGreat
