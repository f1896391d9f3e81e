/-
  The map of nearest numbers: maps.Keys, slices.Collect and slices.Min at this program, clear of a map of the call's own.
  Condition: as each statement says.
-/
import Derived.Test.YtkaconpbmppekaaWd8
import Derived.Maps.OwnSet
import Derived.Shelf.SlIterI.Collect
namespace Go.Proofs.Ytkaconpbmppekaa
open Go Go.RowKit Go.Maps Go.Shelf
set_option linter.unusedSimpArgs false
set_option linter.unusedVariables false

def keysRen : Go.Shelf.Ren := ⟨fun | 7 => 70 | 10 => 75 | n => n, fun | 23 => 88 | 26 => 2 | 3 => 4 | 28 => 92 | 0 => 0 | 27 => 91 | 33 => 96 | 4 => 4 | n => n, fun | n => n⟩
theorem keysLaid : Go.Proofs.SlLaysZI.n7 Try.prog keysRen := {
  mixed := by kernel_rfl
  f7 := ⟨Try.f70.name, by decide, Try.func70.trans (congrArg some (by kernel_rfl))⟩
  f10 := ⟨Try.f75.name, by decide, Try.func75.trans (congrArg some (by kernel_rfl))⟩
  t0 := Try.underlying0
  a0 := Try.isAgg0
  z0 := Try.sizeOf0
  v0 := Try.zeroValue0
  t4 := Try.underlying4
  a4 := Try.isAgg4
  z4 := Try.sizeOf4
  v4 := Try.zeroValue4
  t23 := Try.underlying88
  a23 := Try.isAgg88
  z23 := Try.sizeOf88
  v23 := Try.zeroValue88
  t26 := Try.underlying2
  a26 := Try.isAgg2
  z26 := Try.sizeOf2
  v26 := Try.zeroValue2
  t27 := Try.underlying91
  a27 := Try.isAgg91
  z27 := Try.sizeOf91
  v27 := Try.zeroValue91
  t28 := Try.underlying92
  a28 := Try.isAgg92
  z28 := Try.sizeOf92
  v28 := Try.zeroValue92
  t33 := Try.underlying96
  a33 := Try.isAgg96
  z33 := Try.sizeOf96
  v33 := Try.zeroValue96 }
def collRen : Go.Shelf.Ren := ⟨fun | 8 => 69 | 11 => 74 | n => n, fun | 26 => 2 | 28 => 92 | 24 => 28 | 0 => 0 | 33 => 96 | 4 => 4 | n => n, fun | n => n⟩
theorem collLaid : Go.Proofs.SlLaysZI.n8 Try.prog collRen := {
  mixed := by kernel_rfl
  f8 := ⟨Try.f69.name, by decide, Try.func69.trans (congrArg some (by kernel_rfl))⟩
  f11 := ⟨Try.f74.name, by decide, Try.func74.trans (congrArg some (by kernel_rfl))⟩
  t0 := Try.underlying0
  a0 := Try.isAgg0
  z0 := Try.sizeOf0
  v0 := Try.zeroValue0
  t24 := Try.underlying28
  a24 := Try.isAgg28
  z24 := Try.sizeOf28
  v24 := Try.zeroValue28
  t26 := Try.underlying2
  a26 := Try.isAgg2
  z26 := Try.sizeOf2
  v26 := Try.zeroValue2
  t28 := Try.underlying92
  a28 := Try.isAgg92
  z28 := Try.sizeOf92
  v28 := Try.zeroValue92
  i26 := by kernel_rfl }

/-- maps.Keys of a map. -/
theorem implKeys (mb : Option Nat) (w : World) :
    Calls Try.prog 70 #[.map mb] w fun e w' => e = .returned (.func (.func 75) #[] #[.pointer (some ⟨w.heap.size, 0, none⟩)]) ∧ w' = w.alloc (.cells #[.map mb] 88) :=
  callsIn_wide.1 (show CallsIn Fence.wide 5 Try.prog 70 #[.map mb] w fun e w' => e = .returned (.func (.func 75) #[] #[.pointer (some ⟨w.heap.size, 0, none⟩)]) ∧ w' = w.alloc (.cells #[.map mb] 88) from AnyZI.keys_in keysLaid Fence.wide 5 trivial rfl mb w)
/-- slices.Collect of a map's keys. -/
theorem implCollect {H : Type} {R : Value → Option (DataW H × List MemPlace)} (b nn : Nat) (D0 : DataW H) (w : World) (hown : w.ownsMap Try.prog 2 R b nn D0) (hm : Maps.size D0 ≤ 1000) :
    Calls Try.prog 69 #[.func (.func 75) #[] #[.pointer (some ⟨w.heap.size, 0, none⟩)]] (w.alloc (.cells #[.map (some b)] 88)) fun e w' => ∃ (v : Value) (ss : List Int), e = .returned v ∧ ss.Perm (intKeys D0) ∧ Own w' (w.alloc (.cells #[.map (some b)] 88)).heap.size 2 .i64 v ss ∧ Below (w.alloc (.cells #[.map (some b)] 88)).heap.size (w.alloc (.cells #[.map (some b)] 88)) w' := by
  have hbl := hown.lt
  have hseq : SeqGives Fence.wide 3 Try.prog 75 #[.pointer (some ⟨w.heap.size, 0, none⟩)] encZ (fun ss => ss.Perm (intKeys D0)) (Maps.size D0) (w.alloc (.cells #[.map (some b)] 88)) :=
    AnyZI.keys_gives (ρ := keysRen) { keysLaid with } Fence.wide _ trivial rfl (by omega) w.heap.size b nn D0 _ (by simp) (by simp) (by
      obtain ⟨es, clock, hb, Ft, hs, hD⟩ := hown
      exact ⟨es, clock, (Below.heap_alloc _ _ b hbl).trans hb, Ft, hs, hD⟩)
  have cS := AnyZI.collect_in collLaid Fence.wide 5 trivial trivial rfl (by omega) 75 #[.pointer (some ⟨w.heap.size, 0, none⟩)] trivial (enters_of Try.func75 (by kernel_rfl) rfl) _ (Maps.size D0) (by unfold maxLen; omega) (by omega) _ hseq
  change CallsIn _ _ Try.prog 69 _ _ _ at cS
  refine (callsIn_wide.1 cS).mono ?_
  rintro e w' ⟨v, ss, rfl, hS, hrow, _, hb⟩
  exact ⟨v, ss, rfl, hS, hrow, hb⟩

/-- A map of the call's own is cleared. -/
theorem clear_own {H : Type} {R : Value → Option (DataW H × List MemPlace)} {P : Program} {k e t : TypeId} {w : World} {b n : Nat} {D : DataW H} (h : w.ownsMap P k R b n D) (ht : P.underlying t = some (.map k e)) :
    ∃ w', (∀ ty, (Builtin.clear_ #[t] ty #[.map (some b)]).run P w = .ok (.tuple #[]) w') ∧ w'.ownsMap P k R b 0 (.map []) ∧ w.grownBy w' (some b) := by
  obtain ⟨es, clock, hb, F, hs, rfl⟩ := h
  have hbl := (Array.getElem?_eq_some_iff.1 hb).1
  refine ⟨{ w with heap := w.heap.setIfInBounds b (.map #[] clock) }, fun ty => ?_, ⟨#[], clock, by simp [hbl], ⟨by simp, MapKept.stamped_empty clock, by simp⟩, Nat.le_refl _, rfl⟩, ⟨rfl, rfl, rfl, by simp, fun i _ hi => ?_⟩⟩
  · simp [Builtin.clear_, run_underlying ht, MapKept.run_getObj_map hb, MapKept.run_setObj_map _ hb, Result.andThen]
  · have : b ≠ i := fun e => hi (by rw [e])
    simp [Array.getElem?_setIfInBounds, this]
/-- Which numbers a map has as keys. -/
theorem mem_keys {H : Type} {R : Value → Option (DataW H × List MemPlace)} {P : Program} {k : TypeId} {w : World} {b n : Nat} {D : DataW H} (h : w.ownsMap P k R b n D) (hk : P.underlying k = some (.int .i64)) (x : Int) : x ∈ intKeys D ↔ Maps.has D (.int .i64 x) = true := by
  obtain ⟨es, rfl, hko⟩ := h.keysOf
  rw [Maps.has_eq, List.any_eq_true]
  show x ∈ es.map (fun p => intOf p.1) ↔ _
  rw [List.mem_map]
  constructor
  · rintro ⟨p, hp, rfl⟩
    obtain ⟨v, hv⟩ := hko p hp
    obtain ⟨y, _, hy, _⟩ := Maps.keyOf_i64 hk hv
    exact ⟨p, hp, by rw [hy]; simp [Lit.sameKey, intOf]⟩
  · rintro ⟨p, hp, hs⟩
    obtain ⟨v, hv⟩ := hko p hp
    obtain ⟨y, _, hy, _⟩ := Maps.keyOf_i64 hk hv
    rw [hy] at hs
    exact ⟨p, hp, by rw [hy]; simpa [Lit.sameKey, intOf] using hs⟩

set_option maxHeartbeats 1000000 in
/-- The least element of a list. -/
theorem implMinS (A : Option Addr) (n c B : Nat) (zs : List Int) (w : World) (hI : Ints .i64 w B A n zs) (hn : n ≤ 1099511627776) (h0 : 0 < n) :
    Calls Try.prog 68 #[.slice A n c] w fun e w' => (∃ m : Int, e = .returned (.int .i64 m) ∧ m ∈ zs ∧ ∀ z ∈ zs, m ≤ z) ∧ w = w' := by
  have hl := hide hI.len
  have HI := hide hI
  obtain ⟨b, off, x, rfl, hb, hx, hc⟩ := hI.at_ h0
  have HX := hide hx
  have hlen : decide ((n : Int) < 1) = false := by simp; omega
  have hlen2 : (0 : Int) < (n : Int) := by omega
  have hc0 : w.cell? ⟨b, off, none⟩ = some (.int .i64 x) := by simpa using hc
  clear hI hx hc
  go_enter Try.func68, Try.ntmps68
  go_wp2_with fail
  clear hc0
  go_loop [3, 4] (fun a i => ∃ (k : Nat) (m : Int), 1 ≤ k ∧ k ≤ n ∧ i = .int .i64 k ∧ a = .int .i64 m ∧ Hid (m ∈ zs ∧ ∀ z ∈ zs.take k, m ≤ z)) (fun _ i => n - (Go.RowKit.intOf i).toNat)
  case atStart =>
    refine ⟨1, x, Nat.le_refl _, h0, by go_num, rfl, List.mem_of_getElem? HX.out, fun z hz => ?_⟩
    rw [take_snocI (k := 0) HX.out] at hz
    simp at hz
    omega
  case round =>
    obtain ⟨k, m, hk1, hk, rfl, rfl, HM⟩ := hrel
    by_cases hlt : k < n
    · obtain ⟨b', off', y, hbb, hb', hy, hc'⟩ := HI.out.at_ hlt
      injection hbb with hbb
      injection hbb with hb1 hb2
      subst hb1 hb2
      have HY := hide hy
      clear hy
      by_cases hym : y < m
      · go_wp2_with fail
        go_round
        case rel => exact ⟨k + 1, y, by omega, by omega, by go_num, by simp [hym], List.mem_of_getElem? HY.out, fun z hz => by
          rw [take_snocI HY.out, List.mem_append] at hz
          rcases hz with hz | hz
          · have := HM.out.2 z hz; omega
          · have := List.mem_singleton.1 hz; omega⟩
        case measure => simp [Go.RowKit.intOf]; omega
      · go_wp2_with fail
        go_round
        case rel => exact ⟨k + 1, m, by omega, by omega, by go_num, by simp [hym], HM.out.1, fun z hz => by
          rw [take_snocI HY.out, List.mem_append] at hz
          rcases hz with hz | hz
          · exact HM.out.2 z hz
          · have := List.mem_singleton.1 hz; omega⟩
        case measure => simp [Go.RowKit.intOf]; omega
    · have HF := hide (show m ∈ zs ∧ ∀ z ∈ zs, m ≤ z by
        have := HM.out
        rwa [List.take_of_length_le (by rw [hl.out]; omega)] at this)
      go_wp2_with fail
      go_ret
      exact ⟨⟨m, rfl, HF.out⟩, rfl⟩
end Go.Proofs.Ytkaconpbmppekaa
