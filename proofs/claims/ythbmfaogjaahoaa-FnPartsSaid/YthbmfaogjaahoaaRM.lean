/-
  A map from integers to strings that a call makes: what it holds, key by key.
  Parts of one message: what is wrong with them, their texts by index, what is missing (mathematics, and the program's functions).
  The texts of parts by their index, in the program: collected, what is missing, joined.
  Parts joined, and parts that are missing: mathematics, and the program's functions.
  Condition: as each statement says.
-/
import Derived.Test.YthbmfaogjaahoaaProg
import Derived.Test.YthbmfaogjaahoaaWords
import Derived.Test.YthbmfaogjaahoaaBox
import Derived.Maps.Own
import Derived.Maps.OwnSet
import Derived.Test.YthbmfaogjaahoaaRA
import Derived.Test.YthbmfaogjaahoaaTail2
import Derived.Test.YthbmfaogjaahoaaPG
import Derived.Test.YthbmfaogjaahoaaLawKit
namespace Go.Proofs.Ythbmfaogjaahoaa
open Go Go.RowKit Go.Maps
open Go.ChangeMaps (setBlock heap_setBlock_same heap_setBlock_other)
set_option linter.unusedSimpArgs false
set_option linter.unusedVariables false

/-- The block is a map with m entries; at the key x it holds the string that f tells. -/
def MapF (w : World) (b : Nat) (f : Int → Option ByteArray) (m : Nat) : Prop :=
  ∃ (en : Array MapEntry) (clock : Nat), w.heap[b]? = some (.map en clock) ∧
    (∀ (i : Nat) (e : MapEntry), en[i]? = some e → ∃ (x : Int) (s : ByteArray), e.key = .int .i64 x ∧ e.val = .string s ∧ (Lit.int .i64 x).wf = true ∧ f x = some s) ∧
    (∀ (x : Int) (s : ByteArray), f x = some s → ∃ (i : Nat) (e : MapEntry), en[i]? = some e ∧ e.key = .int .i64 x ∧ e.val = .string s) ∧
    (∀ (i i' : Nat) (e e' : MapEntry), en[i]? = some e → en[i']? = some e' → e.key = e'.key → i = i') ∧ en.size = m
theorem keyed64 : Keyed Try.prog 2 := int_keyed Try.underlying2
theorem zeroS (w : World) : (zeroValue 9).run Try.prog w = .ok (.string ⟨#[]⟩) w := by kernel_rfl
section
variable {w w' : World} {b m : Nat} {f : Int → Option ByteArray}
theorem MapF.kept {row : Option Nat} (h : MapF w b f m) (hg : w.grownBy w' row) (hne : some b ≠ row) : MapF w' b f m := by
  obtain ⟨en, clock, hb, h1, h2, h3, h4⟩ := h
  exact ⟨en, clock, by rw [hg.block b (Array.getElem?_eq_some_iff.1 hb).1 (by simpa using hne)]; exact hb, h1, h2, h3, h4⟩
theorem MapF.lt (h : MapF w b f m) : b < w.heap.size := by
  obtain ⟨en, clock, hb, _⟩ := h
  exact (Array.getElem?_eq_some_iff.1 hb).1
theorem MapF.next (h : MapF w b f m) (hb : Below w.heap.size w w') : MapF w' b f m := by
  have hlt := h.lt
  obtain ⟨en, clock, hb0, h1⟩ := h
  exact ⟨en, clock, by rw [hb.block b hlt]; exact hb0, h1⟩
theorem MapF.alloc (h : MapF w b f m) (o : Obj) : MapF (w.alloc o) b f m := h.next ((Below.refl _ _).alloc (Nat.le_refl _) o)
theorem MapF.drew (h : MapF w b f m) : MapF w.drew b f m := h
theorem MapF.made (w : World) : MapF (w.alloc (.map #[] 0)) w.heap.size (fun _ => none) 0 :=
  by
  refine ⟨#[], 0, heap_alloc_new w _, fun i e h => ?_, fun x s h => ?_, fun i i' e e' h => ?_, rfl⟩
  · simp at h
  · cases h
  · simp at h
theorem MapF.congr {g : Int → Option ByteArray} (h : MapF w b f m) (he : ∀ x, g x = f x) : MapF w b g m := by rw [show g = f from funext he]; exact h

theorem mapF_find {en : Array MapEntry} (h1 : ∀ (i : Nat) (e : MapEntry), en[i]? = some e → ∃ x s, e.key = .int .i64 x ∧ e.val = .string s ∧ (Lit.int .i64 x).wf = true ∧ f x = some s)
    (h2 : ∀ x s, f x = some s → ∃ (i : Nat) (e : MapEntry), en[i]? = some e ∧ e.key = .int .i64 x ∧ e.val = .string s) {k : Int} (hk : (Lit.int .i64 k).wf = true) (w : World) :
    (f k = none ∧ (Instr.findKey 2 (.int .i64 k) en.toList).run Try.prog w = .ok none w ∧ ∀ (i : Nat) (e : MapEntry), en[i]? = some e → e.key ≠ .int .i64 k) ∨
    ∃ (j : Nat) (e : MapEntry) (s : ByteArray), f k = some s ∧ (Instr.findKey 2 (.int .i64 k) en.toList).run Try.prog w = .ok (some (j, .string s)) w ∧ en[j]? = some e ∧ e.key = .int .i64 k ∧ e.val = .string s := by
  have hkey : keyOf Try.prog 2 (.int .i64 k) = some (.int .i64 k) := keyOf_int_mk Try.underlying2 hk
  rcases keyed64.find w hkey en.toList (fun e he => by
    obtain ⟨i, hi⟩ := List.getElem?_of_mem he
    obtain ⟨x, s, e1, _, e3, _⟩ := h1 i e (by simpa using hi)
    exact ⟨_, by rw [e1]; exact keyOf_int_mk Try.underlying2 e3⟩) with ⟨g1, g2⟩ | ⟨j, e, g1, g2, g3⟩
  · refine .inl ⟨?_, g1, fun i e he => g2 e (List.mem_of_getElem? (by simpa using he))⟩
    cases hf : f k with
    | none => rfl
    | some s =>
      obtain ⟨i, e, he, hke, _⟩ := h2 k s hf
      exact absurd hke (g2 e (List.mem_of_getElem? (by simpa using he)))
  · have g2' : en[j]? = some e := by simpa using g2
    obtain ⟨x, s, e1, e2, _, e4⟩ := h1 j e g2'
    rw [g3] at e1
    injection e1 with _ e1
    subst e1
    exact .inr ⟨j, e, s, e4, by rw [g1, e2], g2', g3, e2⟩

theorem MapF.look (h : MapF w b f m) (c : Bool) {k : Int} (hk : (Lit.int .i64 k).wf = true) :
    (Instr.lookup 91 (.map (some b)) (.int .i64 k) c).run Try.prog w = .ok (if c then .tuple #[.string ((f k).getD ⟨#[]⟩), .bool (f k).isSome] else .string ((f k).getD ⟨#[]⟩)) w := by
  obtain ⟨en, clock, hb, h1, h2, h3, h4⟩ := h
  have hkey : keyOf Try.prog 2 (.int .i64 k) = some (.int .i64 k) := keyOf_int_mk Try.underlying2 hk
  rcases mapF_find h1 h2 hk w with ⟨g0, g1, g2⟩ | ⟨j, e, s, g0, g1, g2, g3, g4⟩
  · rw [g0]
    cases c <;> simp [Instr.lookup, run_underlying Try.underlying91, MapKept.run_getObj_map hb, keyed64.check w _ hkey, g1, zeroS, Result.andThen]
  · rw [g0]
    cases c <;> simp [Instr.lookup, run_underlying Try.underlying91, MapKept.run_getObj_map hb, keyed64.check w _ hkey, g1, Result.andThen]
theorem MapF.len (h : MapF w b f m) (ty : TypeId) : (Builtin.len_ #[91] ty #[.map (some b)]).run Try.prog w = .ok (.int .i64 m) w := by
  obtain ⟨en, clock, hb, h1, h2, h3, rfl⟩ := h
  simp [Builtin.len_, run_underlying Try.underlying91, MapKept.run_getObj_map hb, Result.andThen, goInt]

def updF (f : Int → Option ByteArray) (k : Int) (v : Option ByteArray) (x : Int) : Option ByteArray := if x = k then v else f x

theorem MapF.put (h : MapF w b f m) {k : Int} (hk : (Lit.int .i64 k).wf = true) (s : ByteArray) :
    ∃ w', (Instr.mapUpdate 91 (.map (some b)) (.int .i64 k) (.string s)).run Try.prog w = .ok () w' ∧ MapF w' b (updF f k (some s)) (if f k = none then m + 1 else m) ∧ w.grownBy w' (some b) := by
  obtain ⟨en, clock, hb, h1, h2, h3, rfl⟩ := h
  have hkey : keyOf Try.prog 2 (.int .i64 k) = some (.int .i64 k) := keyOf_int_mk Try.underlying2 hk
  have hgr : ∀ o, w.grownBy (setBlock w b o) (some b) := fun o => ⟨rfl, rfl, rfl, by simp [setBlock], fun i _ hi => heap_setBlock_other hb _ (fun e => hi (by rw [e]))⟩
  rcases mapF_find h1 h2 hk w with ⟨g0, g1, g2⟩ | ⟨j, e, s0, g0, g1, g2, g3, g4⟩
  · rw [if_pos g0]
    refine ⟨setBlock w b (.map (en.push ⟨.int .i64 k, .string s, clock⟩) (clock + 1)), ?_, ⟨_, _, heap_setBlock_same hb _, ?_, ?_, ?_, by simp⟩, hgr _⟩
    · simp [Instr.mapUpdate, run_underlying Try.underlying91, MapKept.run_getObj_map hb, keyed64.check w false hkey, g1, MapKept.run_setObj_map _ hb, Result.andThen, setBlock]
    · intro i e he
      rw [Array.getElem?_push] at he
      split at he
      · cases he
        exact ⟨k, s, rfl, rfl, hk, by unfold updF; rw [if_pos rfl]⟩
      · obtain ⟨x, t, e1, e2, e3, e4⟩ := h1 i e he
        refine ⟨x, t, e1, e2, e3, ?_⟩
        unfold updF
        rw [if_neg (fun hx => g2 i e he (by rw [e1, hx])), e4]
    · intro x t hx
      unfold updF at hx
      split at hx
      · rename_i hxk
        cases hx
        exact ⟨en.size, _, by rw [Array.getElem?_push, if_pos rfl], by rw [hxk], rfl⟩
      · obtain ⟨i, e, e1, e2, e3⟩ := h2 x t hx
        refine ⟨i, e, ?_, e2, e3⟩
        rw [Array.getElem?_push, if_neg (by have := (Array.getElem?_eq_some_iff.1 e1).1; omega)]
        exact e1
    · intro i i' e e' he he' hee
      rw [Array.getElem?_push] at he he'
      split at he <;> split at he'
      · omega
      · cases he; exact absurd hee.symm (g2 i' e' he')
      · cases he'; exact absurd hee (g2 i e he)
      · exact h3 i i' e e' he he' hee
  · rw [if_neg (by rw [g0]; simp)]
    have hst : (Instr.keyThatStays e.key (.int .i64 k)).run Try.prog w = .ok (.int .i64 k) w := by rw [g3]; exact keyed64.stays w hkey
    refine ⟨setBlock w b (.map (en.modify j fun e => { e with key := .int .i64 k, val := .string s }) clock), ?_, ⟨_, _, heap_setBlock_same hb _, ?_, ?_, ?_, by simp⟩, hgr _⟩
    · simp [Instr.mapUpdate, run_underlying Try.underlying91, MapKept.run_getObj_map hb, keyed64.check w false hkey, g1, g2, hst, MapKept.run_setObj_map _ hb, Result.andThen, setBlock]
    · intro i e' he
      rw [Array.getElem?_modify] at he
      split at he
      · rename_i hji
        subst hji
        rw [g2] at he
        cases he
        exact ⟨k, s, rfl, rfl, hk, by unfold updF; rw [if_pos rfl]⟩
      · rename_i hji
        obtain ⟨x, t, e1, e2, e3, e4⟩ := h1 i e' he
        refine ⟨x, t, e1, e2, e3, ?_⟩
        unfold updF
        rw [if_neg (fun hx => hji (h3 j i e e' g2 he (by rw [g3, e1, hx]))), e4]
    · intro x t hx
      unfold updF at hx
      split at hx
      · rename_i hxk
        cases hx
        exact ⟨j, { e with key := .int .i64 k, val := .string s }, by rw [Array.getElem?_modify, if_pos rfl, g2]; rfl, by rw [hxk], rfl⟩
      · rename_i hxk
        obtain ⟨i, e', e1, e2, e3⟩ := h2 x t hx
        refine ⟨i, e', ?_, e2, e3⟩
        rw [Array.getElem?_modify, if_neg (fun hji => by subst hji; rw [g2] at e1; cases e1; rw [g3] at e2; injection e2 with _ e2; exact hxk e2.symm)]
        exact e1
    · have key : ∀ (i : Nat) (e' : MapEntry), (en.modify j fun e => { e with key := .int .i64 k, val := .string s })[i]? = some e' → ∃ e'' : MapEntry, en[i]? = some e'' ∧ e''.key = e'.key := by
        intro i e' he
        rw [Array.getElem?_modify] at he
        split at he
        · rename_i hji
          subst hji
          rw [g2] at he
          cases he
          exact ⟨e, g2, g3⟩
        · exact ⟨e', he, rfl⟩
      intro i i' a a' ha ha' hee
      obtain ⟨c, hc, hck⟩ := key i a ha
      obtain ⟨c', hc', hck'⟩ := key i' a' ha'
      exact h3 i i' c c' hc hc' (by rw [hck, hck', hee])

theorem MapF.del (h : MapF w b f m) {k : Int} (hk : (Lit.int .i64 k).wf = true) (ty : TypeId) :
    ∃ w', (Builtin.delete_ #[91, 2] ty #[.map (some b), .int .i64 k]).run Try.prog w = .ok (.tuple #[]) w' ∧ MapF w' b (updF f k none) (if f k = none then m else m - 1) ∧ w.grownBy w' (some b) := by
  obtain ⟨en, clock, hb, h1, h2, h3, rfl⟩ := h
  have hkey : keyOf Try.prog 2 (.int .i64 k) = some (.int .i64 k) := keyOf_int_mk Try.underlying2 hk
  have hgr : ∀ o, w.grownBy (setBlock w b o) (some b) := fun o => ⟨rfl, rfl, rfl, by simp [setBlock], fun i _ hi => heap_setBlock_other hb _ (fun e => hi (by rw [e]))⟩
  rcases mapF_find h1 h2 hk w with ⟨g0, g1, g2⟩ | ⟨j, e, s0, g0, g1, g2, g3, g4⟩
  · rw [if_pos g0]
    refine ⟨setBlock w b (.map en clock), ?_, ⟨_, _, heap_setBlock_same hb _, ?_, ?_, h3, rfl⟩, hgr _⟩
    · simp [Builtin.delete_, run_underlying Try.underlying91, MapKept.run_getObj_map hb, keyed64.check w _ hkey, g1, MapKept.run_setObj_map _ hb, Result.andThen, setBlock]
    · intro i e he
      obtain ⟨x, t, e1, e2, e3, e4⟩ := h1 i e he
      refine ⟨x, t, e1, e2, e3, ?_⟩
      unfold updF
      rw [if_neg (fun hx => g2 i e he (by rw [e1, hx])), e4]
    · intro x t hx
      unfold updF at hx
      split at hx
      · cases hx
      · exact h2 x t hx
  · rw [if_neg (by rw [g0]; simp)]
    have hjs : j < en.size := (Array.getElem?_eq_some_iff.1 g2).1
    have hsub : (en.eraseIdxIfInBounds j).toList = en.toList.eraseIdx j := by
      unfold Array.eraseIdxIfInBounds
      rw [dif_pos hjs]
      simp
    have hget : ∀ i : Nat, (en.eraseIdxIfInBounds j)[i]? = if i < j then en[i]? else en[i + 1]? := by
      intro i
      rw [← Array.getElem?_toList, hsub, List.getElem?_eraseIdx]
      simp
    have hsz : (en.eraseIdxIfInBounds j).size = en.size - 1 := by
      have h := congrArg List.length hsub
      rw [List.length_eraseIdx, if_pos (by simpa using hjs)] at h
      rw [Array.length_toList] at h
      rw [h, Array.length_toList]
    refine ⟨setBlock w b (.map (en.eraseIdxIfInBounds j) clock), ?_, ⟨_, _, heap_setBlock_same hb _, ?_, ?_, ?_, hsz⟩, hgr _⟩
    · simp [Builtin.delete_, run_underlying Try.underlying91, MapKept.run_getObj_map hb, keyed64.check w _ hkey, g1, MapKept.run_setObj_map _ hb, Result.andThen, setBlock]
    · intro i e' he
      rw [hget] at he
      have hne : ∀ i', i' ≠ j → en[i']? = some e' → ∃ x s, e'.key = .int .i64 x ∧ e'.val = .string s ∧ (Lit.int .i64 x).wf = true ∧ updF f k none x = some s := by
        intro i' hi' he'
        obtain ⟨x, t, e1, e2, e3, e4⟩ := h1 i' e' he'
        refine ⟨x, t, e1, e2, e3, ?_⟩
        unfold updF
        rw [if_neg (fun hx => hi' (h3 i' j e' e he' g2 (by rw [e1, g3, hx]))), e4]
      split at he
      · exact hne i (by omega) he
      · exact hne (i + 1) (by omega) he
    · intro x t hx
      unfold updF at hx
      split at hx
      · cases hx
      · rename_i hxk
        obtain ⟨i, e', e1, e2, e3⟩ := h2 x t hx
        have hij : i ≠ j := fun hij => by subst hij; rw [g2] at e1; cases e1; rw [g3] at e2; injection e2 with _ e2; exact hxk e2.symm
        rcases Nat.lt_or_ge i j with hlt | hge
        · exact ⟨i, e', by rw [hget, if_pos hlt]; exact e1, e2, e3⟩
        · exact ⟨i - 1, e', by rw [hget, if_neg (by omega), show i - 1 + 1 = i by omega]; exact e1, e2, e3⟩
    · intro i i' a a' ha ha' hee
      rw [hget] at ha ha'
      split at ha <;> split at ha'
      · exact h3 i i' a a' ha ha' hee
      · have := h3 i (i' + 1) a a' ha ha' hee; omega
      · have := h3 (i + 1) i' a a' ha ha' hee; omega
      · have := h3 (i + 1) (i' + 1) a a' ha ha' hee; omega
end
end Go.Proofs.Ythbmfaogjaahoaa

namespace Go.Proofs.Ythbmfaogjaahoaa
open Go Go.RowKit
set_option linter.unusedSimpArgs false
set_option linter.unusedVariables false

/-- The parts are all valid; they are of one message. -/
def alV (X : Nat → PtV) (n : Nat) : Prop := ∀ j, j < n → isPt (X j) = true
def alE (X : Nat → PtV) (n : Nat) : Prop := ∀ j, j < n → (X j).c = (X 0).c ∧ (X j).p = (X 0).p
open Classical in
noncomputable def peC (X : Nat → PtV) (n : Nat) : Int := if 1 ≤ n ∧ n ≤ 8 then (if alV X n then (if alE X n then 0 else 5) else 1) else 3
theorem pe_len {X : Nat → PtV} {n : Nat} (h : ¬ (1 ≤ n ∧ n ≤ 8)) : peC X n = 3 := by unfold peC; rw [if_neg h]
theorem pe_val {X : Nat → PtV} {n : Nat} (h : 1 ≤ n ∧ n ≤ 8) (h2 : ¬ alV X n) : peC X n = 1 := by unfold peC; rw [if_pos h, if_neg h2]
theorem pe_one {X : Nat → PtV} {n : Nat} (h : 1 ≤ n ∧ n ≤ 8) (h2 : alV X n) (h3 : ¬ alE X n) : peC X n = 5 := by unfold peC; rw [if_pos h, if_pos h2, if_neg h3]
theorem pe_ok {X : Nat → PtV} {n : Nat} (h : 1 ≤ n ∧ n ≤ 8) (h2 : alV X n) (h3 : alE X n) : peC X n = 0 := by unfold peC; rw [if_pos h, if_pos h2, if_pos h3]
theorem pe_yes {X : Nat → PtV} {n : Nat} (h : peC X n = 0) : (1 ≤ n ∧ n ≤ 8) ∧ alV X n ∧ alE X n := by
  unfold peC at h
  split at h
  · split at h
    · split at h
      · exact ⟨‹_›, ‹_›, ‹_›⟩
      · cases h
    · cases h
  · cases h
/-- The texts by index: the last one of those with the same index; how many indices there are. -/
def txF (X : Nat → PtV) : Nat → Int → Option ByteArray
  | 0 => fun _ => none
  | j + 1 => updF (txF X j) (X j).i (some (X j).t)
def mF (X : Nat → PtV) : Nat → Nat
  | 0 => 0
  | j + 1 => if txF X j (X j).i = none then mF X j + 1 else mF X j
theorem mF_le (X : Nat → PtV) : ∀ n, mF X n ≤ n := by
  intro n
  induction n with
  | zero => exact Nat.le_refl _
  | succ n ih => unfold mF; split <;> omega

def PtB (w : World) (X : Nat → PtV) (n : Nat) (b off : Nat) : Prop := ∀ (wx : World), Below w.heap.size w wx → ∀ j, j < n → PtAt wx b (off + j * 4) (X j)
theorem ptB_of {w : World} {X : Nat → PtV} {n b off B : Nat} (hb : b < B) (hB : B ≤ w.heap.size) (h : ∀ j, j < n → PtAt w b (off + j * 4) (X j)) : PtB w X n b off := fun wx hx j hj => (h j hj).below hx (by omega)

def PeRel (w : World) (X : Nat → PtV) (n : Nat) (i : Value) (wr : World) : Prop := ∃ k : Nat, k ≤ n ∧ i = .int .i64 k ∧ Hid (∀ j, j < k → isPt (X j) = true) ∧ Below w.heap.size w wr
def PeRel2 (w : World) (X : Nat → PtV) (n : Nat) (i : Value) (wr : World) : Prop := ∃ k : Nat, k ≤ n ∧ i = .int .i64 k ∧ Hid (∀ j, j < k → (X j).c = (X 0).c ∧ (X j).p = (X 0).p) ∧ Below w.heap.size w wr

set_option maxRecDepth 100000 in
set_option maxHeartbeats 2000000 in
theorem implPe (A : Option Addr) (n c B : Nat) (X : Nat → PtV) (w : World) (hI : Pts w B A n X) (hB : B ≤ w.heap.size) (hn : n ≤ 1099511627776) (hX : ∀ j, j < n → (X j).t.size ≤ 1099511627776 ∧ (-9223372036854775808 ≤ (X j).c ∧ (X j).c ≤ 9223372036854775807)) :
    Calls Try.prog 62 #[.slice A n c] w (Gives (.int .i64 (peC X n)) w) := by
  have HXX := hide hX
  clear hX
  by_cases h1 : 1 ≤ n
  case neg =>
    have HE := hide (pe_len (X := X) (n := n) (by omega))
    have hd : (n : Int) < 1 := by omega
    go_enter Try.func62, Try.ntmps62
    go_wp2_with fail
    go_ret
    exact ⟨ret_int HE.out, Below.refl _ _⟩
  by_cases h8 : n ≤ 8
  case neg =>
    have HE := hide (pe_len (X := X) (n := n) (by omega))
    have hd : ¬ (n : Int) < 1 := by omega
    have hd8 : (8 : Int) < (n : Int) := by omega
    go_enter Try.func62, Try.ntmps62
    go_wp2_with fail
    go_ret
    exact ⟨ret_int HE.out, Below.refl _ _⟩
  have hd : ¬ (n : Int) < 1 := by omega
  have hd8 : ¬ (8 : Int) < (n : Int) := by omega
  have HNV := hide (pe_val (X := X) (n := n) ⟨h1, h8⟩)
  have HNO := hide (pe_one (X := X) (n := n) ⟨h1, h8⟩)
  have HOK := hide (pe_ok (X := X) (n := n) ⟨h1, h8⟩)
  obtain ⟨b, off, rfl, hbb, hc⟩ := hI (by omega)
  have HC := hide (ptB_of hbb hB hc)
  have hn0 : 0 < n := by omega
  clear hI hbb hc
  go_enter Try.func62, Try.ntmps62
  go_wp2_with fail
  go_loopw [17] (fun i wr => PeRel w X n i wr) (fun i _ => n - (intOf i).toNat)
  case atStart => exact ⟨0, Nat.zero_le _, rfl, hide (fun j hj => absurd hj (by omega)), Below.refl _ _⟩
  case round =>
    clear hd hd8
    obtain ⟨k, hk, rfl, hv, hb⟩ := hrel
    have HV := hv
    have HB := hide hb
    clear hv hb
    by_cases hlt : k < n
    · obtain ⟨hs, hcb⟩ := HXX.out k hlt
      obtain ⟨e0, e1, e2, e3⟩ := HC.out wr HB.out k hlt
      obtain ⟨i0, hi0⟩ : ∃ m, (X k).i = m := ⟨_, rfl⟩
      obtain ⟨c0, hc0⟩ : ∃ m, (X k).c = m := ⟨_, rfl⟩
      obtain ⟨p0, hp0⟩ : ∃ m, (X k).p = m := ⟨_, rfl⟩
      obtain ⟨s, hse⟩ : ∃ s, (X k).t = s := ⟨_, rfl⟩
      rw [hi0] at e0
      rw [hc0] at e1 hcb
      rw [hp0] at e2
      rw [hse] at e3 hs
      have hXk : X k = ⟨i0, c0, p0, s⟩ := by rw [← hi0, ← hc0, ← hp0, ← hse]
      have HXK := hide hXk
      have HIV := hide (fun w' => implIsVal i0 c0 p0 s hs hcb w')
      have HP := hide (Box4.start wr 26 i0 c0 p0 s)
      have HB2 := hide (HB.out.trans (HP.out.2.mono HB.out.size))
      obtain ⟨d0, d1, d2, d3⟩ := HP.out.cells
      clear hi0 hc0 hp0 hse hXk
      rcases hf : isPt ⟨i0, c0, p0, s⟩ with _ | _
      · have HE := hide (HNV.out (fun h => by have := h k hlt; rw [HXK.out, hf] at this; cases this))
        rw [hf] at HIV
        clear hf
        go_wp2_with fail
        refine (HIV.out _).mono ?_
        rintro e w1 ⟨rfl, hb1⟩
        have HB3 := hide (HB2.out.trans (hb1.mono HB2.out.size))
        clear hb1 d0 d1 d2 d3 e0 e1 e2 e3
        go_wp2_with fail
        go_ret
        exact ⟨ret_int HE.out, HB3.out⟩
      · have HV2 := hide (fun (j : Nat) (hj : j < k + 1) => show isPt (X j) = true from if h : j < k then HV.out j h else by rw [show j = k by omega, HXK.out]; exact hf)
        rw [hf] at HIV
        clear hf
        go_wp2_with fail
        refine (HIV.out _).mono ?_
        rintro e w1 ⟨rfl, hb1⟩
        have HB3 := hide (HB2.out.trans (hb1.mono HB2.out.size))
        clear hb1 d0 d1 d2 d3 e0 e1 e2 e3
        go_wp2_with fail
        go_roundw
        case rel => exact ⟨k + 1, by omega, by go_num, HV2, HB3.out⟩
        case measure => simp [intOf]; omega
    · have HVV := hide (show alV X n from fun j hj => HV.out j (by omega))
      clear HV
      go_wp2_with fail
      go_loopw [27] (fun i wr => PeRel2 w X n i wr) (fun i _ => n - (intOf i).toNat)
      case atStart => exact ⟨0, Nat.zero_le _, rfl, hide (fun j hj => absurd hj (by omega)), HB.out⟩
      case round =>
        clear HB hlt hk
        obtain ⟨k, hk, rfl, hv, hb⟩ := hrel
        have HV := hv
        have HB := hide hb
        clear hv hb
        by_cases hlt : k < n
        · obtain ⟨e0, e1, e2, e3⟩ := HC.out wr HB.out k hlt
          obtain ⟨i0, hi0⟩ : ∃ m, (X k).i = m := ⟨_, rfl⟩
          obtain ⟨c0, hc0⟩ : ∃ m, (X k).c = m := ⟨_, rfl⟩
          obtain ⟨p0, hp0⟩ : ∃ m, (X k).p = m := ⟨_, rfl⟩
          obtain ⟨s, hse⟩ : ∃ s, (X k).t = s := ⟨_, rfl⟩
          rw [hi0] at e0
          rw [hc0] at e1
          rw [hp0] at e2
          rw [hse] at e3
          have HP := hide (Box4.start wr 26 i0 c0 p0 s)
          have HB2 := hide (HB.out.trans (HP.out.2.mono HB.out.size))
          have HCZ := hide (fun (wx : World) (hx : Below w.heap.size w wx) => show wx.cell? ⟨b, off + 1, none⟩ = some (.int .i64 (X 0).c) ∧ wx.cell? ⟨b, off + 2, none⟩ = some (.int .i64 (X 0).p) from by
            obtain ⟨_, q1, q2, _⟩ := HC.out wx hx 0 (by omega)
            simp only [Nat.zero_mul, Nat.add_zero] at q1 q2
            exact ⟨q1, q2⟩)
          have HXC := hide (show (X k).c = c0 ∧ (X k).p = p0 from ⟨hc0, hp0⟩)
          obtain ⟨cz, hcz⟩ : ∃ m, (X 0).c = m := ⟨_, rfl⟩
          obtain ⟨pz, hpz⟩ : ∃ m, (X 0).p = m := ⟨_, rfl⟩
          have HEQ := hide (fun (h : c0 = cz ∧ p0 = pz) (j : Nat) (hj : j < k + 1) => show (X j).c = (X 0).c ∧ (X j).p = (X 0).p from if h' : j < k then HV.out j h' else by rw [show j = k by omega, HXC.out.1, HXC.out.2, hcz, hpz]; exact h)
          have HNE := hide (fun (h : ¬ (c0 = cz ∧ p0 = pz)) => HNO.out HVV.out (fun g => h (by have := g k hlt; rw [HXC.out.1, HXC.out.2, hcz, hpz] at this; exact this)))
          simp only [hcz, hpz] at HCZ
          clear hi0 hc0 hp0 hse hcz hpz
          obtain ⟨wp, hwp⟩ : ∃ wp, wr.alloc (.cells #[.int .i64 i0, .int .i64 c0, .int .i64 p0, .string s] 26) = wp := ⟨_, rfl⟩
          rw [hwp] at HP HB2
          obtain ⟨d0, d1, d2, d3⟩ := HP.out.cells
          obtain ⟨z1, z2⟩ := HCZ.out wp HB2.out
          by_cases hq1 : c0 = cz
          · by_cases hq2 : p0 = pz
            · have HV2 := hide (HEQ.out ⟨hq1, hq2⟩)
              subst hq1 hq2
              have n1 : (c0 != c0) = false := by simp
              have n2 : (p0 != p0) = false := by simp
              go_wp2_with fail
              clear hwp
              go_region_held3 (fun w' => (w'.cell? ⟨wr.heap.size, 0, none⟩ = some (.int .i64 i0) ∧ w'.cell? ⟨wr.heap.size, 1, none⟩ = some (.int .i64 c0) ∧ w'.cell? ⟨wr.heap.size, 2, none⟩ = some (.int .i64 p0) ∧ w'.cell? ⟨wr.heap.size, 3, none⟩ = some (.string s)) ∧ (w'.cell? ⟨b, off + 1, none⟩ = some (.int .i64 c0) ∧ w'.cell? ⟨b, off + 2, none⟩ = some (.int .i64 p0)))
                (exact ⟨HP.out.drew.cells, HCZ.out _ HB2.out.drew⟩) (fail)
              go_wp2_with fail
              go_roundw
              case rel => exact ⟨k + 1, by omega, by go_num, HV2, HB2.out.drew⟩
              case measure => simp [intOf]; omega
            · have HE := hide (HNE.out (fun h => hq2 h.2))
              subst hq1
              have n1 : (c0 != c0) = false := by simp
              have n2 : (p0 != pz) = true := by simpa using hq2
              go_wp2_with fail
              clear hwp
              go_region_held3 (fun w' => (w'.cell? ⟨wr.heap.size, 0, none⟩ = some (.int .i64 i0) ∧ w'.cell? ⟨wr.heap.size, 1, none⟩ = some (.int .i64 c0) ∧ w'.cell? ⟨wr.heap.size, 2, none⟩ = some (.int .i64 p0) ∧ w'.cell? ⟨wr.heap.size, 3, none⟩ = some (.string s)) ∧ (w'.cell? ⟨b, off + 1, none⟩ = some (.int .i64 c0) ∧ w'.cell? ⟨b, off + 2, none⟩ = some (.int .i64 pz)))
                (exact ⟨HP.out.drew.cells, HCZ.out _ HB2.out.drew⟩) (fail)
              go_wp2_with fail
              go_ret
              exact ⟨ret_int HE.out, HB2.out.drew⟩
          · have HE := hide (HNE.out (fun h => hq1 h.1))
            have n1 : (c0 != cz) = true := by simpa using hq1
            go_wp2_with fail
            clear hwp
            go_quiet (fail)
            go_wp2_with fail
            go_ret
            exact ⟨ret_int HE.out, below_drewN HB2.out _⟩
        · have HE := hide (HOK.out HVV.out (fun j hj => HV.out j (by omega)))
          go_wp2_with fail
          go_ret
          exact ⟨ret_int HE.out, HB.out⟩
end Go.Proofs.Ythbmfaogjaahoaa

namespace Go.Proofs.Ythbmfaogjaahoaa
open Go Go.RowKit
set_option linter.unusedSimpArgs false
set_option linter.unusedVariables false

/-- A new map of the texts. -/
def NewM (X : Nat → PtV) (n : Nat) (w : World) (x : Ending) (w' : World) : Prop :=
  ∃ b, x = .returned (.map (some b)) ∧ w.heap.size ≤ b ∧ MapF w' b (txF X n) (mF X n) ∧ Below w.heap.size w w'
def TxRel (w : World) (X : Nat → PtV) (n : Nat) (i : Value) (wr : World) : Prop := ∃ k : Nat, k ≤ n ∧ i = .int .i64 k ∧ MapF wr w.heap.size (txF X k) (mF X k) ∧ Below w.heap.size w wr

set_option maxRecDepth 100000 in
set_option maxHeartbeats 2000000 in
theorem implTx (A : Option Addr) (n c B : Nat) (X : Nat → PtV) (w : World) (hI : Pts w B A n X) (hB : B ≤ w.heap.size) (h1 : 1 ≤ n) (h8 : n ≤ 8) (hV : alV X n) :
    Calls Try.prog 63 #[.slice A n c] w (NewM X n w) := by
  obtain ⟨b, off, rfl, hbb, hc⟩ := hI (by omega)
  have HC := hide (ptB_of hbb hB hc)
  have HV := hide hV
  have HM := hide (MapF.made w)
  have HB := hide ((Below.refl w.heap.size w).alloc (Nat.le_refl _) (.map #[] 0))
  clear hI hbb hc hV
  have hmk : (Instr.makeMap 91 none).run Try.prog w = .ok (.map (some w.heap.size)) (w.alloc (.map #[] 0)) := by rfl
  go_enter Try.func63, Try.ntmps63
  go_wp2_with fail
  clear hmk
  go_loopw [9] (fun i wr => TxRel w X n i wr) (fun i _ => n - (intOf i).toNat)
  case atStart => exact ⟨0, Nat.zero_le _, rfl, HM.out, HB.out⟩
  case round =>
    clear HM HB
    obtain ⟨k, hk, rfl, hm, hb⟩ := hrel
    have HM := hide hm
    have HB := hide hb
    clear hm hb
    by_cases hlt : k < n
    · obtain ⟨e0, e1, e2, e3⟩ := HC.out wr HB.out k hlt
      obtain ⟨_, ⟨hi1, hi2⟩, _, _⟩ := isPt_yes (HV.out k hlt)
      have hc8 := (isPt_yes (HV.out k hlt)).1.2
      have HT1 := hide (show txF X (k + 1) = updF (txF X k) (X k).i (some (X k).t) from rfl)
      have HT2 := hide (show mF X (k + 1) = if txF X k (X k).i = none then mF X k + 1 else mF X k from rfl)
      obtain ⟨i0, hi0⟩ : ∃ m, (X k).i = m := ⟨_, rfl⟩
      obtain ⟨c0, hc0⟩ : ∃ m, (X k).c = m := ⟨_, rfl⟩
      obtain ⟨p0, hp0⟩ : ∃ m, (X k).p = m := ⟨_, rfl⟩
      obtain ⟨s, hse⟩ : ∃ s, (X k).t = s := ⟨_, rfl⟩
      rw [hi0] at e0 hi1 hi2 HT1 HT2
      rw [hc0] at e1 hi2 hc8
      rw [hp0] at e2
      rw [hse] at e3 HT1
      have hwf : (Lit.int .i64 i0).wf = true := by simp [Lit.wf, IntKind.min, IntKind.max, IntKind.signed, IntKind.bits]; omega
      have HP := hide (Box4.start wr 26 i0 c0 p0 s)
      have HB2 := hide (HB.out.trans (HP.out.2.mono HB.out.size))
      have HM2 := hide (HM.out.next HP.out.2)
      obtain ⟨wp, hwp⟩ : ∃ wp, wr.alloc (.cells #[.int .i64 i0, .int .i64 c0, .int .i64 p0, .string s] 26) = wp := ⟨_, rfl⟩
      rw [hwp] at HP HB2 HM2
      obtain ⟨d0, d1, d2, d3⟩ := HP.out.cells
      obtain ⟨w3, hrun, hm3, hg3⟩ := HM2.out.put hwf s
      rw [← HT1.out, ← HT2.out] at hm3
      have HM3 := hide hm3
      have HB3 := hide (HB2.out.grown hg3 HB2.out.size (fun g hg => by cases hg; exact Nat.le_refl _))
      clear hi0 hc0 hp0 hse hm3 hg3 hwf hi1 hi2 hc8
      go_wp2_with fail
      go_roundw
      case rel => exact ⟨k + 1, by omega, by go_num, HM3.out, HB3.out⟩
      case measure => simp [intOf]; omega
    · obtain rfl : k = n := by omega
      have HF := hide (show NewM X k w (.returned (.map (some w.heap.size))) wr from ⟨_, rfl, Nat.le_refl _, HM.out, HB.out⟩)
      go_wp2_with fail
      go_ret
      exact HF.out

theorem MapF.belowB {w w' : World} {b m B : Nat} {f : Int → Option ByteArray} (h : MapF w b f m) (hb : Below B w w') (hB : b < B) : MapF w' b f m := by
  obtain ⟨en, clock, hb0, h1⟩ := h
  exact ⟨en, clock, by rw [hb.block b hB]; exact hb0, h1⟩
theorem Bld.grownB {B b g : Nat} {l : List UInt8} {w w' : World} (h : Bld B b l w) (hg : w.grownBy w' (some g)) (hB : g < B) : Bld B b l w' := by
  have key : ∀ p, Lib.BuilderAtF 120 5 B b p (Lib.byteCells l) w → Lib.BuilderAtF 120 5 B b p (Lib.byteCells l) w' := by
    rintro p ⟨hB', v, hbk, hown, hne⟩
    refine ⟨hB', v, ?_, World.ownsRowF.kept hown hg ?_, hne⟩
    · rw [hg.block b (Array.getElem?_eq_some_iff.1 hbk).1 (by simp; omega)]; exact hbk
    · rcases hv : v.ownBlock with _ | x
      · exact .inl rfl
      · refine .inr fun e => ?_
        cases e
        have := World.ownsRowF.lt hown _ hv
        omega
  exact h.elim (fun x => .inl (key _ x)) (fun x => .inr (key _ x))
/-- A map that holds the texts T k .. T (m - 1) at the keys k .. m - 1. -/
def rgF (T : Nat → ByteArray) (k m : Nat) (x : Int) : Option ByteArray := if (k : Int) ≤ x ∧ x < (m : Int) then some (T x.toNat) else none
theorem rgF_at {T : Nat → ByteArray} {k m : Nat} (h : k < m) : rgF T k m (k : Int) = some (T k) := by unfold rgF; rw [if_pos ⟨by omega, by omega⟩]; simp
theorem rgF_del {T : Nat → ByteArray} {k m : Nat} (x : Int) : rgF T (k + 1) m x = updF (rgF T k m) (k : Int) none x := by
  simp only [rgF, updF]
  by_cases h : x = (k : Int)
  · rw [if_neg (by omega), if_pos h]
  · rw [if_neg h]
    by_cases h2 : (k : Int) ≤ x ∧ x < (m : Int)
    · rw [if_pos h2, if_pos (by omega)]
    · rw [if_neg h2, if_neg (by omega)]
def JtRel (w : World) (b g m : Nat) (T : Nat → ByteArray) (i : Value) (wr : World) : Prop :=
  ∃ k : Nat, k ≤ m ∧ i = .int .i64 k ∧ MapF wr b (rgF T k m) (m - k) ∧ Bld g g (jn T k).data.toList wr ∧ Below b w wr

set_option maxRecDepth 100000 in
set_option maxHeartbeats 2000000 in
theorem implJt (b m : Nat) (T : Nat → ByteArray) (w : World) (hM : MapF w b (rgF T 0 m) m) (hm : m ≤ 8) (hT : ∀ j, j < m → (T j).size ≤ 400) :
    Calls Try.prog 64 #[.map (some b)] w fun e w' => e = .returned (.string (jn T m)) ∧ Below b w w' := by
  have hlt0 := hM.lt
  have HLT := hide hlt0
  have HBL := hide (bld_new w)
  have HB := hide ((Below.refl b w).alloc (Nat.le_of_lt hlt0) (.cells #[.pointer none, .slice none 0 0] 120))
  have HM := hide (hM.alloc (.cells #[.pointer none, .slice none 0 0] 120))
  have HT := hide hT
  have HSZ := hide (show ∀ k, k ≤ m → (jn T k).size ≤ 400 * k from by
    intro k
    induction k with
    | zero => intro _; exact Nat.le_refl _
    | succ k ih => intro hk; rw [jn_size]; have := ih (by omega); have := hT k (by omega); omega)
  clear hM hT hlt0
  obtain ⟨J, hJ⟩ : ∃ J, jn T m = J := ⟨_, rfl⟩
  rw [hJ]
  have HJJ := hide hJ
  clear hJ
  go_enter Try.func64, Try.ntmps64
  go_wp2_with fail
  go_loopw [4] (fun i wr => JtRel w b w.heap.size m T i wr) (fun i _ => m - (intOf i).toNat)
  case atStart => exact ⟨0, Nat.zero_le _, rfl, HM.out, HBL.out, HB.out⟩
  case round =>
    clear HM HB HBL
    obtain ⟨k, hk, rfl, hmp, hbl, hb⟩ := hrel
    have HM := hide hmp
    have HBL := hide hbl
    have HB := hide hb
    clear hmp hbl hb
    have hlen := HM.out.len 3
    have hwf : (Lit.int .i64 (k : Int)).wf = true := by simp [Lit.wf, IntKind.min, IntKind.max, IntKind.signed, IntKind.bits]; omega
    obtain ⟨q, hq⟩ : ∃ q, m - k = q := ⟨_, rfl⟩
    rw [hq] at hlen
    by_cases hlt : k < m
    · have hq0 : 0 < (q : Int) := by omega
      have hlook := HM.out.look false hwf
      rw [rgF_at hlt] at hlook
      simp only [Option.getD_some] at hlook
      have HJ1 := hide (jn_list T k)
      have hs := HT.out k hlt
      have hjs := HSZ.out k (by omega)
      have hgw : w.heap.size < wr.heap.size := by rcases HBL.out with h3 | h3 <;> exact Lib.BuilderAtF.lt h3
      obtain ⟨s, hse⟩ : ∃ s, T k = s := ⟨_, rfl⟩
      rw [hse] at hlook HJ1 hs
      have HWR := hide (bld_write w.heap.size w.heap.size (jn T k).data.toList s wr HBL.out (by show (jn T k).size ≤ _; omega) (by omega) (by omega))
      have HWF := hide hwf
      clear hse hs hjs
      go_wp2_with fail
      refine HWR.out.mono ?_
      rintro e w2 ⟨rfl, hbl2, hb2⟩
      have HBL2 := hide (show Bld w.heap.size w.heap.size (jn T (k + 1)).data.toList w2 by rw [HJ1.out]; exact hbl2)
      have HM2 := hide (HM.out.belowB hb2 HLT.out)
      have HB2 := hide (HB.out.trans (hb2.mono (Nat.le_of_lt HLT.out)))
      clear hbl2 hb2 HWR hlook hlen hwf
      obtain ⟨w3, hrun, hm3, hg3⟩ := HM2.out.del HWF.out 0
      rw [rgF_at hlt, if_neg (by simp)] at hm3
      have HM3 := hide (show MapF w3 b (rgF T (k + 1) m) (m - (k + 1)) by
        have h := hm3.congr (g := rgF T (k + 1) m) rgF_del
        rw [show m - (k + 1) = m - k - 1 by omega]; exact h)
      have HBL3 := hide (HBL2.out.grownB hg3 HLT.out)
      have HB3 := hide (HB2.out.grown hg3 (by have := HB2.out.size; have := HLT.out; omega) (fun g hg => by cases hg; exact Nat.le_refl _))
      clear hm3 hg3
      go_wp2_with fail
      go_roundw
      case rel => exact ⟨k + 1, by omega, by go_num, HM3.out, HBL3.out, HB3.out⟩
      case measure => simp [intOf]; omega
    · obtain rfl : k = m := by omega
      obtain rfl : q = 0 := by omega
      have hgw : w.heap.size < wr.heap.size := by rcases HBL.out with h3 | h3 <;> exact Lib.BuilderAtF.lt h3
      have HST := hide (bld_string w.heap.size w.heap.size (jn T k).data.toList wr HBL.out (by omega))
      have HQ := hide (show (⟨(jn T k).data.toList.toArray⟩ : ByteArray) = jn T k by simp)
      rw [HQ.out, HJJ.out] at HST
      clear HQ
      go_wp2_with fail
      refine HST.out.mono ?_
      rintro e w2 ⟨rfl, _, hb2⟩
      have HB2 := hide (HB.out.trans (hb2.mono (Nat.le_of_lt HLT.out)))
      clear hb2
      go_wp2_with fail
      go_ret
      exact ⟨rfl, HB2.out⟩
end Go.Proofs.Ythbmfaogjaahoaa

namespace Go.Proofs.Ythbmfaogjaahoaa
open Go Go.RowKit
set_option linter.unusedSimpArgs false
set_option linter.unusedVariables false

/-- The texts of the parts with an index, in their order. -/
def lsF (X : Nat → PtV) : Nat → Int → List ByteArray
  | 0, _ => []
  | j + 1, k => if (X j).i = k then lsF X j k ++ [(X j).t] else lsF X j k
theorem ls_yes {X : Nat → PtV} {j : Nat} {k : Int} (h : (X j).i = k) : lsF X (j + 1) k = lsF X j k ++ [(X j).t] := by rw [lsF, if_pos h]
theorem ls_no {X : Nat → PtV} {j : Nat} {k : Int} (h : (X j).i ≠ k) : lsF X (j + 1) k = lsF X j k := by rw [lsF, if_neg h]
theorem tx_ls (X : Nat → PtV) (k : Int) : ∀ n, txF X n k = (lsF X n k).getLast? := by
  intro n
  induction n with
  | zero => rfl
  | succ n ih =>
    show updF (txF X n) (X n).i (some (X n).t) k = _
    unfold updF
    by_cases h : (X n).i = k
    · rw [if_pos h.symm, ls_yes h]; simp
    · rw [if_neg (Ne.symm h), ls_no h, ih]
theorem tx_none {X : Nat → PtV} {k : Int} {n : Nat} : txF X n k = none ↔ lsF X n k = [] := by rw [tx_ls]; simp
/-- Sums. -/
def sumT (g : Nat → Nat) : Nat → Nat
  | 0 => 0
  | c + 1 => sumT g c + g c
theorem sumT_congr {g g' : Nat → Nat} : ∀ c, (∀ k, k < c → g k = g' k) → sumT g c = sumT g' c := by
  intro c
  induction c with
  | zero => intro _; rfl
  | succ c ih => intro h; rw [sumT, sumT, ih (fun k hk => h k (by omega)), h c (by omega)]
theorem sumT_one {g g' : Nat → Nat} {k0 : Nat} (h : ∀ k, g' k = if k = k0 then g k + 1 else g k) : ∀ c, sumT g' c = if k0 < c then sumT g c + 1 else sumT g c := by
  intro c
  induction c with
  | zero => rfl
  | succ c ih =>
    rw [sumT, sumT, ih, h c]
    by_cases h1 : c = k0
    · subst h1; rw [if_neg (by omega), if_pos rfl, if_pos (by omega)]; omega
    · rw [if_neg h1]
      by_cases h2 : k0 < c
      · rw [if_pos h2, if_pos (by omega)]; omega
      · rw [if_neg h2, if_neg (by omega)]
theorem sumT_le {u : Nat → Nat} : ∀ c, (∀ k, k < c → u k ≤ 1) → sumT u c ≤ c := by
  intro c
  induction c with
  | zero => intro _; exact Nat.le_refl _
  | succ c ih => intro h; have := ih (fun k hk => h k (by omega)); have := h c (by omega); rw [sumT]; omega
theorem sumT_full {u : Nat → Nat} : ∀ c, (∀ k, k < c → u k ≤ 1) → sumT u c = c → ∀ k, k < c → u k = 1 := by
  intro c
  induction c with
  | zero => intro _ _ k hk; omega
  | succ c ih =>
    intro h he k hk
    have h1 := sumT_le c (fun k hk => h k (by omega))
    have h2 := h c (by omega)
    rw [sumT] at he
    by_cases hkc : k = c
    · subst hkc; omega
    · exact ih (fun k hk => h k (by omega)) (by omega) k (by omega)
theorem sumT_ge {g : Nat → Nat} : ∀ c, (∀ k, k < c → 1 ≤ g k) → c ≤ sumT g c := by
  intro c
  induction c with
  | zero => intro _; exact Nat.le_refl _
  | succ c ih => intro h; have := ih (fun k hk => h k (by omega)); have := h c (by omega); rw [sumT]; omega
theorem sumT_ones {g : Nat → Nat} : ∀ c, (∀ k, k < c → 1 ≤ g k) → sumT g c = c → ∀ k, k < c → g k = 1 := by
  intro c
  induction c with
  | zero => intro _ _ k hk; omega
  | succ c ih =>
    intro h he k hk
    have h1 := sumT_ge c (fun k hk => h k (by omega))
    have h2 := h c (by omega)
    rw [sumT] at he
    by_cases hkc : k = c
    · subst hkc; omega
    · exact ih (fun k hk => h k (by omega)) (by omega) k (by omega)
theorem sumT_all {g : Nat → Nat} : ∀ c, (∀ k, k < c → g k = 1) → sumT g c = c := by
  intro c
  induction c with
  | zero => intro _; rfl
  | succ c ih => intro h; rw [sumT, ih (fun k hk => h k (by omega)), h c (by omega)]
/-- All indices lie below C. -/
def alI (X : Nat → PtV) (n C : Nat) : Prop := ∀ j, j < n → 0 ≤ (X j).i ∧ (X j).i < (C : Int)
theorem sum_len {X : Nat → PtV} {C : Nat} : ∀ n, alI X n C → sumT (fun k => (lsF X n (k : Int)).length) C = n := by
  intro n
  induction n with
  | zero =>
    intro _
    have h : ∀ c, sumT (fun k => (lsF X 0 (k : Int)).length) c = 0 := by
      intro c
      induction c with
      | zero => rfl
      | succ c ih => rw [sumT, ih]; rfl
    exact h C
  | succ n ih =>
    intro h
    obtain ⟨h0, h1⟩ := h n (by omega)
    have hs := sumT_one (g := fun k => (lsF X n (k : Int)).length) (g' := fun k => (lsF X (n + 1) (k : Int)).length) (k0 := (X n).i.toNat) (fun k => by
      show (lsF X (n + 1) (k : Int)).length = if k = (X n).i.toNat then (lsF X n (k : Int)).length + 1 else (lsF X n (k : Int)).length
      by_cases hk : k = (X n).i.toNat
      · rw [if_pos hk, ls_yes (by omega)]; simp
      · rw [if_neg hk, ls_no (by omega)]) C
    rw [hs, if_pos (by omega), ih (fun j hj => h j (by omega))]
theorem sum_cnt {X : Nat → PtV} {C : Nat} : ∀ n, alI X n C → sumT (fun k => if lsF X n (k : Int) = [] then 0 else 1) C = mF X n := by
  intro n
  induction n with
  | zero =>
    intro _
    have h : ∀ c, sumT (fun k => if lsF X 0 (k : Int) = [] then 0 else 1) c = 0 := by
      intro c
      induction c with
      | zero => rfl
      | succ c ih => rw [sumT, ih]; rfl
    exact h C
  | succ n ih =>
    intro h
    obtain ⟨h0, h1⟩ := h n (by omega)
    rw [mF]
    by_cases hn : txF X n (X n).i = none
    · rw [if_pos hn]
      rw [tx_none] at hn
      have hs := sumT_one (g := fun k => if lsF X n (k : Int) = [] then 0 else 1) (g' := fun k => if lsF X (n + 1) (k : Int) = [] then 0 else 1) (k0 := (X n).i.toNat) (fun k => by
        show (if lsF X (n + 1) (k : Int) = [] then 0 else 1) = if k = (X n).i.toNat then (if lsF X n (k : Int) = [] then 0 else 1) + 1 else (if lsF X n (k : Int) = [] then 0 else 1)
        by_cases hk : k = (X n).i.toNat
        · have he : (X n).i = (k : Int) := by omega
          rw [if_pos hk, ls_yes he, ← he, hn]; rfl
        · rw [if_neg hk, ls_no (by omega)]) C
      rw [hs, if_pos (by omega), ih (fun j hj => h j (by omega))]
    · rw [if_neg hn, ← ih (fun j hj => h j (by omega))]
      refine sumT_congr C fun k hk => ?_
      by_cases hk' : (X n).i = (k : Int)
      · have hne : lsF X n (k : Int) ≠ [] := by rw [← hk']; rwa [tx_none] at hn
        rw [ls_yes hk', if_neg (by simp), if_neg hne]
      · rw [ls_no hk']
/-- There is one part for each index. -/
def oneEach (X : Nat → PtV) (n C : Nat) : Prop := ∀ k, k < C → (lsF X n (k : Int)).length = 1
theorem one_each {X : Nat → PtV} {n C : Nat} (h : alI X n C) : (n = C ∧ mF X n = C) ↔ oneEach X n C := by
  have h1 := sum_len n h
  have h2 := sum_cnt n h
  constructor
  · rintro ⟨e1, e2⟩
    have hu := sumT_full C (u := fun k => if lsF X n (k : Int) = [] then 0 else 1) (fun k _ => by show (if _ then 0 else 1) ≤ 1; split <;> omega) (by rw [h2, e2])
    refine sumT_ones C (fun k hk => ?_) (by rw [h1, e1])
    have h3 : (if lsF X n (k : Int) = [] then 0 else 1) = 1 := hu k hk
    split at h3
    · cases h3
    · exact List.length_pos_iff.2 ‹_›
  · intro ho
    refine ⟨?_, ?_⟩
    · rw [← h1]; exact sumT_all C ho
    · rw [← h2]
      refine sumT_all C fun k hk => ?_
      have := ho k hk
      rw [if_neg (fun e => by rw [e] at this; cases this)]
/-- The text at an index. -/
def txK (X : Nat → PtV) (n : Nat) (k : Nat) : ByteArray := (lsF X n (k : Int)).headD ⟨#[]⟩
theorem one_txt {X : Nat → PtV} {n C k : Nat} (h : oneEach X n C) (hk : k < C) : lsF X n (k : Int) = [txK X n k] := by
  have h1 := h k hk
  unfold txK
  match hl : lsF X n (k : Int), h1 with
  | [a], _ => rfl
theorem ls_out {X : Nat → PtV} {C : Nat} {x : Int} (hx : ¬ (0 ≤ x ∧ x < (C : Int))) : ∀ n, alI X n C → lsF X n x = [] := by
  intro n
  induction n with
  | zero => intro _; rfl
  | succ n ih =>
    intro h
    rw [ls_no (fun e => hx (by rw [← e]; exact h n (by omega)))]
    exact ih (fun j hj => h j (by omega))
theorem one_rg {X : Nat → PtV} {n C : Nat} (h : alI X n C) (ho : oneEach X n C) (x : Int) : rgF (txK X n) 0 C x = txF X n x := by
  rw [tx_ls]
  unfold rgF
  by_cases hx : 0 ≤ x ∧ x < (C : Int)
  · rw [if_pos ⟨by omega, hx.2⟩]
    obtain ⟨k, rfl⟩ : ∃ k : Nat, x = k := ⟨x.toNat, by omega⟩
    rw [one_txt ho (by omega)]; simp
  · rw [if_neg (by omega), ls_out hx n h]; rfl
theorem ls_mem {X : Nat → PtV} {x : Int} {s : ByteArray} : ∀ n, s ∈ lsF X n x → ∃ j, j < n ∧ (X j).i = x ∧ (X j).t = s := by
  intro n
  induction n with
  | zero => intro h; simp [lsF] at h
  | succ n ih =>
    intro h
    by_cases he : (X n).i = x
    · rw [ls_yes he] at h
      rcases List.mem_append.1 h with h | h
      · obtain ⟨j, hj, h1⟩ := ih h
        exact ⟨j, by omega, h1⟩
      · exact ⟨n, by omega, he, (List.mem_singleton.1 h).symm⟩
    · rw [ls_no he] at h
      obtain ⟨j, hj, h1⟩ := ih h
      exact ⟨j, by omega, h1⟩
theorem al_idx {X : Nat → PtV} {n : Nat} (h1 : 1 ≤ n) (hv : alV X n) (he : alE X n) : alI X n (X 0).c.toNat ∧ (X 0).c = ((X 0).c.toNat : Int) ∧ 1 ≤ (X 0).c.toNat ∧ (X 0).c.toNat ≤ 8 := by
  obtain ⟨⟨c1, c2⟩, _⟩ := isPt_yes (hv 0 (by omega))
  refine ⟨fun j hj => ?_, by omega, by omega, by omega⟩
  obtain ⟨_, ⟨i1, i2⟩, _⟩ := isPt_yes (hv j hj)
  have := (he j hj).1
  omega

/-- What is missing. -/
def msL (X : Nat → PtV) (n : Nat) (C : Nat) : List Int := ((List.range C).filter fun (k : Nat) => (lsF X n (k : Int)).isEmpty).map fun (k : Nat) => (k : Int)
theorem ms_step (X : Nat → PtV) (n C : Nat) : msL X n (C + 1) = if lsF X n (C : Int) = [] then msL X n C ++ [(C : Int)] else msL X n C := by
  unfold msL
  rw [List.range_succ, List.filter_append, List.map_append]
  by_cases h : lsF X n (C : Int) = []
  · rw [if_pos h]; simp [h]
  · rw [if_neg h]
    have : (lsF X n (C : Int)).isEmpty = false := by simpa using h
    simp [this]
theorem ms_len (X : Nat → PtV) (n : Nat) : ∀ C, (msL X n C).length ≤ C := by
  intro C
  induction C with
  | zero => exact Nat.le_refl _
  | succ C ih =>
    rw [ms_step]
    split
    · rw [List.length_append, List.length_singleton]; omega
    · omega
/-- MissingParts and JoinParts. -/
noncomputable def mpL (X : Nat → PtV) (n : Nat) : List Int := if peC X n = 0 then msL X n (X 0).c.toNat else []
noncomputable def jnT (X : Nat → PtV) (n : Nat) : ByteArray := jn (txK X n) (X 0).c.toNat
open Classical in
noncomputable def jpC (X : Nat → PtV) (n : Nat) : Int :=
  if peC X n = 0 then (if oneEach X n (X 0).c.toNat then (if parI (bytesI (jnT X n)) = (X 0).p then (if (jnT X n).size ≤ 400 then 0 else 3) else 7) else 5) else peC X n
open Classical in
noncomputable def jpT (X : Nat → PtV) (n : Nat) : ByteArray := if jpC X n = 0 then jnT X n else ⟨#[]⟩
theorem jp_pe {X : Nat → PtV} {n : Nat} (h : peC X n ≠ 0) : jpC X n = peC X n ∧ jpT X n = ⟨#[]⟩ := by
  have e : jpC X n = peC X n := by unfold jpC; rw [if_neg h]
  exact ⟨e, by unfold jpT; rw [e, if_neg h]⟩
theorem jp_one {X : Nat → PtV} {n : Nat} (h : peC X n = 0) (h2 : ¬ oneEach X n (X 0).c.toNat) : jpC X n = 5 ∧ jpT X n = ⟨#[]⟩ := by
  have e : jpC X n = 5 := by unfold jpC; rw [if_pos h, if_neg h2]
  exact ⟨e, by unfold jpT; rw [e]; simp⟩
theorem jp_par {X : Nat → PtV} {n : Nat} (h : peC X n = 0) (h2 : oneEach X n (X 0).c.toNat) (h3 : parI (bytesI (jnT X n)) ≠ (X 0).p) : jpC X n = 7 ∧ jpT X n = ⟨#[]⟩ := by
  have e : jpC X n = 7 := by unfold jpC; rw [if_pos h, if_pos h2, if_neg h3]
  exact ⟨e, by unfold jpT; rw [e]; simp⟩
theorem jp_long {X : Nat → PtV} {n : Nat} (h : peC X n = 0) (h2 : oneEach X n (X 0).c.toNat) (h3 : parI (bytesI (jnT X n)) = (X 0).p) (h4 : ¬ (jnT X n).size ≤ 400) : jpC X n = 3 ∧ jpT X n = ⟨#[]⟩ := by
  have e : jpC X n = 3 := by unfold jpC; rw [if_pos h, if_pos h2, if_pos h3, if_neg h4]
  exact ⟨e, by unfold jpT; rw [e]; simp⟩
theorem jp_ok {X : Nat → PtV} {n : Nat} (h : peC X n = 0) (h2 : oneEach X n (X 0).c.toNat) (h3 : parI (bytesI (jnT X n)) = (X 0).p) (h4 : (jnT X n).size ≤ 400) : jpC X n = 0 ∧ jpT X n = jnT X n := by
  have e : jpC X n = 0 := by unfold jpC; rw [if_pos h, if_pos h2, if_pos h3, if_pos h4]
  exact ⟨e, by unfold jpT; rw [e]; simp⟩
theorem jnT_le {X : Nat → PtV} {n : Nat} (h : peC X n = 0) (h2 : oneEach X n (X 0).c.toNat) : (∀ k, k < (X 0).c.toNat → (txK X n k).size ≤ 400) ∧ (jnT X n).size ≤ 3200 := by
  obtain ⟨h1, hv, he⟩ := pe_yes h
  obtain ⟨hi, _, _, hc8⟩ := al_idx h1.1 hv he
  have hT : ∀ k, k < (X 0).c.toNat → (txK X n k).size ≤ 400 := fun k hk => by
    obtain ⟨j, hj, _, e⟩ := ls_mem n (show txK X n k ∈ lsF X n (k : Int) by rw [one_txt h2 hk]; simp)
    rw [← e]; exact (isPt_yes (hv j hj)).2.2.2
  have hs : ∀ m, m ≤ (X 0).c.toNat → (jn (txK X n) m).size ≤ 400 * m := by
    intro m
    induction m with
    | zero => intro _; exact Nat.le_refl _
    | succ m ih => intro hm; rw [jn_size]; have := ih (by omega); have := hT m (by omega); omega
  exact ⟨hT, by have := hs _ (Nat.le_refl _); unfold jnT; omega⟩
end Go.Proofs.Ythbmfaogjaahoaa
