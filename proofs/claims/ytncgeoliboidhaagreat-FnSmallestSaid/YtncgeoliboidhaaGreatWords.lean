/-
  Words for memory that every proof of this seat shares: a slice that reads as a list of integers, and a row that a call owns.
  No condition: these are plain definitions and lemmas.
-/
import Derived.WalkKit
import Derived.Below
import Derived.Lib.Hide
import Derived.Deep.Draws
import Derived.OwnWalk
import Derived.RegionTactic
import Derived.Laws.BitsAllLaws
import Derived.Laws.BitsLemmas
import Derived.Laws.BytesString
import Derived.Laws.Cells
namespace Go.Proofs.YtncgeoliboidhaaGreat
open Go.RowKit

theorem ret_bool {a b : Bool} (h : b = a) : Ending.returned (.bool a) = .returned (.bool b) := by rw [h]
theorem ret_int {k : IntKind} {a b : Int} (h : b = a) : Ending.returned (.int k a) = .returned (.int k b) := by rw [h]
theorem ret_ii {k k' : IntKind} {a b c d : Int} (h : c = a) (h' : d = b) : Ending.returned (.tuple #[.int k a, .int k' b]) = .returned (.tuple #[.int k c, .int k' d]) := by rw [h, h']
theorem ret_vi {v : Value} {k' : IntKind} {b d : Int} (h' : d = b) : Ending.returned (.tuple #[v, .int k' b]) = .returned (.tuple #[v, .int k' d]) := by rw [h']
theorem xor00 : bits .xor .i64 0 0 = 0 := by decide
theorem xor01 : bits .xor .i64 0 1 = 1 := by decide
theorem xor10 : bits .xor .i64 1 0 = 1 := by decide
theorem xor11 : bits .xor .i64 1 1 = 0 := by decide
theorem i64Nat (a : Nat) (ha : a < 9223372036854775808) : (BitVec.ofInt 64 (a : Int)).toNat = a := by
  rw [BitVec.ofInt_natCast, BitVec.toNat_ofNat]; exact Nat.mod_eq_of_lt (by omega)
/-- The lowest bit of an int64 that is not negative. -/
theorem and1 (q : Int) (h0 : 0 ≤ q) (h1 : q ≤ 9223372036854775807) : bits .and .i64 q 1 = q % 2 := by
  obtain ⟨a, rfl⟩ := Int.eq_ofNat_of_zero_le h0
  have ha : a < 9223372036854775808 := by omega
  show IntKind.i64.wrap ((BitVec.ofInt 64 (a : Int) &&& BitVec.ofInt 64 ((1 : Nat) : Int)).toNat : Int) = _
  rw [BitVec.toNat_and, i64Nat a ha, i64Nat 1 (by omega), Nat.and_one_is_mod, IntKind.wrap_i64]
  omega
/-- A power of two that fits. -/
theorem pow_fits (wd : Nat) (h : wd ≤ 62) : ∃ pw : Int, wrap64 (2 ^ wd) = pw ∧ pw = 2 ^ wd ∧ 1 ≤ pw ∧ pw ≤ 4611686018427387904 := by
  have h1 : (1 : Int) ≤ 2 ^ wd := Int.pow_pos (by decide)
  have h2 : (2 : Int) ^ wd ≤ 4611686018427387904 := by
    have : (2 : Int) ^ wd ≤ 2 ^ 62 := by exact_mod_cast Nat.pow_le_pow_right (by decide) h
    exact this
  exact ⟨2 ^ wd, IntWalk.wrap64_in _ ⟨by omega, by omega⟩, rfl, h1, h2⟩
/-- A bit put behind a number. -/
theorem orBit (q x : Int) (h0 : 0 ≤ q) (h1 : q ≤ 2305843009213693952) (hx : x = 0 ∨ x = 1) : bits .or .i64 (q * 2) x = 2 * q + x := by
  obtain ⟨a, rfl⟩ := Int.eq_ofNat_of_zero_le h0
  obtain ⟨b, rfl⟩ := Int.eq_ofNat_of_zero_le (show 0 ≤ x by omega)
  have ha : a * 2 < 9223372036854775808 := by omega
  have hb : b < 2 ^ 1 := by omega
  show IntKind.i64.wrap ((BitVec.ofInt 64 ((a * 2 : Nat) : Int) ||| BitVec.ofInt 64 (b : Int)).toNat : Int) = _
  have h := Nat.shiftLeft_add_eq_or_of_lt hb a
  rw [Nat.shiftLeft_eq] at h
  rw [BitVec.toNat_or, i64Nat _ ha, i64Nat b (by omega), show a * 2 = a * 2 ^ 1 by omega, ← h, IntKind.wrap_i64]
  omega
theorem u8Nat (a : Nat) (ha : a < 256) : (BitVec.ofInt 8 (a : Int)).toNat = a := by
  rw [BitVec.ofInt_natCast, BitVec.toNat_ofNat]; exact Nat.mod_eq_of_lt (by omega)
/-- The lowest bit of a byte. -/
theorem and1u8 (q : Int) (h0 : 0 ≤ q) (h1 : q ≤ 255) : bits .and .u8 q 1 = q % 2 := by
  obtain ⟨a, rfl⟩ := Int.eq_ofNat_of_zero_le h0
  have ha : a < 256 := by omega
  show IntKind.u8.wrap ((BitVec.ofInt 8 (a : Int) &&& BitVec.ofInt 8 ((1 : Nat) : Int)).toNat : Int) = _
  rw [BitVec.toNat_and, u8Nat a ha, u8Nat 1 (by omega), Nat.and_one_is_mod]
  have h2 : a % 2 < 2 := Nat.mod_lt _ (by decide)
  have w0 : IntKind.u8.wrap ((0 : Nat) : Int) = 0 := by decide
  have w1 : IntKind.u8.wrap ((1 : Nat) : Int) = 1 := by decide
  rcases (show a % 2 = 0 ∨ a % 2 = 1 by omega) with h | h
  · rw [h, w0]; omega
  · rw [h, w1]; omega
theorem hide {p : Prop} (h : p) : Hid p := h

/-- The slice with address A and length n reads as zs; where it is not empty it lies in a block below B. -/
def Ints (k : IntKind) (w : World) (B : Nat) (A : Option Addr) (n : Nat) (zs : List Int) : Prop :=
  zs.length = n ∧ (0 < n → ∃ b off, A = some ⟨b, off, none⟩ ∧ b < B ∧ ∀ (j : Nat) (x : Int), zs[j]? = some x → w.cell? ⟨b, off + j, none⟩ = some (.int k x))

section
variable {k : IntKind} {w w' : World} {B B' n : Nat} {A : Option Addr} {zs : List Int}

theorem Ints.len (h : Ints k w B A n zs) : zs.length = n := h.1
theorem Ints.empty : Ints k w B A 0 [] := ⟨rfl, fun h => absurd h (by omega)⟩

/-- The element at an index inside: its address, its value, its cell. -/
theorem Ints.at_ {j : Nat} (h : Ints k w B A n zs) (hj : j < n) :
    ∃ (b off : Nat) (x : Int), A = some ⟨b, off, none⟩ ∧ b < B ∧ zs[j]? = some x ∧ w.cell? ⟨b, off + j, none⟩ = some (.int k x) := by
  obtain ⟨b, off, rfl, hb, hc⟩ := h.2 (by omega)
  have hl : j < zs.length := by have := h.1; omega
  exact ⟨b, off, zs[j], rfl, hb, List.getElem?_eq_getElem hl, hc j _ (List.getElem?_eq_getElem hl)⟩

theorem Ints.keep (h : Ints k w B A n zs) (hk : ∀ b o, b < B → w'.cell? ⟨b, o, none⟩ = w.cell? ⟨b, o, none⟩) : Ints k w' B A n zs :=
  ⟨h.1, fun hn => by
    obtain ⟨b, off, e, hb, hc⟩ := h.2 hn
    exact ⟨b, off, e, hb, fun j x hx => (hk _ _ hb).trans (hc j x hx)⟩⟩
theorem Ints.more (h : Ints k w B A n zs) (hB : B ≤ B') : Ints k w B' A n zs :=
  ⟨h.1, fun hn => by
    obtain ⟨b, off, e, hb, hc⟩ := h.2 hn
    exact ⟨b, off, e, by omega, hc⟩⟩
theorem Ints.below (h : Ints k w B A n zs) (hb : Below B w w') : Ints k w' B A n zs := h.keep fun _ _ hp => hb.cell (p := ⟨_, _, none⟩) hp
theorem Ints.drew (h : Ints k w B A n zs) : Ints k w.drew B A n zs := h
theorem Ints.drewN (h : Ints k w B A n zs) (m : Nat) : Ints k (w.drewN m) B A n zs := h
end

/-- A part of a slice. -/
def subA (A : Option Addr) (c lo : Nat) : Option Addr := if c = lo then A else A.map (fun x => x.add lo)
theorem Ints.sub {k : IntKind} {w : World} {B n c lo m : Nat} {A : Option Addr} {zs : List Int} (h : Ints k w B A n zs) (hc : n ≤ c) (hm : lo + m ≤ n) : Ints k w B (subA A c lo) m ((zs.drop lo).take m) := by
  refine ⟨by rw [List.length_take, List.length_drop, h.len]; omega, fun hp => ?_⟩
  obtain ⟨b, off, rfl, hb, hcell⟩ := h.2 (by omega)
  rw [subA, if_neg (by omega)]
  refine ⟨b, off + lo, by simp only [Option.map_some, Addr.add]; split <;> simp_all, hb, fun j x hx => ?_⟩
  rw [List.getElem?_take] at hx
  split at hx
  · rw [List.getElem?_drop] at hx
    rw [Nat.add_assoc]
    exact hcell _ x hx
  · cases hx

/-- v is a slice of integers that was made from block 'base' on: it reads as zs, it may be written, nobody else has it. -/
def Own (w : World) (base : Nat) (e : TypeId) (k : IntKind) (v : Value) (zs : List Int) : Prop :=
  w.ownsRow base e 1 v zs.length (zs.map (Value.int k))

section
variable {k : IntKind} {w w' : World} {base B : Nat} {e : TypeId} {v : Value} {zs : List Int}

theorem Own.lt (h : Own w base e k v zs) {g : Nat} (hg : v.ownBlock = some g) : base ≤ g ∧ g < w.heap.size := World.ownsRow.lt h g hg

theorem Own.ints {A : Option Addr} {n c : Nat} (h : Own w base e k (.slice A n c) zs) : Ints k w w.heap.size A zs.length zs := by
  refine ⟨rfl, fun hn => ?_⟩
  rcases h.2 with ⟨_, h0⟩ | ⟨g, cap, cur, hv, hb, hg, hnc, hm, hs, ht⟩
  · omega
  · simp only [Value.slice.injEq] at hv
    obtain ⟨rfl, _, _⟩ := hv
    refine ⟨g, 0, rfl, (Array.getElem?_eq_some_iff.1 hg).1, fun j x hx => ?_⟩
    have := World.ownsRow.cells (g := g) h rfl j (.int k x) (by rw [List.getElem?_map, hx]; rfl)
    rw [show (⟨g, 0, none⟩ : Addr).add j = ⟨g, 0 + j, none⟩ by unfold Addr.add; split <;> simp_all] at this
    exact this

theorem Own.form (h : Own w base e k v zs) : ∃ A c, v = .slice A zs.length c ∧ zs.length ≤ c := by
  rcases h.2 with ⟨rfl, h0⟩ | ⟨g, cap, cur, hv, hb, hg, hnc, hm, hs, ht⟩
  · exact ⟨none, 0, by rw [h0], by omega⟩
  · exact ⟨_, cap, hv, hnc⟩

theorem Own.grown {row : Option Nat} (h : Own w base e k v zs) (hg : w.grownBy w' row) (hne : v.ownBlock = none ∨ v.ownBlock ≠ row) : Own w' base e k v zs :=
  World.ownsRow.kept h hg hne
theorem Own.below (h : Own w base e k v zs) (hb : Below B w w') (hB : w.heap.size ≤ B) : Own w' base e k v zs := by
  refine h.grown (row := none) ⟨hb.os, hb.tape, hb.output, hb.size, fun i hi _ => hb.block i (by omega)⟩ ?_
  rcases hv : v.ownBlock with _ | g
  · exact .inl rfl
  · exact .inr (by simp)
theorem Own.drew (h : Own w base e k v zs) : Own w.drew base e k v zs := h
theorem Own.drewN (h : Own w base e k v zs) (m : Nat) : Own (w.drewN m) base e k v zs := h

/-- Of two owned rows the later one lies in another block. -/
theorem Own.ne {w1 : World} {base1 : Nat} {e1 : TypeId} {k1 : IntKind} {v1 : Value} {zs1 : List Int} (h : Own w base e k v zs) (h1 : Own w1 base1 e1 k1 v1 zs1) (hle : w.heap.size ≤ base1) :
    v.ownBlock = none ∨ v.ownBlock ≠ v1.ownBlock := by
  rcases hv : v.ownBlock with _ | g
  · exact .inl rfl
  · refine .inr fun heq => ?_
    have a := h.lt hv
    have b := h1.lt heq.symm
    omega
theorem Own.ne' {w1 : World} {base1 : Nat} {e1 : TypeId} {k1 : IntKind} {v1 : Value} {zs1 : List Int} (h : Own w base e k v zs) (h1 : Own w1 base1 e1 k1 v1 zs1) (hle : w.heap.size ≤ base1) :
    v1.ownBlock = none ∨ v1.ownBlock ≠ v.ownBlock := by
  rcases hv : v1.ownBlock with _ | g
  · exact .inl rfl
  · refine .inr fun heq => ?_
    have a := h.lt heq.symm
    have b := h1.lt hv
    omega
end

theorem Own.intro {A : Option Addr} {n c : Nat} {w : World} {base : Nat} {e : TypeId} {k : IntKind} {zs : List Int} {xs : List Value} (h : w.ownsRow base e 1 (.slice A n c) n xs) (hl : n = zs.length) (hx : xs = zs.map (Value.int k)) : Own w base e k (.slice A n c) zs := by
  subst hx; unfold Own; rw [← hl]; exact h

section
variable {k : IntKind} {w w' : World} {base B n c g : Nat} {e : TypeId} {zs : List Int}
theorem Own.some_ {v : Value} (h : Own w base e k v zs) (hp : 0 < zs.length) : ∃ g c, v = .slice (some ⟨g, 0, none⟩) zs.length c ∧ base ≤ g ∧ g < w.heap.size ∧ zs.length ≤ c := by
  rcases h.2 with ⟨rfl, h0⟩ | ⟨g, cap, cur, hv, hb, hg, hnc, hm, hs, ht⟩
  · omega
  · exact ⟨g, cap, hv, hb, (Array.getElem?_eq_some_iff.1 hg).1, hnc⟩
theorem Own.len {A : Option Addr} (h : Own w base e k (.slice A n c) zs) : n = zs.length := by
  rcases h.2 with ⟨h1, h0⟩ | ⟨g, cap, cur, hv, _⟩
  · simp only [Value.slice.injEq] at h1; omega
  · simp only [Value.slice.injEq] at hv; exact hv.2.1
theorem Own.cellAt {j : Nat} {x : Int} (h : Own w base e k (.slice (some ⟨g, 0, none⟩) n c) zs) (hx : zs[j]? = some x) : w.cell? ⟨g, j, none⟩ = some (.int k x) := by
  have hl := h.len; subst hl
  have hj : j < zs.length := (List.getElem?_eq_some_iff.1 hx).1
  rw [World.ownsRow.cellAt h j (by omega), List.getElem?_map, hx]; rfl
theorem Own.frozenAt (j : Nat) (h : Own w base e k (.slice (some ⟨g, 0, none⟩) n c) zs) : w.frozen? ⟨g, j, none⟩ = false := by
  have hl := h.len; subst hl
  exact World.ownsRow.frozenAt h j
theorem Own.stored (h : Own w base e k (.slice (some ⟨g, 0, none⟩) n c) zs) (j : Nat) (x : Int) :
    Own (w.setCell ⟨g, j, none⟩ (.int k x)) base e k (.slice (some ⟨g, 0, none⟩) n c) (zs.set j x) ∧ w.grownBy (w.setCell ⟨g, j, none⟩ (.int k x)) (some g) := by
  have hl := h.len; subst hl
  have hs := World.ownsRow.stored h j (.int k x)
  refine ⟨Own.intro hs.1 (by simp) (by rw [List.map_set]), hs.2⟩
end

theorem grown_cell {w w' : World} {row : Option Nat} {p : Addr} (hg : w.grownBy w' row) (hl : p.block < w.heap.size) (hne : row ≠ some p.block) : w'.cell? p = w.cell? p :=
  World.cell?_of_block (hg.block p.block hl (Ne.symm hne))
theorem take_snocI {zs : List Int} {k : Nat} {x : Int} (h : zs[k]? = some x) : zs.take (k + 1) = zs.take k ++ [x] := by
  rw [List.take_add_one, h]; rfl

theorem set_snoc {zs ys : List Int} {j : Nat} {x y : Int} (hx : zs[j]? = some x) : (zs.take j ++ y :: ys).set j x = zs.take (j + 1) ++ ys := by
  have hj : j < zs.length := (List.getElem?_eq_some_iff.1 hx).1
  have hl : (zs.take j).length = j := by rw [List.length_take]; omega
  rw [List.set_append_right _ _ (by omega), hl, Nat.sub_self, List.set_cons_zero, List.take_add_one, hx]
  simp

theorem grownBelow {B : Nat} {w w' : World} {base : Nat} {e : TypeId} {k : IntKind} {v : Value} {zs : List Int} (h : Own w base e k v zs) (hg : w.grownBy w' v.ownBlock) (hB : B ≤ base) (hB2 : B ≤ w.heap.size) : Below B w w' :=
  (Below.refl B w).grown hg hB2 (fun g hv => by have := h.lt hv; omega)

/-- t is the type of slices of e, an integer type of the kind k. -/
structure IsElem (P : Program) (t e : TypeId) (k : IntKind) (bytes : Nat) : Prop where
  under : P.underlying t = some (.slice e)
  info : (P.info? e).map (fun i => (i.zero, i.size, i.bytes)) = some (some (.int k 0), 1, bytes)
  small : bytes ≤ 8

theorem addr_add (b off j : Nat) : (⟨b, off, none⟩ : Addr).add j = ⟨b, off + j, none⟩ := by unfold Addr.add; split <;> simp_all

theorem run_appL {P : Program} (w : World) {t e ty : TypeId} {k : IntKind} {bytes : Nat} (E : IsElem P t e k bytes) (base : Nat) (v : Value) (zs : List Int) (hown : Own w base e k v zs)
    (B : Nat) (A : Option Addr) (m c : Nat) (news : List Int) (hI : Ints k w B A m news) (hlen : (zs.length + m) * 8 ≤ 140737488355328) (hbase : base ≤ w.heap.size) :
    ∃ v' w', (Builtin.append_ #[t, t] ty #[v, .slice A m c]).run P w = .ok v' w' ∧ Own w' base e k v' (zs ++ news) ∧ w.grownBy w' v.ownBlock := by
  obtain ⟨i, hi, hz0, hz1, hz2⟩ := info_parts E.info
  have hl := hI.len
  have hby : (zs.length + m) * bytes ≤ 140737488355328 := Nat.le_trans (Nat.mul_le_mul_left _ E.small) hlen
  have put : ∀ v' w', w'.ownsRow base e 1 v' (zs.length + m) (zs.map (Value.int k) ++ news.map (Value.int k)) → Own w' base e k v' (zs ++ news) := by
    intro v' w' h
    unfold Own
    rw [List.map_append, List.length_append, hl]
    exact h
  rcases A with _ | ad
  · have hm : m = 0 := by
      rcases Nat.eq_zero_or_pos m with h0 | h0
      · exact h0
      · obtain ⟨b, off, h, _⟩ := hI.2 h0
        cases h
    subst hm
    have hn : news = [] := List.eq_nil_of_length_eq_zero hl
    subst hn
    refine ⟨v, w, ?_, by simpa using hown, World.grownBy.refl w _⟩
    rcases hown.2 with ⟨rfl, _⟩ | ⟨g, cap, cur, rfl, _, _, hnc, _⟩
    · simp [Builtin.append_, run_underlying E.under, sizeOf, typeInfo, hi, Builtin.lenOf, Builtin.firstCells]
    · simp [Builtin.append_, run_underlying E.under, sizeOf, typeInfo, hi, Builtin.lenOf, Builtin.firstCells, hnc, storeCells]
  · obtain ⟨v', w', hrun, h2, h3, _⟩ := run_append_own (P := P) w base t ty e i (.int k 0) 1 bytes E.under hi hz0 hz1 hz2 rfl (by decide) v zs.length _ hown ad m c (news.map (Value.int k)) (by simpa using hl)
      (by
        intro j u hu
        have hj : j < news.length := by
          have := (List.getElem?_eq_some_iff.1 hu).1
          simpa using this
        obtain ⟨b, off, x, h, _, hx, hc⟩ := hI.at_ (j := j) (by omega)
        injection h with h
        subst h
        rw [List.getElem?_map, hx] at hu
        simp only [Option.map_some, Option.some.injEq] at hu
        subst hu
        rw [addr_add]
        exact hc)
      (ints_oneCell k news) (by simp only [maxLen]; omega) hby hbase
    exact ⟨v', w', hrun, put v' w' h2, h3⟩

theorem wp_appL {P : Program} (w : World) {o : Oper} {a : Act} {K : Act → World → Prop} {Q : Exit → Act → World → Prop} (s x : Operand) (t : TypeId)
    (ho : o.op = .call { callee := .builtin .append, args := #[s, x], argTypes := #[t, t] }) {e : TypeId} {k : IntKind} {bytes : Nat} (E : IsElem P t e k bytes)
    (base : Nat) (v : Value) (zs : List Int) (hs : a.eval s = v) (hown : Own w base e k v zs)
    (B : Nat) (A : Option Addr) (m c : Nat) (news : List Int) (hx : a.eval x = .slice A m c) (hI : Ints k w B A m news) (hlen : (zs.length + m) * 8 ≤ 140737488355328) (hbase : base ≤ w.heap.size)
    (h : ∀ v' w', Own w' base e k v' (zs ++ news) → w.grownBy w' v.ownBlock → K (a.put o.dst v') w') : o.wp P a w K Q := by
  obtain ⟨v', w', hrun, h2, h3⟩ := run_appL (P := P) (ty := o.type) w E base v zs hown B A m c news hI hlen hbase
  unfold Oper.wp execOp
  simp only [ho, resolve, invoke, builtin, Sem.run_bind, Sem.run_pure, Result.andThen_ok, List.map_toArray, List.map_cons, List.map_nil, hs, hx, hrun]
  exact h v' w' h2 h3

theorem wpList_appL {P : Program} (w : World) {ops : Array Oper} {rest : List Oper} {o : Oper} {a : Act} {Q : Exit → Act → World → Prop} (hgd : o.guard = none) (s x : Operand) (t : TypeId)
    (ho : o.op = .call { callee := .builtin .append, args := #[s, x], argTypes := #[t, t] }) {e : TypeId} {k : IntKind} {bytes : Nat} (E : IsElem P t e k bytes)
    (base : Nat) (v : Value) (zs : List Int) (hs : a.eval s = v) (hown : Own w base e k v zs)
    (B : Nat) (A : Option Addr) (m c : Nat) (news : List Int) (hx : a.eval x = .slice A m c) (hI : Ints k w B A m news) (hlen : (zs.length + m) * 8 ≤ 140737488355328) (hbase : base ≤ w.heap.size)
    (h : ∀ v' w', Own w' base e k v' (zs ++ news) → w.grownBy w' v.ownBlock → wpList P ops Q rest (a.put o.dst v') w') : wpList P ops Q (o :: rest) a w :=
  wpList_plain hgd fun _ hK => wp_appL w s x t ho E base v zs hs hown B A m c news hx hI hlen hbase fun v' w' h2 h3 => hK _ _ (h v' w' h2 h3)

/-- The same inside a region that draws its order. -/
theorem step_appL {P : Program} (w : World) {ops : Array Oper} {o : Oper} {a : Act} {K : Act → World → Prop} {Q : Exit → Act → World → Prop} {F : Prop} (hgd : o.guard = none) (s x : Operand) (t : TypeId)
    (ho : o.op = .call { callee := .builtin .append, args := #[s, x], argTypes := #[t, t] }) {e : TypeId} {k : IntKind} {bytes : Nat} (E : IsElem P t e k bytes)
    (base : Nat) (v : Value) (zs : List Int) (hs : a.eval s = v) (hown : Own w base e k v zs)
    (B : Nat) (A : Option Addr) (m c : Nat) (news : List Int) (hx : a.eval x = .slice A m c) (hI : Ints k w B A m news) (hlen : (zs.length + m) * 8 ≤ 140737488355328) (hbase : base ≤ w.heap.size)
    (h : ∀ v' w', Own w' base e k v' (zs ++ news) → w.grownBy w' v.ownBlock → K (a.put o.dst v') w') :
    if Region.wanted o (yielded ops a.tmps) = true then Oper.wp P o a w K Q else F := by
  have hw : Region.wanted o (yielded ops a.tmps) = true := by simp [Region.wanted, hgd]
  rw [if_pos hw]
  exact wp_appL w s x t ho E base v zs hs hown B A m c news hx hI hlen hbase h

theorem ints_one (w : World) (e : TypeId) (k : IntKind) (y : Int) : Ints k (w.alloc (.cells #[.int k y] e)) (w.heap.size + 1) (some ⟨w.heap.size, 0, none⟩) 1 [y] := by
  refine ⟨rfl, fun _ => ⟨w.heap.size, 0, rfl, by omega, fun j x hx => ?_⟩⟩
  have hj : j = 0 := by
    have := (List.getElem?_eq_some_iff.1 hx).1
    simp at this; exact this
  subst hj
  simp only [List.getElem?_cons_zero, Option.some.injEq] at hx
  subst hx
  rw [World.cell?_alloc_at _ _ _ _ rfl]; rfl

theorem Own.alloc {w : World} {base : Nat} {e : TypeId} {k : IntKind} {v : Value} {zs : List Int} (h : Own w base e k v zs) (o : Obj) : Own (w.alloc o) base e k v zs := World.ownsRow.alloc h o

theorem grown_trans {a b c : World} {row : Option Nat} (h : a.grownBy b row) (k : b.grownBy c row) : a.grownBy c row :=
  ⟨k.os.trans h.os, k.tape.trans h.tape, k.output.trans h.output, Nat.le_trans h.size k.size, fun i hi hne => (k.block i (Nat.lt_of_lt_of_le hi h.size) hne).trans (h.block i hi hne)⟩

/-- append(out, y): the one element lies in a new block of its own. -/
theorem wpList_app1 {P : Program} (w : World) {ops : Array Oper} {rest : List Oper} {o : Oper} {a : Act} {Q : Exit → Act → World → Prop} (hgd : o.guard = none) (s x : Operand) (t : TypeId)
    (ho : o.op = .call { callee := .builtin .append, args := #[s, x], argTypes := #[t, t] }) {e : TypeId} {k : IntKind} {bytes : Nat} (E : IsElem P t e k bytes)
    (base : Nat) (v : Value) (zs : List Int) (hs : a.eval s = v) (hown : Own w base e k v zs) (y : Int) (hx : a.eval x = .slice (some ⟨w.heap.size, 0, none⟩) 1 1)
    (hlen : (zs.length + 1) * 8 ≤ 140737488355328) (hbase : base ≤ w.heap.size)
    (h : ∀ v' w', Own w' base e k v' (zs ++ [y]) → w.grownBy w' v.ownBlock → wpList P ops Q rest (a.put o.dst v') w') : wpList P ops Q (o :: rest) a (w.alloc (.cells #[.int k y] e)) :=
  wpList_appL _ hgd s x t ho E base v zs hs (hown.alloc _) (w.heap.size + 1) _ 1 1 [y] hx (ints_one w e k y) hlen (by simp; omega)
    fun v' w' h1 h2 => h v' w' h1 (grown_trans (World.grownBy_alloc w _ _) h2)

/-- make([]T, n). -/
theorem wpList_mkN {P : Program} (w : World) {ops : Array Oper} {rest : List Oper} {o : Oper} {a : Act} {Q : Exit → Act → World → Prop} (hg : o.guard = none) (l c : Operand) (t : TypeId) (hop : o.op = Op.makeSlice t l c)
    {e : TypeId} {k : IntKind} {bytes : Nat} (E : IsElem P t e k bytes) (kl kc : IntKind) (L C : Int) (n : Nat) (hl : a.eval l = .int kl L) (hc : a.eval c = .int kc C) (hL : L = (n : Int)) (hC : C = (n : Int)) (hn : 8 * n ≤ 281474976710656)
    (hK : ∀ w', Own w' w.heap.size e k (.slice (some ⟨w.heap.size, 0, none⟩) n n) (List.replicate n 0) → Below w.heap.size w w' → wpList P ops Q rest (a.put o.dst (.slice (some ⟨w.heap.size, 0, none⟩) n n)) w') :
    wpList P ops Q (o :: rest) a w := by
  obtain ⟨i, hi, hz0, hz1, hz2⟩ := info_parts E.info
  refine wpList_make_full w hg l c t hop w.heap.size e i (.int k 0) 1 E.under hi hz0 hz1 kl kc L C n hl hc hL hC (Nat.le_trans (Nat.mul_le_mul_right _ (by rw [hz2]; exact E.small)) hn) (by simp only [maxLen]; omega) (Nat.le_refl _) fun w' h1 h2 => ?_
  refine hK w' (Own.intro h1 (by simp) ?_) ((Below.refl w.heap.size w).grown h2 (Nat.le_refl _) (by simp))
  rw [Nat.mul_one]
  show (madeCells #[Value.int k 0] n).toList = _
  rw [toList_madeCells_one, List.map_replicate]

/-- make([]T, 0, n). -/
theorem wpList_mk0 {P : Program} (w : World) {ops : Array Oper} {rest : List Oper} {o : Oper} {a : Act} {Q : Exit → Act → World → Prop} (hg : o.guard = none) (l c : Operand) (t : TypeId) (hop : o.op = Op.makeSlice t l c)
    {e : TypeId} {k : IntKind} {bytes : Nat} (E : IsElem P t e k bytes) (kl kc : IntKind) (C : Int) (n : Nat) (hl : a.eval l = .int kl 0) (hc : a.eval c = .int kc C) (hC : C = (n : Int)) (hn : 8 * n ≤ 281474976710656)
    (hK : ∀ w', Own w' w.heap.size e k (.slice (some ⟨w.heap.size, 0, none⟩) 0 n) [] → Below w.heap.size w w' → wpList P ops Q rest (a.put o.dst (.slice (some ⟨w.heap.size, 0, none⟩) 0 n)) w') :
    wpList P ops Q (o :: rest) a w := by
  obtain ⟨i, hi, hz0, hz1, hz2⟩ := info_parts E.info
  refine wpList_make_own w hg l c t hop w.heap.size e i (.int k 0) 1 E.under hi hz0 hz1 kl kc C n hl hc hC (Nat.le_trans (Nat.mul_le_mul_right _ (by rw [hz2]; exact E.small)) hn) (by simp only [maxLen]; omega) (Nat.le_refl _) fun w' h1 h2 => ?_
  exact hK w' (Own.intro h1 (by simp) rfl) ((Below.refl w.heap.size w).grown h2 (Nat.le_refl _) (by simp))

/-- An empty slice literal. -/
theorem Own.lit0 (w : World) (e : TypeId) (k : IntKind) : Own (w.alloc (.cells #[] e)) w.heap.size e k (.slice (some ⟨w.heap.size, 0, none⟩) 0 0) [] :=
  Own.intro (World.ownsRow_lit w #[] 0 (Nat.le_refl _) (by simp [maxLen]) (by simp)) rfl rfl

/-- The string of some bytes. -/
def strOf (ns : List Int) : ByteArray := ns.foldl (fun r n => r.push (UInt8.ofNat n.toNat)) ByteArray.empty
theorem run_str {P : Program} (w : World) {t e u : TypeId} {bytes : Nat} (E : IsElem P t e .u8 bytes) (he : P.underlying e = some (.int .u8)) (hd : P.underlying u = some .string) {B n : Nat} {A : Option Addr} {ns : List Int} (c : Nat) (hI : Ints .u8 w B A n ns) :
    (convert t u (.slice A n c)).run P w = .ok (.string (strOf ns)) w := by
  rw [run_convert_bytes_string w t u e A n c E.under he hd]
  rcases A with _ | ad
  · have hn : n = 0 := by
      rcases Nat.eq_zero_or_pos n with h0 | h0
      · exact h0
      · obtain ⟨b, off, h, _⟩ := hI.2 h0
        cases h
    subst hn
    obtain rfl := List.eq_nil_of_length_eq_zero hI.len
    rfl
  · refine run_bytesToString w ad n c ns ?_
    have h := run_loadCells_list (P := P) (w := w) ad (ns.map (Value.int .u8)) (by
      intro j v hv
      have hj : j < ns.length := by
        have := (List.getElem?_eq_some_iff.1 hv).1
        simpa using this
      obtain ⟨b, off, x, h, _, hx, hc⟩ := hI.at_ (j := j) (by rw [← hI.len]; exact hj)
      injection h with h
      subst h
      rw [List.getElem?_map, hx] at hv
      simp only [Option.map_some, Option.some.injEq] at hv
      subst hv
      rw [addr_add]
      exact hc)
    rw [List.length_map, hI.len] at h
    exact h

/-- What a function leaves that returns a new slice of integers. -/
def NewInts (e : TypeId) (k : IntKind) (zs : List Int) (w : World) (x : Ending) (w' : World) : Prop :=
  ∃ A c, x = .returned (.slice A zs.length c) ∧ zs.length ≤ c ∧ Own w' w.heap.size e k (.slice A zs.length c) zs ∧ Below w.heap.size w w'

/-- What a function leaves that returns a value and at most makes new memory. -/
def Gives (v : Value) (w : World) (x : Ending) (w' : World) : Prop := x = .returned v ∧ Below w.heap.size w w'

theorem below_drewN {B : Nat} {a w : World} (h : Below B a w) (m : Nat) : Below B a (w.drewN m) := ⟨h.os, h.tape, h.output, h.size, h.block⟩
theorem grown_drewN {a w : World} {row : Option Nat} (h : a.grownBy w row) (m : Nat) : a.grownBy (w.drewN m) row := ⟨h.os, h.tape, h.output, h.size, h.block⟩
end Go.Proofs.YtncgeoliboidhaaGreat
