/-
  Appending a number to a slice of the caller's own: where the new slice lies, and that every other block stays as it was.
  Condition: as each statement says.
-/
import Derived.Test.YthmpfnbcodolcaaAppend
import Derived.Test.YthmpfnbcodolcaaBox
import Derived.Deep.AppendLies
namespace Go.Proofs.Ythmpfnbcodolcaa
open Go.RowKit

/-- append(out, y), and where the new slice lies. -/
theorem wpList_app1M {P : Program} (w : World) {ops : Array Oper} {rest : List Oper} {o : Oper} {a : Act} {Q : Exit → Act → World → Prop} (hgd : o.guard = none) (s x : Operand) (t : TypeId)
    (ho : o.op = .call { callee := .builtin .append, args := #[s, x], argTypes := #[t, t] }) {e : TypeId} {k : IntKind} {bytes : Nat} (E : IsElem P t e k bytes)
    (base : Nat) (v : Value) (zs : List Int) (hs : a.eval s = v) (hown : Own w base e k v zs) (y : Int) (hx : a.eval x = .slice (some ⟨w.heap.size, 0, none⟩) 1 1)
    (hlen : (zs.length + 1) * 8 ≤ 140737488355328) (hbase : base ≤ w.heap.size)
    (h : ∀ v' w', Own w' base e k v' (zs ++ [y]) → w.grownBy w' v.ownBlock → (∀ g, v'.ownBlock = some g → v.ownBlock = some g ∨ w.heap.size ≤ g) → wpList P ops Q rest (a.put o.dst v') w') : wpList P ops Q (o :: rest) a (w.alloc (.cells #[.int k y] e)) := by
  obtain ⟨i, hi, hz0, hz1, hz2⟩ := info_parts E.info
  have hby : (zs.length + 1) * bytes ≤ 140737488355328 := Nat.le_trans (Nat.mul_le_mul_left _ E.small) hlen
  refine wpList_append_lies (w := w.alloc (.cells #[.int k y] e)) hgd s x t ho base e i (.int k 0) 1 bytes E.under hi hz0 hz1 hz2 rfl (by decide) v zs.length (zs.map (Value.int k)) hs (hown.alloc _) ⟨w.heap.size, 0, none⟩ 1 1 [.int k y] hx rfl (fun j u hu => ?_) (ints_oneCell k [y]) (by decide) (by simp only [maxLen]; omega) hby (by rw [alloc_size]; omega) (w.heap.size + 1) (alloc_size _ _) fun b cap w' h2 h3 h4 _ => ?_
  · have hj : j = 0 := by
      have := (List.getElem?_eq_some_iff.1 hu).1
      simp at this; exact this
    subst hj
    simp only [List.getElem?_cons_zero, Option.some.injEq] at hu
    subst hu
    rw [addr_add, World.cell?_alloc_at _ _ _ _ rfl]; rfl
  · refine h _ w' (Own.intro h2 (by simp) (by simp)) (grown_trans (World.grownBy_alloc w _ _) h3) fun g hg => ?_
    have hbg : b = g := by simpa [Value.ownBlock] using hg
    subst hbg
    rcases h4 with h4 | h4
    · exact .inl h4
    · exact .inr (by omega)

theorem grown_step {w wr w1 : World} {v u : Value} (h : w.grownBy wr v.ownBlock) (hl : ∀ g, u.ownBlock = some g → v.ownBlock = some g ∨ w.heap.size ≤ g) (h1 : wr.grownBy w1 u.ownBlock) : w.grownBy w1 v.ownBlock :=
  ⟨h1.os.trans h.os, h1.tape.trans h.tape, h1.output.trans h.output, Nat.le_trans h.size h1.size, fun i hi hne => (h1.block i (Nat.lt_of_lt_of_le hi h.size) (fun e => by
    rcases hl i e.symm with h2 | h2
    · exact hne h2.symm
    · omega)).trans (h.block i hi hne)⟩
theorem lies_step {w wr : World} {v u u' : Value} (hs : w.heap.size ≤ wr.heap.size) (hl : ∀ g, u.ownBlock = some g → v.ownBlock = some g ∨ w.heap.size ≤ g) (h1 : ∀ g, u'.ownBlock = some g → u.ownBlock = some g ∨ wr.heap.size ≤ g) : ∀ g, u'.ownBlock = some g → v.ownBlock = some g ∨ w.heap.size ≤ g := by
  intro g hg
  rcases h1 g hg with h2 | h2
  · exact hl g h2
  · exact .inr (by omega)

/-- What a function leaves that appends to a slice of its caller's own, with the place of the new slice. -/
def LongerM (e : TypeId) (k : IntKind) (base : Nat) (v : Value) (zs : List Int) (w : World) (x : Ending) (w' : World) : Prop :=
  ∃ v', x = .returned v' ∧ Own w' base e k v' zs ∧ w.grownBy w' v.ownBlock ∧ ∀ g, v'.ownBlock = some g → v.ownBlock = some g ∨ w.heap.size ≤ g
def AppRelM (base wd : Nat) (zs ys : List Int) (v : Value) (w : World) (u i : Value) (wr : World) : Prop :=
  ∃ j : Nat, j ≤ wd ∧ i = .int .i64 ((wd : Int) - 1 - (j : Int)) ∧ Own wr base 2 .i64 u (zs ++ ys.take j) ∧ w.grownBy wr v.ownBlock ∧ ∀ g, u.ownBlock = some g → v.ownBlock = some g ∨ w.heap.size ≤ g

set_option maxHeartbeats 400000 in
theorem implAppendNumberM (v : Value) (base wd : Nat) (zs : List Int) (val : Int) (w : World) (hO : Own w base 2 .i64 v zs) (hbase : base ≤ w.heap.size) (hl : zs.length ≤ 1099511627776) (hwd : wd ≤ 62) (hv0 : 0 ≤ val) (hv1 : val ≤ 9223372036854775807) :
    Calls Try.prog 77 #[v, .int .i64 val, .int .i64 (wd : Int)] w (LongerM 2 .i64 base v (zs ++ bitsOf val wd) w) := by
  have HO := hide hO
  clear hO
  go_enter Try.func77, Try.ntmps77
  go_wp2
  go_loopw [0, 7] (fun u i wr => AppRelM base wd zs (bitsOf val wd) v w u i wr) (fun _ i _ => (intOf i + 1).toNat)
  case atStart => exact ⟨0, by omega, by simp, by simpa using HO.out, ⟨rfl, rfl, rfl, Nat.le_refl _, fun _ _ _ => rfl⟩, fun g hg => .inl hg⟩
  case round =>
    clear HO
    obtain ⟨u, rfl⟩ : ∃ u : Value, u = u0 := ⟨_, rfl⟩
    obtain ⟨j, hj, rfl, hOwn, hGr, hLi⟩ := hrel
    have HO := hide hOwn
    have HGr := hide hGr
    have HLi := hide hLi
    clear hOwn hGr hLi
    by_cases hlt : j < wd
    · have s0 : 0 ≤ (wd : Int) - 1 - (j : Int) := by omega
      have s1 : (wd : Int) - 1 - (j : Int) < 64 := by omega
      have HS := hide (bitsOf_at val hlt)
      have hbit : bits .and .i64 (val / 2 ^ (wd - 1 - j)) 1 = val / 2 ^ (wd - 1 - j) % 2 :=
        and1 _ (Int.ediv_nonneg hv0 (by exact Int.le_of_lt (Int.pow_pos (by decide)))) (Int.le_trans (Int.ediv_le_self _ hv0) hv1)
      generalize val / 2 ^ (wd - 1 - j) % 2 = y at hbit HS
      have hbz : base ≤ wr.heap.size := by have := HGr.out.size; omega
      have hlen : (zs ++ (bitsOf val wd).take j).length + 1 ≤ 1099511628000 := by rw [List.length_append, List.length_take, bitsOf_len]; omega
      go_wp2_with (at_builtin; refine wpList_app1M wr rfl _ _ _ rfl elem64 base u _ rfl HO.out y rfl (by omega) hbz ?_; intro v' w1 hown1 hgrow hlies)
      have HO1 := hide hown1
      have HG1 := hide (grown_step HGr.out HLi.out hgrow)
      have HL1 := hide (lies_step HGr.out.size HLi.out hlies)
      clear hown1 hgrow hbit hlies
      go_wp2
      go_roundw
      case rel =>
        refine ⟨j + 1, by omega, by go_num, ?_, HG1.out, HL1.out⟩
        have h := HO1.out
        rw [List.append_assoc, ← take_snocI HS] at h
        exact h
      case measure => simp [intOf]; omega
    · go_wp2
      go_ret
      have h := HO.out
      rw [List.take_of_length_le (by rw [bitsOf_len]; omega)] at h
      exact ⟨_, rfl, h, HGr.out, HLi.out⟩
end Go.Proofs.Ythmpfnbcodolcaa
