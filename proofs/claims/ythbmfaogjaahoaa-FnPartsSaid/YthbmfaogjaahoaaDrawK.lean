/-
  What draws share: what stays while a source's block changes; slices of bytes.
  No condition.
-/
import Derived.Test.YthbmfaogjaahoaaDraw
namespace Go.Proofs.Ythbmfaogjaahoaa
open Go.RowKit

theorem info8 : (Try.prog.info? 5).map (fun i => (i.zero, i.size, i.bytes)) = some (some (.int .u8 0), 1, 1) := by kernel_rfl
theorem elem8 : IsElem Try.prog 57 5 .u8 1 := ⟨Try.underlying57, info8, by omega⟩

theorem grown_more {a b c : World} {row row2 : Option Nat} (h : a.grownBy b row) (k : b.grownBy c row2) (hr : ∀ r, row2 = some r → a.heap.size ≤ r) : a.grownBy c row :=
  ⟨k.os.trans h.os, k.tape.trans h.tape, k.output.trans h.output, Nat.le_trans h.size k.size, fun i hi hne => (k.block i (Nat.lt_of_lt_of_le hi h.size) (fun e => by have := hr i e.symm; omega)).trans (h.block i hi hne)⟩
theorem grown_below {a b c : World} {row : Option Nat} (h : a.grownBy b row) (k : Below a.heap.size b c) : a.grownBy c row :=
  ⟨k.os.trans h.os, k.tape.trans h.tape, k.output.trans h.output, Nat.le_trans h.size k.size, fun i hi hne => (k.block i hi).trans (h.block i hi hne)⟩

def DrawRel (g Bc : Nat) (A : Option Addr) (n c : Nat) (code : List Int) (e : TypeId) (k : IntKind) (most : Int) (lo hi : Int) (w : World) (v i : Value) (wr : World) : Prop :=
  ∃ (zs : List Int) (t : Int), i = .int .i64 t ∧ 0 ≤ t ∧ (zs.length : Int) + t ≤ most ∧ (∀ y ∈ zs, lo ≤ y ∧ y ≤ hi) ∧ Own wr w.heap.size e k v zs ∧ Src wr g Bc A n c code ∧ w.grownBy wr (some g)

theorem own_src {w wr : World} {g : Nat} {e : TypeId} {k : IntKind} {v : Value} {zs : List Int} (hO : Own wr w.heap.size e k v zs) (hg : g < w.heap.size) : v.ownBlock = none ∨ v.ownBlock ≠ some g := by
  rcases hv : v.ownBlock with _ | r
  · exact .inl rfl
  · exact .inr (fun h => by have := hO.lt hv; injection h; omega)

theorem Own.base_le {w : World} {base base' : Nat} {e : TypeId} {k : IntKind} {v : Value} {zs : List Int} (h : Own w base e k v zs) (hb : base' ≤ base) : Own w base' e k v zs := by
  refine ⟨h.1, ?_⟩
  rcases h.2 with h0 | ⟨g, cap, cur, hv, hg, rest⟩
  · exact .inl h0
  · exact .inr ⟨g, cap, cur, hv, by omega, rest⟩

theorem strOf_size (ns : List Int) : (strOf ns).size = ns.length := by
  have h : ∀ (l : List Int) (b : ByteArray), (l.foldl (fun r n => r.push (UInt8.ofNat n.toNat)) b).size = b.size + l.length := by
    intro l
    induction l with
    | nil => intro b; rfl
    | cons a l ih => intro b; rw [List.foldl_cons, ih]; simp [ByteArray.size_push]; omega
  unfold strOf; rw [h]; simp

end Go.Proofs.Ythbmfaogjaahoaa
