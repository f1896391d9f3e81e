/-
  Plain mathematics of bit lists: what the functions of chapter 1 compute, on lists of integers.
  No condition.
-/
import Derived.WalkKit
namespace Go.Proofs.Ytfjagcalfnjddaa
def inR (x lo hi : Int) : Bool := decide (lo ≤ x ∧ x ≤ hi)
theorem inR_yes {x lo hi : Int} (h1 : lo ≤ x) (h2 : x ≤ hi) : inR x lo hi = true := decide_eq_true ⟨h1, h2⟩
theorem inR_no {x lo hi : Int} (h : x < lo ∨ hi < x) : inR x lo hi = false := decide_eq_false (by omega)
def isBit (x : Int) : Bool := x == 0 || x == 1
def isBits (zs : List Int) : Bool := decide (zs.length ≤ 8192) && zs.all isBit

theorem all_take_snoc {f : Int → Bool} {zs : List Int} {k : Nat} {x : Int} (h : (zs.take k).all f = true) (hx : zs[k]? = some x) (hf : f x = true) : (zs.take (k + 1)).all f = true := by
  rw [List.take_add_one, hx, List.all_append, h]; simp [hf]
theorem isBits_yes {zs : List Int} {n : Nat} (hl : zs.length = n) (hn : n ≤ 8192) (h : (zs.take n).all isBit = true) : isBits zs = true := by
  rw [List.take_of_length_le (by omega)] at h; simp only [isBits, h, hl, hn, decide_true, Bool.and_self]
theorem isBits_long {zs : List Int} (h : 8192 < zs.length) : isBits zs = false := by
  unfold isBits; rw [decide_eq_false (by omega)]; rfl
theorem isBits_no {zs : List Int} {k : Nat} {x : Int} (hx : zs[k]? = some x) (hf : isBit x = false) : isBits zs = false := by
  unfold isBits
  have : zs.all isBit = false := by
    rw [List.all_eq_false]; exact ⟨x, List.mem_of_getElem? hx, by simp [hf]⟩
  rw [this, Bool.and_false]
theorem isBits_len {zs : List Int} (h : isBits zs = true) : zs.length ≤ 8192 := by
  unfold isBits at h; simp at h; exact h.1
theorem isBits_bit {zs : List Int} (h : isBits zs = true) {k : Nat} {x : Int} (hx : zs[k]? = some x) : x = 0 ∨ x = 1 := by
  unfold isBits at h; simp at h
  have := h.2 x (List.mem_of_getElem? hx)
  simpa [isBit] using this
end Go.Proofs.Ytfjagcalfnjddaa
