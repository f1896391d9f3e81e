/-
  Plain mathematics of texts of bits.
  No condition.
-/
import Derived.Test.YthbmfaogjaahoaaBitsMath
import Derived.Test.YthbmfaogjaahoaaWords
namespace Go.Proofs.Ythbmfaogjaahoaa
def sobCode (zs : List Int) : Int := if isBits zs then (if zs.length % 8 = 0 then 0 else 5) else 1
def sobOf (zs : List Int) : ByteArray := if sobCode zs = 0 then strOf (strBytes zs) else ⟨#[]⟩
theorem sob_bad {zs : List Int} (h : isBits zs = false) : sobCode zs = 1 := by simp [sobCode, h]
theorem sob_len {zs : List Int} (h : isBits zs = true) (hl : zs.length % 8 ≠ 0) : sobCode zs = 5 := by simp [sobCode, h, hl]
theorem sob_ok {zs : List Int} (h : isBits zs = true) (hl : zs.length % 8 = 0) : sobCode zs = 0 := by simp [sobCode, h, hl]
theorem sobOf_bad {zs : List Int} {r : Int} (h : sobCode zs = r) (hr : r ≠ 0) : sobOf zs = ⟨#[]⟩ := by rw [sobOf, if_neg (by rw [h]; exact hr)]

def textB (zs : List Int) : List Int := zs.map (fun x => 48 + x)
theorem textB_len (zs : List Int) : (textB zs).length = zs.length := by simp [textB]
theorem textB_at {zs : List Int} {k : Nat} {x : Int} (h : zs[k]? = some x) : (textB zs)[k]? = some (48 + x) := by simp [textB, h]
def textOf (zs : List Int) : ByteArray := if isBits zs then strOf (textB zs) else ⟨#[]⟩
theorem strOf_nil : strOf [] = ⟨#[]⟩ := rfl

def isDig (b : Int) : Bool := b == 48 || b == 49
def rbOk (bs : List Int) : Bool := decide (bs.length ≤ 8192) && bs.all isDig
def rbOf (bs : List Int) : List Int := if rbOk bs then bs.map (fun b => b - 48) else []
def unB (bs : List Int) : List Int := bs.map (fun b => b - 48)
theorem unB_len (bs : List Int) : (unB bs).length = bs.length := by simp [unB]
theorem unB_at {bs : List Int} {k : Nat} {x : Int} (h : bs[k]? = some x) : (unB bs)[k]? = some (x - 48) := by simp [unB, h]
theorem rbOf_yes {bs : List Int} (h : rbOk bs = true) : rbOf bs = unB bs := by rw [rbOf, if_pos h]; rfl
theorem rbOf_no {bs : List Int} (h : rbOk bs = false) : rbOf bs = [] := by rw [rbOf, if_neg (by rw [h]; decide)]
theorem rb_yes {bs : List Int} {n : Nat} (hl : bs.length = n) (hn : n ≤ 8192) (h : (bs.take n).all isDig = true) : rbOk bs = true := by
  rw [List.take_of_length_le (by omega)] at h; simp only [rbOk, h, hl, hn, decide_true, Bool.and_self]
theorem rb_long {bs : List Int} (h : 8192 < bs.length) : rbOk bs = false := by
  unfold rbOk; rw [decide_eq_false (by omega)]; rfl
theorem rb_no {bs : List Int} {k : Nat} {x : Int} (hx : bs[k]? = some x) (hf : isDig x = false) : rbOk bs = false := by
  unfold rbOk
  have : bs.all isDig = false := by
    rw [List.all_eq_false]; exact ⟨x, List.mem_of_getElem? hx, by simp [hf]⟩
  rw [this, Bool.and_false]
end Go.Proofs.Ythbmfaogjaahoaa
