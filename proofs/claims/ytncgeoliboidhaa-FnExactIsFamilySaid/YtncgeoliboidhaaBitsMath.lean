/-
  Plain mathematics of bit lists: what the functions of chapter 1 compute, on lists of integers.
  No condition.
-/
import Derived.WalkKit
namespace Go.Proofs.Ytncgeoliboidhaa
def inR (x lo hi : Int) : Bool := decide (lo ≤ x ∧ x ≤ hi)
theorem inR_yes {x lo hi : Int} (h1 : lo ≤ x) (h2 : x ≤ hi) : inR x lo hi = true := decide_eq_true ⟨h1, h2⟩
theorem inR_no {x lo hi : Int} (h : x < lo ∨ hi < x) : inR x lo hi = false := decide_eq_false (by omega)
def isBit (x : Int) : Bool := x == 0 || x == 1
def isBits (zs : List Int) : Bool := decide (zs.length ≤ 8192) && zs.all isBit

theorem all_take_snoc {f : Int → Bool} {zs : List Int} {k : Nat} {x : Int} (h : (zs.take k).all f = true) (hx : zs[k]? = some x) (hf : f x = true) : (zs.take (k + 1)).all f = true := by
  rw [List.take_add_one, hx, List.all_append, h]; simp [hf]
theorem isBits_yes {zs : List Int} {n : Nat} (hl : zs.length = n) (hn : n ≤ 8192) (h : (zs.take n).all isBit = true) : isBits zs = true := by
  rw [List.take_of_length_le (by omega)] at h; simp only [isBits, h, hl, hn, decide_true, Bool.and_self]
theorem isBits_long {zs : List Int} (h : 8192 < zs.length) : isBits zs = false := by
  unfold isBits; rw [decide_eq_false (by omega)]; rfl
theorem isBits_no {zs : List Int} {k : Nat} {x : Int} (hx : zs[k]? = some x) (hf : isBit x = false) : isBits zs = false := by
  unfold isBits
  have : zs.all isBit = false := by
    rw [List.all_eq_false]; exact ⟨x, List.mem_of_getElem? hx, by simp [hf]⟩
  rw [this, Bool.and_false]
theorem isBits_len {zs : List Int} (h : isBits zs = true) : zs.length ≤ 8192 := by
  unfold isBits at h; simp at h; exact h.1
theorem isBits_bit {zs : List Int} (h : isBits zs = true) {k : Nat} {x : Int} (hx : zs[k]? = some x) : x = 0 ∨ x = 1 := by
  unfold isBits at h; simp at h
  have := h.2 x (List.mem_of_getElem? hx)
  simpa [isBit] using this

/-- The code of a pair of lists. -/
def pairCode (a b : List Int) : Int := if isBits a && isBits b then (if a.length = b.length then 0 else 5) else 1
theorem pair_bad1 {a b : List Int} (h : isBits a = false) : pairCode a b = 1 := by simp [pairCode, h]
theorem pair_bad2 {a b : List Int} (h : isBits b = false) : pairCode a b = 1 := by simp [pairCode, h]
theorem pair_len {a b : List Int} (h : isBits a = true) (h' : isBits b = true) (hl : a.length ≠ b.length) : pairCode a b = 5 := by simp [pairCode, h, h', hl]
theorem pair_ok {a b : List Int} (h : isBits a = true) (h' : isBits b = true) (hl : a.length = b.length) : pairCode a b = 0 := by simp [pairCode, h, h', hl]
theorem pair_cases (a b : List Int) : pairCode a b = 1 ∨ pairCode a b = 5 ∨ (pairCode a b = 0 ∧ isBits a = true ∧ isBits b = true ∧ a.length = b.length) := by
  unfold pairCode
  by_cases h : isBits a = true <;> by_cases h' : isBits b = true <;> by_cases hl : a.length = b.length <;> simp_all

/-- How many indices two lists differ at. -/
def differ (a b : List Int) : Nat := (a.zip b).countP (fun p => p.1 != p.2)
theorem differ_nil : differ [] [] = 0 := rfl
theorem differ_le (a b : List Int) : differ a b ≤ a.length := by
  unfold differ
  have h1 := List.countP_le_length (p := fun p : Int × Int => p.1 != p.2) (l := a.zip b)
  have h2 : (a.zip b).length ≤ a.length := by rw [List.length_zip]; exact Nat.min_le_left _ _
  omega
theorem differ_snoc {a b : List Int} {k : Nat} {x y : Int} (ha : a[k]? = some x) (hb : b[k]? = some y) :
    differ (a.take (k + 1)) (b.take (k + 1)) = differ (a.take k) (b.take k) + if x = y then 0 else 1 := by
  have h1 : k < a.length := (List.getElem?_eq_some_iff.1 ha).1
  have h2 : k < b.length := (List.getElem?_eq_some_iff.1 hb).1
  rw [List.take_add_one, List.take_add_one, ha, hb]
  unfold differ
  rw [List.zip_append (by rw [List.length_take, List.length_take]; omega), List.countP_append]
  by_cases h : x = y <;> simp [h]

/-- The exclusive or of two bits. -/
def xorI (x y : Int) : Int := if x = y then 0 else 1
def xorL (a b : List Int) : List Int := List.zipWith xorI a b
theorem xorL_len {a b : List Int} (h : a.length = b.length) : (xorL a b).length = a.length := by simp [xorL, h]
theorem xorL_at {a b : List Int} {k : Nat} {x y : Int} (ha : a[k]? = some x) (hb : b[k]? = some y) : (xorL a b)[k]? = some (xorI x y) := by
  simp [xorL, List.getElem?_zipWith, ha, hb]

/-- The bits of a number in a width, the highest first. -/
def bitsOf (value : Int) (wd : Nat) : List Int := (List.range wd).map (fun i => value / 2 ^ (wd - 1 - i) % 2)
theorem bitsOf_len (value : Int) (wd : Nat) : (bitsOf value wd).length = wd := by simp [bitsOf]
theorem bitsOf_at (value : Int) {wd j : Nat} (h : j < wd) : (bitsOf value wd)[j]? = some (value / 2 ^ (wd - 1 - j) % 2) := by simp [bitsOf, h]

/-- The code of AppendBits. -/
def appCode (zs : List Int) (val wd : Int) : Int :=
  if isBits zs then (if inR wd 0 32 && inR val 0 (2 ^ wd.toNat - 1) then (if (zs.length : Int) + wd ≤ 8192 then 0 else 3) else 2) else 1
def appOf (zs : List Int) (val wd : Int) : List Int := if appCode zs val wd = 0 then zs ++ bitsOf val wd.toNat else []
theorem appOf_bad {zs : List Int} {val wd r : Int} (h : appCode zs val wd = r) (hr : r ≠ 0) : appOf zs val wd = [] := by
  rw [appOf, if_neg (by rw [h]; exact hr)]
theorem app_bad {zs : List Int} (h : isBits zs = false) (val wd : Int) : appCode zs val wd = 1 := by simp [appCode, h]
theorem app_wide {zs : List Int} (h : isBits zs = true) (val : Int) {wd : Int} (hw : inR wd 0 32 = false) : appCode zs val wd = 2 := by simp [appCode, h, hw]
theorem app_out {zs : List Int} (h : isBits zs = true) {val : Int} {wd : Nat} (hw : inR val 0 (2 ^ wd - 1) = false) : appCode zs val wd = 2 := by
  simp [appCode, h, hw]
theorem app_long {zs : List Int} (h : isBits zs = true) {val : Int} {wd : Nat} (hw : wd ≤ 32) (hv : inR val 0 (2 ^ wd - 1) = true) (hl : 8192 < zs.length + wd) : appCode zs val wd = 3 := by
  have h1 : inR (wd : Int) 0 32 = true := inR_yes (by omega) (by omega)
  simp only [appCode, h, h1, hv, Int.toNat_natCast, Bool.and_self, if_true]
  rw [if_neg (by omega)]
theorem app_ok {zs : List Int} (h : isBits zs = true) {val : Int} {wd : Nat} (hw : wd ≤ 32) (hv : inR val 0 (2 ^ wd - 1) = true) (hl : zs.length + wd ≤ 8192) : appCode zs val wd = 0 := by
  have h1 : inR (wd : Int) 0 32 = true := inR_yes (by omega) (by omega)
  simp only [appCode, h, h1, hv, Int.toNat_natCast, Bool.and_self, if_true]
  rw [if_pos (by omega)]

/-- The number that is written in bits. -/
def numVal (zs : List Int) : Int := zs.foldl (fun n x => 2 * n + x) 0
theorem numVal_snoc (zs : List Int) (x : Int) : numVal (zs ++ [x]) = 2 * numVal zs + x := by simp [numVal, List.foldl_append]
theorem numVal_bd : ∀ (n : Nat) (zs : List Int), zs.length = n → (∀ x ∈ zs, x = 0 ∨ x = 1) → 0 ≤ numVal zs ∧ numVal zs ≤ 2 ^ n - 1 := by
  intro n
  induction n with
  | zero => intro zs hl _; obtain rfl := List.eq_nil_of_length_eq_zero hl; simp [numVal]
  | succ n ih =>
    intro zs hl hb
    have hne : zs ≠ [] := by intro h; subst h; simp at hl
    obtain ⟨ys, y, rfl⟩ : ∃ ys y, zs = ys ++ [y] := ⟨zs.dropLast, zs.getLast hne, (List.dropLast_concat_getLast hne).symm⟩
    have h1 := ih ys (by simp at hl; exact hl) (fun x hx => hb x (by simp [hx]))
    have h2 := hb y (by simp)
    rw [numVal_snoc, Int.pow_succ]
    omega
theorem numVal_small {zs : List Int} (hl : zs.length ≤ 32) (hb : ∀ x ∈ zs, x = 0 ∨ x = 1) : 0 ≤ numVal zs ∧ numVal zs ≤ 4294967295 := by
  have h := numVal_bd _ zs rfl hb
  have h2 : (2 : Int) ^ zs.length ≤ 2 ^ 32 := by exact_mod_cast Nat.pow_le_pow_right (by decide) hl
  have h3 : (2 : Int) ^ 32 = 4294967296 := by decide
  omega
theorem isBits_all {zs : List Int} (h : isBits zs = true) : ∀ x ∈ zs, x = 0 ∨ x = 1 := by
  intro x hx
  obtain ⟨k, hk⟩ := List.getElem?_of_mem hx
  exact isBits_bit h hk

/-- What NumberAt gives. -/
def numCode (zs : List Int) (a wd : Int) : Int := if isBits zs then (if inR wd 0 32 && inR a 0 ((zs.length : Int) - wd) then 0 else 2) else 1
def numOf (zs : List Int) (a wd : Int) : Int := if numCode zs a wd = 0 then numVal ((zs.drop a.toNat).take wd.toNat) else 0
theorem num_bad {zs : List Int} (h : isBits zs = false) (a wd : Int) : numCode zs a wd = 1 := by simp [numCode, h]
theorem num_wide {zs : List Int} (h : isBits zs = true) (a : Int) {wd : Int} (hw : inR wd 0 32 = false) : numCode zs a wd = 2 := by simp [numCode, h, hw]
theorem num_out {zs : List Int} (h : isBits zs = true) {a wd : Int} (hw : inR a 0 ((zs.length : Int) - wd) = false) : numCode zs a wd = 2 := by simp [numCode, h, hw]
theorem num_ok {zs : List Int} (h : isBits zs = true) {a wd : Int} (h1 : inR wd 0 32 = true) (h2 : inR a 0 ((zs.length : Int) - wd) = true) : numCode zs a wd = 0 := by simp [numCode, h, h1, h2]
theorem numOf_bad {zs : List Int} {a wd r : Int} (h : numCode zs a wd = r) (hr : r ≠ 0) : numOf zs a wd = 0 := by rw [numOf, if_neg (by rw [h]; exact hr)]

/-- The bytes of a string, as numbers. -/
def bytesI (s : ByteArray) : List Int := s.data.toList.map (fun b => (b.toNat : Int))
theorem bytesI_len (s : ByteArray) : (bytesI s).length = s.size := by
  unfold bytesI; rw [List.length_map, Array.length_toList]; rfl
theorem byteAt (s : ByteArray) {k : Nat} (hk : k < s.size) : ∃ y : Int, (s[k].toNat : Int) = y ∧ (bytesI s)[k]? = some y ∧ 0 ≤ y ∧ y ≤ 255 := by
  refine ⟨(s[k].toNat : Int), rfl, ?_, by omega, by have := s[k].toNat_lt; omega⟩
  have hk' : k < s.data.size := hk
  unfold bytesI
  rw [List.getElem?_map, Array.getElem?_toList, Array.getElem?_eq_getElem hk']
  rfl
def strBits (bs : List Int) : List Int := bs.flatMap (fun b => bitsOf b 8)
theorem strBits_snoc (bs : List Int) (b : Int) : strBits (bs ++ [b]) = strBits bs ++ bitsOf b 8 := by simp [strBits, List.flatMap_append]
theorem strBits_len (bs : List Int) : (strBits bs).length = 8 * bs.length := by
  induction bs with
  | nil => rfl
  | cons b bs ih => simp only [strBits, List.flatMap_cons, List.length_append, bitsOf_len, List.length_cons] at ih ⊢; omega

/-- The bytes that bits make. -/
def strBytes (zs : List Int) : List Int := (List.range (zs.length / 8)).map (fun i => numVal ((zs.drop (8 * i)).take 8))
theorem strBytes_len (zs : List Int) : (strBytes zs).length = zs.length / 8 := by simp [strBytes]
theorem strBytes_at {zs : List Int} {k : Nat} (h : k < zs.length / 8) : (strBytes zs)[k]? = some (numVal ((zs.drop (8 * k)).take 8)) := by simp [strBytes, h]
theorem numVal8 {zs : List Int} (hl : zs.length ≤ 8) (hb : ∀ x ∈ zs, x = 0 ∨ x = 1) : 0 ≤ numVal zs ∧ numVal zs ≤ 255 := by
  have h := numVal_bd _ zs rfl hb
  have h2 : (2 : Int) ^ zs.length ≤ 2 ^ 8 := by exact_mod_cast Nat.pow_le_pow_right (by decide) hl
  have h3 : (2 : Int) ^ 8 = 256 := by decide
  omega
end Go.Proofs.Ytncgeoliboidhaa
