/-
  Plain mathematics of bit lists: what the functions of chapter 1 compute, on lists of integers.
  The contract of the model's test of a range.
  The contracts of the model's smallest functions of fields.
  The contracts of the model's functions that tell whether a field is valid.
  The contracts of the model's FieldSize, FieldAdd, FieldNeg and FieldMul, and of what tells their errors.
  Condition: as each statement says.
-/
import Derived.WalkKit
import Derived.Test.YtncgeoliboidhaaGreatProg
import Derived.Test.YtncgeoliboidhaaGreatWords
import Derived.Test.YtncgeoliboidhaaGreatVB
import Derived.Test.YtncgeoliboidhaaGreatVA
import Derived.Deep.RegionHeld3
namespace Go.Proofs.YtncgeoliboidhaaGreat
def inR (x lo hi : Int) : Bool := decide (lo ≤ x ∧ x ≤ hi)
theorem inR_yes {x lo hi : Int} (h1 : lo ≤ x) (h2 : x ≤ hi) : inR x lo hi = true := decide_eq_true ⟨h1, h2⟩
theorem inR_no {x lo hi : Int} (h : x < lo ∨ hi < x) : inR x lo hi = false := decide_eq_false (by omega)
def isBit (x : Int) : Bool := x == 0 || x == 1
def isBits (zs : List Int) : Bool := decide (zs.length ≤ 8192) && zs.all isBit

theorem all_take_snoc {f : Int → Bool} {zs : List Int} {k : Nat} {x : Int} (h : (zs.take k).all f = true) (hx : zs[k]? = some x) (hf : f x = true) : (zs.take (k + 1)).all f = true := by
  rw [List.take_add_one, hx, List.all_append, h]; simp [hf]
theorem isBits_yes {zs : List Int} {n : Nat} (hl : zs.length = n) (hn : n ≤ 8192) (h : (zs.take n).all isBit = true) : isBits zs = true := by
  rw [List.take_of_length_le (by omega)] at h; simp only [isBits, h, hl, hn, decide_true, Bool.and_self]
theorem isBits_long {zs : List Int} (h : 8192 < zs.length) : isBits zs = false := by
  unfold isBits; rw [decide_eq_false (by omega)]; rfl
theorem isBits_no {zs : List Int} {k : Nat} {x : Int} (hx : zs[k]? = some x) (hf : isBit x = false) : isBits zs = false := by
  unfold isBits
  have : zs.all isBit = false := by
    rw [List.all_eq_false]; exact ⟨x, List.mem_of_getElem? hx, by simp [hf]⟩
  rw [this, Bool.and_false]
theorem isBits_len {zs : List Int} (h : isBits zs = true) : zs.length ≤ 8192 := by
  unfold isBits at h; simp at h; exact h.1
theorem isBits_bit {zs : List Int} (h : isBits zs = true) {k : Nat} {x : Int} (hx : zs[k]? = some x) : x = 0 ∨ x = 1 := by
  unfold isBits at h; simp at h
  have := h.2 x (List.mem_of_getElem? hx)
  simpa [isBit] using this

/-- The code of a pair of lists. -/
def pairCode (a b : List Int) : Int := if isBits a && isBits b then (if a.length = b.length then 0 else 5) else 1
theorem pair_bad1 {a b : List Int} (h : isBits a = false) : pairCode a b = 1 := by simp [pairCode, h]
theorem pair_bad2 {a b : List Int} (h : isBits b = false) : pairCode a b = 1 := by simp [pairCode, h]
theorem pair_len {a b : List Int} (h : isBits a = true) (h' : isBits b = true) (hl : a.length ≠ b.length) : pairCode a b = 5 := by simp [pairCode, h, h', hl]
theorem pair_ok {a b : List Int} (h : isBits a = true) (h' : isBits b = true) (hl : a.length = b.length) : pairCode a b = 0 := by simp [pairCode, h, h', hl]
theorem pair_cases (a b : List Int) : pairCode a b = 1 ∨ pairCode a b = 5 ∨ (pairCode a b = 0 ∧ isBits a = true ∧ isBits b = true ∧ a.length = b.length) := by
  unfold pairCode
  by_cases h : isBits a = true <;> by_cases h' : isBits b = true <;> by_cases hl : a.length = b.length <;> simp_all

/-- How many indices two lists differ at. -/
def differ (a b : List Int) : Nat := (a.zip b).countP (fun p => p.1 != p.2)
theorem differ_nil : differ [] [] = 0 := rfl
theorem differ_le (a b : List Int) : differ a b ≤ a.length := by
  unfold differ
  have h1 := List.countP_le_length (p := fun p : Int × Int => p.1 != p.2) (l := a.zip b)
  have h2 : (a.zip b).length ≤ a.length := by rw [List.length_zip]; exact Nat.min_le_left _ _
  omega
theorem differ_snoc {a b : List Int} {k : Nat} {x y : Int} (ha : a[k]? = some x) (hb : b[k]? = some y) :
    differ (a.take (k + 1)) (b.take (k + 1)) = differ (a.take k) (b.take k) + if x = y then 0 else 1 := by
  have h1 : k < a.length := (List.getElem?_eq_some_iff.1 ha).1
  have h2 : k < b.length := (List.getElem?_eq_some_iff.1 hb).1
  rw [List.take_add_one, List.take_add_one, ha, hb]
  unfold differ
  rw [List.zip_append (by rw [List.length_take, List.length_take]; omega), List.countP_append]
  by_cases h : x = y <;> simp [h]

/-- The exclusive or of two bits. -/
def xorI (x y : Int) : Int := if x = y then 0 else 1
def xorL (a b : List Int) : List Int := List.zipWith xorI a b
theorem xorL_len {a b : List Int} (h : a.length = b.length) : (xorL a b).length = a.length := by simp [xorL, h]
theorem xorL_at {a b : List Int} {k : Nat} {x y : Int} (ha : a[k]? = some x) (hb : b[k]? = some y) : (xorL a b)[k]? = some (xorI x y) := by
  simp [xorL, List.getElem?_zipWith, ha, hb]

/-- The bits of a number in a width, the highest first. -/
def bitsOf (value : Int) (wd : Nat) : List Int := (List.range wd).map (fun i => value / 2 ^ (wd - 1 - i) % 2)
theorem bitsOf_len (value : Int) (wd : Nat) : (bitsOf value wd).length = wd := by simp [bitsOf]
theorem bitsOf_at (value : Int) {wd j : Nat} (h : j < wd) : (bitsOf value wd)[j]? = some (value / 2 ^ (wd - 1 - j) % 2) := by simp [bitsOf, h]

/-- The code of AppendBits. -/
def appCode (zs : List Int) (val wd : Int) : Int :=
  if isBits zs then (if inR wd 0 32 && inR val 0 (2 ^ wd.toNat - 1) then (if (zs.length : Int) + wd ≤ 8192 then 0 else 3) else 2) else 1
def appOf (zs : List Int) (val wd : Int) : List Int := if appCode zs val wd = 0 then zs ++ bitsOf val wd.toNat else []
theorem appOf_bad {zs : List Int} {val wd r : Int} (h : appCode zs val wd = r) (hr : r ≠ 0) : appOf zs val wd = [] := by
  rw [appOf, if_neg (by rw [h]; exact hr)]
theorem app_bad {zs : List Int} (h : isBits zs = false) (val wd : Int) : appCode zs val wd = 1 := by simp [appCode, h]
theorem app_wide {zs : List Int} (h : isBits zs = true) (val : Int) {wd : Int} (hw : inR wd 0 32 = false) : appCode zs val wd = 2 := by simp [appCode, h, hw]
theorem app_out {zs : List Int} (h : isBits zs = true) {val : Int} {wd : Nat} (hw : inR val 0 (2 ^ wd - 1) = false) : appCode zs val wd = 2 := by
  simp [appCode, h, hw]
theorem app_long {zs : List Int} (h : isBits zs = true) {val : Int} {wd : Nat} (hw : wd ≤ 32) (hv : inR val 0 (2 ^ wd - 1) = true) (hl : 8192 < zs.length + wd) : appCode zs val wd = 3 := by
  have h1 : inR (wd : Int) 0 32 = true := inR_yes (by omega) (by omega)
  simp only [appCode, h, h1, hv, Int.toNat_natCast, Bool.and_self, if_true]
  rw [if_neg (by omega)]
theorem app_ok {zs : List Int} (h : isBits zs = true) {val : Int} {wd : Nat} (hw : wd ≤ 32) (hv : inR val 0 (2 ^ wd - 1) = true) (hl : zs.length + wd ≤ 8192) : appCode zs val wd = 0 := by
  have h1 : inR (wd : Int) 0 32 = true := inR_yes (by omega) (by omega)
  simp only [appCode, h, h1, hv, Int.toNat_natCast, Bool.and_self, if_true]
  rw [if_pos (by omega)]

/-- The number that is written in bits. -/
def numVal (zs : List Int) : Int := zs.foldl (fun n x => 2 * n + x) 0
theorem numVal_snoc (zs : List Int) (x : Int) : numVal (zs ++ [x]) = 2 * numVal zs + x := by simp [numVal, List.foldl_append]
theorem numVal_bd : ∀ (n : Nat) (zs : List Int), zs.length = n → (∀ x ∈ zs, x = 0 ∨ x = 1) → 0 ≤ numVal zs ∧ numVal zs ≤ 2 ^ n - 1 := by
  intro n
  induction n with
  | zero => intro zs hl _; obtain rfl := List.eq_nil_of_length_eq_zero hl; simp [numVal]
  | succ n ih =>
    intro zs hl hb
    have hne : zs ≠ [] := by intro h; subst h; simp at hl
    obtain ⟨ys, y, rfl⟩ : ∃ ys y, zs = ys ++ [y] := ⟨zs.dropLast, zs.getLast hne, (List.dropLast_concat_getLast hne).symm⟩
    have h1 := ih ys (by simp at hl; exact hl) (fun x hx => hb x (by simp [hx]))
    have h2 := hb y (by simp)
    rw [numVal_snoc, Int.pow_succ]
    omega
theorem numVal_small {zs : List Int} (hl : zs.length ≤ 32) (hb : ∀ x ∈ zs, x = 0 ∨ x = 1) : 0 ≤ numVal zs ∧ numVal zs ≤ 4294967295 := by
  have h := numVal_bd _ zs rfl hb
  have h2 : (2 : Int) ^ zs.length ≤ 2 ^ 32 := by exact_mod_cast Nat.pow_le_pow_right (by decide) hl
  have h3 : (2 : Int) ^ 32 = 4294967296 := by decide
  omega
theorem isBits_all {zs : List Int} (h : isBits zs = true) : ∀ x ∈ zs, x = 0 ∨ x = 1 := by
  intro x hx
  obtain ⟨k, hk⟩ := List.getElem?_of_mem hx
  exact isBits_bit h hk

/-- What NumberAt gives. -/
def numCode (zs : List Int) (a wd : Int) : Int := if isBits zs then (if inR wd 0 32 && inR a 0 ((zs.length : Int) - wd) then 0 else 2) else 1
def numOf (zs : List Int) (a wd : Int) : Int := if numCode zs a wd = 0 then numVal ((zs.drop a.toNat).take wd.toNat) else 0
theorem num_bad {zs : List Int} (h : isBits zs = false) (a wd : Int) : numCode zs a wd = 1 := by simp [numCode, h]
theorem num_wide {zs : List Int} (h : isBits zs = true) (a : Int) {wd : Int} (hw : inR wd 0 32 = false) : numCode zs a wd = 2 := by simp [numCode, h, hw]
theorem num_out {zs : List Int} (h : isBits zs = true) {a wd : Int} (hw : inR a 0 ((zs.length : Int) - wd) = false) : numCode zs a wd = 2 := by simp [numCode, h, hw]
theorem num_ok {zs : List Int} (h : isBits zs = true) {a wd : Int} (h1 : inR wd 0 32 = true) (h2 : inR a 0 ((zs.length : Int) - wd) = true) : numCode zs a wd = 0 := by simp [numCode, h, h1, h2]
theorem numOf_bad {zs : List Int} {a wd r : Int} (h : numCode zs a wd = r) (hr : r ≠ 0) : numOf zs a wd = 0 := by rw [numOf, if_neg (by rw [h]; exact hr)]

/-- The bytes of a string, as numbers. -/
def bytesI (s : ByteArray) : List Int := s.data.toList.map (fun b => (b.toNat : Int))
theorem bytesI_len (s : ByteArray) : (bytesI s).length = s.size := by
  unfold bytesI; rw [List.length_map, Array.length_toList]; rfl
theorem byteAt (s : ByteArray) {k : Nat} (hk : k < s.size) : ∃ y : Int, (s[k].toNat : Int) = y ∧ (bytesI s)[k]? = some y ∧ 0 ≤ y ∧ y ≤ 255 := by
  refine ⟨(s[k].toNat : Int), rfl, ?_, by omega, by have := s[k].toNat_lt; omega⟩
  have hk' : k < s.data.size := hk
  unfold bytesI
  rw [List.getElem?_map, Array.getElem?_toList, Array.getElem?_eq_getElem hk']
  rfl
def strBits (bs : List Int) : List Int := bs.flatMap (fun b => bitsOf b 8)
theorem strBits_snoc (bs : List Int) (b : Int) : strBits (bs ++ [b]) = strBits bs ++ bitsOf b 8 := by simp [strBits, List.flatMap_append]
theorem strBits_len (bs : List Int) : (strBits bs).length = 8 * bs.length := by
  induction bs with
  | nil => rfl
  | cons b bs ih => simp only [strBits, List.flatMap_cons, List.length_append, bitsOf_len, List.length_cons] at ih ⊢; omega

/-- The bytes that bits make. -/
def strBytes (zs : List Int) : List Int := (List.range (zs.length / 8)).map (fun i => numVal ((zs.drop (8 * i)).take 8))
theorem strBytes_len (zs : List Int) : (strBytes zs).length = zs.length / 8 := by simp [strBytes]
theorem strBytes_at {zs : List Int} {k : Nat} (h : k < zs.length / 8) : (strBytes zs)[k]? = some (numVal ((zs.drop (8 * k)).take 8)) := by simp [strBytes, h]
theorem numVal8 {zs : List Int} (hl : zs.length ≤ 8) (hb : ∀ x ∈ zs, x = 0 ∨ x = 1) : 0 ≤ numVal zs ∧ numVal zs ≤ 255 := by
  have h := numVal_bd _ zs rfl hb
  have h2 : (2 : Int) ^ zs.length ≤ 2 ^ 8 := by exact_mod_cast Nat.pow_le_pow_right (by decide) hl
  have h3 : (2 : Int) ^ 8 = 256 := by decide
  omega
end Go.Proofs.YtncgeoliboidhaaGreat

namespace Go.Proofs.YtncgeoliboidhaaGreat
open Go.RowKit

set_option maxHeartbeats 400000 in
theorem specIn (x lo hi : Int) (w : World) :
    Calls Tryz.prog 26 #[.int .i64 x, .int .i64 lo, .int .i64 hi] w fun e w' => e = .returned (.bool (inR x lo hi)) ∧ w = w' := by
  by_cases h1 : lo ≤ x
  · by_cases h2 : x ≤ hi
    · have HH := hide (inR_yes h1 h2)
      go_enter Tryz.func26, Tryz.ntmps26
      go_wp2
      go_ret
      exact ⟨ret_bool HH, rfl⟩
    · have HH := hide (inR_no (x := x) (lo := lo) (hi := hi) (by omega))
      have h2' : decide (x ≤ hi) = false := by simpa using h2
      go_enter Tryz.func26, Tryz.ntmps26
      go_wp2
      go_ret
      exact ⟨ret_bool HH, rfl⟩
  · have HH := hide (inR_no (x := x) (lo := lo) (hi := hi) (by omega))
    have h1' : decide (lo ≤ x) = false := by simpa using h1
    go_enter Tryz.func26, Tryz.ntmps26
    go_wp2
    go_ret
    exact ⟨ret_bool HH, rfl⟩

theorem specIn_yes (x lo hi : Int) (w : World) (h1 : lo ≤ x) (h2 : x ≤ hi) :
    Calls Tryz.prog 26 #[.int .i64 x, .int .i64 lo, .int .i64 hi] w fun e w' => e = .returned (.bool true) ∧ w = w' :=
  (specIn x lo hi w).mono fun _ _ ⟨he, hw⟩ => ⟨by rw [he, inR_yes h1 h2], hw⟩
theorem specIn_no (x lo hi : Int) (w : World) (h : x < lo ∨ hi < x) :
    Calls Tryz.prog 26 #[.int .i64 x, .int .i64 lo, .int .i64 hi] w fun e w' => e = .returned (.bool false) ∧ w = w' :=
  (specIn x lo hi w).mono fun _ _ ⟨he, hw⟩ => ⟨by rw [he, inR_no h], hw⟩

theorem specIn_is (x lo hi : Int) (b : Bool) (w : World) (h : inR x lo hi = b) :
    Calls Tryz.prog 26 #[.int .i64 x, .int .i64 lo, .int .i64 hi] w fun e w' => e = .returned (.bool b) ∧ w = w' := by
  rw [← h]; exact specIn x lo hi w
end Go.Proofs.YtncgeoliboidhaaGreat

namespace Go.Proofs.YtncgeoliboidhaaGreat
open Go.RowKit
set_option linter.unusedSimpArgs false
set_option linter.unusedVariables false

set_option maxHeartbeats 400000 in
theorem specSize {p k g : Int} {q : Nat} {mul : Nat → Nat → Nat} (h : Kd p k g q mul) (w : World) :
    Calls Tryz.prog 39 #[.agg #[.int .i64 p, .int .i64 k, .int .i64 g]] w (Gives (.int .i64 q) w) := by
  cases h with
  | one _ _ h3 h =>
    go_enter Tryz.func39, Tryz.ntmps39
    go_wp2_with fail
    go_ret
    exact ⟨rfl, (Below.refl _ _).alloc (Nat.le_refl _) _⟩
  | two K G h3 h8 hG hG2 =>
    clear hG hG2
    have e1 : ((K : Int) == 1) = false := by simp; omega
    obtain ⟨pw, hpw, he, hp1, hp2⟩ := pow_fits K (by omega)
    have HE := hide he
    clear he
    go_enter Tryz.func39, Tryz.ntmps39
    go_wp2_with fail
    go_ret
    exact ⟨ret_int (by rw [hpw, HE.out]; simp), (Below.refl _ _).alloc (Nat.le_refl _) _⟩

theorem shlI {a j : Nat} (ha : a < 512) (hj : j ≤ 9) : wrap64 ((a : Int) * 2 ^ j) = ((a <<< j : Nat) : Int) ∧ a <<< j < 524288 := by
  have h1 : a <<< j < 524288 := by
    rw [Nat.shiftLeft_eq]
    have h2 : 2 ^ j ≤ 2 ^ 9 := Nat.pow_le_pow_right (by decide) hj
    have h3 : a * 2 ^ j ≤ 511 * 2 ^ 9 := Nat.mul_le_mul (by omega) h2
    omega
  have e : (a : Int) * 2 ^ j = ((a <<< j : Nat) : Int) := by rw [Nat.shiftLeft_eq]; push_cast; rfl
  rw [e]
  generalize a <<< j = y at h1
  exact ⟨IntWalk.wrap64_in _ ⟨by omega, by omega⟩, h1⟩
theorem bit_test {b i : Nat} (hb : b < 131072) : (bits .and .i64 ((b : Int) / 2 ^ i) 1 == 1) = b.testBit i := by
  have hc : ((b : Int) / 2 ^ i) = ((b / 2 ^ i : Nat) : Int) := by simp
  have h1 : b / 2 ^ i ≤ b := Nat.div_le_self _ _
  rw [hc, Nat.testBit_eq_decide_div_mod_eq]
  generalize b / 2 ^ i = x at h1
  rw [and1 _ (by omega) (by omega), Bool.eq_iff_iff]
  simp only [beq_iff_eq, decide_eq_true_eq]
  omega
theorem cl_step1 {a b K j r : Nat} (h8 : K ≤ 8) (hj : j < K) (ha : a < 2 ^ K) (hb : b < 256) (hr : r = cl a b j) (h2 : (bits .and .i64 ((b : Int) / 2 ^ j) 1 == 1) = true) :
    bits .xor .i64 (r : Int) (wrap64 ((a : Int) * 2 ^ j)) = ((cl a b (j + 1) : Nat) : Int) := by
  rw [bit_test (by omega)] at h2
  have hp : 2 ^ K ≤ 2 ^ 8 := Nat.pow_le_pow_right (by decide) h8
  obtain ⟨e, hl⟩ := shlI (a := a) (j := j) (by omega) (by omega)
  have h3 := cl_lt a b K ha j
  have h4 : 2 ^ (K + j) ≤ 2 ^ 16 := Nat.pow_le_pow_right (by decide) (by omega)
  rw [e, i64xor _ _ (by omega) (by omega), cl, if_pos h2, hr]
theorem cl_step0 {a b j r : Nat} (hb : b < 256) (hr : r = cl a b j) (h2 : (bits .and .i64 ((b : Int) / 2 ^ j) 1 == 1) = false) : r = cl a b (j + 1) := by
  rw [bit_test (by omega)] at h2
  rw [cl, h2, hr]; simp
theorem rd_step1 {K G m x r : Nat} (h8 : K ≤ 8) (hm : m ≤ K) (hG2 : G < 2 ^ (K + 1)) (hx : x < 2 ^ (2 * K + 1)) (hr : rdAll K G (m + 1) x = r) (h2 : (bits .and .i64 ((x : Int) / 2 ^ (K + m)) 1 == 1) = true) :
    bits .xor .i64 (x : Int) (wrap64 ((G : Int) * 2 ^ m)) = ((rd K G (K + m) x : Nat) : Int) := by
  have hp : 2 ^ (2 * K + 1) ≤ 2 ^ 17 := Nat.pow_le_pow_right (by decide) (by omega)
  have hp2 : 2 ^ (K + 1) ≤ 2 ^ 9 := Nat.pow_le_pow_right (by decide) (by omega)
  rw [bit_test (by omega)] at h2
  obtain ⟨e, hl⟩ := shlI (a := G) (j := m) (by omega) (by omega)
  rw [e, i64xor _ _ (by omega) (by omega), rd, if_pos h2, show K + m - K = m by omega]
theorem rd_step0 {K G m x : Nat} (h8 : K ≤ 8) (hx : x < 2 ^ (2 * K + 1)) (h2 : (bits .and .i64 ((x : Int) / 2 ^ (K + m)) 1 == 1) = false) : x = rd K G (K + m) x := by
  have hp : 2 ^ (2 * K + 1) ≤ 2 ^ 17 := Nat.pow_le_pow_right (by decide) (by omega)
  rw [bit_test (by omega)] at h2
  rw [rd, h2]; simp
theorem rd_rel {K G m x : Nat} {v : Int} {r : Nat} (h8 : K ≤ 8) (hm : m ≤ K) (hG2 : G < 2 ^ (K + 1)) (hx : x < 2 ^ (2 * K + 1)) (hr : rdAll K G (m + 1) x = r) (hv : v = ((rd K G (K + m) x : Nat) : Int)) :
    ∃ (m' x' : Nat) (kk : Int), m' ≤ K + 1 ∧ kk = (K : Int) + (m' : Int) - 1 ∧ Value.int .i64 ((K : Int) + (m : Int) - 1) = .int .i64 kk ∧ Value.int .i64 v = .int .i64 x' ∧ x' < 131072 ∧ Hid (x' < 2 ^ (2 * K + 1)) ∧ Hid (rdAll K G m' x' = r) := by
  have h1 : rd K G (K + m) x < 2 ^ (2 * K + 1) := rd_lt hG2 hx (by omega) (by omega)
  have hp : 2 ^ (2 * K + 1) ≤ 2 ^ 17 := Nat.pow_le_pow_right (by decide) (by omega)
  exact ⟨m, _, _, by omega, rfl, rfl, by rw [hv], by omega, h1, hr⟩

set_option maxHeartbeats 1000000 in
theorem specMul0 {p k g : Int} {q : Nat} {mul : Nat → Nat → Nat} (h : Kd p k g q mul) (a b : Nat) (ha : a < q) (hb : b < q) (w : World) :
    Calls Tryz.prog 134 #[.agg #[.int .i64 p, .int .i64 k, .int .i64 g], .int .i64 a, .int .i64 b] w (Gives (.int .i64 (mul a b : Nat)) w) := by
  have HQ := hide h.big
  cases h with
  | one _ _ h3 h =>
    have hab : (a : Int) * (b : Int) ≤ 1042441 := mul_bd (by omega) (by omega)
    have hab0 : 0 ≤ (a : Int) * (b : Int) := Int.mul_nonneg (by omega) (by omega)
    go_enter Tryz.func134, Tryz.ntmps134
    go_wp2_with fail
    go_ret
    exact ⟨ret_int (mod_mul1 q a b), (Box.start w 25 _ _ g).2⟩
  | two K G h3 h8 hG hG2 =>
    have HX := hide (Box.start w 25 2 K G)
    have HP := hide hG
    have HP2 := hide hG2
    have HS := hide (pow_small h3 h8)
    have HM := hide (cl_mul2 K G a b ha)
    have HL := hide (cl_lt a b K ha K)
    have HA := hide ha
    have hb8 : b < 256 := by have := HS.out; omega
    have ha8 : a < 256 := by have := HS.out; omega
    clear hG hG2 ha hb
    have e1 : ((K : Int) == 1) = false := by simp; omega
    go_enter Tryz.func134, Tryz.ntmps134
    go_wp2_with fail
    go_loop [7, 8] (fun s i => ∃ j r : Nat, j ≤ K ∧ i = .int .i64 j ∧ s = .int .i64 r ∧ Hid (r = cl a b j)) (fun _ i => K - (intOf i).toNat)
    case atStart => exact ⟨0, 0, by omega, rfl, rfl, rfl⟩
    case round =>
      obtain ⟨j, r, hj, rfl, rfl, HR⟩ := hrel
      by_cases hlt : j < K
      · rcases h2 : (bits .and .i64 ((b : Int) / 2 ^ j) 1 == 1) with _ | _
        · have HV := hide (cl_step0 hb8 HR h2)
          go_wp2_with fail
          go_round
          case rel => exact ⟨j + 1, r, by omega, by go_num, rfl, HV⟩
          case measure => simp [intOf]; omega
        · have HV := hide (cl_step1 h8 hlt HA hb8 HR h2)
          go_wp2_with fail
          go_round
          case rel => exact ⟨j + 1, _, by omega, by go_num, by rw [HV.out], rfl⟩
          case measure => simp [intOf]; omega
      · obtain rfl : j = K := by omega
        have HM2 := hide (show rdAll j G (j + 1) r = mul2 j G a b by rw [HR.out]; exact HM)
        have HL2 := hide (show r < 2 ^ (2 * j + 1) by
          rw [HR.out]
          exact Nat.lt_of_lt_of_le HL.out (Nat.pow_le_pow_right (by decide) (by omega)))
        have hr17 : r < 131072 := Nat.lt_of_lt_of_le HL2.out (Nat.pow_le_pow_right (n := 2) (j := 17) (by decide) (by omega))
        clear HR HM HL hj hlt
        go_wp2_with fail
        go_loop [7, 9] (fun s i => ∃ (m x : Nat) (kk : Int), m ≤ j + 1 ∧ kk = (j : Int) + (m : Int) - 1 ∧ i = .int .i64 kk ∧ s = .int .i64 x ∧ x < 131072 ∧ Hid (x < 2 ^ (2 * j + 1)) ∧ Hid (rdAll j G m x = mul2 j G a b)) (fun _ i => (intOf i - j + 1).toNat)
        case atStart => exact ⟨j + 1, r, _, by omega, rfl, by first | (congr 1; push_cast; omega) | go_num, rfl, hr17, HL2, HM2⟩
        case round =>
          clear HM2 HL2 hr17
          obtain ⟨m, x, kk, hm, hkk, rfl, rfl, hx, HXX, HR2⟩ := hrel
          by_cases hm0 : m = 0
          · subst hm0
            obtain rfl : kk = (j : Int) - 1 := by omega
            have HF := hide (show ((mul2 j G a b : Nat) : Int) = (x : Int) by rw [← HR2.out]; rfl)
            clear hkk HR2
            go_wp2_with fail
            go_ret
            exact ⟨ret_int HF, HX.out.2⟩
          · obtain ⟨m, rfl⟩ : ∃ i, m = i + 1 := ⟨m - 1, by omega⟩
            obtain rfl : kk = ((j + m : Nat) : Int) := by omega
            clear hkk hm0
            have hkk1 : (j : Int) ≤ ((j + m : Nat) : Int) := by omega
            rcases h2 : (bits .and .i64 ((x : Int) / 2 ^ (j + m)) 1 == 1) with _ | _
            · have HV := hide (show (x : Int) = ((rd j G (j + m) x : Nat) : Int) by rw [← rd_step0 h8 HXX h2])
              go_wp2_with fail
              go_round
              case rel => exact rd_rel h8 (by omega) HP2 HXX HR2 HV
              case measure => simp [intOf]; omega
            · have HV := hide (rd_step1 h8 (by omega) HP2 HXX HR2 h2)
              go_wp2_with fail
              go_round
              case rel => exact rd_rel h8 (by omega) HP2 HXX HR2 HV
              case measure => simp [intOf]; omega
end Go.Proofs.YtncgeoliboidhaaGreat

namespace Go.Proofs.YtncgeoliboidhaaGreat
open Go.RowKit
set_option linter.unusedSimpArgs false
set_option linter.unusedVariables false

set_option maxHeartbeats 400000 in
theorem specPrime (n : Nat) (h2n : 2 ≤ n) (hn : n ≤ 1021) (w : World) :
    Calls Tryz.prog 102 #[.int .i64 n] w fun e w' => e = .returned (.bool (primeB n)) ∧ w = w' := by
  go_enter Tryz.func102, Tryz.ntmps102
  go_wp2
  go_loop [3] (fun i => ∃ d : Nat, 2 ≤ d ∧ d ≤ 32 ∧ i = .int .i64 d ∧ Hid (∀ e, e < d → 2 ≤ e → n % e ≠ 0)) (fun i => 33 - (intOf i).toNat)
  case atStart => exact ⟨2, by omega, by omega, rfl, fun e h1 h2 => by omega⟩
  case round =>
    obtain ⟨d, h2, h32, rfl, HD⟩ := hrel
    obtain ⟨hs1, hs0⟩ := sq_bd (d := d) (by omega)
    by_cases hle : d * d ≤ n
    · have hle' : (d : Int) * (d : Int) ≤ (n : Int) := by have := Int.ofNat_le.2 hle; rwa [Int.natCast_mul] at this
      have h31 := root_bd hn hle
      by_cases hm : n % d = 0
      · have HN := hide (primeB_no h2 hle hm)
        have hm' : ((n : Int) % (d : Int) == 0) = true := by rw [← Int.natCast_emod, hm]; rfl
        clear hm hle
        go_wp2
        go_ret
        exact ⟨ret_bool HN, rfl⟩
      · have hm' : ((n : Int) % (d : Int) == 0) = false := by
          rw [← Int.natCast_emod]; simp; omega
        have HM := hide hm
        clear hm hle
        go_wp2
        go_round
        case rel => exact ⟨d + 1, by omega, by omega, by go_num, fun e h1 h2 => by
          rcases Nat.lt_or_ge e d with h3 | h3
          · exact HD.out e h3 h2
          · rw [show e = d by omega]; exact HM⟩
        case measure => simp [intOf]; omega
    · have hle' : decide ((d : Int) * (d : Int) ≤ (n : Int)) = false := by
        simp only [decide_eq_false_iff_not]
        intro h; exact hle (by rw [← Int.natCast_mul] at h; exact Int.ofNat_le.1 h)
      have HY := hide (primeB_yes (by omega) HD)
      clear hle
      go_wp2
      go_ret
      exact ⟨ret_bool (by rw [HY.out]; symm; rw [decide_eq_true_eq]; omega), rfl⟩

def RunRel (w : World) (p k g : Int) (q : Nat) (mul : Nat → Nat → Nat) (a : Nat) (s i : Value) (wr : World) : Prop :=
  ∃ j x : Nat, 1 ≤ j ∧ j ≤ q ∧ i = .int .i64 j ∧ s = .int .i64 x ∧ x < q ∧ Hid (x = pw mul a j) ∧ Hid (∀ e, e < j → 1 ≤ e → pw mul a e ≠ 1) ∧ Box w wr 25 p k g

set_option maxHeartbeats 2000000 in
theorem specRuns {p k g : Int} {q : Nat} {mul : Nat → Nat → Nat} (h : Kd p k g q mul) (a : Nat) (ha : a < q) (w : World) :
    Calls Tryz.prog 103 #[.agg #[.int .i64 p, .int .i64 k, .int .i64 g], .int .i64 a] w (Gives (.bool (gen q mul a)) w) := by
  obtain ⟨hq3, hq⟩ := h.big
  have M := h.mon
  go_enter Tryz.func103, Tryz.ntmps103
  go_wp2_with fail
  go_loopw [5, 6] (fun s i wr => RunRel w p k g q mul a s i wr) (fun _ i _ => q + 1 - (intOf i).toNat)
  case atStart => exact ⟨1, a, by omega, by omega, rfl, rfl, ha, by rw [pw_one M ha]; rfl, fun e h1 h2 => by omega, Box.start w _ _ _ _⟩
  case round =>
    obtain ⟨j, x, hj1, hj, rfl, rfl, hx, HXJ, HE, HX⟩ := hrel
    have HX := hide HX
    obtain ⟨c0, c1, c2⟩ := HX.out.cells
    by_cases hx1 : x = 1
    · subst hx1
      by_cases hjq : j = q - 1
      · have HN := hide (gen_yes M (a := a) (by rw [← hjq]; exact HXJ.out.symm) (fun e h1 h2 => HE.out e (by omega) h2))
        have ej : ((j : Int) == (q : Int) - 1) = true := by simp; omega
        clear hjq
        go_wp2_with fail
        refine (specSize h _).mono ?_
        rintro e w1 ⟨rfl, hb⟩
        have HX1 := hide (HX.out.next hb)
        clear hb
        go_wp2_with fail
        go_ret
        exact ⟨ret_bool HN, HX1.out.2⟩
      · have HN := hide (show gen q mul a = false by
          rcases Nat.lt_or_ge j (q - 1) with h1 | h1
          · exact gen_no_early M h1 hj1 HXJ.out.symm
          · exact gen_no_last M (HE.out (q - 1) (by omega) (by omega)))
        have ej : ((j : Int) == (q : Int) - 1) = false := by simp; omega
        clear hjq
        go_wp2_with fail
        refine (specSize h _).mono ?_
        rintro e w1 ⟨rfl, hb⟩
        have HX1 := hide (HX.out.next hb)
        clear hb
        go_wp2_with fail
        go_ret
        exact ⟨ret_bool HN, HX1.out.2⟩
    · have e1 : ((x : Int) != 1) = true := by simp; omega
      have e1' : ((x : Int) == 1) = false := by simp; omega
      have HN1 := hide hx1
      clear hx1
      by_cases hx0 : x = 0
      · subst hx0
        have HN := hide (show gen q mul a = false by
          rcases Nat.lt_or_ge j q with h1 | h1
          · exact gen_no_zero M ha (by omega) HXJ.out.symm
          · exact gen_no_last M (HE.out (q - 1) (by omega) (by omega)))
        go_wp2_with fail
        go_ret
        exact ⟨ret_bool HN, HX.out.2⟩
      · have e0 : ((x : Int) != 0) = true := by simp; omega
        clear hx0
        by_cases hlt : j < q
        · go_wp2_with fail
          refine (specSize h _).mono ?_
          rintro e w1 ⟨rfl, hb⟩
          have HX1 := hide (HX.out.next hb)
          clear hb c0 c1 c2
          obtain ⟨c0, c1, c2⟩ := HX1.out.cells
          go_wp2_with fail
          refine (specMul0 h x a hx ha _).mono ?_
          rintro e w2 ⟨rfl, hb⟩
          have HX2 := hide (HX1.out.next hb)
          clear hb c0 c1 c2
          go_wp2_with fail
          go_roundw
          case rel => exact ⟨j + 1, mul x a, by omega, by omega, by go_num, rfl, M.clo _ _ hx ha, by show _ = mul (pw mul a j) a; rw [← HXJ.out], fun e h1 h2 => by
            rcases Nat.lt_or_ge e j with h3 | h3
            · exact HE.out e h3 h2
            · rw [show e = j by omega, ← HXJ.out]; exact HN1, HX2⟩
          case measure => simp [intOf]; omega
        · have hlt' : decide ((j : Int) < (q : Int)) = false := by simp; omega
          have HN := hide (gen_no_last M (a := a) (HE.out (q - 1) (by omega) (by omega)))
          go_wp2_with fail
          refine (specSize h _).mono ?_
          rintro e w1 ⟨rfl, hb⟩
          have HX1 := hide (HX.out.next hb)
          clear hb c0 c1 c2
          go_wp2_with fail
          go_ret
          exact ⟨ret_bool HN, HX1.out.2⟩

def LowRel (w : World) (q : Nat) (G : Nat) (i : Value) (wr : World) : Prop :=
  ∃ a : Nat, 1 ≤ a ∧ a ≤ G ∧ i = .int .i64 a ∧ Hid (∀ j, j < a → 1 ≤ j → gen q (mul1 q) j = false) ∧ Box w wr 25 q 1 G

theorem shl_two {K : Nat} (h3 : 3 ≤ K) (h8 : K ≤ 8) : ∃ c : Int, wrap64 (2 ^ K) = c ∧ wrap64 (2 * 2 ^ K) = 2 * c ∧ c = 2 ^ K ∧ 8 ≤ c ∧ c ≤ 256 := by
  have h := pow_small h3 h8
  have h1 : (8 : Int) ≤ 2 ^ K := by have := Int.ofNat_le.2 h.1; rw [Int.natCast_pow] at this; exact this
  have h2 : (2 : Int) ^ K ≤ 256 := by have := Int.ofNat_le.2 h.2; rw [Int.natCast_pow] at this; exact this
  exact ⟨2 ^ K, IntWalk.wrap64_in _ ⟨by omega, by omega⟩, IntWalk.wrap64_in _ ⟨by omega, by omega⟩, rfl, h1, h2⟩

set_option maxHeartbeats 2000000 in
theorem specIsField (p k g : Int) (w : World) :
    Calls Tryz.prog 68 #[.agg #[.int .i64 p, .int .i64 k, .int .i64 g]] w (Gives (.bool (fieldB p k g)) w) := by
  have HX := hide (Box.start w 25 p k g)
  by_cases hk : k = 1
  · subst hk
    rcases hp : inR p 3 1021 with _ | _
    · have HF := hide (show fieldB p 1 g = false by
        simp only [inR, decide_eq_false_iff_not] at hp
        refine fieldB_0 ?_ ?_
        · rw [k1B, Bool.and_eq_false_iff]; left; simp; omega
        · rw [k2B, decide_eq_false_iff_not]; omega)
      have HP := hide hp
      clear hp
      go_enter Tryz.func68, Tryz.ntmps68
      go_wp2_with fail
      refine (specIn_is p 3 1021 false _ HP).mono ?_
      rintro e w1 ⟨rfl, rfl⟩
      go_wp2_with fail
      go_ret
      exact ⟨ret_bool HF, HX.out.2⟩
    · obtain ⟨P, rfl⟩ : ∃ P : Nat, p = P := ⟨p.toNat, by simp only [inR, decide_eq_true_eq] at hp; omega⟩
      have h3 : 3 ≤ P := by simp only [inR, decide_eq_true_eq] at hp; omega
      have h4 : P ≤ 1021 := by simp only [inR, decide_eq_true_eq] at hp; omega
      have HP := hide hp
      clear hp
      rcases hpr : primeB P with _ | _
      · have HF := hide (show fieldB P 1 g = false by
          refine fieldB_0 ?_ ?_
          · rw [k1B, Bool.and_eq_false_iff, Int.toNat_natCast]; right; exact hpr
          · rw [k2B, decide_eq_false_iff_not]; omega)
        have HPR := hide hpr
        clear hpr
        go_enter Tryz.func68, Tryz.ntmps68
        go_wp2_with fail
        refine (specIn_is P 3 1021 true _ HP).mono ?_
        rintro e w1 ⟨rfl, rfl⟩
        go_wp2_with fail
        refine (specPrime P (by omega) h4 _).mono ?_
        rw [HPR.out]
        rintro e w1 ⟨rfl, rfl⟩
        go_wp2_with fail
        go_ret
        exact ⟨ret_bool HF, HX.out.2⟩
      · have HPR := hide hpr
        have HL := hide (least_spec (prime_gen h3 h4 hpr))
        have HF0 := hide (fieldB_1 (g := g) h3 h4 hpr)
        clear hpr
        rcases hg : inR g 1 ((P : Int) - 1) with _ | _
        · have HF := hide (show fieldB P 1 g = false by
            simp only [inR, decide_eq_false_iff_not] at hg
            have := HL.out
            rw [HF0.out, decide_eq_false_iff_not]; omega)
          have HG := hide hg
          clear hg
          go_enter Tryz.func68, Tryz.ntmps68
          go_wp2_with fail
          refine (specIn_is P 3 1021 true _ HP).mono ?_
          rintro e w1 ⟨rfl, rfl⟩
          go_wp2_with fail
          refine (specPrime P (by omega) h4 _).mono ?_
          rw [HPR.out]
          rintro e w1 ⟨rfl, rfl⟩
          go_wp2_with fail
          refine (specIn_is g 1 ((P : Int) - 1) false _ HG).mono ?_
          rintro e w1 ⟨rfl, rfl⟩
          go_wp2_with fail
          go_ret
          exact ⟨ret_bool HF, HX.out.2⟩
        · obtain ⟨G, rfl⟩ : ∃ G : Nat, g = G := ⟨g.toNat, by simp only [inR, decide_eq_true_eq] at hg; omega⟩
          have hG1 : 1 ≤ G := by simp only [inR, decide_eq_true_eq] at hg; omega
          have hG2 : G < P := by simp only [inR, decide_eq_true_eq] at hg; omega
          have HG := hide hg
          have hK : Kd P 1 G P (mul1 P) := Kd.one P G h3 h4
          clear hg
          go_enter Tryz.func68, Tryz.ntmps68
          go_wp2_with fail
          refine (specIn_is P 3 1021 true _ HP).mono ?_
          rintro e w1 ⟨rfl, rfl⟩
          go_wp2_with fail
          refine (specPrime P (by omega) h4 _).mono ?_
          rw [HPR.out]
          rintro e w1 ⟨rfl, rfl⟩
          go_wp2_with fail
          refine (specIn_is G 1 ((P : Int) - 1) true _ HG).mono ?_
          rintro e w1 ⟨rfl, rfl⟩
          go_wp2_with fail
          go_loopw [3] (fun i wr => LowRel w P G i wr) (fun i _ => G - (intOf i).toNat)
          case atStart => exact ⟨1, by omega, by omega, rfl, fun e h1 h2 => by omega, HX⟩
          case round =>
            clear HX
            obtain ⟨a, h1, ha, rfl, HE, HX⟩ := hrel
            have HX := hide HX
            obtain ⟨c0, c1, c2⟩ := HX.out.cells
            by_cases hlt : a < G
            · rcases hga : gen P (mul1 P) a with _ | _
              · have HGA := hide hga
                go_wp2_with fail
                refine (specRuns hK a (by omega) _).mono ?_
                rw [HGA.out]
                clear hga
                rintro e w2 ⟨rfl, hb⟩
                have HX2 := hide (HX.out.next hb)
                clear hb
                go_wp2_with fail
                go_roundw
                case rel => exact ⟨a + 1, by omega, by omega, by go_num, fun j hj h1 => by
                  rcases Nat.lt_or_ge j a with h3 | h3
                  · exact HE.out j h3 h1
                  · rw [show j = a by omega]; exact HGA, HX2⟩
                case measure => simp [intOf]; omega
              · have HF := hide (show fieldB P 1 G = false by
                  rw [HF0.out, least_at (by omega) h1 hga HE, decide_eq_false_iff_not]; omega)
                have HGA := hide hga
                go_wp2_with fail
                refine (specRuns hK a (by omega) _).mono ?_
                rw [HGA.out]
                clear hga
                rintro e w2 ⟨rfl, hb⟩
                have HX2 := hide (HX.out.next hb)
                clear hb
                go_wp2_with fail
                go_ret
                exact ⟨ret_bool HF, HX2.out.2⟩
            · obtain rfl : a = G := by omega
              have HF := hide (show fieldB P 1 a = gen P (mul1 P) a by
                rw [HF0.out]
                rcases hga : gen P (mul1 P) a with _ | _
                · rw [decide_eq_false_iff_not]
                  intro he
                  have h5 : least P (mul1 P) = a := by omega
                  have := HL.out.2.2.1
                  rw [h5, hga] at this
                  cases this
                · rw [least_at hG2 h1 hga HE]; simp)
              go_wp2_with fail
              refine (specRuns hK a hG2 _).mono ?_
              rintro e w2 ⟨rfl, hb⟩
              have HX2 := hide (HX.out.next hb)
              clear hb
              go_wp2_with fail
              go_ret
              exact ⟨ret_bool HF, HX2.out.2⟩
  · have hk' : (k == 1) = false := by simpa using hk
    have HK1 := hide (show k1B p k = false by rw [k1B, Bool.and_eq_false_iff]; left; simp; omega)
    by_cases hp : p = 2
    · subst hp
      rcases hkr : inR k 3 8 with _ | _
      · have HF := hide (show fieldB 2 k g = false by
          simp only [inR, decide_eq_false_iff_not] at hkr
          refine fieldB_0 HK1 ?_
          rw [k2B, decide_eq_false_iff_not]; omega)
        have HKR := hide hkr
        clear hkr
        go_enter Tryz.func68, Tryz.ntmps68
        go_wp2_with fail
        refine (specIn_is k 3 8 false _ HKR).mono ?_
        rintro e w1 ⟨rfl, rfl⟩
        go_wp2_with fail
        go_ret
        exact ⟨ret_bool HF, HX.out.2⟩
      · obtain ⟨K, rfl⟩ : ∃ K : Nat, k = K := ⟨k.toNat, by simp only [inR, decide_eq_true_eq] at hkr; omega⟩
        have h3 : 3 ≤ K := by simp only [inR, decide_eq_true_eq] at hkr; omega
        have h8 : K ≤ 8 := by simp only [inR, decide_eq_true_eq] at hkr; omega
        have HKR := hide hkr
        clear hkr hk
        obtain ⟨c, hc1, hc2, hc3, hc4, hc5⟩ := shl_two h3 h8
        have HC3 := hide hc3
        clear hc3
        rcases hg : inR g c (2 * c - 1) with _ | _
        · have HF := hide (show fieldB 2 K g = false by
            simp only [inR, decide_eq_false_iff_not] at hg
            refine fieldB_0 HK1 ?_
            rw [k2B, decide_eq_false_iff_not, Int.toNat_natCast, Int.pow_succ, ← HC3.out]; omega)
          have HG := hide hg
          clear hg
          go_enter Tryz.func68, Tryz.ntmps68
          go_wp2_with fail
          refine (specIn_is _ 3 8 true _ HKR).mono ?_
          rintro e w1 ⟨rfl, rfl⟩
          go_wp2_with fail
          refine (specIn_is g c (2 * c - 1) false _ HG).mono ?_
          rintro e w1 ⟨rfl, rfl⟩
          go_wp2_with fail
          go_ret
          exact ⟨ret_bool HF, HX.out.2⟩
        · have hk2 : k2B 2 K g = true := by
            simp only [inR, decide_eq_true_eq] at hg
            rw [k2B, decide_eq_true_eq, Int.toNat_natCast, Int.pow_succ, ← HC3.out]; omega
          obtain ⟨K', G, _, hKK, rfl, _, _, hG1, hG2⟩ := k2_open hk2
          obtain rfl : K = K' := by omega
          have HF := hide (fieldB_2 h3 h8 hG1 hG2)
          have hK := Kd.two K G h3 h8 hG1 hG2
          have h2q : 2 < 2 ^ K := by have := pow_small h3 h8; omega
          have HG := hide hg
          clear hg hk2 hKK hG1 hG2
          go_enter Tryz.func68, Tryz.ntmps68
          go_wp2_with fail
          refine (specIn_is _ 3 8 true _ HKR).mono ?_
          rintro e w1 ⟨rfl, rfl⟩
          go_wp2_with fail
          refine (specIn_is _ c (2 * c - 1) true _ HG).mono ?_
          rintro e w1 ⟨rfl, rfl⟩
          go_wp2_with fail
          refine (specRuns hK 2 h2q _).mono ?_
          rintro e w2 ⟨rfl, hb⟩
          have HX2 := hide (HX.out.next hb)
          clear hb
          go_wp2_with fail
          go_ret
          exact ⟨ret_bool HF, HX2.out.2⟩
    · have hp' : (p != 2) = true := by simpa using hp
      have HF := hide (show fieldB p k g = false by
        refine fieldB_0 HK1 ?_
        rw [k2B, decide_eq_false_iff_not]; omega)
      go_enter Tryz.func68, Tryz.ntmps68
      go_wp2_with fail
      go_ret
      exact ⟨ret_bool HF, HX.out.2⟩
end Go.Proofs.YtncgeoliboidhaaGreat

namespace Go.Proofs.YtncgeoliboidhaaGreat
open Go.RowKit
set_option linter.unusedSimpArgs false
set_option linter.unusedVariables false

theorem in_elB {q : Nat} {x : Int} : inR x 0 ((q : Int) - 1) = elB q x := by
  rw [inR, elB, decide_eq_decide]; omega

def IsRel (w : World) (p k g : Int) (q n : Nat) (zs : List Int) (i : Value) (wr : World) : Prop :=
  ∃ j : Nat, j ≤ n ∧ i = .int .i64 j ∧ Hid ((zs.take j).all (elB q) = true) ∧ Box w wr 25 p k g

set_option maxHeartbeats 2000000 in
theorem specIs {p k g : Int} {q : Nat} {mul : Nat → Nat → Nat} (hK : Kd p k g q mul) (A : Option Addr) (n c B : Nat) (zs : List Int) (w : World) (hI : Ints .i64 w B A n zs) (hB : B ≤ w.heap.size) (hn : n ≤ 1099511627776) :
    Calls Tryz.prog 127 #[.agg #[.int .i64 p, .int .i64 k, .int .i64 g], .slice A n c] w (Gives (.bool (zs.all (elB q))) w) := by
  have HX := hide (Box.start w 25 p k g)
  have HI := hide hI
  have hl := hide hI.len
  obtain ⟨hq3, hq⟩ := hK.big
  clear hI
  go_enter Tryz.func127, Tryz.ntmps127
  go_wp2_with fail
  go_loopw [5] (fun i wr => IsRel w p k g q n zs i wr) (fun i _ => n - (intOf i).toNat)
  case atStart => exact ⟨0, by omega, rfl, by simp [Hid], HX⟩
  case round =>
    clear HX
    obtain ⟨j, hj, rfl, HA, HX⟩ := hrel
    have HX := hide HX
    obtain ⟨c0, c1, c2⟩ := HX.out.cells
    by_cases hlt : j < n
    · obtain ⟨b, off, x, rfl, hb, hx, hc⟩ := (HI.out.below (HX.out.2.mono hB)).at_ hlt
      have hx' := hide hx
      clear hx
      have z1 : (j : Int) < (n : Int) := by omega
      have z0 : (0 : Int) ≤ (j : Int) := by omega
      have hb' : b < wr.heap.size := by have := HX.out.lt; omega
      have HC := hide hc
      rcases he : elB q x with _ | _
      · have HF := hide (show zs.all (elB q) = false from fAll_no hx' he)
        have HIn := hide (show inR x 0 ((q : Int) - 1) = false by rw [in_elB]; exact he)
        clear he
        go_wp2_with fail
        have hwr : IntKind.i64.wrap ((q : Int) - 1) = (q : Int) - 1 := IntWalk.i64_in _ (by omega)
        go_region_held3 (fun w' => w'.cell? ⟨b, off + j, none⟩ = some (.int .i64 x) ∧ w'.cell? ⟨w.heap.size, 0, none⟩ = some (.int .i64 p) ∧ w'.cell? ⟨w.heap.size, 1, none⟩ = some (.int .i64 k) ∧ w'.cell? ⟨w.heap.size, 2, none⟩ = some (.int .i64 g))
          (first
            | go_keep
            | exact ⟨HC2.out, HX2.out.cells.1, HX2.out.cells.2.1, HX2.out.cells.2.2⟩)
          (first
            | (go_at_call 39; refine (specSize hK _).mono ?_; rintro e w2 ⟨rfl, hb2⟩; have HX2 := hide (HX.out.drew.next hb2); have HC2 := hide ((hb2.cell (p := ⟨b, off + j, none⟩) hb').trans HC.out); clear hb2)
            | (go_at_call 26; refine (specIn_is x 0 ((q : Int) - 1) _ _ HIn).mono ?_; rintro e w3 ⟨rfl, rfl⟩))
        clear hwr
        go_wp2_with fail
        go_ret
        exact ⟨ret_bool HF, HX2.out.2⟩
      · have HN := hide (all_snoc HA.out hx' he)
        have HIn := hide (show inR x 0 ((q : Int) - 1) = true by rw [in_elB]; exact he)
        clear he
        go_wp2_with fail
        have hwr : IntKind.i64.wrap ((q : Int) - 1) = (q : Int) - 1 := IntWalk.i64_in _ (by omega)
        go_region_held3 (fun w' => w'.cell? ⟨b, off + j, none⟩ = some (.int .i64 x) ∧ w'.cell? ⟨w.heap.size, 0, none⟩ = some (.int .i64 p) ∧ w'.cell? ⟨w.heap.size, 1, none⟩ = some (.int .i64 k) ∧ w'.cell? ⟨w.heap.size, 2, none⟩ = some (.int .i64 g))
          (first
            | go_keep
            | exact ⟨HC2.out, HX2.out.cells.1, HX2.out.cells.2.1, HX2.out.cells.2.2⟩)
          (first
            | (go_at_call 39; refine (specSize hK _).mono ?_; rintro e w2 ⟨rfl, hb2⟩; have HX2 := hide (HX.out.drew.next hb2); have HC2 := hide ((hb2.cell (p := ⟨b, off + j, none⟩) hb').trans HC.out); clear hb2)
            | (go_at_call 26; refine (specIn_is x 0 ((q : Int) - 1) _ _ HIn).mono ?_; rintro e w3 ⟨rfl, rfl⟩))
        clear hwr
        go_wp2_with fail
        go_roundw
        case rel => exact ⟨j + 1, by omega, by go_num, HN, HX2⟩
        case measure => simp [intOf]; omega
    · have HF := hide (show zs.all (elB q) = true by
        have h1 := HA.out
        rw [List.take_of_length_le (by rw [hl.out]; omega)] at h1
        exact h1)
      go_wp2_with fail
      go_ret
      exact ⟨ret_bool HF, HX.out.2⟩

end Go.Proofs.YtncgeoliboidhaaGreat
