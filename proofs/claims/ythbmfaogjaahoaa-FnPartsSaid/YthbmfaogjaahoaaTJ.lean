/-
  Plain mathematics of texts of bits.
  Plain mathematics of bit lists: numbers, bits, strings and texts are recovered from one another.
  Condition: as each statement says.
-/
import Derived.Test.YthbmfaogjaahoaaBitsMath
import Derived.Test.YthbmfaogjaahoaaWords
import Derived.Test.YthbmfaogjaahoaaAppend
namespace Go.Proofs.Ythbmfaogjaahoaa
def sobCode (zs : List Int) : Int := if isBits zs then (if zs.length % 8 = 0 then 0 else 5) else 1
def sobOf (zs : List Int) : ByteArray := if sobCode zs = 0 then strOf (strBytes zs) else ⟨#[]⟩
theorem sob_bad {zs : List Int} (h : isBits zs = false) : sobCode zs = 1 := by simp [sobCode, h]
theorem sob_len {zs : List Int} (h : isBits zs = true) (hl : zs.length % 8 ≠ 0) : sobCode zs = 5 := by simp [sobCode, h, hl]
theorem sob_ok {zs : List Int} (h : isBits zs = true) (hl : zs.length % 8 = 0) : sobCode zs = 0 := by simp [sobCode, h, hl]
theorem sobOf_bad {zs : List Int} {r : Int} (h : sobCode zs = r) (hr : r ≠ 0) : sobOf zs = ⟨#[]⟩ := by rw [sobOf, if_neg (by rw [h]; exact hr)]

def textB (zs : List Int) : List Int := zs.map (fun x => 48 + x)
theorem textB_len (zs : List Int) : (textB zs).length = zs.length := by simp [textB]
theorem textB_at {zs : List Int} {k : Nat} {x : Int} (h : zs[k]? = some x) : (textB zs)[k]? = some (48 + x) := by simp [textB, h]
def textOf (zs : List Int) : ByteArray := if isBits zs then strOf (textB zs) else ⟨#[]⟩
theorem strOf_nil : strOf [] = ⟨#[]⟩ := rfl

def isDig (b : Int) : Bool := b == 48 || b == 49
def rbOk (bs : List Int) : Bool := decide (bs.length ≤ 8192) && bs.all isDig
def rbOf (bs : List Int) : List Int := if rbOk bs then bs.map (fun b => b - 48) else []
def unB (bs : List Int) : List Int := bs.map (fun b => b - 48)
theorem unB_len (bs : List Int) : (unB bs).length = bs.length := by simp [unB]
theorem unB_at {bs : List Int} {k : Nat} {x : Int} (h : bs[k]? = some x) : (unB bs)[k]? = some (x - 48) := by simp [unB, h]
theorem rbOf_yes {bs : List Int} (h : rbOk bs = true) : rbOf bs = unB bs := by rw [rbOf, if_pos h]; rfl
theorem rbOf_no {bs : List Int} (h : rbOk bs = false) : rbOf bs = [] := by rw [rbOf, if_neg (by rw [h]; decide)]
theorem rb_yes {bs : List Int} {n : Nat} (hl : bs.length = n) (hn : n ≤ 8192) (h : (bs.take n).all isDig = true) : rbOk bs = true := by
  rw [List.take_of_length_le (by omega)] at h; simp only [rbOk, h, hl, hn, decide_true, Bool.and_self]
theorem rb_long {bs : List Int} (h : 8192 < bs.length) : rbOk bs = false := by
  unfold rbOk; rw [decide_eq_false (by omega)]; rfl
theorem rb_no {bs : List Int} {k : Nat} {x : Int} (hx : bs[k]? = some x) (hf : isDig x = false) : rbOk bs = false := by
  unfold rbOk
  have : bs.all isDig = false := by
    rw [List.all_eq_false]; exact ⟨x, List.mem_of_getElem? hx, by simp [hf]⟩
  rw [this, Bool.and_false]
end Go.Proofs.Ythbmfaogjaahoaa

namespace Go.Proofs.Ythbmfaogjaahoaa

theorem bitsOf_succ (v : Int) (d : Nat) : bitsOf v (d + 1) = bitsOf (v / 2) d ++ [v % 2] := by
  unfold bitsOf
  rw [List.range_succ, List.map_append]
  congr 1
  · apply List.map_congr_left
    intro i hi
    have hi' : i < d := List.mem_range.1 hi
    rw [show d + 1 - 1 - i = (d - 1 - i) + 1 by omega, Int.pow_succ, Int.mul_comm, ← Int.ediv_ediv_of_nonneg (by decide)]
  · simp

theorem numVal_bitsOf : ∀ (d : Nat) (v : Int), 0 ≤ v → v < 2 ^ d → numVal (bitsOf v d) = v := by
  intro d
  induction d with
  | zero => intro v h0 h1; simp at h1; have : v = 0 := by omega
            subst this; rfl
  | succ d ih =>
    intro v h0 h1
    rw [bitsOf_succ, numVal_snoc, ih (v / 2) (by omega) (by rw [Int.pow_succ] at h1; omega)]
    omega

theorem bitsOf_bit {v : Int} {d : Nat} : ∀ x ∈ bitsOf v d, x = 0 ∨ x = 1 := by
  intro x hx
  unfold bitsOf at hx
  obtain ⟨i, _, rfl⟩ := List.mem_map.1 hx
  omega

theorem bitsOf_numVal : ∀ (n : Nat) (ys : List Int), ys.length = n → (∀ x ∈ ys, x = 0 ∨ x = 1) → bitsOf (numVal ys) n = ys := by
  intro n
  induction n with
  | zero => intro ys hl _; obtain rfl := List.eq_nil_of_length_eq_zero hl; rfl
  | succ n ih =>
    intro ys hl hb
    have hne : ys ≠ [] := by intro h; subst h; simp at hl
    obtain ⟨zs, z, rfl⟩ : ∃ zs z, ys = zs ++ [z] := ⟨ys.dropLast, ys.getLast hne, (List.dropLast_concat_getLast hne).symm⟩
    have hz := hb z (by simp)
    rw [bitsOf_succ, numVal_snoc, show (2 * numVal zs + z) / 2 = numVal zs by omega, show (2 * numVal zs + z) % 2 = z by omega, ih zs (by simp at hl; exact hl) (fun x hx => hb x (by simp [hx]))]

theorem isBits_of {zs : List Int} (hl : zs.length ≤ 8192) (hb : ∀ x ∈ zs, x = 0 ∨ x = 1) : isBits zs = true := by
  unfold isBits
  simp only [hl, decide_true, Bool.true_and, List.all_eq_true]
  intro x hx
  rcases hb x hx with rfl | rfl <;> rfl

/-- A number is read from where it has been appended. -/
theorem appended {zs : List Int} {val wd : Int} (h : appCode zs val wd = 0) :
    isBits zs = true ∧ appOf zs val wd = zs ++ bitsOf val wd.toNat ∧ numCode (appOf zs val wd) zs.length wd = 0 ∧ numOf (appOf zs val wd) zs.length wd = val := by
  have hb : isBits zs = true := by
    rcases hb : isBits zs with _ | _
    · rw [app_bad hb] at h; exact absurd h (by decide)
    · rfl
  have h' := h
  unfold appCode at h'
  rw [if_pos hb] at h'
  split at h'
  · rename_i hw
    simp only [Bool.and_eq_true] at hw
    split at h'
    · rename_i hl
      have hw1 : 0 ≤ wd ∧ wd ≤ 32 := by simpa only [inR, decide_eq_true_eq] using hw.1
      have hw2 : 0 ≤ val ∧ val ≤ 2 ^ wd.toNat - 1 := by simpa only [inR, decide_eq_true_eq] using hw.2
      have hO : appOf zs val wd = zs ++ bitsOf val wd.toNat := by rw [appOf, if_pos h]
      have hB : isBits (zs ++ bitsOf val wd.toNat) = true := isBits_of (by rw [List.length_append, bitsOf_len]; omega) (by
        intro x hx
        rcases List.mem_append.1 hx with h1 | h1
        · exact isBits_all hb x h1
        · exact bitsOf_bit x h1)
      have hc : numCode (zs ++ bitsOf val wd.toNat) zs.length wd = 0 := num_ok hB hw.1 (inR_yes (by omega) (by rw [List.length_append, bitsOf_len]; omega))
      refine ⟨hb, hO, by rw [hO]; exact hc, ?_⟩
      rw [hO, numOf, if_pos hc, Int.toNat_natCast, List.drop_left, List.take_of_length_le (by rw [bitsOf_len]; exact Nat.le_refl _), numVal_bitsOf _ _ hw2.1 (by omega)]
    · exact absurd h' (by decide)
  · exact absurd h' (by decide)

theorem strOf_data (ns : List Int) : (strOf ns).data.toList = ns.map (fun n => UInt8.ofNat n.toNat) := by
  have h : ∀ (l : List Int) (b : ByteArray), (l.foldl (fun r n => r.push (UInt8.ofNat n.toNat)) b).data.toList = b.data.toList ++ l.map (fun n => UInt8.ofNat n.toNat) := by
    intro l
    induction l with
    | nil => intro b; simp
    | cons a l ih => intro b; rw [List.foldl_cons, ih]; simp
  unfold strOf; rw [h]; simp

theorem bytesI_strOf {ns : List Int} (h : ∀ x ∈ ns, 0 ≤ x ∧ x ≤ 255) : bytesI (strOf ns) = ns := by
  unfold bytesI
  rw [strOf_data, List.map_map]
  conv => rhs; rw [← List.map_id ns]
  apply List.map_congr_left
  intro x hx
  have := h x hx
  simp only [Function.comp, id]
  rw [UInt8.toNat_ofNat_of_lt' (show x.toNat < UInt8.size by show x.toNat < 256; omega)]
  omega

theorem strBits_chunks : ∀ (k : Nat) (zs : List Int), zs.length = 8 * k → (∀ x ∈ zs, x = 0 ∨ x = 1) → strBits (strBytes zs) = zs := by
  intro k
  induction k with
  | zero => intro zs hl _; obtain rfl := List.eq_nil_of_length_eq_zero (by omega); rfl
  | succ k ih =>
    intro zs hl hb
    have hd : zs.length / 8 = k + 1 := by omega
    have hd2 : (zs.drop 8).length / 8 = k := by rw [List.length_drop]; omega
    have e : strBytes zs = numVal (zs.take 8) :: strBytes (zs.drop 8) := by
      unfold strBytes
      rw [hd, hd2, List.range_succ_eq_map, List.map_cons, List.map_map]
      simp only [Nat.mul_zero, List.drop_zero]
      congr 1
      apply List.map_congr_left
      intro i _
      simp only [Function.comp, List.drop_drop]
      rw [show 8 * Nat.succ i = 8 + 8 * i by omega]
    have h8 : (zs.take 8).length = 8 := by rw [List.length_take]; omega
    rw [e]
    show bitsOf (numVal (zs.take 8)) 8 ++ strBits (strBytes (zs.drop 8)) = zs
    rw [bitsOf_numVal 8 _ h8 (fun x hx => hb x (List.mem_of_mem_take hx)), ih _ (by rw [List.length_drop]; omega) (fun x hx => hb x (List.mem_of_mem_drop hx)), List.take_append_drop]

theorem strBytes_bd {zs : List Int} (hb : ∀ x ∈ zs, x = 0 ∨ x = 1) : ∀ x ∈ strBytes zs, 0 ≤ x ∧ x ≤ 255 := by
  intro x hx
  obtain ⟨i, _, rfl⟩ := List.mem_map.1 hx
  exact numVal8 (by rw [List.length_take]; omega) (fun y hy => hb y (List.mem_of_mem_drop (List.mem_of_mem_take hy)))

/-- A bit list is recovered from its string. -/
theorem recovered {zs : List Int} (h : sobCode zs = 0) : isBits zs = true ∧ bytesI (sobOf zs) = strBytes zs ∧ strBits (strBytes zs) = zs := by
  have hb : isBits zs = true := by
    rcases hb : isBits zs with _ | _
    · rw [sob_bad hb] at h; exact absurd h (by decide)
    · rfl
  have hm : zs.length % 8 = 0 := by
    by_cases hm : zs.length % 8 = 0
    · exact hm
    · rw [sob_len hb hm] at h; exact absurd h (by decide)
  refine ⟨hb, ?_, strBits_chunks (zs.length / 8) zs (by omega) (isBits_all hb)⟩
  rw [sobOf, if_pos h, bytesI_strOf (strBytes_bd (isBits_all hb))]

/-- A bit list is recovered from its text. -/
theorem reread {zs : List Int} (h : isBits zs = true) : bytesI (textOf zs) = textB zs ∧ rbOk (textB zs) = true ∧ rbOf (textB zs) = zs := by
  have hb := isBits_all h
  have hl := isBits_len h
  have h1 : bytesI (textOf zs) = textB zs := by
    rw [textOf, if_pos h, bytesI_strOf]
    intro x hx
    obtain ⟨y, hy, rfl⟩ := List.mem_map.1 hx
    have := hb y hy
    omega
  have h2 : rbOk (textB zs) = true := by
    unfold rbOk
    rw [textB_len]
    simp only [hl, decide_true, Bool.true_and, List.all_eq_true]
    intro x hx
    obtain ⟨y, hy, rfl⟩ := List.mem_map.1 hx
    rcases hb y hy with rfl | rfl <;> rfl
  refine ⟨h1, h2, ?_⟩
  rw [rbOf_yes h2]
  unfold unB textB
  rw [List.map_map]
  conv => rhs; rw [← List.map_id zs]
  apply List.map_congr_left
  intro x _
  simp only [Function.comp, id]
  omega
theorem reread_not {zs : List Int} (h : isBits zs = false) : bytesI (textOf zs) = [] ∧ rbOk [] = true ∧ rbOf [] = [] := by
  refine ⟨?_, rfl, rfl⟩
  rw [textOf, if_neg (by rw [h]; decide)]; rfl

theorem xorL_back : ∀ (a b : List Int), a.length = b.length → (∀ x ∈ a, x = 0 ∨ x = 1) → (∀ x ∈ b, x = 0 ∨ x = 1) → xorL (xorL a b) b = a := by
  intro a
  induction a with
  | nil => intro b _ _ _; simp [xorL]
  | cons x a ih =>
    intro b hl ha hb
    cases b with
    | nil => simp at hl
    | cons y b =>
      have h := ih b (by simpa using hl) (fun z hz => ha z (by simp [hz])) (fun z hz => hb z (by simp [hz]))
      simp only [xorL, List.zipWith_cons_cons] at h ⊢
      rw [h]
      congr 1
      rcases ha x (by simp) with rfl | rfl <;> rcases hb y (by simp) with rfl | rfl <;> rfl
theorem xorL_bit (a b : List Int) : ∀ x ∈ xorL a b, x = 0 ∨ x = 1 := by
  intro x hx
  unfold xorL at hx
  rw [List.mem_iff_getElem?] at hx
  obtain ⟨i, hi⟩ := hx
  rw [List.getElem?_zipWith] at hi
  split at hi
  · simp only [Option.some.injEq] at hi
    subst hi
    unfold xorI
    split <;> simp
  · cases hi
def sumI (zs : List Int) : Int := zs.foldl (· + ·) 0
theorem sumI_snoc (zs : List Int) (x : Int) : sumI (zs ++ [x]) = sumI zs + x := by simp [sumI, List.foldl_append]
theorem sumI_xor : ∀ (a b : List Int), sumI (xorL a b) = (differ a b : Int) := by
  intro a
  have g : ∀ (l : List Int) (s : Int), l.foldl (· + ·) s = s + l.foldl (· + ·) 0 := by
    intro l
    induction l with
    | nil => intro s; simp
    | cons x l ih => intro s; simp only [List.foldl_cons]; rw [ih (s + x), ih (0 + x)]; omega
  induction a with
  | nil => intro b; simp [xorL, sumI, differ]
  | cons x a ih =>
    intro b
    cases b with
    | nil => simp [xorL, sumI, differ]
    | cons y b =>
      have h := ih b
      simp only [sumI, xorL, List.zipWith_cons_cons, List.foldl_cons, differ, List.zip_cons_cons, List.countP_cons] at h ⊢
      rw [g, h]
      unfold xorI
      by_cases hxy : x = y <;> simp [hxy] <;> omega
end Go.Proofs.Ythbmfaogjaahoaa
