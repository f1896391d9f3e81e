/-
  Slices of segments that grow, and what a function leaves that returns one.
  Plain mathematics of segments: the numbers of groups, the bits of a text and of a segment.
  Condition: as each statement says.
-/
import Derived.Test.YthbmfaogjaahoaaSq1
import Derived.Test.YthbmfaogjaahoaaSg5
import Derived.Deep.AppendLies
import Derived.Test.YthbmfaogjaahoaaSgMath
namespace Go.Proofs.Ythbmfaogjaahoaa
open Go Go.RowKit
set_option linter.unusedSimpArgs false
set_option linter.unusedVariables false

/-- append(out, segment). -/
theorem wp_appSeg {base : Nat} {v : Value} {n : Nat} {f : Nat → Value} (w : World) {o : Oper} {a : Act} {K : Act → World → Prop} {Q : Exit → Act → World → Prop} (s x : Operand)
    (ho : o.op = .call { callee := .builtin .append, args := #[s, x], argTypes := #[69, 69] })
    (hs : a.eval s = v) (h : OwnS w base v n f) (x0 : Int) (x1 : ByteArray) (hf : f (n * 2) = .int .i64 x0 ∧ f (n * 2 + 1) = .string x1)
    (hx : a.eval x = .slice (some ⟨w.heap.size, 0, none⟩) 1 1) (hlen : n ≤ 10000) (hbase : base ≤ w.heap.size)
    (hk : ∀ v' w', OwnS w' base v' (n + 1) f → w.grownBy w' v.ownBlock → K (a.put o.dst v') w') :
    o.wp Try.prog a (w.alloc (.cells #[.int .i64 x0, .string x1] 107)) K Q := by
  obtain ⟨i, hi, hz0, hz1, hz2⟩ := info_parts elemS
  refine wp_append_own (w := w.alloc (.cells #[.int .i64 x0, .string x1] 107)) s x 69 ho base 107 i _ 2 24 Try.underlying69 hi hz0 hz1 hz2 rfl (by decide) v n _ hs (World.ownsRow.alloc h _) ⟨w.heap.size, 0, none⟩ 1 1 [.int .i64 x0, .string x1] hx rfl
    (World.news_of_block (heap_alloc_new w (.cells #[.int .i64 x0, .string x1] 107))) (fun u hu => ?_) (by simp only [maxLen]; omega) (by omega) (by rw [alloc_size]; omega) fun v' w' h2 h3 _ => ?_
  · simp only [List.mem_cons, List.not_mem_nil, or_false] at hu
    rcases hu with rfl | rfl <;> rfl
  · refine hk v' w' ?_ (grown_trans (World.grownBy_alloc w _ _) h3)
    unfold OwnS
    obtain ⟨f0, f1⟩ := hf
    rw [show (n + 1) * 2 = n * 2 + 2 by omega, show (List.range (n * 2 + 2)) = List.range (n * 2) ++ [n * 2, n * 2 + 1] by simp [List.range_succ], List.map_append]
    simp only [List.map_cons, List.map_nil, f0, f1]
    exact h2
/-- append(out, segment), in a list of operations. -/
theorem wpList_appSeg {P : Program} (hP : P = Try.prog) {base : Nat} {v : Value} {n : Nat} {f : Nat → Value} (w : World) {ops : Array Oper} {rest : List Oper} {o : Oper} {a : Act} {Q : Exit → Act → World → Prop} (hgd : o.guard = none) (s x : Operand)
    (ho : o.op = .call { callee := .builtin .append, args := #[s, x], argTypes := #[69, 69] })
    (hs : a.eval s = v) (h : OwnS w base v n f) (x0 : Int) (x1 : ByteArray) (hf : f (n * 2) = .int .i64 x0 ∧ f (n * 2 + 1) = .string x1)
    (hx : a.eval x = .slice (some ⟨w.heap.size, 0, none⟩) 1 1) (hlen : n ≤ 10000) (hbase : base ≤ w.heap.size)
    (hk : ∀ v' w', OwnS w' base v' (n + 1) f → w.grownBy w' v.ownBlock → wpList P ops Q rest (a.put o.dst v') w') :
    wpList P ops Q (o :: rest) a (w.alloc (.cells #[.int .i64 x0, .string x1] 107)) := by
  subst hP
  refine wpList_step fun K hK => ?_
  rw [if_pos (by simp [Region.wanted, hgd])]
  exact wp_appSeg w s x ho hs h x0 x1 hf hx hlen hbase (fun v' w' h1 h2 => hK _ _ (hk v' w' h1 h2))
/-- A box of a segment that was made behind a slice's block stays. -/
theorem SBox.apart {w0 w w' : World} {t : TypeId} {m : Int} {s : ByteArray} {base n : Nat} {v : Value} {f : Nat → Value} (h : SBox w0 w t m s) (ho : OwnS w0 base v n f) (hg : w.grownBy w' v.ownBlock) : w'.heap[w0.heap.size]? = some (.cells #[.int .i64 m, .string s] t (0, 0)) := by
  rw [hg.block _ h.lt (by intro e; have := ((World.ownsRow.lt ho) _ e.symm).2; omega)]; exact h.1
/-- What a function leaves that returns a new slice of segments and a code. -/
def NewSI (n : Nat) (M : Nat → Int) (T : Nat → ByteArray) (cd : Int) (w : World) (x : Ending) (w' : World) : Prop :=
  ∃ A c, x = .returned (.tuple #[.slice A n c, .int .i64 cd]) ∧ n ≤ c ∧ c ≤ 9223372036854775807 ∧ OwnS w' w.heap.size (.slice A n c) n (segV M T) ∧ Below w.heap.size w w'
end Go.Proofs.Ythbmfaogjaahoaa

namespace Go.Proofs.Ythbmfaogjaahoaa

/-- The number of a group. -/
def gnumB (B m : Int) (g : List Int) : Int := g.foldl (fun v b => v * B + cval m b) 0
theorem gnumB_snoc (B m : Int) (g : List Int) (x : Int) : gnumB B m (g ++ [x]) = gnumB B m g * B + cval m x := by simp [gnumB, List.foldl_append]
theorem gnumB_bd {B : Nat} {m : Int} : ∀ (n : Nat) (g : List Int), g.length = n → (∀ x ∈ g, 0 ≤ cval m x ∧ cval m x < (B : Int)) → 0 ≤ gnumB B m g ∧ gnumB B m g < ((B ^ n : Nat) : Int) := by
  intro n
  induction n with
  | zero => intro g hl _; obtain rfl := List.eq_nil_of_length_eq_zero hl; simp [gnumB]
  | succ n ih =>
    intro g hl hb
    have hne : g ≠ [] := by intro h; subst h; simp at hl
    obtain ⟨ys, y, rfl⟩ : ∃ ys y, g = ys ++ [y] := ⟨g.dropLast, g.getLast hne, (List.dropLast_concat_getLast hne).symm⟩
    have h1 := ih ys (by simp at hl; exact hl) (fun x hx => hb x (by simp [hx]))
    have h2 := hb y (by simp)
    rw [gnumB_snoc, Nat.pow_succ, Int.natCast_mul]
    have h3 : 0 ≤ gnumB B m ys * (B : Int) := Int.mul_nonneg h1.1 (by omega)
    have h4 : (gnumB B m ys + 1) * (B : Int) ≤ ((B ^ n : Nat) : Int) * (B : Int) := Int.mul_le_mul_of_nonneg_right (by omega) (by omega)
    rw [Int.add_mul, Int.one_mul] at h4
    omega
def gnum (m : Int) (g : List Int) : Int := gnumB ((gbase m : Nat) : Int) m g
theorem gnumB_one {B m : Int} {g : List Int} (h : g.length ≤ 1) (C : Int) : gnumB B m g = gnumB C m g := by
  rcases g with _ | ⟨x, _ | ⟨y, l⟩⟩
  · rfl
  · simp [gnumB]
  · simp at h

/-- A group of the bytes of a text. -/
def grp (G : Nat) (bs : List Int) (j : Nat) : List Int := (bs.drop (j * G)).take G
theorem grp_len (G : Nat) (bs : List Int) (j : Nat) : (grp G bs j).length = min G (bs.length - j * G) := by simp [grp]
theorem grp_at {G : Nat} {bs : List Int} {j t : Nat} (ht : t < G) : (grp G bs j)[t]? = bs[j * G + t]? := by
  rw [grp, List.getElem?_take, if_pos ht, List.getElem?_drop]
theorem grp_mem {G : Nat} {bs : List Int} {j : Nat} {x : Int} (h : x ∈ grp G bs j) : x ∈ bs := List.mem_of_mem_drop (List.mem_of_mem_take h)
theorem all_mem {m : Int} {bs : List Int} (h : allV m bs = true) {x : Int} (hx : x ∈ bs) : 0 ≤ cval m x ∧ cval m x < ((gbase m : Nat) : Int) := by
  obtain ⟨k, hk⟩ := List.getElem?_of_mem hx
  have h0 := all_at h hk
  rcases cval_cases m x with h1 | ⟨_, h2, _⟩
  · omega
  · exact ⟨h0, h2⟩
theorem gbase_le (m : Int) : gbase m ≤ 256 := by unfold gbase; (repeat' split) <;> omega
theorem gnum_bd {m : Int} {bs : List Int} (h : allV m bs = true) (j t : Nat) : 0 ≤ gnum m ((grp (gsz m) bs j).take t) ∧ gnum m ((grp (gsz m) bs j).take t) < 16777216 := by
  have h1 := gnumB_bd (B := gbase m) (m := m) _ ((grp (gsz m) bs j).take t) rfl (fun x hx => all_mem h (grp_mem (List.mem_of_mem_take hx)))
  have h2 : ((grp (gsz m) bs j).take t).length ≤ 3 := by
    have := gsz_le m
    rw [List.length_take, grp_len]; omega
  have h3 : gbase m ^ ((grp (gsz m) bs j).take t).length ≤ 256 ^ 3 := Nat.le_trans (Nat.pow_le_pow_left (gbase_le m) _) (Nat.pow_le_pow_right (by omega) h2)
  have h4 : (256 : Nat) ^ 3 = 16777216 := by decide
  refine ⟨h1.1, ?_⟩
  have h5 : gnum m ((grp (gsz m) bs j).take t) < ((gbase m ^ ((grp (gsz m) bs j).take t).length : Nat) : Int) := h1.2
  omega
theorem gnum_bd' {m : Int} {bs : List Int} (h : allV m bs = true) (j : Nat) : 0 ≤ gnum m (grp (gsz m) bs j) ∧ gnum m (grp (gsz m) bs j) < 16777216 := by
  have h1 := gnum_bd h j (grp (gsz m) bs j).length
  rw [List.take_length] at h1; exact h1
/-- One more byte of a group. -/
theorem gnum_step {B m : Int} {G : Nat} {bs : List Int} {j t : Nat} {b : Int} (ht : t < G) (hb : bs[j * G + t]? = some b) :
    gnumB B m ((grp G bs j).take (t + 1)) = gnumB B m ((grp G bs j).take t) * B + cval m b := by
  have h := grp_at (bs := bs) (j := j) ht
  rw [hb] at h
  rw [List.take_add_one, h]
  exact gnumB_snoc _ _ _ _

/-- How many groups there are. -/
def gct (G n : Nat) : Nat := (n + G - 1) / G
theorem gct_lt {G : Nat} (hG : 1 ≤ G) {n j : Nat} : j < gct G n ↔ j * G < n := by
  unfold gct
  rw [Nat.lt_iff_add_one_le, Nat.le_div_iff_mul_le (by omega), Nat.add_mul, Nat.one_mul]
  omega
theorem gct_le {G : Nat} (hG : 1 ≤ G) (n : Nat) : gct G n ≤ n := by
  rcases Nat.lt_or_ge n (gct G n) with h | h
  · have := (gct_lt hG).1 h
    have : n * 1 ≤ n * G := Nat.mul_le_mul_left n hG
    omega
  · exact h
theorem gct_end {G : Nat} (hG : 1 ≤ G) {n j : Nat} (h1 : j ≤ gct G n) (h2 : ¬ j * G < n) : j = gct G n := by
  have := mt (gct_lt hG (n := n) (j := j)).1 h2
  omega

/-- The bits of the first groups. -/
def txP (m : Int) (bs : List Int) (j : Nat) : List Int := (List.range j).flatMap fun i => bitsOf (gnum m (grp (gsz m) bs i)) (wid m (grp (gsz m) bs i).length)
theorem txP_zero (m : Int) (bs : List Int) : txP m bs 0 = [] := rfl
theorem txP_succ (m : Int) (bs : List Int) (j : Nat) : txP m bs (j + 1) = txP m bs j ++ bitsOf (gnum m (grp (gsz m) bs j)) (wid m (grp (gsz m) bs j).length) := by
  simp [txP, List.range_succ, List.flatMap_append]
theorem txP_le (m : Int) (bs : List Int) (j : Nat) : (txP m bs j).length ≤ 11 * j := by
  induction j with
  | zero => simp [txP_zero]
  | succ j ih =>
    rw [txP_succ, List.length_append, bitsOf_len]
    have := wid_le m (grp (gsz m) bs j).length
    omega
/-- The bits of a segment. -/
def headB (m : Int) (n : Nat) : List Int := bitsOf m 3 ++ bitsOf (n : Int) 8
def segBits (m : Int) (bs : List Int) : List Int := headB m bs.length ++ txP m bs (gct (gsz m) bs.length)
theorem headB_len (m : Int) (n : Nat) : (headB m n).length = 11 := by simp [headB, bitsOf_len]

/-- What WriteSegment gives. -/
def wsCode (zs : List Int) (m : Int) (bs : List Int) : Int := if isBits zs then (if segB m bs then (if zs.length + slen m bs.length ≤ 8192 then 0 else 3) else 2) else 1
def wsOf (zs : List Int) (m : Int) (bs : List Int) : List Int := if wsCode zs m bs = 0 then zs ++ segBits m bs else []
theorem ws_bad {zs : List Int} (h : isBits zs = false) (m : Int) (bs : List Int) : wsCode zs m bs = 1 := by simp [wsCode, h]
theorem ws_seg {zs : List Int} (h : isBits zs = true) {m : Int} {bs : List Int} (hs : segB m bs = false) : wsCode zs m bs = 2 := by simp [wsCode, h, hs]
theorem ws_long {zs : List Int} (h : isBits zs = true) {m : Int} {bs : List Int} (hs : segB m bs = true) (hl : 8192 < zs.length + slen m bs.length) : wsCode zs m bs = 3 := by
  simp only [wsCode, h, hs, if_true]; rw [if_neg (by omega)]
theorem ws_ok {zs : List Int} (h : isBits zs = true) {m : Int} {bs : List Int} (hs : segB m bs = true) (hl : zs.length + slen m bs.length ≤ 8192) : wsCode zs m bs = 0 := by
  simp only [wsCode, h, hs, if_true]; rw [if_pos hl]
theorem wsOf_bad {zs : List Int} {m : Int} {bs : List Int} {r : Int} (h : wsCode zs m bs = r) (hr : r ≠ 0) : wsOf zs m bs = [] := by rw [wsOf, if_neg (by rw [h]; exact hr)]
theorem wsOf_ok {zs : List Int} {m : Int} {bs : List Int} (h : wsCode zs m bs = 0) : wsOf zs m bs = zs ++ segBits m bs := by rw [wsOf, if_pos h]
/-- The model's number of a group is the same. -/
theorem gnum_spec {m : Int} (hm : 1 ≤ m ∧ m ≤ 4) (B : Int) (hB : (m = 1 → B = 10) ∧ (m = 2 → B = 45)) {bs : List Int} (j t : Nat) : gnumB B m ((grp (gsz m) bs j).take t) = gnum m ((grp (gsz m) bs j).take t) := by
  have hh : m = 1 ∨ m = 2 ∨ m = 3 ∨ m = 4 := by omega
  rcases hh with rfl | rfl | rfl | rfl
  · rw [hB.1 rfl]; rfl
  · rw [hB.2 rfl]; rfl
  · exact gnumB_one (by rw [List.length_take, grp_len]; have : gsz 3 = 1 := rfl; omega) _
  · exact gnumB_one (by rw [List.length_take, grp_len]; have : gsz 4 = 1 := rfl; omega) _
end Go.Proofs.Ythbmfaogjaahoaa
