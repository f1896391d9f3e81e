/-
  Reading a segment, plainly: the characters of a group's number, the text of the first groups, whether a segment is readable.
  The model's reading of a segment.
  The model's ReadSegment.
  The program's firstSegment, given its textOf.
  The program's ReadSegment, given its textOf.
  Condition: as each statement says.
-/
import Derived.Test.YthbmfaogjaahoaaSgBits
import Derived.Test.YthbmfaogjaahoaaSg8
import Derived.Test.YthbmfaogjaahoaaNumber
import Derived.Test.YthbmfaogjaahoaaSg9
import Derived.Test.YthbmfaogjaahoaaSpecIn
import Derived.Test.YthbmfaogjaahoaaDrawK
import Derived.Test.YthbmfaogjaahoaaLawKit
import Derived.Test.YthbmfaogjaahoaaTail2
import Derived.Test.YthbmfaogjaahoaaIsBits
namespace Go.Proofs.Ythbmfaogjaahoaa
open Go.RowKit
set_option linter.unusedSimpArgs false
set_option linter.unusedVariables false

/-- The last t characters that a number stands for. -/
def dgN (B : Nat) (m : Int) (v : Nat) : Nat → List Int
  | 0 => []
  | t + 1 => chr m ((v / B ^ t % B : Nat) : Int) :: dgN B m v t
theorem dgN_len (B : Nat) (m : Int) (v : Nat) : ∀ t, (dgN B m v t).length = t := by
  intro t
  induction t with
  | zero => rfl
  | succ t ih => rw [dgN, List.length_cons, ih]
theorem gbase_pos (m : Int) : 1 ≤ gbase m := by unfold gbase; (repeat' split) <;> omega
theorem dgN_byte {m : Int} (hm : 1 ≤ m ∧ m ≤ 4) (v : Nat) : ∀ t, ∀ x ∈ dgN (gbase m) m v t, 0 ≤ x ∧ x ≤ 255 := by
  intro t
  induction t with
  | zero => intro x hx; cases hx
  | succ t ih =>
    intro x hx
    rw [dgN] at hx
    rcases List.mem_cons.1 hx with rfl | h
    · exact chr_byte hm (Nat.mod_lt _ (gbase_pos m))
    · exact ih x h
/-- How many characters the model takes a mode to have, as a natural number. -/
def sbN (m : Int) : Nat := if m = 1 then 10 else if m = 2 then 45 else 256
theorem sb_is (m : Int) : sbase m = (sbN m : Nat) := by unfold sbase sbN; (repeat' split) <;> rfl
theorem sbN_pos (m : Int) : 1 ≤ sbN m := by unfold sbN; (repeat' split) <;> omega
/-- With its own idea of the base the model reads the same. -/
theorem sb_dg {m : Int} (hm : 1 ≤ m ∧ m ≤ 4) {c v : Nat} (hc1 : 1 ≤ c) (hc : c ≤ gsz m) (hv : v < 2 ^ wid m c) :
    dgN (sbN m) m v c = dgN (gbase m) m v c ∧ (v / sbN m ^ c = 0 ↔ v < gbase m ^ c) ∧ ∀ t, t < c → v / sbN m ^ t % sbN m < gbase m := by
  have h4 : m = 1 ∨ m = 2 ∨ m = 3 ∨ m = 4 := by omega
  rcases h4 with rfl | rfl | rfl | rfl
  · have hs : sbN 1 = gbase 1 := rfl
    rw [hs]
    exact ⟨rfl, by rw [Nat.div_eq_zero_iff_lt (Nat.pow_pos (gbase_pos 1))], fun t _ => Nat.mod_lt _ (gbase_pos 1)⟩
  · have hs : sbN 2 = gbase 2 := rfl
    rw [hs]
    exact ⟨rfl, by rw [Nat.div_eq_zero_iff_lt (Nat.pow_pos (gbase_pos 2))], fun t _ => Nat.mod_lt _ (gbase_pos 2)⟩
  · have hg : gsz 3 = 1 := rfl
    obtain rfl : c = 1 := by omega
    have hw : v < 32 := hv
    have hb : gbase 3 = 32 := rfl
    have hs : sbN 3 = 256 := rfl
    rw [hb, hs]
    refine ⟨?_, by omega, fun t ht => ?_⟩
    · show [chr 3 ((v / 256 ^ 0 % 256 : Nat) : Int)] = [chr 3 ((v / 32 ^ 0 % 32 : Nat) : Int)]
      rw [show v / 256 ^ 0 % 256 = v by omega, show v / 32 ^ 0 % 32 = v by omega]
    · obtain rfl : t = 0 := by omega
      omega
  · have hg : gsz 4 = 1 := rfl
    obtain rfl : c = 1 := by omega
    have hs : sbN 4 = gbase 4 := rfl
    rw [hs]
    exact ⟨rfl, by rw [Nat.div_eq_zero_iff_lt (Nat.pow_pos (gbase_pos 4))], fun t _ => Nat.mod_lt _ (gbase_pos 4)⟩

/-- The length of group j, its place, its number. -/
def glN (m : Int) (n j : Nat) : Nat := min (gsz m) (n - j * gsz m)
def gpN (m : Int) (a j : Nat) : Nat := a + j * wid m (gsz m)
def gvN (zs : List Int) (a : Nat) (m : Int) (n j : Nat) : Nat := (numVal ((zs.drop (gpN m a j)).take (wid m (glN m n j)))).toNat
theorem num_nat {zs : List Int} (hb : ∀ x ∈ zs, x = 0 ∨ x = 1) (a w : Nat) : numVal ((zs.drop a).take w) = ((numVal ((zs.drop a).take w)).toNat : Int) ∧ (numVal ((zs.drop a).take w)).toNat < 2 ^ w := by
  have h := numVal_bd _ ((zs.drop a).take w) rfl (fun x hx => hb x (List.mem_of_mem_drop (List.mem_of_mem_take hx)))
  have hl : ((zs.drop a).take w).length ≤ w := by rw [List.length_take]; omega
  have h2 : (2 : Nat) ^ ((zs.drop a).take w).length ≤ 2 ^ w := Nat.pow_le_pow_right (by omega) hl
  have h3 : ((2 : Int) ^ ((zs.drop a).take w).length) = (((2 : Nat) ^ ((zs.drop a).take w).length : Nat) : Int) := by simp
  rw [h3] at h
  omega
/-- The text of the first groups; whether they stand for characters. -/
def rdT (zs : List Int) (a : Nat) (m : Int) (n : Nat) : Nat → List Int
  | 0 => []
  | j + 1 => rdT zs a m n j ++ dgN (gbase m) m (gvN zs a m n j) (glN m n j)
def rdOk (zs : List Int) (a : Nat) (m : Int) (n j : Nat) : Prop := ∀ i, i < j → gvN zs a m n i < glim m (glN m n i)
theorem rdOk_next {zs : List Int} {a n j : Nat} {m : Int} (h : rdOk zs a m n j) (hj : gvN zs a m n j < glim m (glN m n j)) : rdOk zs a m n (j + 1) := fun i hi => by
  by_cases e : i < j
  · exact h i e
  · obtain rfl : i = j := by omega
    exact hj
theorem glN_full {m : Int} {n j : Nat} (h : j + 1 < gct (gsz m) n) : glN m n j = gsz m := by
  have h1 := (gct_lt (gsz_pos m)).1 h
  rw [Nat.add_mul, Nat.one_mul] at h1
  unfold glN; omega
theorem rdT_len (zs : List Int) (a : Nat) (m : Int) (n : Nat) : ∀ j, j ≤ gct (gsz m) n → (rdT zs a m n j).length = min (j * gsz m) n := by
  intro j
  induction j with
  | zero => intro _; simp [rdT]
  | succ j ih =>
    intro h
    have h1 := (gct_lt (gsz_pos m)).1 (show j < gct (gsz m) n by omega)
    rw [rdT, List.length_append, ih (by omega), dgN_len, glN, Nat.add_mul, Nat.one_mul]; omega
theorem rdT_byte {zs : List Int} {a : Nat} {m : Int} (hm : 1 ≤ m ∧ m ≤ 4) {n : Nat} : ∀ j, ∀ x ∈ rdT zs a m n j, 0 ≤ x ∧ x ≤ 255 := by
  intro j
  induction j with
  | zero => intro x hx; cases hx
  | succ j ih =>
    intro x hx
    rw [rdT] at hx
    rcases List.mem_append.1 hx with h | h
    · exact ih x h
    · exact dgN_byte hm _ _ x h
/-- The bits of the first groups of a text; those of all. -/
def gwN (m : Int) (n j : Nat) : Nat := j * wid m (gsz m)
/-- Where a group ends, within the text's bits. -/
theorem gp_end {m : Int} {n j : Nat} (hj : j < gct (gsz m) n) : j * wid m (gsz m) + wid m (glN m n j) ≤ twid m n := by
  have hg := gsz_pos m
  have h1 := (gct_lt hg).1 hj
  unfold twid
  obtain ⟨G, hG⟩ : ∃ G, gsz m = G := ⟨_, rfl⟩
  unfold glN
  rw [hG] at hg h1 ⊢
  by_cases hf : (j + 1) * G ≤ n
  · rw [Nat.add_mul, Nat.one_mul] at hf
    rw [Nat.min_eq_left (by omega)]
    have : j + 1 ≤ n / G := (Nat.le_div_iff_mul_le (by omega)).2 (by rw [Nat.add_mul, Nat.one_mul]; omega)
    have h2 := Nat.mul_le_mul_right (wid m G) this
    rw [Nat.add_mul, Nat.one_mul] at h2
    omega
  · rw [Nat.add_mul, Nat.one_mul] at hf
    rw [Nat.min_eq_right (by omega)]
    have h2 : n / G = j := by
      apply Nat.le_antisymm
      · exact Nat.le_of_lt_succ ((Nat.div_lt_iff_lt_mul (by omega)).2 (by rw [Nat.succ_mul]; omega))
      · exact (Nat.le_div_iff_mul_le (by omega)).2 (by omega)
    have h3 : n % G = n - j * G := by
      have := Nat.div_add_mod n G
      rw [h2, Nat.mul_comm] at this; omega
    rw [h2, h3]; exact Nat.le_refl _
theorem gp_last {m : Int} {n : Nat} (hn : 1 ≤ n) {j : Nat} (hj : j + 1 = gct (gsz m) n) : j * wid m (gsz m) + wid m (glN m n j) = twid m n := by
  have hg := gsz_pos m
  have h1 := (gct_lt hg (n := n) (j := j)).1 (by omega)
  have h0 : ¬ (j + 1) * gsz m < n := fun h => by have := (gct_lt hg).2 h; omega
  unfold twid
  obtain ⟨G, hG⟩ : ∃ G, gsz m = G := ⟨_, rfl⟩
  unfold glN
  rw [hG] at hg h1 h0 ⊢
  rw [Nat.add_mul, Nat.one_mul] at h0
  by_cases hf : n = j * G + G
  · rw [Nat.min_eq_left (by omega)]
    have h2 : n / G = j + 1 := by rw [hf, show j * G + G = (j + 1) * G by rw [Nat.add_mul, Nat.one_mul]]; exact Nat.mul_div_cancel _ (by omega)
    have h3 : n % G = 0 := by rw [hf, show j * G + G = (j + 1) * G by rw [Nat.add_mul, Nat.one_mul]]; exact Nat.mul_mod_left _ _
    have h4 : wid m 0 = 0 := rfl
    rw [h2, h3, h4, Nat.add_mul, Nat.one_mul, Nat.add_zero]
  · rw [Nat.min_eq_right (by omega)]
    have h2 : n / G = j := by
      apply Nat.le_antisymm
      · exact Nat.le_of_lt_succ ((Nat.div_lt_iff_lt_mul (by omega)).2 (by rw [Nat.succ_mul]; omega))
      · exact (Nat.le_div_iff_mul_le (by omega)).2 (by omega)
    have h3 : n % G = n - j * G := by
      have := Nat.div_add_mod n G
      rw [h2, Nat.mul_comm] at this; omega
    rw [h2, h3]
end Go.Proofs.Ythbmfaogjaahoaa

namespace Go.Proofs.Ythbmfaogjaahoaa
open Go Go.RowKit
set_option linter.unusedSimpArgs false
set_option linter.unusedVariables false

set_option maxRecDepth 100000 in
set_option maxHeartbeats 1000000 in
theorem specChar (m : Int) (hm : 1 ≤ m ∧ m ≤ 4) (x : Nat) (hx : x < gbase m) (w : World) :
    Calls Try.prog 98 #[.int .i64 m, .int .i64 x] w fun e w' => e = .returned (.int .u8 (chr m (x : Int))) ∧ w' = w := by
  by_cases h4 : m = 4
  · subst h4
    have hx' : x < 256 := hx
    have hw : IntKind.u8.wrap (x : Int) = (x : Int) := by rw [IntKind.wrap_u8]; omega
    have HC := hide (show chr 4 (x : Int) = (x : Int) from rfl)
    rw [HC.out]
    clear hx HC
    go_enter Try.func98, Try.ntmps98
    go_wp2_with fail
    go_ret
    exact ⟨rfl, rfl⟩
  · have e4 : (m == 4) = false := by simpa using h4
    have hm3 : m = 1 ∨ m = 2 ∨ m = 3 := by omega
    have hxs : x < (stS m).size := by rw [stS_size hm3]; exact hx
    obtain ⟨q, hq, hq2, hq0, hq1⟩ := byteAt (stS m) hxs
    have HC := hide (show chr m (x : Int) = q by
      rw [chr, if_neg h4, List.getD_eq_getElem?_getD, Int.toNat_natCast, ← stS_chars hm3, hq2]; rfl)
    have HSET := hide (specSet m)
    obtain ⟨st, hst⟩ : ∃ st, stS m = st := ⟨_, rfl⟩
    subst hst
    rw [HC.out]
    have hxI : (x : Int) < ((stS m).size : Int) := by omega
    clear hq2 hm3 h4 hx HC
    go_enter Try.func98, Try.ntmps98
    go_wp2_with fail
    refine (HSET.out _).mono ?_
    rintro e wz ⟨rfl, hwz⟩
    rw [hwz]
    clear hwz
    go_wp2_with fail
    go_ret
    exact ⟨rfl, rfl⟩

/-- The box of a segment is written anew. -/
theorem SBox.put {w wr : World} {t : TypeId} {m : Int} {s : ByteArray} (h : SBox w wr t m s) (m' : Int) (s' : ByteArray) : SBox w ((wr.setCell ⟨w.heap.size, 0, none⟩ (.int .i64 m')).setCell ⟨w.heap.size, 1, none⟩ (.string s')) t m' s' := by
  refine ⟨?_, (h.2.setCell (p := ⟨w.heap.size, 0, none⟩) (Nat.le_refl _) _).setCell (p := ⟨w.heap.size, 1, none⟩) (Nat.le_refl _) _⟩
  have h1 := heap_setCell_same wr w.heap.size 0 _ _ (.int .i64 m') h.1
  exact heap_setCell_same _ w.heap.size 1 _ _ (.string s') h1
def RdIn (w : World) (g cc S : Nat) (M : Int) (v : Nat) (tx : List Int) (vt nu k : Value) (wr : World) : Prop :=
  ∃ t u : Nat, t ≤ cc ∧ nu = .int .i64 u ∧ Hid (v / S ^ t = u) ∧ u ≤ 2048 ∧ k = .int .i64 ((cc : Int) - 1 - (t : Int)) ∧ Own wr g 5 .u8 (.slice (some ⟨g, 0, none⟩) cc cc) (List.replicate (cc - t) 0 ++ dgN S M v t) ∧ Own wr (w.heap.size + 1) 5 .u8 vt tx ∧ SBox w wr 107 0 ⟨#[]⟩ ∧ ((Value.slice (some ⟨g, 0, none⟩) cc cc).ownBlock = none ∨ (Value.slice (some ⟨g, 0, none⟩) cc cc).ownBlock ≠ vt.ownBlock)
def RdOut (w : World) (zs : List Int) (p11 q : Nat) (M : Int) (N G : Nat) (pp v i : Value) (wr : World) : Prop :=
  ∃ j p : Nat, j ≤ gct G N ∧ i = .int .i64 (j * G : Nat) ∧ pp = .int .i64 p ∧ Hid (j < gct G N → p = p11 + j * wid M G) ∧ Hid (j = gct G N → p = q) ∧ Own wr (w.heap.size + 1) 5 .u8 v (rdT zs p11 M N j) ∧ Hid (rdOk zs p11 M N j) ∧ SBox w wr 107 0 ⟨#[]⟩
def rdM0 (zs : List Int) (a : Nat) : Int := numVal ((zs.drop a).take 3)
def rdN0 (zs : List Int) (a : Nat) : Nat := (numVal ((zs.drop (a + 3)).take 8)).toNat
/-- A valid segment begins at index a. -/
def RdIs (zs : List Int) (a : Nat) : Prop := a + 11 ≤ zs.length ∧ 1 ≤ rdM0 zs a ∧ rdM0 zs a ≤ 4 ∧ 1 ≤ rdN0 zs a ∧ a + slen (rdM0 zs a) (rdN0 zs a) ≤ zs.length ∧ rdOk zs (a + 11) (rdM0 zs a) (rdN0 zs a) (gct (gsz (rdM0 zs a)) (rdN0 zs a))
open Classical in
noncomputable def rdB (zs : List Int) (a : Nat) : Bool := decide (RdIs zs a)
noncomputable def rdM (zs : List Int) (a : Nat) : Int := if rdB zs a then rdM0 zs a else 0
noncomputable def rdS (zs : List Int) (a : Nat) : ByteArray := if rdB zs a then strOf (rdT zs (a + 11) (rdM0 zs a) (rdN0 zs a) (gct (gsz (rdM0 zs a)) (rdN0 zs a))) else ⟨#[]⟩
noncomputable def rdE (zs : List Int) (a : Nat) : Int := if rdB zs a then ((a + slen (rdM0 zs a) (rdN0 zs a) : Nat) : Int) else 0
theorem rd_no {zs : List Int} {a : Nat} (h : ¬ RdIs zs a) : rdB zs a = false ∧ rdM zs a = 0 ∧ rdS zs a = ⟨#[]⟩ ∧ rdE zs a = 0 := by
  have hb : rdB zs a = false := by unfold rdB; exact @decide_eq_false _ (Classical.propDecidable _) h
  refine ⟨hb, ?_, ?_, ?_⟩
  · unfold rdM; rw [hb]; rfl
  · unfold rdS; rw [hb]; rfl
  · unfold rdE; rw [hb]; rfl
theorem rd_yes {zs : List Int} {a : Nat} (h : RdIs zs a) : rdB zs a = true ∧ rdM zs a = rdM0 zs a ∧ rdS zs a = strOf (rdT zs (a + 11) (rdM0 zs a) (rdN0 zs a) (gct (gsz (rdM0 zs a)) (rdN0 zs a))) ∧ rdE zs a = ((a + slen (rdM0 zs a) (rdN0 zs a) : Nat) : Int) := by
  have hb : rdB zs a = true := by unfold rdB; exact @decide_eq_true _ (Classical.propDecidable _) h
  refine ⟨hb, ?_, ?_, ?_⟩
  · unfold rdM; rw [hb]; rfl
  · unfold rdS; rw [hb]; rfl
  · unfold rdE; rw [hb]; rfl
/-- What the model's reading leaves. -/
def RdPost (zs : List Int) (a : Nat) (w : World) (x : Ending) (w' : World) : Prop :=
  x = .returned (.tuple #[.agg #[.int .i64 (rdM zs a), .string (rdS zs a)], .int .i64 (rdE zs a), .bool (rdB zs a)]) ∧ Below w.heap.size w w'
theorem rd_post_no {zs : List Int} {a : Nat} (h : ¬ RdIs zs a) {w w' : World} (hb : Below w.heap.size w w') : RdPost zs a w (.returned (.tuple #[.agg #[.int .i64 0, .string ⟨#[]⟩], .int .i64 0, .bool false])) w' := by
  obtain ⟨h1, h2, h3, h4⟩ := rd_no h
  exact ⟨by rw [h1, h2, h3, h4], hb⟩

set_option maxRecDepth 100000 in
set_option maxHeartbeats 4000000 in
theorem specL9 (A : Option Addr) (n0 c B : Nat) (zs : List Int) (a : Nat) (w : World) (hI : Ints .i64 w B A n0 zs) (hB : B ≤ w.heap.size) (hn : n0 ≤ 8192) (ha : a ≤ n0) (hbt : ∀ x ∈ zs, x = 0 ∨ x = 1) :
    Calls Try.prog 72 #[.slice A n0 c, .int .i64 a] w (RdPost zs a w) := by
  have HI := hide hI
  have hl := hide hI.len
  have HBT := hide hbt
  have HX := hide (SBox.start w 107 0 ⟨#[]⟩)
  obtain ⟨c0, c1⟩ := HX.out.cells
  have hfz : ∀ i, (w.alloc (.cells #[.int .i64 0, .string ⟨#[]⟩] 107)).frozen? ⟨w.heap.size, i, none⟩ = false := fun i => frozen_of_row _ w.heap.size i _ _ HX.out.1
  clear hI hbt
  obtain ⟨p3, hp3⟩ : ∃ p3, a + 3 = p3 := ⟨_, rfl⟩
  obtain ⟨p11, hp11⟩ : ∃ p11, a + 11 = p11 := ⟨_, rfl⟩
  have HP3 := hide hp3
  have HP11 := hide hp11
  have hw1 : IntKind.i64.wrap ((a : Int) + 3) = (p3 : Int) := by rw [IntWalk.i64_in _ ⟨by omega, by omega⟩]; omega
  have hw2 : IntKind.i64.wrap ((p3 : Int) + 8) = (p11 : Int) := by rw [IntWalk.i64_in _ ⟨by omega, by omega⟩]; omega
  by_cases h11 : n0 < p11
  · have HF := hide (fun w' hb => rd_post_no (zs := zs) (a := a) (w := w) (w' := w') (fun h => by have := h.1; rw [hl.out] at this; omega) hb)
    have z1 : (n0 : Int) < (p11 : Int) := by omega
    clear hp3 hp11
    go_enter Try.func72, Try.ntmps72
    go_wp2_with fail
    exact bodyPost_ret (v := .tuple #[.agg #[.int .i64 0, .string ⟨#[]⟩], .int .i64 0, .bool false]) (by simp [results, Try.results72, go_sem, c0, c1]) rfl (HF.out _ HX.out.2)
  have z1 : ¬ (n0 : Int) < (p11 : Int) := by omega
  have HNM := hide (fun lo wd w hI hwd hlo => specNumber A n0 c B lo wd zs w hI (by omega) hwd hlo HBT.out)
  obtain ⟨hm1, hm2⟩ := num_nat HBT.out a 3
  obtain ⟨hm3, hm4⟩ := num_nat HBT.out p3 8
  obtain ⟨M, hM⟩ : ∃ M, numVal ((zs.drop a).take 3) = M := ⟨_, rfl⟩
  obtain ⟨N, hN⟩ : ∃ N, (numVal ((zs.drop p3).take 8)).toNat = N := ⟨_, rfl⟩
  have HM := hide hM
  have HN := hide hN
  rw [hM] at hm1 hm2
  rw [hN] at hm3 hm4
  have hn255 : N ≤ 255 := by omega
  have hM7 : 0 ≤ M ∧ M ≤ 7 := by omega
  have HS1 := hide (fun w hI => HNM.out a 3 w hI (by omega) (by omega))
  have HS2 := hide (fun w hI => HNM.out p3 8 w hI (by omega) (by omega))
  rw [hM] at HS1
  rw [hm3] at HS2
  have HRM := hide (show rdM0 zs a = M from hM)
  have HRN := hide (show rdN0 zs a = N by unfold rdN0; rw [hp3]; exact hN)
  clear hp3 hp11 hm1 hm2 hm3 hm4 hM hN
  by_cases hm : 1 ≤ M ∧ M ≤ 4
  case neg =>
    have HF := hide (fun w' hb => rd_post_no (zs := zs) (a := a) (w := w) (w' := w') (fun h => hm (by rw [← HRM.out]; exact ⟨h.2.1, h.2.2.1⟩)) hb)
    have hm' : M < 1 ∨ 4 < M := by omega
    go_enter Try.func72, Try.ntmps72
    go_wp2_with fail
    refine (HS1.out _ (HI.out.below (HX.out.2.mono hB))).mono ?_
    rintro e _ ⟨rfl, rfl⟩
    go_wp2_with fail
    refine (HS2.out _ (HI.out.below (HX.out.2.mono hB))).mono ?_
    rintro e _ ⟨rfl, rfl⟩
    go_wp2_with fail
    refine (specIn_no M 1 4 _ hm').mono ?_
    rintro e _ ⟨rfl, rfl⟩
    go_wp2_with fail
    exact bodyPost_ret (v := .tuple #[.agg #[.int .i64 0, .string ⟨#[]⟩], .int .i64 0, .bool false]) (by simp [results, Try.results72, go_sem, c0, c1]) rfl (HF.out _ HX.out.2)
  by_cases hN1 : N = 0
  case pos =>
    have HF := hide (fun w' hb => rd_post_no (zs := zs) (a := a) (w := w) (w' := w') (fun h => by have := h.2.2.2.1; rw [HRN.out] at this; omega) hb)
    subst hN1
    go_enter Try.func72, Try.ntmps72
    go_wp2_with fail
    refine (HS1.out _ (HI.out.below (HX.out.2.mono hB))).mono ?_
    rintro e _ ⟨rfl, rfl⟩
    go_wp2_with fail
    refine (HS2.out _ (HI.out.below (HX.out.2.mono hB))).mono ?_
    rintro e _ ⟨rfl, rfl⟩
    go_wp2_with fail
    refine (specIn_yes M 1 4 _ hm.1 hm.2).mono ?_
    rintro e _ ⟨rfl, rfl⟩
    go_wp2_with fail
    exact bodyPost_ret (v := .tuple #[.agg #[.int .i64 0, .string ⟨#[]⟩], .int .i64 0, .bool false]) (by simp [results, Try.results72, go_sem, c0, c1]) rfl (HF.out _ HX.out.2)
  have hN0 : ¬ (N : Int) = 0 := by omega
  have hNb : ((N : Int) == 0) = false := by simpa using hN1
  have HL := hide (specLength M hm N hn255)
  obtain ⟨T, hT⟩ : ∃ T, slen M N = T := ⟨_, rfl⟩
  have HT := hide hT
  have hTb : T ≤ 2827 := by rw [← hT]; have := twid_le (m := M) hn255; unfold slen; omega
  rw [hT] at HL
  obtain ⟨q, hq⟩ : ∃ q, a + T = q := ⟨_, rfl⟩
  have HQ := hide hq
  have hw3 : IntKind.i64.wrap ((a : Int) + (T : Int)) = (q : Int) := by rw [IntWalk.i64_in _ ⟨by omega, by omega⟩]; omega
  clear hT hq
  by_cases hlong : n0 < q
  case pos =>
    have HF := hide (fun w' hb => rd_post_no (zs := zs) (a := a) (w := w) (w' := w') (fun h => by have := h.2.2.2.2.1; rw [HRM.out, HRN.out, HT.out, hl.out] at this; have := HQ.out; omega) hb)
    have z2 : (n0 : Int) < (q : Int) := by omega
    go_enter Try.func72, Try.ntmps72
    go_wp2_with fail
    refine (HS1.out _ (HI.out.below (HX.out.2.mono hB))).mono ?_
    rintro e _ ⟨rfl, rfl⟩
    go_wp2_with fail
    refine (HS2.out _ (HI.out.below (HX.out.2.mono hB))).mono ?_
    rintro e _ ⟨rfl, rfl⟩
    go_wp2_with fail
    refine (specIn_yes M 1 4 _ hm.1 hm.2).mono ?_
    rintro e _ ⟨rfl, rfl⟩
    go_wp2_with fail
    refine (HL.out _).mono ?_
    rintro e w1 ⟨rfl, hb1⟩
    have HX1 := hide (HX.out.next hb1)
    clear hb1 c0 c1
    obtain ⟨c0, c1⟩ := HX1.out.cells
    have f0 := frozen_of_row w1 w.heap.size 0 _ _ HX1.out.1
    have f1 := frozen_of_row w1 w.heap.size 1 _ _ HX1.out.1
    have HXp := hide (HX1.out.put 0 ⟨#[]⟩)
    go_wp2_with fail
    obtain ⟨d0, d1⟩ := HXp.out.cells
    exact bodyPost_ret (v := .tuple #[.agg #[.int .i64 0, .string ⟨#[]⟩], .int .i64 0, .bool false]) (by simp [results, Try.results72, go_sem, d0, d1]) rfl (HF.out _ HXp.out.2)
  -- MAIN
  have z2 : ¬ (n0 : Int) < (q : Int) := by omega
  have HGR := hide (specGroup M hm)
  rw [sb_is] at HGR
  have hg1 := gsz_pos M
  have hg3 := gsz_le M
  have HGS := hide (fun (cc : Nat) (v : Nat) h1 h2 h3 => sb_dg (m := M) hm (c := cc) (v := v) h1 h2 h3)
  have HWA := hide (fun cc h1 h2 => specWidth M hm cc h1 h2)
  have HGE := hide (fun j hj => gp_end (m := M) (n := N) (j := j) hj)
  have HGL := hide (fun j hj => gp_last (m := M) (n := N) (by omega) (j := j) hj)
  have HTW := hide (show T = 11 + twid M N by rw [← HT.out]; rfl)
  obtain ⟨G, hG⟩ : ∃ G, gsz M = G := ⟨_, rfl⟩
  obtain ⟨S, hS⟩ : ∃ S, sbN M = S := ⟨_, rfl⟩
  have hS1 : 1 ≤ S ∧ S ≤ 256 := by rw [← hS]; unfold sbN; (repeat' split) <;> omega
  have HGG := hide hG
  have HSS := hide hS
  rw [hG, hS] at HGR
  rw [hS] at HGS
  rw [hG] at hg1 hg3 HGE HGL
  clear hG hS
  go_enter Try.func72, Try.ntmps72
  go_wp2_with fail
  refine (HS1.out _ (HI.out.below (HX.out.2.mono hB))).mono ?_
  rintro e _ ⟨rfl, rfl⟩
  go_wp2_with fail
  refine (HS2.out _ (HI.out.below (HX.out.2.mono hB))).mono ?_
  rintro e _ ⟨rfl, rfl⟩
  go_wp2_with fail
  refine (specIn_yes M 1 4 _ hm.1 hm.2).mono ?_
  rintro e _ ⟨rfl, rfl⟩
  go_wp2_with fail
  refine (HL.out _).mono ?_
  rintro e w1 ⟨rfl, hb1⟩
  have HX1 := hide (HX.out.next hb1)
  clear hb1 c0 c1
  go_wp2_with fail
  refine (HGR.out _).mono ?_
  rintro e wz ⟨rfl, hwz⟩
  rw [hwz]
  clear hwz
  go_wp2_with fail
  have HO1 := hide (Own.lit0 w1 5 .u8)
  have HX1' := hide (HX1.out.alloc (.cells #[] 5))
  go_loopw [1, 12, 13] (fun pp v i wr => RdOut w zs p11 q M N G pp v i wr) (fun _ _ i _ => N - (intOf i).toNat)
  case atStart => exact ⟨0, p11, Nat.zero_le _, by simp, rfl, hide (fun _ => by simp), hide (fun h => by have := (gct_lt hg1 (n := N) (j := 0)).2 (by omega); omega), HO1.out.low HX1.out.lt, hide (fun i hi => absurd hi (by omega)), HX1'.out⟩
  case round =>
    clear HO1 HX1'
    obtain ⟨vt, hvt⟩ : ∃ v, v = u12 := ⟨_, rfl⟩
    subst hvt
    obtain ⟨j, pp, hj, rfl, rfl, hp1, hp2, hO, hok, hX⟩ := hrel
    have HOr := hide hO
    have HXr := hide hX
    have HOK := hok
    have HP1 := hp1
    have HP2 := hp2
    clear hO hX hok hp1 hp2
    by_cases hlt : j * G < N
    · have hjl := (gct_lt hg1 (n := N) (j := j)).2 hlt
      have hpp := HP1.out hjl
      obtain ⟨cc, hcc⟩ : ∃ cc, glN M N j = cc := ⟨_, rfl⟩
      have hmin : min G (N - j * G) = cc := by rw [← hcc, glN, HGG.out]
      have hc1 : 1 ≤ cc := by omega
      have hcG : cc ≤ G := by omega
      have HWD := hide (HWA.out cc hc1 (by rw [HGG.out]; exact hcG))
      have hwl := wid_le M cc
      have hge := HGE.out j hjl
      rw [hcc] at hge
      have HVN := hide (show gvN zs p11 M N j = (numVal ((zs.drop pp).take (wid M cc))).toNat by unfold gvN gpN; rw [hcc, hpp, HGG.out])
      obtain ⟨hv1, hv2⟩ := num_nat HBT.out pp (wid M cc)
      have HNJ := hide (fun w hI => HNM.out pp (wid M cc) w hI (by omega) (by rw [hpp]; have := HTW.out; have := HQ.out; have := HP11.out; omega))
      obtain ⟨v, hve⟩ : ∃ v, (numVal ((zs.drop pp).take (wid M cc))).toNat = v := ⟨_, rfl⟩
      rw [hv1] at HNJ
      rw [hve] at HNJ HVN hv2
      have HDG := hide (HGS.out cc v hc1 (by rw [HGG.out]; exact hcG) hv2)
      have hv : v ≤ 2048 := by have : (2 : Nat) ^ wid M cc ≤ 2 ^ 11 := Nat.pow_le_pow_right (by omega) hwl; omega
      obtain ⟨Wd, hWd⟩ : ∃ Wd, wid M cc = Wd := ⟨_, rfl⟩
      rw [hWd] at HWD HNJ hge hwl
      have HWd := hide hWd
      have hpb : pp + Wd ≤ n0 := by rw [hpp]; have := HTW.out; have := HQ.out; have := HP11.out; omega
      have hwp : IntKind.i64.wrap ((pp : Int) + (Wd : Int)) = ((pp + Wd : Nat) : Int) := by rw [IntWalk.i64_in _ ⟨by omega, by omega⟩]; omega
      obtain ⟨p2, hp2e⟩ : ∃ p2, pp + Wd = p2 := ⟨_, rfl⟩
      rw [hp2e] at hwp hpb
      have HP2e := hide hp2e
      obtain ⟨x, hx⟩ : ∃ x, j * G = x := ⟨_, rfl⟩
      have HXX := hide hx
      have HCC := hide hcc
      have hws : IntKind.i64.wrap ((N : Int) - (x : Int)) = ((N - x : Nat) : Int) := by rw [IntWalk.i64_in _ ⟨by omega, by omega⟩]; omega
      rw [hx] at hlt hmin ⊢
      obtain ⟨r, hr⟩ : ∃ r, N - x = r := ⟨_, rfl⟩
      rw [hr] at hmin hws
      have hwc : IntKind.i64.wrap ((cc : Int) - 1) = (cc : Int) - 1 := IntWalk.i64_in _ ⟨by omega, by omega⟩
      have hxr : x + r = N := by omega
      clear hv1 hv2 hve hWd hp2e hx hcc hpp hr hge
      go_wp2_with fail
      · obtain rfl : cc = r := by omega
        skip
        go_wp2_with fail
        refine (HWD.out _).mono ?_
        rintro e w2 ⟨rfl, hb2⟩
        have HX2 := hide (HXr.out.next hb2)
        have HO2 := hide (HOr.out.below hb2 (Nat.le_refl _))
        clear hb2
        go_wp2_with fail
        refine (HNJ.out _ (HI.out.below (HX2.out.2.mono hB))).mono ?_
        rintro e _ ⟨rfl, rfl⟩
        go_wp2_with (at_make; refine wpList_mkN _ rfl _ _ _ rfl elem8 .i64 .i64 _ _ cc rfl rfl rfl rfl (by omega) ?_; intro w4 hown hbel; have HG4 := hide hown; have HX4 := hide (HX2.out.next hbel); have HO4 := hide (HO2.out.below hbel (Nat.le_refl _)); have hg4 := hide HX2.out.2.size; have hgt := hide (HX2.out.lt); have hne4 := hide (HO2.out.ne' hown (Nat.le_refl _)); clear hown hbel)
        go_loopw [16, 18] (fun nu k wr => RdIn w w2.heap.size cc S M v (rdT zs p11 M N j) vt nu k wr) (fun _ k _ => (intOf k + 1).toNat)
        case atStart => exact ⟨0, v, by omega, rfl, by simp [Hid], hv, by simp, by simpa [dgN] using HG4.out, HO4.out, HX4.out, hne4.out⟩
        case round =>
          clear HG4 HX4 HO4 hne4
          obtain ⟨t, u, ht, rfl, hu, hu2, rfl, hG, hO, hX, hne⟩ := hrel
          have HU := hu
          have HG5 := hide hG
          have HO5 := hide hO
          have HX5 := hide hX
          have HN5 := hide hne
          clear hu hG hO hX hne
          by_cases htc : t < cc
          · obtain ⟨kk, hkk⟩ : ∃ kk, kk + t + 1 = cc := ⟨cc - t - 1, by omega⟩
            have hkI : (cc : Int) - 1 - (t : Int) = (kk : Int) := by omega
            have hx3 := HDG.out.2.2 t htc
            rw [HU.out] at hx3
            have htm : (u : Int).tmod (S : Int) = ((u % S : Nat) : Int) := by rw [Int.tmod_eq_emod_of_nonneg (by omega)]; rfl
            have hle := Nat.div_le_self u S
            obtain ⟨u2, hu2e⟩ : ∃ u2, u / S = u2 := ⟨_, rfl⟩
            have htd : IntKind.i64.wrap ((u : Int) / (S : Int)) = (u2 : Int) := by
              rw [show ((u : Int) / (S : Int)) = (u2 : Int) by rw [← hu2e]; rfl]
              rw [hu2e] at hle
              exact IntWalk.i64_in _ ⟨by omega, by omega⟩
            have HU2 := hide (show v / S ^ (t + 1) = u2 by rw [Nat.pow_succ, ← Nat.div_div_eq_div_mul, HU.out]; exact hu2e)
            have HCH := hide (fun w => specChar M hm (u % S) hx3 w)
            have HCB := hide (show dgN S M v (t + 1) = chr M ((u % S : Nat) : Int) :: dgN S M v t by rw [dgN, HU.out])
            obtain ⟨y, hy⟩ : ∃ y, chr M ((u % S : Nat) : Int) = y := ⟨_, rfl⟩
            obtain ⟨x3, hx3e⟩ : ∃ x3, u % S = x3 := ⟨_, rfl⟩
            rw [hu2e] at hle
            rw [hy] at HCH HCB
            rw [hx3e] at htm HCH
            have hS0 : ¬ (S : Int) = 0 := by omega
            have hwk : IntKind.i64.wrap ((kk : Int) - 1) = (kk : Int) - 1 := IntWalk.i64_in _ ⟨by omega, by omega⟩
            have e0 : wr.cell? ⟨w2.heap.size, kk, none⟩ = some (.int .u8 0) := HG5.out.cellAt (by
              rw [List.getElem?_append_left (by simp; omega), List.getElem?_replicate, if_pos (by omega)])
            have f0 := HG5.out.frozenAt kk
            obtain ⟨g1, g2⟩ := HG5.out.stored kk y
            have HG6 := hide g1
            have HO6 := hide (HO5.out.grown g2 (by
              rcases HN5.out with h | h
              · cases h
              · exact .inr (fun e => h e.symm)))
            have HX6 := hide (HX5.out.grow' g2 (fun b hb => by cases hb; exact hgt.out))
            have HLS := hide (show (List.replicate (cc - t) 0 ++ dgN S M v t).set kk y = List.replicate (cc - (t + 1)) 0 ++ dgN S M v (t + 1) by
              rw [HCB.out, show cc - t = kk + 1 by omega, show cc - (t + 1) = kk by omega, List.replicate_succ', List.append_assoc, List.set_append_right _ _ (by simp)]
              simp)
            have hkn : kk < cc := by omega
            rw [hkI]
            clear hu2e hy hx3e hx3 g1 g2 HG5 HO5 HX5
            go_wp2_with fail
            refine (HCH.out _).mono ?_
            rintro e wz ⟨rfl, hwz⟩
            rw [hwz]
            clear hwz
            go_wp2_with fail
            go_roundw
            case rel => exact ⟨t + 1, u2, by omega, rfl, HU2.out, by omega, by go_num, by rw [← HLS.out]; exact HG6.out, HO6.out, HX6.out, HN5.out⟩
            case measure => simp [intOf]
          · obtain rfl : t = cc := by omega
            have hkI : (t : Int) - 1 - (t : Int) = -1 := by omega
            have HGA := hide (show List.replicate (t - t) 0 ++ dgN S M v t = dgN S M v t by simp)
            rw [HGA.out] at HG5
            rw [hkI]
            by_cases hu0 : u = 0
            · subst hu0
              have HVL := hide (show gvN zs p11 M N j < glim M (glN M N j) by rw [HVN.out, HCC.out]; exact HDG.out.2.1.1 HU.out)
              have HTJ := hide (show rdT zs p11 M N (j + 1) = rdT zs p11 M N j ++ dgN S M v t by rw [rdT, HVN.out, HCC.out, HDG.out.1])
              have HIG := hide (HG5.out.ints' (dgN_len _ _ _ _))
              have hlt8 : (rdT zs p11 M N j).length ≤ 255 := by rw [rdT_len _ _ _ _ j (by rw [HGG.out]; exact hj)]; omega
              have hbz := hide HX5.out.lt
              have hwi : IntKind.i64.wrap ((x : Int) + (G : Int)) = ((x + G : Nat) : Int) := by rw [IntWalk.i64_in _ ⟨by omega, by omega⟩]; omega
              obtain ⟨tx, htx⟩ : ∃ tx, rdT zs p11 M N j = tx := ⟨_, rfl⟩
              rw [htx] at HO5 HTJ hlt8
              obtain ⟨ng, hng⟩ : ∃ ng, dgN S M v t = ng := ⟨_, rfl⟩
              rw [hng] at HTJ HIG
              obtain ⟨xG, hxG⟩ : ∃ xG, x + G = xG := ⟨_, rfl⟩
              rw [hxG] at hwi
              have HXG := hide hxG
              clear htx hng hxG
              go_wp2_with (at_builtin; refine wpList_appL _ rfl _ _ _ rfl elem8 (w.heap.size + 1) vt tx rfl HO5.out _ _ t t ng rfl HIG.out (by omega) hbz.out ?_; intro v7 w7 hown hgr; have HO7 := hide hown; have HX7 := hide (HX5.out.grow' hgr (fun b hb => (HO5.out.lt hb).1)); clear hown hgr)
              go_roundw
              case rel => exact ⟨j + 1, p2, hjl, by rw [← HXG.out, Nat.add_mul, Nat.one_mul, HXX.out], rfl, hide (fun h => by
                have h1 := glN_full (m := M) (n := N) (j := j) (by rw [HGG.out]; exact h)
                rw [HCC.out, HGG.out] at h1
                rw [← HP2e.out, HP1.out hjl, ← HWd.out, h1, Nat.add_mul, Nat.one_mul, Nat.add_assoc]), hide (fun h => by
                have h1 := HGL.out j h
                rw [HCC.out, HWd.out] at h1
                have h2 := HP1.out hjl
                try rw [HWd.out] at h2
                have h3 := HP2e.out; have h4 := HQ.out; have h5 := HTW.out; have h6 := HP11.out
                omega), by rw [HTJ.out]; exact HO7.out, hide (rdOk_next HOK.out HVL.out), HX7.out⟩
              case measure => have := HXG.out; simp [intOf]; omega
            · have hup : (0 : Int) < (u : Int) := by omega
              have HF := hide (fun w' hb => rd_post_no (zs := zs) (a := a) (w := w) (w' := w') (fun h => by
                have h5 := h.2.2.2.2.2
                rw [HRM.out, HRN.out, HP11.out, HGG.out] at h5
                have h6 := h5 j hjl
                rw [HVN.out, HCC.out] at h6
                exact hu0 (HU.out.symm.trans (HDG.out.2.1.2 h6))) hb)
              obtain ⟨c0, c1⟩ := HX5.out.cells
              have f0 := frozen_of_row wr w.heap.size 0 _ _ HX5.out.1
              have f1 := frozen_of_row wr w.heap.size 1 _ _ HX5.out.1
              have HXp := hide (HX5.out.put 0 ⟨#[]⟩)
              go_wp2_with fail
              obtain ⟨d0, d1⟩ := HXp.out.cells
              exact bodyPost_ret (v := .tuple #[.agg #[.int .i64 0, .string ⟨#[]⟩], .int .i64 0, .bool false]) (by simp [results, Try.results72, go_sem, d0, d1]) rfl (HF.out _ HXp.out.2)
      · obtain rfl : cc = G := by omega
        skip
        go_wp2_with fail
        refine (HWD.out _).mono ?_
        rintro e w2 ⟨rfl, hb2⟩
        have HX2 := hide (HXr.out.next hb2)
        have HO2 := hide (HOr.out.below hb2 (Nat.le_refl _))
        clear hb2
        go_wp2_with fail
        refine (HNJ.out _ (HI.out.below (HX2.out.2.mono hB))).mono ?_
        rintro e _ ⟨rfl, rfl⟩
        go_wp2_with (at_make; refine wpList_mkN _ rfl _ _ _ rfl elem8 .i64 .i64 _ _ cc rfl rfl rfl rfl (by omega) ?_; intro w4 hown hbel; have HG4 := hide hown; have HX4 := hide (HX2.out.next hbel); have HO4 := hide (HO2.out.below hbel (Nat.le_refl _)); have hg4 := hide HX2.out.2.size; have hgt := hide (HX2.out.lt); have hne4 := hide (HO2.out.ne' hown (Nat.le_refl _)); clear hown hbel)
        go_loopw [16, 18] (fun nu k wr => RdIn w w2.heap.size cc S M v (rdT zs p11 M N j) vt nu k wr) (fun _ k _ => (intOf k + 1).toNat)
        case atStart => exact ⟨0, v, by omega, rfl, by simp [Hid], hv, by simp, by simpa [dgN] using HG4.out, HO4.out, HX4.out, hne4.out⟩
        case round =>
          clear HG4 HX4 HO4 hne4
          obtain ⟨t, u, ht, rfl, hu, hu2, rfl, hG, hO, hX, hne⟩ := hrel
          have HU := hu
          have HG5 := hide hG
          have HO5 := hide hO
          have HX5 := hide hX
          have HN5 := hide hne
          clear hu hG hO hX hne
          by_cases htc : t < cc
          · obtain ⟨kk, hkk⟩ : ∃ kk, kk + t + 1 = cc := ⟨cc - t - 1, by omega⟩
            have hkI : (cc : Int) - 1 - (t : Int) = (kk : Int) := by omega
            have hx3 := HDG.out.2.2 t htc
            rw [HU.out] at hx3
            have htm : (u : Int).tmod (S : Int) = ((u % S : Nat) : Int) := by rw [Int.tmod_eq_emod_of_nonneg (by omega)]; rfl
            have hle := Nat.div_le_self u S
            obtain ⟨u2, hu2e⟩ : ∃ u2, u / S = u2 := ⟨_, rfl⟩
            have htd : IntKind.i64.wrap ((u : Int) / (S : Int)) = (u2 : Int) := by
              rw [show ((u : Int) / (S : Int)) = (u2 : Int) by rw [← hu2e]; rfl]
              rw [hu2e] at hle
              exact IntWalk.i64_in _ ⟨by omega, by omega⟩
            have HU2 := hide (show v / S ^ (t + 1) = u2 by rw [Nat.pow_succ, ← Nat.div_div_eq_div_mul, HU.out]; exact hu2e)
            have HCH := hide (fun w => specChar M hm (u % S) hx3 w)
            have HCB := hide (show dgN S M v (t + 1) = chr M ((u % S : Nat) : Int) :: dgN S M v t by rw [dgN, HU.out])
            obtain ⟨y, hy⟩ : ∃ y, chr M ((u % S : Nat) : Int) = y := ⟨_, rfl⟩
            obtain ⟨x3, hx3e⟩ : ∃ x3, u % S = x3 := ⟨_, rfl⟩
            rw [hu2e] at hle
            rw [hy] at HCH HCB
            rw [hx3e] at htm HCH
            have hS0 : ¬ (S : Int) = 0 := by omega
            have hwk : IntKind.i64.wrap ((kk : Int) - 1) = (kk : Int) - 1 := IntWalk.i64_in _ ⟨by omega, by omega⟩
            have e0 : wr.cell? ⟨w2.heap.size, kk, none⟩ = some (.int .u8 0) := HG5.out.cellAt (by
              rw [List.getElem?_append_left (by simp; omega), List.getElem?_replicate, if_pos (by omega)])
            have f0 := HG5.out.frozenAt kk
            obtain ⟨g1, g2⟩ := HG5.out.stored kk y
            have HG6 := hide g1
            have HO6 := hide (HO5.out.grown g2 (by
              rcases HN5.out with h | h
              · cases h
              · exact .inr (fun e => h e.symm)))
            have HX6 := hide (HX5.out.grow' g2 (fun b hb => by cases hb; exact hgt.out))
            have HLS := hide (show (List.replicate (cc - t) 0 ++ dgN S M v t).set kk y = List.replicate (cc - (t + 1)) 0 ++ dgN S M v (t + 1) by
              rw [HCB.out, show cc - t = kk + 1 by omega, show cc - (t + 1) = kk by omega, List.replicate_succ', List.append_assoc, List.set_append_right _ _ (by simp)]
              simp)
            have hkn : kk < cc := by omega
            rw [hkI]
            clear hu2e hy hx3e hx3 g1 g2 HG5 HO5 HX5
            go_wp2_with fail
            refine (HCH.out _).mono ?_
            rintro e wz ⟨rfl, hwz⟩
            rw [hwz]
            clear hwz
            go_wp2_with fail
            go_roundw
            case rel => exact ⟨t + 1, u2, by omega, rfl, HU2.out, by omega, by go_num, by rw [← HLS.out]; exact HG6.out, HO6.out, HX6.out, HN5.out⟩
            case measure => simp [intOf]
          · obtain rfl : t = cc := by omega
            have hkI : (t : Int) - 1 - (t : Int) = -1 := by omega
            have HGA := hide (show List.replicate (t - t) 0 ++ dgN S M v t = dgN S M v t by simp)
            rw [HGA.out] at HG5
            rw [hkI]
            by_cases hu0 : u = 0
            · subst hu0
              have HVL := hide (show gvN zs p11 M N j < glim M (glN M N j) by rw [HVN.out, HCC.out]; exact HDG.out.2.1.1 HU.out)
              have HTJ := hide (show rdT zs p11 M N (j + 1) = rdT zs p11 M N j ++ dgN S M v t by rw [rdT, HVN.out, HCC.out, HDG.out.1])
              have HIG := hide (HG5.out.ints' (dgN_len _ _ _ _))
              have hlt8 : (rdT zs p11 M N j).length ≤ 255 := by rw [rdT_len _ _ _ _ j (by rw [HGG.out]; exact hj)]; omega
              have hbz := hide HX5.out.lt
              have hwi : IntKind.i64.wrap ((x : Int) + (t : Int)) = ((x + t : Nat) : Int) := by rw [IntWalk.i64_in _ ⟨by omega, by omega⟩]; omega
              obtain ⟨tx, htx⟩ : ∃ tx, rdT zs p11 M N j = tx := ⟨_, rfl⟩
              rw [htx] at HO5 HTJ hlt8
              obtain ⟨ng, hng⟩ : ∃ ng, dgN S M v t = ng := ⟨_, rfl⟩
              rw [hng] at HTJ HIG
              obtain ⟨xG, hxG⟩ : ∃ xG, x + t = xG := ⟨_, rfl⟩
              rw [hxG] at hwi
              have HXG := hide hxG
              clear htx hng hxG
              go_wp2_with (at_builtin; refine wpList_appL _ rfl _ _ _ rfl elem8 (w.heap.size + 1) vt tx rfl HO5.out _ _ t t ng rfl HIG.out (by omega) hbz.out ?_; intro v7 w7 hown hgr; have HO7 := hide hown; have HX7 := hide (HX5.out.grow' hgr (fun b hb => (HO5.out.lt hb).1)); clear hown hgr)
              go_roundw
              case rel => exact ⟨j + 1, p2, hjl, by rw [← HXG.out, Nat.add_mul, Nat.one_mul, HXX.out], rfl, hide (fun h => by
                have h1 := glN_full (m := M) (n := N) (j := j) (by rw [HGG.out]; exact h)
                rw [HCC.out, HGG.out] at h1
                rw [← HP2e.out, HP1.out hjl, ← HWd.out, h1, Nat.add_mul, Nat.one_mul, Nat.add_assoc]), hide (fun h => by
                have h1 := HGL.out j h
                rw [HCC.out, HWd.out] at h1
                have h2 := HP1.out hjl
                try rw [HWd.out] at h2
                have h3 := HP2e.out; have h4 := HQ.out; have h5 := HTW.out; have h6 := HP11.out
                omega), by rw [HTJ.out]; exact HO7.out, hide (rdOk_next HOK.out HVL.out), HX7.out⟩
              case measure => have := HXG.out; simp [intOf]; omega
            · have hup : (0 : Int) < (u : Int) := by omega
              have HF := hide (fun w' hb => rd_post_no (zs := zs) (a := a) (w := w) (w' := w') (fun h => by
                have h5 := h.2.2.2.2.2
                rw [HRM.out, HRN.out, HP11.out, HGG.out] at h5
                have h6 := h5 j hjl
                rw [HVN.out, HCC.out] at h6
                exact hu0 (HU.out.symm.trans (HDG.out.2.1.2 h6))) hb)
              obtain ⟨c0, c1⟩ := HX5.out.cells
              have f0 := frozen_of_row wr w.heap.size 0 _ _ HX5.out.1
              have f1 := frozen_of_row wr w.heap.size 1 _ _ HX5.out.1
              have HXp := hide (HX5.out.put 0 ⟨#[]⟩)
              go_wp2_with fail
              obtain ⟨d0, d1⟩ := HXp.out.cells
              exact bodyPost_ret (v := .tuple #[.agg #[.int .i64 0, .string ⟨#[]⟩], .int .i64 0, .bool false]) (by simp [results, Try.results72, go_sem, d0, d1]) rfl (HF.out _ HXp.out.2)
    · have hje := gct_end hg1 hj hlt
      have hpq := HP2.out hje
      subst hpq
      have HF := hide (show RdIs zs a from ⟨by rw [hl.out]; have := HP11.out; omega, by rw [HRM.out]; exact hm.1, by rw [HRM.out]; exact hm.2, by rw [HRN.out]; omega, by rw [HRM.out, HRN.out, HT.out, HQ.out, hl.out]; omega, by rw [HRM.out, HRN.out, HP11.out, HGG.out, ← hje]; exact HOK.out⟩)
      obtain ⟨y1, y2, y3, y4⟩ := rd_yes HF.out
      rw [HRM.out] at y2
      rw [HRM.out, HRN.out, HP11.out, HGG.out, ← hje] at y3
      rw [HRM.out, HRN.out, HT.out, HQ.out] at y4
      obtain ⟨tx, htx⟩ : ∃ tx, rdT zs p11 M N j = tx := ⟨_, rfl⟩
      rw [htx] at HOr y3
      have HPO := hide (fun w' (hb : Below w.heap.size w w') => show RdPost zs a w (.returned (.tuple #[.agg #[.int .i64 M, .string (strOf tx)], .int .i64 (pp : Nat), .bool true])) w' from ⟨by rw [y1, y2, y3, y4], hb⟩)
      obtain ⟨A7, c7, rfl, hc7⟩ := HOr.out.form
      have hconv := run_str wr elem8 Try.underlying5 Try.underlying9 c7 HOr.out.ints
      obtain ⟨c0, c1⟩ := HXr.out.cells
      have f0 := frozen_of_row wr w.heap.size 0 _ _ HXr.out.1
      have f1 := frozen_of_row wr w.heap.size 1 _ _ HXr.out.1
      have HXp := hide (HXr.out.put M (strOf tx))
      clear htx hc7 y1 y2 y3 y4 hje HF HOr
      go_wp2_with fail
      obtain ⟨d0, d1⟩ := HXp.out.cells
      exact bodyPost_ret (v := .tuple #[.agg #[.int .i64 M, .string (strOf tx)], .int .i64 (pp : Nat), .bool true]) (by simp [results, Try.results72, go_sem, d0, d1]) rfl (HPO.out _ HXp.out.2)
end Go.Proofs.Ythbmfaogjaahoaa

namespace Go.Proofs.Ythbmfaogjaahoaa
open Go Go.RowKit
set_option linter.unusedSimpArgs false
set_option linter.unusedVariables false

/-- What ReadSegment gives: its code, the segment, the index behind it. -/
noncomputable def rsK (zs : List Int) (a : Int) : Int := if isBits zs then (if 0 ≤ a ∧ a ≤ (zs.length : Int) then (if rdB zs a.toNat then 0 else 6) else 2) else 1
noncomputable def rsM (zs : List Int) (a : Int) : Int := if rsK zs a = 0 then rdM zs a.toNat else 0
noncomputable def rsS (zs : List Int) (a : Int) : ByteArray := if rsK zs a = 0 then rdS zs a.toNat else ⟨#[]⟩
noncomputable def rsE (zs : List Int) (a : Int) : Int := if rsK zs a = 0 then rdE zs a.toNat else 0
def RsPost (zs : List Int) (a : Int) (w : World) (x : Ending) (w' : World) : Prop :=
  x = .returned (.tuple #[.agg #[.int .i64 (rsM zs a), .string (rsS zs a)], .int .i64 (rsE zs a), .int .i64 (rsK zs a)]) ∧ Below w.heap.size w w'
theorem rs_post_no {zs : List Int} {a r : Int} (h : rsK zs a = r) (hr : r ≠ 0) {w w' : World} (hb : Below w.heap.size w w') : RsPost zs a w (.returned (.tuple #[.agg #[.int .i64 0, .string ⟨#[]⟩], .int .i64 0, .int .i64 r])) w' := by
  have h0 : ¬ rsK zs a = 0 := by rw [h]; exact hr
  exact ⟨by rw [rsM, rsS, rsE, if_neg h0, if_neg h0, if_neg h0, h], hb⟩
theorem rs_post_yes {zs : List Int} {a : Nat} (hb : isBits zs = true) (ha : a ≤ zs.length) (h : rdB zs a = true) {w w' : World} (hw : Below w.heap.size w w') : RsPost zs a w (.returned (.tuple #[.agg #[.int .i64 (rdM zs a), .string (rdS zs a)], .int .i64 (rdE zs a), .int .i64 0])) w' := by
  have hk : rsK zs (a : Int) = 0 := by rw [rsK, if_pos hb, if_pos (by omega), Int.toNat_natCast, h]; rfl
  exact ⟨by rw [rsM, rsS, rsE, if_pos hk, if_pos hk, if_pos hk, hk, Int.toNat_natCast], hw⟩

end Go.Proofs.Ythbmfaogjaahoaa

namespace Go.Proofs.Ythbmfaogjaahoaa
open Go Go.RowKit
set_option linter.unusedSimpArgs false
set_option linter.unusedVariables false

/-- Whether a text of n characters can be read, and the text. -/
def RtIs (zs : List Int) (m : Int) (n : Nat) : Prop := twid m n ≤ zs.length ∧ rdOk zs 0 m n (gct (gsz m) n)
open Classical in
noncomputable def rtB (zs : List Int) (m : Int) (n : Nat) : Bool := decide (RtIs zs m n)
noncomputable def rtS (zs : List Int) (m : Int) (n : Nat) : ByteArray := if rtB zs m n then strOf (rdT zs 0 m n (gct (gsz m) n)) else ⟨#[]⟩
/-- What is asked of textOf. -/
def TextOf : Prop := ∀ (A : Option Addr) (k c B : Nat) (zs : List Int) (m : Int) (n : Nat) (w : World), 1 ≤ m ∧ m ≤ 4 → 1 ≤ n ∧ n ≤ 255 → Ints .i64 w B A k zs → B ≤ w.heap.size → k ≤ 8192 → k ≤ c → c ≤ 9223372036854775807 → (∀ x ∈ zs, x = 0 ∨ x = 1) →
  Calls Try.prog 114 #[MV m, .slice A k c, .int .i64 n] w fun e w' => e = .returned (.tuple #[.string (rtS zs m n), .bool (rtB zs m n)]) ∧ Below w.heap.size w w'

theorem rt_gv (zs : List Int) (m : Int) (n j : Nat) : gvN (zs.drop 11) 0 m n j = gvN zs 11 m n j := by
  unfold gvN gpN; rw [List.drop_drop, Nat.zero_add]
theorem rt_rdT (zs : List Int) (m : Int) (n : Nat) : ∀ j, rdT (zs.drop 11) 0 m n j = rdT zs 11 m n j := by
  intro j
  induction j with
  | zero => rfl
  | succ j ih => rw [rdT, rdT, ih, rt_gv]
theorem rt_is {zs : List Int} {m : Int} {n : Nat} (hm0 : rdM0 zs 0 = m) (hn0 : rdN0 zs 0 = n) (hm : 1 ≤ m ∧ m ≤ 4) (hn : 1 ≤ n) (hl : 11 ≤ zs.length) : RdIs zs 0 ↔ RtIs (zs.drop 11) m n := by
  unfold RdIs RtIs
  rw [hm0, hn0]
  have hs : slen m n = 11 + twid m n := rfl
  have ho : rdOk (zs.drop 11) 0 m n (gct (gsz m) n) ↔ rdOk zs 11 m n (gct (gsz m) n) := by
    unfold rdOk
    constructor
    · intro h i hi; rw [← rt_gv]; exact h i hi
    · intro h i hi; rw [rt_gv]; exact h i hi
  rw [ho, List.length_drop]
  constructor
  · rintro ⟨_, _, _, _, h5, h6⟩; exact ⟨by omega, h6⟩
  · rintro ⟨h5, h6⟩; exact ⟨by omega, hm.1, hm.2, hn, by omega, h6⟩
/-- The two readings agree. -/
theorem rt_eq {zs : List Int} {m : Int} {n : Nat} (hm0 : rdM0 zs 0 = m) (hn0 : rdN0 zs 0 = n) (hm : 1 ≤ m ∧ m ≤ 4) (hn : 1 ≤ n) (hl : 11 ≤ zs.length) : rtB (zs.drop 11) m n = rdB zs 0 ∧ rtS (zs.drop 11) m n = rdS zs 0 ∧ (rdB zs 0 = true → rdM zs 0 = m) := by
  have h := rt_is hm0 hn0 hm hn hl
  have hb : rtB (zs.drop 11) m n = rdB zs 0 := by
    by_cases hr : RdIs zs 0
    · rw [(rd_yes hr).1]; unfold rtB; exact @decide_eq_true _ (Classical.propDecidable _) (h.1 hr)
    · rw [(rd_no hr).1]; unfold rtB; exact @decide_eq_false _ (Classical.propDecidable _) (fun q => hr (h.2 q))
  refine ⟨hb, ?_, fun e => by unfold rdM; rw [e]; exact hm0⟩
  unfold rtS rdS
  rw [hb, hm0, hn0, rt_rdT]
theorem ints_first {w : World} {B n k b off : Nat} {zs : List Int} (h : Ints .i64 w B (some ⟨b, off, none⟩) n zs) (hk : k ≤ n) : Ints .i64 w B (some ⟨b, off, none⟩) k (zs.take k) := by
  refine ⟨by rw [List.length_take, h.len]; omega, fun hp => ?_⟩
  obtain ⟨b', off', e, hb, hc⟩ := h.2 (by omega)
  refine ⟨b', off', e, hb, fun j x hx => ?_⟩
  have hj : j < k := by have := (List.getElem?_eq_some_iff.1 hx).1; rw [List.length_take] at this; omega
  rw [List.getElem?_take, if_pos hj] at hx
  exact hc j x hx

set_option maxRecDepth 100000 in
set_option maxHeartbeats 2000000 in
theorem implFirstS (hTX : TextOf) (A : Option Addr) (n c B : Nat) (zs : List Int) (w : World) (hI : Ints .i64 w B A n zs) (hB : B ≤ w.heap.size) (hn : n ≤ 8192) (hc : n ≤ c) (hcc : c ≤ 9223372036854775807) (hbt : ∀ x ∈ zs, x = 0 ∨ x = 1) :
    Calls Try.prog 100 #[.slice A n c] w fun e w' => e = .returned (.tuple #[.agg #[.int .i64 (rdM zs 0), .string (rdS zs 0)], .bool (rdB zs 0)]) ∧ Below w.heap.size w w' := by
  have HI := hide hI
  have hl := hide hI.len
  have HBT := hide hbt
  have HX := hide (SBox.start w 107 0 ⟨#[]⟩)
  obtain ⟨c0, c1⟩ := HX.out.cells
  by_cases h11 : n < 11
  · obtain ⟨r1, r2, r3, r4⟩ := rd_no (zs := zs) (a := 0) (fun h => by have := h.1; rw [hl.out] at this; omega)
    rw [r1, r2, r3]
    clear hI hbt r1 r2 r3 r4
    go_enter Try.func100, Try.ntmps100
    go_wp2_with fail
    exact bodyPost_ret (v := .tuple #[.agg #[.int .i64 0, .string ⟨#[]⟩], .bool false]) (by simp [results, Try.results100, go_sem, c0, c1]) rfl ⟨rfl, HX.out.2⟩
  obtain ⟨b, off, rfl, hbb, hcl⟩ := hI.2 (by omega)
  have hc3 : ¬ c = 3 := by omega
  have h3c : (3 : Int) ≤ (c : Int) := by omega
  have h11c : (11 : Int) ≤ (c : Int) := by omega
  have h11n : (11 : Int) ≤ (n : Int) := by omega
  have HXd := hide HX.out.drew
  have HBN := hide (fun x hx => HBT.out x (List.mem_of_mem_take (i := 3) hx))
  obtain ⟨M, hM⟩ : ∃ M, rdM0 zs 0 = M := ⟨_, rfl⟩
  obtain ⟨N, hN⟩ : ∃ N, rdN0 zs 0 = N := ⟨_, rfl⟩
  obtain ⟨u1, u2⟩ := num_nat HBT.out 0 3
  obtain ⟨u3, u4⟩ := num_nat HBT.out 3 8
  have hM' : numVal (zs.take 3) = M := hM
  have hN' : numVal ((zs.drop 3).take 8) = (N : Int) := by rw [u3, ← hN]; rfl
  have hNb : N ≤ 255 := by have h : (numVal ((zs.drop 3).take 8)).toNat = N := hN; rw [h] at u4; omega
  have HC1 := hide (fun wx (hb : Below w.heap.size w wx) => show Calls Try.prog 75 #[.slice (some ⟨b, off, none⟩) 3 c] wx (fun e w' => e = .returned (.int .i64 M) ∧ wx = w') by
    rw [← hM']; exact implNumberOf _ 3 c B (zs.take 3) wx ((ints_first HI.out (by omega)).below (hb.mono hB)) (by omega) HBN.out)
  have HC2 := hide (fun wx (hb : Below w.heap.size w wx) => show Calls Try.prog 75 #[.slice (some ⟨b, off + 3, none⟩) 8 (c - 3)] wx (fun e w' => e = .returned (.int .i64 (N : Nat)) ∧ wx = w') by
    rw [← hN']
    have h := HI.out.sub (lo := 3) (m := 8) hc (by omega)
    rw [subA, if_neg hc3, Option.map_some, addr_add] at h
    exact implNumberOf _ 8 (c - 3) B ((zs.drop 3).take 8) wx (h.below (hb.mono hB)) (by omega) (fun x hx => HBT.out x (List.mem_of_mem_drop (List.mem_of_mem_take hx))))
  have HM := hide hM
  have HN := hide hN
  clear hI hbt hcl hM hN u1 u2 u3 u4 hM' hN'
  by_cases hm : 1 ≤ M ∧ M ≤ 4
  case neg =>
    obtain ⟨r1, r2, r3, r4⟩ := rd_no (zs := zs) (a := 0) (fun h => hm (by rw [← HM.out]; exact ⟨h.2.1, h.2.2.1⟩))
    have HF := hide (fun w' (hb : Below w.heap.size w w') => show (Ending.returned (.tuple #[.agg #[.int .i64 0, .string ⟨#[]⟩], .bool false]) = .returned (.tuple #[.agg #[.int .i64 (rdM zs 0), .string (rdS zs 0)], .bool (rdB zs 0)]) ∧ Below w.heap.size w w') from ⟨by rw [r1, r2, r3], hb⟩)
    have HMO := hide (implModeOf_no M (by omega))
    clear r1 r2 r3 r4
    go_enter Try.func100, Try.ntmps100
    go_wp2_with fail
    refine tail_begin (fun _ => True) 8 (by kernel_rfl) trivial (fun hS' => ?_)
    obtain ⟨wd, hwd⟩ : ∃ wd, (w.alloc (.cells #[.int .i64 0, .string ⟨#[]⟩] 107)).drew = wd := ⟨_, rfl⟩
    rw [hwd] at HXd ⊢
    have HC1 := hide (fun (_ : World) => HC1.out wd HXd.out.2)
    have HC2 := hide (fun (_ : World) => HC2.out wd HXd.out.2)
    clear hwd c0 c1
    refine tail_take2 0 rfl (by kernel_rfl) (by kernel_rfl) (by kernel_rfl) (by decide) (fun _ _ _ h => h) (by rfl) (v := ?_) ?_ (by assumption) ?_
    rotate_left 1
    · intro w' hS'; (try dsimp only at hS'); go_simp; try with_reducible rfl
    try simp only [Act.put, List.setIfInBounds_toArray, List.set_cons_zero, List.set_cons_succ]
    refine tail_take2 1 rfl (by kernel_rfl) (by kernel_rfl) (by kernel_rfl) (by decide) (fun _ _ _ h => h) (by rfl) (v := ?_) ?_ (by assumption) ?_
    rotate_left 1
    · intro w' hS'; (try dsimp only at hS'); go_simp; try with_reducible rfl
    try simp only [Act.put, List.setIfInBounds_toArray, List.set_cons_zero, List.set_cons_succ]
    refine tail_take2 3 rfl (by kernel_rfl) (by kernel_rfl) (by kernel_rfl) (by decide) (fun _ _ _ h => h) (by rfl) (v := ?_) ?_ (by assumption) ?_
    rotate_left 1
    · intro w' hS'; (try dsimp only at hS'); go_simp; try with_reducible rfl
    try simp only [Act.put, List.setIfInBounds_toArray, List.set_cons_zero, List.set_cons_succ]
    refine tail_take2 4 rfl (by kernel_rfl) (by kernel_rfl) (by kernel_rfl) (by decide) (fun _ _ _ h => h) (by rfl) (v := ?_) ?_ (by assumption) ?_
    rotate_left 1
    · intro w' hS'; (try dsimp only at hS'); go_simp; try with_reducible rfl
    try simp only [Act.put, List.setIfInBounds_toArray, List.set_cons_zero, List.set_cons_succ]
    refine tail_call 2 rfl (by kernel_rfl) rfl (fun K hK => ?_)
    go_simp
    go_at_call 75
    refine (HC1.out wd).mono ?_
    rintro e wz ⟨rfl, hwz⟩
    rw [← hwz]
    clear hwz
    refine hK.out _ _ trivial (fun hS' => ?_)
    clear hK K
    try simp only [Act.put, List.setIfInBounds_toArray, List.set_cons_zero, List.set_cons_succ]
    refine tail_call 5 rfl (by kernel_rfl) rfl (fun K hK => ?_)
    go_simp
    go_at_call 75
    refine (HC2.out wd).mono ?_
    rintro e wz ⟨rfl, hwz⟩
    rw [← hwz]
    clear hwz
    refine hK.out _ _ trivial (fun hS' => ?_)
    clear hK K
    try simp only [Act.put, List.setIfInBounds_toArray, List.set_cons_zero, List.set_cons_succ]
    refine tail_take2 6 rfl (by kernel_rfl) (by kernel_rfl) (by kernel_rfl) (by decide) (fun _ _ _ h => h) (by rfl) (v := ?_) ?_ (by assumption) ?_
    rotate_left 1
    · intro w' hS'; (try dsimp only at hS'); go_simp; try with_reducible rfl
    try simp only [Act.put, List.setIfInBounds_toArray, List.set_cons_zero, List.set_cons_succ]
    refine tail_take2 7 rfl (by kernel_rfl) (by kernel_rfl) (by kernel_rfl) (by decide) (fun _ _ _ h => h) (by rfl) (v := ?_) ?_ (by assumption) ?_
    rotate_left 1
    · intro w' hS'; (try dsimp only at hS'); go_simp; try with_reducible rfl
    try simp only [Act.put, List.setIfInBounds_toArray, List.set_cons_zero, List.set_cons_succ]
    refine tail_end (by kernel_rfl) ?_
    obtain ⟨c0, c1⟩ := HXd.out.cells
    have f0 := frozen_of_row wd w.heap.size 0 _ _ HXd.out.1
    have f1 := frozen_of_row wd w.heap.size 1 _ _ HXd.out.1
    have HXp := hide (HXd.out.put 0 ⟨#[]⟩)
    obtain ⟨d0, d1⟩ := HXp.out.cells
    go_wp2_with fail
    refine (HMO.out _).mono ?_
    rintro e wz ⟨rfl, hwz⟩
    rw [hwz]
    clear hwz
    go_wp2_with fail
    exact bodyPost_ret (v := .tuple #[.agg #[.int .i64 0, .string ⟨#[]⟩], .bool false]) (by simp [results, Try.results100, go_sem, d0, d1]) rfl (HF.out _ HXp.out.2)
  have HMO := hide (implModeOf M hm)
  by_cases hN1 : N = 0
  case pos =>
    subst hN1
    obtain ⟨r1, r2, r3, r4⟩ := rd_no (zs := zs) (a := 0) (fun h => by have := h.2.2.2.1; rw [HN.out] at this; omega)
    have HF := hide (fun w' (hb : Below w.heap.size w w') => show (Ending.returned (.tuple #[.agg #[.int .i64 0, .string ⟨#[]⟩], .bool false]) = .returned (.tuple #[.agg #[.int .i64 (rdM zs 0), .string (rdS zs 0)], .bool (rdB zs 0)]) ∧ Below w.heap.size w w') from ⟨by rw [r1, r2, r3], hb⟩)
    clear r1 r2 r3 r4
    go_enter Try.func100, Try.ntmps100
    go_wp2_with fail
    refine tail_begin (fun _ => True) 8 (by kernel_rfl) trivial (fun hS' => ?_)
    obtain ⟨wd, hwd⟩ : ∃ wd, (w.alloc (.cells #[.int .i64 0, .string ⟨#[]⟩] 107)).drew = wd := ⟨_, rfl⟩
    rw [hwd] at HXd ⊢
    have HC1 := hide (fun (_ : World) => HC1.out wd HXd.out.2)
    have HC2 := hide (fun (_ : World) => HC2.out wd HXd.out.2)
    clear hwd c0 c1
    refine tail_take2 0 rfl (by kernel_rfl) (by kernel_rfl) (by kernel_rfl) (by decide) (fun _ _ _ h => h) (by rfl) (v := ?_) ?_ (by assumption) ?_
    rotate_left 1
    · intro w' hS'; (try dsimp only at hS'); go_simp; try with_reducible rfl
    try simp only [Act.put, List.setIfInBounds_toArray, List.set_cons_zero, List.set_cons_succ]
    refine tail_take2 1 rfl (by kernel_rfl) (by kernel_rfl) (by kernel_rfl) (by decide) (fun _ _ _ h => h) (by rfl) (v := ?_) ?_ (by assumption) ?_
    rotate_left 1
    · intro w' hS'; (try dsimp only at hS'); go_simp; try with_reducible rfl
    try simp only [Act.put, List.setIfInBounds_toArray, List.set_cons_zero, List.set_cons_succ]
    refine tail_take2 3 rfl (by kernel_rfl) (by kernel_rfl) (by kernel_rfl) (by decide) (fun _ _ _ h => h) (by rfl) (v := ?_) ?_ (by assumption) ?_
    rotate_left 1
    · intro w' hS'; (try dsimp only at hS'); go_simp; try with_reducible rfl
    try simp only [Act.put, List.setIfInBounds_toArray, List.set_cons_zero, List.set_cons_succ]
    refine tail_take2 4 rfl (by kernel_rfl) (by kernel_rfl) (by kernel_rfl) (by decide) (fun _ _ _ h => h) (by rfl) (v := ?_) ?_ (by assumption) ?_
    rotate_left 1
    · intro w' hS'; (try dsimp only at hS'); go_simp; try with_reducible rfl
    try simp only [Act.put, List.setIfInBounds_toArray, List.set_cons_zero, List.set_cons_succ]
    refine tail_call 2 rfl (by kernel_rfl) rfl (fun K hK => ?_)
    go_simp
    go_at_call 75
    refine (HC1.out wd).mono ?_
    rintro e wz ⟨rfl, hwz⟩
    rw [← hwz]
    clear hwz
    refine hK.out _ _ trivial (fun hS' => ?_)
    clear hK K
    try simp only [Act.put, List.setIfInBounds_toArray, List.set_cons_zero, List.set_cons_succ]
    refine tail_call 5 rfl (by kernel_rfl) rfl (fun K hK => ?_)
    go_simp
    go_at_call 75
    refine (HC2.out wd).mono ?_
    rintro e wz ⟨rfl, hwz⟩
    rw [← hwz]
    clear hwz
    refine hK.out _ _ trivial (fun hS' => ?_)
    clear hK K
    try simp only [Act.put, List.setIfInBounds_toArray, List.set_cons_zero, List.set_cons_succ]
    refine tail_take2 6 rfl (by kernel_rfl) (by kernel_rfl) (by kernel_rfl) (by decide) (fun _ _ _ h => h) (by rfl) (v := ?_) ?_ (by assumption) ?_
    rotate_left 1
    · intro w' hS'; (try dsimp only at hS'); go_simp; try with_reducible rfl
    try simp only [Act.put, List.setIfInBounds_toArray, List.set_cons_zero, List.set_cons_succ]
    refine tail_take2 7 rfl (by kernel_rfl) (by kernel_rfl) (by kernel_rfl) (by decide) (fun _ _ _ h => h) (by rfl) (v := ?_) ?_ (by assumption) ?_
    rotate_left 1
    · intro w' hS'; (try dsimp only at hS'); go_simp; try with_reducible rfl
    try simp only [Act.put, List.setIfInBounds_toArray, List.set_cons_zero, List.set_cons_succ]
    refine tail_end (by kernel_rfl) ?_
    obtain ⟨c0, c1⟩ := HXd.out.cells
    have f0 := frozen_of_row wd w.heap.size 0 _ _ HXd.out.1
    have f1 := frozen_of_row wd w.heap.size 1 _ _ HXd.out.1
    have HXp := hide (HXd.out.put 0 ⟨#[]⟩)
    obtain ⟨d0, d1⟩ := HXp.out.cells
    go_wp2_with fail
    refine (HMO.out _).mono ?_
    rintro e wz ⟨rfl, hwz⟩
    rw [hwz]
    clear hwz
    go_wp2_with fail
    exact bodyPost_ret (v := .tuple #[.agg #[.int .i64 0, .string ⟨#[]⟩], .bool false]) (by simp [results, Try.results100, go_sem, d0, d1]) rfl (HF.out _ HXp.out.2)
  have hN0 : ¬ (N : Int) = 0 := by omega
  have hNe : ((N : Int) == 0) = false := by simpa using hN1
  obtain ⟨r1, r2, r3⟩ := rt_eq HM.out HN.out hm (by omega) (by rw [hl.out]; omega)
  have HIR := hide (show Ints .i64 w B (if c = 11 then some ⟨b, off, none⟩ else some ⟨b, off + 11, none⟩) (n - 11) (zs.drop 11) by
    have h := HI.out.sub (lo := 11) (m := n - 11) hc (by omega)
    rw [List.take_of_length_le (by rw [List.length_drop, hl.out]; omega)] at h
    unfold subA at h
    split at h
    · rename_i e; rw [if_pos e]; exact h
    · rename_i e; rw [if_neg e]; rw [Option.map_some, addr_add] at h; exact h)
  have HTX := hide (fun wx (hb : Below w.heap.size w wx) => hTX (if c = 11 then some ⟨b, off, none⟩ else some ⟨b, off + 11, none⟩) (n - 11) (c - 11) B (zs.drop 11) M N wx hm ⟨by omega, hNb⟩ (HIR.out.below (hb.mono hB)) (Nat.le_trans hB hb.size) (by omega) (by omega) (by omega) (fun x hx => HBT.out x (List.mem_of_mem_drop hx)))
  rw [r1, r2] at HTX
  obtain ⟨S, hS⟩ : ∃ S, rdS zs 0 = S := ⟨_, rfl⟩
  rw [hS] at HTX
  rcases hbb' : rdB zs 0 with _ | _
  · rw [hbb'] at HTX
    obtain ⟨g1, g2, g3⟩ : rdM zs 0 = 0 ∧ rdS zs 0 = ⟨#[]⟩ ∧ True := by
      refine ⟨?_, ?_, trivial⟩
      · unfold rdM; rw [hbb']; rfl
      · unfold rdS; rw [hbb']; rfl
    have HF := hide (fun w' (hb : Below w.heap.size w w') => show (Ending.returned (.tuple #[.agg #[.int .i64 0, .string ⟨#[]⟩], .bool false]) = .returned (.tuple #[.agg #[.int .i64 (rdM zs 0), .string (rdS zs 0)], .bool false]) ∧ Below w.heap.size w w') from ⟨by rw [g1, g2], hb⟩)
    clear r1 r2 r3 hS hbb' g1 g2 g3
    go_enter Try.func100, Try.ntmps100
    go_wp2_with fail
    refine tail_begin (fun _ => True) 8 (by kernel_rfl) trivial (fun hS' => ?_)
    obtain ⟨wd, hwd⟩ : ∃ wd, (w.alloc (.cells #[.int .i64 0, .string ⟨#[]⟩] 107)).drew = wd := ⟨_, rfl⟩
    rw [hwd] at HXd ⊢
    have HC1 := hide (fun (_ : World) => HC1.out wd HXd.out.2)
    have HC2 := hide (fun (_ : World) => HC2.out wd HXd.out.2)
    clear hwd c0 c1
    refine tail_take2 0 rfl (by kernel_rfl) (by kernel_rfl) (by kernel_rfl) (by decide) (fun _ _ _ h => h) (by rfl) (v := ?_) ?_ (by assumption) ?_
    rotate_left 1
    · intro w' hS'; (try dsimp only at hS'); go_simp; try with_reducible rfl
    try simp only [Act.put, List.setIfInBounds_toArray, List.set_cons_zero, List.set_cons_succ]
    refine tail_take2 1 rfl (by kernel_rfl) (by kernel_rfl) (by kernel_rfl) (by decide) (fun _ _ _ h => h) (by rfl) (v := ?_) ?_ (by assumption) ?_
    rotate_left 1
    · intro w' hS'; (try dsimp only at hS'); go_simp; try with_reducible rfl
    try simp only [Act.put, List.setIfInBounds_toArray, List.set_cons_zero, List.set_cons_succ]
    refine tail_take2 3 rfl (by kernel_rfl) (by kernel_rfl) (by kernel_rfl) (by decide) (fun _ _ _ h => h) (by rfl) (v := ?_) ?_ (by assumption) ?_
    rotate_left 1
    · intro w' hS'; (try dsimp only at hS'); go_simp; try with_reducible rfl
    try simp only [Act.put, List.setIfInBounds_toArray, List.set_cons_zero, List.set_cons_succ]
    refine tail_take2 4 rfl (by kernel_rfl) (by kernel_rfl) (by kernel_rfl) (by decide) (fun _ _ _ h => h) (by rfl) (v := ?_) ?_ (by assumption) ?_
    rotate_left 1
    · intro w' hS'; (try dsimp only at hS'); go_simp; try with_reducible rfl
    try simp only [Act.put, List.setIfInBounds_toArray, List.set_cons_zero, List.set_cons_succ]
    refine tail_call 2 rfl (by kernel_rfl) rfl (fun K hK => ?_)
    go_simp
    go_at_call 75
    refine (HC1.out wd).mono ?_
    rintro e wz ⟨rfl, hwz⟩
    rw [← hwz]
    clear hwz
    refine hK.out _ _ trivial (fun hS' => ?_)
    clear hK K
    try simp only [Act.put, List.setIfInBounds_toArray, List.set_cons_zero, List.set_cons_succ]
    refine tail_call 5 rfl (by kernel_rfl) rfl (fun K hK => ?_)
    go_simp
    go_at_call 75
    refine (HC2.out wd).mono ?_
    rintro e wz ⟨rfl, hwz⟩
    rw [← hwz]
    clear hwz
    refine hK.out _ _ trivial (fun hS' => ?_)
    clear hK K
    try simp only [Act.put, List.setIfInBounds_toArray, List.set_cons_zero, List.set_cons_succ]
    refine tail_take2 6 rfl (by kernel_rfl) (by kernel_rfl) (by kernel_rfl) (by decide) (fun _ _ _ h => h) (by rfl) (v := ?_) ?_ (by assumption) ?_
    rotate_left 1
    · intro w' hS'; (try dsimp only at hS'); go_simp; try with_reducible rfl
    try simp only [Act.put, List.setIfInBounds_toArray, List.set_cons_zero, List.set_cons_succ]
    refine tail_take2 7 rfl (by kernel_rfl) (by kernel_rfl) (by kernel_rfl) (by decide) (fun _ _ _ h => h) (by rfl) (v := ?_) ?_ (by assumption) ?_
    rotate_left 1
    · intro w' hS'; (try dsimp only at hS'); go_simp; try with_reducible rfl
    try simp only [Act.put, List.setIfInBounds_toArray, List.set_cons_zero, List.set_cons_succ]
    refine tail_end (by kernel_rfl) ?_
    obtain ⟨c0, c1⟩ := HXd.out.cells
    have f0 := frozen_of_row wd w.heap.size 0 _ _ HXd.out.1
    have f1 := frozen_of_row wd w.heap.size 1 _ _ HXd.out.1
    go_wp2_with fail
    refine (HMO.out _).mono ?_
    rintro e wz ⟨rfl, hwz⟩
    rw [hwz]
    clear hwz
    go_wp2_with fail
    all_goals
      have HT2 := HTX.out wd HXd.out.2
      first
        | rw [if_pos h] at HT2
        | rw [if_neg h] at HT2
      try rw [show c - 11 = 0 by omega] at HT2
      refine HT2.mono ?_
      rintro e w5 ⟨rfl, hb5⟩
      have HX5 := hide (HXd.out.next hb5)
      clear hb5 c0 c1 f0 f1 HT2 HTX
      obtain ⟨c0, c1⟩ := HX5.out.cells
      have f0 := frozen_of_row w5 w.heap.size 0 _ _ HX5.out.1
      have f1 := frozen_of_row w5 w.heap.size 1 _ _ HX5.out.1
      have HXp := hide (HX5.out.put 0 ⟨#[]⟩)
      go_wp2_with fail
      obtain ⟨d0, d1⟩ := HXp.out.cells
      exact bodyPost_ret (v := .tuple #[.agg #[.int .i64 0, .string ⟨#[]⟩], .bool false]) (by simp [results, Try.results100, go_sem, d0, d1]) rfl (HF.out _ HXp.out.2)
  · rw [hbb'] at HTX
    have g1 := r3 hbb'
    have HF := hide (fun w' (hb : Below w.heap.size w w') => show (Ending.returned (.tuple #[.agg #[.int .i64 M, .string S], .bool true]) = .returned (.tuple #[.agg #[.int .i64 (rdM zs 0), .string (rdS zs 0)], .bool true]) ∧ Below w.heap.size w w') from ⟨by rw [g1, hS], hb⟩)
    clear r1 r2 r3 hS hbb' g1
    go_enter Try.func100, Try.ntmps100
    go_wp2_with fail
    refine tail_begin (fun _ => True) 8 (by kernel_rfl) trivial (fun hS' => ?_)
    obtain ⟨wd, hwd⟩ : ∃ wd, (w.alloc (.cells #[.int .i64 0, .string ⟨#[]⟩] 107)).drew = wd := ⟨_, rfl⟩
    rw [hwd] at HXd ⊢
    have HC1 := hide (fun (_ : World) => HC1.out wd HXd.out.2)
    have HC2 := hide (fun (_ : World) => HC2.out wd HXd.out.2)
    clear hwd c0 c1
    refine tail_take2 0 rfl (by kernel_rfl) (by kernel_rfl) (by kernel_rfl) (by decide) (fun _ _ _ h => h) (by rfl) (v := ?_) ?_ (by assumption) ?_
    rotate_left 1
    · intro w' hS'; (try dsimp only at hS'); go_simp; try with_reducible rfl
    try simp only [Act.put, List.setIfInBounds_toArray, List.set_cons_zero, List.set_cons_succ]
    refine tail_take2 1 rfl (by kernel_rfl) (by kernel_rfl) (by kernel_rfl) (by decide) (fun _ _ _ h => h) (by rfl) (v := ?_) ?_ (by assumption) ?_
    rotate_left 1
    · intro w' hS'; (try dsimp only at hS'); go_simp; try with_reducible rfl
    try simp only [Act.put, List.setIfInBounds_toArray, List.set_cons_zero, List.set_cons_succ]
    refine tail_take2 3 rfl (by kernel_rfl) (by kernel_rfl) (by kernel_rfl) (by decide) (fun _ _ _ h => h) (by rfl) (v := ?_) ?_ (by assumption) ?_
    rotate_left 1
    · intro w' hS'; (try dsimp only at hS'); go_simp; try with_reducible rfl
    try simp only [Act.put, List.setIfInBounds_toArray, List.set_cons_zero, List.set_cons_succ]
    refine tail_take2 4 rfl (by kernel_rfl) (by kernel_rfl) (by kernel_rfl) (by decide) (fun _ _ _ h => h) (by rfl) (v := ?_) ?_ (by assumption) ?_
    rotate_left 1
    · intro w' hS'; (try dsimp only at hS'); go_simp; try with_reducible rfl
    try simp only [Act.put, List.setIfInBounds_toArray, List.set_cons_zero, List.set_cons_succ]
    refine tail_call 2 rfl (by kernel_rfl) rfl (fun K hK => ?_)
    go_simp
    go_at_call 75
    refine (HC1.out wd).mono ?_
    rintro e wz ⟨rfl, hwz⟩
    rw [← hwz]
    clear hwz
    refine hK.out _ _ trivial (fun hS' => ?_)
    clear hK K
    try simp only [Act.put, List.setIfInBounds_toArray, List.set_cons_zero, List.set_cons_succ]
    refine tail_call 5 rfl (by kernel_rfl) rfl (fun K hK => ?_)
    go_simp
    go_at_call 75
    refine (HC2.out wd).mono ?_
    rintro e wz ⟨rfl, hwz⟩
    rw [← hwz]
    clear hwz
    refine hK.out _ _ trivial (fun hS' => ?_)
    clear hK K
    try simp only [Act.put, List.setIfInBounds_toArray, List.set_cons_zero, List.set_cons_succ]
    refine tail_take2 6 rfl (by kernel_rfl) (by kernel_rfl) (by kernel_rfl) (by decide) (fun _ _ _ h => h) (by rfl) (v := ?_) ?_ (by assumption) ?_
    rotate_left 1
    · intro w' hS'; (try dsimp only at hS'); go_simp; try with_reducible rfl
    try simp only [Act.put, List.setIfInBounds_toArray, List.set_cons_zero, List.set_cons_succ]
    refine tail_take2 7 rfl (by kernel_rfl) (by kernel_rfl) (by kernel_rfl) (by decide) (fun _ _ _ h => h) (by rfl) (v := ?_) ?_ (by assumption) ?_
    rotate_left 1
    · intro w' hS'; (try dsimp only at hS'); go_simp; try with_reducible rfl
    try simp only [Act.put, List.setIfInBounds_toArray, List.set_cons_zero, List.set_cons_succ]
    refine tail_end (by kernel_rfl) ?_
    obtain ⟨c0, c1⟩ := HXd.out.cells
    have f0 := frozen_of_row wd w.heap.size 0 _ _ HXd.out.1
    have f1 := frozen_of_row wd w.heap.size 1 _ _ HXd.out.1
    go_wp2_with fail
    refine (HMO.out _).mono ?_
    rintro e wz ⟨rfl, hwz⟩
    rw [hwz]
    clear hwz
    go_wp2_with fail
    all_goals
      have HT2 := HTX.out wd HXd.out.2
      first
        | rw [if_pos h] at HT2
        | rw [if_neg h] at HT2
      try rw [show c - 11 = 0 by omega] at HT2
      refine HT2.mono ?_
      rintro e w5 ⟨rfl, hb5⟩
      have HX5 := hide (HXd.out.next hb5)
      clear hb5 c0 c1 f0 f1 HT2 HTX
      obtain ⟨c0, c1⟩ := HX5.out.cells
      have f0 := frozen_of_row w5 w.heap.size 0 _ _ HX5.out.1
      have f1 := frozen_of_row w5 w.heap.size 1 _ _ HX5.out.1
      have HXp := hide (HX5.out.put M S)
      go_wp2_with fail
      obtain ⟨d0, d1⟩ := HXp.out.cells
      exact bodyPost_ret (v := .tuple #[.agg #[.int .i64 M, .string S], .bool true]) (by simp [results, Try.results100, go_sem, d0, d1]) rfl (HF.out _ HXp.out.2)
end Go.Proofs.Ythbmfaogjaahoaa

namespace Go.Proofs.Ythbmfaogjaahoaa
open Go Go.RowKit
set_option linter.unusedSimpArgs false
set_option linter.unusedVariables false

theorem dr_m (zs : List Int) (a : Nat) : rdM0 (zs.drop a) 0 = rdM0 zs a := by unfold rdM0; rw [List.drop_zero]
theorem dr_n (zs : List Int) (a : Nat) : rdN0 (zs.drop a) 0 = rdN0 zs a := by unfold rdN0; rw [List.drop_drop, Nat.zero_add]
theorem dr_gv (zs : List Int) (a : Nat) (m : Int) (n j : Nat) : gvN (zs.drop a) (0 + 11) m n j = gvN zs (a + 11) m n j := by
  unfold gvN gpN; rw [List.drop_drop, Nat.zero_add, Nat.add_assoc]
theorem dr_t (zs : List Int) (a : Nat) (m : Int) (n : Nat) : ∀ j, rdT (zs.drop a) (0 + 11) m n j = rdT zs (a + 11) m n j := by
  intro j
  induction j with
  | zero => rfl
  | succ j ih => rw [rdT, rdT, ih, dr_gv]
theorem dr_is {zs : List Int} {a : Nat} (ha : a ≤ zs.length) : RdIs (zs.drop a) 0 ↔ RdIs zs a := by
  unfold RdIs
  rw [dr_m, dr_n, List.length_drop]
  have ho : rdOk (zs.drop a) (0 + 11) (rdM0 zs a) (rdN0 zs a) (gct (gsz (rdM0 zs a)) (rdN0 zs a)) ↔ rdOk zs (a + 11) (rdM0 zs a) (rdN0 zs a) (gct (gsz (rdM0 zs a)) (rdN0 zs a)) := by
    unfold rdOk
    constructor
    · intro h i hi; rw [← dr_gv]; exact h i hi
    · intro h i hi; rw [dr_gv]; exact h i hi
  rw [ho]
  constructor
  · rintro ⟨h1, h2, h3, h4, h5, h6⟩; exact ⟨by omega, h2, h3, h4, by omega, h6⟩
  · rintro ⟨h1, h2, h3, h4, h5, h6⟩; exact ⟨by omega, h2, h3, h4, by omega, h6⟩
/-- Reading behind some bits is reading at that index. -/
theorem dr_eq {zs : List Int} {a : Nat} (ha : a ≤ zs.length) : rdB (zs.drop a) 0 = rdB zs a ∧ rdM (zs.drop a) 0 = rdM zs a ∧ rdS (zs.drop a) 0 = rdS zs a := by
  by_cases h : RdIs zs a
  · obtain ⟨h1, h2, h3, _⟩ := rd_yes h
    obtain ⟨k1, k2, k3, _⟩ := rd_yes ((dr_is ha).2 h)
    refine ⟨by rw [h1, k1], by rw [h2, k2, dr_m], ?_⟩
    rw [h3, k3, dr_m, dr_n, dr_t]
  · obtain ⟨h1, h2, h3, _⟩ := rd_no h
    obtain ⟨k1, k2, k3, _⟩ := rd_no (fun q => h ((dr_is ha).1 q))
    exact ⟨by rw [h1, k1], by rw [h2, k2], by rw [h3, k3]⟩
/-- The numbers of what was read. -/
theorem rd_nums {zs : List Int} {a : Nat} (hb : ∀ x ∈ zs, x = 0 ∨ x = 1) (h : rdB zs a = true) : (1 ≤ rdM zs a ∧ rdM zs a ≤ 4) ∧ (rdS zs a).size ≤ 255 ∧ rdE zs a = ((a + slen (rdM zs a) (rdS zs a).size : Nat) : Int) ∧ slen (rdM zs a) (rdS zs a).size ≤ 2827 ∧ a + slen (rdM zs a) (rdS zs a).size ≤ zs.length := by
  have hr : RdIs zs a := by
    by_cases q : RdIs zs a
    · exact q
    · rw [(rd_no q).1] at h; cases h
  obtain ⟨h1, h2, h3, h4⟩ := rd_yes hr
  obtain ⟨q1, q2, q3, q4, q5, q6⟩ := hr
  have hg := gsz_pos (rdM0 zs a)
  have hgn : rdN0 zs a ≤ gct (gsz (rdM0 zs a)) (rdN0 zs a) * gsz (rdM0 zs a) := by
    rcases Nat.lt_or_ge (gct (gsz (rdM0 zs a)) (rdN0 zs a) * gsz (rdM0 zs a)) (rdN0 zs a) with h | h
    · have := (gct_lt hg).2 h; omega
    · exact h
  have hs : (rdS zs a).size = rdN0 zs a := by rw [h3, strOf_size, rdT_len _ _ _ _ _ (Nat.le_refl _)]; omega
  have hn : rdN0 zs a ≤ 255 := by
    have := (num_nat hb (a + 3) 8).2
    unfold rdN0; omega
  have ht := twid_le (m := rdM0 zs a) hn
  have hsl : slen (rdM0 zs a) (rdN0 zs a) = 11 + twid (rdM0 zs a) (rdN0 zs a) := rfl
  rw [h2, hs, h4]
  exact ⟨⟨q2, q3⟩, hn, rfl, by omega, q5⟩
end Go.Proofs.Ythbmfaogjaahoaa
