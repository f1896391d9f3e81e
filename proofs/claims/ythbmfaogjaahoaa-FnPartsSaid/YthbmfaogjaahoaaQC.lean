/-
  The length of the best segmentation, on both sides.
  Plain mathematics of the best segmentation: what the whole table says; the segments one by one; nothing is shorter.
  The segments of the best segmentation, on both sides.
  Plain mathematics of a written message: the bits of the best segments, and how many they are.
  BestSegments on both sides; the marks of a slice of segments.
  Condition: as each statement says.
-/
import Derived.Test.YthbmfaogjaahoaaTG
import Derived.Test.YthbmfaogjaahoaaPG
import Derived.Test.YthbmfaogjaahoaaQG
import Derived.Test.YthbmfaogjaahoaaTK
import Derived.Test.YthbmfaogjaahoaaSg5
namespace Go.Proofs.Ythbmfaogjaahoaa
open Go Go.RowKit
set_option linter.unusedSimpArgs false
set_option linter.unusedVariables false

theorem index_first {cs : Array Value} {t : Nat → Cel} (h : TabQ cs 401 t) (w : World) : (Instr.index 148 (.agg cs) (.int .i64 0)).run Try.prog w = .ok (CV (t 0)) w := by
  have hi : (Try.prog.info? 146).map (fun i => i.size) = some 4 := by kernel_rfl
  have hs : (sizeOf 146).run Try.prog w = .ok 4 w := by
    cases hq : Try.prog.info? 146 with
    | none => simp [hq] at hi
    | some i => simp [hq] at hi; simp [sizeOf, typeInfo, hq, hi]
  have hagg : (isAgg 146).run Try.prog w = .ok true w := by
    unfold isAgg
    rw [Sem.run_bind, run_underlying Try.underlying146 w]
    rfl
  obtain ⟨h0, h1, h2, h3⟩ := h.2 0 (by omega)
  have hsz := h.1
  simp [Instr.index, asIntOf, run_underlying Try.underlying148, hs, part, hagg]
  unfold CV
  refine congrArg Value.agg (Array.ext_getElem? fun i => ?_)
  rw [Array.getElem?_extract]
  match i with
  | 0 => simpa [hsz] using h0
  | 1 => simpa [hsz] using h1
  | 2 => simpa [hsz] using h2
  | 3 => simpa [hsz] using h3
  | k + 4 => rw [if_neg (by omega)]; rfl

theorem field_total (a b c d : Int) (w : World) : (Instr.field 146 (.agg #[.int .i64 a, .int .i64 b, .int .i64 c, .int .i64 d]) 0).run Try.prog w = .ok (.agg #[.int .i64 a, .int .i64 b]) w := by kernel_rfl
theorem field_bits (a b : Int) (w : World) : (Instr.field 144 (.agg #[.int .i64 a, .int .i64 b]) 0).run Try.prog w = .ok (.int .i64 a) w := by kernel_rfl
/-- What BestLength gives. -/
def blOf (s : ByteArray) : Int := if s.size ≤ 400 then (((tabN (bytesI s) s.size 0).l : Nat) : Int) else 0
set_option maxRecDepth 100000 in
set_option maxHeartbeats 1000000 in
theorem specBl (s : ByteArray) (hs : s.size ≤ 1099511627776) (w : World) :
    Calls Try.prog 81 #[.string s] w (GivesII (blOf s) (lbCode s) w) := by
  by_cases hn : s.size ≤ 400
  · have H1 := hide (show blOf s = (((tabN (bytesI s) s.size 0).l : Nat) : Int) by rw [blOf, if_pos hn])
    have H2 := hide (show lbCode s = 0 by rw [lbCode, if_pos hn])
    have HC := hide (specTable s hn)
    have hn' : ¬ 400 < s.size := by omega
    go_enter Try.func81, Try.ntmps81
    go_wp2_with fail
    refine (HC.out _).mono ?_
    rintro e w1 ⟨rfl, hr, hb1⟩
    obtain ⟨d0, _⟩ := hr.cells (i := 0) (by omega)
    rw [Nat.zero_mul] at d0
    have HB1 := hide hb1
    clear hb1 hr HC
    go_wp2_with fail
    go_ret2
    exact ⟨ret_ii H1.out H2.out, HB1.out⟩
  · have H1 := hide (show blOf s = 0 by rw [blOf, if_neg hn])
    have H2 := hide (show lbCode s = 3 by rw [lbCode, if_neg hn])
    have hn' : 400 < s.size := by omega
    go_enter Try.func81, Try.ntmps81
    go_wp2_with fail
    go_ret2
    exact ⟨ret_ii H1.out H2.out, Below.refl _ _⟩
end Go.Proofs.Ythbmfaogjaahoaa

namespace Go.Proofs.Ythbmfaogjaahoaa

theorem fsiz_congr {t t' : Nat → Cel} {m i : Nat} (h : ∀ k, i < k → t k = t' k) (a : Cel) : ∀ k, fsiz t m i k a = fsiz t' m i k a := by
  intro k
  induction k with
  | zero => rfl
  | succ k ih => rw [fsiz, fsiz, ih]; unfold cnd; rw [h _ (by omega)]
theorem fmd_congr {t t' : Nat → Cel} {bs : List Int} {i : Nat} (h : ∀ k, i < k → t k = t' k) : ∀ q, fmd t bs i q = fmd t' bs i q := by
  intro q
  induction q with
  | zero => rfl
  | succ q ih => rw [fmd, fmd, ih, fsiz_congr h]
/-- The whole table. -/
def tabT (bs : List Int) : Nat → Cel := tabN bs bs.length
theorem tabN_late (bs : List Int) {i : Nat} : ∀ d j, bs.length ≤ i + j → tabN bs (j + d) i = tabN bs j i := by
  intro d
  induction d with
  | zero => intro j _; rfl
  | succ d ih => intro j h; rw [← Nat.add_assoc, tabN, if_neg (by omega)]; exact ih j h
theorem tabT_eq {bs : List Int} {i : Nat} (h : i < bs.length) : tabT bs i = fmd (tabT bs) bs i 4 := by
  obtain ⟨j, hj⟩ : ∃ j, i + j + 1 = bs.length := ⟨bs.length - i - 1, by omega⟩
  have h1 : tabT bs i = tabN bs (j + 1) i := by
    unfold tabT
    have := tabN_late bs (i := i) (bs.length - (j + 1)) (j + 1) (by omega)
    rw [show j + 1 + (bs.length - (j + 1)) = bs.length by omega] at this
    exact this
  rw [h1, tabN, if_pos hj]
  refine fmd_congr (fun k hk => ?_) 4
  unfold tabT
  by_cases hkn : bs.length ≤ k
  · rw [tabN_zero (.inr hkn), tabN_zero (.inr hkn)]
  · have := tabN_late bs (i := k) (bs.length - j) j (by omega)
    rw [show j + (bs.length - j) = bs.length by omega] at this
    exact this.symm
theorem tabT_end {bs : List Int} {i : Nat} (h : bs.length ≤ i) : tabT bs i = zc := tabN_zero (.inr h)

/-- A cell says what a first segment and the rest give. -/
def CstT (bs : List Int) (t : Nat → Cel) (i : Nat) (a : Cel) : Prop :=
  a.s = 0 ∨ (1 ≤ a.s ∧ a.s ≤ rch (a.m : Int) (bs.drop i) ∧ 1 ≤ a.m ∧ a.m ≤ 4 ∧ a.c = (t (i + a.s)).c + 1 ∧ a.l = slen (a.m : Int) a.s + (t (i + a.s)).l)
theorem cst_put {bs : List Int} {t : Nat → Cel} {i : Nat} {a x : Cel} (ha : CstT bs t i a) (hx : CstT bs t i x) : CstT bs t i (cput a x) := by
  unfold cput
  split
  · exact hx
  · split
    · exact hx
    · exact ha
theorem cst_fsiz {bs : List Int} {t : Nat → Cel} {m i : Nat} (hm : 1 ≤ m) (hm4 : m ≤ 4) {a : Cel} (ha : CstT bs t i a) : ∀ k, k ≤ rch (m : Int) (bs.drop i) → CstT bs t i (fsiz t m i k a) := by
  intro k
  induction k with
  | zero => intro _; exact ha
  | succ k ih => intro h; exact cst_put (ih (by omega)) (.inr ⟨by show 1 ≤ k + 1; omega, h, hm, hm4, rfl, rfl⟩)
theorem cst_fmd {bs : List Int} {t : Nat → Cel} {i : Nat} : ∀ q, q ≤ 4 → CstT bs t i (fmd t bs i q) := by
  intro q
  induction q with
  | zero => intro _; exact .inl rfl
  | succ q ih => intro h; exact cst_fsiz (by omega) h (ih (by omega)) _ (Nat.le_refl _)
theorem cst_tab {bs : List Int} {i : Nat} (h : i < bs.length) : CstT bs (tabT bs) i (tabT bs i) := by rw [tabT_eq h]; exact cst_fmd 4 (Nat.le_refl _)
/-- Something is found where a size is within reach. -/
theorem put_found {a x : Cel} (hx : x.s ≠ 0) : (cput a x).s ≠ 0 := by
  unfold cput
  split
  · exact hx
  · split
    · exact hx
    · assumption
theorem fsiz_found {t : Nat → Cel} {m i : Nat} {a : Cel} {k : Nat} (h : 1 ≤ k ∨ a.s ≠ 0) : (fsiz t m i k a).s ≠ 0 := by
  cases k with
  | zero => rcases h with h | h
            · omega
            · exact h
  | succ k => exact put_found (by show k + 1 ≠ 0; omega)
theorem rch_byte {bs : List Int} {i : Nat} (h : i < bs.length) (hb : ∀ x ∈ bs, 0 ≤ x ∧ x ≤ 255) : 1 ≤ rch 4 (bs.drop i) := by
  have h1 := rch_iff 4 (bs.drop i) 1 (by omega) (by rw [List.length_drop]; omega)
  refine h1.2 fun j x hj hx => ?_
  have := hb x (List.mem_of_mem_drop (List.mem_of_getElem? hx))
  rw [cval_byte this.1 this.2]; exact this.1
theorem tab_found {bs : List Int} {i : Nat} (h : i < bs.length) (hb : ∀ x ∈ bs, 0 ≤ x ∧ x ≤ 255) : (tabT bs i).s ≠ 0 := by
  rw [tabT_eq h, fmd]
  exact fsiz_found (.inl (rch_byte h hb))
/-- What a cell of the table says. -/
theorem tab_says {bs : List Int} {i : Nat} (h : i < bs.length) (hb : ∀ x ∈ bs, 0 ≤ x ∧ x ≤ 255) :
    1 ≤ (tabT bs i).s ∧ (tabT bs i).s ≤ 255 ∧ i + (tabT bs i).s ≤ bs.length ∧ (tabT bs i).s ≤ rch ((tabT bs i).m : Int) (bs.drop i) ∧ 1 ≤ (tabT bs i).m ∧ (tabT bs i).m ≤ 4 ∧ (tabT bs i).c = (tabT bs (i + (tabT bs i).s)).c + 1 ∧ (tabT bs i).l = slen ((tabT bs i).m : Int) (tabT bs i).s + (tabT bs (i + (tabT bs i).s)).l := by
  rcases cst_tab h with h0 | ⟨h1, h2, h3, h4, h5, h6⟩
  · exact absurd h0 (tab_found h hb)
  · have := rch_le ((tabT bs i).m : Int) (bs.drop i)
    rw [List.length_drop] at this
    exact ⟨h1, by omega, by omega, h2, h3, h4, h5, h6⟩

/-- Where the k-th segment begins. -/
def pos (t : Nat → Cel) : Nat → Nat
  | 0 => 0
  | k + 1 => pos t k + (t (pos t k)).s
theorem pos_le {bs : List Int} (hb : ∀ x ∈ bs, 0 ≤ x ∧ x ≤ 255) : ∀ k, pos (tabT bs) k ≤ bs.length ∧ (pos (tabT bs) k < bs.length → (tabT bs (pos (tabT bs) k)).c + k = (tabT bs 0).c) ∧ (k ≤ (tabT bs 0).c → (tabT bs (pos (tabT bs) k)).c + k = (tabT bs 0).c) := by
  intro k
  induction k with
  | zero => exact ⟨Nat.zero_le _, fun _ => rfl, fun _ => rfl⟩
  | succ k ih =>
    obtain ⟨h1, h2, h3⟩ := ih
    rw [pos]
    by_cases hlt : pos (tabT bs) k < bs.length
    · obtain ⟨a1, a2, a3, a4, a5, a6, a7, a8⟩ := tab_says hlt hb
      have h4 := h2 hlt
      exact ⟨a3, fun _ => by omega, fun _ => by omega⟩
    · have hz : tabT bs (pos (tabT bs) k) = zc := tabT_end (by omega)
      rw [hz]
      refine ⟨h1, fun h => ?_, fun h => ?_⟩
      · exact absurd h (by show ¬ pos (tabT bs) k + 0 < bs.length; omega)
      · have h5 := h3 (by omega)
        rw [hz] at h5
        have h6 : zc.c = 0 := rfl
        omega
/-- The k-th segment lies within the message exactly while there are segments left. -/
theorem pos_lt {bs : List Int} (hb : ∀ x ∈ bs, 0 ≤ x ∧ x ≤ 255) {k : Nat} (hk : k ≤ (tabT bs 0).c) : pos (tabT bs) k < bs.length ↔ k < (tabT bs 0).c := by
  obtain ⟨h1, h2, h3⟩ := pos_le hb k
  have h4 := h3 hk
  constructor
  · intro h
    obtain ⟨a1, a2, a3, a4, a5, a6, a7, a8⟩ := tab_says h hb
    omega
  · intro h
    rcases Nat.lt_or_ge (pos (tabT bs) k) bs.length with h5 | h5
    · exact h5
    · have hz : tabT bs (pos (tabT bs) k) = zc := tabT_end h5
      rw [hz] at h4
      have h6 : zc.c = 0 := rfl
      omega
theorem tab_c {bs : List Int} : (tabT bs 0).c ≤ bs.length := by have := (ok_tab bs bs.length 0).1; rw [Nat.sub_zero] at this; exact this

/-- No candidate is shorter than the cell. -/
theorem put_le (a x : Cel) : (cput a x).l ≤ x.l ∧ (a.s ≠ 0 → (cput a x).l ≤ a.l) := by
  unfold cput
  by_cases h0 : a.s = 0
  · rw [if_pos h0]; exact ⟨Nat.le_refl _, fun h => absurd h0 h⟩
  · rw [if_neg h0]
    by_cases hb : btr x a = true
    · rw [if_pos hb]
      refine ⟨Nat.le_refl _, fun _ => ?_⟩
      unfold btr at hb
      split at hb
      · omega
      · simp at hb; omega
    · rw [if_neg hb]
      refine ⟨?_, fun _ => Nat.le_refl _⟩
      unfold btr at hb
      split at hb
      · omega
      · simp at hb; omega
theorem fsiz_le {t : Nat → Cel} {m i : Nat} {a : Cel} : ∀ k, (∀ j, 1 ≤ j → j ≤ k → (fsiz t m i k a).l ≤ (cnd t m i j).l) ∧ (a.s ≠ 0 → (fsiz t m i k a).l ≤ a.l) := by
  intro k
  induction k with
  | zero => exact ⟨fun j h1 h2 => by omega, fun _ => Nat.le_refl _⟩
  | succ k ih =>
    obtain ⟨h1, h2⟩ := ih
    obtain ⟨p1, p2⟩ := put_le (fsiz t m i k a) (cnd t m i (k + 1))
    refine ⟨fun j hj1 hj2 => ?_, fun ha => ?_⟩
    · by_cases e : j = k + 1
      · subst e; exact p1
      · have hf : (fsiz t m i k a).s ≠ 0 := fsiz_found (.inl (by omega))
        exact Nat.le_trans (p2 hf) (h1 j hj1 (by omega))
    · exact Nat.le_trans (p2 (fsiz_found (.inr ha))) (h2 ha)
theorem fmd_le {t : Nat → Cel} {bs : List Int} {i : Nat} : ∀ q m k : Nat, 1 ≤ m → m ≤ q → 1 ≤ k → k ≤ rch (m : Int) (bs.drop i) → (fmd t bs i q).s ≠ 0 ∧ (fmd t bs i q).l ≤ (cnd t m i k).l := by
  intro q
  induction q with
  | zero => intro m k h1 h2; omega
  | succ q ih =>
    intro m k h1 h2 h3 h4
    rw [fmd]
    by_cases e : m = q + 1
    · subst e
      exact ⟨fsiz_found (.inl (by omega)), (fsiz_le _).1 k h3 h4⟩
    · obtain ⟨g1, g2⟩ := ih m k h1 (by omega) h3 h4
      exact ⟨fsiz_found (.inr g1), Nat.le_trans ((fsiz_le _).2 g1) g2⟩
theorem tab_min {bs : List Int} {i m k : Nat} (h1 : 1 ≤ m) (h2 : m ≤ 4) (h3 : 1 ≤ k) (h4 : k ≤ rch (m : Int) (bs.drop i)) : (tabT bs i).l ≤ slen (m : Int) k + (tabT bs (i + k)).l := by
  have hi : i < bs.length := by
    have := (rch_le (m : Int) (bs.drop i)).1
    rw [List.length_drop] at this; omega
  rw [tabT_eq hi]
  exact (fmd_le (t := tabT bs) (bs := bs) (i := i) 4 m k h1 h2 h3 h4).2
end Go.Proofs.Ythbmfaogjaahoaa

namespace Go.Proofs.Ythbmfaogjaahoaa
open Go Go.RowKit
set_option linter.unusedSimpArgs false
set_option linter.unusedVariables false

/-- make([]Segment, 0, c). -/
theorem wpList_mkSeg {P : Program} (hP : P = Try.prog) (w : World) {ops : Array Oper} {rest : List Oper} {o : Oper} {a : Act} {Q : Exit → Act → World → Prop} (hg : o.guard = none) (l c : Operand) (hop : o.op = Op.makeSlice 69 l c)
    (n : Nat) (f : Nat → Value) (hl : a.eval l = .int .i64 0) (hc : a.eval c = .int .i64 (n : Nat)) (hn : n ≤ 1000)
    (hK : ∀ w', OwnS w' w.heap.size (.slice (some ⟨w.heap.size, 0, none⟩) 0 n) 0 f → Below w.heap.size w w' → wpList P ops Q rest (a.put o.dst (.slice (some ⟨w.heap.size, 0, none⟩) 0 n)) w') :
    wpList P ops Q (o :: rest) a w := by
  subst hP
  obtain ⟨i, hi, hz0, hz1, hz2⟩ := info_parts elemS
  refine wpList_make_own w hg l c 69 hop w.heap.size 107 i _ 2 Try.underlying69 hi hz0 hz1 .i64 .i64 _ n hl hc rfl (by rw [hz2]; omega) (by simp only [maxLen]; omega) (Nat.le_refl _) fun w' h1 h2 => ?_
  exact hK w' h1 ((Below.refl w.heap.size w).grown h2 (Nat.le_refl _) (by simp))
theorem apartS {w : World} {b N base n : Nat} {T : TypeId} {t : Nat → Cel} {v : Value} {f : Nat → Value} (h : RowQ w b T N t) (hT : T ≠ 107) (h' : OwnS w base v n f) : some b ≠ v.ownBlock := by
  obtain ⟨cs, hb, _⟩ := h
  rcases h'.2 with ⟨rfl, _⟩ | ⟨g, cap, cur, rfl, _, hg, _⟩
  · simp [Value.ownBlock]
  · intro e
    simp only [Value.ownBlock, Option.some.injEq] at e
    subst e; rw [hb] at hg; cases hg; exact hT rfl
theorem bytes_in (s : ByteArray) : ∀ x ∈ bytesI s, 0 ≤ x ∧ x ≤ 255 := by
  intro x hx
  unfold bytesI at hx
  rw [List.mem_map] at hx
  obtain ⟨b, _, rfl⟩ := hx
  have := b.toNat_lt
  omega
def bsT (s : ByteArray) : Nat → Cel := tabT (bytesI s)
/-- The modes and texts of the best segmentation. -/
def sgM (s : ByteArray) (k : Nat) : Int := ((bsT s (pos (bsT s) k)).m : Nat)
def sgT (s : ByteArray) (k : Nat) : ByteArray := s.extract (pos (bsT s) k) (pos (bsT s) (k + 1))
def sgN (s : ByteArray) : Nat := (bsT s 0).c
theorem sgN_le (s : ByteArray) : sgN s ≤ s.size := by have h : (tabT (bytesI s) 0).c ≤ (bytesI s).length := tab_c; rw [bytesI_len] at h; exact h
theorem pos_ltS (s : ByteArray) {k : Nat} (hk : k ≤ sgN s) : pos (bsT s) k < s.size ↔ k < sgN s := by
  have h := pos_lt (bs := bytesI s) (bytes_in s) hk
  rw [bytesI_len] at h; exact h
theorem saysS (s : ByteArray) {i : Nat} (h : i < s.size) : 1 ≤ (bsT s i).s ∧ (bsT s i).s ≤ 255 ∧ i + (bsT s i).s ≤ s.size ∧ 1 ≤ (bsT s i).m ∧ (bsT s i).m ≤ 4 := by
  obtain ⟨h1, h2, h3, _, h5, h6, _⟩ := tab_says (bs := bytesI s) (i := i) (by rw [bytesI_len]; exact h) (bytes_in s)
  rw [bytesI_len] at h3
  exact ⟨h1, h2, h3, h5, h6⟩
theorem sg_at (s : ByteArray) {k p sz m : Nat} (hp : p = pos (bsT s) k) (hsz : (bsT s p).s = sz) (hm : (bsT s p).m = m) : segV (sgM s) (sgT s) (k * 2) = .int .i64 (m : Nat) ∧ segV (sgM s) (sgT s) (k * 2 + 1) = .string (s.extract p (p + sz)) := by
  obtain ⟨h1, h2⟩ := segV_at (sgM s) (sgT s) k
  rw [h1, h2]
  refine ⟨?_, ?_⟩
  · unfold sgM; rw [← hp, hm]
  · unfold sgT; rw [pos, ← hp, hsz]

/-- What a function leaves that returns a new slice of segments. -/
def BestPost (s : ByteArray) (w : World) (x : Ending) (w' : World) : Prop := NewS (sgN s) (sgM s) (sgT s) w x w'
def SbsRel (w : World) (s : ByteArray) (n1 : Nat) (v i : Value) (wr : World) : Prop :=
  ∃ k p : Nat, k ≤ sgN s ∧ Hid (p = pos (bsT s) k) ∧ p ≤ s.size ∧ i = .int .i64 p ∧ OwnS wr w.heap.size v k (segV (sgM s) (sgT s)) ∧ RowQ wr w.heap.size 139 n1 (bsT s) ∧ Below w.heap.size w wr

theorem ext_ext {s : ByteArray} {p a b N : Nat} (hN : N ≤ s.size) (hb : p + b ≤ N) : (s.extract p N).extract a b = s.extract (p + a) (p + b) := by
  apply ByteArray.ext
  rw [ByteArray.data_extract, ByteArray.data_extract, ByteArray.data_extract, Array.extract_extract]
  congr 1
  omega
def SgsRel (w : World) (s : ByteArray) (bt : Nat) (v i : Value) (wr : World) : Prop :=
  ∃ (k p : Nat) (r : ByteArray), k ≤ sgN s ∧ Hid (p = pos (bsT s) k) ∧ p ≤ s.size ∧ i = .string r ∧ Hid (r = s.extract p s.size) ∧ OwnS wr w.heap.size v k (segV (sgM s) (sgT s)) ∧ RowQ wr bt 148 401 (bsT s) ∧ Below w.heap.size w wr

end Go.Proofs.Ythbmfaogjaahoaa

namespace Go.Proofs.Ythbmfaogjaahoaa
open Go Go.RowKit
set_option linter.unusedSimpArgs false
set_option linter.unusedVariables false

theorem bytesI_ext (s : ByteArray) {a b : Nat} (hb : b ≤ s.size) : bytesI (s.extract a b) = ((bytesI s).drop a).take (b - a) := by
  obtain ⟨d⟩ := s
  have hd : (ByteArray.mk d).size = d.size := rfl
  rw [hd] at hb
  have h : (ByteArray.extract ⟨d⟩ a b).data = d.extract a b := by
    rw [ByteArray.data_extract]
  unfold bytesI
  rw [h, Array.toList_extract, List.extract_eq_take_drop, List.map_take, List.map_drop]

/-- How many bits the groups of a text take. -/
theorem txP_full (m : Int) (bs : List Int) : ∀ j, j ≤ bs.length / gsz m → (txP m bs j).length = j * wid m (gsz m) := by
  intro j
  induction j with
  | zero => intro _; simp [txP_zero]
  | succ j ih =>
    intro h
    have hg := gsz_pos m
    have h1 : (j + 1) * gsz m ≤ bs.length := Nat.le_trans (Nat.mul_le_mul_right _ h) (Nat.div_mul_le_self _ _)
    rw [Nat.add_mul, Nat.one_mul] at h1
    rw [txP_succ, List.length_append, bitsOf_len, ih (by omega), grp_len, Nat.min_eq_left (by omega), Nat.add_mul, Nat.one_mul]
theorem txP_all (m : Int) (bs : List Int) : (txP m bs (gct (gsz m) bs.length)).length = twid m bs.length := by
  have hg := gsz_pos m
  obtain ⟨G, hG⟩ : ∃ G, gsz m = G := ⟨_, rfl⟩
  have hf := txP_full m bs (bs.length / gsz m) (Nat.le_refl _)
  unfold twid
  rw [hG] at hf hg ⊢
  have hdm := Nat.div_add_mod bs.length G
  have hml := Nat.mod_lt bs.length (show 0 < G by omega)
  obtain ⟨q, hq⟩ : ∃ q, bs.length / G = q := ⟨_, rfl⟩
  obtain ⟨r, hr⟩ : ∃ r, bs.length % G = r := ⟨_, rfl⟩
  rw [hq] at hf hdm ⊢
  rw [hr] at hdm hml ⊢
  rw [Nat.mul_comm] at hdm
  by_cases h0 : r = 0
  · subst h0
    have : gct G bs.length = q := by
      refine (gct_end hg ?_ (by omega)).symm
      rcases Nat.lt_or_ge (gct G bs.length) q with h | h
      · have h2 := (gct_lt hg (n := bs.length) (j := gct G bs.length)).2 (by
          have := Nat.mul_le_mul_right G (show gct G bs.length + 1 ≤ q by omega)
          rw [Nat.add_mul] at this; omega)
        omega
      · exact h
    rw [this, hf]; simp [wid]
  · have : gct G bs.length = q + 1 := by
      refine (gct_end hg ?_ (by rw [Nat.add_mul]; omega)).symm
      exact (gct_lt hg).2 (by omega)
    rw [this, txP_succ, List.length_append, hf, bitsOf_len, hG, grp_len, Nat.min_eq_right (by omega), show bs.length - q * G = r by omega]
theorem segBits_len (m : Int) (bs : List Int) : (segBits m bs).length = slen m bs.length := by rw [segBits, List.length_append, headB_len, txP_all, slen]

/-- The bits of the first segments of the best segmentation. -/
def wmP (s : ByteArray) : Nat → List Int
  | 0 => []
  | k + 1 => wmP s k ++ segBits (sgM s k) (bytesI (sgT s k))
theorem sgT_bytes (s : ByteArray) {k : Nat} (hk : k < sgN s) : bytesI (sgT s k) = ((bytesI s).drop (pos (bsT s) k)).take (bsT s (pos (bsT s) k)).s := by
  have h := saysS s ((pos_ltS s (Nat.le_of_lt hk)).2 hk)
  unfold sgT
  rw [bytesI_ext s (by rw [pos]; exact h.2.2.1), pos, Nat.add_sub_cancel_left]
theorem sgT_len (s : ByteArray) {k : Nat} (hk : k < sgN s) : (bytesI (sgT s k)).length = (bsT s (pos (bsT s) k)).s := by
  have h := saysS s ((pos_ltS s (Nat.le_of_lt hk)).2 hk)
  rw [sgT_bytes s hk, List.length_take, List.length_drop, bytesI_len]; omega
/-- Each of them is valid. -/
theorem sg_valid (s : ByteArray) {k : Nat} (hk : k < sgN s) : segB (sgM s k) (bytesI (sgT s k)) = true := by
  have hp := (pos_ltS s (Nat.le_of_lt hk)).2 hk
  obtain ⟨h1, h2, h3, h4, h5, h6, _⟩ := tab_says (bs := bytesI s) (i := pos (bsT s) k) (by rw [bytesI_len]; exact hp) (bytes_in s)
  have hl := sgT_len s hk
  have hl2 : (bytesI (sgT s k)).length = (tabT (bytesI s) (pos (bsT s) k)).s := hl
  have hbt : bsT s = tabT (bytesI s) := rfl
  rw [seg_is (m := sgM s k) (show 1 ≤ (((tabT (bytesI s) (pos (bsT s) k)).m : Nat) : Int) ∧ (((tabT (bytesI s) (pos (bsT s) k)).m : Nat) : Int) ≤ 4 by omega) (by rw [hl2]; omega)]
  unfold allV
  rw [List.all_eq_true]
  intro x hx
  have hx2 := hx
  rw [sgT_bytes s hk] at hx2
  obtain ⟨j, hj⟩ := List.getElem?_of_mem hx2
  have hjl : j < (bsT s (pos (bsT s) k)).s := by
    have := (List.getElem?_eq_some_iff.1 hj).1
    rw [List.length_take] at this; omega
  rw [List.getElem?_take, if_pos hjl] at hj
  have hr := (rch_iff ((tabT (bytesI s) (pos (bsT s) k)).m : Int) ((bytesI s).drop (pos (bsT s) k)) (tabT (bytesI s) (pos (bsT s) k)).s h2 (by rw [List.length_drop]; omega)).1 h4 j x hjl hj
  exact decide_eq_true hr
theorem sgT_size (s : ByteArray) {k : Nat} (hk : k < sgN s) : 1 ≤ (sgT s k).size ∧ (sgT s k).size ≤ 255 := by
  have h := (seg_ok (sg_valid s hk)).2.1
  rw [bytesI_len] at h; exact h
/-- How many bits are still to come. -/
theorem wmP_len (s : ByteArray) : ∀ k, k ≤ sgN s → (wmP s k).length + (bsT s (pos (bsT s) k)).l = (bsT s 0).l := by
  intro k
  induction k with
  | zero => intro _; simp [wmP, pos]
  | succ k ih =>
    intro hk
    have h1 := ih (by omega)
    have hp := (pos_ltS s (k := k) (by omega)).2 (by omega)
    obtain ⟨_, _, _, _, _, _, _, h8⟩ := tab_says (bs := bytesI s) (i := pos (bsT s) k) (by rw [bytesI_len]; exact hp) (bytes_in s)
    have h9 : (bsT s (pos (bsT s) k)).l = slen (sgM s k) (bsT s (pos (bsT s) k)).s + (bsT s (pos (bsT s) k + (bsT s (pos (bsT s) k)).s)).l := h8
    rw [wmP, List.length_append, segBits_len, sgT_len s (by omega), pos]
    omega
theorem wmP_all (s : ByteArray) : (wmP s (sgN s)).length = (bsT s 0).l := by
  have h := wmP_len s (sgN s) (Nat.le_refl _)
  have h1 : s.size ≤ pos (bsT s) (sgN s) := by
    rcases Nat.lt_or_ge (pos (bsT s) (sgN s)) s.size with h | h
    · exact absurd ((pos_ltS s (Nat.le_refl _)).1 h) (by omega)
    · exact h
  have h2 : bsT s (pos (bsT s) (sgN s)) = zc := tabT_end (by rw [bytesI_len]; exact h1)
  rw [h2] at h
  have h3 : zc.l = 0 := rfl
  omega
/-- The numbers of the whole table are small. -/
theorem bsT_l (s : ByteArray) (hs : s.size ≤ 400) : (bsT s 0).l ≤ 1130800 := by
  have h := (ok_tab (bytesI s) (bytesI s).length 0).2.1
  rw [bytesI_len] at h
  have h2 : (bsT s 0).l ≤ 2827 * (s.size - 0) := by unfold bsT tabT; rw [bytesI_len]; exact h
  omega

/-- What WriteMessage gives. -/
def wmCode (zs : List Int) (s : ByteArray) : Int := if isBits zs then (if s.size ≤ 400 then (if zs.length + (bsT s 0).l ≤ 8192 then 0 else 3) else 3) else 1
def wmOf (zs : List Int) (s : ByteArray) : List Int := if wmCode zs s = 0 then zs ++ wmP s (sgN s) else []
theorem wm_bad {zs : List Int} (h : isBits zs = false) (s : ByteArray) : wmCode zs s = 1 ∧ wmOf zs s = [] := by
  have : wmCode zs s = 1 := by simp [wmCode, h]
  exact ⟨this, by rw [wmOf, this]; rfl⟩
theorem wm_big {zs : List Int} (h : isBits zs = true) {s : ByteArray} (hs : ¬ s.size ≤ 400) : wmCode zs s = 3 ∧ wmOf zs s = [] := by
  have : wmCode zs s = 3 := by simp [wmCode, h, hs]
  exact ⟨this, by rw [wmOf, this]; rfl⟩
theorem wm_long {zs : List Int} (h : isBits zs = true) {s : ByteArray} (hs : s.size ≤ 400) (hl : 8192 < zs.length + (bsT s 0).l) : wmCode zs s = 3 ∧ wmOf zs s = [] := by
  have : wmCode zs s = 3 := by rw [wmCode, if_pos h, if_pos hs, if_neg (by omega)]
  exact ⟨this, by rw [wmOf, this]; rfl⟩
theorem wm_ok {zs : List Int} (h : isBits zs = true) {s : ByteArray} (hs : s.size ≤ 400) (hl : zs.length + (bsT s 0).l ≤ 8192) : wmCode zs s = 0 ∧ wmOf zs s = zs ++ wmP s (sgN s) := by
  have : wmCode zs s = 0 := by rw [wmCode, if_pos h, if_pos hs, if_pos hl]
  exact ⟨this, by rw [wmOf, if_pos this]⟩
theorem wmOf_len (zs : List Int) (s : ByteArray) : (wmOf zs s).length ≤ 1099511627776 := by
  rcases hb : isBits zs with _ | _
  · rw [(wm_bad hb s).2]; simp
  · by_cases hs : s.size ≤ 400
    · by_cases hl : zs.length + (bsT s 0).l ≤ 8192
      · rw [(wm_ok hb hs hl).2, List.length_append, wmP_all]; omega
      · rw [(wm_long hb hs (by omega)).2]; simp
    · rw [(wm_big hb hs).2]; simp
end Go.Proofs.Ythbmfaogjaahoaa

namespace Go.Proofs.Ythbmfaogjaahoaa
open Go Go.RowKit
set_option linter.unusedSimpArgs false
set_option linter.unusedVariables false

def bsN (s : ByteArray) : Nat := if s.size ≤ 400 then sgN s else 0
theorem bsN_le (s : ByteArray) : bsN s ≤ 400 := by
  unfold bsN
  split
  · have := sgN_le s; omega
  · omega

/-- A table that a call was given by value lies in a block of its own. -/
theorem row_of {w w0 : World} {cs Z : Array Value} {b : Nat} {t : Nat → Cel} (hZ : w.heap[b]? = some (.cells Z 148 (0, 0))) (ht : TabQ cs 401 t) : RowQ (w.setRow b cs) b 148 401 t := ⟨cs, setRow_heap _ _ _ _ _ _ hZ, ht⟩
theorem below_row {w wx : World} {b : Nat} (h : Below w.heap.size w wx) (hb : w.heap.size ≤ b) (cs : Array Value) : Below w.heap.size w (wx.setRow b cs) :=
  ⟨h.os, h.tape, h.output, by simp; exact h.size, fun i hi => (setRow_other wx b i cs (by omega)).trans (h.block i hi)⟩

end Go.Proofs.Ythbmfaogjaahoaa
